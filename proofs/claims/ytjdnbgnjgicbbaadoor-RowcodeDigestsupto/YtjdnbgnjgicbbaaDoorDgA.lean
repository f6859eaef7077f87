/-
  The walks of lockstepref02.Row, and of the digest of the reference.
-/
import Derived.Test.YtjdnbgnjgicbbaaDoorVaE
namespace Go.Proofs.YtjdnbgnjgicbbaaDoor
open Go.RowKit Go.Shelf

/-- an append of bytes of one's own onto one's own -/
theorem app_o {ops : Array Oper} {rest : List Oper} {o : Oper} {a : Act} {w : World} {Q : Exit → Act → World → Prop} (hgd : o.guard = none) (s x : Operand)
    (ho : o.op = .call { callee := .builtin .append, args := #[s, x], argTypes := #[24, 24] })
    (base b2 : Nat) (v vx : Value) (l news : List UInt8) (hs : a.eval s = v) (hown : ownsB w base v l) (hx : a.eval x = vx) (hnews : ownsB w b2 vx news) (hne : news ≠ []) (hl : l.length + news.length ≤ 20000000000) (hb : base ≤ w.heap.size)
    (h : ∀ v' w', ownsB w' base v' (l ++ news) → Below base w w' → wpList Tryd.prog ops Q rest (a.put o.dst v') w') :
    wpList Tryd.prog ops Q (o :: rest) a w := by
  obtain ⟨i0, hi, hz0, hz1, hz2⟩ := info_parts u8Info
  obtain ⟨g, cap, hv, hgl, hcs⟩ := hnews.form hne
  refine wpList_append_own _ hgd s x 24 ho base 5 i0 (.int .u8 0) 1 1 u8Slice hi hz0 hz1 hz2 rfl (by decide) v l.length (by8 l) hs hown ⟨g, 0, none⟩ news.length cap (by8 news) (hx.trans hv) (by rw [by8_len]; omega) ?_ (by8_one _) (by unfold maxLen; omega) (by omega) hb ?_
  · intro j u hj
    have hj' := (List.getElem?_eq_some_iff.1 hj).1
    rw [by8_len] at hj'
    have ea : (⟨g, 0, none⟩ : Addr).add j = ⟨g, j, none⟩ := by simp [Addr.add]; intro h; exact h.symm
    rw [ea, hcs j news[j] (List.getElem?_eq_getElem hj'), ← hj, by8_get (List.getElem?_eq_getElem hj')]
  · intro v' w' h1 h2 _
    refine h v' w' ?_ (below_own h2 hb (own_ge hown))
    show w'.ownsRow _ _ _ _ _ _
    rw [by8_app, List.length_append]; exact h1
theorem valB_ne {x : Va} : valB x ≠ [] := by
  unfold valB
  split
  · intro h; have := wordsB_len (numN x / 18446744073709551616) (numN x % 18446744073709551616) x.ty.toNat; rw [h] at this; cases this
  · split
    · unfold textB; simp
    · split <;> simp

set_option maxHeartbeats 4000000 in
set_option maxRecDepth 1000000 in
theorem refRow_any (p : Option Addr) (c : Nat) (la : List Va) (w : World) (hp : rowIn w p la) (fa : ∀ v ∈ la, fit v.n) (hlen : la.length ≤ 9223372036854775807) :
    Calls Tryd.prog 32 #[.slice p la.length c] w fun e w' => ∃ v', e = .returned (.tuple #[v', .int .i64 (rowE la)]) ∧ Below w.heap.size w w' ∧ (rowE la = 0 → ownsB w' w.heap.size v' (rowB la)) ∧ (¬ rowE la = 0 → v' = .slice none 0 0) := by
  by_cases h16 : 16 < la.length
  · have e : rowE la = 2 := if_pos h16
    rw [e]
    have h16i : (16 : Int) < (la.length : Int) := by omega
    go_enter Tryd.func32, Tryd.ntmps32
    go_wp2_with fail
    refine bodyPost_ret (v := .tuple #[.slice none 0 0, .int .i64 2]) (by simp [results, Tryd.results32, go_sem]) rfl ⟨_, rfl, Below.refl _ _, fun h => by omega, fun _ => rfl⟩
  · have e : rowE la = errs la := if_neg h16
    rw [e]
    obtain ⟨E, hE⟩ : ∃ E, E = errs la := ⟨_, rfl⟩
    rw [← hE]
    have HE : Hid (E = errs la) := hE
    clear hE e
    have h16i : (la.length : Int) ≤ 16 := by omega
    go_enter Tryd.func32, Tryd.ntmps32
    go_wp2_with fail
    go_loopw [4, 5] (fun sb si wr => ∃ k : Nat, si = .int .i64 k ∧ k ≤ la.length ∧ Hid (E = errs (la.drop k)) ∧ Hid (∀ v ∈ la.take k, v.chk = 0) ∧ ownsB wr w.heap.size sb (rowsB (la.take k)) ∧ Below w.heap.size w wr) (fun _ si _ => la.length - (intOf si).toNat)
    case atStart => exact ⟨0, rfl, Nat.zero_le _, HE, fun v hv => by simp at hv, by exact ownsB_nil _ _, Below.refl _ _⟩
    case round =>
      obtain ⟨k, rfl, hk, hd, hck, ho, hbr⟩ := hrel
      clear HE
      have hll : (rowsB (la.take k)).length ≤ 900000 := by
        have h1 := rowsB_len _ hck.out
        have h2 : (la.take k).length ≤ 16 := by rw [List.length_take]; omega
        omega
      by_cases hlt : k < la.length
      · obtain ⟨x, hxk⟩ : ∃ x, la[k]? = some x := ⟨la[k], List.getElem?_eq_getElem hlt⟩
        have hfx := fa x (List.mem_of_getElem? hxk)
        rcases hp with rfl | ⟨g, off, rfl, hgw, hcs⟩
        · simp at hxk
        obtain ⟨c1, c2, c3⟩ := hcs k x hxk
        have d1 := (hbr.cell (p := ⟨g, off + k * 3, none⟩) hgw).trans c1
        have d2 := (hbr.cell (p := ⟨g, off + k * 3 + 1, none⟩) hgw).trans c2
        have d3 := (hbr.cell (p := ⟨g, off + k * 3 + 2, none⟩) hgw).trans c3
        clear c1 c2 c3 hcs
        rw [drop_at hxk] at hd
        by_cases h0 : x.chk = 0
        · have hd2 : Hid (E = errs (la.drop (k + 1))) := hd.out.trans (errs_pass h0)
          have VV : Hid (∀ w, Calls Tryd.prog 7 #[.agg #[.int .i64 x.ty, .int .i64 x.n, .string x.s]] w fun e w' => ∃ v', e = .returned (.tuple #[v', .int .i64 0]) ∧ Below w.heap.size w w' ∧ ownsB w' w.heap.size v' (valB x)) := fun w => refValue_any x w hfx h0
          have hvl := valB_len h0
          have hck2 : Hid (∀ v ∈ la.take (k + 1), v.chk = 0) := fun v hv => by
            rw [List.take_add_one, hxk] at hv
            simp only [Option.toList_some, List.mem_append, List.mem_cons, List.not_mem_nil, or_false] at hv
            rcases hv with hv | rfl
            · exact hck.out v hv
            · exact h0
          have hnx : Hid (rowsB (la.take (k + 1)) = rowsB (la.take k) ++ valB x) := rowsB_next hxk
          clear hd hck h0 hfx hxk fa
          go_wp2_with fail
          refine (VV.out _).mono ?_
          rintro e w1 ⟨v1, rfl, hb1, ho1⟩
          have o1 := ho.below hb1
          have b1 := hbr.trans (hb1.mono hbr.size)
          clear hb1 VV d1 d2 d3
          go_wp2_with (at_builtin; refine app_o rfl (.tmp 28) (.tmp 29) rfl w.heap.size wr.heap.size _ v1 (rowsB (la.take k)) (valB x) rfl o1 rfl ho1 valB_ne (by omega) b1.size ?_; intro v2 w2 ho2 hb2)
          go_roundw
          case rel => exact ⟨k + 1, by go_num, hlt, hd2, hck2, by rw [hnx.out]; exact ho2, b1.trans hb2⟩
          case measure => simp [intOf]; omega
        · have hd2 : E = x.chk := hd.out.trans (errs_stop h0)
          have h1 : (x.chk != 0) = true := by rw [bne_iff_ne]; exact h0
          have VV : Hid (∀ w, Calls Tryd.prog 7 #[.agg #[.int .i64 x.ty, .int .i64 x.n, .string x.s]] w fun e w' => e = .returned (.tuple #[.slice none 0 0, .int .i64 x.chk]) ∧ Below w.heap.size w w') := fun w => refValue_bad x w h0
          subst hd2
          clear hd hck hfx hxk fa
          go_wp2_with fail
          refine (VV.out _).mono ?_
          rintro e w1 ⟨rfl, hb1⟩
          have b1 := hbr.trans (hb1.mono hbr.size)
          clear hb1 VV
          go_wp2_with fail
          refine bodyPost_ret (v := .tuple #[.slice none 0 0, .int .i64 x.chk]) (by simp [results, Tryd.results32, go_sem]) rfl ⟨_, rfl, b1, fun h => absurd h h0, fun _ => rfl⟩
      · have hE : E = 0 := by have := hd.out; rw [List.drop_eq_nil_of_le (by omega)] at this; exact this
        subst hE
        have ht : la.take k = la := List.take_of_length_le (by omega)
        rw [ht] at ho hll
        have hs := hbr.size
        clear hd hck fa hp ht
        go_wp2_with (at_builtin; refine app_b rfl (.tmp 31) (.tmp 32) rfl w.heap.size _ (rowsB la) [0] _ rfl ho rfl rfl (by simp only [List.length_cons, List.length_nil]; omega) hs ?_; intro v3 w3 ho3 hb3 hs3)
        refine bodyPost_ret (v := .tuple #[v3, .int .i64 0]) (by simp [results, Tryd.results32, go_sem]) rfl ⟨_, rfl, hbr.trans hb3, ho3⟩

/-- a digest of the reference: its block -/
def digR (w : World) (D : Nat) (S R : Int) : Prop := w.heap[D]? = some (.cells #[.int .u64 S, .int .i64 R] 42 (0, 0))
theorem digR.lt {w : World} {D : Nat} {S R : Int} (h : digR w D S R) : D < w.heap.size := by
  rcases Nat.lt_or_ge D w.heap.size with g | g
  · exact g
  · unfold digR at h; rw [Array.getElem?_eq_none g] at h; cases h
theorem digR.c0 {w : World} {D : Nat} {S R : Int} (h : digR w D S R) : w.cell? ⟨D, 0, none⟩ = some (.int .u64 S) := by unfold digR at h; simp [World.cell?, h]
theorem digR.c1 {w : World} {D : Nat} {S R : Int} (h : digR w D S R) : w.cell? ⟨D, 1, none⟩ = some (.int .i64 R) := by unfold digR at h; simp [World.cell?, h]
theorem digR.f0 {w : World} {D : Nat} {S R : Int} (h : digR w D S R) : w.frozen? ⟨D, 0, none⟩ = false := by unfold digR at h; simp [World.frozen?, h]
theorem digR.f1 {w : World} {D : Nat} {S R : Int} (h : digR w D S R) : w.frozen? ⟨D, 1, none⟩ = false := by unfold digR at h; simp [World.frozen?, h]
theorem digR.below {w w' : World} {D : Nat} {S R : Int} (h : digR w D S R) (hb : Below w.heap.size w w') : digR w' D S R := (hb.block D h.lt).trans h
theorem digR.set0 {w : World} {D : Nat} {S R S' : Int} (h : digR w D S R) : digR (w.setCell ⟨D, 0, none⟩ (.int .u64 S')) D S' R := by
  have hlt := h.lt
  unfold digR at h
  have h' : w.heap[D] = .cells #[.int .u64 S, .int .i64 R] 42 (0, 0) := by simpa [Array.getElem?_eq_getElem hlt] using h
  show (w.heap.modify D _)[D]? = _
  rw [Array.getElem?_eq_getElem (by simpa using hlt), Array.getElem_modify_self, h']
  rfl
theorem digR.set1 {w : World} {D : Nat} {S R R' : Int} (h : digR w D S R) : digR (w.setCell ⟨D, 1, none⟩ (.int .i64 R')) D S R' := by
  have hlt := h.lt
  unfold digR at h
  have h' : w.heap[D] = .cells #[.int .u64 S, .int .i64 R] 42 (0, 0) := by simpa [Array.getElem?_eq_getElem hlt] using h
  show (w.heap.modify D _)[D]? = _
  rw [Array.getElem?_eq_getElem (by simpa using hlt), Array.getElem_modify_self, h']
  rfl

set_option maxHeartbeats 2000000 in
set_option maxRecDepth 1000000 in
theorem Take_bad (D : Nat) (p : Option Addr) (c : Nat) (la : List Va) (b : Bool) (w : World) (E : Int) (hE : (E != 0) = true)
    (RO : Hid (Calls Tryd.prog 32 #[.slice p la.length c] w fun e w' => ∃ v', e = .returned (.tuple #[v', .int .i64 E]) ∧ Below w.heap.size w w')) :
    Calls Tryd.prog 20 #[.pointer (some ⟨D, 0, none⟩), .slice p la.length c, .bool b] w fun e w' => e = .returned (.int .i64 E) ∧ Below w.heap.size w w' := by
  go_enter Tryd.func20, Tryd.ntmps20
  go_wp2_with fail
  refine RO.out.mono ?_
  rintro e w1 ⟨v1, rfl, hb1⟩
  go_wp2_with fail
  go_ret
  exact ⟨rfl, hb1⟩

set_option maxHeartbeats 4000000 in
set_option maxRecDepth 1000000 in
theorem Take_in (D : Nat) (S R : Int) (H : Nat) (l : List UInt8) (p : Option Addr) (c : Nat) (la : List Va) (w : World) (hR : -9223372036854775808 ≤ R ∧ R ≤ 9223372036854775806)
    (RO : Hid (Calls Tryd.prog 32 #[.slice p la.length c] w fun e w' => ∃ v', e = .returned (.tuple #[v', .int .i64 0]) ∧ Below w.heap.size w w' ∧ ownsB w' w.heap.size v' l))
    (HA : Hid (∀ base v w, ownsB w base v l → Calls Tryd.prog 13 #[v] w fun e w' => e = .returned (.int .u64 (H : Int)) ∧ w' = w)) (hD : digR w D S R) :
    Calls Tryd.prog 20 #[.pointer (some ⟨D, 0, none⟩), .slice p la.length c, .bool true] w fun e w' => e = .returned (.int .i64 0) ∧ But D w w' ∧ digR w' D ((S + H) % 18446744073709551616) (R + 1) := by
  go_enter Tryd.func20, Tryd.ntmps20
  go_wp2_with fail
  refine RO.out.mono ?_
  rintro e w1 ⟨v1, rfl, hb1, ho1⟩
  have d1 := hD.below hb1
  have c0 := d1.c0
  have c1 := d1.c1
  have f0 := d1.f0
  have f1 := d1.f1
  go_wp2_with fail
  go_region_with ((go_at_call 13; refine (HA.out w.heap.size v1 _ (ho1.below (below_drewN (Below.refl _ _) 1))).mono ?_; rintro e w2 ⟨rfl, rfl⟩))
  all_goals
    go_wp2_with fail
    go_ret
    have bd : Below w.heap.size w (w1.drewN 1) := below_drewN hb1 1
    refine ⟨rfl, ((But.of (D := D) bd).set (p := ⟨D, 0, none⟩) rfl _).set (p := ⟨D, 1, none⟩) rfl _, ?_⟩
    have dd := ((hD.below bd).set0 (S' := IntKind.u64.wrap (S + H))).set1 (R' := R + 1)
    have e : IntKind.u64.wrap (S + H) = (S + H) % 18446744073709551616 := IntKind.wrap_u64 _
    rw [e] at dd
    have hwr : IntKind.i64.wrap (R + 1) = R + 1 := by rw [IntKind.wrap_i64]; omega
    rw [e, hwr]; exact dd

set_option maxHeartbeats 4000000 in
set_option maxRecDepth 1000000 in
theorem Take_out (D : Nat) (S R : Int) (H : Nat) (l : List UInt8) (p : Option Addr) (c : Nat) (la : List Va) (w : World) (hR : -9223372036854775807 ≤ R ∧ R ≤ 9223372036854775807)
    (RO : Hid (Calls Tryd.prog 32 #[.slice p la.length c] w fun e w' => ∃ v', e = .returned (.tuple #[v', .int .i64 0]) ∧ Below w.heap.size w w' ∧ ownsB w' w.heap.size v' l))
    (HA : Hid (∀ base v w, ownsB w base v l → Calls Tryd.prog 13 #[v] w fun e w' => e = .returned (.int .u64 (H : Int)) ∧ w' = w)) (hD : digR w D S R) :
    Calls Tryd.prog 20 #[.pointer (some ⟨D, 0, none⟩), .slice p la.length c, .bool false] w fun e w' => e = .returned (.int .i64 0) ∧ But D w w' ∧ digR w' D ((S - H) % 18446744073709551616) (R - 1) := by
  go_enter Tryd.func20, Tryd.ntmps20
  go_wp2_with fail
  refine RO.out.mono ?_
  rintro e w1 ⟨v1, rfl, hb1, ho1⟩
  have d1 := hD.below hb1
  have c0 := d1.c0
  have c1 := d1.c1
  have f0 := d1.f0
  have f1 := d1.f1
  go_wp2_with fail
  go_region_with ((go_at_call 13; refine (HA.out w.heap.size v1 _ (ho1.below (below_drewN (Below.refl _ _) 1))).mono ?_; rintro e w2 ⟨rfl, rfl⟩))
  all_goals
    go_wp2_with fail
    go_ret
    have bd : Below w.heap.size w (w1.drewN 1) := below_drewN hb1 1
    refine ⟨rfl, ((But.of (D := D) bd).set (p := ⟨D, 0, none⟩) rfl _).set (p := ⟨D, 1, none⟩) rfl _, ?_⟩
    have dd := ((hD.below bd).set0 (S' := IntKind.u64.wrap (S - H))).set1 (R' := R - 1)
    have e : IntKind.u64.wrap (S - H) = (S - H) % 18446744073709551616 := IntKind.wrap_u64 _
    rw [e] at dd
    have hwr : IntKind.i64.wrap (R - 1) = R - 1 := by rw [IntKind.wrap_i64]; omega
    rw [e, hwr]; exact dd
end Go.Proofs.YtjdnbgnjgicbbaaDoor
