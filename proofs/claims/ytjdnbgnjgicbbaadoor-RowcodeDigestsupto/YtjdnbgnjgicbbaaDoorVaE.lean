/-
  The walks of locksteplaw02.told, lockstepref02.Hash, lockstepref02.Value, and rowcode.Value of what can't be.
-/
import Derived.Test.YtjdnbgnjgicbbaaDoorRdD
import Derived.Test.YtjdnbgnjgicbbaaDoorBkG
import Derived.Maps.Range
namespace Go.Proofs.YtjdnbgnjgicbbaaDoor
open Go.RowKit Go.Shelf


set_option maxHeartbeats 2000000 in
set_option maxRecDepth 1000000 in
theorem refHash_by (F : List UInt8 → Nat) (G : Nat → UInt8 → Nat) (F0 : Hid (F [] = 14695981039346656037)) (FL : Hid (∀ l, F l < 18446744073709551616))
    (FN : Hid (∀ (l : List UInt8) (k : Nat) (x : UInt8), l[k]? = some x → F (l.take (k + 1)) = G (F (l.take k)) x))
    (GM : Hid (∀ h x, IntKind.u64.wrap (((h ^^^ x.toNat : Nat) : Int) * 1099511628211) = ((G h x : Nat) : Int)))
    (p : Option Addr) (c : Nat) (l : List UInt8) (w : World) (h : byIn w p l) (hl : l.length ≤ 10000000) :
    Calls Tryd.prog 13 #[.slice p l.length c] w fun e w' => e = .returned (.int .u64 (F l : Int)) ∧ w' = w := by
  obtain ⟨N, hN⟩ : ∃ N, N = F l := ⟨_, rfl⟩
  rw [← hN]
  have HN : Hid (N = F l) := hN
  have HP : Hid (byIn w p l) := h
  clear hN h
  go_enter Tryd.func13, Tryd.ntmps13
  go_wp2_with fail
  go_loop [3, 4] (fun sh sk => ∃ (k H : Nat), sk = .int .i64 k ∧ k ≤ l.length ∧ sh = .int .u64 (H : Int) ∧ Hid (H = F (l.take k))) (fun _ sk => l.length - (intOf sk).toNat)
  case atStart => exact ⟨0, 14695981039346656037, rfl, Nat.zero_le _, rfl, F0.out.symm⟩
  case round =>
    obtain ⟨k, H, rfl, hk, rfl, hH⟩ := hrel
    have hHl : H < 18446744073709551616 := by rw [hH.out]; exact FL.out _
    by_cases hlt : k < l.length
    · obtain ⟨x, hx⟩ : ∃ x, l[k]? = some x := ⟨l[k], List.getElem?_eq_getElem hlt⟩
      rcases HP.out with rfl | ⟨g, off, rfl, hg, hcs⟩
      · simp at hx
      have hc := hcs k x hx
      have h1 := hash_xor H x hHl
      have h2 := GM.out H x
      have h3 : IntKind.u64.wrap (x.toNat : Int) = (x.toNat : Int) := by have := x.toNat_lt; rw [IntKind.wrap_u64]; omega
      have hn : Hid (G H x = F (l.take (k + 1))) := by
        have e := FN.out l k x hx
        rw [← hH.out] at e; exact e.symm
      clear hx hH HN HP FN GM FL F0 hcs
      generalize H ^^^ x.toNat = X at *
      go_wp2_with fail
      go_round
      case rel => exact ⟨k + 1, _, by go_num, hlt, rfl, hn⟩
      case measure => simp [intOf]; omega
    · have e : N = H := by rw [HN.out, hH.out, List.take_of_length_le (by omega)]
      subst e
      clear HN hH HP
      go_wp2_with fail
      go_ret
      exact ⟨rfl, rfl⟩
theorem refHash_any (p : Option Addr) (c : Nat) (l : List UInt8) (w : World) (h : byIn w p l) (hl : l.length ≤ 10000000) :
    Calls Tryd.prog 13 #[.slice p l.length c] w fun e w' => e = .returned (.int .u64 (hashN l : Int)) ∧ w' = w :=
  refHash_by hashN hashS hashN_nil hashN_lt (fun _ _ _ hx => hashN_next hx) hash_mul p c l w h hl

set_option maxHeartbeats 2000000 in
set_option maxRecDepth 1000000 in
theorem Value_bad (x : Va) (w : World) (hs : x.s.size ≤ 9223372036854775807) (hT : Tabs w) (h0 : ¬ x.chk = 0) :
    Calls Tryd.prog 6 #[.agg #[.int .i64 x.ty, .int .i64 x.n, .string x.s]] w fun e w' => e = .returned (.tuple #[.slice none 0 0, .int .i64 x.chk]) ∧ Below w.heap.size w w' := by
  have CK : Hid (∀ w, Tabs w → Calls Tryd.prog 21 #[.agg #[.int .i64 x.ty, .int .i64 x.n, .string x.s]] w fun e w' => e = .returned (.int .i64 x.chk) ∧ Below w.heap.size w w') := fun w h => Check_any x.ty x.n x.s w hs h
  have hT1 : Hid (∀ o, Tabs (w.alloc o)) := fun o => hT.below ((Below.refl _ _).alloc (Nat.le_refl _) o)
  have hB1 : Hid (∀ o, Below w.heap.size w (w.alloc o)) := fun o => (Below.refl _ w).alloc (Nat.le_refl _) o
  have h1 : (x.chk != 0) = true := by rw [bne_iff_ne]; exact h0
  clear hs hT
  go_enter Tryd.func6, Tryd.ntmps6
  go_wp2_with fail
  refine (CK.out _ (hT1.out _)).mono ?_
  rintro e w1 ⟨rfl, hb1⟩
  have b1 := (hB1.out _).trans (hb1.mono (hB1.out _).size)
  clear hb1 hB1 hT1 CK
  go_wp2_with fail
  refine bodyPost_ret (v := .tuple #[.slice none 0 0, .int .i64 x.chk]) (by simp [results, Tryd.results6, go_sem]) rfl ⟨rfl, b1⟩

set_option maxHeartbeats 2000000 in
set_option maxRecDepth 1000000 in
theorem refValue_any (x : Va) (w : World) (hf : fit x.n) (h0 : x.chk = 0) :
    Calls Tryd.prog 7 #[.agg #[.int .i64 x.ty, .int .i64 x.n, .string x.s]] w fun e w' => ∃ v', e = .returned (.tuple #[v', .int .i64 0]) ∧ Below w.heap.size w w' ∧ ownsB w' w.heap.size v' (valB x) := by
  have CK : Hid (∀ w, Calls Tryd.prog 23 #[.agg #[.int .i64 x.ty, .int .i64 x.n, .string x.s]] w fun e w' => e = .returned (.int .i64 0) ∧ Below w.heap.size w w') := fun w => h0 ▸ refCheck_any x.ty x.n x.s w
  have AV : Hid (∀ w1, Calls Tryd.prog 24 #[.agg #[.int .i64 x.ty, .int .i64 x.n, .string x.s]] w1 fun e w' => ∃ v', e = .returned v' ∧ ownsB w' w1.heap.size v' (valB x) ∧ Below w1.heap.size w1 w') := fun w1 => bytes_any x w1 hf h0
  have hB1 : Hid (∀ o, Below w.heap.size w (w.alloc o)) := fun o => (Below.refl _ w).alloc (Nat.le_refl _) o
  have R0 : Hid _ := Res.new w x.ty x.n x.s
  clear hf h0
  go_enter Tryd.func7, Tryd.ntmps7
  go_wp2_with fail
  refine (CK.out _).mono ?_
  rintro e w1 ⟨rfl, hb1⟩
  obtain ⟨_, y0, y1, y2, _, _, _⟩ := R0.out.below hb1
  have b1 := (hB1.out _).trans (hb1.mono (hB1.out _).size)
  clear hb1 hB1 CK R0
  go_wp2_with fail
  refine (AV.out _).mono ?_
  rintro e w2 ⟨v2, rfl, ho2, hb2⟩
  clear y0 y1 y2
  go_wp2_with fail
  refine bodyPost_ret (v := .tuple #[v2, .int .i64 0]) (by simp [results, Tryd.results7, go_sem]) rfl ⟨_, rfl, b1.trans (hb2.mono b1.size), ho2.low b1.size⟩

set_option maxHeartbeats 2000000 in
set_option maxRecDepth 1000000 in
theorem refValue_bad (x : Va) (w : World) (h0 : ¬ x.chk = 0) :
    Calls Tryd.prog 7 #[.agg #[.int .i64 x.ty, .int .i64 x.n, .string x.s]] w fun e w' => e = .returned (.tuple #[.slice none 0 0, .int .i64 x.chk]) ∧ Below w.heap.size w w' := by
  have CK : Hid (∀ w, Calls Tryd.prog 23 #[.agg #[.int .i64 x.ty, .int .i64 x.n, .string x.s]] w fun e w' => e = .returned (.int .i64 x.chk) ∧ Below w.heap.size w w') := fun w => refCheck_any x.ty x.n x.s w
  have hB1 : Hid (∀ o, Below w.heap.size w (w.alloc o)) := fun o => (Below.refl _ w).alloc (Nat.le_refl _) o
  have h1 : (x.chk != 0) = true := by rw [bne_iff_ne]; exact h0
  go_enter Tryd.func7, Tryd.ntmps7
  go_wp2_with fail
  refine (CK.out _).mono ?_
  rintro e w1 ⟨rfl, hb1⟩
  have b1 := (hB1.out _).trans (hb1.mono (hB1.out _).size)
  clear hb1 hB1 CK
  go_wp2_with fail
  refine bodyPost_ret (v := .tuple #[.slice none 0 0, .int .i64 x.chk]) (by simp [results, Tryd.results7, go_sem]) rfl ⟨rfl, b1⟩

/-- an append of one byte onto one's own, and what it leaves alone -/
theorem app_row {ops : Array Oper} {rest : List Oper} {o : Oper} {a : Act} {w : World} {Q : Exit → Act → World → Prop} (hgd : o.guard = none) (s x : Operand)
    (ho : o.op = .call { callee := .builtin .append, args := #[s, x], argTypes := #[24, 24] })
    (base : Nat) (v : Value) (l news : List UInt8) (cs : Array Value) (hs : a.eval s = v) (hown : ownsB w base v l) (hcs : cs.toList = by8 news)
    (hx : a.eval x = .slice (some ⟨w.heap.size, 0, none⟩) news.length news.length) (hl : l.length + news.length ≤ 20000000000) (hb : base ≤ w.heap.size)
    (h : ∀ v' w', w.grownBy w' v.ownBlock → wpList Tryd.prog ops Q rest (a.put o.dst v') w') :
    wpList Tryd.prog ops Q (o :: rest) a (w.alloc (.cells cs 5)) := by
  obtain ⟨i0, hi, hz0, hz1, hz2⟩ := info_parts u8Info
  refine wpList_append_own _ hgd s x 24 ho base 5 i0 (.int .u8 0) 1 1 u8Slice hi hz0 hz1 hz2 rfl (by decide) v l.length (by8 l) hs (hown.alloc _) ⟨w.heap.size, 0, none⟩ news.length news.length (by8 news) hx (by rw [by8_len]; omega) ?_ (by8_one _) (by unfold maxLen; omega) (by omega) (by simp; omega) ?_
  · intro j u hj
    have ea : (⟨w.heap.size, 0, none⟩ : Addr).add j = ⟨w.heap.size, j, none⟩ := by simp [Addr.add]; intro h; exact h.symm
    rw [ea, ← hj, ← hcs]
    simp only [World.cell?, heap_alloc_new]
    simp
  · intro v' w' _ h2 _
    exact h v' w' ((World.grownBy_alloc w _ _).andThen h2 (fun j hj => Or.inr hj))
theorem by8_set (l : List UInt8) (j : Nat) (x : UInt8) : (by8 l).set j (.int .u8 (x.toNat : Int)) = by8 (l.set j x) := by
  simp [by8, List.map_set]

set_option maxHeartbeats 4000000 in
set_option maxRecDepth 1000000 in
theorem told_any (base b2 : Nat) (v y : Value) (l : List UInt8) (w : World) (hown : ownsB w base v l) (hw : ownsB w b2 y l) (hl : l.length ≤ 10000000000) (hb : base ≤ w.heap.size) :
    Calls Tryd.prog 10 #[v, y] w fun e w' => e = .returned (.bool true) ∧ w.grownBy w' v.ownBlock := by
  have k1 := conv_own hown
  have k2 := conv_own hw
  have HO : Hid (ownsB w base v l) := hown
  clear hw
  rcases hown.2 with ⟨rfl, h0⟩ | ⟨g, cap, cur, rfl, hbg, _⟩
  · obtain rfl : l = [] := List.eq_nil_of_length_eq_zero h0
    clear hown
    go_enter Tryd.func10, Tryd.ntmps10
    go_wp2_with fail
    go_loop [6] (fun sk => sk = .int .i64 0) (fun _ => 0)
    case atStart => exact rfl
    case round =>
      obtain rfl := hrel
      go_wp2_with (at_builtin; refine app_row rfl (.tmp 21) (.tmp 22) rfl base _ [] [85] _ rfl HO.out rfl rfl (by simp) hb ?_; intro v3 w3 hg3)
      go_ret
      exact ⟨rfl, hg3⟩
  · clear hown
    go_enter Tryd.func10, Tryd.ntmps10
    go_wp2_with fail
    go_loopw [6] (fun sk wr => ∃ (k : Nat) (m : List UInt8), sk = .int .i64 k ∧ k ≤ l.length ∧ m.length = l.length ∧ Hid (ownsB wr base (.slice (some ⟨g, 0, none⟩) l.length cap) m) ∧ Hid (w.grownBy wr (some g))) (fun sk _ => l.length - (intOf sk).toNat)
    case atStart => exact ⟨0, l, rfl, Nat.zero_le _, rfl, HO, World.grownBy.refl _ _⟩
    case round =>
      obtain ⟨k, m, rfl, hk, hm, ho, hgr⟩ := hrel
      by_cases hlt : k < l.length
      · have hO2 : wr.ownsRow base 5 1 (.slice (some ⟨g, 0, none⟩) l.length cap) l.length (by8 m) := by
          have := ho.out
          unfold ownsB at this
          rw [hm] at this; exact this
        have fz := World.ownsRow.frozenAt hO2 k
        obtain ⟨x, hx⟩ : ∃ x, m[k]? = some x := ⟨m[k]'(by omega), List.getElem?_eq_getElem (by omega)⟩
        have hc : wr.cell? ⟨g, k, none⟩ = some (.int .u8 (x.toNat : Int)) := by
          rw [World.ownsRow.cellAt hO2 k (by omega)]; exact by8_get hx
        obtain ⟨s1, s2⟩ := World.ownsRow.stored hO2 k (.int .u8 85)
        have S1 : Hid (ownsB (wr.setCell ⟨g, k, none⟩ (.int .u8 85)) base (.slice (some ⟨g, 0, none⟩) l.length cap) (m.set k 85)) := by
          show World.ownsRow _ _ _ _ _ _ _
          rw [List.length_set, hm, ← by8_set]; exact s1
        have S2 : Hid (w.grownBy (wr.setCell ⟨g, k, none⟩ (.int .u8 85)) (some g)) := hgr.out.andThen s2 (fun j hj => Or.inr hj)
        clear s1 s2 hO2 ho hgr hx
        go_wp2_with fail
        go_roundw
        case rel => exact ⟨k + 1, m.set k 85, by go_num, hlt, by simpa using hm, S1, S2⟩
        case measure => simp [intOf]; omega
      · have hbr : base ≤ wr.heap.size := Nat.le_trans hb hgr.out.size
        have ho3 : ownsB wr base (.slice (some ⟨g, 0, none⟩) l.length cap) m := ho.out
        go_wp2_with (at_builtin; refine app_row rfl (.tmp 21) (.tmp 22) rfl base _ m [85] _ rfl ho3 rfl rfl (by simp only [List.length_cons, List.length_nil]; omega) hbr ?_; intro v3 w3 hg3)
        go_ret
        exact ⟨rfl, hgr.out.andThen hg3 (fun j hj => Or.inr hj)⟩
end Go.Proofs.YtjdnbgnjgicbbaaDoor
