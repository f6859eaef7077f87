/-
  The walk of rowcode.Row: the bytes of a row.
-/
import Derived.Test.YtjdnbgnjgicbbaaDoorRcF
namespace Go.Proofs.YtjdnbgnjgicbbaaDoor
open Go.RowKit Go.Shelf

/-- the first error of some values -/
def errs : List Va → Int
  | [] => 0
  | v :: l => if v.chk = 0 then errs l else v.chk
theorem errs_pass {v : Va} {l : List Va} (h : v.chk = 0) : errs (v :: l) = errs l := by simp [errs, h]
theorem errs_stop {v : Va} {l : List Va} (h : ¬ v.chk = 0) : errs (v :: l) = v.chk := by simp [errs, h]
/-- the values of a row lie behind its place -/
def rowIn (w : World) (p : Option Addr) (l : List Va) : Prop := l = [] ∨ ∃ g off, p = some ⟨g, off, none⟩ ∧ g < w.heap.size ∧
  ∀ i v, l[i]? = some v → w.cell? ⟨g, off + i * 3, none⟩ = some (.int .i64 v.ty) ∧ w.cell? ⟨g, off + i * 3 + 1, none⟩ = some (.int .i64 v.n) ∧ w.cell? ⟨g, off + i * 3 + 2, none⟩ = some (.string v.s)
theorem rowIn.below {w w' : World} {p : Option Addr} {l : List Va} (h : rowIn w p l) (hb : Below w.heap.size w w') : rowIn w' p l := by
  rcases h with h | ⟨g, off, h1, h2, h3⟩
  · exact Or.inl h
  · refine Or.inr ⟨g, off, h1, Nat.lt_of_lt_of_le h2 hb.size, fun i v hv => ?_⟩
    obtain ⟨c0, c1, c2⟩ := h3 i v hv
    exact ⟨(hb.cell (p := ⟨g, off + i * 3, none⟩) h2).trans c0, (hb.cell (p := ⟨g, off + i * 3 + 1, none⟩) h2).trans c1, (hb.cell (p := ⟨g, off + i * 3 + 2, none⟩) h2).trans c2⟩
theorem ownsB.below {w w' : World} {base : Nat} {v : Value} {l : List UInt8} (h : ownsB w base v l) (hb : Below w.heap.size w w') : ownsB w' base v l :=
  World.ownsRow.kept h (row := none) ⟨hb.os, hb.tape, hb.output, hb.size, fun k hk _ => hb.block k hk⟩ (by cases hv : v.ownBlock <;> simp)
def rowsB (l : List Va) : List UInt8 := l.flatMap valB
theorem rowsB_next {l : List Va} {k : Nat} {x : Va} (h : l[k]? = some x) : rowsB (l.take (k + 1)) = rowsB (l.take k) ++ valB x := by
  rw [List.take_add_one, h]; simp [rowsB]
theorem rowsB_len : ∀ l : List Va, (∀ v ∈ l, v.chk = 0) → (rowsB l).length ≤ 8195 * l.length
  | [], _ => by simp [rowsB]
  | v :: l, h => by
    have h1 := rowsB_len l (fun x hx => h x (List.mem_cons_of_mem _ hx))
    have h2 := valB_len (h v List.mem_cons_self)
    have e : rowsB (v :: l) = valB v ++ rowsB l := rfl
    rw [e, List.length_append, List.length_cons]; omega
/-- what is wrong with a row -/
def rowE (l : List Va) : Int := if 16 < l.length then 2 else errs l
/-- the bytes of a row -/
def rowB (l : List Va) : List UInt8 := rowsB l ++ [0]

set_option maxHeartbeats 4000000 in
set_option maxRecDepth 1000000 in
theorem Row_any (p : Option Addr) (c : Nat) (la : List Va) (w : World) (hp : rowIn w p la) (fa : ∀ v ∈ la, fit v.n) (sa : ∀ v ∈ la, v.s.size ≤ 9223372036854775807) (hT : Tabs w) :
    Calls Tryd.prog 31 #[.slice p la.length c] w fun e w' => ∃ v', e = .returned (.tuple #[v', .int .i64 (rowE la)]) ∧ Below w.heap.size w w' ∧ (rowE la = 0 → ownsB w' w.heap.size v' (rowB la)) ∧ (¬ rowE la = 0 → v' = .slice none 0 0) := by
  by_cases h16 : 16 < la.length
  · have e : rowE la = 2 := if_pos h16
    rw [e]
    have h16i : (16 : Int) < (la.length : Int) := by omega
    go_enter Tryd.func31, Tryd.ntmps31
    go_wp2_with fail
    refine bodyPost_ret (v := .tuple #[.slice none 0 0, .int .i64 2]) (by simp [results, Tryd.results31, go_sem]) rfl ⟨_, rfl, Below.refl _ _, fun h => by omega, fun _ => rfl⟩
  · have e : rowE la = errs la := if_neg h16
    rw [e]
    obtain ⟨E, hE⟩ : ∃ E, E = errs la := ⟨_, rfl⟩
    rw [← hE]
    have HE : Hid (E = errs la) := hE
    clear hE e
    have h16i : (la.length : Int) ≤ 16 := by omega
    go_enter Tryd.func31, Tryd.ntmps31
    go_wp2_with fail
    go_loopw [4, 13] (fun sb si wr => ∃ k : Nat, si = .int .i64 k ∧ k ≤ la.length ∧ Hid (E = errs (la.drop k)) ∧ Hid (∀ v ∈ la.take k, v.chk = 0) ∧ ownsB wr w.heap.size sb (rowsB (la.take k)) ∧ Below w.heap.size w wr) (fun _ si _ => la.length - (intOf si).toNat)
    case atStart => exact ⟨0, rfl, Nat.zero_le _, HE, fun v hv => by simp at hv, by exact ownsB_nil _ _, Below.refl _ _⟩
    case round =>
      obtain ⟨k, rfl, hk, hd, hck, ho, hbr⟩ := hrel
      clear HE
      have hll : (rowsB (la.take k)).length ≤ 900000 := by
        have h1 := rowsB_len _ hck.out
        have h2 : (la.take k).length ≤ 16 := by rw [List.length_take]; omega
        omega
      by_cases hlt : k < la.length
      · obtain ⟨x, hxk⟩ : ∃ x, la[k]? = some x := ⟨la[k], List.getElem?_eq_getElem hlt⟩
        have hfx := fa x (List.mem_of_getElem? hxk)
        have hsx := sa x (List.mem_of_getElem? hxk)
        rcases hp with rfl | ⟨g, off, rfl, hgw, hcs⟩
        · simp at hxk
        obtain ⟨c1, c2, c3⟩ := hcs k x hxk
        have d1 := (hbr.cell (p := ⟨g, off + k * 3, none⟩) hgw).trans c1
        have d2 := (hbr.cell (p := ⟨g, off + k * 3 + 1, none⟩) hgw).trans c2
        have d3 := (hbr.cell (p := ⟨g, off + k * 3 + 2, none⟩) hgw).trans c3
        clear c1 c2 c3 hcs
        rw [drop_at hxk] at hd
        have CK : Hid (∀ w, Tabs w → Calls Tryd.prog 21 #[.agg #[.int .i64 x.ty, .int .i64 x.n, .string x.s]] w fun e w' => e = .returned (.int .i64 x.chk) ∧ Below w.heap.size w w') := fun w h => Check_any x.ty x.n x.s w hsx h
        have hT1 : Hid (∀ o, Tabs (wr.alloc o)) := fun o => (hT.below hbr).below ((Below.refl _ _).alloc (Nat.le_refl _) o)
        have hB1 : Hid (∀ o, Below w.heap.size w (wr.alloc o)) := fun o => hbr.alloc hbr.size o
        have hO1 : Hid (∀ o, ownsB (wr.alloc o) w.heap.size u4 (rowsB (la.take k))) := fun o => ho.alloc o
        have hZ1 : Hid (∀ o, wr.heap.size < (wr.alloc o).heap.size) := fun o => by simp
        have hX1 : Hid ((wr.alloc (.cells #[.int .i64 x.ty, .int .i64 x.n, .string x.s] 23)).cell? ⟨wr.heap.size, 0, none⟩ = some (.int .i64 x.ty) ∧ (wr.alloc (.cells #[.int .i64 x.ty, .int .i64 x.n, .string x.s] 23)).cell? ⟨wr.heap.size, 1, none⟩ = some (.int .i64 x.n) ∧ (wr.alloc (.cells #[.int .i64 x.ty, .int .i64 x.n, .string x.s] 23)).cell? ⟨wr.heap.size, 2, none⟩ = some (.string x.s)) := by
          show _ ∧ _ ∧ _
          go_simp
        by_cases h0 : x.chk = 0
        · have hd2 : Hid (E = errs (la.drop (k + 1))) := hd.out.trans (errs_pass h0)
          rw [h0] at CK
          have AV : Hid (∀ w1, ownsB w1 w.heap.size u4 (rowsB (la.take k)) → w.heap.size ≤ w1.heap.size → _) := fun w1 h1 h2 => appendValue_any w.heap.size u4 (rowsB (la.take k)) x w1 h1 h2 hll hfx h0
          have hck2 : Hid (∀ v ∈ la.take (k + 1), v.chk = 0) := fun v hv => by
            rw [List.take_add_one, hxk] at hv
            simp only [Option.toList_some, List.mem_append, List.mem_cons, List.not_mem_nil, or_false] at hv
            rcases hv with hv | rfl
            · exact hck.out v hv
            · exact h0
          have hnx : Hid (rowsB (la.take (k + 1)) = rowsB (la.take k) ++ valB x) := rowsB_next hxk
          clear hd hck h0 hfx hsx hxk fa sa hT
          go_wp2_with fail
          refine (CK.out _ (hT1.out _)).mono ?_
          rintro e w1 ⟨rfl, hb1⟩
          obtain ⟨x0, x1, x2⟩ := hX1.out
          have y0 := (hb1.cell (p := ⟨wr.heap.size, 0, none⟩) (hZ1.out _)).trans x0
          have y1 := (hb1.cell (p := ⟨wr.heap.size, 1, none⟩) (hZ1.out _)).trans x1
          have y2 := (hb1.cell (p := ⟨wr.heap.size, 2, none⟩) (hZ1.out _)).trans x2
          have o1 := (hO1.out _).below hb1
          have b1 := (hB1.out _).trans (hb1.mono (hB1.out _).size)
          clear x0 x1 x2 hb1 hX1 hO1 hB1 hT1 CK
          go_wp2_with fail
          refine (AV.out _ o1 b1.size).mono ?_
          rintro e w2 ⟨v2, rfl, ho2, hb2⟩
          clear y0 y1 y2 o1
          go_wp2_with fail
          go_roundw
          case rel => exact ⟨k + 1, by go_num, hlt, hd2, hck2, by rw [hnx.out]; exact ho2, b1.trans hb2⟩
          case measure => simp [intOf]; omega
        · have hd2 : E = x.chk := hd.out.trans (errs_stop h0)
          have h1 : (x.chk != 0) = true := by rw [bne_iff_ne]; exact h0
          subst hd2
          clear hd hck hfx hsx hxk fa sa hT
          go_wp2_with fail
          refine (CK.out _ (hT1.out _)).mono ?_
          rintro e w1 ⟨rfl, hb1⟩
          have b1 := (hB1.out _).trans (hb1.mono (hB1.out _).size)
          clear hb1 hX1 hO1 hB1 hT1 CK
          go_wp2_with fail
          refine bodyPost_ret (v := .tuple #[.slice none 0 0, .int .i64 x.chk]) (by simp [results, Tryd.results31, go_sem]) rfl ⟨_, rfl, b1, fun h => absurd h h0, fun _ => rfl⟩
      · have hE : E = 0 := by have := hd.out; rw [List.drop_eq_nil_of_le (by omega)] at this; exact this
        subst hE
        have ht : la.take k = la := List.take_of_length_le (by omega)
        rw [ht] at ho hll
        have hs := hbr.size
        clear hd hck fa sa hT hp ht
        go_wp2_with (at_builtin; refine app_b rfl (.tmp 26) (.tmp 27) rfl w.heap.size _ (rowsB la) [0] _ rfl ho rfl rfl (by simp only [List.length_cons, List.length_nil]; omega) hs ?_; intro v3 w3 ho3 hb3 hs3)
        refine bodyPost_ret (v := .tuple #[v3, .int .i64 0]) (by simp [results, Tryd.results31, go_sem]) rfl ⟨_, rfl, hbr.trans hb3, ho3⟩
end Go.Proofs.YtjdnbgnjgicbbaaDoor
