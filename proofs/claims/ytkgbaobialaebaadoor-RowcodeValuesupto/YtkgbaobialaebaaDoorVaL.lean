/-
  The walk of the law RowcodeValues.
-/
import Derived.Test.YtkgbaobialaebaaDoorVaE
import Derived.Test.YtkgbaobialaebaaDoorVaF
import Derived.Test.YtkgbaobialaebaaDoorVaO
namespace Go.Proofs.YtkgbaobialaebaaDoor
open Go.RowKit Go.Shelf

/-- the bytes of a value, or none -/
def valE (x : Va) : List UInt8 := if x.chk = 0 then valB x else []
theorem valE_len (x : Va) : (valE x).length ≤ 8195 := by
  unfold valE
  by_cases h : x.chk = 0
  · rw [if_pos h]; exact valB_len h
  · rw [if_neg h]; simp
theorem Value_both (x : Va) (w : World) (hf : fit x.n) (hs : x.s.size ≤ 9223372036854775807) (hT : Tabs w) :
    Calls Tryd.prog 6 #[.agg #[.int .i64 x.ty, .int .i64 x.n, .string x.s]] w fun e w' => ∃ v', e = .returned (.tuple #[v', .int .i64 x.chk]) ∧ Below w.heap.size w w' ∧ ownsB w' w.heap.size v' (valE x) := by
  by_cases h : x.chk = 0
  · have e : valE x = valB x := if_pos h
    rw [e, h]; exact Value_any x w hf hs hT h
  · have e : valE x = [] := if_neg h
    refine (Value_bad x w hs hT h).mono ?_
    rintro e' w' ⟨rfl, hb⟩
    exact ⟨_, rfl, hb, by rw [e]; exact ownsB_nil _ _⟩
theorem refValue_both (x : Va) (w : World) (hf : fit x.n) :
    Calls Tryd.prog 7 #[.agg #[.int .i64 x.ty, .int .i64 x.n, .string x.s]] w fun e w' => ∃ v', e = .returned (.tuple #[v', .int .i64 x.chk]) ∧ Below w.heap.size w w' ∧ ownsB w' w.heap.size v' (valE x) := by
  by_cases h : x.chk = 0
  · have e : valE x = valB x := if_pos h
    rw [e, h]; exact refValue_any x w hf h
  · have e : valE x = [] := if_neg h
    refine (refValue_bad x w h).mono ?_
    rintro e' w' ⟨rfl, hb⟩
    exact ⟨_, rfl, hb, by rw [e]; exact ownsB_nil _ _⟩
theorem conv_any {w : World} {p : Option Addr} {l : List UInt8} (c : Nat) (h : byIn w p l) : (convert 24 9 (.slice p l.length c)).run Tryd.prog w = .ok (.string ⟨l.toArray⟩) w := by
  rcases h with rfl | ⟨g, off, rfl, hg, hcs⟩
  · show (convert 24 9 (.slice p 0 c)).run Tryd.prog w = _
    rw [run_convert_bytes_string w 24 9 5 p 0 c u8Slice u8T strT]
    rcases p with _ | ad <;> rfl
  · refine run_convert_bytes_back (P := Tryd.prog) w 24 9 5 ⟨g, off, none⟩ c l u8Slice u8T strT (fun j hj => ?_)
    have ea : (⟨g, off, none⟩ : Addr).add j = ⟨g, off + j, none⟩ := by simp only [Addr.add]; split <;> simp_all
    rw [ea]; exact hcs j _ (List.getElem?_eq_getElem hj)
theorem own_byIn {w : World} {base g cap : Nat} {l : List UInt8} (h : ownsB w base (.slice (some ⟨g, 0, none⟩) l.length cap) l) : byIn w (some ⟨g, 0, none⟩) l := by
  refine Or.inr ⟨g, 0, rfl, ((World.ownsRow.lt h) g rfl).2, fun i x hx => ?_⟩
  have hi := (List.getElem?_eq_some_iff.1 hx).1
  rw [Nat.zero_add, World.ownsRow.cellAt h i (by omega)]; exact by8_get hx
theorem own_cap {w : World} {base g cap : Nat} {l : List UInt8} (h : ownsB w base (.slice (some ⟨g, 0, none⟩) l.length cap) l) : l.length ≤ cap ∧ cap ≤ 9223372036854775807 := by
  rcases h.2 with ⟨hh, _⟩ | ⟨g', cap', cur, hh, _, _, h1, h2, _⟩
  · cases hh
  · cases hh; exact ⟨h1, by unfold maxLen at h2; omega⟩

set_option maxHeartbeats 8000000 in
set_option maxRecDepth 1000000 in
theorem RowcodeValues_any (x : Va) (P : Option Addr) (C : Nat) (l : List UInt8) (w : World) (hf : fit x.n) (hs : x.s.size ≤ 9223372036854775807) (hp : byIn w P l) (hn : P = none → C = 0) (hl : l.length ≤ 1048576) (hlc : l.length ≤ C) (hC : C ≤ 9223372036854775807) (hT : Tabs w) :
    Calls Tryd.prog 3 #[.agg #[.int .i64 x.ty, .int .i64 x.n, .string x.s], .slice P l.length C] w fun e w' => e = .returned (.bool true) ∧ Below w.heap.size w w' := by
  have OW : Hid (∀ w', Below w.heap.size w w' → Calls Tryd.prog 5 #[.slice P l.length C] w' fun e w'' => ∃ v', e = .returned v' ∧ ownsB w'' w'.heap.size v' l ∧ Below w'.heap.size w' w'' ∧ ∃ g cap, v' = .slice (some ⟨g, 0, none⟩) l.length cap) := fun w' h => own_any P C l w' (hp.below h) hn (by omega)
  have V1 : Hid (∀ w', Below w.heap.size w w' → Calls Tryd.prog 6 #[.agg #[.int .i64 x.ty, .int .i64 x.n, .string x.s]] w' fun e w'' => ∃ v', e = .returned (.tuple #[v', .int .i64 x.chk]) ∧ Below w'.heap.size w' w'' ∧ ownsB w'' w'.heap.size v' (valE x)) := fun w' h => Value_both x w' hf hs (hT.below h)
  have V2 : Hid (∀ w', Calls Tryd.prog 7 #[.agg #[.int .i64 x.ty, .int .i64 x.n, .string x.s]] w' fun e w'' => ∃ v', e = .returned (.tuple #[v', .int .i64 x.chk]) ∧ Below w'.heap.size w' w'' ∧ ownsB w'' w'.heap.size v' (valE x)) := fun w' => refValue_both x w' hf
  obtain ⟨t, n, s, k, e0, hv⟩ := vrd_form (rdV l)
  have RD : Hid (∀ (g cap base : Nat) w', Below w.heap.size w w' → ownsB w' base (.slice (some ⟨g, 0, none⟩) l.length cap) l → Calls Tryd.prog 8 #[.slice (some ⟨g, 0, none⟩) l.length cap] w' fun e w'' => e = .returned (.tuple #[.agg #[.int .i64 t, .int .i64 n, .string s], .int .i64 k, .int .i64 e0]) ∧ Below w'.heap.size w' w'') := fun g cap base w' h ho => hv ▸ Read_any _ cap l w' (own_byIn ho) (own_cap ho).1 (own_cap ho).2 (by omega) (hT.below h)
  have RE : Hid (∀ w', Below w.heap.size w w' → Calls Tryd.prog 9 #[.slice P l.length C] w' fun e w'' => e = .returned (.tuple #[.agg #[.int .i64 t, .int .i64 n, .string s], .int .i64 k, .int .i64 e0]) ∧ Below w'.heap.size w' w'') := fun w' h => hv ▸ refRead_any P C l w' (hp.below h) hlc hC (by omega)
  have TO : Hid (∀ (base b2 : Nat) (v y : Value) w', ownsB w' base v (valE x) → ownsB w' b2 y (valE x) → base ≤ w'.heap.size → Calls Tryd.prog 10 #[v, y] w' fun e w'' => e = .returned (.bool true) ∧ w'.grownBy w'' v.ownBlock) := fun base b2 v y w' h1 h2 h3 => told_any base b2 v y (valE x) w' h1 h2 (by have := valE_len x; omega) h3
  have SM : Hid (∀ w', Calls Tryd.prog 11 #[.agg #[.int .i64 t, .int .i64 n, .string s], .agg #[.int .i64 t, .int .i64 n, .string s]] w' fun e w'' => e = .returned (.bool true) ∧ Below w'.heap.size w' w'') := fun w' => Same2_eq ⟨t, n, s⟩ w'
  have H1 : Hid (∀ (base : Nat) (v : Value) w', ownsB w' base v l → Calls Tryd.prog 12 #[v] w' fun e w'' => e = .returned (.int .u64 (hashN l : Int)) ∧ w'' = w') := fun base v w' h => Hash_any base v l w' h (by omega)
  have H2 : Hid (∀ w', Below w.heap.size w w' → Calls Tryd.prog 13 #[.slice P l.length C] w' fun e w'' => e = .returned (.int .u64 (hashN l : Int)) ∧ w'' = w') := fun w' h => refHash_any P C l w' (hp.below h) (by omega)
  have CV : Hid (∀ w', Below w.heap.size w w' → (convert 24 9 (.slice P l.length C)).run Tryd.prog w' = .ok (.string ⟨l.toArray⟩) w') := fun w' h => conv_any C (hp.below h)
  have R0 : Hid _ := Res.new w x.ty x.n x.s
  have B0 : Hid (∀ o, Below w.heap.size w (w.alloc o)) := fun o => (Below.refl _ w).alloc (Nat.le_refl _) o
  generalize hashN l = hh at *
  generalize x.chk = ec at *
  clear hf hs hp hn hl hlc hC hT hv
  go_enter Tryd.func3, Tryd.ntmps3
  go_wp2_with fail
  have BW := B0.out (.cells #[.int .i64 x.ty, .int .i64 x.n, .string x.s] 23)
  have RW := R0.out
  generalize w.alloc (.cells #[.int .i64 x.ty, .int .i64 x.n, .string x.s] 23) = w0 at *
  clear R0 B0
  refine (OW.out _ BW).mono ?_
  rintro e w1 ⟨v5, rfl, ho5, hb1, g5, cap5, rfl⟩
  have R1 := RW.below hb1
  have B1 := BW.trans (hb1.mono BW.size)
  have L5 := (World.ownsRow.lt ho5 g5 rfl).2
  clear RW BW hb1 OW
  obtain ⟨_, c0, c1, c2, _, _, _⟩ := id R1
  go_wp2_with fail
  refine (V1.out _ B1).mono ?_
  rintro e w2 ⟨v6, rfl, hb2, ho6⟩
  have R2 := R1.below hb2
  have B2 := B1.trans (hb2.mono B1.size)
  have P5 := ho5.below hb2
  have L6 := World.ownsRow.lt ho6
  have S2 := hb2.size
  clear R1 hb2 V1 c0 c1 c2
  obtain ⟨_, c0, c1, c2, _, _, _⟩ := id R2
  go_wp2_with fail
  refine (V2.out _).mono ?_
  rintro e w3 ⟨v8, rfl, hb3, ho8⟩
  have B3 := B2.trans (hb3.mono B2.size)
  have Q5 := P5.below hb3
  have Q6 := ho6.below hb3
  have S3 := hb3.size
  clear R2 hb3 V2 c0 c1 c2 P5
  go_wp2_with fail
  refine (RD.out _ _ _ _ B3 Q5).mono ?_
  rintro e w4 ⟨rfl, hb4⟩
  have B4 := B3.trans (hb4.mono B3.size)
  have U5 := Q5.below hb4
  have U6 := Q6.below hb4
  have U8 := ho8.below hb4
  have S4 := hb4.size
  clear hb4 RD Q5 Q6
  have B5 := B4.trans (((Below.refl _ w4).alloc (Nat.le_refl _) (.cells #[.int .i64 t, .int .i64 n, .string s] 23)).mono B4.size)
  have N5 := Res.new w4 t n s
  have X5 := U5.alloc (.cells #[.int .i64 t, .int .i64 n, .string s] 23)
  have X6 := U6.alloc (.cells #[.int .i64 t, .int .i64 n, .string s] 23)
  have X8 := U8.alloc (.cells #[.int .i64 t, .int .i64 n, .string s] 23)
  go_wp2_with fail
  generalize w4.alloc (.cells #[.int .i64 t, .int .i64 n, .string s] 23) = wa at *
  clear U5 U6 U8
  refine (RE.out _ B5).mono ?_
  rintro e w6 ⟨rfl, hb6⟩
  have B6 := B5.trans (hb6.mono B5.size)
  have N6 := N5.below hb6
  have Y5 := (X5.below hb6).alloc (.cells #[.int .i64 t, .int .i64 n, .string s] 23)
  have Y6 := (X6.below hb6).alloc (.cells #[.int .i64 t, .int .i64 n, .string s] 23)
  have Y8 := (X8.below hb6).alloc (.cells #[.int .i64 t, .int .i64 n, .string s] 23)
  have N7 := N6.alloc (.cells #[.int .i64 t, .int .i64 n, .string s] 23)
  have M7 := Res.new w6 t n s
  have B7 := B6.trans (((Below.refl _ w6).alloc (Nat.le_refl _) (.cells #[.int .i64 t, .int .i64 n, .string s] 23)).mono B6.size)
  have L4 := N6.lt
  clear X5 X6 X8 N5 N6 hb6 RE
  go_wp2_with fail
  generalize w6.alloc (.cells #[.int .i64 t, .int .i64 n, .string s] 23) = wb at *
  have hbs : w1.heap.size ≤ wb.heap.size := by have := M7.lt; omega
  refine (TO.out _ _ _ _ _ Y6 Y8 hbs).mono ?_
  rintro e w8 ⟨rfl, hg8⟩
  have b16 : ∀ j, v6.ownBlock = some j → w1.heap.size ≤ j ∧ j < w2.heap.size := L6
  have Z5 : ownsB w8 w0.heap.size (.slice (some ⟨g5, 0, none⟩) l.length cap5) l := World.ownsRow.kept Y5 hg8 (Or.inr (by
    intro h
    have h2 : v6.ownBlock = some g5 := h.symm
    have := (b16 g5 h2).1
    omega))
  have n4 : some w4.heap.size ≠ v6.ownBlock := by
    intro h
    have := (b16 _ h.symm).2
    omega
  have n6 : some w6.heap.size ≠ v6.ownBlock := by
    intro h
    have := (b16 _ h.symm).2
    omega
  obtain ⟨_, p0, p1, p2, _, _, _⟩ := N7
  obtain ⟨_, q0, q1, q2, _, _, _⟩ := M7
  have i0 := hg8.cell p0 n4
  have i1 := hg8.cell p1 n4
  have i2 := hg8.cell p2 n4
  have j0 := hg8.cell q0 n6
  have j1 := hg8.cell q1 n6
  have j2 := hg8.cell q2 n6
  have B8 := B7.trans (below_own hg8 B7.size (fun g hg => Nat.le_trans B1.size (b16 g hg).1))
  clear p0 p1 p2 q0 q1 q2 hg8 Y5 Y6 Y8 TO
  go_wp2_with fail
  refine (SM.out _).mono ?_
  rintro e w9 ⟨rfl, hb9⟩
  have B9 := B8.trans (hb9.mono B8.size)
  have Z9 := Z5.below hb9
  clear i0 i1 i2 j0 j1 j2 Z5 hb9 SM
  go_wp2_with fail
  refine (H1.out _ _ _ Z9).mono ?_
  rintro e wx ⟨rfl, hwx⟩; have hwx2 := hwx.symm; subst hwx2; clear hwx
  go_wp2_with fail
  refine (H2.out _ B9).mono ?_
  rintro e wx ⟨rfl, hwx⟩; have hwx2 := hwx.symm; subst hwx2; clear hwx
  have cv1 := conv_own Z9
  have cv2 := CV.out _ B9
  go_wp2_with fail
  go_ret
  exact ⟨rfl, B9⟩
end Go.Proofs.YtkgbaobialaebaaDoor
