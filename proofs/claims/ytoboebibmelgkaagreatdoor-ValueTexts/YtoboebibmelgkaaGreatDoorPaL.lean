/-
  Cast, of both.
-/
import Derived.Test.YtoboebibmelgkaaGreatDoorPaK
namespace Go.Proofs.YtoboebibmelgkaaGreatDoor
open Go.RowKit Go.Shelf

/-- a value as one of another type -/
def cst (ty n : Int) (s : ByteArray) (tu : Int) : Va × Int :=
  if tu < 1 ∨ 4 < tu then bad 1
  else if chk ty n s = 0 then
    (if ty = 0 then (⟨0, 0, ⟨#[]⟩⟩, 0) else if ty = tu then (plV ty n s, 0) else if ty = 3 then cT (prs s.data.toList) tu
     else if tu = 3 then (⟨3, 0, ⟨(prV ty n s).toArray⟩⟩, 0) else cN ty n tu)
  else bad (chk ty n s)

set_option maxHeartbeats 4000000 in
set_option maxRecDepth 1000000 in
theorem castText_any (s : ByteArray) (tu : Int) (w : World) (hs : s.size ≤ 4096) (htu : tu = 1 ∨ tu = 2 ∨ tu = 4) (hM : Mx w) (hR : Rg w) (hT : Tabs w) :
    Calls Tryz.prog 16 #[.string s, .int .i64 tu] w fun e w' => e = .returned (av (cT (prs s.data.toList) tu)) ∧ Below w.heap.size w w' := by
  have R0 : Hid (Res (w.alloc (.cells #[.int .i64 0, .int .i64 0, .string ⟨#[]⟩] 23)) w.heap.size 0 0 ⟨#[]⟩) := Res.new w 0 0 ⟨#[]⟩
  have B0 : Hid (Below w.heap.size w (w.alloc (.cells #[.int .i64 0, .int .i64 0, .string ⟨#[]⟩] 23))) := (Below.refl _ w).alloc (Nat.le_refl _) _
  have hsl : s.data.toList.length = s.size := Array.length_toList
  have PS : Hid (∀ w, Mx w → Rg w → Tabs w → Calls Tryz.prog 11 #[.string s] w fun e w' => e = .returned (av (prs s.data.toList)) ∧ Below w.heap.size w w') := fun w h1 h2 h3 => by
    have h := Parse_any s.data.toList w (by omega) h1 h2 h3
    rw [← bytes_of s] at h
    exact h
  have hft := prs_fit s.data.toList
  generalize prs s.data.toList = A at *
  obtain ⟨⟨ty, n, sx⟩, E⟩ := A
  simp only at hft
  have HM : Hid (Mx w) := hM
  have HR : Hid (Rg w) := hR
  have HT : Hid (Tabs w) := hT
  clear hM hR hT hsl
  by_cases hE : E = 0
  · subst hE
    have e1 : cT (⟨ty, n, sx⟩, 0) tu = if ty = tu then (⟨ty, n, sx⟩, 0) else if ty = 1 ∧ tu = 2 then cN 1 n 2 else bad 3 := rfl
    rw [e1]
    clear e1
    by_cases h1 : ty = tu
    · subst h1
      rw [if_pos rfl]
      go_enter Tryz.func16, Tryz.ntmps16
      go_wp2_with fail
      refine (PS.out _ (HM.out.below B0.out) (HR.out.below B0.out) (HT.out.below B0.out)).mono ?_
      rintro e w1 ⟨rfl, hb1⟩
      have V1 := Res.new w1 ty n sx
      have R1 := (R0.out.below hb1).alloc (.cells #[.int .i64 ty, .int .i64 n, .string sx] 23)
      have B1a := B0.out.trans (hb1.mono B0.out.size)
      have B1 := B1a.alloc B1a.size (.cells #[.int .i64 ty, .int .i64 n, .string sx] 23)
      clear PS hb1 R0 B0 B1a HM HR HT
      unfold av
      obtain ⟨_, v0, v1, v2, _, _, _⟩ := id V1
      obtain ⟨_, c0, c1, c2, f0, f1, f2⟩ := id R1
      go_wp2_with fail
      obtain ⟨_, x0, x1, x2, _, _, _⟩ := R1.put ty n sx
      refine bodyPost_ret (v := av (⟨ty, n, sx⟩, 0)) (by simp [results, Tryz.results16, go_sem, av, x0, x1, x2]) rfl ⟨rfl, ?_⟩
      exact ((B1.setCell (p := ⟨w.heap.size, 0, none⟩) (Nat.le_refl _) _).setCell (p := ⟨w.heap.size, 1, none⟩) (Nat.le_refl _) _).setCell (p := ⟨w.heap.size, 2, none⟩) (Nat.le_refl _) _
    rw [if_neg h1]
    have h1b : (ty == tu) = false := by rw [beq_eq_false_iff_ne]; exact h1
    by_cases h2 : ty = 1 ∧ tu = 2
    · rw [if_pos h2]
      obtain ⟨rfl, rfl⟩ := h2
      have CN : Hid (∀ w, Calls Tryz.prog 17 #[.agg #[.int .i64 1, .int .i64 n, .string sx], .int .i64 2] w fun e w' => e = .returned (av (cN 1 n 2)) ∧ Below w.heap.size w w') := fun w => castNumber_any 1 n 2 sx w hft (Or.inl rfl) (Or.inr (Or.inl rfl)) (by decide)
      generalize cN 1 n 2 = A at *
      obtain ⟨⟨aty, an, asx⟩, ae⟩ := A
      clear h1
      go_enter Tryz.func16, Tryz.ntmps16
      go_wp2_with fail
      refine (PS.out _ (HM.out.below B0.out) (HR.out.below B0.out) (HT.out.below B0.out)).mono ?_
      rintro e w1 ⟨rfl, hb1⟩
      have V1 := Res.new w1 1 n sx
      have R1 := (R0.out.below hb1).alloc (.cells #[.int .i64 1, .int .i64 n, .string sx] 23)
      have B1a := B0.out.trans (hb1.mono B0.out.size)
      have B1 := B1a.alloc B1a.size (.cells #[.int .i64 1, .int .i64 n, .string sx] 23)
      clear PS hb1 R0 B0 B1a HM HR HT
      unfold av
      obtain ⟨_, v0, v1, v2, _, _, _⟩ := id V1
      obtain ⟨_, c0, c1, c2, f0, f1, f2⟩ := id R1
      go_wp2_with fail
      refine (CN.out _).mono ?_
      rintro e w2 ⟨rfl, hb2⟩
      have R2 := R1.below hb2
      have B2 := B1.trans (hb2.mono B1.size)
      clear CN hb2 R1 B1 V1 v0 v1 v2 c0 c1 c2 f0 f1 f2
      unfold av
      obtain ⟨_, c0, c1, c2, f0, f1, f2⟩ := id R2
      go_wp2_with fail
      obtain ⟨_, x0, x1, x2, _, _, _⟩ := R2.put aty an asx
      refine bodyPost_ret (v := av (⟨aty, an, asx⟩, ae)) (by simp [results, Tryz.results16, go_sem, av, x0, x1, x2]) rfl ⟨rfl, ?_⟩
      exact ((B2.setCell (p := ⟨w.heap.size, 0, none⟩) (Nat.le_refl _) _).setCell (p := ⟨w.heap.size, 1, none⟩) (Nat.le_refl _) _).setCell (p := ⟨w.heap.size, 2, none⟩) (Nat.le_refl _) _
    rw [if_neg h2]
    by_cases h3 : ty = 1
    · subst h3
      have h2b : (tu == 2) = false := by rw [beq_eq_false_iff_ne]; exact fun e => h2 ⟨rfl, e⟩
      clear h2 h1 htu
      go_enter Tryz.func16, Tryz.ntmps16
      go_wp2_with fail
      refine (PS.out _ (HM.out.below B0.out) (HR.out.below B0.out) (HT.out.below B0.out)).mono ?_
      rintro e w1 ⟨rfl, hb1⟩
      have V1 := Res.new w1 1 n sx
      have R1 := (R0.out.below hb1).alloc (.cells #[.int .i64 1, .int .i64 n, .string sx] 23)
      have B1a := B0.out.trans (hb1.mono B0.out.size)
      have B1 := B1a.alloc B1a.size (.cells #[.int .i64 1, .int .i64 n, .string sx] 23)
      clear PS hb1 R0 B0 B1a HM HR HT
      unfold av
      obtain ⟨_, v0, v1, v2, _, _, _⟩ := id V1
      obtain ⟨_, c0, c1, c2, f0, f1, f2⟩ := id R1
      go_wp2_with fail
      obtain ⟨_, x0, x1, x2, _, _, _⟩ := R1.put 0 0 ⟨#[]⟩
      refine bodyPost_ret (v := av (⟨0, 0, ⟨#[]⟩⟩, 3)) (by simp [results, Tryz.results16, go_sem, av, x0, x1, x2]) rfl ⟨rfl, ?_⟩
      exact ((B1.setCell (p := ⟨w.heap.size, 0, none⟩) (Nat.le_refl _) _).setCell (p := ⟨w.heap.size, 1, none⟩) (Nat.le_refl _) _).setCell (p := ⟨w.heap.size, 2, none⟩) (Nat.le_refl _) _
    have h3b : (ty == 1) = false := by rw [beq_eq_false_iff_ne]; exact h3
    clear h2 h1 h3 htu
    go_enter Tryz.func16, Tryz.ntmps16
    go_wp2_with fail
    refine (PS.out _ (HM.out.below B0.out) (HR.out.below B0.out) (HT.out.below B0.out)).mono ?_
    rintro e w1 ⟨rfl, hb1⟩
    have V1 := Res.new w1 ty n sx
    have R1 := (R0.out.below hb1).alloc (.cells #[.int .i64 ty, .int .i64 n, .string sx] 23)
    have B1a := B0.out.trans (hb1.mono B0.out.size)
    have B1 := B1a.alloc B1a.size (.cells #[.int .i64 ty, .int .i64 n, .string sx] 23)
    clear PS hb1 R0 B0 B1a HM HR HT
    unfold av
    obtain ⟨_, v0, v1, v2, _, _, _⟩ := id V1
    obtain ⟨_, c0, c1, c2, f0, f1, f2⟩ := id R1
    go_wp2_with fail
    obtain ⟨_, x0, x1, x2, _, _, _⟩ := R1.put 0 0 ⟨#[]⟩
    refine bodyPost_ret (v := av (⟨0, 0, ⟨#[]⟩⟩, 3)) (by simp [results, Tryz.results16, go_sem, av, x0, x1, x2]) rfl ⟨rfl, ?_⟩
    exact ((B1.setCell (p := ⟨w.heap.size, 0, none⟩) (Nat.le_refl _) _).setCell (p := ⟨w.heap.size, 1, none⟩) (Nat.le_refl _) _).setCell (p := ⟨w.heap.size, 2, none⟩) (Nat.le_refl _) _
  · have e1 : cT (⟨ty, n, sx⟩, E) tu = bad E := if_neg hE
    rw [e1]
    clear e1 htu
    have hEb : (E != 0) = true := by rw [bne_iff_ne]; exact hE
    go_enter Tryz.func16, Tryz.ntmps16
    go_wp2_with fail
    refine (PS.out _ (HM.out.below B0.out) (HR.out.below B0.out) (HT.out.below B0.out)).mono ?_
    rintro e w1 ⟨rfl, hb1⟩
    have V1 := Res.new w1 ty n sx
    have R1 := (R0.out.below hb1).alloc (.cells #[.int .i64 ty, .int .i64 n, .string sx] 23)
    have B1a := B0.out.trans (hb1.mono B0.out.size)
    have B1 := B1a.alloc B1a.size (.cells #[.int .i64 ty, .int .i64 n, .string sx] 23)
    clear PS hb1 R0 B0 B1a HM HR HT
    unfold av
    obtain ⟨_, v0, v1, v2, _, _, _⟩ := id V1
    obtain ⟨_, c0, c1, c2, f0, f1, f2⟩ := id R1
    go_wp2_with fail
    obtain ⟨_, x0, x1, x2, _, _, _⟩ := R1.put 0 0 ⟨#[]⟩
    refine bodyPost_ret (v := av (⟨0, 0, ⟨#[]⟩⟩, E)) (by simp [results, Tryz.results16, go_sem, av, x0, x1, x2]) rfl ⟨rfl, ?_⟩
    exact ((B1.setCell (p := ⟨w.heap.size, 0, none⟩) (Nat.le_refl _) _).setCell (p := ⟨w.heap.size, 1, none⟩) (Nat.le_refl _) _).setCell (p := ⟨w.heap.size, 2, none⟩) (Nat.le_refl _) _
end Go.Proofs.YtoboebibmelgkaaGreatDoor
