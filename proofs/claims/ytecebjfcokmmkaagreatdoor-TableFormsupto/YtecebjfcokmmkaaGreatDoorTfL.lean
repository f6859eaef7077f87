/-
  The walks of table.fitsCol, fits, Fits and of lockstepref08.fits, Fits.
-/
import Derived.Test.YtecebjfcokmmkaaGreatDoorTfK
namespace Go.Proofs.YtecebjfcokmmkaaGreatDoor
open Go.RowKit Go.Shelf
set_option maxRecDepth 100000

/-- a row in memory -/
def rowIn (w : World) (p : Option Addr) (l : List Va) : Prop := l = [] ∨ ∃ g off, p = some ⟨g, off, none⟩ ∧ g < w.heap.size ∧
  ∀ i v, l[i]? = some v → w.cell? ⟨g, off + i * 3, none⟩ = some (.int .i64 v.ty) ∧ w.cell? ⟨g, off + i * 3 + 1, none⟩ = some (.int .i64 v.n) ∧ w.cell? ⟨g, off + i * 3 + 2, none⟩ = some (.string v.s)
theorem rowIn.below {w w' : World} {p : Option Addr} {l : List Va} (h : rowIn w p l) (hb : Below w.heap.size w w') : rowIn w' p l := by
  rcases h with h | ⟨g, off, h1, h2, h3⟩
  · exact Or.inl h
  · refine Or.inr ⟨g, off, h1, Nat.lt_of_lt_of_le h2 hb.size, fun i v hv => ?_⟩
    obtain ⟨c0, c1, c2⟩ := h3 i v hv
    exact ⟨(hb.cell (p := ⟨g, off + i * 3, none⟩) h2).trans c0, (hb.cell (p := ⟨g, off + i * 3 + 1, none⟩) h2).trans c1, (hb.cell (p := ⟨g, off + i * 3 + 2, none⟩) h2).trans c2⟩
abbrev vaV (v : Va) : Value := .agg #[.int .i64 v.ty, .int .i64 v.n, .string v.s]
theorem fitC_cases (c : Cl) (v : Va) : (¬ v.chk = 0 ∧ fitC c v = v.chk) ∨ (v.chk = 0 ∧ v.ty = 0 ∧ c.nn = true ∧ fitC c v = 81) ∨ (v.chk = 0 ∧ v.ty = 0 ∧ c.nn = false ∧ fitC c v = 0) ∨
    (v.chk = 0 ∧ ¬ v.ty = 0 ∧ ¬ v.ty = c.ty ∧ fitC c v = 7) ∨ (v.chk = 0 ∧ ¬ v.ty = 0 ∧ v.ty = c.ty ∧ v.ty = 3 ∧ c.mo < (v.s.size : Int) ∧ fitC c v = 2) ∨
    (v.chk = 0 ∧ ¬ v.ty = 0 ∧ v.ty = c.ty ∧ v.ty = 3 ∧ ¬ c.mo < (v.s.size : Int) ∧ fitC c v = 0) ∨ (v.chk = 0 ∧ ¬ v.ty = 0 ∧ v.ty = c.ty ∧ ¬ v.ty = 3 ∧ fitC c v = 0) := by
  unfold fitC
  by_cases h : v.chk = 0
  · rw [if_neg (fun e => e h)]
    by_cases h0 : v.ty = 0
    · rw [if_pos h0]
      cases hn : c.nn
      · exact Or.inr (Or.inr (Or.inl ⟨h, h0, rfl, rfl⟩))
      · exact Or.inr (Or.inl ⟨h, h0, rfl, rfl⟩)
    · rw [if_neg h0]
      by_cases h1 : v.ty = c.ty
      · rw [if_neg (fun e => e h1)]
        by_cases h3 : v.ty = 3
        · by_cases hm : c.mo < (v.s.size : Int)
          · exact Or.inr (Or.inr (Or.inr (Or.inr (Or.inl ⟨h, h0, h1, h3, hm, if_pos ⟨h3, hm⟩⟩))))
          · exact Or.inr (Or.inr (Or.inr (Or.inr (Or.inr (Or.inl ⟨h, h0, h1, h3, hm, if_neg (fun e => hm e.2)⟩)))))
        · exact Or.inr (Or.inr (Or.inr (Or.inr (Or.inr (Or.inr ⟨h, h0, h1, h3, if_neg (fun e => h3 e.1)⟩)))))
      · exact Or.inr (Or.inr (Or.inr (Or.inl ⟨h, h0, h1, if_pos h1⟩)))
  · exact Or.inl ⟨h, if_pos h⟩
theorem isNull_any (v : Va) (w : World) :
    Calls Tryz.prog 61 #[vaV v] w fun e w' => e = .returned (.bool (v.ty == 0)) ∧ Below w.heap.size w w' := by
  go_enter Tryz.func61, Tryz.ntmps61
  go_wp2_with fail
  go_ret
  exact ⟨rfl, (Below.refl _ w).alloc (Nat.le_refl _) _⟩

set_option maxHeartbeats 8000000 in
set_option maxRecDepth 1000000 in
theorem fitsCol_any (c : Cl) (v : Va) (w : World) (hs : v.s.size ≤ 9223372036854775807) (hT : Tabs w) :
    Calls Tryz.prog 44 #[clV c, vaV v] w fun e w' => e = .returned (.int .i64 (fitC c v)) ∧ Below w.heap.size w w' := by
  obtain ⟨W0, hW0⟩ : ∃ W0, W0 = w.alloc (.cells #[.string c.nm, .int .i64 c.ty, .int .i64 c.mo, .bool c.nn] 52) := ⟨_, rfl⟩
  have b0 : Below w.heap.size w W0 := by rw [hW0]; exact (Below.refl _ w).alloc (Nat.le_refl _) _
  have s0 : W0.heap.size = w.heap.size + 1 := by rw [hW0]; simp
  obtain ⟨W1, hW1⟩ : ∃ W1, W1 = W0.alloc (.cells #[.int .i64 v.ty, .int .i64 v.n, .string v.s] 56) := ⟨_, rfl⟩
  have b1 : Below W0.heap.size W0 W1 := by rw [hW1]; exact (Below.refl _ W0).alloc (Nat.le_refl _) _
  have B1 := mkHid (b0.trans (b1.mono b0.size))
  have c1 : W1.cell? ⟨w.heap.size, 1, none⟩ = some (.int .i64 c.ty) := (b1.cell (p := ⟨w.heap.size, 1, none⟩) (by show w.heap.size < _; omega)).trans (by rw [hW0]; simp)
  have c2 : W1.cell? ⟨w.heap.size, 2, none⟩ = some (.int .i64 c.mo) := (b1.cell (p := ⟨w.heap.size, 2, none⟩) (by show w.heap.size < _; omega)).trans (by rw [hW0]; simp)
  have c3 : W1.cell? ⟨w.heap.size, 3, none⟩ = some (.bool c.nn) := (b1.cell (p := ⟨w.heap.size, 3, none⟩) (by show w.heap.size < _; omega)).trans (by rw [hW0]; simp)
  have e0 : W1.cell? ⟨w.heap.size + 1, 0, none⟩ = some (.int .i64 v.ty) := by rw [hW1, ← s0]; simp
  have e1 : W1.cell? ⟨w.heap.size + 1, 1, none⟩ = some (.int .i64 v.n) := by rw [hW1, ← s0]; simp
  have e2 : W1.cell? ⟨w.heap.size + 1, 2, none⟩ = some (.string v.s) := by rw [hW1, ← s0]; simp
  have z1 : w.heap.size + 1 < W1.heap.size := by rw [hW1]; simp; omega
  have z2 : w.heap.size < W1.heap.size := by omega
  have CK : Hid (Calls Tryz.prog 60 #[vaV v] W1 fun e w' => e = .returned (.int .i64 v.chk) ∧ Below W1.heap.size W1 w') := Check_any v.ty v.n v.s W1 hs ((hT.below b0).below b1)
  have IN : Hid (∀ W, Calls Tryz.prog 61 #[vaV v] W fun e w' => e = .returned (.bool (v.ty == 0)) ∧ Below W.heap.size W w') := fun W => isNull_any v W
  clear b0 b1 s0 hT
  have FC := fitC_cases c v
  generalize fitC c v = E at *
  subst hW1 hW0
  rcases FC with ⟨h, eE⟩ | ⟨h, h0, hn, eE⟩ | ⟨h, h0, hn, eE⟩ | ⟨h, h0, h1, eE⟩ | ⟨h, h0, h1, h3, hm, eE⟩ | ⟨h, h0, h1, h3, hm, eE⟩ | ⟨h, h0, h1, h3, eE⟩
  · subst eE
    have a0 : (v.chk == 0) = false := by rw [beq_eq_false_iff_ne]; exact h
    have a1 : (v.chk != 0) = true := by rw [bne_iff_ne]; exact h
    generalize v.chk = G at *
    clear h
    go_enter Tryz.func44, Tryz.ntmps44
    go_wp2_with (go_at_call 60; refine CK.out.mono ?_; rintro e w2 ⟨rfl, hb⟩)
    go_ret
    exact ⟨rfl, B1.out.trans (hb.mono B1.out.size)⟩
  · subst eE
    have a2 : (v.ty == 0) = true := by rw [beq_iff_eq]; exact h0
    have a3 : (v.ty != 0) = false := by rw [h0]; rfl
    rw [h] at CK
    have HNN := mkHid hn
    clear hn
    rw [a2] at IN
    clear a2 a3
    clear h h0
    go_enter Tryz.func44, Tryz.ntmps44
    go_wp2_with (go_at_call 60; refine CK.out.mono ?_; rintro e w2 ⟨rfl, hb⟩; have c1' := (hb.cell (p := ⟨w.heap.size, 1, none⟩) z2).trans c1; have c2' := (hb.cell (p := ⟨w.heap.size, 2, none⟩) z2).trans c2; have c3' := (hb.cell (p := ⟨w.heap.size, 3, none⟩) z2).trans c3; have e0' := (hb.cell (p := ⟨w.heap.size + 1, 0, none⟩) z1).trans e0; have e1' := (hb.cell (p := ⟨w.heap.size + 1, 1, none⟩) z1).trans e1; have e2' := (hb.cell (p := ⟨w.heap.size + 1, 2, none⟩) z1).trans e2; have z1' := Nat.lt_of_lt_of_le z1 hb.size; have z2' := Nat.lt_of_lt_of_le z2 hb.size; rw [HNN.out] at c3')
    have B2 := mkHid (B1.out.trans (hb.mono B1.out.size))
    clear hb c1 c2 c3 e0 e1 e2 B1
    refine (IN.out _).mono ?_
    rintro e w3 ⟨rfl, hb⟩
    have c1 := (hb.cell (p := ⟨w.heap.size, 1, none⟩) z2').trans c1'
    have c2 := (hb.cell (p := ⟨w.heap.size, 2, none⟩) z2').trans c2'
    have c3 := (hb.cell (p := ⟨w.heap.size, 3, none⟩) z2').trans c3'
    have e0 := (hb.cell (p := ⟨w.heap.size + 1, 0, none⟩) z1').trans e0'
    have e1 := (hb.cell (p := ⟨w.heap.size + 1, 1, none⟩) z1').trans e1'
    have e2 := (hb.cell (p := ⟨w.heap.size + 1, 2, none⟩) z1').trans e2'
    have B3 := mkHid (B2.out.trans (hb.mono B2.out.size))
    have z1 := Nat.lt_of_lt_of_le z1' hb.size
    have z2 := Nat.lt_of_lt_of_le z2' hb.size
    clear hb c1' c2' c3' e0' e1' e2' B2
    go_wp2_with fail
    go_ret
    exact ⟨rfl, B3.out⟩
  · subst eE
    have a2 : (v.ty == 0) = true := by rw [beq_iff_eq]; exact h0
    have a3 : (v.ty != 0) = false := by rw [h0]; rfl
    have a6 : (v.ty == 3) = false := by rw [h0]; rfl
    rw [h] at CK
    have HNN := mkHid hn
    clear hn
    rw [a2] at IN
    clear a2 a3 a6
    clear h h0
    go_enter Tryz.func44, Tryz.ntmps44
    go_wp2_with (go_at_call 60; refine CK.out.mono ?_; rintro e w2 ⟨rfl, hb⟩; have c1' := (hb.cell (p := ⟨w.heap.size, 1, none⟩) z2).trans c1; have c2' := (hb.cell (p := ⟨w.heap.size, 2, none⟩) z2).trans c2; have c3' := (hb.cell (p := ⟨w.heap.size, 3, none⟩) z2).trans c3; have e0' := (hb.cell (p := ⟨w.heap.size + 1, 0, none⟩) z1).trans e0; have e1' := (hb.cell (p := ⟨w.heap.size + 1, 1, none⟩) z1).trans e1; have e2' := (hb.cell (p := ⟨w.heap.size + 1, 2, none⟩) z1).trans e2; have z1' := Nat.lt_of_lt_of_le z1 hb.size; have z2' := Nat.lt_of_lt_of_le z2 hb.size; rw [HNN.out] at c3')
    have B2 := mkHid (B1.out.trans (hb.mono B1.out.size))
    clear hb c1 c2 c3 e0 e1 e2 B1
    refine (IN.out _).mono ?_
    rintro e w3 ⟨rfl, hb⟩
    have c1 := (hb.cell (p := ⟨w.heap.size, 1, none⟩) z2').trans c1'
    have c2 := (hb.cell (p := ⟨w.heap.size, 2, none⟩) z2').trans c2'
    have c3 := (hb.cell (p := ⟨w.heap.size, 3, none⟩) z2').trans c3'
    have e0 := (hb.cell (p := ⟨w.heap.size + 1, 0, none⟩) z1').trans e0'
    have e1 := (hb.cell (p := ⟨w.heap.size + 1, 1, none⟩) z1').trans e1'
    have e2 := (hb.cell (p := ⟨w.heap.size + 1, 2, none⟩) z1').trans e2'
    have B3 := mkHid (B2.out.trans (hb.mono B2.out.size))
    have z1 := Nat.lt_of_lt_of_le z1' hb.size
    have z2 := Nat.lt_of_lt_of_le z2' hb.size
    clear hb c1' c2' c3' e0' e1' e2' B2
    go_wp2_with fail
    refine (IN.out _).mono ?_
    rintro e w4 ⟨rfl, hb⟩
    have c1' := (hb.cell (p := ⟨w.heap.size, 1, none⟩) z2).trans c1
    have c2' := (hb.cell (p := ⟨w.heap.size, 2, none⟩) z2).trans c2
    have c3' := (hb.cell (p := ⟨w.heap.size, 3, none⟩) z2).trans c3
    have e0' := (hb.cell (p := ⟨w.heap.size + 1, 0, none⟩) z1).trans e0
    have e1' := (hb.cell (p := ⟨w.heap.size + 1, 1, none⟩) z1).trans e1
    have e2' := (hb.cell (p := ⟨w.heap.size + 1, 2, none⟩) z1).trans e2
    have B4 := mkHid (B3.out.trans (hb.mono B3.out.size))
    clear hb c1 c2 c3 e0 e1 e2 B3
    go_wp2_with fail
    go_ret
    exact ⟨rfl, B4.out⟩
  · subst eE
    have a2 : (v.ty == 0) = false := by rw [beq_eq_false_iff_ne]; exact h0
    have a3 : (v.ty != 0) = true := by rw [bne_iff_ne]; exact h0
    have a4 : (v.ty == c.ty) = false := by rw [beq_eq_false_iff_ne]; exact h1
    have a5 : (v.ty != c.ty) = true := by rw [bne_iff_ne]; exact h1
    rw [h] at CK
    rw [a2] at IN
    clear h h0 h1
    go_enter Tryz.func44, Tryz.ntmps44
    go_wp2_with (go_at_call 60; refine CK.out.mono ?_; rintro e w2 ⟨rfl, hb⟩; have c1' := (hb.cell (p := ⟨w.heap.size, 1, none⟩) z2).trans c1; have c2' := (hb.cell (p := ⟨w.heap.size, 2, none⟩) z2).trans c2; have c3' := (hb.cell (p := ⟨w.heap.size, 3, none⟩) z2).trans c3; have e0' := (hb.cell (p := ⟨w.heap.size + 1, 0, none⟩) z1).trans e0; have e1' := (hb.cell (p := ⟨w.heap.size + 1, 1, none⟩) z1).trans e1; have e2' := (hb.cell (p := ⟨w.heap.size + 1, 2, none⟩) z1).trans e2; have z1' := Nat.lt_of_lt_of_le z1 hb.size; have z2' := Nat.lt_of_lt_of_le z2 hb.size)
    have B2 := mkHid (B1.out.trans (hb.mono B1.out.size))
    clear hb c1 c2 c3 e0 e1 e2 B1
    refine (IN.out _).mono ?_
    rintro e w3 ⟨rfl, hb⟩
    have c1 := (hb.cell (p := ⟨w.heap.size, 1, none⟩) z2').trans c1'
    have c2 := (hb.cell (p := ⟨w.heap.size, 2, none⟩) z2').trans c2'
    have c3 := (hb.cell (p := ⟨w.heap.size, 3, none⟩) z2').trans c3'
    have e0 := (hb.cell (p := ⟨w.heap.size + 1, 0, none⟩) z1').trans e0'
    have e1 := (hb.cell (p := ⟨w.heap.size + 1, 1, none⟩) z1').trans e1'
    have e2 := (hb.cell (p := ⟨w.heap.size + 1, 2, none⟩) z1').trans e2'
    have B3 := mkHid (B2.out.trans (hb.mono B2.out.size))
    have z1 := Nat.lt_of_lt_of_le z1' hb.size
    have z2 := Nat.lt_of_lt_of_le z2' hb.size
    clear hb c1' c2' c3' e0' e1' e2' B2
    go_wp2_with fail
    refine (IN.out _).mono ?_
    rintro e w4 ⟨rfl, hb⟩
    have c1' := (hb.cell (p := ⟨w.heap.size, 1, none⟩) z2).trans c1
    have c2' := (hb.cell (p := ⟨w.heap.size, 2, none⟩) z2).trans c2
    have c3' := (hb.cell (p := ⟨w.heap.size, 3, none⟩) z2).trans c3
    have e0' := (hb.cell (p := ⟨w.heap.size + 1, 0, none⟩) z1).trans e0
    have e1' := (hb.cell (p := ⟨w.heap.size + 1, 1, none⟩) z1).trans e1
    have e2' := (hb.cell (p := ⟨w.heap.size + 1, 2, none⟩) z1).trans e2
    have B4 := mkHid (B3.out.trans (hb.mono B3.out.size))
    clear hb c1 c2 c3 e0 e1 e2 B3
    go_wp2_with fail
    go_ret
    exact ⟨rfl, B4.out⟩
  · subst eE
    have a2 : (v.ty == 0) = false := by rw [beq_eq_false_iff_ne]; exact h0
    have a3 : (v.ty != 0) = true := by rw [bne_iff_ne]; exact h0
    have a4 : (v.ty == c.ty) = true := by rw [beq_iff_eq]; exact h1
    have a5 : (v.ty != c.ty) = false := by rw [bne, a4]; rfl
    have a6 : (v.ty == 3) = true := by rw [beq_iff_eq]; exact h3
    have a7 : decide (c.mo < (v.s.size : Int)) = true := decide_eq_true hm
    rw [h] at CK
    rw [a2] at IN
    clear h h0 h1 h3
    go_enter Tryz.func44, Tryz.ntmps44
    go_wp2_with (go_at_call 60; refine CK.out.mono ?_; rintro e w2 ⟨rfl, hb⟩; have c1' := (hb.cell (p := ⟨w.heap.size, 1, none⟩) z2).trans c1; have c2' := (hb.cell (p := ⟨w.heap.size, 2, none⟩) z2).trans c2; have c3' := (hb.cell (p := ⟨w.heap.size, 3, none⟩) z2).trans c3; have e0' := (hb.cell (p := ⟨w.heap.size + 1, 0, none⟩) z1).trans e0; have e1' := (hb.cell (p := ⟨w.heap.size + 1, 1, none⟩) z1).trans e1; have e2' := (hb.cell (p := ⟨w.heap.size + 1, 2, none⟩) z1).trans e2; have z1' := Nat.lt_of_lt_of_le z1 hb.size; have z2' := Nat.lt_of_lt_of_le z2 hb.size)
    have B2 := mkHid (B1.out.trans (hb.mono B1.out.size))
    clear hb c1 c2 c3 e0 e1 e2 B1
    refine (IN.out _).mono ?_
    rintro e w3 ⟨rfl, hb⟩
    have c1 := (hb.cell (p := ⟨w.heap.size, 1, none⟩) z2').trans c1'
    have c2 := (hb.cell (p := ⟨w.heap.size, 2, none⟩) z2').trans c2'
    have c3 := (hb.cell (p := ⟨w.heap.size, 3, none⟩) z2').trans c3'
    have e0 := (hb.cell (p := ⟨w.heap.size + 1, 0, none⟩) z1').trans e0'
    have e1 := (hb.cell (p := ⟨w.heap.size + 1, 1, none⟩) z1').trans e1'
    have e2 := (hb.cell (p := ⟨w.heap.size + 1, 2, none⟩) z1').trans e2'
    have B3 := mkHid (B2.out.trans (hb.mono B2.out.size))
    have z1 := Nat.lt_of_lt_of_le z1' hb.size
    have z2 := Nat.lt_of_lt_of_le z2' hb.size
    clear hb c1' c2' c3' e0' e1' e2' B2
    go_wp2_with fail
    refine (IN.out _).mono ?_
    rintro e w4 ⟨rfl, hb⟩
    have c1' := (hb.cell (p := ⟨w.heap.size, 1, none⟩) z2).trans c1
    have c2' := (hb.cell (p := ⟨w.heap.size, 2, none⟩) z2).trans c2
    have c3' := (hb.cell (p := ⟨w.heap.size, 3, none⟩) z2).trans c3
    have e0' := (hb.cell (p := ⟨w.heap.size + 1, 0, none⟩) z1).trans e0
    have e1' := (hb.cell (p := ⟨w.heap.size + 1, 1, none⟩) z1).trans e1
    have e2' := (hb.cell (p := ⟨w.heap.size + 1, 2, none⟩) z1).trans e2
    have B4 := mkHid (B3.out.trans (hb.mono B3.out.size))
    clear hb c1 c2 c3 e0 e1 e2 B3
    go_wp2_with fail
    go_ret
    exact ⟨rfl, B4.out⟩
  · subst eE
    have a2 : (v.ty == 0) = false := by rw [beq_eq_false_iff_ne]; exact h0
    have a3 : (v.ty != 0) = true := by rw [bne_iff_ne]; exact h0
    have a4 : (v.ty == c.ty) = true := by rw [beq_iff_eq]; exact h1
    have a5 : (v.ty != c.ty) = false := by rw [bne, a4]; rfl
    have a6 : (v.ty == 3) = true := by rw [beq_iff_eq]; exact h3
    have a7 : decide (c.mo < (v.s.size : Int)) = false := decide_eq_false hm
    rw [h] at CK
    rw [a2] at IN
    clear h h0 h1 h3
    go_enter Tryz.func44, Tryz.ntmps44
    go_wp2_with (go_at_call 60; refine CK.out.mono ?_; rintro e w2 ⟨rfl, hb⟩; have c1' := (hb.cell (p := ⟨w.heap.size, 1, none⟩) z2).trans c1; have c2' := (hb.cell (p := ⟨w.heap.size, 2, none⟩) z2).trans c2; have c3' := (hb.cell (p := ⟨w.heap.size, 3, none⟩) z2).trans c3; have e0' := (hb.cell (p := ⟨w.heap.size + 1, 0, none⟩) z1).trans e0; have e1' := (hb.cell (p := ⟨w.heap.size + 1, 1, none⟩) z1).trans e1; have e2' := (hb.cell (p := ⟨w.heap.size + 1, 2, none⟩) z1).trans e2; have z1' := Nat.lt_of_lt_of_le z1 hb.size; have z2' := Nat.lt_of_lt_of_le z2 hb.size)
    have B2 := mkHid (B1.out.trans (hb.mono B1.out.size))
    clear hb c1 c2 c3 e0 e1 e2 B1
    refine (IN.out _).mono ?_
    rintro e w3 ⟨rfl, hb⟩
    have c1 := (hb.cell (p := ⟨w.heap.size, 1, none⟩) z2').trans c1'
    have c2 := (hb.cell (p := ⟨w.heap.size, 2, none⟩) z2').trans c2'
    have c3 := (hb.cell (p := ⟨w.heap.size, 3, none⟩) z2').trans c3'
    have e0 := (hb.cell (p := ⟨w.heap.size + 1, 0, none⟩) z1').trans e0'
    have e1 := (hb.cell (p := ⟨w.heap.size + 1, 1, none⟩) z1').trans e1'
    have e2 := (hb.cell (p := ⟨w.heap.size + 1, 2, none⟩) z1').trans e2'
    have B3 := mkHid (B2.out.trans (hb.mono B2.out.size))
    have z1 := Nat.lt_of_lt_of_le z1' hb.size
    have z2 := Nat.lt_of_lt_of_le z2' hb.size
    clear hb c1' c2' c3' e0' e1' e2' B2
    go_wp2_with fail
    refine (IN.out _).mono ?_
    rintro e w4 ⟨rfl, hb⟩
    have c1' := (hb.cell (p := ⟨w.heap.size, 1, none⟩) z2).trans c1
    have c2' := (hb.cell (p := ⟨w.heap.size, 2, none⟩) z2).trans c2
    have c3' := (hb.cell (p := ⟨w.heap.size, 3, none⟩) z2).trans c3
    have e0' := (hb.cell (p := ⟨w.heap.size + 1, 0, none⟩) z1).trans e0
    have e1' := (hb.cell (p := ⟨w.heap.size + 1, 1, none⟩) z1).trans e1
    have e2' := (hb.cell (p := ⟨w.heap.size + 1, 2, none⟩) z1).trans e2
    have B4 := mkHid (B3.out.trans (hb.mono B3.out.size))
    clear hb c1 c2 c3 e0 e1 e2 B3
    go_wp2_with fail
    go_ret
    exact ⟨rfl, B4.out⟩
  · subst eE
    have a2 : (v.ty == 0) = false := by rw [beq_eq_false_iff_ne]; exact h0
    have a3 : (v.ty != 0) = true := by rw [bne_iff_ne]; exact h0
    have a4 : (v.ty == c.ty) = true := by rw [beq_iff_eq]; exact h1
    have a5 : (v.ty != c.ty) = false := by rw [bne, a4]; rfl
    have a6 : (v.ty == 3) = false := by rw [beq_eq_false_iff_ne]; exact h3
    rw [h] at CK
    rw [a2] at IN
    clear h h0 h1 h3
    go_enter Tryz.func44, Tryz.ntmps44
    go_wp2_with (go_at_call 60; refine CK.out.mono ?_; rintro e w2 ⟨rfl, hb⟩; have c1' := (hb.cell (p := ⟨w.heap.size, 1, none⟩) z2).trans c1; have c2' := (hb.cell (p := ⟨w.heap.size, 2, none⟩) z2).trans c2; have c3' := (hb.cell (p := ⟨w.heap.size, 3, none⟩) z2).trans c3; have e0' := (hb.cell (p := ⟨w.heap.size + 1, 0, none⟩) z1).trans e0; have e1' := (hb.cell (p := ⟨w.heap.size + 1, 1, none⟩) z1).trans e1; have e2' := (hb.cell (p := ⟨w.heap.size + 1, 2, none⟩) z1).trans e2; have z1' := Nat.lt_of_lt_of_le z1 hb.size; have z2' := Nat.lt_of_lt_of_le z2 hb.size)
    have B2 := mkHid (B1.out.trans (hb.mono B1.out.size))
    clear hb c1 c2 c3 e0 e1 e2 B1
    refine (IN.out _).mono ?_
    rintro e w3 ⟨rfl, hb⟩
    have c1 := (hb.cell (p := ⟨w.heap.size, 1, none⟩) z2').trans c1'
    have c2 := (hb.cell (p := ⟨w.heap.size, 2, none⟩) z2').trans c2'
    have c3 := (hb.cell (p := ⟨w.heap.size, 3, none⟩) z2').trans c3'
    have e0 := (hb.cell (p := ⟨w.heap.size + 1, 0, none⟩) z1').trans e0'
    have e1 := (hb.cell (p := ⟨w.heap.size + 1, 1, none⟩) z1').trans e1'
    have e2 := (hb.cell (p := ⟨w.heap.size + 1, 2, none⟩) z1').trans e2'
    have B3 := mkHid (B2.out.trans (hb.mono B2.out.size))
    have z1 := Nat.lt_of_lt_of_le z1' hb.size
    have z2 := Nat.lt_of_lt_of_le z2' hb.size
    clear hb c1' c2' c3' e0' e1' e2' B2
    go_wp2_with fail
    refine (IN.out _).mono ?_
    rintro e w4 ⟨rfl, hb⟩
    have c1' := (hb.cell (p := ⟨w.heap.size, 1, none⟩) z2).trans c1
    have c2' := (hb.cell (p := ⟨w.heap.size, 2, none⟩) z2).trans c2
    have c3' := (hb.cell (p := ⟨w.heap.size, 3, none⟩) z2).trans c3
    have e0' := (hb.cell (p := ⟨w.heap.size + 1, 0, none⟩) z1).trans e0
    have e1' := (hb.cell (p := ⟨w.heap.size + 1, 1, none⟩) z1).trans e1
    have e2' := (hb.cell (p := ⟨w.heap.size + 1, 2, none⟩) z1).trans e2
    have B4 := mkHid (B3.out.trans (hb.mono B3.out.size))
    clear hb c1 c2 c3 e0 e1 e2 B3
    go_wp2_with fail
    go_ret
    exact ⟨rfl, B4.out⟩
end Go.Proofs.YtecebjfcokmmkaaGreatDoor
