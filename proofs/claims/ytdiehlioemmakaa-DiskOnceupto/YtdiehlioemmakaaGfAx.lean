/-
  The walk of locksteplaw04's Images.
-/
import Derived.Test.YtdiehlioemmakaaGeFx
namespace Go.Proofs.Ytdiehlioemmakaa
open Go.RowKit Go.Maps Go.Joins

/-- an entry of an image in memory -/
structure enAt (w : World) (g i : Nat) (z : List UInt8 × (List UInt8 × Nat)) (Pz : Option Addr) (Cz : Nat) : Prop where
  n : w.cell? ⟨g, i * 3, none⟩ = some (.string ⟨z.1.toArray⟩)
  b : w.cell? ⟨g, i * 3 + 1, none⟩ = some (.slice Pz z.2.1.length Cz)
  k : w.cell? ⟨g, i * 3 + 2, none⟩ = some (.int .i64 (z.2.2 : Int))
  by_ : byIn w Pz z.2.1
  no : Pz = none → Cz = 0
/-- entries of an image in memory -/
def enIn (w : World) (P : Option Addr) (zs : List (List UInt8 × (List UInt8 × Nat))) : Prop := ∀ (i : Nat) (z : List UInt8 × (List UInt8 × Nat)), zs[i]? = some z → ∃ g Pz Cz, P = some ⟨g, 0, none⟩ ∧ enAt w g i z Pz Cz
theorem enIn.grow {w w' : World} {P : Option Addr} {zs : List (List UInt8 × (List UInt8 × Nat))} (h : enIn w P zs) (hg : w.grownBy w' none) : enIn w' P zs := fun i z hz => by
  obtain ⟨g, Pz, Cz, e, h1, h2, h3, h4, h5⟩ := h i z hz
  exact ⟨g, Pz, Cz, e, hg.cell h1 (by simp), hg.cell h2 (by simp), hg.cell h3 (by simp), h4.kept hg, h5⟩
theorem imgIn.en {w : World} {base : Nat} {P : Option Addr} {C L : Nat} {zs : List (List UInt8 × Fl)} (h : imgIn w base (.slice P L C) zs) (hL : zs.length = L) : enIn w P (absX zs) := fun i z hz => by
  obtain ⟨y, hy⟩ : ∃ y, zs[i]? = some y := by
    have hi := (List.getElem?_eq_some_iff.1 hz).1
    rw [abs_len] at hi
    exact ⟨zs[i], List.getElem?_eq_getElem hi⟩
  obtain ⟨g, e, h1, h2, h3, Pz, Cz, ez, ho⟩ := h.at_ hL hy
  have hz2 : z = (y.1, (y.2.l, y.2.k)) := by
    have : (absX zs)[i]? = some (y.1, (y.2.l, y.2.k)) := by simp [absX, hy]
    rw [this] at hz; exact (Option.some.inj hz).symm
  subst hz2
  have ob := own_by ho
  exact ⟨g, Pz, Cz, e, h1, by rw [h2, ez], h3, ob.1, ob.2.1⟩
set_option maxHeartbeats 8000000 in
set_option maxRecDepth 1000000 in
theorem Images_any (zs : List (List UInt8 × (List UInt8 × Nat))) (Pa Pb : Option Addr) (Ca Cb L : Nat) (w : World) (hL : zs.length = L) (hLb : L ≤ 1000) (ha : enIn w Pa zs) (hb : enIn w Pb zs) : Calls Try.prog 20 #[.slice Pa L Ca, .slice Pb L Cb] w fun e w' => e = .returned (.bool true) ∧ w.grownBy w' none := by
  have HA := mkHid ha
  have HB := mkHid hb
  have HL := mkHid hL
  clear ha hb hL
  go_enter Try.func20, Try.ntmps20
  go_wp2_with fail
  go_loopw [5] (fun s5 wr => ∃ (i : Nat), s5 = .int .i64 (i : Int) ∧ i ≤ L ∧ Hid (w.grownBy wr none)) (fun s5 _ => L - (intOf s5).toNat)
  case atStart => exact ⟨0, rfl, Nat.zero_le _, gr_refl w⟩
  case round =>
    obtain ⟨i, rfl, hi, GR⟩ := hrel
    by_cases hlt : i < L
    · have hlti : (i : Int) < (L : Int) := by omega
      obtain ⟨z, hz⟩ : ∃ z, zs[i]? = some z := ⟨zs[i]'(by have : zs.length = L := HL.out; omega), List.getElem?_eq_getElem _⟩
      obtain ⟨g1, Pz, Cz, rfl, a0, a1, a2, a3, a4⟩ := (HA.out.grow GR.out) i z hz
      obtain ⟨g2, Py, Cy, rfl, b0, b1, b2, b3, b4⟩ := (HB.out.grow GR.out) i z hz
      have cz := conv_by (a3.kept (gr_drew wr)) a4
      have cy := conv_by (b3.kept (gr_drew wr)) b4
      obtain ⟨n, hn5⟩ : ∃ n, n = z.1 := ⟨_, rfl⟩
      obtain ⟨l, hl5⟩ : ∃ l, l = z.2.1 := ⟨_, rfl⟩
      obtain ⟨k, hk5⟩ : ∃ k, k = z.2.2 := ⟨_, rfl⟩
      rw [← hn5] at a0 b0
      rw [← hl5] at a1 b1 cz cy
      rw [← hk5] at a2 b2
      obtain ⟨M, hM⟩ : ∃ M, M = l.length := ⟨_, rfl⟩
      rw [← hM] at a1 b1 cz cy
      have hl1 := World.block_lt_of_cell? wr _ a0
      have hl2 := World.block_lt_of_cell? wr _ b0
      clear a3 a4 b3 b4 hz hn5 hl5 hk5 hM
      have G7 := mkHid (gr_drew wr)
      go_wp2_with fail
      refine wp_region_noPanic ?_
      refine wp_region_held_drew (S := fun w' : World => w'.cell? ⟨g1, i * 3, none⟩ = some (.string ⟨n.toArray⟩) ∧ w'.cell? ⟨g1, i * 3 + 1, none⟩ = some (.slice Pz M Cz) ∧ w'.cell? ⟨g1, i * 3 + 2, none⟩ = some (.int .i64 (k : Int)) ∧ w'.cell? ⟨g2, i * 3, none⟩ = some (.string ⟨n.toArray⟩) ∧ w'.cell? ⟨g2, i * 3 + 1, none⟩ = some (.slice Py M Cy) ∧ w'.cell? ⟨g2, i * 3 + 2, none⟩ = some (.int .i64 (k : Int)) ∧ (convert 27 9 (.slice Pz M Cz)).run Try.prog w' = .ok (.string ⟨l.toArray⟩) w' ∧ (convert 27 9 (.slice Py M Cy)).run Try.prog w' = .ok (.string ⟨l.toArray⟩) w') (by kernel_rfl) (⟨a0, a1, a2, b0, b1, b2, cz, cy⟩) (fun hH => ?_)
      refine take_at (i := 0) (v := .slice (some ⟨g1, 0, none⟩) L Ca) rfl rfl (by kernel_rfl) (by kernel_rfl) (by kernel_rfl) (fun _ _ _ h => h) (Or.inl ⟨by rfl, ?_⟩) hH ?_
      · intro w5 hSw; obtain ⟨c0, c1, c2, d0, d1, d2, v1, v2⟩ := hSw; go_simp
      simp only [List.setIfInBounds_toArray, List.set_cons_zero, List.set_cons_succ]
      refine take_at (i := 1) (v := .int .i64 (i : Int)) rfl rfl (by kernel_rfl) (by kernel_rfl) (by kernel_rfl) (fun _ _ _ h => h) (Or.inl ⟨by rfl, ?_⟩) hH ?_
      · intro w5 hSw; obtain ⟨c0, c1, c2, d0, d1, d2, v1, v2⟩ := hSw; go_simp
      simp only [List.setIfInBounds_toArray, List.set_cons_zero, List.set_cons_succ]
      refine take_at (i := 2) (v := .pointer (some ⟨g1, i * 3, none⟩)) rfl rfl (by kernel_rfl) (by kernel_rfl) (by kernel_rfl) (fun _ _ _ h => h) (Or.inl ⟨by rfl, ?_⟩) hH ?_
      · intro w5 hSw; obtain ⟨c0, c1, c2, d0, d1, d2, v1, v2⟩ := hSw; go_simp
      simp only [List.setIfInBounds_toArray, List.set_cons_zero, List.set_cons_succ]
      refine take_at (i := 3) (v := .pointer (some ⟨g1, i * 3, none⟩)) rfl rfl (by kernel_rfl) (by kernel_rfl) (by kernel_rfl) (fun _ _ _ h => h) (Or.inl ⟨by rfl, ?_⟩) hH ?_
      · intro w5 hSw; obtain ⟨c0, c1, c2, d0, d1, d2, v1, v2⟩ := hSw; go_simp
      simp only [List.setIfInBounds_toArray, List.set_cons_zero, List.set_cons_succ]
      refine take_at (i := 4) (v := .string ⟨n.toArray⟩) rfl rfl (by kernel_rfl) (by kernel_rfl) (by kernel_rfl) (fun _ _ _ h => h) (Or.inl ⟨by rfl, ?_⟩) hH ?_
      · intro w5 hSw; obtain ⟨c0, c1, c2, d0, d1, d2, v1, v2⟩ := hSw; go_simp
      simp only [List.setIfInBounds_toArray, List.set_cons_zero, List.set_cons_succ]
      refine take_at (i := 5) (v := .slice (some ⟨g2, 0, none⟩) L Cb) rfl rfl (by kernel_rfl) (by kernel_rfl) (by kernel_rfl) (fun _ _ _ h => h) (Or.inl ⟨by rfl, ?_⟩) hH ?_
      · intro w5 hSw; obtain ⟨c0, c1, c2, d0, d1, d2, v1, v2⟩ := hSw; go_simp
      simp only [List.setIfInBounds_toArray, List.set_cons_zero, List.set_cons_succ]
      refine take_at (i := 6) (v := .int .i64 (i : Int)) rfl rfl (by kernel_rfl) (by kernel_rfl) (by kernel_rfl) (fun _ _ _ h => h) (Or.inl ⟨by rfl, ?_⟩) hH ?_
      · intro w5 hSw; obtain ⟨c0, c1, c2, d0, d1, d2, v1, v2⟩ := hSw; go_simp
      simp only [List.setIfInBounds_toArray, List.set_cons_zero, List.set_cons_succ]
      refine take_at (i := 7) (v := .pointer (some ⟨g2, i * 3, none⟩)) rfl rfl (by kernel_rfl) (by kernel_rfl) (by kernel_rfl) (fun _ _ _ h => h) (Or.inl ⟨by rfl, ?_⟩) hH ?_
      · intro w5 hSw; obtain ⟨c0, c1, c2, d0, d1, d2, v1, v2⟩ := hSw; go_simp
      simp only [List.setIfInBounds_toArray, List.set_cons_zero, List.set_cons_succ]
      refine take_at (i := 8) (v := .pointer (some ⟨g2, i * 3, none⟩)) rfl rfl (by kernel_rfl) (by kernel_rfl) (by kernel_rfl) (fun _ _ _ h => h) (Or.inl ⟨by rfl, ?_⟩) hH ?_
      · intro w5 hSw; obtain ⟨c0, c1, c2, d0, d1, d2, v1, v2⟩ := hSw; go_simp
      simp only [List.setIfInBounds_toArray, List.set_cons_zero, List.set_cons_succ]
      refine take_at (i := 9) (v := .string ⟨n.toArray⟩) rfl rfl (by kernel_rfl) (by kernel_rfl) (by kernel_rfl) (fun _ _ _ h => h) (Or.inl ⟨by rfl, ?_⟩) hH ?_
      · intro w5 hSw; obtain ⟨c0, c1, c2, d0, d1, d2, v1, v2⟩ := hSw; go_simp
      simp only [List.setIfInBounds_toArray, List.set_cons_zero, List.set_cons_succ]
      refine take_at (i := 10) (v := .bool false) rfl rfl (by kernel_rfl) (by kernel_rfl) (by kernel_rfl) (fun _ _ _ h => h) (Or.inl ⟨by rfl, ?_⟩) hH ?_
      · intro w5 hSw; obtain ⟨c0, c1, c2, d0, d1, d2, v1, v2⟩ := hSw; go_simp
      simp only [List.setIfInBounds_toArray, List.set_cons_zero, List.set_cons_succ]
      refine take_at (i := 11) (v := .bool false) rfl rfl (by kernel_rfl) (by kernel_rfl) (by kernel_rfl) (fun _ _ _ h => h) (Or.inl ⟨by rfl, ?_⟩) hH ?_
      · intro w5 hSw; obtain ⟨c0, c1, c2, d0, d1, d2, v1, v2⟩ := hSw; go_simp
      simp only [List.setIfInBounds_toArray, List.set_cons_zero, List.set_cons_succ]
      refine take_at (i := 12) (v := .slice (some ⟨g1, 0, none⟩) L Ca) rfl rfl (by kernel_rfl) (by kernel_rfl) (by kernel_rfl) (fun _ _ _ h => h) (Or.inl ⟨by rfl, ?_⟩) hH ?_
      · intro w5 hSw; obtain ⟨c0, c1, c2, d0, d1, d2, v1, v2⟩ := hSw; go_simp
      simp only [List.setIfInBounds_toArray, List.set_cons_zero, List.set_cons_succ]
      refine take_at (i := 13) (v := .int .i64 (i : Int)) rfl rfl (by kernel_rfl) (by kernel_rfl) (by kernel_rfl) (fun _ _ _ h => h) (Or.inl ⟨by rfl, ?_⟩) hH ?_
      · intro w5 hSw; obtain ⟨c0, c1, c2, d0, d1, d2, v1, v2⟩ := hSw; go_simp
      simp only [List.setIfInBounds_toArray, List.set_cons_zero, List.set_cons_succ]
      refine take_at (i := 14) (v := .pointer (some ⟨g1, i * 3, none⟩)) rfl rfl (by kernel_rfl) (by kernel_rfl) (by kernel_rfl) (fun _ _ _ h => h) (Or.inl ⟨by rfl, ?_⟩) hH ?_
      · intro w5 hSw; obtain ⟨c0, c1, c2, d0, d1, d2, v1, v2⟩ := hSw; go_simp
      simp only [List.setIfInBounds_toArray, List.set_cons_zero, List.set_cons_succ]
      refine take_at (i := 15) (v := .pointer (some ⟨g1, i * 3 + 2, none⟩)) rfl rfl (by kernel_rfl) (by kernel_rfl) (by kernel_rfl) (fun _ _ _ h => h) (Or.inl ⟨by rfl, ?_⟩) hH ?_
      · intro w5 hSw; obtain ⟨c0, c1, c2, d0, d1, d2, v1, v2⟩ := hSw; go_simp
      simp only [List.setIfInBounds_toArray, List.set_cons_zero, List.set_cons_succ]
      refine take_at (i := 16) (v := .int .i64 (k : Int)) rfl rfl (by kernel_rfl) (by kernel_rfl) (by kernel_rfl) (fun _ _ _ h => h) (Or.inl ⟨by rfl, ?_⟩) hH ?_
      · intro w5 hSw; obtain ⟨c0, c1, c2, d0, d1, d2, v1, v2⟩ := hSw; go_simp
      simp only [List.setIfInBounds_toArray, List.set_cons_zero, List.set_cons_succ]
      refine take_at (i := 17) (v := .slice (some ⟨g2, 0, none⟩) L Cb) rfl rfl (by kernel_rfl) (by kernel_rfl) (by kernel_rfl) (fun _ _ _ h => h) (Or.inl ⟨by rfl, ?_⟩) hH ?_
      · intro w5 hSw; obtain ⟨c0, c1, c2, d0, d1, d2, v1, v2⟩ := hSw; go_simp
      simp only [List.setIfInBounds_toArray, List.set_cons_zero, List.set_cons_succ]
      refine take_at (i := 18) (v := .int .i64 (i : Int)) rfl rfl (by kernel_rfl) (by kernel_rfl) (by kernel_rfl) (fun _ _ _ h => h) (Or.inl ⟨by rfl, ?_⟩) hH ?_
      · intro w5 hSw; obtain ⟨c0, c1, c2, d0, d1, d2, v1, v2⟩ := hSw; go_simp
      simp only [List.setIfInBounds_toArray, List.set_cons_zero, List.set_cons_succ]
      refine take_at (i := 19) (v := .pointer (some ⟨g2, i * 3, none⟩)) rfl rfl (by kernel_rfl) (by kernel_rfl) (by kernel_rfl) (fun _ _ _ h => h) (Or.inl ⟨by rfl, ?_⟩) hH ?_
      · intro w5 hSw; obtain ⟨c0, c1, c2, d0, d1, d2, v1, v2⟩ := hSw; go_simp
      simp only [List.setIfInBounds_toArray, List.set_cons_zero, List.set_cons_succ]
      refine take_at (i := 20) (v := .pointer (some ⟨g2, i * 3 + 2, none⟩)) rfl rfl (by kernel_rfl) (by kernel_rfl) (by kernel_rfl) (fun _ _ _ h => h) (Or.inl ⟨by rfl, ?_⟩) hH ?_
      · intro w5 hSw; obtain ⟨c0, c1, c2, d0, d1, d2, v1, v2⟩ := hSw; go_simp
      simp only [List.setIfInBounds_toArray, List.set_cons_zero, List.set_cons_succ]
      refine take_at (i := 21) (v := .int .i64 (k : Int)) rfl rfl (by kernel_rfl) (by kernel_rfl) (by kernel_rfl) (fun _ _ _ h => h) (Or.inl ⟨by rfl, ?_⟩) hH ?_
      · intro w5 hSw; obtain ⟨c0, c1, c2, d0, d1, d2, v1, v2⟩ := hSw; go_simp
      simp only [List.setIfInBounds_toArray, List.set_cons_zero, List.set_cons_succ]
      refine take_at (i := 22) (v := .bool false) rfl rfl (by kernel_rfl) (by kernel_rfl) (by kernel_rfl) (fun _ _ _ h => h) (Or.inl ⟨by rfl, ?_⟩) hH ?_
      · intro w5 hSw; obtain ⟨c0, c1, c2, d0, d1, d2, v1, v2⟩ := hSw; go_simp
      simp only [List.setIfInBounds_toArray, List.set_cons_zero, List.set_cons_succ]
      refine take_at (i := 23) (v := .bool false) rfl rfl (by kernel_rfl) (by kernel_rfl) (by kernel_rfl) (fun _ _ _ h => h) (Or.inl ⟨by rfl, ?_⟩) hH ?_
      · intro w5 hSw; obtain ⟨c0, c1, c2, d0, d1, d2, v1, v2⟩ := hSw; go_simp
      simp only [List.setIfInBounds_toArray, List.set_cons_zero, List.set_cons_succ]
      refine take_at (i := 24) (v := .bool false) rfl rfl (by kernel_rfl) (by kernel_rfl) (by kernel_rfl) (fun _ _ _ h => h) (Or.inl ⟨by rfl, ?_⟩) hH ?_
      · intro w5 hSw; obtain ⟨c0, c1, c2, d0, d1, d2, v1, v2⟩ := hSw; go_simp
      simp only [List.setIfInBounds_toArray, List.set_cons_zero, List.set_cons_succ]
      refine take_at (i := 25) (v := .slice (some ⟨g1, 0, none⟩) L Ca) rfl rfl (by kernel_rfl) (by kernel_rfl) (by kernel_rfl) (fun _ _ _ h => h) (Or.inl ⟨by rfl, ?_⟩) hH ?_
      · intro w5 hSw; obtain ⟨c0, c1, c2, d0, d1, d2, v1, v2⟩ := hSw; go_simp
      simp only [List.setIfInBounds_toArray, List.set_cons_zero, List.set_cons_succ]
      refine take_at (i := 26) (v := .int .i64 (i : Int)) rfl rfl (by kernel_rfl) (by kernel_rfl) (by kernel_rfl) (fun _ _ _ h => h) (Or.inl ⟨by rfl, ?_⟩) hH ?_
      · intro w5 hSw; obtain ⟨c0, c1, c2, d0, d1, d2, v1, v2⟩ := hSw; go_simp
      simp only [List.setIfInBounds_toArray, List.set_cons_zero, List.set_cons_succ]
      refine take_at (i := 27) (v := .pointer (some ⟨g1, i * 3, none⟩)) rfl rfl (by kernel_rfl) (by kernel_rfl) (by kernel_rfl) (fun _ _ _ h => h) (Or.inl ⟨by rfl, ?_⟩) hH ?_
      · intro w5 hSw; obtain ⟨c0, c1, c2, d0, d1, d2, v1, v2⟩ := hSw; go_simp
      simp only [List.setIfInBounds_toArray, List.set_cons_zero, List.set_cons_succ]
      refine take_at (i := 28) (v := .pointer (some ⟨g1, i * 3 + 1, none⟩)) rfl rfl (by kernel_rfl) (by kernel_rfl) (by kernel_rfl) (fun _ _ _ h => h) (Or.inl ⟨by rfl, ?_⟩) hH ?_
      · intro w5 hSw; obtain ⟨c0, c1, c2, d0, d1, d2, v1, v2⟩ := hSw; go_simp
      simp only [List.setIfInBounds_toArray, List.set_cons_zero, List.set_cons_succ]
      refine take_at (i := 29) (v := .slice Pz M Cz) rfl rfl (by kernel_rfl) (by kernel_rfl) (by kernel_rfl) (fun _ _ _ h => h) (Or.inl ⟨by rfl, ?_⟩) hH ?_
      · intro w5 hSw; obtain ⟨c0, c1, c2, d0, d1, d2, v1, v2⟩ := hSw; go_simp
      simp only [List.setIfInBounds_toArray, List.set_cons_zero, List.set_cons_succ]
      refine take_at (i := 30) (v := .string ⟨l.toArray⟩) rfl rfl (by kernel_rfl) (by kernel_rfl) (by kernel_rfl) (fun _ _ _ h => h) (Or.inl ⟨by rfl, ?_⟩) hH ?_
      · intro w5 hSw; obtain ⟨c0, c1, c2, d0, d1, d2, v1, v2⟩ := hSw; go_simp
      simp only [List.setIfInBounds_toArray, List.set_cons_zero, List.set_cons_succ]
      refine take_at (i := 31) (v := .slice (some ⟨g2, 0, none⟩) L Cb) rfl rfl (by kernel_rfl) (by kernel_rfl) (by kernel_rfl) (fun _ _ _ h => h) (Or.inl ⟨by rfl, ?_⟩) hH ?_
      · intro w5 hSw; obtain ⟨c0, c1, c2, d0, d1, d2, v1, v2⟩ := hSw; go_simp
      simp only [List.setIfInBounds_toArray, List.set_cons_zero, List.set_cons_succ]
      refine take_at (i := 32) (v := .int .i64 (i : Int)) rfl rfl (by kernel_rfl) (by kernel_rfl) (by kernel_rfl) (fun _ _ _ h => h) (Or.inl ⟨by rfl, ?_⟩) hH ?_
      · intro w5 hSw; obtain ⟨c0, c1, c2, d0, d1, d2, v1, v2⟩ := hSw; go_simp
      simp only [List.setIfInBounds_toArray, List.set_cons_zero, List.set_cons_succ]
      refine take_at (i := 33) (v := .pointer (some ⟨g2, i * 3, none⟩)) rfl rfl (by kernel_rfl) (by kernel_rfl) (by kernel_rfl) (fun _ _ _ h => h) (Or.inl ⟨by rfl, ?_⟩) hH ?_
      · intro w5 hSw; obtain ⟨c0, c1, c2, d0, d1, d2, v1, v2⟩ := hSw; go_simp
      simp only [List.setIfInBounds_toArray, List.set_cons_zero, List.set_cons_succ]
      refine take_at (i := 34) (v := .pointer (some ⟨g2, i * 3 + 1, none⟩)) rfl rfl (by kernel_rfl) (by kernel_rfl) (by kernel_rfl) (fun _ _ _ h => h) (Or.inl ⟨by rfl, ?_⟩) hH ?_
      · intro w5 hSw; obtain ⟨c0, c1, c2, d0, d1, d2, v1, v2⟩ := hSw; go_simp
      simp only [List.setIfInBounds_toArray, List.set_cons_zero, List.set_cons_succ]
      refine take_at (i := 35) (v := .slice Py M Cy) rfl rfl (by kernel_rfl) (by kernel_rfl) (by kernel_rfl) (fun _ _ _ h => h) (Or.inl ⟨by rfl, ?_⟩) hH ?_
      · intro w5 hSw; obtain ⟨c0, c1, c2, d0, d1, d2, v1, v2⟩ := hSw; go_simp
      simp only [List.setIfInBounds_toArray, List.set_cons_zero, List.set_cons_succ]
      refine take_at (i := 36) (v := .string ⟨l.toArray⟩) rfl rfl (by kernel_rfl) (by kernel_rfl) (by kernel_rfl) (fun _ _ _ h => h) (Or.inl ⟨by rfl, ?_⟩) hH ?_
      · intro w5 hSw; obtain ⟨c0, c1, c2, d0, d1, d2, v1, v2⟩ := hSw; go_simp
      simp only [List.setIfInBounds_toArray, List.set_cons_zero, List.set_cons_succ]
      refine take_at (i := 37) (v := .bool false) rfl rfl (by kernel_rfl) (by kernel_rfl) (by kernel_rfl) (fun _ _ _ h => h) (Or.inl ⟨by rfl, ?_⟩) hH ?_
      · intro w5 hSw; obtain ⟨c0, c1, c2, d0, d1, d2, v1, v2⟩ := hSw; go_simp
      simp only [List.setIfInBounds_toArray, List.set_cons_zero, List.set_cons_succ]
      refine take_at (i := 38) (v := .bool false) rfl rfl (by kernel_rfl) (by kernel_rfl) (by kernel_rfl) (fun _ _ _ h => h) (Or.inl ⟨by rfl, ?_⟩) hH ?_
      · intro w5 hSw; obtain ⟨c0, c1, c2, d0, d1, d2, v1, v2⟩ := hSw; go_simp
      simp only [List.setIfInBounds_toArray, List.set_cons_zero, List.set_cons_succ]
      refine wpAnyH_done (by kernel_rfl) ?_ _
      refine NoPanic.normal ?_
      go_wp2_with fail
      go_roundw
      case rel => exact ⟨i + 1, by go_num, hlt, grTrans GR.out G7.out⟩
      case measure => simp [intOf]; omega
    · have hlti : ¬ (i : Int) < (L : Int) := by omega
      go_wp2_with fail
      go_ret
      exact ⟨rfl, GR.out⟩
end Go.Proofs.Ytdiehlioemmakaa
