/-
  The walk of expr.Parts' closure.
-/
import Derived.Test.YtokppkinhlcafaaGreatDoorExQ
namespace Go.Proofs.YtokppkinhlcafaaGreatDoor
open Go.RowKit Go.Joins
set_option maxRecDepth 100000

theorem eg_split : ∀ args w, (callFunc 14 args).run Tryz.prog w = .ok (.enter 14 args) w := enters_of Tryz.func14 (by kernel_rfl) rfl
/-- what the closure's call asks and leaves -/
def SpQ (W : World) (sb pb m n : Nat) : Prop := ∀ (S : Nat → Prop) (x : Ex) (p s : Nat) (P : Option Addr) (C : Nat) (w : World) (l : List Ex), nine W p s x P C → p ≠ pb → exIn W S n x (exC x P C) → (∀ q, S q → q < W.heap.size ∧ q ≠ pb) → PaS W w pb m l → l.length + (exP n x).length ≤ 100000000 → Calls Tryz.prog 14 #[.pointer (some ⟨p, s, none⟩), .pointer (some ⟨sb, 0, none⟩), .pointer (some ⟨pb, 0, none⟩)] w fun e w' => e = .returned (.tuple #[]) ∧ PaS W w' pb m (l ++ exP n x)
set_option maxHeartbeats 4000000 in
set_option maxRecDepth 1000000 in
theorem split_two (W : World) (sb pb m n : Nat) (hsb : W.cell? ⟨sb, 0, none⟩ = some (.func (.func 14) #[] #[.pointer (some ⟨sb, 0, none⟩), .pointer (some ⟨pb, 0, none⟩)])) (hne : sb ≠ pb) (IH : SpQ W sb pb m n) (S : Nat → Prop) (a x y : Ex) (p s : Nat) (P : Option Addr) (C : Nat) (w : World) (l : List Ex) (c : nine W p s a P C) (hp : p ≠ pb) (ha : exIn W S (n + 1) a (exC a P C)) (hS : ∀ q, S q → q < W.heap.size ∧ q ≠ pb) (hs : PaS W w pb m l) (hl : l.length + (exP n x).length + (exP n y).length ≤ 100000000) (hop : a.op = bAnd) (hxy : a.parts = [x, y]) :
    Calls Tryz.prog 14 #[.pointer (some ⟨p, s, none⟩), .pointer (some ⟨sb, 0, none⟩), .pointer (some ⟨pb, 0, none⟩)] w fun e w' => e = .returned (.tuple #[]) ∧ PaS W w' pb m (l ++ exP n x ++ exP n y) := by
  have hlen : a.parts.length = 2 := by rw [hxy]; rfl
  obtain ⟨g, o, Px, Cx, rfl, ix, cx⟩ := ha.part (k := 0) (x := x) (by rw [hxy]; rfl)
  obtain ⟨g', o', Py, Cy, e1, iy, cy⟩ := ha.part (k := 1) (x := y) (by rw [hxy]; rfl)
  cases e1
  have hg : g ≠ pb := by
    obtain ⟨P', C', e1, _, _, h2⟩ := ha
    unfold exC at e1
    injection e1 with _ e1
    injection e1 with e1 _
    injection e1 with e1 _ _
    rcases h2 with h2 | ⟨g2, o2, h2, h3, _⟩
    · rw [h2] at hxy; cases hxy
    · rw [h2] at e1; cases e1; exact (hS _ h3).2
  have h2 : ((a.parts.length : Int) == 2) = true := by rw [hlen]; rfl
  have hl0 : (0 : Int) < (a.parts.length : Int) := by omega
  have hl9 : 0 < a.parts.length := by omega
  have hl8 : ¬ a.parts = [] := by rw [hxy]; simp
  have hl1 : (1 : Int) < (a.parts.length : Int) := by omega
  have h4 : (a.op.toList == [97, 110, 100]) = true := by rw [hop, ByteArray.toList_eq]; rfl
  have h5 : a.op.toList = [97, 110, 100] := by rw [hop, ByteArray.toList_eq]; rfl
  have OX : Hid (∀ w, PaS W w pb m l → l.length + (exP n x).length ≤ 100000000 → Calls Tryz.prog 14 #[.pointer (some ⟨g, o, none⟩), .pointer (some ⟨sb, 0, none⟩), .pointer (some ⟨pb, 0, none⟩)] w fun e w' => e = .returned (.tuple #[]) ∧ PaS W w' pb m (l ++ exP n x)) := fun w hw hq => IH S x g o Px Cx w l (nine_of (fun r u hr => by have := cx r u hr; simpa using this)) hg ix hS hw hq
  have OY : Hid (∀ w, PaS W w pb m (l ++ exP n x) → (l ++ exP n x).length + (exP n y).length ≤ 100000000 → Calls Tryz.prog 14 #[.pointer (some ⟨g, o + 9, none⟩), .pointer (some ⟨sb, 0, none⟩), .pointer (some ⟨pb, 0, none⟩)] w fun e w' => e = .returned (.tuple #[]) ∧ PaS W w' pb m (l ++ exP n x ++ exP n y)) := fun w hw hq => IH S y g (o + 9) Py Cy w (l ++ exP n x) (nine_of (fun r u hr => by have := cy r u hr; simpa using this)) hg iy hS hw hq
  have CS : Hid (∀ w', Sto pb W w' → w'.cell? ⟨sb, 0, none⟩ = some (.func (.func 14) #[] #[.pointer (some ⟨sb, 0, none⟩), .pointer (some ⟨pb, 0, none⟩)])) := fun w' h => h.cell hne hsb
  have CP : Hid (∀ w', Sto pb W w' → w'.cell? ⟨p, s + 1, none⟩ = some (.slice (some ⟨g, o, none⟩) a.parts.length C)) := fun w' h => h.cell hp c.2.1
  have P0 := mkHid hs.drew
  have k0 := hs.1.cell hp c.1
  have k1 := hs.1.cell hp c.2.1
  replace hl := mkHid hl
  have eg := eg_split
  clear hlen hS ix iy cx cy ha hop hxy hg hs c hsb IH
  go_enter Tryz.func14, Tryz.ntmps14
  go_wp2_with fail
  refine wp_region_noPanic ?_
  refine wp_region_held_drew (S := (fun w' : World => w'.cell? ⟨sb, 0, none⟩ = some (.func (.func 14) #[] #[.pointer (some ⟨sb, 0, none⟩), .pointer (some ⟨pb, 0, none⟩)]) ∧ w'.cell? ⟨p, s + 1, none⟩ = some (.slice (some ⟨g, o, none⟩) a.parts.length C))) (by kernel_rfl) ⟨CS.out _ (P0.out).1, CP.out _ (P0.out).1⟩ (fun hH => ?_)
  refine take_at (i := 0) (v := .func (.func 14) #[] #[.pointer (some ⟨sb, 0, none⟩), .pointer (some ⟨pb, 0, none⟩)]) rfl rfl (by kernel_rfl) (by kernel_rfl) (by kernel_rfl) (fun _ _ _ h => h) (Or.inl ⟨by rfl, ?_⟩) hH ?_
  · intro w5 hSw; obtain ⟨s0, s1⟩ := hSw; go_simp
  simp only [List.setIfInBounds_toArray, List.set_cons_zero, List.set_cons_succ]
  refine take_at (i := 1) (v := .pointer (some ⟨p, s, none⟩)) rfl rfl (by kernel_rfl) (by kernel_rfl) (by kernel_rfl) (fun _ _ _ h => h) (Or.inl ⟨by rfl, ?_⟩) hH ?_
  · intro w5 hSw; obtain ⟨s0, s1⟩ := hSw; go_simp
  simp only [List.setIfInBounds_toArray, List.set_cons_zero, List.set_cons_succ]
  refine take_at (i := 2) (v := .pointer (some ⟨p, s, none⟩)) rfl rfl (by kernel_rfl) (by kernel_rfl) (by kernel_rfl) (fun _ _ _ h => h) (Or.inl ⟨by rfl, ?_⟩) hH ?_
  · intro w5 hSw; obtain ⟨s0, s1⟩ := hSw; go_simp
  simp only [List.setIfInBounds_toArray, List.set_cons_zero, List.set_cons_succ]
  refine take_at (i := 3) (v := .pointer (some ⟨p, s + 1, none⟩)) rfl rfl (by kernel_rfl) (by kernel_rfl) (by kernel_rfl) (fun _ _ _ h => h) (Or.inl ⟨by rfl, ?_⟩) hH ?_
  · intro w5 hSw; obtain ⟨s0, s1⟩ := hSw; go_simp
  simp only [List.setIfInBounds_toArray, List.set_cons_zero, List.set_cons_succ]
  refine take_at (i := 4) (v := .slice (some ⟨g, o, none⟩) a.parts.length C) rfl rfl (by kernel_rfl) (by kernel_rfl) (by kernel_rfl) (fun _ _ _ h => h) (Or.inl ⟨by rfl, ?_⟩) hH ?_
  · intro w5 hSw; obtain ⟨s0, s1⟩ := hSw; go_simp
  simp only [List.setIfInBounds_toArray, List.set_cons_zero, List.set_cons_succ]
  refine take_at (i := 5) (v := .pointer (some ⟨g, o, none⟩)) rfl rfl (by kernel_rfl) (by kernel_rfl) (by kernel_rfl) (fun _ _ _ h => h) (Or.inl ⟨by rfl, ?_⟩) hH ?_
  · intro w5 hSw; obtain ⟨s0, s1⟩ := hSw; go_simp
  simp only [List.setIfInBounds_toArray, List.set_cons_zero, List.set_cons_succ]
  refine wpAnyH_ready (rs := [6]) (by kernel_rfl) (by simp) ?_
  refine AllReadyH.cons rfl (fun K hK => ?_) AllReadyH.nil
  go_simp
  go_at_fn 14
  refine (OX.out _ P0.out (by have := hl.out; omega)).mono ?_
  rintro e w1 ⟨rfl, p9⟩
  have P1 := mkHid p9
  clear p9
  go_wp2_with fail
  refine hK.out _ _ ⟨CS.out _ (P1.out).1, CP.out _ (P1.out).1⟩ (fun hH => ?_)
  clear hK K
  refine wpAnyH_done (by kernel_rfl) ?_ _
  refine NoPanic.normal ?_
  clear hH
  have P1D := mkHid P1.out.drew
  go_wp2_with fail
  refine wp_region_noPanic ?_
  refine wp_region_held_drew (S := (fun w' : World => w'.cell? ⟨sb, 0, none⟩ = some (.func (.func 14) #[] #[.pointer (some ⟨sb, 0, none⟩), .pointer (some ⟨pb, 0, none⟩)]) ∧ w'.cell? ⟨p, s + 1, none⟩ = some (.slice (some ⟨g, o, none⟩) a.parts.length C))) (by kernel_rfl) ⟨CS.out _ (P1D.out).1, CP.out _ (P1D.out).1⟩ (fun hH => ?_)
  refine take_at (i := 0) (v := .func (.func 14) #[] #[.pointer (some ⟨sb, 0, none⟩), .pointer (some ⟨pb, 0, none⟩)]) rfl rfl (by kernel_rfl) (by kernel_rfl) (by kernel_rfl) (fun _ _ _ h => h) (Or.inl ⟨by rfl, ?_⟩) hH ?_
  · intro w5 hSw; obtain ⟨s0, s1⟩ := hSw; go_simp
  simp only [List.setIfInBounds_toArray, List.set_cons_zero, List.set_cons_succ]
  refine take_at (i := 1) (v := .pointer (some ⟨p, s, none⟩)) rfl rfl (by kernel_rfl) (by kernel_rfl) (by kernel_rfl) (fun _ _ _ h => h) (Or.inl ⟨by rfl, ?_⟩) hH ?_
  · intro w5 hSw; obtain ⟨s0, s1⟩ := hSw; go_simp
  simp only [List.setIfInBounds_toArray, List.set_cons_zero, List.set_cons_succ]
  refine take_at (i := 2) (v := .pointer (some ⟨p, s, none⟩)) rfl rfl (by kernel_rfl) (by kernel_rfl) (by kernel_rfl) (fun _ _ _ h => h) (Or.inl ⟨by rfl, ?_⟩) hH ?_
  · intro w5 hSw; obtain ⟨s0, s1⟩ := hSw; go_simp
  simp only [List.setIfInBounds_toArray, List.set_cons_zero, List.set_cons_succ]
  refine take_at (i := 3) (v := .pointer (some ⟨p, s + 1, none⟩)) rfl rfl (by kernel_rfl) (by kernel_rfl) (by kernel_rfl) (fun _ _ _ h => h) (Or.inl ⟨by rfl, ?_⟩) hH ?_
  · intro w5 hSw; obtain ⟨s0, s1⟩ := hSw; go_simp
  simp only [List.setIfInBounds_toArray, List.set_cons_zero, List.set_cons_succ]
  refine take_at (i := 4) (v := .slice (some ⟨g, o, none⟩) a.parts.length C) rfl rfl (by kernel_rfl) (by kernel_rfl) (by kernel_rfl) (fun _ _ _ h => h) (Or.inl ⟨by rfl, ?_⟩) hH ?_
  · intro w5 hSw; obtain ⟨s0, s1⟩ := hSw; go_simp
  simp only [List.setIfInBounds_toArray, List.set_cons_zero, List.set_cons_succ]
  refine take_at (i := 5) (v := .pointer (some ⟨g, o + 9, none⟩)) rfl rfl (by kernel_rfl) (by kernel_rfl) (by kernel_rfl) (fun _ _ _ h => h) (Or.inl ⟨by rfl, ?_⟩) hH ?_
  · intro w5 hSw; obtain ⟨s0, s1⟩ := hSw; go_simp
  simp only [List.setIfInBounds_toArray, List.set_cons_zero, List.set_cons_succ]
  refine wpAnyH_ready (rs := [6]) (by kernel_rfl) (by simp) ?_
  refine AllReadyH.cons rfl (fun K hK => ?_) AllReadyH.nil
  go_simp
  go_at_fn 14
  refine (OY.out _ P1D.out (by have := hl.out; simp; omega)).mono ?_
  rintro e w2 ⟨rfl, p9⟩
  have P2 := mkHid p9
  clear p9
  go_wp2_with fail
  refine hK.out _ _ ⟨CS.out _ (P2.out).1, CP.out _ (P2.out).1⟩ (fun hH => ?_)
  clear hK K
  refine wpAnyH_done (by kernel_rfl) ?_ _
  refine NoPanic.normal ?_
  clear hH
  go_wp2_with fail
  first | go_end0 | refine bodyPost_ret (results_none rfl _ _ _) rfl ?_
  exact ⟨rfl, P2.out⟩
end Go.Proofs.YtokppkinhlcafaaGreatDoor
