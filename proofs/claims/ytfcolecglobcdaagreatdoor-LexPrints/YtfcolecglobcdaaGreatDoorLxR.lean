/-
  The walks of lockstepref01.Plain, and of the statements' same and tokens, of tokens that are the same.
-/
import Derived.Test.YtfcolecglobcdaaGreatDoorLxL
namespace Go.Proofs.YtfcolecglobcdaaGreatDoor
open Go.RowKit Go.Shelf

/-- a value without what plays no part -/
def pln (v : Va) : Va := if v.ty = 1 ∨ v.ty = 2 ∨ v.ty = 4 then ⟨v.ty, v.n, ⟨#[]⟩⟩ else if v.ty = 3 then ⟨3, 0, v.s⟩ else ⟨0, 0, ⟨#[]⟩⟩
set_option maxHeartbeats 2000000 in
set_option maxRecDepth 1000000 in
theorem Plain_any (v : Va) (w : World) : Calls Tryz.prog 61 #[.agg #[.int .i64 v.ty, .int .i64 v.n, .string v.s]] w fun e w' => e = .returned (.agg #[.int .i64 (pln v).ty, .int .i64 (pln v).n, .string (pln v).s]) ∧ Below w.heap.size w w' := by
  obtain ⟨ty, n, s⟩ := v
  unfold pln
  simp only
  have hb : ∀ o1 o2 : Obj, Below w.heap.size w ((w.alloc o1).alloc o2) := fun o1 o2 => ((Below.refl _ w).alloc (Nat.le_refl _) _).alloc (by simp) _
  by_cases h1 : ty = 1
  · rw [if_pos (Or.inl h1)]
    have b1 : (ty == 1) = true := by rw [h1]; rfl
    clear h1
    go_enter Tryz.func61, Tryz.ntmps61
    go_wp2_with fail
    refine bodyPost_ret (v := .agg #[.int .i64 ty, .int .i64 n, .string ⟨#[]⟩]) (by simp [results, Tryz.results61, go_sem]) rfl ⟨rfl, hb _ _⟩
  have b1 : (ty == 1) = false := by rw [beq_eq_false_iff_ne]; exact h1
  by_cases h2 : ty = 2
  · rw [if_pos (Or.inr (Or.inl h2))]
    have b2 : (ty == 2) = true := by rw [h2]; rfl
    clear h1 h2
    go_enter Tryz.func61, Tryz.ntmps61
    go_wp2_with fail
    refine bodyPost_ret (v := .agg #[.int .i64 ty, .int .i64 n, .string ⟨#[]⟩]) (by simp [results, Tryz.results61, go_sem]) rfl ⟨rfl, hb _ _⟩
  have b2 : (ty == 2) = false := by rw [beq_eq_false_iff_ne]; exact h2
  by_cases h4 : ty = 4
  · rw [if_pos (Or.inr (Or.inr h4))]
    have b4 : (ty == 4) = true := by rw [h4]; rfl
    clear h1 h2 h4
    go_enter Tryz.func61, Tryz.ntmps61
    go_wp2_with fail
    refine bodyPost_ret (v := .agg #[.int .i64 ty, .int .i64 n, .string ⟨#[]⟩]) (by simp [results, Tryz.results61, go_sem]) rfl ⟨rfl, hb _ _⟩
  have b4 : (ty == 4) = false := by rw [beq_eq_false_iff_ne]; exact h4
  rw [if_neg (fun h => h.elim h1 (fun h => h.elim h2 h4))]
  by_cases h3 : ty = 3
  · rw [if_pos h3]
    subst h3
    clear h1 h2 h4
    go_enter Tryz.func61, Tryz.ntmps61
    go_wp2_with fail
    refine bodyPost_ret (v := .agg #[.int .i64 3, .int .i64 0, .string s]) (by simp [results, Tryz.results61, go_sem]) rfl ⟨rfl, hb _ _⟩
  · rw [if_neg h3]
    have b3 : (ty == 3) = false := by rw [beq_eq_false_iff_ne]; exact h3
    clear h1 h2 h4 h3
    go_enter Tryz.func61, Tryz.ntmps61
    go_wp2_with fail
    refine bodyPost_ret (v := .agg #[.int .i64 0, .int .i64 0, .string ⟨#[]⟩]) (by simp [results, Tryz.results61, go_sem]) rfl ⟨rfl, hb _ _⟩
set_option maxHeartbeats 2000000 in
set_option maxRecDepth 1000000 in
theorem same_at (t : Tk) (w : World) : Calls Tryz.prog 38 #[.agg #[.int .i64 t.kind, .string ⟨t.text.toArray⟩, .int .i64 t.v.ty, .int .i64 t.v.n, .string t.v.s, .int .i64 (t.pos : Nat), .int .i64 (t.line : Nat), .int .i64 (t.col : Nat)], .agg #[.int .i64 t.kind, .string ⟨t.text.toArray⟩, .int .i64 t.v.ty, .int .i64 t.v.n, .string t.v.s, .int .i64 (t.pos : Nat), .int .i64 (t.line : Nat), .int .i64 (t.col : Nat)], .bool true] w fun e w' => e = .returned (.bool true) ∧ Below w.heap.size w w' := by
  obtain ⟨kd, tx, ⟨vt, vn, vs⟩, p, a, b⟩ := t
  simp only
  have hb : ∀ o1 o2 : Obj, Below w.heap.size w ((w.alloc o1).alloc o2) := fun o1 o2 => ((Below.refl _ w).alloc (Nat.le_refl _) _).alloc (by simp) _
  go_enter Tryz.func38, Tryz.ntmps38
  go_wp2_with fail
  go_ret
  exact ⟨rfl, hb _ _⟩
/-- two tokens' blocks -/
structure S2 (w : World) (x0 x1 x2 x3 x4 x5 x6 x7 y5 y6 y7 : Value) (w' : World) : Prop where
  b : Below w.heap.size w w'
  x : R8 w' w.heap.size x0 x1 x2 x3 x4 x5 x6 x7
  y : R8 w' (w.heap.size + 1) x0 x1 x2 x3 x4 y5 y6 y7
theorem S2.next {w : World} {x0 x1 x2 x3 x4 x5 x6 x7 y5 y6 y7 : Value} {w' w'' : World} (h : S2 w x0 x1 x2 x3 x4 x5 x6 x7 y5 y6 y7 w') (hb : Below w'.heap.size w' w'') : S2 w x0 x1 x2 x3 x4 x5 x6 x7 y5 y6 y7 w'' := ⟨h.b.trans (hb.mono h.b.size), h.x.below hb, h.y.below hb⟩
theorem S2.drew {w : World} {x0 x1 x2 x3 x4 x5 x6 x7 y5 y6 y7 : Value} {w' : World} (h : S2 w x0 x1 x2 x3 x4 x5 x6 x7 y5 y6 y7 w') : S2 w x0 x1 x2 x3 x4 x5 x6 x7 y5 y6 y7 w'.drew := h.next (below_drewN (Below.refl _ w') 1)
theorem S2.new (w : World) (t : TypeId) (x0 x1 x2 x3 x4 x5 x6 x7 y5 y6 y7 : Value) : S2 w x0 x1 x2 x3 x4 x5 x6 x7 y5 y6 y7 ((w.alloc (.cells #[x0, x1, x2, x3, x4, x5, x6, x7] t)).alloc (.cells #[x0, x1, x2, x3, x4, y5, y6, y7] t)) := by
  have hz1 : (w.alloc (.cells #[x0, x1, x2, x3, x4, x5, x6, x7] t)).heap.size = w.heap.size + 1 := by simp
  refine ⟨((Below.refl _ w).alloc (Nat.le_refl _) _).alloc (by rw [hz1]; omega) _, (R8.new w t x0 x1 x2 x3 x4 x5 x6 x7).alloc _, ?_⟩
  have h := R8.new (w.alloc (.cells #[x0, x1, x2, x3, x4, x5, x6, x7] t)) t x0 x1 x2 x3 x4 y5 y6 y7
  rw [hz1] at h
  exact h
set_option maxHeartbeats 2000000 in
set_option maxRecDepth 1000000 in
theorem same_bare (kd : Int) (tx : List UInt8) (v : Va) (p a b p' a' b' : Nat) (w : World) : Calls Tryz.prog 38 #[.agg #[.int .i64 kd, .string ⟨tx.toArray⟩, .int .i64 v.ty, .int .i64 v.n, .string v.s, .int .i64 (p : Nat), .int .i64 (a : Nat), .int .i64 (b : Nat)], .agg #[.int .i64 kd, .string ⟨tx.toArray⟩, .int .i64 v.ty, .int .i64 v.n, .string v.s, .int .i64 (p' : Nat), .int .i64 (a' : Nat), .int .i64 (b' : Nat)], .bool false] w fun e w' => e = .returned (.bool true) ∧ Below w.heap.size w w' := by
  have PL0 : ∀ w, Calls Tryz.prog 61 #[.agg #[.int .i64 v.ty, .int .i64 v.n, .string v.s]] w fun e w' => e = .returned (.agg #[.int .i64 (pln v).ty, .int .i64 (pln v).n, .string (pln v).s]) ∧ Below w.heap.size w w' := fun w => Plain_any v w
  generalize pln v = q at PL0
  obtain ⟨vt, vn, vs⟩ := v
  obtain ⟨qt, qn, qs⟩ := q
  have PL : Hid (∀ w, Calls Tryz.prog 61 #[.agg #[.int .i64 vt, .int .i64 vn, .string vs]] w fun e w' => e = .returned (.agg #[.int .i64 qt, .int .i64 qn, .string qs]) ∧ Below w.heap.size w w') := PL0
  clear PL0
  simp only
  by_cases h3 : kd = 3
  · have k3 : (kd != 3) = false := by rw [h3]; rfl
    have k3' : (kd == 3) = true := by rw [h3]; rfl
    clear h3
    have n0 := S2.new w 37 (.int .i64 kd) (.string ⟨tx.toArray⟩) (.int .i64 vt) (.int .i64 vn) (.string vs) (.int .i64 (p : Nat)) (.int .i64 (a : Nat)) (.int .i64 (b : Nat)) (.int .i64 (p' : Nat)) (.int .i64 (a' : Nat)) (.int .i64 (b' : Nat))
    go_enter Tryz.func38, Tryz.ntmps38
    go_wp2_with fail
    generalize (w.alloc (.cells #[.int .i64 kd, .string ⟨tx.toArray⟩, .int .i64 vt, .int .i64 vn, .string vs, .int .i64 (p : Nat), .int .i64 (a : Nat), .int .i64 (b : Nat)] 37)).alloc (.cells #[.int .i64 kd, .string ⟨tx.toArray⟩, .int .i64 vt, .int .i64 vn, .string vs, .int .i64 (p' : Nat), .int .i64 (a' : Nat), .int .i64 (b' : Nat)] 37) = w2 at *
    refine wp_region_noPanic ?_
    refine wp_region_held_drew (S := fun w' => S2 w (.int .i64 kd) (.string ⟨tx.toArray⟩) (.int .i64 vt) (.int .i64 vn) (.string vs) (.int .i64 (p : Nat)) (.int .i64 (a : Nat)) (.int .i64 (b : Nat)) (.int .i64 (p' : Nat)) (.int .i64 (a' : Nat)) (.int .i64 (b' : Nat)) w') (by kernel_rfl) (n0.drew) (fun hH => ?_)
    refine take_at (i := 0) (v := .pointer (some ⟨w.heap.size, 0, none⟩)) rfl rfl (by kernel_rfl) (by kernel_rfl) (by kernel_rfl) (fun _ _ _ h => h) (Or.inl ⟨by rfl, ?_⟩) hH ?_
    · intro w hSw; (try dsimp only at hSw); obtain ⟨_, a0, a1, a2, a3, a4, _, _, _, _, _, _, _, _, _, _, _⟩ := hSw.x; obtain ⟨_, d0, d1, d2, d3, d4, _, _, _, _, _, _, _, _, _, _, _⟩ := hSw.y; go_simp
    simp only [List.setIfInBounds_toArray, List.set_cons_zero, List.set_cons_succ]
    refine take_at (i := 1) (v := .int .i64 kd) rfl rfl (by kernel_rfl) (by kernel_rfl) (by kernel_rfl) (fun _ _ _ h => h) (Or.inl ⟨by rfl, ?_⟩) hH ?_
    · intro w hSw; (try dsimp only at hSw); obtain ⟨_, a0, a1, a2, a3, a4, _, _, _, _, _, _, _, _, _, _, _⟩ := hSw.x; obtain ⟨_, d0, d1, d2, d3, d4, _, _, _, _, _, _, _, _, _, _, _⟩ := hSw.y; go_simp
    simp only [List.setIfInBounds_toArray, List.set_cons_zero, List.set_cons_succ]
    refine take_at (i := 2) (v := .pointer (some ⟨w.heap.size + 1, 0, none⟩)) rfl rfl (by kernel_rfl) (by kernel_rfl) (by kernel_rfl) (fun _ _ _ h => h) (Or.inl ⟨by rfl, ?_⟩) hH ?_
    · intro w hSw; (try dsimp only at hSw); obtain ⟨_, a0, a1, a2, a3, a4, _, _, _, _, _, _, _, _, _, _, _⟩ := hSw.x; obtain ⟨_, d0, d1, d2, d3, d4, _, _, _, _, _, _, _, _, _, _, _⟩ := hSw.y; go_simp
    simp only [List.setIfInBounds_toArray, List.set_cons_zero, List.set_cons_succ]
    refine take_at (i := 3) (v := .int .i64 kd) rfl rfl (by kernel_rfl) (by kernel_rfl) (by kernel_rfl) (fun _ _ _ h => h) (Or.inl ⟨by rfl, ?_⟩) hH ?_
    · intro w hSw; (try dsimp only at hSw); obtain ⟨_, a0, a1, a2, a3, a4, _, _, _, _, _, _, _, _, _, _, _⟩ := hSw.x; obtain ⟨_, d0, d1, d2, d3, d4, _, _, _, _, _, _, _, _, _, _, _⟩ := hSw.y; go_simp
    simp only [List.setIfInBounds_toArray, List.set_cons_zero, List.set_cons_succ]
    refine take_at (i := 4) (v := .bool false) rfl rfl (by kernel_rfl) (by kernel_rfl) (by kernel_rfl) (fun _ _ _ h => h) (Or.inl ⟨by rfl, ?_⟩) hH ?_
    · intro w hSw; (try dsimp only at hSw); obtain ⟨_, a0, a1, a2, a3, a4, _, _, _, _, _, _, _, _, _, _, _⟩ := hSw.x; obtain ⟨_, d0, d1, d2, d3, d4, _, _, _, _, _, _, _, _, _, _, _⟩ := hSw.y; go_simp
    simp only [List.setIfInBounds_toArray, List.set_cons_zero, List.set_cons_succ]
    refine take_at (i := 5) (v := .bool false) rfl rfl (by kernel_rfl) (by kernel_rfl) (by kernel_rfl) (fun _ _ _ h => h) (Or.inl ⟨by rfl, ?_⟩) hH ?_
    · intro w hSw; (try dsimp only at hSw); obtain ⟨_, a0, a1, a2, a3, a4, _, _, _, _, _, _, _, _, _, _, _⟩ := hSw.x; obtain ⟨_, d0, d1, d2, d3, d4, _, _, _, _, _, _, _, _, _, _, _⟩ := hSw.y; go_simp
    simp only [List.setIfInBounds_toArray, List.set_cons_zero, List.set_cons_succ]
    refine take_at (i := 6) (v := .pointer (some ⟨w.heap.size, 0, none⟩)) rfl rfl (by kernel_rfl) (by kernel_rfl) (by kernel_rfl) (fun _ _ _ h => h) (Or.inl ⟨by rfl, ?_⟩) hH ?_
    · intro w hSw; (try dsimp only at hSw); obtain ⟨_, a0, a1, a2, a3, a4, _, _, _, _, _, _, _, _, _, _, _⟩ := hSw.x; obtain ⟨_, d0, d1, d2, d3, d4, _, _, _, _, _, _, _, _, _, _, _⟩ := hSw.y; go_simp
    simp only [List.setIfInBounds_toArray, List.set_cons_zero, List.set_cons_succ]
    refine take_at (i := 7) (v := .int .i64 kd) rfl rfl (by kernel_rfl) (by kernel_rfl) (by kernel_rfl) (fun _ _ _ h => h) (Or.inl ⟨by rfl, ?_⟩) hH ?_
    · intro w hSw; (try dsimp only at hSw); obtain ⟨_, a0, a1, a2, a3, a4, _, _, _, _, _, _, _, _, _, _, _⟩ := hSw.x; obtain ⟨_, d0, d1, d2, d3, d4, _, _, _, _, _, _, _, _, _, _, _⟩ := hSw.y; go_simp
    simp only [List.setIfInBounds_toArray, List.set_cons_zero, List.set_cons_succ]
    refine take_at (i := 8) (v := .bool false) rfl rfl (by kernel_rfl) (by kernel_rfl) (by kernel_rfl) (fun _ _ _ h => h) (Or.inl ⟨by rfl, ?_⟩) hH ?_
    · intro w hSw; (try dsimp only at hSw); obtain ⟨_, a0, a1, a2, a3, a4, _, _, _, _, _, _, _, _, _, _, _⟩ := hSw.x; obtain ⟨_, d0, d1, d2, d3, d4, _, _, _, _, _, _, _, _, _, _, _⟩ := hSw.y; go_simp
    simp only [List.setIfInBounds_toArray, List.set_cons_zero, List.set_cons_succ]
    refine take_at (i := 9) (v := .bool false) rfl rfl (by kernel_rfl) (by kernel_rfl) (by kernel_rfl) (fun _ _ _ h => h) (Or.inl ⟨by rfl, ?_⟩) hH ?_
    · intro w hSw; (try dsimp only at hSw); obtain ⟨_, a0, a1, a2, a3, a4, _, _, _, _, _, _, _, _, _, _, _⟩ := hSw.x; obtain ⟨_, d0, d1, d2, d3, d4, _, _, _, _, _, _, _, _, _, _, _⟩ := hSw.y; go_simp
    simp only [List.setIfInBounds_toArray, List.set_cons_zero, List.set_cons_succ]
    refine take_at (i := 10) (v := undef) rfl rfl (by kernel_rfl) (by kernel_rfl) (by kernel_rfl) (fun _ _ _ h => h) (Or.inr ⟨by rfl, rfl⟩) hH ?_
    simp only [List.setIfInBounds_toArray, List.set_cons_zero, List.set_cons_succ]
    refine take_at (i := 11) (v := undef) rfl rfl (by kernel_rfl) (by kernel_rfl) (by kernel_rfl) (fun _ _ _ h => h) (Or.inr ⟨by rfl, rfl⟩) hH ?_
    simp only [List.setIfInBounds_toArray, List.set_cons_zero, List.set_cons_succ]
    refine take_at (i := 12) (v := undef) rfl rfl (by kernel_rfl) (by kernel_rfl) (by kernel_rfl) (fun _ _ _ h => h) (Or.inr ⟨by rfl, rfl⟩) hH ?_
    simp only [List.setIfInBounds_toArray, List.set_cons_zero, List.set_cons_succ]
    refine take_at (i := 13) (v := .bool false) rfl rfl (by kernel_rfl) (by kernel_rfl) (by kernel_rfl) (fun _ _ _ h => h) (Or.inl ⟨by rfl, ?_⟩) hH ?_
    · intro w hSw; (try dsimp only at hSw); obtain ⟨_, a0, a1, a2, a3, a4, _, _, _, _, _, _, _, _, _, _, _⟩ := hSw.x; obtain ⟨_, d0, d1, d2, d3, d4, _, _, _, _, _, _, _, _, _, _, _⟩ := hSw.y; go_simp
    simp only [List.setIfInBounds_toArray, List.set_cons_zero, List.set_cons_succ]
    refine take_at (i := 14) (v := .bool false) rfl rfl (by kernel_rfl) (by kernel_rfl) (by kernel_rfl) (fun _ _ _ h => h) (Or.inl ⟨by rfl, ?_⟩) hH ?_
    · intro w hSw; (try dsimp only at hSw); obtain ⟨_, a0, a1, a2, a3, a4, _, _, _, _, _, _, _, _, _, _, _⟩ := hSw.x; obtain ⟨_, d0, d1, d2, d3, d4, _, _, _, _, _, _, _, _, _, _, _⟩ := hSw.y; go_simp
    simp only [List.setIfInBounds_toArray, List.set_cons_zero, List.set_cons_succ]
    refine take_at (i := 15) (v := undef) rfl rfl (by kernel_rfl) (by kernel_rfl) (by kernel_rfl) (fun _ _ _ h => h) (Or.inr ⟨by rfl, rfl⟩) hH ?_
    simp only [List.setIfInBounds_toArray, List.set_cons_zero, List.set_cons_succ]
    refine take_at (i := 16) (v := undef) rfl rfl (by kernel_rfl) (by kernel_rfl) (by kernel_rfl) (fun _ _ _ h => h) (Or.inr ⟨by rfl, rfl⟩) hH ?_
    simp only [List.setIfInBounds_toArray, List.set_cons_zero, List.set_cons_succ]
    refine take_at (i := 17) (v := undef) rfl rfl (by kernel_rfl) (by kernel_rfl) (by kernel_rfl) (fun _ _ _ h => h) (Or.inr ⟨by rfl, rfl⟩) hH ?_
    simp only [List.setIfInBounds_toArray, List.set_cons_zero, List.set_cons_succ]
    refine take_at (i := 18) (v := undef) rfl rfl (by kernel_rfl) (by kernel_rfl) (by kernel_rfl) (fun _ _ _ h => h) (Or.inr ⟨by rfl, rfl⟩) hH ?_
    simp only [List.setIfInBounds_toArray, List.set_cons_zero, List.set_cons_succ]
    refine take_at (i := 19) (v := undef) rfl rfl (by kernel_rfl) (by kernel_rfl) (by kernel_rfl) (fun _ _ _ h => h) (Or.inr ⟨by rfl, rfl⟩) hH ?_
    simp only [List.setIfInBounds_toArray, List.set_cons_zero, List.set_cons_succ]
    refine take_at (i := 20) (v := .bool false) rfl rfl (by kernel_rfl) (by kernel_rfl) (by kernel_rfl) (fun _ _ _ h => h) (Or.inl ⟨by rfl, ?_⟩) hH ?_
    · intro w hSw; (try dsimp only at hSw); obtain ⟨_, a0, a1, a2, a3, a4, _, _, _, _, _, _, _, _, _, _, _⟩ := hSw.x; obtain ⟨_, d0, d1, d2, d3, d4, _, _, _, _, _, _, _, _, _, _, _⟩ := hSw.y; go_simp
    simp only [List.setIfInBounds_toArray, List.set_cons_zero, List.set_cons_succ]
    refine take_at (i := 21) (v := .bool false) rfl rfl (by kernel_rfl) (by kernel_rfl) (by kernel_rfl) (fun _ _ _ h => h) (Or.inl ⟨by rfl, ?_⟩) hH ?_
    · intro w hSw; (try dsimp only at hSw); obtain ⟨_, a0, a1, a2, a3, a4, _, _, _, _, _, _, _, _, _, _, _⟩ := hSw.x; obtain ⟨_, d0, d1, d2, d3, d4, _, _, _, _, _, _, _, _, _, _, _⟩ := hSw.y; go_simp
    simp only [List.setIfInBounds_toArray, List.set_cons_zero, List.set_cons_succ]
    refine take_at (i := 22) (v := .bool false) rfl rfl (by kernel_rfl) (by kernel_rfl) (by kernel_rfl) (fun _ _ _ h => h) (Or.inl ⟨by rfl, ?_⟩) hH ?_
    · intro w hSw; (try dsimp only at hSw); obtain ⟨_, a0, a1, a2, a3, a4, _, _, _, _, _, _, _, _, _, _, _⟩ := hSw.x; obtain ⟨_, d0, d1, d2, d3, d4, _, _, _, _, _, _, _, _, _, _, _⟩ := hSw.y; go_simp
    simp only [List.setIfInBounds_toArray, List.set_cons_zero, List.set_cons_succ]
    refine take_at (i := 23) (v := .pointer (some ⟨w.heap.size, 0, none⟩)) rfl rfl (by kernel_rfl) (by kernel_rfl) (by kernel_rfl) (fun _ _ _ h => h) (Or.inl ⟨by rfl, ?_⟩) hH ?_
    · intro w hSw; (try dsimp only at hSw); obtain ⟨_, a0, a1, a2, a3, a4, _, _, _, _, _, _, _, _, _, _, _⟩ := hSw.x; obtain ⟨_, d0, d1, d2, d3, d4, _, _, _, _, _, _, _, _, _, _, _⟩ := hSw.y; go_simp
    simp only [List.setIfInBounds_toArray, List.set_cons_zero, List.set_cons_succ]
    refine take_at (i := 24) (v := .int .i64 kd) rfl rfl (by kernel_rfl) (by kernel_rfl) (by kernel_rfl) (fun _ _ _ h => h) (Or.inl ⟨by rfl, ?_⟩) hH ?_
    · intro w hSw; (try dsimp only at hSw); obtain ⟨_, a0, a1, a2, a3, a4, _, _, _, _, _, _, _, _, _, _, _⟩ := hSw.x; obtain ⟨_, d0, d1, d2, d3, d4, _, _, _, _, _, _, _, _, _, _, _⟩ := hSw.y; go_simp
    simp only [List.setIfInBounds_toArray, List.set_cons_zero, List.set_cons_succ]
    refine take_at (i := 25) (v := .bool true) rfl rfl (by kernel_rfl) (by kernel_rfl) (by kernel_rfl) (fun _ _ _ h => h) (Or.inl ⟨by rfl, ?_⟩) hH ?_
    · intro w hSw; (try dsimp only at hSw); obtain ⟨_, a0, a1, a2, a3, a4, _, _, _, _, _, _, _, _, _, _, _⟩ := hSw.x; obtain ⟨_, d0, d1, d2, d3, d4, _, _, _, _, _, _, _, _, _, _, _⟩ := hSw.y; go_simp
    simp only [List.setIfInBounds_toArray, List.set_cons_zero, List.set_cons_succ]
    refine take_at (i := 26) (v := .bool true) rfl rfl (by kernel_rfl) (by kernel_rfl) (by kernel_rfl) (fun _ _ _ h => h) (Or.inl ⟨by rfl, ?_⟩) hH ?_
    · intro w hSw; (try dsimp only at hSw); obtain ⟨_, a0, a1, a2, a3, a4, _, _, _, _, _, _, _, _, _, _, _⟩ := hSw.x; obtain ⟨_, d0, d1, d2, d3, d4, _, _, _, _, _, _, _, _, _, _, _⟩ := hSw.y; go_simp
    simp only [List.setIfInBounds_toArray, List.set_cons_zero, List.set_cons_succ]
    refine take_at (i := 27) (v := .pointer (some ⟨w.heap.size, 2, none⟩)) rfl rfl (by kernel_rfl) (by kernel_rfl) (by kernel_rfl) (fun _ _ _ h => h) (Or.inl ⟨by rfl, ?_⟩) hH ?_
    · intro w hSw; (try dsimp only at hSw); obtain ⟨_, a0, a1, a2, a3, a4, _, _, _, _, _, _, _, _, _, _, _⟩ := hSw.x; obtain ⟨_, d0, d1, d2, d3, d4, _, _, _, _, _, _, _, _, _, _, _⟩ := hSw.y; go_simp
    simp only [List.setIfInBounds_toArray, List.set_cons_zero, List.set_cons_succ]
    refine take_at (i := 28) (v := .agg #[.int .i64 vt, .int .i64 vn, .string vs]) rfl rfl (by kernel_rfl) (by kernel_rfl) (by kernel_rfl) (fun _ _ _ h => h) (Or.inl ⟨by rfl, ?_⟩) hH ?_
    · intro w hSw; (try dsimp only at hSw); obtain ⟨_, a0, a1, a2, a3, a4, _, _, _, _, _, _, _, _, _, _, _⟩ := hSw.x; obtain ⟨_, d0, d1, d2, d3, d4, _, _, _, _, _, _, _, _, _, _, _⟩ := hSw.y; go_simp
    simp only [List.setIfInBounds_toArray, List.set_cons_zero, List.set_cons_succ]
    refine take_at (i := 30) (v := .pointer (some ⟨w.heap.size + 1, 2, none⟩)) rfl rfl (by kernel_rfl) (by kernel_rfl) (by kernel_rfl) (fun _ _ _ h => h) (Or.inl ⟨by rfl, ?_⟩) hH ?_
    · intro w hSw; (try dsimp only at hSw); obtain ⟨_, a0, a1, a2, a3, a4, _, _, _, _, _, _, _, _, _, _, _⟩ := hSw.x; obtain ⟨_, d0, d1, d2, d3, d4, _, _, _, _, _, _, _, _, _, _, _⟩ := hSw.y; go_simp
    simp only [List.setIfInBounds_toArray, List.set_cons_zero, List.set_cons_succ]
    refine take_at (i := 31) (v := .agg #[.int .i64 vt, .int .i64 vn, .string vs]) rfl rfl (by kernel_rfl) (by kernel_rfl) (by kernel_rfl) (fun _ _ _ h => h) (Or.inl ⟨by rfl, ?_⟩) hH ?_
    · intro w hSw; (try dsimp only at hSw); obtain ⟨_, a0, a1, a2, a3, a4, _, _, _, _, _, _, _, _, _, _, _⟩ := hSw.x; obtain ⟨_, d0, d1, d2, d3, d4, _, _, _, _, _, _, _, _, _, _, _⟩ := hSw.y; go_simp
    simp only [List.setIfInBounds_toArray, List.set_cons_zero, List.set_cons_succ]
    refine wpAnyH_ready (rs := [29]) (by kernel_rfl) (by simp) ?_
    refine AllReadyH.cons rfl (fun K hK => ?_) AllReadyH.nil
    go_simp
    go_at_call 61
    refine (PL.out _).mono ?_
    rintro e w3 ⟨rfl, hb3⟩
    go_wp2_with fail
    refine hK.out _ _ (hH.next hb3) (fun hH3 => ?_)
    clear hK K
    clear hH
    refine wpAnyH_ready (rs := [32]) (by kernel_rfl) (by simp) ?_
    refine AllReadyH.cons rfl (fun K hK => ?_) AllReadyH.nil
    go_simp
    go_at_call 61
    refine (PL.out _).mono ?_
    rintro e w4 ⟨rfl, hb4⟩
    go_wp2_with fail
    refine hK.out _ _ (hH3.next hb4) (fun hH4 => ?_)
    clear hK K
    clear hH3
    refine take_at (i := 33) (v := .bool false) rfl rfl (by kernel_rfl) (by kernel_rfl) (by kernel_rfl) (fun _ _ _ h => h) (Or.inl ⟨by rfl, ?_⟩) hH4 ?_
    · intro w hSw; (try dsimp only at hSw); obtain ⟨_, a0, a1, a2, a3, a4, _, _, _, _, _, _, _, _, _, _, _⟩ := hSw.x; obtain ⟨_, d0, d1, d2, d3, d4, _, _, _, _, _, _, _, _, _, _, _⟩ := hSw.y; go_simp
    simp only [List.setIfInBounds_toArray, List.set_cons_zero, List.set_cons_succ]
    refine take_at (i := 34) (v := .bool false) rfl rfl (by kernel_rfl) (by kernel_rfl) (by kernel_rfl) (fun _ _ _ h => h) (Or.inl ⟨by rfl, ?_⟩) hH4 ?_
    · intro w hSw; (try dsimp only at hSw); obtain ⟨_, a0, a1, a2, a3, a4, _, _, _, _, _, _, _, _, _, _, _⟩ := hSw.x; obtain ⟨_, d0, d1, d2, d3, d4, _, _, _, _, _, _, _, _, _, _, _⟩ := hSw.y; go_simp
    simp only [List.setIfInBounds_toArray, List.set_cons_zero, List.set_cons_succ]
    refine take_at (i := 35) (v := .bool false) rfl rfl (by kernel_rfl) (by kernel_rfl) (by kernel_rfl) (fun _ _ _ h => h) (Or.inl ⟨by rfl, ?_⟩) hH4 ?_
    · intro w hSw; (try dsimp only at hSw); obtain ⟨_, a0, a1, a2, a3, a4, _, _, _, _, _, _, _, _, _, _, _⟩ := hSw.x; obtain ⟨_, d0, d1, d2, d3, d4, _, _, _, _, _, _, _, _, _, _, _⟩ := hSw.y; go_simp
    simp only [List.setIfInBounds_toArray, List.set_cons_zero, List.set_cons_succ]
    refine wpAnyH_done (by kernel_rfl) ?_ _
    refine NoPanic.normal ?_
    have B9 := hH4.b
    go_wp2_with fail
    go_ret
    exact ⟨rfl, B9⟩
  have k3 : (kd != 3) = true := by rw [bne_iff_ne]; exact h3
  have k3' : (kd == 3) = false := by rw [beq_eq_false_iff_ne]; exact h3
  clear PL
  by_cases h6 : kd = 6
  · have k6 : (kd != 6) = false := by rw [h6]; rfl
    clear h3 h6
    have n0 := S2.new w 37 (.int .i64 kd) (.string ⟨tx.toArray⟩) (.int .i64 vt) (.int .i64 vn) (.string vs) (.int .i64 (p : Nat)) (.int .i64 (a : Nat)) (.int .i64 (b : Nat)) (.int .i64 (p' : Nat)) (.int .i64 (a' : Nat)) (.int .i64 (b' : Nat))
    go_enter Tryz.func38, Tryz.ntmps38
    go_wp2_with fail
    generalize (w.alloc (.cells #[.int .i64 kd, .string ⟨tx.toArray⟩, .int .i64 vt, .int .i64 vn, .string vs, .int .i64 (p : Nat), .int .i64 (a : Nat), .int .i64 (b : Nat)] 37)).alloc (.cells #[.int .i64 kd, .string ⟨tx.toArray⟩, .int .i64 vt, .int .i64 vn, .string vs, .int .i64 (p' : Nat), .int .i64 (a' : Nat), .int .i64 (b' : Nat)] 37) = w2 at *
    refine wp_region_noPanic ?_
    refine wp_region_held_drew (S := fun w' => S2 w (.int .i64 kd) (.string ⟨tx.toArray⟩) (.int .i64 vt) (.int .i64 vn) (.string vs) (.int .i64 (p : Nat)) (.int .i64 (a : Nat)) (.int .i64 (b : Nat)) (.int .i64 (p' : Nat)) (.int .i64 (a' : Nat)) (.int .i64 (b' : Nat)) w') (by kernel_rfl) (n0.drew) (fun hH => ?_)
    refine take_at (i := 0) (v := .pointer (some ⟨w.heap.size, 0, none⟩)) rfl rfl (by kernel_rfl) (by kernel_rfl) (by kernel_rfl) (fun _ _ _ h => h) (Or.inl ⟨by rfl, ?_⟩) hH ?_
    · intro w hSw; (try dsimp only at hSw); obtain ⟨_, a0, a1, a2, a3, a4, _, _, _, _, _, _, _, _, _, _, _⟩ := hSw.x; obtain ⟨_, d0, d1, d2, d3, d4, _, _, _, _, _, _, _, _, _, _, _⟩ := hSw.y; go_simp
    simp only [List.setIfInBounds_toArray, List.set_cons_zero, List.set_cons_succ]
    refine take_at (i := 1) (v := .int .i64 kd) rfl rfl (by kernel_rfl) (by kernel_rfl) (by kernel_rfl) (fun _ _ _ h => h) (Or.inl ⟨by rfl, ?_⟩) hH ?_
    · intro w hSw; (try dsimp only at hSw); obtain ⟨_, a0, a1, a2, a3, a4, _, _, _, _, _, _, _, _, _, _, _⟩ := hSw.x; obtain ⟨_, d0, d1, d2, d3, d4, _, _, _, _, _, _, _, _, _, _, _⟩ := hSw.y; go_simp
    simp only [List.setIfInBounds_toArray, List.set_cons_zero, List.set_cons_succ]
    refine take_at (i := 2) (v := .pointer (some ⟨w.heap.size + 1, 0, none⟩)) rfl rfl (by kernel_rfl) (by kernel_rfl) (by kernel_rfl) (fun _ _ _ h => h) (Or.inl ⟨by rfl, ?_⟩) hH ?_
    · intro w hSw; (try dsimp only at hSw); obtain ⟨_, a0, a1, a2, a3, a4, _, _, _, _, _, _, _, _, _, _, _⟩ := hSw.x; obtain ⟨_, d0, d1, d2, d3, d4, _, _, _, _, _, _, _, _, _, _, _⟩ := hSw.y; go_simp
    simp only [List.setIfInBounds_toArray, List.set_cons_zero, List.set_cons_succ]
    refine take_at (i := 3) (v := .int .i64 kd) rfl rfl (by kernel_rfl) (by kernel_rfl) (by kernel_rfl) (fun _ _ _ h => h) (Or.inl ⟨by rfl, ?_⟩) hH ?_
    · intro w hSw; (try dsimp only at hSw); obtain ⟨_, a0, a1, a2, a3, a4, _, _, _, _, _, _, _, _, _, _, _⟩ := hSw.x; obtain ⟨_, d0, d1, d2, d3, d4, _, _, _, _, _, _, _, _, _, _, _⟩ := hSw.y; go_simp
    simp only [List.setIfInBounds_toArray, List.set_cons_zero, List.set_cons_succ]
    refine take_at (i := 4) (v := .bool false) rfl rfl (by kernel_rfl) (by kernel_rfl) (by kernel_rfl) (fun _ _ _ h => h) (Or.inl ⟨by rfl, ?_⟩) hH ?_
    · intro w hSw; (try dsimp only at hSw); obtain ⟨_, a0, a1, a2, a3, a4, _, _, _, _, _, _, _, _, _, _, _⟩ := hSw.x; obtain ⟨_, d0, d1, d2, d3, d4, _, _, _, _, _, _, _, _, _, _, _⟩ := hSw.y; go_simp
    simp only [List.setIfInBounds_toArray, List.set_cons_zero, List.set_cons_succ]
    refine take_at (i := 5) (v := .bool false) rfl rfl (by kernel_rfl) (by kernel_rfl) (by kernel_rfl) (fun _ _ _ h => h) (Or.inl ⟨by rfl, ?_⟩) hH ?_
    · intro w hSw; (try dsimp only at hSw); obtain ⟨_, a0, a1, a2, a3, a4, _, _, _, _, _, _, _, _, _, _, _⟩ := hSw.x; obtain ⟨_, d0, d1, d2, d3, d4, _, _, _, _, _, _, _, _, _, _, _⟩ := hSw.y; go_simp
    simp only [List.setIfInBounds_toArray, List.set_cons_zero, List.set_cons_succ]
    refine take_at (i := 6) (v := .pointer (some ⟨w.heap.size, 0, none⟩)) rfl rfl (by kernel_rfl) (by kernel_rfl) (by kernel_rfl) (fun _ _ _ h => h) (Or.inl ⟨by rfl, ?_⟩) hH ?_
    · intro w hSw; (try dsimp only at hSw); obtain ⟨_, a0, a1, a2, a3, a4, _, _, _, _, _, _, _, _, _, _, _⟩ := hSw.x; obtain ⟨_, d0, d1, d2, d3, d4, _, _, _, _, _, _, _, _, _, _, _⟩ := hSw.y; go_simp
    simp only [List.setIfInBounds_toArray, List.set_cons_zero, List.set_cons_succ]
    refine take_at (i := 7) (v := .int .i64 kd) rfl rfl (by kernel_rfl) (by kernel_rfl) (by kernel_rfl) (fun _ _ _ h => h) (Or.inl ⟨by rfl, ?_⟩) hH ?_
    · intro w hSw; (try dsimp only at hSw); obtain ⟨_, a0, a1, a2, a3, a4, _, _, _, _, _, _, _, _, _, _, _⟩ := hSw.x; obtain ⟨_, d0, d1, d2, d3, d4, _, _, _, _, _, _, _, _, _, _, _⟩ := hSw.y; go_simp
    simp only [List.setIfInBounds_toArray, List.set_cons_zero, List.set_cons_succ]
    refine take_at (i := 8) (v := .bool true) rfl rfl (by kernel_rfl) (by kernel_rfl) (by kernel_rfl) (fun _ _ _ h => h) (Or.inl ⟨by rfl, ?_⟩) hH ?_
    · intro w hSw; (try dsimp only at hSw); obtain ⟨_, a0, a1, a2, a3, a4, _, _, _, _, _, _, _, _, _, _, _⟩ := hSw.x; obtain ⟨_, d0, d1, d2, d3, d4, _, _, _, _, _, _, _, _, _, _, _⟩ := hSw.y; go_simp
    simp only [List.setIfInBounds_toArray, List.set_cons_zero, List.set_cons_succ]
    refine take_at (i := 9) (v := .bool true) rfl rfl (by kernel_rfl) (by kernel_rfl) (by kernel_rfl) (fun _ _ _ h => h) (Or.inl ⟨by rfl, ?_⟩) hH ?_
    · intro w hSw; (try dsimp only at hSw); obtain ⟨_, a0, a1, a2, a3, a4, _, _, _, _, _, _, _, _, _, _, _⟩ := hSw.x; obtain ⟨_, d0, d1, d2, d3, d4, _, _, _, _, _, _, _, _, _, _, _⟩ := hSw.y; go_simp
    simp only [List.setIfInBounds_toArray, List.set_cons_zero, List.set_cons_succ]
    refine take_at (i := 10) (v := .pointer (some ⟨w.heap.size, 0, none⟩)) rfl rfl (by kernel_rfl) (by kernel_rfl) (by kernel_rfl) (fun _ _ _ h => h) (Or.inl ⟨by rfl, ?_⟩) hH ?_
    · intro w hSw; (try dsimp only at hSw); obtain ⟨_, a0, a1, a2, a3, a4, _, _, _, _, _, _, _, _, _, _, _⟩ := hSw.x; obtain ⟨_, d0, d1, d2, d3, d4, _, _, _, _, _, _, _, _, _, _, _⟩ := hSw.y; go_simp
    simp only [List.setIfInBounds_toArray, List.set_cons_zero, List.set_cons_succ]
    refine take_at (i := 11) (v := .int .i64 kd) rfl rfl (by kernel_rfl) (by kernel_rfl) (by kernel_rfl) (fun _ _ _ h => h) (Or.inl ⟨by rfl, ?_⟩) hH ?_
    · intro w hSw; (try dsimp only at hSw); obtain ⟨_, a0, a1, a2, a3, a4, _, _, _, _, _, _, _, _, _, _, _⟩ := hSw.x; obtain ⟨_, d0, d1, d2, d3, d4, _, _, _, _, _, _, _, _, _, _, _⟩ := hSw.y; go_simp
    simp only [List.setIfInBounds_toArray, List.set_cons_zero, List.set_cons_succ]
    refine take_at (i := 12) (v := .bool false) rfl rfl (by kernel_rfl) (by kernel_rfl) (by kernel_rfl) (fun _ _ _ h => h) (Or.inl ⟨by rfl, ?_⟩) hH ?_
    · intro w hSw; (try dsimp only at hSw); obtain ⟨_, a0, a1, a2, a3, a4, _, _, _, _, _, _, _, _, _, _, _⟩ := hSw.x; obtain ⟨_, d0, d1, d2, d3, d4, _, _, _, _, _, _, _, _, _, _, _⟩ := hSw.y; go_simp
    simp only [List.setIfInBounds_toArray, List.set_cons_zero, List.set_cons_succ]
    refine take_at (i := 13) (v := .bool false) rfl rfl (by kernel_rfl) (by kernel_rfl) (by kernel_rfl) (fun _ _ _ h => h) (Or.inl ⟨by rfl, ?_⟩) hH ?_
    · intro w hSw; (try dsimp only at hSw); obtain ⟨_, a0, a1, a2, a3, a4, _, _, _, _, _, _, _, _, _, _, _⟩ := hSw.x; obtain ⟨_, d0, d1, d2, d3, d4, _, _, _, _, _, _, _, _, _, _, _⟩ := hSw.y; go_simp
    simp only [List.setIfInBounds_toArray, List.set_cons_zero, List.set_cons_succ]
    refine take_at (i := 14) (v := .bool false) rfl rfl (by kernel_rfl) (by kernel_rfl) (by kernel_rfl) (fun _ _ _ h => h) (Or.inl ⟨by rfl, ?_⟩) hH ?_
    · intro w hSw; (try dsimp only at hSw); obtain ⟨_, a0, a1, a2, a3, a4, _, _, _, _, _, _, _, _, _, _, _⟩ := hSw.x; obtain ⟨_, d0, d1, d2, d3, d4, _, _, _, _, _, _, _, _, _, _, _⟩ := hSw.y; go_simp
    simp only [List.setIfInBounds_toArray, List.set_cons_zero, List.set_cons_succ]
    refine take_at (i := 15) (v := undef) rfl rfl (by kernel_rfl) (by kernel_rfl) (by kernel_rfl) (fun _ _ _ h => h) (Or.inr ⟨by rfl, rfl⟩) hH ?_
    simp only [List.setIfInBounds_toArray, List.set_cons_zero, List.set_cons_succ]
    refine take_at (i := 16) (v := undef) rfl rfl (by kernel_rfl) (by kernel_rfl) (by kernel_rfl) (fun _ _ _ h => h) (Or.inr ⟨by rfl, rfl⟩) hH ?_
    simp only [List.setIfInBounds_toArray, List.set_cons_zero, List.set_cons_succ]
    refine take_at (i := 17) (v := undef) rfl rfl (by kernel_rfl) (by kernel_rfl) (by kernel_rfl) (fun _ _ _ h => h) (Or.inr ⟨by rfl, rfl⟩) hH ?_
    simp only [List.setIfInBounds_toArray, List.set_cons_zero, List.set_cons_succ]
    refine take_at (i := 18) (v := undef) rfl rfl (by kernel_rfl) (by kernel_rfl) (by kernel_rfl) (fun _ _ _ h => h) (Or.inr ⟨by rfl, rfl⟩) hH ?_
    simp only [List.setIfInBounds_toArray, List.set_cons_zero, List.set_cons_succ]
    refine take_at (i := 19) (v := undef) rfl rfl (by kernel_rfl) (by kernel_rfl) (by kernel_rfl) (fun _ _ _ h => h) (Or.inr ⟨by rfl, rfl⟩) hH ?_
    simp only [List.setIfInBounds_toArray, List.set_cons_zero, List.set_cons_succ]
    refine take_at (i := 20) (v := .bool false) rfl rfl (by kernel_rfl) (by kernel_rfl) (by kernel_rfl) (fun _ _ _ h => h) (Or.inl ⟨by rfl, ?_⟩) hH ?_
    · intro w hSw; (try dsimp only at hSw); obtain ⟨_, a0, a1, a2, a3, a4, _, _, _, _, _, _, _, _, _, _, _⟩ := hSw.x; obtain ⟨_, d0, d1, d2, d3, d4, _, _, _, _, _, _, _, _, _, _, _⟩ := hSw.y; go_simp
    simp only [List.setIfInBounds_toArray, List.set_cons_zero, List.set_cons_succ]
    refine take_at (i := 21) (v := .bool false) rfl rfl (by kernel_rfl) (by kernel_rfl) (by kernel_rfl) (fun _ _ _ h => h) (Or.inl ⟨by rfl, ?_⟩) hH ?_
    · intro w hSw; (try dsimp only at hSw); obtain ⟨_, a0, a1, a2, a3, a4, _, _, _, _, _, _, _, _, _, _, _⟩ := hSw.x; obtain ⟨_, d0, d1, d2, d3, d4, _, _, _, _, _, _, _, _, _, _, _⟩ := hSw.y; go_simp
    simp only [List.setIfInBounds_toArray, List.set_cons_zero, List.set_cons_succ]
    refine take_at (i := 22) (v := .bool false) rfl rfl (by kernel_rfl) (by kernel_rfl) (by kernel_rfl) (fun _ _ _ h => h) (Or.inl ⟨by rfl, ?_⟩) hH ?_
    · intro w hSw; (try dsimp only at hSw); obtain ⟨_, a0, a1, a2, a3, a4, _, _, _, _, _, _, _, _, _, _, _⟩ := hSw.x; obtain ⟨_, d0, d1, d2, d3, d4, _, _, _, _, _, _, _, _, _, _, _⟩ := hSw.y; go_simp
    simp only [List.setIfInBounds_toArray, List.set_cons_zero, List.set_cons_succ]
    refine take_at (i := 23) (v := .pointer (some ⟨w.heap.size, 0, none⟩)) rfl rfl (by kernel_rfl) (by kernel_rfl) (by kernel_rfl) (fun _ _ _ h => h) (Or.inl ⟨by rfl, ?_⟩) hH ?_
    · intro w hSw; (try dsimp only at hSw); obtain ⟨_, a0, a1, a2, a3, a4, _, _, _, _, _, _, _, _, _, _, _⟩ := hSw.x; obtain ⟨_, d0, d1, d2, d3, d4, _, _, _, _, _, _, _, _, _, _, _⟩ := hSw.y; go_simp
    simp only [List.setIfInBounds_toArray, List.set_cons_zero, List.set_cons_succ]
    refine take_at (i := 24) (v := .int .i64 kd) rfl rfl (by kernel_rfl) (by kernel_rfl) (by kernel_rfl) (fun _ _ _ h => h) (Or.inl ⟨by rfl, ?_⟩) hH ?_
    · intro w hSw; (try dsimp only at hSw); obtain ⟨_, a0, a1, a2, a3, a4, _, _, _, _, _, _, _, _, _, _, _⟩ := hSw.x; obtain ⟨_, d0, d1, d2, d3, d4, _, _, _, _, _, _, _, _, _, _, _⟩ := hSw.y; go_simp
    simp only [List.setIfInBounds_toArray, List.set_cons_zero, List.set_cons_succ]
    refine take_at (i := 25) (v := .bool false) rfl rfl (by kernel_rfl) (by kernel_rfl) (by kernel_rfl) (fun _ _ _ h => h) (Or.inl ⟨by rfl, ?_⟩) hH ?_
    · intro w hSw; (try dsimp only at hSw); obtain ⟨_, a0, a1, a2, a3, a4, _, _, _, _, _, _, _, _, _, _, _⟩ := hSw.x; obtain ⟨_, d0, d1, d2, d3, d4, _, _, _, _, _, _, _, _, _, _, _⟩ := hSw.y; go_simp
    simp only [List.setIfInBounds_toArray, List.set_cons_zero, List.set_cons_succ]
    refine take_at (i := 26) (v := .bool false) rfl rfl (by kernel_rfl) (by kernel_rfl) (by kernel_rfl) (fun _ _ _ h => h) (Or.inl ⟨by rfl, ?_⟩) hH ?_
    · intro w hSw; (try dsimp only at hSw); obtain ⟨_, a0, a1, a2, a3, a4, _, _, _, _, _, _, _, _, _, _, _⟩ := hSw.x; obtain ⟨_, d0, d1, d2, d3, d4, _, _, _, _, _, _, _, _, _, _, _⟩ := hSw.y; go_simp
    simp only [List.setIfInBounds_toArray, List.set_cons_zero, List.set_cons_succ]
    refine take_at (i := 27) (v := undef) rfl rfl (by kernel_rfl) (by kernel_rfl) (by kernel_rfl) (fun _ _ _ h => h) (Or.inr ⟨by rfl, rfl⟩) hH ?_
    simp only [List.setIfInBounds_toArray, List.set_cons_zero, List.set_cons_succ]
    refine take_at (i := 28) (v := undef) rfl rfl (by kernel_rfl) (by kernel_rfl) (by kernel_rfl) (fun _ _ _ h => h) (Or.inr ⟨by rfl, rfl⟩) hH ?_
    simp only [List.setIfInBounds_toArray, List.set_cons_zero, List.set_cons_succ]
    refine take_at (i := 29) (v := undef) rfl rfl (by kernel_rfl) (by kernel_rfl) (by kernel_rfl) (fun _ _ _ h => h) (Or.inr ⟨by rfl, rfl⟩) hH ?_
    simp only [List.setIfInBounds_toArray, List.set_cons_zero, List.set_cons_succ]
    refine take_at (i := 30) (v := undef) rfl rfl (by kernel_rfl) (by kernel_rfl) (by kernel_rfl) (fun _ _ _ h => h) (Or.inr ⟨by rfl, rfl⟩) hH ?_
    simp only [List.setIfInBounds_toArray, List.set_cons_zero, List.set_cons_succ]
    refine take_at (i := 31) (v := undef) rfl rfl (by kernel_rfl) (by kernel_rfl) (by kernel_rfl) (fun _ _ _ h => h) (Or.inr ⟨by rfl, rfl⟩) hH ?_
    simp only [List.setIfInBounds_toArray, List.set_cons_zero, List.set_cons_succ]
    refine take_at (i := 32) (v := undef) rfl rfl (by kernel_rfl) (by kernel_rfl) (by kernel_rfl) (fun _ _ _ h => h) (Or.inr ⟨by rfl, rfl⟩) hH ?_
    simp only [List.setIfInBounds_toArray, List.set_cons_zero, List.set_cons_succ]
    refine take_at (i := 33) (v := undef) rfl rfl (by kernel_rfl) (by kernel_rfl) (by kernel_rfl) (fun _ _ _ h => h) (Or.inr ⟨by rfl, rfl⟩) hH ?_
    simp only [List.setIfInBounds_toArray, List.set_cons_zero, List.set_cons_succ]
    refine take_at (i := 34) (v := .bool false) rfl rfl (by kernel_rfl) (by kernel_rfl) (by kernel_rfl) (fun _ _ _ h => h) (Or.inl ⟨by rfl, ?_⟩) hH ?_
    · intro w hSw; (try dsimp only at hSw); obtain ⟨_, a0, a1, a2, a3, a4, _, _, _, _, _, _, _, _, _, _, _⟩ := hSw.x; obtain ⟨_, d0, d1, d2, d3, d4, _, _, _, _, _, _, _, _, _, _, _⟩ := hSw.y; go_simp
    simp only [List.setIfInBounds_toArray, List.set_cons_zero, List.set_cons_succ]
    refine take_at (i := 35) (v := .bool false) rfl rfl (by kernel_rfl) (by kernel_rfl) (by kernel_rfl) (fun _ _ _ h => h) (Or.inl ⟨by rfl, ?_⟩) hH ?_
    · intro w hSw; (try dsimp only at hSw); obtain ⟨_, a0, a1, a2, a3, a4, _, _, _, _, _, _, _, _, _, _, _⟩ := hSw.x; obtain ⟨_, d0, d1, d2, d3, d4, _, _, _, _, _, _, _, _, _, _, _⟩ := hSw.y; go_simp
    simp only [List.setIfInBounds_toArray, List.set_cons_zero, List.set_cons_succ]
    refine wpAnyH_done (by kernel_rfl) ?_ _
    refine NoPanic.normal ?_
    have B9 := hH.b
    go_wp2_with fail
    go_ret
    exact ⟨rfl, B9⟩
  · have k6 : (kd != 6) = true := by rw [bne_iff_ne]; exact h6
    clear h3 h6
    have n0 := S2.new w 37 (.int .i64 kd) (.string ⟨tx.toArray⟩) (.int .i64 vt) (.int .i64 vn) (.string vs) (.int .i64 (p : Nat)) (.int .i64 (a : Nat)) (.int .i64 (b : Nat)) (.int .i64 (p' : Nat)) (.int .i64 (a' : Nat)) (.int .i64 (b' : Nat))
    go_enter Tryz.func38, Tryz.ntmps38
    go_wp2_with fail
    generalize (w.alloc (.cells #[.int .i64 kd, .string ⟨tx.toArray⟩, .int .i64 vt, .int .i64 vn, .string vs, .int .i64 (p : Nat), .int .i64 (a : Nat), .int .i64 (b : Nat)] 37)).alloc (.cells #[.int .i64 kd, .string ⟨tx.toArray⟩, .int .i64 vt, .int .i64 vn, .string vs, .int .i64 (p' : Nat), .int .i64 (a' : Nat), .int .i64 (b' : Nat)] 37) = w2 at *
    refine wp_region_noPanic ?_
    refine wp_region_held_drew (S := fun w' => S2 w (.int .i64 kd) (.string ⟨tx.toArray⟩) (.int .i64 vt) (.int .i64 vn) (.string vs) (.int .i64 (p : Nat)) (.int .i64 (a : Nat)) (.int .i64 (b : Nat)) (.int .i64 (p' : Nat)) (.int .i64 (a' : Nat)) (.int .i64 (b' : Nat)) w') (by kernel_rfl) (n0.drew) (fun hH => ?_)
    refine take_at (i := 0) (v := .pointer (some ⟨w.heap.size, 0, none⟩)) rfl rfl (by kernel_rfl) (by kernel_rfl) (by kernel_rfl) (fun _ _ _ h => h) (Or.inl ⟨by rfl, ?_⟩) hH ?_
    · intro w hSw; (try dsimp only at hSw); obtain ⟨_, a0, a1, a2, a3, a4, _, _, _, _, _, _, _, _, _, _, _⟩ := hSw.x; obtain ⟨_, d0, d1, d2, d3, d4, _, _, _, _, _, _, _, _, _, _, _⟩ := hSw.y; go_simp
    simp only [List.setIfInBounds_toArray, List.set_cons_zero, List.set_cons_succ]
    refine take_at (i := 1) (v := .int .i64 kd) rfl rfl (by kernel_rfl) (by kernel_rfl) (by kernel_rfl) (fun _ _ _ h => h) (Or.inl ⟨by rfl, ?_⟩) hH ?_
    · intro w hSw; (try dsimp only at hSw); obtain ⟨_, a0, a1, a2, a3, a4, _, _, _, _, _, _, _, _, _, _, _⟩ := hSw.x; obtain ⟨_, d0, d1, d2, d3, d4, _, _, _, _, _, _, _, _, _, _, _⟩ := hSw.y; go_simp
    simp only [List.setIfInBounds_toArray, List.set_cons_zero, List.set_cons_succ]
    refine take_at (i := 2) (v := .pointer (some ⟨w.heap.size + 1, 0, none⟩)) rfl rfl (by kernel_rfl) (by kernel_rfl) (by kernel_rfl) (fun _ _ _ h => h) (Or.inl ⟨by rfl, ?_⟩) hH ?_
    · intro w hSw; (try dsimp only at hSw); obtain ⟨_, a0, a1, a2, a3, a4, _, _, _, _, _, _, _, _, _, _, _⟩ := hSw.x; obtain ⟨_, d0, d1, d2, d3, d4, _, _, _, _, _, _, _, _, _, _, _⟩ := hSw.y; go_simp
    simp only [List.setIfInBounds_toArray, List.set_cons_zero, List.set_cons_succ]
    refine take_at (i := 3) (v := .int .i64 kd) rfl rfl (by kernel_rfl) (by kernel_rfl) (by kernel_rfl) (fun _ _ _ h => h) (Or.inl ⟨by rfl, ?_⟩) hH ?_
    · intro w hSw; (try dsimp only at hSw); obtain ⟨_, a0, a1, a2, a3, a4, _, _, _, _, _, _, _, _, _, _, _⟩ := hSw.x; obtain ⟨_, d0, d1, d2, d3, d4, _, _, _, _, _, _, _, _, _, _, _⟩ := hSw.y; go_simp
    simp only [List.setIfInBounds_toArray, List.set_cons_zero, List.set_cons_succ]
    refine take_at (i := 4) (v := .bool false) rfl rfl (by kernel_rfl) (by kernel_rfl) (by kernel_rfl) (fun _ _ _ h => h) (Or.inl ⟨by rfl, ?_⟩) hH ?_
    · intro w hSw; (try dsimp only at hSw); obtain ⟨_, a0, a1, a2, a3, a4, _, _, _, _, _, _, _, _, _, _, _⟩ := hSw.x; obtain ⟨_, d0, d1, d2, d3, d4, _, _, _, _, _, _, _, _, _, _, _⟩ := hSw.y; go_simp
    simp only [List.setIfInBounds_toArray, List.set_cons_zero, List.set_cons_succ]
    refine take_at (i := 5) (v := .bool false) rfl rfl (by kernel_rfl) (by kernel_rfl) (by kernel_rfl) (fun _ _ _ h => h) (Or.inl ⟨by rfl, ?_⟩) hH ?_
    · intro w hSw; (try dsimp only at hSw); obtain ⟨_, a0, a1, a2, a3, a4, _, _, _, _, _, _, _, _, _, _, _⟩ := hSw.x; obtain ⟨_, d0, d1, d2, d3, d4, _, _, _, _, _, _, _, _, _, _, _⟩ := hSw.y; go_simp
    simp only [List.setIfInBounds_toArray, List.set_cons_zero, List.set_cons_succ]
    refine take_at (i := 6) (v := .pointer (some ⟨w.heap.size, 0, none⟩)) rfl rfl (by kernel_rfl) (by kernel_rfl) (by kernel_rfl) (fun _ _ _ h => h) (Or.inl ⟨by rfl, ?_⟩) hH ?_
    · intro w hSw; (try dsimp only at hSw); obtain ⟨_, a0, a1, a2, a3, a4, _, _, _, _, _, _, _, _, _, _, _⟩ := hSw.x; obtain ⟨_, d0, d1, d2, d3, d4, _, _, _, _, _, _, _, _, _, _, _⟩ := hSw.y; go_simp
    simp only [List.setIfInBounds_toArray, List.set_cons_zero, List.set_cons_succ]
    refine take_at (i := 7) (v := .int .i64 kd) rfl rfl (by kernel_rfl) (by kernel_rfl) (by kernel_rfl) (fun _ _ _ h => h) (Or.inl ⟨by rfl, ?_⟩) hH ?_
    · intro w hSw; (try dsimp only at hSw); obtain ⟨_, a0, a1, a2, a3, a4, _, _, _, _, _, _, _, _, _, _, _⟩ := hSw.x; obtain ⟨_, d0, d1, d2, d3, d4, _, _, _, _, _, _, _, _, _, _, _⟩ := hSw.y; go_simp
    simp only [List.setIfInBounds_toArray, List.set_cons_zero, List.set_cons_succ]
    refine take_at (i := 8) (v := .bool true) rfl rfl (by kernel_rfl) (by kernel_rfl) (by kernel_rfl) (fun _ _ _ h => h) (Or.inl ⟨by rfl, ?_⟩) hH ?_
    · intro w hSw; (try dsimp only at hSw); obtain ⟨_, a0, a1, a2, a3, a4, _, _, _, _, _, _, _, _, _, _, _⟩ := hSw.x; obtain ⟨_, d0, d1, d2, d3, d4, _, _, _, _, _, _, _, _, _, _, _⟩ := hSw.y; go_simp
    simp only [List.setIfInBounds_toArray, List.set_cons_zero, List.set_cons_succ]
    refine take_at (i := 9) (v := .bool true) rfl rfl (by kernel_rfl) (by kernel_rfl) (by kernel_rfl) (fun _ _ _ h => h) (Or.inl ⟨by rfl, ?_⟩) hH ?_
    · intro w hSw; (try dsimp only at hSw); obtain ⟨_, a0, a1, a2, a3, a4, _, _, _, _, _, _, _, _, _, _, _⟩ := hSw.x; obtain ⟨_, d0, d1, d2, d3, d4, _, _, _, _, _, _, _, _, _, _, _⟩ := hSw.y; go_simp
    simp only [List.setIfInBounds_toArray, List.set_cons_zero, List.set_cons_succ]
    refine take_at (i := 10) (v := .pointer (some ⟨w.heap.size, 0, none⟩)) rfl rfl (by kernel_rfl) (by kernel_rfl) (by kernel_rfl) (fun _ _ _ h => h) (Or.inl ⟨by rfl, ?_⟩) hH ?_
    · intro w hSw; (try dsimp only at hSw); obtain ⟨_, a0, a1, a2, a3, a4, _, _, _, _, _, _, _, _, _, _, _⟩ := hSw.x; obtain ⟨_, d0, d1, d2, d3, d4, _, _, _, _, _, _, _, _, _, _, _⟩ := hSw.y; go_simp
    simp only [List.setIfInBounds_toArray, List.set_cons_zero, List.set_cons_succ]
    refine take_at (i := 11) (v := .int .i64 kd) rfl rfl (by kernel_rfl) (by kernel_rfl) (by kernel_rfl) (fun _ _ _ h => h) (Or.inl ⟨by rfl, ?_⟩) hH ?_
    · intro w hSw; (try dsimp only at hSw); obtain ⟨_, a0, a1, a2, a3, a4, _, _, _, _, _, _, _, _, _, _, _⟩ := hSw.x; obtain ⟨_, d0, d1, d2, d3, d4, _, _, _, _, _, _, _, _, _, _, _⟩ := hSw.y; go_simp
    simp only [List.setIfInBounds_toArray, List.set_cons_zero, List.set_cons_succ]
    refine take_at (i := 12) (v := .bool true) rfl rfl (by kernel_rfl) (by kernel_rfl) (by kernel_rfl) (fun _ _ _ h => h) (Or.inl ⟨by rfl, ?_⟩) hH ?_
    · intro w hSw; (try dsimp only at hSw); obtain ⟨_, a0, a1, a2, a3, a4, _, _, _, _, _, _, _, _, _, _, _⟩ := hSw.x; obtain ⟨_, d0, d1, d2, d3, d4, _, _, _, _, _, _, _, _, _, _, _⟩ := hSw.y; go_simp
    simp only [List.setIfInBounds_toArray, List.set_cons_zero, List.set_cons_succ]
    refine take_at (i := 13) (v := .bool true) rfl rfl (by kernel_rfl) (by kernel_rfl) (by kernel_rfl) (fun _ _ _ h => h) (Or.inl ⟨by rfl, ?_⟩) hH ?_
    · intro w hSw; (try dsimp only at hSw); obtain ⟨_, a0, a1, a2, a3, a4, _, _, _, _, _, _, _, _, _, _, _⟩ := hSw.x; obtain ⟨_, d0, d1, d2, d3, d4, _, _, _, _, _, _, _, _, _, _, _⟩ := hSw.y; go_simp
    simp only [List.setIfInBounds_toArray, List.set_cons_zero, List.set_cons_succ]
    refine take_at (i := 14) (v := .bool true) rfl rfl (by kernel_rfl) (by kernel_rfl) (by kernel_rfl) (fun _ _ _ h => h) (Or.inl ⟨by rfl, ?_⟩) hH ?_
    · intro w hSw; (try dsimp only at hSw); obtain ⟨_, a0, a1, a2, a3, a4, _, _, _, _, _, _, _, _, _, _, _⟩ := hSw.x; obtain ⟨_, d0, d1, d2, d3, d4, _, _, _, _, _, _, _, _, _, _, _⟩ := hSw.y; go_simp
    simp only [List.setIfInBounds_toArray, List.set_cons_zero, List.set_cons_succ]
    refine take_at (i := 15) (v := .pointer (some ⟨w.heap.size, 1, none⟩)) rfl rfl (by kernel_rfl) (by kernel_rfl) (by kernel_rfl) (fun _ _ _ h => h) (Or.inl ⟨by rfl, ?_⟩) hH ?_
    · intro w hSw; (try dsimp only at hSw); obtain ⟨_, a0, a1, a2, a3, a4, _, _, _, _, _, _, _, _, _, _, _⟩ := hSw.x; obtain ⟨_, d0, d1, d2, d3, d4, _, _, _, _, _, _, _, _, _, _, _⟩ := hSw.y; go_simp
    simp only [List.setIfInBounds_toArray, List.set_cons_zero, List.set_cons_succ]
    refine take_at (i := 16) (v := .string ⟨tx.toArray⟩) rfl rfl (by kernel_rfl) (by kernel_rfl) (by kernel_rfl) (fun _ _ _ h => h) (Or.inl ⟨by rfl, ?_⟩) hH ?_
    · intro w hSw; (try dsimp only at hSw); obtain ⟨_, a0, a1, a2, a3, a4, _, _, _, _, _, _, _, _, _, _, _⟩ := hSw.x; obtain ⟨_, d0, d1, d2, d3, d4, _, _, _, _, _, _, _, _, _, _, _⟩ := hSw.y; go_simp
    simp only [List.setIfInBounds_toArray, List.set_cons_zero, List.set_cons_succ]
    refine take_at (i := 17) (v := .pointer (some ⟨w.heap.size + 1, 1, none⟩)) rfl rfl (by kernel_rfl) (by kernel_rfl) (by kernel_rfl) (fun _ _ _ h => h) (Or.inl ⟨by rfl, ?_⟩) hH ?_
    · intro w hSw; (try dsimp only at hSw); obtain ⟨_, a0, a1, a2, a3, a4, _, _, _, _, _, _, _, _, _, _, _⟩ := hSw.x; obtain ⟨_, d0, d1, d2, d3, d4, _, _, _, _, _, _, _, _, _, _, _⟩ := hSw.y; go_simp
    simp only [List.setIfInBounds_toArray, List.set_cons_zero, List.set_cons_succ]
    refine take_at (i := 18) (v := .string ⟨tx.toArray⟩) rfl rfl (by kernel_rfl) (by kernel_rfl) (by kernel_rfl) (fun _ _ _ h => h) (Or.inl ⟨by rfl, ?_⟩) hH ?_
    · intro w hSw; (try dsimp only at hSw); obtain ⟨_, a0, a1, a2, a3, a4, _, _, _, _, _, _, _, _, _, _, _⟩ := hSw.x; obtain ⟨_, d0, d1, d2, d3, d4, _, _, _, _, _, _, _, _, _, _, _⟩ := hSw.y; go_simp
    simp only [List.setIfInBounds_toArray, List.set_cons_zero, List.set_cons_succ]
    refine take_at (i := 19) (v := .bool false) rfl rfl (by kernel_rfl) (by kernel_rfl) (by kernel_rfl) (fun _ _ _ h => h) (Or.inl ⟨by rfl, ?_⟩) hH ?_
    · intro w hSw; (try dsimp only at hSw); obtain ⟨_, a0, a1, a2, a3, a4, _, _, _, _, _, _, _, _, _, _, _⟩ := hSw.x; obtain ⟨_, d0, d1, d2, d3, d4, _, _, _, _, _, _, _, _, _, _, _⟩ := hSw.y; go_simp
    simp only [List.setIfInBounds_toArray, List.set_cons_zero, List.set_cons_succ]
    refine take_at (i := 20) (v := .bool false) rfl rfl (by kernel_rfl) (by kernel_rfl) (by kernel_rfl) (fun _ _ _ h => h) (Or.inl ⟨by rfl, ?_⟩) hH ?_
    · intro w hSw; (try dsimp only at hSw); obtain ⟨_, a0, a1, a2, a3, a4, _, _, _, _, _, _, _, _, _, _, _⟩ := hSw.x; obtain ⟨_, d0, d1, d2, d3, d4, _, _, _, _, _, _, _, _, _, _, _⟩ := hSw.y; go_simp
    simp only [List.setIfInBounds_toArray, List.set_cons_zero, List.set_cons_succ]
    refine take_at (i := 21) (v := .bool false) rfl rfl (by kernel_rfl) (by kernel_rfl) (by kernel_rfl) (fun _ _ _ h => h) (Or.inl ⟨by rfl, ?_⟩) hH ?_
    · intro w hSw; (try dsimp only at hSw); obtain ⟨_, a0, a1, a2, a3, a4, _, _, _, _, _, _, _, _, _, _, _⟩ := hSw.x; obtain ⟨_, d0, d1, d2, d3, d4, _, _, _, _, _, _, _, _, _, _, _⟩ := hSw.y; go_simp
    simp only [List.setIfInBounds_toArray, List.set_cons_zero, List.set_cons_succ]
    refine take_at (i := 22) (v := .bool false) rfl rfl (by kernel_rfl) (by kernel_rfl) (by kernel_rfl) (fun _ _ _ h => h) (Or.inl ⟨by rfl, ?_⟩) hH ?_
    · intro w hSw; (try dsimp only at hSw); obtain ⟨_, a0, a1, a2, a3, a4, _, _, _, _, _, _, _, _, _, _, _⟩ := hSw.x; obtain ⟨_, d0, d1, d2, d3, d4, _, _, _, _, _, _, _, _, _, _, _⟩ := hSw.y; go_simp
    simp only [List.setIfInBounds_toArray, List.set_cons_zero, List.set_cons_succ]
    refine take_at (i := 23) (v := .pointer (some ⟨w.heap.size, 0, none⟩)) rfl rfl (by kernel_rfl) (by kernel_rfl) (by kernel_rfl) (fun _ _ _ h => h) (Or.inl ⟨by rfl, ?_⟩) hH ?_
    · intro w hSw; (try dsimp only at hSw); obtain ⟨_, a0, a1, a2, a3, a4, _, _, _, _, _, _, _, _, _, _, _⟩ := hSw.x; obtain ⟨_, d0, d1, d2, d3, d4, _, _, _, _, _, _, _, _, _, _, _⟩ := hSw.y; go_simp
    simp only [List.setIfInBounds_toArray, List.set_cons_zero, List.set_cons_succ]
    refine take_at (i := 24) (v := .int .i64 kd) rfl rfl (by kernel_rfl) (by kernel_rfl) (by kernel_rfl) (fun _ _ _ h => h) (Or.inl ⟨by rfl, ?_⟩) hH ?_
    · intro w hSw; (try dsimp only at hSw); obtain ⟨_, a0, a1, a2, a3, a4, _, _, _, _, _, _, _, _, _, _, _⟩ := hSw.x; obtain ⟨_, d0, d1, d2, d3, d4, _, _, _, _, _, _, _, _, _, _, _⟩ := hSw.y; go_simp
    simp only [List.setIfInBounds_toArray, List.set_cons_zero, List.set_cons_succ]
    refine take_at (i := 25) (v := .bool false) rfl rfl (by kernel_rfl) (by kernel_rfl) (by kernel_rfl) (fun _ _ _ h => h) (Or.inl ⟨by rfl, ?_⟩) hH ?_
    · intro w hSw; (try dsimp only at hSw); obtain ⟨_, a0, a1, a2, a3, a4, _, _, _, _, _, _, _, _, _, _, _⟩ := hSw.x; obtain ⟨_, d0, d1, d2, d3, d4, _, _, _, _, _, _, _, _, _, _, _⟩ := hSw.y; go_simp
    simp only [List.setIfInBounds_toArray, List.set_cons_zero, List.set_cons_succ]
    refine take_at (i := 26) (v := .bool false) rfl rfl (by kernel_rfl) (by kernel_rfl) (by kernel_rfl) (fun _ _ _ h => h) (Or.inl ⟨by rfl, ?_⟩) hH ?_
    · intro w hSw; (try dsimp only at hSw); obtain ⟨_, a0, a1, a2, a3, a4, _, _, _, _, _, _, _, _, _, _, _⟩ := hSw.x; obtain ⟨_, d0, d1, d2, d3, d4, _, _, _, _, _, _, _, _, _, _, _⟩ := hSw.y; go_simp
    simp only [List.setIfInBounds_toArray, List.set_cons_zero, List.set_cons_succ]
    refine take_at (i := 27) (v := undef) rfl rfl (by kernel_rfl) (by kernel_rfl) (by kernel_rfl) (fun _ _ _ h => h) (Or.inr ⟨by rfl, rfl⟩) hH ?_
    simp only [List.setIfInBounds_toArray, List.set_cons_zero, List.set_cons_succ]
    refine take_at (i := 28) (v := undef) rfl rfl (by kernel_rfl) (by kernel_rfl) (by kernel_rfl) (fun _ _ _ h => h) (Or.inr ⟨by rfl, rfl⟩) hH ?_
    simp only [List.setIfInBounds_toArray, List.set_cons_zero, List.set_cons_succ]
    refine take_at (i := 29) (v := undef) rfl rfl (by kernel_rfl) (by kernel_rfl) (by kernel_rfl) (fun _ _ _ h => h) (Or.inr ⟨by rfl, rfl⟩) hH ?_
    simp only [List.setIfInBounds_toArray, List.set_cons_zero, List.set_cons_succ]
    refine take_at (i := 30) (v := undef) rfl rfl (by kernel_rfl) (by kernel_rfl) (by kernel_rfl) (fun _ _ _ h => h) (Or.inr ⟨by rfl, rfl⟩) hH ?_
    simp only [List.setIfInBounds_toArray, List.set_cons_zero, List.set_cons_succ]
    refine take_at (i := 31) (v := undef) rfl rfl (by kernel_rfl) (by kernel_rfl) (by kernel_rfl) (fun _ _ _ h => h) (Or.inr ⟨by rfl, rfl⟩) hH ?_
    simp only [List.setIfInBounds_toArray, List.set_cons_zero, List.set_cons_succ]
    refine take_at (i := 32) (v := undef) rfl rfl (by kernel_rfl) (by kernel_rfl) (by kernel_rfl) (fun _ _ _ h => h) (Or.inr ⟨by rfl, rfl⟩) hH ?_
    simp only [List.setIfInBounds_toArray, List.set_cons_zero, List.set_cons_succ]
    refine take_at (i := 33) (v := undef) rfl rfl (by kernel_rfl) (by kernel_rfl) (by kernel_rfl) (fun _ _ _ h => h) (Or.inr ⟨by rfl, rfl⟩) hH ?_
    simp only [List.setIfInBounds_toArray, List.set_cons_zero, List.set_cons_succ]
    refine take_at (i := 34) (v := .bool false) rfl rfl (by kernel_rfl) (by kernel_rfl) (by kernel_rfl) (fun _ _ _ h => h) (Or.inl ⟨by rfl, ?_⟩) hH ?_
    · intro w hSw; (try dsimp only at hSw); obtain ⟨_, a0, a1, a2, a3, a4, _, _, _, _, _, _, _, _, _, _, _⟩ := hSw.x; obtain ⟨_, d0, d1, d2, d3, d4, _, _, _, _, _, _, _, _, _, _, _⟩ := hSw.y; go_simp
    simp only [List.setIfInBounds_toArray, List.set_cons_zero, List.set_cons_succ]
    refine take_at (i := 35) (v := .bool false) rfl rfl (by kernel_rfl) (by kernel_rfl) (by kernel_rfl) (fun _ _ _ h => h) (Or.inl ⟨by rfl, ?_⟩) hH ?_
    · intro w hSw; (try dsimp only at hSw); obtain ⟨_, a0, a1, a2, a3, a4, _, _, _, _, _, _, _, _, _, _, _⟩ := hSw.x; obtain ⟨_, d0, d1, d2, d3, d4, _, _, _, _, _, _, _, _, _, _, _⟩ := hSw.y; go_simp
    simp only [List.setIfInBounds_toArray, List.set_cons_zero, List.set_cons_succ]
    refine wpAnyH_done (by kernel_rfl) ?_ _
    refine NoPanic.normal ?_
    have B9 := hH.b
    go_wp2_with fail
    go_ret
    exact ⟨rfl, B9⟩
end Go.Proofs.YtfcolecglobcdaaGreatDoor
