/-
  The walk of lockstepref07.Parts of any expression.
-/
import Derived.Test.YtokppkinhlcafaaGreatDoorExF
import Derived.Deep.RegionHeld3
import Derived.Deep.RegionLawGrows
import Derived.Deep.Onto
namespace Go.Proofs.YtokppkinhlcafaaGreatDoor
open Go.RowKit Go.Joins
set_option maxRecDepth 100000

theorem take_at {P : Program} {ops : Array Oper} {Q : Exit → Act → World → Prop} {md : Region.Mode} {S : World → Prop} {i d : Nat} {oi : Oper} {v : Value} {fuel : Nat} {listed : Array Bool} {ts : Array Value} {df : List Deferred} {w : World} (hi : ops[i]? = some oi) (hd : oi.dst = some d)
    (hs : Region.noSelect ops = true) (hf : Region.free md ops listed i = true) (hr : (Region.ready md ops listed).contains i = true)
    (hQ : ∀ c a w, Q (.panic c) (a.put oi.dst v) w → Q (.panic c) a w) (hy : YieldsIf P ops S oi v ⟨ts, df⟩) (hS : S w)
    (h : wpAnyH P md ops Q S fuel (listed.setIfInBounds i true) ⟨ts.setIfInBounds d v, df⟩ w) : wpAnyH P md ops Q S (fuel + 1) listed ⟨ts, df⟩ w :=
  wpAnyH_take hi hs hf hr hQ hy hS (by rw [hd]; exact h)
theorem wp_app_here (t : TypeId) {o : Oper} {a : Act} {w : World} {K : Act → World → Prop} {Q : Exit → Act → World → Prop} (s x : Operand) (ho : o.op = .call { callee := .builtin .append, args := #[s, x], argTypes := #[t, t] })
    {v y v' : Value} {w' : World} (hs : a.eval s = v) (hx : a.eval x = y) (hr : ∀ ty, (Builtin.append_ #[t, t] ty #[v, y]).run Tryz.prog w = .ok v' w') (h : K (a.put o.dst v') w') : Oper.wp Tryz.prog o a w K Q := by
  unfold Oper.wp execOp
  simp only [ho, resolve, invoke, builtin, Sem.run_bind, Sem.run_pure, Result.andThen_ok, List.map_toArray, List.map_cons, List.map_nil, hs, hx, hr]
  exact h
/-- two lists of conditions put together -/
theorem pts_app {S : Nat → Prop} {n : Nat} {w A : World} {l1 l2 : List Ex} {xs1 xs2 : List Value} {v1 v2 : Value} {B1 B2 : Nat} (hS : ∀ q, S q → q < w.heap.size) (hb : Below w.heap.size w A) (h1 : w.heap.size ≤ B1) (h1' : B1 ≤ A.heap.size) (o1 : A.ownsRow B1 26 9 v1 l1.length xs1) (o2 : A.ownsRow B2 26 9 v2 l2.length xs2) (e1 : els A S n l1 xs1) (e2 : els A S n l2 xs2) (m1 : 0 < l1.length) (m2 : 0 < l2.length) (hl : l1.length + l2.length ≤ 100000000) :
    ∃ v' w', (∀ ty, (Builtin.append_ #[22, 22] ty #[v1, v2]).run Tryz.prog A = .ok v' w') ∧ PtQ w S n (l1 ++ l2) (.returned v') w' := by
  obtain ⟨v', w', r, o, g⟩ := app_run B1 v1 _ xs1 v2 B2 _ xs2 A o1 o2 (own_ones e2 o2.1) m2 hl h1'
  have hk : ∀ (x : Ex) (cs : List Value), exIn A S n x cs → exIn w' S n x cs := fun x cs h => h.kept g (fun q hq e => by have := (own_lt o1 e.symm).1; have := hS q hq; omega)
  refine ⟨v', w', r, v', xs1 ++ xs2, rfl, ?_, (e1.map hk).app (e2.map hk) o1.1, by rw [List.length_append]; omega, below_app hb o1 h1 g⟩
  rw [List.length_append]
  exact o.mono h1
theorem PtQ.below {w : World} {S : Nat → Prop} {n : Nat} {l : List Ex} {e : Ending} {w' : World} (h : PtQ w S n l e w') : Below w.heap.size w w' := by
  obtain ⟨_, _, _, _, _, _, h⟩ := h
  exact h
theorem PtQ.up {w W : World} {S : Nat → Prop} {n : Nat} {l : List Ex} {e : Ending} {w' : World} (h : PtQ W S n l e w') (hb : Below w.heap.size w W) : PtQ w S n l e w' := by
  obtain ⟨v, xs, h1, h2, h3, h4, h5⟩ := h
  exact ⟨v, xs, h1, h2.mono hb.size, h3, h4, hb.trans (h5.mono hb.size)⟩
set_option maxHeartbeats 4000000 in
set_option maxRecDepth 1000000 in
theorem refParts_two (n : Nat) (S : Nat → Prop) (a x y : Ex) (P : Option Addr) (C : Nat) (w : World) (ha : exIn w S (n + 1) a (exC a P C)) (hop : a.op = bAnd) (hp : a.parts = [x, y])
    (hS : ∀ q, S q → q < w.heap.size) (IH : ∀ (x : Ex) (P : Option Addr) (C : Nat) (w : World), exIn w S n x (exC x P C) → (∀ q, S q → q < w.heap.size) → (exP n x).length ≤ 100000000 → Calls Tryz.prog 8 #[exV x P C] w fun e w' => PtQ w S n (exP n x) e w') (hl : (exP n x).length + (exP n y).length ≤ 100000000) :
    Calls Tryz.prog 8 #[exV a P C] w fun e w' => PtQ w S n (exP n x ++ exP n y) e w' := by
  have hlen : a.parts.length = 2 := by rw [hp]; rfl
  obtain ⟨g, o, Px, Cx, rfl, ix, cx⟩ := ha.part (k := 0) (x := x) (by rw [hp]; rfl)
  obtain ⟨g', o', Py, Cy, e1, iy, cy⟩ := ha.part (k := 1) (x := y) (by rw [hp]; rfl)
  cases e1
  have h2 : ((a.parts.length : Int) != 2) = false := by rw [hlen]; rfl
  have hl0 : 0 < a.parts.length := by omega
  have hl1 : (1 : Int) < (a.parts.length : Int) := by omega
  have hl9 : (0 : Int) < (a.parts.length : Int) := by omega
  have h4 : a.op.toList = [97, 110, 100] := by rw [hop, ByteArray.toList_eq]; rfl
  obtain ⟨W, hW⟩ : ∃ W, W = w.alloc (.cells #[.string a.op, .slice (some ⟨g, o, none⟩) a.parts.length C, .int .i64 a.vt, .int .i64 a.vn, .string a.vs, .string a.nm, .string a.of, .int .i64 a.ty, .int .i64 a.at_] 26) := ⟨_, rfl⟩
  have B1 : Below w.heap.size w W := by rw [hW]; exact (Below.refl _ w).alloc (Nat.le_refl _) _
  have c1 : W.cell? ⟨w.heap.size, 1, none⟩ = some (.slice (some ⟨g, o, none⟩) a.parts.length C) := by rw [hW]; simp
  have T0 : tz W w g o a.parts.length C x y Px Py Cx Cy W := ⟨Below.refl _ _, c1, cellNext B1 (cx 0 _ rfl), cellNext B1 (cx 1 _ rfl), cellNext B1 (cx 2 _ rfl), cellNext B1 (cx 3 _ rfl), cellNext B1 (cx 4 _ rfl), cellNext B1 (cx 5 _ rfl), cellNext B1 (cx 6 _ rfl), cellNext B1 (cx 7 _ rfl), cellNext B1 (cx 8 _ rfl), cellNext B1 (cy 0 _ rfl), cellNext B1 (cy 1 _ rfl), cellNext B1 (cy 2 _ rfl), cellNext B1 (cy 3 _ rfl), cellNext B1 (cy 4 _ rfl), cellNext B1 (cy 5 _ rfl), cellNext B1 (cy 6 _ rfl), cellNext B1 (cy 7 _ rfl), cellNext B1 (cy 8 _ rfl)⟩
  have I1 : Hid (∀ w', tz W w g o a.parts.length C x y Px Py Cx Cy w' → exIn w' S n x (exC x Px Cx)) := fun w' t => (ix.below B1).below t.1
  have I2 : Hid (∀ w', tz W w g o a.parts.length C x y Px Py Cx Cy w' → exIn w' S n y (exC y Py Cy)) := fun w' t => (iy.below B1).below t.1
  have HI := mkHid IH
  have HW := mkHid hW
  have HB := mkHid B1
  have KS : Hid (∀ w', Below W.heap.size W w' → (tz W w g o a.parts.length C x y Px Py Cx Cy) w') := fun w' h => tz.step T0 h
  have hSW : Hid (∀ q, S q → q < W.heap.size) := fun q hq => Nat.lt_of_lt_of_le (hS q hq) B1.size
  have b0 : Below W.heap.size W W.drew := (Below.refl _ _).drew
  replace hl := mkHid hl
  clear hlen hS hW IH ix iy cx cy ha hop hp B1 c1 T0
  go_enter Tryz.func8, Tryz.ntmps8
  go_wp2_with fail
  rw [← HW.out]
  refine wp_region_noPanic ?_
  refine wp_region_held_drew (S := tz W w g o a.parts.length C x y Px Py Cx Cy) (by kernel_rfl) (KS.out _ b0) (fun hH => ?_)
  refine take_at (i := 0) (v := .pointer (some ⟨w.heap.size, 1, none⟩)) rfl rfl (by kernel_rfl) (by kernel_rfl) (by kernel_rfl) (fun _ _ _ h => h) (Or.inl ⟨by rfl, ?_⟩) hH ?_
  · intro w5 hSw; obtain ⟨s0, s1, s2, s3, s4, s5, s6, s7, s8, s9, s10, s11, s12, s13, s14, s15, s16, s17, s18, s19⟩ := hSw; go_simp
  simp only [List.setIfInBounds_toArray, List.set_cons_zero, List.set_cons_succ]
  refine take_at (i := 1) (v := .slice (some ⟨g, o, none⟩) a.parts.length C) rfl rfl (by kernel_rfl) (by kernel_rfl) (by kernel_rfl) (fun _ _ _ h => h) (Or.inl ⟨by rfl, ?_⟩) hH ?_
  · intro w5 hSw; obtain ⟨s0, s1, s2, s3, s4, s5, s6, s7, s8, s9, s10, s11, s12, s13, s14, s15, s16, s17, s18, s19⟩ := hSw; go_simp
  simp only [List.setIfInBounds_toArray, List.set_cons_zero, List.set_cons_succ]
  refine take_at (i := 2) (v := .pointer (some ⟨g, o, none⟩)) rfl rfl (by kernel_rfl) (by kernel_rfl) (by kernel_rfl) (fun _ _ _ h => h) (Or.inl ⟨by rfl, ?_⟩) hH ?_
  · intro w5 hSw; obtain ⟨s0, s1, s2, s3, s4, s5, s6, s7, s8, s9, s10, s11, s12, s13, s14, s15, s16, s17, s18, s19⟩ := hSw; go_simp
  simp only [List.setIfInBounds_toArray, List.set_cons_zero, List.set_cons_succ]
  refine take_at (i := 3) (v := exV x Px Cx) rfl rfl (by kernel_rfl) (by kernel_rfl) (by kernel_rfl) (fun _ _ _ h => h) (Or.inl ⟨by rfl, ?_⟩) hH ?_
  · intro w5 hSw; obtain ⟨s0, s1, s2, s3, s4, s5, s6, s7, s8, s9, s10, s11, s12, s13, s14, s15, s16, s17, s18, s19⟩ := hSw; go_simp
  simp only [List.setIfInBounds_toArray, List.set_cons_zero, List.set_cons_succ]
  refine take_at (i := 5) (v := .pointer (some ⟨w.heap.size, 1, none⟩)) rfl rfl (by kernel_rfl) (by kernel_rfl) (by kernel_rfl) (fun _ _ _ h => h) (Or.inl ⟨by rfl, ?_⟩) hH ?_
  · intro w5 hSw; obtain ⟨s0, s1, s2, s3, s4, s5, s6, s7, s8, s9, s10, s11, s12, s13, s14, s15, s16, s17, s18, s19⟩ := hSw; go_simp
  simp only [List.setIfInBounds_toArray, List.set_cons_zero, List.set_cons_succ]
  refine take_at (i := 6) (v := .slice (some ⟨g, o, none⟩) a.parts.length C) rfl rfl (by kernel_rfl) (by kernel_rfl) (by kernel_rfl) (fun _ _ _ h => h) (Or.inl ⟨by rfl, ?_⟩) hH ?_
  · intro w5 hSw; obtain ⟨s0, s1, s2, s3, s4, s5, s6, s7, s8, s9, s10, s11, s12, s13, s14, s15, s16, s17, s18, s19⟩ := hSw; go_simp
  simp only [List.setIfInBounds_toArray, List.set_cons_zero, List.set_cons_succ]
  refine take_at (i := 7) (v := .pointer (some ⟨g, o + 9, none⟩)) rfl rfl (by kernel_rfl) (by kernel_rfl) (by kernel_rfl) (fun _ _ _ h => h) (Or.inl ⟨by rfl, ?_⟩) hH ?_
  · intro w5 hSw; obtain ⟨s0, s1, s2, s3, s4, s5, s6, s7, s8, s9, s10, s11, s12, s13, s14, s15, s16, s17, s18, s19⟩ := hSw; go_simp
  simp only [List.setIfInBounds_toArray, List.set_cons_zero, List.set_cons_succ]
  refine take_at (i := 8) (v := exV y Py Cy) rfl rfl (by kernel_rfl) (by kernel_rfl) (by kernel_rfl) (fun _ _ _ h => h) (Or.inl ⟨by rfl, ?_⟩) hH ?_
  · intro w5 hSw; obtain ⟨s0, s1, s2, s3, s4, s5, s6, s7, s8, s9, s10, s11, s12, s13, s14, s15, s16, s17, s18, s19⟩ := hSw; go_simp
  simp only [List.setIfInBounds_toArray, List.set_cons_zero, List.set_cons_succ]
  refine wpAnyH_ready (rs := [4]) (by kernel_rfl) (by simp) ?_
  refine AllReadyH.cons rfl (fun K hK => ?_) AllReadyH.nil
  go_simp
  go_at_call 8
  refine (HI.out x Px Cx _ (I1.out _ (KS.out _ b0)) (fun q hq => Nat.lt_of_lt_of_le (hSW.out q hq) b0.size) (by have := hl.out; omega)).mono ?_
  rintro e wA ⟨v1, xs1, rfl, o1, l1, m1, q1⟩
  obtain ⟨P1, C1, rfl⟩ := own_form o1
  have bA : Below W.heap.size W wA := b0.trans (q1.mono b0.size)
  replace o1 := mkHid o1
  replace l1 := mkHid l1
  replace q1 := mkHid q1
  go_wp2_with fail
  refine hK.out _ _ (KS.out _ bA) (fun hH => ?_)
  clear hK K
  refine wpAnyH_ready (rs := [9]) (by kernel_rfl) (by simp) ?_
  refine AllReadyH.cons rfl (fun K hK => ?_) AllReadyH.nil
  go_simp
  go_at_call 8
  refine (HI.out y Py Cy _ (I2.out _ (KS.out _ bA)) (fun q hq => Nat.lt_of_lt_of_le (hSW.out q hq) bA.size) (by have := hl.out; omega)).mono ?_
  rintro e wB ⟨v2, xs2, rfl, o2, l2, m2, q2⟩
  obtain ⟨P2, C2, rfl⟩ := own_form o2
  have bB : Below W.heap.size W wB := bA.trans (q2.mono bA.size)
  replace o2 := mkHid o2
  replace l2 := mkHid l2
  replace q2 := mkHid q2
  go_wp2_with fail
  refine hK.out _ _ (KS.out _ bB) (fun hH => ?_)
  clear hK K
  obtain ⟨v3, w3, r3, p3⟩ := pts_app (w := W) (A := wB) (B1 := W.heap.size) hSW.out bB (Nat.le_refl _) bB.size (own_belowX o1.out q2.out) o2.out (l1.out.map (fun _ _ h => h.below q2.out)) l2.out m1 m2 hl.out
  have b3 : Below W.heap.size W w3 := p3.below
  replace p3 := mkHid p3
  refine wpAnyH_ready (rs := [10]) (by kernel_rfl) (by simp) ?_
  refine AllReadyH.cons rfl (fun K hK => ?_) AllReadyH.nil
  clear o1 o2 l1 l2 q1 q2
  rw [if_pos (by kernel_rfl)]
  refine wp_app_here 22 (.tmp 18) (.tmp 23) rfl rfl rfl r3 ?_
  refine hK.out _ _ (KS.out _ b3) (fun hH => ?_)
  clear hK K
  simp only [Act.put, List.setIfInBounds_toArray]
  refine take_at (i := 11) (v := v3) rfl rfl (by kernel_rfl) (by kernel_rfl) (by kernel_rfl) (fun _ _ _ h => h) (Or.inl ⟨by rfl, ?_⟩) hH ?_
  · intro w5 hSw; obtain ⟨s0, s1, s2, s3, s4, s5, s6, s7, s8, s9, s10, s11, s12, s13, s14, s15, s16, s17, s18, s19⟩ := hSw; go_simp
  simp only [List.setIfInBounds_toArray, List.set_cons_zero, List.set_cons_succ]
  refine wpAnyH_done (by kernel_rfl) ?_ _
  refine NoPanic.normal ?_
  have p4 : Hid (PtQ w S n (exP n x ++ exP n y) (.returned v3) w3) := p3.out.up HB.out
  clear hH I1 I2 HI KS p3 b3 bA bB r3
  go_wp2_with fail
  go_ret
  exact p4.out
/-- the conditions of any expression, as the document has them -/
theorem refParts_any (S : Nat → Prop) : ∀ (n : Nat) (a : Ex) (P : Option Addr) (C : Nat) (w : World), exIn w S n a (exC a P C) → (∀ q, S q → q < w.heap.size) → (exP n a).length ≤ 100000000 → Calls Tryz.prog 8 #[exV a P C] w fun e w' => PtQ w S n (exP n a) e w'
  | 0, _, _, _, _, ha, _, _ => ha.elim
  | n + 1, a, P, C, w, ha, hS, hl => by
    by_cases h : a.op = bAnd ∧ a.parts.length = 2
    · obtain ⟨x, y, hp⟩ : ∃ x y, a.parts = [x, y] := by
        match hq : a.parts, h.2 with
        | [x, y], _ => exact ⟨x, y, rfl⟩
      rw [exP_two h.1 hp] at hl ⊢
      rw [List.length_append] at hl
      refine (refParts_two n S a x y P C w ha h.1 hp hS (fun x P C w h1 h2 h3 => refParts_any S n x P C w h1 h2 h3) hl).mono (fun e w' hq => ?_)
      obtain ⟨v, xs, h1, h2, h3, h4, h5⟩ := hq
      exact ⟨v, xs, h1, h2, h3.map (fun _ _ hh => hh.up), h4, h5⟩
    · rw [exP_one h]
      exact refParts_one (n + 1) S a P C w ha h
end Go.Proofs.YtokppkinhlcafaaGreatDoor
