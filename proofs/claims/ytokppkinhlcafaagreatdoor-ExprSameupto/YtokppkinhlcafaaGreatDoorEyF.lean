/-
  The law ExprSame, walked.
-/
import Derived.Test.YtokppkinhlcafaaGreatDoorEyE
namespace Go.Proofs.YtokppkinhlcafaaGreatDoor
open Go.RowKit Go.Joins
set_option maxRecDepth 100000

set_option maxHeartbeats 8000000 in
set_option maxRecDepth 1000000 in
theorem ExprSame_walk (n : Nat) (S : Nat → Prop) (a b : Ex) (l : List Ex) (Pa Pb Pl : Option Addr) (Ca Cb Cl : Nat) (w : World) (ha : exIn w S n a (exC a Pa Ca)) (hb : exIn w S n b (exC b Pb Cb)) (hl : lIn w S n l Pl Cl) (hS : ∀ q, S q → q < w.heap.size) (h1 : (exP n a).length ≤ 100000000) (h2 : l.length ≤ 100000000) :
    Calls Tryz.prog 3 #[exV a Pa Ca, exV b Pb Cb, .slice Pl l.length Cl] w fun e w' => e = .returned (.bool true) ∧ Below w.heap.size w w' := by
  obtain ⟨W, hW⟩ : ∃ W, W = (w.alloc (.cells #[.string a.op, .slice Pa a.parts.length Ca, .int .i64 a.vt, .int .i64 a.vn, .string a.vs, .string a.nm, .string a.of, .int .i64 a.ty, .int .i64 a.at_] 26)).alloc (.cells #[.string b.op, .slice Pb b.parts.length Cb, .int .i64 b.vt, .int .i64 b.vn, .string b.vs, .string b.nm, .string b.of, .int .i64 b.ty, .int .i64 b.at_] 26) := ⟨_, rfl⟩
  have bW : Below w.heap.size w W := by rw [hW]; exact ((Below.refl _ w).alloc (Nat.le_refl _) _).alloc (by simp) _
  have na : nine W w.heap.size 0 a Pa Ca := by rw [hW]; exact ⟨by simp, by simp, by simp, by simp, by simp, by simp, by simp, by simp, by simp⟩
  have nb : nine W (w.heap.size + 1) 0 b Pb Cb := by rw [hW]; exact ⟨by simp, by simp, by simp, by simp, by simp, by simp, by simp, by simp, by simp⟩
  have NA : Hid (∀ w', Below W.heap.size W w' → nine w' w.heap.size 0 a Pa Ca) := fun w' h => na.next h
  have NB : Hid (∀ w', Below W.heap.size W w' → nine w' (w.heap.size + 1) 0 b Pb Cb) := fun w' h => nb.next h
  have HA := mkHid (ha.below bW)
  have HB := mkHid (hb.below bW)
  have HL := mkHid (hl.below bW)
  have HS : Hid (∀ q, S q → q < W.heap.size) := fun q hq => Nat.lt_of_lt_of_le (hS q hq) bW.size
  have BW := mkHid bW
  have HW := mkHid hW
  clear ha hb hl hS bW na nb hW
  go_enter Tryz.func3, Tryz.ntmps3
  go_wp2_with fail
  rw [← HW.out]
  refine wp_region_noPanic ?_
  refine wp_region_held_drew (S := fun w' : World => Below W.heap.size W w') (by kernel_rfl) (Below.refl _ _).drew (fun hH => ?_)
  have B0 : Below W.heap.size W W.drew := (Below.refl _ _).drew
  refine take_at (i := 0) (v := exV a Pa Ca) rfl rfl (by kernel_rfl) (by kernel_rfl) (by kernel_rfl) (fun _ _ _ h => h) (Or.inl ⟨by rfl, ?_⟩) hH ?_
  · intro w5 hSw; obtain ⟨n0, n1, n2, n3, n4, n5, n6, n7, n8⟩ := NA.out _ hSw; go_simp
  simp only [List.setIfInBounds_toArray, List.set_cons_zero, List.set_cons_succ]
  refine take_at (i := 2) (v := exV b Pb Cb) rfl rfl (by kernel_rfl) (by kernel_rfl) (by kernel_rfl) (fun _ _ _ h => h) (Or.inl ⟨by rfl, ?_⟩) hH ?_
  · intro w5 hSw; obtain ⟨n0, n1, n2, n3, n4, n5, n6, n7, n8⟩ := NB.out _ hSw; go_simp
  simp only [List.setIfInBounds_toArray, List.set_cons_zero, List.set_cons_succ]
  refine take_at (i := 5) (v := exV a Pa Ca) rfl rfl (by kernel_rfl) (by kernel_rfl) (by kernel_rfl) (fun _ _ _ h => h) (Or.inl ⟨by rfl, ?_⟩) hH ?_
  · intro w5 hSw; obtain ⟨n0, n1, n2, n3, n4, n5, n6, n7, n8⟩ := NA.out _ hSw; go_simp
  simp only [List.setIfInBounds_toArray, List.set_cons_zero, List.set_cons_succ]
  refine take_at (i := 6) (v := exV b Pb Cb) rfl rfl (by kernel_rfl) (by kernel_rfl) (by kernel_rfl) (fun _ _ _ h => h) (Or.inl ⟨by rfl, ?_⟩) hH ?_
  · intro w5 hSw; obtain ⟨n0, n1, n2, n3, n4, n5, n6, n7, n8⟩ := NB.out _ hSw; go_simp
  simp only [List.setIfInBounds_toArray, List.set_cons_zero, List.set_cons_succ]
  refine wpAnyH_ready (rs := [1]) (by kernel_rfl) (by simp) ?_
  refine AllReadyH.cons rfl (fun K hK => ?_) AllReadyH.nil
  go_simp
  go_at_call 5
  refine (Copied_ex S n a Pa Ca _ (HA.out.below B0)).mono ?_
  rintro e w1 ⟨P1, C1, rfl, i1, b1⟩
  have I1 := mkHid (i1.more (S' := fun _ => True) (fun _ _ => trivial))
  have B1 : Below W.heap.size W w1 := B0.trans (b1.mono B0.size)
  have C1B := mkHid b1
  clear i1 b1
  go_wp2_with fail
  refine hK.out _ _ (B1) (fun hH => ?_)
  clear hK K
  refine wpAnyH_ready (rs := [3]) (by kernel_rfl) (by simp) ?_
  refine AllReadyH.cons rfl (fun K hK => ?_) AllReadyH.nil
  go_simp
  go_at_call 5
  refine (Copied_ex S n b Pb Cb _ (HB.out.below B1)).mono ?_
  rintro e w2 ⟨P2, C2, rfl, i2, b2⟩
  have I2 := mkHid (i2.more (S' := fun _ => True) (fun _ _ => trivial))
  have B2 : Below W.heap.size W w2 := B1.trans (b2.mono B1.size)
  have C2B := mkHid b2
  clear i2 b2
  go_wp2_with fail
  refine hK.out _ _ (B2) (fun hH => ?_)
  clear hK K
  refine wpAnyH_ready (rs := [4]) (by kernel_rfl) (by simp) ?_
  refine AllReadyH.cons rfl (fun K hK => ?_) AllReadyH.nil
  go_simp
  go_at_call 4
  refine (Same_all (fun _ => True) n a b P1 P2 C1 C2 _ (I1.out.below C2B.out) I2.out).mono ?_
  rintro e w3 ⟨rfl, b3⟩
  have B3 : Below W.heap.size W w3 := B2.trans (b3.mono B2.size)
  clear b3 I1 I2 C1B C2B
  go_wp2_with fail
  refine hK.out _ _ (B3) (fun hH => ?_)
  clear hK K
  refine wpAnyH_ready (rs := [7]) (by kernel_rfl) (by simp) ?_
  refine AllReadyH.cons rfl (fun K hK => ?_) AllReadyH.nil
  go_simp
  go_at_call 6
  refine (refSame_all S n a b Pa Pb Ca Cb _ (HA.out.below B3) (HB.out.below B3)).mono ?_
  rintro e w4 ⟨rfl, b4⟩
  have B4 : Below W.heap.size W w4 := B3.trans (b4.mono B3.size)
  clear b4
  go_wp2_with fail
  refine hK.out _ _ (B4) (fun hH => ?_)
  clear hK K
  refine take_at (i := 8) (v := .bool false) rfl rfl (by kernel_rfl) (by kernel_rfl) (by kernel_rfl) (fun _ _ _ h => h) (Or.inl ⟨by rfl, ?_⟩) hH ?_
  · intro w5 hSw; cases exS svE n a b <;> go_simp
  simp only [List.setIfInBounds_toArray, List.set_cons_zero, List.set_cons_succ]
  refine take_at (i := 9) (v := .bool false) rfl rfl (by kernel_rfl) (by kernel_rfl) (by kernel_rfl) (fun _ _ _ h => h) (Or.inl ⟨by rfl, ?_⟩) hH ?_
  · intro w5 hSw; go_simp
  simp only [List.setIfInBounds_toArray, List.set_cons_zero, List.set_cons_succ]
  refine take_at (i := 10) (v := exV a Pa Ca) rfl rfl (by kernel_rfl) (by kernel_rfl) (by kernel_rfl) (fun _ _ _ h => h) (Or.inl ⟨by rfl, ?_⟩) hH ?_
  · intro w5 hSw; obtain ⟨n0, n1, n2, n3, n4, n5, n6, n7, n8⟩ := NA.out _ hSw; go_simp
  simp only [List.setIfInBounds_toArray, List.set_cons_zero, List.set_cons_succ]
  refine take_at (i := 11) (v := exV a Pa Ca) rfl rfl (by kernel_rfl) (by kernel_rfl) (by kernel_rfl) (fun _ _ _ h => h) (Or.inl ⟨by rfl, ?_⟩) hH ?_
  · intro w5 hSw; obtain ⟨n0, n1, n2, n3, n4, n5, n6, n7, n8⟩ := NA.out _ hSw; go_simp
  simp only [List.setIfInBounds_toArray, List.set_cons_zero, List.set_cons_succ]
  refine wpAnyH_ready (rs := [12]) (by kernel_rfl) (by simp) ?_
  refine AllReadyH.cons rfl (fun K hK => ?_) AllReadyH.nil
  go_simp
  go_at_call 5
  refine (Copied_ex S n a Pa Ca _ (HA.out.below B4)).mono ?_
  rintro e w5 ⟨P5, C5, rfl, i5, b5⟩
  have I5 := mkHid (i5.more (S' := fun _ => True) (fun _ _ => trivial))
  have B5 : Below W.heap.size W w5 := B4.trans (b5.mono B4.size)
  have C5B := mkHid b5
  clear i5 b5
  go_wp2_with fail
  refine hK.out _ _ (B5) (fun hH => ?_)
  clear hK K
  refine wpAnyH_ready (rs := [13]) (by kernel_rfl) (by simp) ?_
  refine AllReadyH.cons rfl (fun K hK => ?_) AllReadyH.nil
  go_simp
  go_at_call 4
  have SA := Same_all (fun _ => True) n a a Pa P5 Ca C5 _ ((HA.out.below B5).more (fun _ _ => trivial)) I5.out
  rw [exS_same] at SA
  refine SA.mono ?_
  clear SA
  rintro e w6 ⟨rfl, b6⟩
  have B6 : Below W.heap.size W w6 := B5.trans (b6.mono B5.size)
  clear b6 I5 C5B
  go_wp2_with fail
  refine hK.out _ _ (B6) (fun hH => ?_)
  clear hK K
  refine take_at (i := 14) (v := .bool false) rfl rfl (by kernel_rfl) (by kernel_rfl) (by kernel_rfl) (fun _ _ _ h => h) (Or.inl ⟨by rfl, ?_⟩) hH ?_
  · intro w5 hSw; go_simp
  simp only [List.setIfInBounds_toArray, List.set_cons_zero, List.set_cons_succ]
  refine take_at (i := 15) (v := .bool false) rfl rfl (by kernel_rfl) (by kernel_rfl) (by kernel_rfl) (fun _ _ _ h => h) (Or.inl ⟨by rfl, ?_⟩) hH ?_
  · intro w5 hSw; go_simp
  simp only [List.setIfInBounds_toArray, List.set_cons_zero, List.set_cons_succ]
  refine wpAnyH_done (by kernel_rfl) ?_ _
  refine NoPanic.normal ?_
  clear hH B0 B1 B2 B3 B4 B5
  go_wp2_with fail
  refine wp_region_noPanic ?_
  refine wp_region_held_drew (S := fun w' : World => Below W.heap.size W w') (by kernel_rfl) B6.drew (fun hH => ?_)
  have B7 : Below W.heap.size W w6.drew := B6.drew
  refine take_at (i := 0) (v := exV a Pa Ca) rfl rfl (by kernel_rfl) (by kernel_rfl) (by kernel_rfl) (fun _ _ _ h => h) (Or.inl ⟨by rfl, ?_⟩) hH ?_
  · intro w5 hSw; obtain ⟨n0, n1, n2, n3, n4, n5, n6, n7, n8⟩ := NA.out _ hSw; go_simp
  simp only [List.setIfInBounds_toArray, List.set_cons_zero, List.set_cons_succ]
  refine take_at (i := 3) (v := exV a Pa Ca) rfl rfl (by kernel_rfl) (by kernel_rfl) (by kernel_rfl) (fun _ _ _ h => h) (Or.inl ⟨by rfl, ?_⟩) hH ?_
  · intro w5 hSw; obtain ⟨n0, n1, n2, n3, n4, n5, n6, n7, n8⟩ := NA.out _ hSw; go_simp
  simp only [List.setIfInBounds_toArray, List.set_cons_zero, List.set_cons_succ]
  refine wpAnyH_ready (rs := [1]) (by kernel_rfl) (by simp) ?_
  refine AllReadyH.cons rfl (fun K hK => ?_) AllReadyH.nil
  go_simp
  go_at_call 5
  refine (Copied_ex S n a Pa Ca _ (HA.out.below B7)).mono ?_
  rintro e w8 ⟨P8, C8, rfl, i8, b8⟩
  have I8 := mkHid i8
  have B8 : Below W.heap.size W w8 := B7.trans (b8.mono B7.size)
  clear i8 b8
  go_wp2_with fail
  refine hK.out _ _ (B8) (fun hH => ?_)
  clear hK K
  refine wpAnyH_ready (rs := [2]) (by kernel_rfl) (by simp) ?_
  refine AllReadyH.cons rfl (fun K hK => ?_) AllReadyH.nil
  go_simp
  go_at_call 7
  refine (Parts_ex n _ a P8 C8 _ I8.out (fun q hq => hq.2) h1).mono ?_
  rintro e w9 ⟨v9, xs, rfl, o9, l9, b9⟩
  have O9 := mkHid o9
  have L9 := mkHid l9
  have B9 : Below W.heap.size W w9 := B8.trans (b9.mono B8.size)
  obtain ⟨P9, C9, rfl⟩ := own_form o9
  clear o9 l9 b9 I8
  go_wp2_with fail
  refine hK.out _ _ (B9) (fun hH => ?_)
  clear hK K
  refine wpAnyH_ready (rs := [4]) (by kernel_rfl) (by simp) ?_
  refine AllReadyH.cons rfl (fun K hK => ?_) AllReadyH.nil
  go_simp
  go_at_call 8
  refine (refParts_any S n a Pa Ca _ (HA.out.below B9) (fun q hq => Nat.lt_of_lt_of_le (HS.out q hq) B9.size) h1).mono ?_
  rintro e wX ⟨vX, ys, rfl, oX, lX, mX, bX⟩
  have OX := mkHid oX
  have LX := mkHid lX
  have MX := mkHid mX
  have BX : Below W.heap.size W wX := B9.trans (bX.mono B9.size)
  obtain ⟨PX, CX, rfl⟩ := own_form oX
  replace O9 := mkHid (own_belowX O9.out bX)
  replace L9 := mkHid (L9.out.map (S' := fun _ => True) (m := n) (fun _ _ h => (h.below bX).more (fun _ _ => trivial)))
  clear oX lX mX bX
  go_wp2_with fail
  refine hK.out _ _ (BX) (fun hH => ?_)
  clear hK K
  refine take_at (i := 5) (v := .slice P9 (exP n a).length C9) rfl rfl (by kernel_rfl) (by kernel_rfl) (by kernel_rfl) (fun _ _ _ h => h) (Or.inl ⟨by rfl, ?_⟩) hH ?_
  · intro w5 hSw; go_simp
  simp only [List.setIfInBounds_toArray, List.set_cons_zero, List.set_cons_succ]
  refine take_at (i := 6) (v := .slice PX (exP n a).length CX) rfl rfl (by kernel_rfl) (by kernel_rfl) (by kernel_rfl) (fun _ _ _ h => h) (Or.inl ⟨by rfl, ?_⟩) hH ?_
  · intro w5 hSw; go_simp
  simp only [List.setIfInBounds_toArray, List.set_cons_zero, List.set_cons_succ]
  refine wpAnyH_done (by kernel_rfl) ?_ _
  refine NoPanic.normal ?_
  clear hH B7 B8 B9 B6
  obtain ⟨NN, hNN⟩ : ∃ N, N = (exP n a).length := ⟨_, rfl⟩
  rw [← hNN] at O9 OX h1 MX ⊢
  have HN := mkHid hNN
  have m0 := MX.out
  obtain ⟨g9, D9, e9⟩ := own_some O9.out m0
  obtain ⟨gX, DX, eX⟩ := own_some OX.out m0
  injection e9 with e91 _ e92
  injection eX with eX1 _ eX2
  subst e91 e92 eX1 eX2
  have BXH := mkHid BX
  clear hNN BX MX m0
  go_wp2_with fail
  go_loopw [9] (fun s9 wr => ∃ i : Nat, s9 = .int .i64 i ∧ i ≤ NN ∧ Hid (Below wX.heap.size wX wr)) (fun s9 _ => NN - (intOf s9).toNat)
  case atStart => exact ⟨0, rfl, Nat.zero_le _, Below.refl _ _⟩
  case round =>
    obtain ⟨i, rfl, hi, HR⟩ := hrel
    by_cases hlt : i < NN
    · obtain ⟨x, hx⟩ : ∃ x, (exP n a)[i]? = some x := ⟨_, List.getElem?_eq_getElem (by have := HN.out; omega)⟩
      obtain ⟨Px, Cx, ix, cx⟩ := L9.out i x hx
      obtain ⟨Py, Cy, iy, cy⟩ := LX.out i x hx
      have NP : Hid (∀ w', Below wr.heap.size wr w' → nine w' g9 (i * 9) x Px Cx) := fun w' hb => ((nine_of (fun r u hr => by have hrl : r < 9 := (List.getElem?_eq_some_iff.1 hr).1; rw [O9.out.cellAt _ (by omega)]; exact cx r u hr)).next HR.out).next hb
      have NQ : Hid (∀ w', Below wr.heap.size wr w' → nine w' gX (i * 9) x Py Cy) := fun w' hb => ((nine_of (fun r u hr => by have hrl : r < 9 := (List.getElem?_eq_some_iff.1 hr).1; rw [OX.out.cellAt _ (by omega)]; exact cy r u hr)).next HR.out).next hb
      have IX := mkHid ((ix.below HR.out).more (S' := fun _ => True) (fun _ _ => trivial))
      have IY := mkHid ((iy.below HR.out).more (S' := fun _ => True) (fun _ _ => trivial))
      have i1 : (i : Int) < (NN : Int) := by omega
      have i2 : (0 : Int) ≤ (i : Int) := by omega
      have Bd : Below wr.heap.size wr wr.drew := (Below.refl _ _).drew
      clear ix iy cx cy hx
      go_wp2_with fail
      refine wp_region_noPanic ?_
      refine wp_region_held_drew (S := fun w' : World => Below wr.heap.size wr w') (by kernel_rfl) Bd (fun hH => ?_)
      refine take_at (i := 0) (v := .slice (some ⟨g9, 0, none⟩) NN C9) rfl rfl (by kernel_rfl) (by kernel_rfl) (by kernel_rfl) (fun _ _ _ h => h) (Or.inl ⟨by rfl, ?_⟩) hH ?_
      · intro w5 hSw; go_simp
      simp only [List.setIfInBounds_toArray, List.set_cons_zero, List.set_cons_succ]
      refine take_at (i := 1) (v := .int .i64 i) rfl rfl (by kernel_rfl) (by kernel_rfl) (by kernel_rfl) (fun _ _ _ h => h) (Or.inl ⟨by rfl, ?_⟩) hH ?_
      · intro w5 hSw; go_simp
      simp only [List.setIfInBounds_toArray, List.set_cons_zero, List.set_cons_succ]
      refine take_at (i := 2) (v := .pointer (some ⟨g9, i * 9, none⟩)) rfl rfl (by kernel_rfl) (by kernel_rfl) (by kernel_rfl) (fun _ _ _ h => h) (Or.inl ⟨by rfl, ?_⟩) hH ?_
      · intro w5 hSw; go_simp
      simp only [List.setIfInBounds_toArray, List.set_cons_zero, List.set_cons_succ]
      refine take_at (i := 3) (v := exV x Px Cx) rfl rfl (by kernel_rfl) (by kernel_rfl) (by kernel_rfl) (fun _ _ _ h => h) (Or.inl ⟨by rfl, ?_⟩) hH ?_
      · intro w5 hSw; obtain ⟨n0, n1, n2, n3, n4, n5, n6, n7, n8⟩ := NP.out _ hSw; go_simp
      simp only [List.setIfInBounds_toArray, List.set_cons_zero, List.set_cons_succ]
      refine take_at (i := 4) (v := .slice (some ⟨gX, 0, none⟩) NN CX) rfl rfl (by kernel_rfl) (by kernel_rfl) (by kernel_rfl) (fun _ _ _ h => h) (Or.inl ⟨by rfl, ?_⟩) hH ?_
      · intro w5 hSw; go_simp
      simp only [List.setIfInBounds_toArray, List.set_cons_zero, List.set_cons_succ]
      refine take_at (i := 5) (v := .int .i64 i) rfl rfl (by kernel_rfl) (by kernel_rfl) (by kernel_rfl) (fun _ _ _ h => h) (Or.inl ⟨by rfl, ?_⟩) hH ?_
      · intro w5 hSw; go_simp
      simp only [List.setIfInBounds_toArray, List.set_cons_zero, List.set_cons_succ]
      refine take_at (i := 6) (v := .pointer (some ⟨gX, i * 9, none⟩)) rfl rfl (by kernel_rfl) (by kernel_rfl) (by kernel_rfl) (fun _ _ _ h => h) (Or.inl ⟨by rfl, ?_⟩) hH ?_
      · intro w5 hSw; go_simp
      simp only [List.setIfInBounds_toArray, List.set_cons_zero, List.set_cons_succ]
      refine take_at (i := 7) (v := exV x Py Cy) rfl rfl (by kernel_rfl) (by kernel_rfl) (by kernel_rfl) (fun _ _ _ h => h) (Or.inl ⟨by rfl, ?_⟩) hH ?_
      · intro w5 hSw; obtain ⟨n0, n1, n2, n3, n4, n5, n6, n7, n8⟩ := NQ.out _ hSw; go_simp
      simp only [List.setIfInBounds_toArray, List.set_cons_zero, List.set_cons_succ]
      refine wpAnyH_ready (rs := [8]) (by kernel_rfl) (by simp) ?_
      refine AllReadyH.cons rfl (fun K hK => ?_) AllReadyH.nil
      go_simp
      go_at_call 6
      have SA := refSame_all (fun _ => True) n x x Px Py Cx Cy _ (IX.out.below Bd) (IY.out.below Bd)
      rw [exS_same] at SA
      refine SA.mono ?_
      clear SA
      rintro e w9e ⟨rfl, b9⟩
      have B9e : Below wr.heap.size wr w9e := Bd.trans (b9.mono Bd.size)
      clear b9
      go_wp2_with fail
      refine hK.out _ _ (B9e) (fun hH => ?_)
      clear hK K
      refine take_at (i := 9) (v := .bool false) rfl rfl (by kernel_rfl) (by kernel_rfl) (by kernel_rfl) (fun _ _ _ h => h) (Or.inl ⟨by rfl, ?_⟩) hH ?_
      · intro w5 hSw; go_simp
      simp only [List.setIfInBounds_toArray, List.set_cons_zero, List.set_cons_succ]
      refine take_at (i := 10) (v := .bool false) rfl rfl (by kernel_rfl) (by kernel_rfl) (by kernel_rfl) (fun _ _ _ h => h) (Or.inl ⟨by rfl, ?_⟩) hH ?_
      · intro w5 hSw; go_simp
      simp only [List.setIfInBounds_toArray, List.set_cons_zero, List.set_cons_succ]
      refine take_at (i := 11) (v := .slice (some ⟨g9, 0, none⟩) NN C9) rfl rfl (by kernel_rfl) (by kernel_rfl) (by kernel_rfl) (fun _ _ _ h => h) (Or.inl ⟨by rfl, ?_⟩) hH ?_
      · intro w5 hSw; go_simp
      simp only [List.setIfInBounds_toArray, List.set_cons_zero, List.set_cons_succ]
      refine take_at (i := 12) (v := .int .i64 i) rfl rfl (by kernel_rfl) (by kernel_rfl) (by kernel_rfl) (fun _ _ _ h => h) (Or.inl ⟨by rfl, ?_⟩) hH ?_
      · intro w5 hSw; go_simp
      simp only [List.setIfInBounds_toArray, List.set_cons_zero, List.set_cons_succ]
      refine take_at (i := 13) (v := .pointer (some ⟨g9, i * 9, none⟩)) rfl rfl (by kernel_rfl) (by kernel_rfl) (by kernel_rfl) (fun _ _ _ h => h) (Or.inl ⟨by rfl, ?_⟩) hH ?_
      · intro w5 hSw; go_simp
      simp only [List.setIfInBounds_toArray, List.set_cons_zero, List.set_cons_succ]
      refine take_at (i := 14) (v := .pointer (some ⟨g9, i * 9 + 8, none⟩)) rfl rfl (by kernel_rfl) (by kernel_rfl) (by kernel_rfl) (fun _ _ _ h => h) (Or.inl ⟨by rfl, ?_⟩) hH ?_
      · intro w5 hSw; go_simp
      simp only [List.setIfInBounds_toArray, List.set_cons_zero, List.set_cons_succ]
      refine take_at (i := 15) (v := .int .i64 x.at_) rfl rfl (by kernel_rfl) (by kernel_rfl) (by kernel_rfl) (fun _ _ _ h => h) (Or.inl ⟨by rfl, ?_⟩) hH ?_
      · intro w5 hSw; obtain ⟨n0, n1, n2, n3, n4, n5, n6, n7, n8⟩ := NP.out _ hSw; go_simp
      simp only [List.setIfInBounds_toArray, List.set_cons_zero, List.set_cons_succ]
      refine take_at (i := 16) (v := .slice (some ⟨gX, 0, none⟩) NN CX) rfl rfl (by kernel_rfl) (by kernel_rfl) (by kernel_rfl) (fun _ _ _ h => h) (Or.inl ⟨by rfl, ?_⟩) hH ?_
      · intro w5 hSw; go_simp
      simp only [List.setIfInBounds_toArray, List.set_cons_zero, List.set_cons_succ]
      refine take_at (i := 17) (v := .int .i64 i) rfl rfl (by kernel_rfl) (by kernel_rfl) (by kernel_rfl) (fun _ _ _ h => h) (Or.inl ⟨by rfl, ?_⟩) hH ?_
      · intro w5 hSw; go_simp
      simp only [List.setIfInBounds_toArray, List.set_cons_zero, List.set_cons_succ]
      refine take_at (i := 18) (v := .pointer (some ⟨gX, i * 9, none⟩)) rfl rfl (by kernel_rfl) (by kernel_rfl) (by kernel_rfl) (fun _ _ _ h => h) (Or.inl ⟨by rfl, ?_⟩) hH ?_
      · intro w5 hSw; go_simp
      simp only [List.setIfInBounds_toArray, List.set_cons_zero, List.set_cons_succ]
      refine take_at (i := 19) (v := .pointer (some ⟨gX, i * 9 + 8, none⟩)) rfl rfl (by kernel_rfl) (by kernel_rfl) (by kernel_rfl) (fun _ _ _ h => h) (Or.inl ⟨by rfl, ?_⟩) hH ?_
      · intro w5 hSw; go_simp
      simp only [List.setIfInBounds_toArray, List.set_cons_zero, List.set_cons_succ]
      refine take_at (i := 20) (v := .int .i64 x.at_) rfl rfl (by kernel_rfl) (by kernel_rfl) (by kernel_rfl) (fun _ _ _ h => h) (Or.inl ⟨by rfl, ?_⟩) hH ?_
      · intro w5 hSw; obtain ⟨n0, n1, n2, n3, n4, n5, n6, n7, n8⟩ := NQ.out _ hSw; go_simp
      simp only [List.setIfInBounds_toArray, List.set_cons_zero, List.set_cons_succ]
      refine take_at (i := 21) (v := .bool false) rfl rfl (by kernel_rfl) (by kernel_rfl) (by kernel_rfl) (fun _ _ _ h => h) (Or.inl ⟨by rfl, ?_⟩) hH ?_
      · intro w5 hSw; go_simp
      simp only [List.setIfInBounds_toArray, List.set_cons_zero, List.set_cons_succ]
      refine take_at (i := 22) (v := .bool false) rfl rfl (by kernel_rfl) (by kernel_rfl) (by kernel_rfl) (fun _ _ _ h => h) (Or.inl ⟨by rfl, ?_⟩) hH ?_
      · intro w5 hSw; go_simp
      simp only [List.setIfInBounds_toArray, List.set_cons_zero, List.set_cons_succ]
      refine wpAnyH_done (by kernel_rfl) ?_ _
      refine NoPanic.normal ?_
      clear hH NP NQ IX IY Bd
      go_wp2_with fail
      go_roundw
      case rel => exact ⟨i + 1, by go_num, hlt, mkHid (HR.out.trans (B9e.mono HR.out.size))⟩
      case measure => simp [intOf]; omega
    · obtain rfl : NN = i := by omega
      rename World => wo
      have HLR := mkHid (HL.out.below (BXH.out.trans (HR.out.mono BXH.out.size)))
      have BT := mkHid (BW.out.trans ((BXH.out.trans (HR.out.mono BXH.out.size)).mono BW.out.size))
      have HSR : Hid (∀ q, S q → q < wo.heap.size) := fun q hq => Nat.lt_of_lt_of_le (HS.out q hq) (BXH.out.trans (HR.out.mono BXH.out.size)).size
      have h0 : Hid (Cop wo (wo.alloc (.cells #[] 26)) n 0 l (.slice (some ⟨wo.heap.size, 0, none⟩) 0 0)) := Cop.zero wo n l
      clear O9 L9 OX LX HL HS NA NB HA HB HR BXH HW BW h1 HN
      go_wp2_with fail
      go_loopw [10, 11] (fun s10 s11 wr => ∃ k : Nat, s11 = .int .i64 k ∧ k ≤ l.length ∧ Hid (Cop wo wr n k l s10) ∧ Hid (Below wo.heap.size wo wr)) (fun _ sk _ => l.length - (intOf sk).toNat)
      case atStart => exact ⟨0, rfl, Nat.zero_le _, h0, (Below.refl _ _).alloc (Nat.le_refl _) _⟩
      case round =>
        obtain ⟨k, rfl, hk, hd, hbq⟩ := hrel
        clear h0
        by_cases hlk : k < l.length
        · obtain ⟨x, hx⟩ : ∃ x, l[k]? = some x := ⟨_, List.getElem?_eq_getElem hlk⟩
          obtain ⟨g, o, rfl, hle⟩ : ∃ g o, Pl = some ⟨g, o, none⟩ ∧ ∀ (i : Nat) (p : Ex), l[i]? = some p → ∃ Pp Cp, exIn wo S n p (exC p Pp Cp) ∧ ∀ (r : Nat) (u : Value), (exC p Pp Cp)[r]? = some u → wo.cell? ⟨g, o + i * 9 + r, none⟩ = some u := by
            rcases HLR.out.2 with h | h
            · rw [h] at hlk; simp at hlk
            · exact h
          obtain ⟨Px, Cx, ix, cx⟩ := hle k x hx
          have OO := mkHid (Copied_ex S n x Px Cx wr (ix.below hbq.out))
          obtain ⟨xs, hown, hel⟩ := hd.out
          have HO := mkHid hown
          have HEL := mkHid hel
          have HX := mkHid hx
          have N0 := (nine_of cx).next hbq.out
          have k1 : (k : Int) < (l.length : Int) := by omega
          have k2 : (0 : Int) ≤ (k : Int) := by omega
          clear hown hel hd hx ix cx hle
          obtain ⟨u0, u1, u2, u3, u4, u5, u6, u7, u8⟩ := N0
          go_wp2_with (first | (go_at_call 5; refine OO.out.mono ?_; rintro e w1 ⟨P1, C1, rfl, i1, b1⟩) | (at_builtin; refine app_x rfl (.tmp 74) (.tmp 80) rfl wo.heap.size _ k xs x P1 C1 rfl (own_belowX HO.out b1) rfl (by omega) (Nat.le_trans hbq.out.size b1.size) ?_; intro v3 w3 ho3 hg3 hl3))
          have D2 : Hid (Cop wo w3 n (k + 1) l v3) := Cop.step HO.out HEL.out hbq.out HX.out b1 i1 ho3 hg3 hl3
          have B2 : Hid (Below wo.heap.size wo w3) := hbq.out.trans (cop_below HO.out hbq.out b1 hg3)
          go_roundw
          case rel => exact ⟨k + 1, by go_num, hlk, D2, B2⟩
          case measure => simp [intOf]; omega
        · obtain rfl : k = l.length := by omega
          obtain ⟨PR, CR, rfl⟩ := cop_form hd.out
          have AA := mkHid (All_any n _ l PR CR wr h2 (fun q hq => hq) (Cop.lin hd.out))
          have LB := mkHid (HLR.out.below hbq.out)
          have SB : Hid (∀ q, S q → q < wr.heap.size) := fun q hq => Nat.lt_of_lt_of_le (HSR.out q hq) hbq.out.size
          have BB := mkHid (BT.out.trans (hbq.out.mono BT.out.size))
          have LV := mkHid (fun w => lives_any w)
          clear hd hbq
          go_wp2_with (first | (go_at_call 9; refine AA.out.mono ?_; rintro e v1 ⟨Q1, D1, rfl, j1, c1⟩; have J1 := mkHid j1; clear j1) | (go_at_call 10; refine (refAll_any n S l Pl Cl v1 h2 (fun q hq => Nat.lt_of_lt_of_le (SB.out q hq) c1.size) (LB.out.below c1)).mono ?_; rintro e v2 ⟨Q2, D2, rfl, j2, c2⟩; have J2 := mkHid j2; have J1b := mkHid (J1.out.below c2); clear j2 J1) | (go_at_call 6; have SA := refSame_all (fun _ => True) _ (exAll l) (exAll l) Q1 Q2 D1 D2 v2 J1b.out J2.out; rw [exS_same] at SA; refine SA.mono ?_; clear SA; rintro e v3 ⟨rfl, c3⟩) | (go_at_call 11; refine (LV.out _).mono ?_; rintro e v4 ⟨rfl, c4⟩))
          go_ret
          exact ⟨rfl, BB.out.trans ((((c1.trans (c2.mono c1.size)).trans (c3.mono (Nat.le_trans c1.size c2.size))).trans (c4.mono (Nat.le_trans c1.size (Nat.le_trans c2.size c3.size)))).mono BB.out.size)⟩
end Go.Proofs.YtokppkinhlcafaaGreatDoor
