/-
  The walk of readNumber.
-/
import Derived.Test.YtfcolecglobcdaaGreatDoorLxG
import Derived.Deep.RegionHeld3
namespace Go.Proofs.YtfcolecglobcdaaGreatDoor
open Go.RowKit Go.Shelf

/-- what stands while a number is read -/
structure nS (w w' : World) : Prop where
  b : Below w.heap.size w w'
  p : R11 w' w.heap.size (.int .i64 0) (.int .i64 0) (.string ⟨#[]⟩) (.int .i64 0) (.int .i64 0) (.string ⟨#[]⟩) (.int .i64 0) (.int .i64 0) (.int .i64 0) (.int .i64 0) (.int .i64 0)
  m : Mx w'
  r : Rg w'
  t : Tabs w'
theorem nS.next {w w' w'' : World} (h : nS w w') (hb : Below w'.heap.size w' w'') : nS w w'' := ⟨h.b.trans (hb.mono h.b.size), h.p.below hb, h.m.below hb, h.r.below hb, h.t.below hb⟩
theorem nS.drew {w w' : World} (h : nS w w') : nS w w'.drew := h.next (below_drewN (Below.refl _ w') 1)
theorem take_at {P : Program} {ops : Array Oper} {Q : Exit → Act → World → Prop} {md : Region.Mode} {S : World → Prop} {i d : Nat} {oi : Oper} {v : Value} {fuel : Nat} {listed : Array Bool} {ts : Array Value} {df : List Deferred} {w : World} (hi : ops[i]? = some oi) (hd : oi.dst = some d)
    (hs : Region.noSelect ops = true) (hf : Region.free md ops listed i = true) (hr : (Region.ready md ops listed).contains i = true)
    (hQ : ∀ c a w, Q (.panic c) (a.put oi.dst v) w → Q (.panic c) a w) (hy : YieldsIf P ops S oi v ⟨ts, df⟩) (hS : S w)
    (h : wpAnyH P md ops Q S fuel (listed.setIfInBounds i true) ⟨ts.setIfInBounds d v, df⟩ w) : wpAnyH P md ops Q S (fuel + 1) listed ⟨ts, df⟩ w :=
  wpAnyH_take hi hs hf hr hQ hy hS (by rw [hd]; exact h)
set_option maxHeartbeats 2000000 in
set_option maxRecDepth 1000000 in
theorem rdNumber_any (l : List UInt8) (w : World) (hs : l.length ≤ 100000) (hM : Mx w) (hR : Rg w) (hT : Tabs w) :
    Calls Tryz.prog 82 #[.string ⟨l.toArray⟩] w fun e w' => e = .returned (pcv (rdN l)) ∧ Below w.heap.size w w' := by
  have DS : Hid (∀ w, Calls Tryz.prog 105 #[.string ⟨l.toArray⟩] w fun e w' => e = .returned (.int .i64 (dsz l : Nat)) ∧ Below w.heap.size w w') := fun w => digitsSize_any l w hs
  have FS : Hid (∀ w, Calls Tryz.prog 106 #[.string ⟨(l.drop (dsz l)).toArray⟩] w fun e w' => e = .returned (.int .i64 (fsz (l.drop (dsz l)) : Nat)) ∧ Below w.heap.size w w') := fun w => fractionSize_any _ w (by rw [List.length_drop]; omega)
  have WN : Hid (∀ w, Calls Tryz.prog 108 #[.string ⟨(l.take (dsz l)).toArray⟩] w fun e w' => e = .returned (.string ⟨(woN (l.take (dsz l))).toArray⟩) ∧ Below w.heap.size w w') := fun w => withoutNoughts_any _ w
  have PR : Hid (∀ w, Mx w → Rg w → Tabs w → Calls Tryz.prog 107 #[.string ⟨(numT l).toArray⟩] w fun e w' => e = .returned (av (prs (numT l))) ∧ Below w.heap.size w w') := fun w hM hR hT => Parse_any _ w (by
    unfold numT woN
    rw [List.length_append, List.length_drop, List.length_take]
    have h1 : (l.take (dsz l)).length ≤ l.length := by rw [List.length_take]; omega
    have h2 : ((l.take (dsz l)).dropWhile (· == 48)).length ≤ (l.take (dsz l)).length := (List.dropWhile_sublist _).length_le
    split
    · simp only [List.length_cons, List.length_nil]; omega
    · omega) hM hR hT
  have hWQ : (woN (l.take (dsz l))).length + ((l.take (nsz l)).drop (dsz l)).length ≤ 9223372036854775807 := by
    have h1 : (l.take (dsz l)).length ≤ l.length := by rw [List.length_take]; omega
    have h2 : ((l.take (dsz l)).dropWhile (· == 48)).length ≤ (l.take (dsz l)).length := (List.dropWhile_sublist _).length_le
    have h3 : (woN (l.take (dsz l))).length ≤ 100001 := by
      unfold woN
      split
      · simp
      · omega
    rw [List.length_drop, List.length_take]; omega
  have HM : Hid (Mx w) := hM
  have HR : Hid (Rg w) := hR
  have HT : Hid (Tabs w) := hT
  have hzl : (ByteArray.mk l.toArray).size = l.length := size_mk l
  have hle := dsz_le l
  have hnle := nsz_le l
  have hcat : ByteArray.mk (woN (l.take (dsz l))).toArray ++ ByteArray.mk ((l.take (nsz l)).drop (dsz l)).toArray = ByteArray.mk (numT l).toArray := by rw [add_mk]; rfl
  have hex1 : (ByteArray.mk l.toArray).extract (dsz l) l.length = ByteArray.mk (l.drop (dsz l)).toArray := by rw [extract_mk, List.take_length]
  have hex2 : (ByteArray.mk l.toArray).extract 0 (dsz l) = ByteArray.mk (l.take (dsz l)).toArray := by rw [extract_mk, List.drop_zero]
  have hex3 : (ByteArray.mk l.toArray).extract (dsz l) (nsz l) = ByteArray.mk ((l.take (nsz l)).drop (dsz l)).toArray := by rw [extract_mk]
  have hns : nsz l = if fsz (l.drop (dsz l)) = 0 then dsz l else dsz l + (1 + fsz (l.drop (dsz l))) := rfl
  have P0 : Hid (R11 (w.alloc (.cells #[.int .i64 0, .int .i64 0, .string ⟨#[]⟩, .int .i64 0, .int .i64 0, .string ⟨#[]⟩, .int .i64 0, .int .i64 0, .int .i64 0, .int .i64 0, .int .i64 0] 82)) w.heap.size (.int .i64 0) (.int .i64 0) (.string ⟨#[]⟩) (.int .i64 0) (.int .i64 0) (.string ⟨#[]⟩) (.int .i64 0) (.int .i64 0) (.int .i64 0) (.int .i64 0) (.int .i64 0)) := R11.new w 82 (.int .i64 0) (.int .i64 0) (.string ⟨#[]⟩) (.int .i64 0) (.int .i64 0) (.string ⟨#[]⟩) (.int .i64 0) (.int .i64 0) (.int .i64 0) (.int .i64 0) (.int .i64 0)
  have B0 : Hid (Below w.heap.size w (w.alloc (.cells #[.int .i64 0, .int .i64 0, .string ⟨#[]⟩, .int .i64 0, .int .i64 0, .string ⟨#[]⟩, .int .i64 0, .int .i64 0, .int .i64 0, .int .i64 0, .int .i64 0] 82))) := (Below.refl _ w).alloc (Nat.le_refl _) _
  unfold rdN
  generalize nsz l = n at *
  generalize fsz (l.drop (dsz l)) = F at *
  generalize prs (numT l) = PV at *
  obtain ⟨⟨vt, vn, vs⟩, E⟩ := PV
  generalize numT l = NT at *
  generalize woN (l.take (dsz l)) = WO at *
  generalize dsz l = d at *
  generalize l.drop d = R at *
  generalize (l.take n).drop d = Q at *
  generalize l.take d = T at *
  have i1 : (d : Int) ≤ (l.length : Int) := by omega
  have i2 : (n : Int) ≤ (l.length : Int) := by omega
  have i3 : (d : Int) ≤ 100000 := by omega
  clear hM hR hT
  by_cases h4 : 4 < F
  · rw [if_pos h4]
    have h4i : (4 : Int) < (F : Int) := by omega
    clear hns h4 hle hnle hs i2 hcat hex2 hex3 WN PR hWQ
    go_enter Tryz.func82, Tryz.ntmps82
    go_wp2_with fail
    refine (DS.out _).mono ?_
    rintro e w1 ⟨rfl, hb1⟩
    have P1 := P0.out.below hb1
    have B1 := B0.out.trans (hb1.mono B0.out.size)
    clear DS hb1
    go_wp2_with fail
    refine (FS.out _).mono ?_
    rintro e w2 ⟨rfl, hb2⟩
    have P2 := P1.below hb2
    have B2 := B1.trans (hb2.mono B1.size)
    clear FS hb2
    obtain ⟨_, c0, c1, c2, c3, c4, c5, c6, c7, c8, c9, c10, f0, f1, f2, f3, f4, f5, f6, f7, f8, f9, f10⟩ := id P2
    go_wp2_with fail
    obtain ⟨_, x0, x1, x2, x3, x4, x5, x6, x7, x8, x9, x10, _, _, _, _, _, _, _, _, _, _, _⟩ := P2.put (.int .i64 0) (.int .i64 0) (.string ⟨#[]⟩) (.int .i64 0) (.int .i64 0) (.string ⟨#[]⟩) (.int .i64 0) (.int .i64 0) (.int .i64 0) (.int .i64 3) (.int .i64 0)
    unfold R11.set at x0 x1 x2 x3 x4 x5 x6 x7 x8 x9 x10
    refine bodyPost_ret (v := pcv (pcE 3)) (by simp [results, Tryz.results82, go_sem, pcv, pcE, v0, x0, x1, x2, x3, x4, x5, x6, x7, x8, x9, x10]) rfl ⟨rfl, ?_⟩
    exact R11.set_below B2 (Nat.le_refl _) _ _ _ _ _ _ _ _ _ _ _
  rw [if_neg h4]
  have h4i : ¬ (4 : Int) < (F : Int) := by omega
  by_cases h0 : F = 0
  · have h0i : ¬ (0 : Int) < (F : Int) := by omega
    rw [if_pos h0] at hns
    have hnd : n = d := hns
    subst hnd
    have hex4 : ByteArray.empty = ByteArray.mk Q.toArray := by rw [← hex3]; simp
    clear hns h4 h0 hle hnle hs
    by_cases hE : E = 0
    · rw [if_pos hE]
      have hEb : (E != 0) = false := by rw [hE]; rfl
      clear hE
      go_enter Tryz.func82, Tryz.ntmps82
      go_wp2_with fail
      refine (DS.out _).mono ?_
      rintro e w1 ⟨rfl, hb1⟩
      have P1 := P0.out.below hb1
      have B1 := B0.out.trans (hb1.mono B0.out.size)
      clear DS hb1
      go_wp2_with fail
      refine (FS.out _).mono ?_
      rintro e w2 ⟨rfl, hb2⟩
      have P2 := P1.below hb2
      have B2 := B1.trans (hb2.mono B1.size)
      clear FS hb2
      have n2 : nS w w2 := ⟨B2, P2, HM.out.below B2, HR.out.below B2, HT.out.below B2⟩
      clear P2 B2 HM HR HT P1 B1 P0 B0
      go_wp2_with fail
      refine wp_region_noPanic ?_
      refine wp_region_held_drew (S := fun w' => nS w w') (by kernel_rfl) (n2.drew) (fun hH => ?_)
      generalize w2.drew = wd at *
      clear n2
      refine take_at (i := 0) (v := .string ⟨l.toArray⟩) rfl rfl (by kernel_rfl) (by kernel_rfl) (by kernel_rfl) (fun _ _ _ h => h) (Or.inl ⟨by rfl, ?_⟩) hH ?_
      · intro w hSw; (try dsimp only at hSw); go_simp
      simp only [List.setIfInBounds_toArray, List.set_cons_zero, List.set_cons_succ]
      refine take_at (i := 1) (v := .int .i64 (n : Nat)) rfl rfl (by kernel_rfl) (by kernel_rfl) (by kernel_rfl) (fun _ _ _ h => h) (Or.inl ⟨by rfl, ?_⟩) hH ?_
      · intro w hSw; (try dsimp only at hSw); go_simp
      simp only [List.setIfInBounds_toArray, List.set_cons_zero, List.set_cons_succ]
      refine take_at (i := 2) (v := .string ⟨T.toArray⟩) rfl rfl (by kernel_rfl) (by kernel_rfl) (by kernel_rfl) (fun _ _ _ h => h) (Or.inl ⟨by rfl, ?_⟩) hH ?_
      · intro w hSw; (try dsimp only at hSw); go_simp
      simp only [List.setIfInBounds_toArray, List.set_cons_zero, List.set_cons_succ]
      refine take_at (i := 4) (v := .string ⟨l.toArray⟩) rfl rfl (by kernel_rfl) (by kernel_rfl) (by kernel_rfl) (fun _ _ _ h => h) (Or.inl ⟨by rfl, ?_⟩) hH ?_
      · intro w hSw; (try dsimp only at hSw); go_simp
      simp only [List.setIfInBounds_toArray, List.set_cons_zero, List.set_cons_succ]
      refine take_at (i := 5) (v := .int .i64 (n : Nat)) rfl rfl (by kernel_rfl) (by kernel_rfl) (by kernel_rfl) (fun _ _ _ h => h) (Or.inl ⟨by rfl, ?_⟩) hH ?_
      · intro w hSw; (try dsimp only at hSw); go_simp
      simp only [List.setIfInBounds_toArray, List.set_cons_zero, List.set_cons_succ]
      refine take_at (i := 6) (v := .int .i64 (n : Nat)) rfl rfl (by kernel_rfl) (by kernel_rfl) (by kernel_rfl) (fun _ _ _ h => h) (Or.inl ⟨by rfl, ?_⟩) hH ?_
      · intro w hSw; (try dsimp only at hSw); go_simp
      simp only [List.setIfInBounds_toArray, List.set_cons_zero, List.set_cons_succ]
      refine take_at (i := 7) (v := .string ⟨Q.toArray⟩) rfl rfl (by kernel_rfl) (by kernel_rfl) (by kernel_rfl) (fun _ _ _ h => h) (Or.inl ⟨by rfl, ?_⟩) hH ?_
      · intro w hSw; (try dsimp only at hSw); go_simp
      simp only [List.setIfInBounds_toArray, List.set_cons_zero, List.set_cons_succ]
      refine wpAnyH_ready (rs := [3, 13]) (by kernel_rfl) (by simp) ?_
      refine AllReadyH.cons rfl (fun K hK => ?_) (AllReadyH.cons rfl (fun K hK => ?_) AllReadyH.nil)
      · go_simp
        go_at_call 108
        refine (WN.out _).mono ?_
        rintro e w3 ⟨rfl, hb3⟩
        go_wp2_with fail
        refine hK.out _ _ (hH.next hb3) (fun hH3 => ?_)
        clear hK K WN
        refine take_at (i := 8) (v := .string ⟨NT.toArray⟩) rfl rfl (by kernel_rfl) (by kernel_rfl) (by kernel_rfl) (fun _ _ _ h => h) (Or.inl ⟨by rfl, ?_⟩) hH3 ?_
        · intro w hSw; (try dsimp only at hSw); go_simp
        simp only [List.setIfInBounds_toArray, List.set_cons_zero, List.set_cons_succ]
        refine wpAnyH_ready (rs := [9, 13]) (by kernel_rfl) (by simp) ?_
        refine AllReadyH.cons rfl (fun K hK => ?_) (AllReadyH.cons rfl (fun K hK => ?_) AllReadyH.nil)
        · go_simp
          go_at_call 107
          refine (PR.out _ hH3.m hH3.r hH3.t).mono ?_
          rintro e w4 ⟨rfl, hb4⟩
          unfold av
          go_wp2_with fail
          refine hK.out _ _ (hH3.next hb4) (fun hH4 => ?_)
          clear hK K PR
          refine take_at (i := 10) (v := .tuple #[.agg #[.int .i64 vt, .int .i64 vn, .string vs], .int .i64 E]) rfl rfl (by kernel_rfl) (by kernel_rfl) (by kernel_rfl) (fun _ _ _ h => h) (Or.inl ⟨by rfl, ?_⟩) hH4 ?_
          · intro w hSw; (try dsimp only at hSw); go_simp
          simp only [List.setIfInBounds_toArray, List.set_cons_zero, List.set_cons_succ]
          refine take_at (i := 11) (v := .agg #[.int .i64 vt, .int .i64 vn, .string vs]) rfl rfl (by kernel_rfl) (by kernel_rfl) (by kernel_rfl) (fun _ _ _ h => h) (Or.inl ⟨by rfl, ?_⟩) hH4 ?_
          · intro w hSw; (try dsimp only at hSw); go_simp
          simp only [List.setIfInBounds_toArray, List.set_cons_zero, List.set_cons_succ]
          refine take_at (i := 12) (v := .int .i64 E) rfl rfl (by kernel_rfl) (by kernel_rfl) (by kernel_rfl) (fun _ _ _ h => h) (Or.inl ⟨by rfl, ?_⟩) hH4 ?_
          · intro w hSw; (try dsimp only at hSw); go_simp
          simp only [List.setIfInBounds_toArray, List.set_cons_zero, List.set_cons_succ]
          refine wpAnyH_ready (rs := [13]) (by kernel_rfl) (by simp) ?_
          refine AllReadyH.cons rfl (fun K hK => ?_) AllReadyH.nil
          go_simp
          have bk5 : Below w4.heap.size w4 (w4.alloc (.cells #[.int .i64 0, .int .i64 0, .string ⟨#[]⟩] 35)) := (Below.refl _ _).alloc (Nat.le_refl _) _
          have vk5 := R3.new w4 35 (.int .i64 0) (.int .i64 0) (.string ⟨#[]⟩)
          refine hK.out _ _ (hH4.next bk5) (fun k5 => ?_)
          clear hK K
          generalize w4.alloc (.cells #[.int .i64 0, .int .i64 0, .string ⟨#[]⟩] 35) = wa at *
          refine wpAnyH_ready (rs := [14]) (by kernel_rfl) (by simp) ?_
          refine AllReadyH.cons rfl (fun K hK => ?_) AllReadyH.nil
          obtain ⟨_, y0, y1, y2, z0, z1, z2⟩ := id vk5
          go_simp
          have V6 := vk5.put (.int .i64 vt) (.int .i64 vn) (.string vs)
          have n6 := hH4.next (R3.set_below bk5 (Nat.le_refl _) (.int .i64 vt) (.int .i64 vn) (.string vs))
          unfold R3.set at V6 n6
          refine hK.out _ _ n6 (fun _ => ?_)
          clear hK K y0 y1 y2 z0 z1 z2
          refine take_at (i := 15) (v := .int .i64 E) rfl rfl (by kernel_rfl) (by kernel_rfl) (by kernel_rfl) (fun _ _ _ h => h) (Or.inl ⟨by rfl, ?_⟩) n6 ?_
          · intro w hSw; (try dsimp only at hSw); go_simp
          simp only [List.setIfInBounds_toArray, List.set_cons_zero, List.set_cons_succ]
          refine wpAnyH_done (by kernel_rfl) ?_ _
          refine NoPanic.normal ?_
          have P6 := n6.p
          have B6 := n6.b
          obtain ⟨_, y0, y1, y2, _, _, _⟩ := id V6
          clear n6 V6
          obtain ⟨_, c0, c1, c2, c3, c4, c5, c6, c7, c8, c9, c10, f0, f1, f2, f3, f4, f5, f6, f7, f8, f9, f10⟩ := id P6
          go_wp2_with fail
          obtain ⟨_, x0, x1, x2, x3, x4, x5, x6, x7, x8, x9, x10, _, _, _, _, _, _, _, _, _, _, _⟩ := P6.put (.int .i64 n) (.int .i64 3) (.string ⟨#[]⟩) (.int .i64 vt) (.int .i64 vn) (.string vs) (.int .i64 0) (.int .i64 0) (.int .i64 0) (.int .i64 0) (.int .i64 0)
          unfold R11.set at x0 x1 x2 x3 x4 x5 x6 x7 x8 x9 x10
          refine bodyPost_ret (v := pcv ⟨n, 3, [], ⟨vt, vn, vs⟩, 0, 0⟩) (by simp [results, Tryz.results82, go_sem, pcv, x0, x1, x2, x3, x4, x5, x6, x7, x8, x9, x10]) rfl ⟨rfl, ?_⟩
          exact R11.set_below B6 (Nat.le_refl _) _ _ _ _ _ _ _ _ _ _ _
        · go_simp
          have bk5 : Below w3.heap.size w3 (w3.alloc (.cells #[.int .i64 0, .int .i64 0, .string ⟨#[]⟩] 35)) := (Below.refl _ _).alloc (Nat.le_refl _) _
          have vk5 := R3.new w3 35 (.int .i64 0) (.int .i64 0) (.string ⟨#[]⟩)
          refine hK.out _ _ (hH3.next bk5) (fun k5 => ?_)
          clear hK K
          generalize w3.alloc (.cells #[.int .i64 0, .int .i64 0, .string ⟨#[]⟩] 35) = wa at *
          refine wpAnyH_ready (rs := [9]) (by kernel_rfl) (by simp) ?_
          refine AllReadyH.cons rfl (fun K hK => ?_) AllReadyH.nil
          go_simp
          go_at_call 107
          refine (PR.out _ k5.m k5.r k5.t).mono ?_
          rintro e w4 ⟨rfl, hb4⟩
          have bX := bk5.trans (hb4.mono bk5.size)
          have vX := vk5.below hb4
          unfold av
          go_wp2_with fail
          refine hK.out _ _ (k5.next hb4) (fun hH4 => ?_)
          clear hK K PR
          refine take_at (i := 10) (v := .tuple #[.agg #[.int .i64 vt, .int .i64 vn, .string vs], .int .i64 E]) rfl rfl (by kernel_rfl) (by kernel_rfl) (by kernel_rfl) (fun _ _ _ h => h) (Or.inl ⟨by rfl, ?_⟩) hH4 ?_
          · intro w hSw; (try dsimp only at hSw); go_simp
          simp only [List.setIfInBounds_toArray, List.set_cons_zero, List.set_cons_succ]
          refine take_at (i := 11) (v := .agg #[.int .i64 vt, .int .i64 vn, .string vs]) rfl rfl (by kernel_rfl) (by kernel_rfl) (by kernel_rfl) (fun _ _ _ h => h) (Or.inl ⟨by rfl, ?_⟩) hH4 ?_
          · intro w hSw; (try dsimp only at hSw); go_simp
          simp only [List.setIfInBounds_toArray, List.set_cons_zero, List.set_cons_succ]
          refine take_at (i := 12) (v := .int .i64 E) rfl rfl (by kernel_rfl) (by kernel_rfl) (by kernel_rfl) (fun _ _ _ h => h) (Or.inl ⟨by rfl, ?_⟩) hH4 ?_
          · intro w hSw; (try dsimp only at hSw); go_simp
          simp only [List.setIfInBounds_toArray, List.set_cons_zero, List.set_cons_succ]
          refine wpAnyH_ready (rs := [14]) (by kernel_rfl) (by simp) ?_
          refine AllReadyH.cons rfl (fun K hK => ?_) AllReadyH.nil
          obtain ⟨_, y0, y1, y2, z0, z1, z2⟩ := id vX
          go_simp
          have V6 := vX.put (.int .i64 vt) (.int .i64 vn) (.string vs)
          have n6 := hH3.next (R3.set_below bX (Nat.le_refl _) (.int .i64 vt) (.int .i64 vn) (.string vs))
          unfold R3.set at V6 n6
          refine hK.out _ _ n6 (fun _ => ?_)
          clear hK K y0 y1 y2 z0 z1 z2
          refine take_at (i := 15) (v := .int .i64 E) rfl rfl (by kernel_rfl) (by kernel_rfl) (by kernel_rfl) (fun _ _ _ h => h) (Or.inl ⟨by rfl, ?_⟩) n6 ?_
          · intro w hSw; (try dsimp only at hSw); go_simp
          simp only [List.setIfInBounds_toArray, List.set_cons_zero, List.set_cons_succ]
          refine wpAnyH_done (by kernel_rfl) ?_ _
          refine NoPanic.normal ?_
          have P6 := n6.p
          have B6 := n6.b
          obtain ⟨_, y0, y1, y2, _, _, _⟩ := id V6
          clear n6 V6
          obtain ⟨_, c0, c1, c2, c3, c4, c5, c6, c7, c8, c9, c10, f0, f1, f2, f3, f4, f5, f6, f7, f8, f9, f10⟩ := id P6
          go_wp2_with fail
          obtain ⟨_, x0, x1, x2, x3, x4, x5, x6, x7, x8, x9, x10, _, _, _, _, _, _, _, _, _, _, _⟩ := P6.put (.int .i64 n) (.int .i64 3) (.string ⟨#[]⟩) (.int .i64 vt) (.int .i64 vn) (.string vs) (.int .i64 0) (.int .i64 0) (.int .i64 0) (.int .i64 0) (.int .i64 0)
          unfold R11.set at x0 x1 x2 x3 x4 x5 x6 x7 x8 x9 x10
          refine bodyPost_ret (v := pcv ⟨n, 3, [], ⟨vt, vn, vs⟩, 0, 0⟩) (by simp [results, Tryz.results82, go_sem, pcv, x0, x1, x2, x3, x4, x5, x6, x7, x8, x9, x10]) rfl ⟨rfl, ?_⟩
          exact R11.set_below B6 (Nat.le_refl _) _ _ _ _ _ _ _ _ _ _ _
      · go_simp
        have bk5 : Below wd.heap.size wd (wd.alloc (.cells #[.int .i64 0, .int .i64 0, .string ⟨#[]⟩] 35)) := (Below.refl _ _).alloc (Nat.le_refl _) _
        have vk5 := R3.new wd 35 (.int .i64 0) (.int .i64 0) (.string ⟨#[]⟩)
        refine hK.out _ _ (hH.next bk5) (fun k5 => ?_)
        clear hK K
        generalize wd.alloc (.cells #[.int .i64 0, .int .i64 0, .string ⟨#[]⟩] 35) = wa at *
        refine wpAnyH_ready (rs := [3]) (by kernel_rfl) (by simp) ?_
        refine AllReadyH.cons rfl (fun K hK => ?_) AllReadyH.nil
        go_simp
        go_at_call 108
        refine (WN.out _).mono ?_
        rintro e w3 ⟨rfl, hb3⟩
        have bX := bk5.trans (hb3.mono bk5.size)
        have vX := vk5.below hb3
        go_wp2_with fail
        refine hK.out _ _ (k5.next hb3) (fun hH3 => ?_)
        clear hK K WN
        refine take_at (i := 8) (v := .string ⟨NT.toArray⟩) rfl rfl (by kernel_rfl) (by kernel_rfl) (by kernel_rfl) (fun _ _ _ h => h) (Or.inl ⟨by rfl, ?_⟩) hH3 ?_
        · intro w hSw; (try dsimp only at hSw); go_simp
        simp only [List.setIfInBounds_toArray, List.set_cons_zero, List.set_cons_succ]
        refine wpAnyH_ready (rs := [9]) (by kernel_rfl) (by simp) ?_
        refine AllReadyH.cons rfl (fun K hK => ?_) AllReadyH.nil
        go_simp
        go_at_call 107
        refine (PR.out _ hH3.m hH3.r hH3.t).mono ?_
        rintro e w4 ⟨rfl, hb4⟩
        have bY := bX.trans (hb4.mono bX.size)
        have vY := vX.below hb4
        unfold av
        go_wp2_with fail
        refine hK.out _ _ (hH3.next hb4) (fun hH4 => ?_)
        clear hK K PR
        refine take_at (i := 10) (v := .tuple #[.agg #[.int .i64 vt, .int .i64 vn, .string vs], .int .i64 E]) rfl rfl (by kernel_rfl) (by kernel_rfl) (by kernel_rfl) (fun _ _ _ h => h) (Or.inl ⟨by rfl, ?_⟩) hH4 ?_
        · intro w hSw; (try dsimp only at hSw); go_simp
        simp only [List.setIfInBounds_toArray, List.set_cons_zero, List.set_cons_succ]
        refine take_at (i := 11) (v := .agg #[.int .i64 vt, .int .i64 vn, .string vs]) rfl rfl (by kernel_rfl) (by kernel_rfl) (by kernel_rfl) (fun _ _ _ h => h) (Or.inl ⟨by rfl, ?_⟩) hH4 ?_
        · intro w hSw; (try dsimp only at hSw); go_simp
        simp only [List.setIfInBounds_toArray, List.set_cons_zero, List.set_cons_succ]
        refine take_at (i := 12) (v := .int .i64 E) rfl rfl (by kernel_rfl) (by kernel_rfl) (by kernel_rfl) (fun _ _ _ h => h) (Or.inl ⟨by rfl, ?_⟩) hH4 ?_
        · intro w hSw; (try dsimp only at hSw); go_simp
        simp only [List.setIfInBounds_toArray, List.set_cons_zero, List.set_cons_succ]
        refine wpAnyH_ready (rs := [14]) (by kernel_rfl) (by simp) ?_
        refine AllReadyH.cons rfl (fun K hK => ?_) AllReadyH.nil
        obtain ⟨_, y0, y1, y2, z0, z1, z2⟩ := id vY
        go_simp
        have V6 := vY.put (.int .i64 vt) (.int .i64 vn) (.string vs)
        have n6 := hH.next (R3.set_below bY (Nat.le_refl _) (.int .i64 vt) (.int .i64 vn) (.string vs))
        unfold R3.set at V6 n6
        refine hK.out _ _ n6 (fun _ => ?_)
        clear hK K y0 y1 y2 z0 z1 z2
        refine take_at (i := 15) (v := .int .i64 E) rfl rfl (by kernel_rfl) (by kernel_rfl) (by kernel_rfl) (fun _ _ _ h => h) (Or.inl ⟨by rfl, ?_⟩) n6 ?_
        · intro w hSw; (try dsimp only at hSw); go_simp
        simp only [List.setIfInBounds_toArray, List.set_cons_zero, List.set_cons_succ]
        refine wpAnyH_done (by kernel_rfl) ?_ _
        refine NoPanic.normal ?_
        have P6 := n6.p
        have B6 := n6.b
        obtain ⟨_, y0, y1, y2, _, _, _⟩ := id V6
        clear n6 V6
        obtain ⟨_, c0, c1, c2, c3, c4, c5, c6, c7, c8, c9, c10, f0, f1, f2, f3, f4, f5, f6, f7, f8, f9, f10⟩ := id P6
        go_wp2_with fail
        obtain ⟨_, x0, x1, x2, x3, x4, x5, x6, x7, x8, x9, x10, _, _, _, _, _, _, _, _, _, _, _⟩ := P6.put (.int .i64 n) (.int .i64 3) (.string ⟨#[]⟩) (.int .i64 vt) (.int .i64 vn) (.string vs) (.int .i64 0) (.int .i64 0) (.int .i64 0) (.int .i64 0) (.int .i64 0)
        unfold R11.set at x0 x1 x2 x3 x4 x5 x6 x7 x8 x9 x10
        refine bodyPost_ret (v := pcv ⟨n, 3, [], ⟨vt, vn, vs⟩, 0, 0⟩) (by simp [results, Tryz.results82, go_sem, pcv, x0, x1, x2, x3, x4, x5, x6, x7, x8, x9, x10]) rfl ⟨rfl, ?_⟩
        exact R11.set_below B6 (Nat.le_refl _) _ _ _ _ _ _ _ _ _ _ _
    · rw [if_neg hE]
      have hEb : (E != 0) = true := by rw [bne_iff_ne]; exact hE
      clear hE
      go_enter Tryz.func82, Tryz.ntmps82
      go_wp2_with fail
      refine (DS.out _).mono ?_
      rintro e w1 ⟨rfl, hb1⟩
      have P1 := P0.out.below hb1
      have B1 := B0.out.trans (hb1.mono B0.out.size)
      clear DS hb1
      go_wp2_with fail
      refine (FS.out _).mono ?_
      rintro e w2 ⟨rfl, hb2⟩
      have P2 := P1.below hb2
      have B2 := B1.trans (hb2.mono B1.size)
      clear FS hb2
      have n2 : nS w w2 := ⟨B2, P2, HM.out.below B2, HR.out.below B2, HT.out.below B2⟩
      clear P2 B2 HM HR HT P1 B1 P0 B0
      go_wp2_with fail
      refine wp_region_noPanic ?_
      refine wp_region_held_drew (S := fun w' => nS w w') (by kernel_rfl) (n2.drew) (fun hH => ?_)
      generalize w2.drew = wd at *
      clear n2
      refine take_at (i := 0) (v := .string ⟨l.toArray⟩) rfl rfl (by kernel_rfl) (by kernel_rfl) (by kernel_rfl) (fun _ _ _ h => h) (Or.inl ⟨by rfl, ?_⟩) hH ?_
      · intro w hSw; (try dsimp only at hSw); go_simp
      simp only [List.setIfInBounds_toArray, List.set_cons_zero, List.set_cons_succ]
      refine take_at (i := 1) (v := .int .i64 (n : Nat)) rfl rfl (by kernel_rfl) (by kernel_rfl) (by kernel_rfl) (fun _ _ _ h => h) (Or.inl ⟨by rfl, ?_⟩) hH ?_
      · intro w hSw; (try dsimp only at hSw); go_simp
      simp only [List.setIfInBounds_toArray, List.set_cons_zero, List.set_cons_succ]
      refine take_at (i := 2) (v := .string ⟨T.toArray⟩) rfl rfl (by kernel_rfl) (by kernel_rfl) (by kernel_rfl) (fun _ _ _ h => h) (Or.inl ⟨by rfl, ?_⟩) hH ?_
      · intro w hSw; (try dsimp only at hSw); go_simp
      simp only [List.setIfInBounds_toArray, List.set_cons_zero, List.set_cons_succ]
      refine take_at (i := 4) (v := .string ⟨l.toArray⟩) rfl rfl (by kernel_rfl) (by kernel_rfl) (by kernel_rfl) (fun _ _ _ h => h) (Or.inl ⟨by rfl, ?_⟩) hH ?_
      · intro w hSw; (try dsimp only at hSw); go_simp
      simp only [List.setIfInBounds_toArray, List.set_cons_zero, List.set_cons_succ]
      refine take_at (i := 5) (v := .int .i64 (n : Nat)) rfl rfl (by kernel_rfl) (by kernel_rfl) (by kernel_rfl) (fun _ _ _ h => h) (Or.inl ⟨by rfl, ?_⟩) hH ?_
      · intro w hSw; (try dsimp only at hSw); go_simp
      simp only [List.setIfInBounds_toArray, List.set_cons_zero, List.set_cons_succ]
      refine take_at (i := 6) (v := .int .i64 (n : Nat)) rfl rfl (by kernel_rfl) (by kernel_rfl) (by kernel_rfl) (fun _ _ _ h => h) (Or.inl ⟨by rfl, ?_⟩) hH ?_
      · intro w hSw; (try dsimp only at hSw); go_simp
      simp only [List.setIfInBounds_toArray, List.set_cons_zero, List.set_cons_succ]
      refine take_at (i := 7) (v := .string ⟨Q.toArray⟩) rfl rfl (by kernel_rfl) (by kernel_rfl) (by kernel_rfl) (fun _ _ _ h => h) (Or.inl ⟨by rfl, ?_⟩) hH ?_
      · intro w hSw; (try dsimp only at hSw); go_simp
      simp only [List.setIfInBounds_toArray, List.set_cons_zero, List.set_cons_succ]
      refine wpAnyH_ready (rs := [3, 13]) (by kernel_rfl) (by simp) ?_
      refine AllReadyH.cons rfl (fun K hK => ?_) (AllReadyH.cons rfl (fun K hK => ?_) AllReadyH.nil)
      · go_simp
        go_at_call 108
        refine (WN.out _).mono ?_
        rintro e w3 ⟨rfl, hb3⟩
        go_wp2_with fail
        refine hK.out _ _ (hH.next hb3) (fun hH3 => ?_)
        clear hK K WN
        refine take_at (i := 8) (v := .string ⟨NT.toArray⟩) rfl rfl (by kernel_rfl) (by kernel_rfl) (by kernel_rfl) (fun _ _ _ h => h) (Or.inl ⟨by rfl, ?_⟩) hH3 ?_
        · intro w hSw; (try dsimp only at hSw); go_simp
        simp only [List.setIfInBounds_toArray, List.set_cons_zero, List.set_cons_succ]
        refine wpAnyH_ready (rs := [9, 13]) (by kernel_rfl) (by simp) ?_
        refine AllReadyH.cons rfl (fun K hK => ?_) (AllReadyH.cons rfl (fun K hK => ?_) AllReadyH.nil)
        · go_simp
          go_at_call 107
          refine (PR.out _ hH3.m hH3.r hH3.t).mono ?_
          rintro e w4 ⟨rfl, hb4⟩
          unfold av
          go_wp2_with fail
          refine hK.out _ _ (hH3.next hb4) (fun hH4 => ?_)
          clear hK K PR
          refine take_at (i := 10) (v := .tuple #[.agg #[.int .i64 vt, .int .i64 vn, .string vs], .int .i64 E]) rfl rfl (by kernel_rfl) (by kernel_rfl) (by kernel_rfl) (fun _ _ _ h => h) (Or.inl ⟨by rfl, ?_⟩) hH4 ?_
          · intro w hSw; (try dsimp only at hSw); go_simp
          simp only [List.setIfInBounds_toArray, List.set_cons_zero, List.set_cons_succ]
          refine take_at (i := 11) (v := .agg #[.int .i64 vt, .int .i64 vn, .string vs]) rfl rfl (by kernel_rfl) (by kernel_rfl) (by kernel_rfl) (fun _ _ _ h => h) (Or.inl ⟨by rfl, ?_⟩) hH4 ?_
          · intro w hSw; (try dsimp only at hSw); go_simp
          simp only [List.setIfInBounds_toArray, List.set_cons_zero, List.set_cons_succ]
          refine take_at (i := 12) (v := .int .i64 E) rfl rfl (by kernel_rfl) (by kernel_rfl) (by kernel_rfl) (fun _ _ _ h => h) (Or.inl ⟨by rfl, ?_⟩) hH4 ?_
          · intro w hSw; (try dsimp only at hSw); go_simp
          simp only [List.setIfInBounds_toArray, List.set_cons_zero, List.set_cons_succ]
          refine wpAnyH_ready (rs := [13]) (by kernel_rfl) (by simp) ?_
          refine AllReadyH.cons rfl (fun K hK => ?_) AllReadyH.nil
          go_simp
          have bk5 : Below w4.heap.size w4 (w4.alloc (.cells #[.int .i64 0, .int .i64 0, .string ⟨#[]⟩] 35)) := (Below.refl _ _).alloc (Nat.le_refl _) _
          have vk5 := R3.new w4 35 (.int .i64 0) (.int .i64 0) (.string ⟨#[]⟩)
          refine hK.out _ _ (hH4.next bk5) (fun k5 => ?_)
          clear hK K
          generalize w4.alloc (.cells #[.int .i64 0, .int .i64 0, .string ⟨#[]⟩] 35) = wa at *
          refine wpAnyH_ready (rs := [14]) (by kernel_rfl) (by simp) ?_
          refine AllReadyH.cons rfl (fun K hK => ?_) AllReadyH.nil
          obtain ⟨_, y0, y1, y2, z0, z1, z2⟩ := id vk5
          go_simp
          have V6 := vk5.put (.int .i64 vt) (.int .i64 vn) (.string vs)
          have n6 := hH4.next (R3.set_below bk5 (Nat.le_refl _) (.int .i64 vt) (.int .i64 vn) (.string vs))
          unfold R3.set at V6 n6
          refine hK.out _ _ n6 (fun _ => ?_)
          clear hK K y0 y1 y2 z0 z1 z2
          refine take_at (i := 15) (v := .int .i64 E) rfl rfl (by kernel_rfl) (by kernel_rfl) (by kernel_rfl) (fun _ _ _ h => h) (Or.inl ⟨by rfl, ?_⟩) n6 ?_
          · intro w hSw; (try dsimp only at hSw); go_simp
          simp only [List.setIfInBounds_toArray, List.set_cons_zero, List.set_cons_succ]
          refine wpAnyH_done (by kernel_rfl) ?_ _
          refine NoPanic.normal ?_
          have P6 := n6.p
          have B6 := n6.b
          obtain ⟨_, y0, y1, y2, _, _, _⟩ := id V6
          clear n6 V6
          obtain ⟨_, c0, c1, c2, c3, c4, c5, c6, c7, c8, c9, c10, f0, f1, f2, f3, f4, f5, f6, f7, f8, f9, f10⟩ := id P6
          go_wp2_with fail
          obtain ⟨_, x0, x1, x2, x3, x4, x5, x6, x7, x8, x9, x10, _, _, _, _, _, _, _, _, _, _, _⟩ := P6.put (.int .i64 0) (.int .i64 0) (.string ⟨#[]⟩) (.int .i64 0) (.int .i64 0) (.string ⟨#[]⟩) (.int .i64 0) (.int .i64 0) (.int .i64 0) (.int .i64 10) (.int .i64 0)
          unfold R11.set at x0 x1 x2 x3 x4 x5 x6 x7 x8 x9 x10
          refine bodyPost_ret (v := pcv (pcE 10)) (by simp [results, Tryz.results82, go_sem, pcv, pcE, v0, x0, x1, x2, x3, x4, x5, x6, x7, x8, x9, x10]) rfl ⟨rfl, ?_⟩
          exact R11.set_below B6 (Nat.le_refl _) _ _ _ _ _ _ _ _ _ _ _
        · go_simp
          have bk5 : Below w3.heap.size w3 (w3.alloc (.cells #[.int .i64 0, .int .i64 0, .string ⟨#[]⟩] 35)) := (Below.refl _ _).alloc (Nat.le_refl _) _
          have vk5 := R3.new w3 35 (.int .i64 0) (.int .i64 0) (.string ⟨#[]⟩)
          refine hK.out _ _ (hH3.next bk5) (fun k5 => ?_)
          clear hK K
          generalize w3.alloc (.cells #[.int .i64 0, .int .i64 0, .string ⟨#[]⟩] 35) = wa at *
          refine wpAnyH_ready (rs := [9]) (by kernel_rfl) (by simp) ?_
          refine AllReadyH.cons rfl (fun K hK => ?_) AllReadyH.nil
          go_simp
          go_at_call 107
          refine (PR.out _ k5.m k5.r k5.t).mono ?_
          rintro e w4 ⟨rfl, hb4⟩
          have bX := bk5.trans (hb4.mono bk5.size)
          have vX := vk5.below hb4
          unfold av
          go_wp2_with fail
          refine hK.out _ _ (k5.next hb4) (fun hH4 => ?_)
          clear hK K PR
          refine take_at (i := 10) (v := .tuple #[.agg #[.int .i64 vt, .int .i64 vn, .string vs], .int .i64 E]) rfl rfl (by kernel_rfl) (by kernel_rfl) (by kernel_rfl) (fun _ _ _ h => h) (Or.inl ⟨by rfl, ?_⟩) hH4 ?_
          · intro w hSw; (try dsimp only at hSw); go_simp
          simp only [List.setIfInBounds_toArray, List.set_cons_zero, List.set_cons_succ]
          refine take_at (i := 11) (v := .agg #[.int .i64 vt, .int .i64 vn, .string vs]) rfl rfl (by kernel_rfl) (by kernel_rfl) (by kernel_rfl) (fun _ _ _ h => h) (Or.inl ⟨by rfl, ?_⟩) hH4 ?_
          · intro w hSw; (try dsimp only at hSw); go_simp
          simp only [List.setIfInBounds_toArray, List.set_cons_zero, List.set_cons_succ]
          refine take_at (i := 12) (v := .int .i64 E) rfl rfl (by kernel_rfl) (by kernel_rfl) (by kernel_rfl) (fun _ _ _ h => h) (Or.inl ⟨by rfl, ?_⟩) hH4 ?_
          · intro w hSw; (try dsimp only at hSw); go_simp
          simp only [List.setIfInBounds_toArray, List.set_cons_zero, List.set_cons_succ]
          refine wpAnyH_ready (rs := [14]) (by kernel_rfl) (by simp) ?_
          refine AllReadyH.cons rfl (fun K hK => ?_) AllReadyH.nil
          obtain ⟨_, y0, y1, y2, z0, z1, z2⟩ := id vX
          go_simp
          have V6 := vX.put (.int .i64 vt) (.int .i64 vn) (.string vs)
          have n6 := hH3.next (R3.set_below bX (Nat.le_refl _) (.int .i64 vt) (.int .i64 vn) (.string vs))
          unfold R3.set at V6 n6
          refine hK.out _ _ n6 (fun _ => ?_)
          clear hK K y0 y1 y2 z0 z1 z2
          refine take_at (i := 15) (v := .int .i64 E) rfl rfl (by kernel_rfl) (by kernel_rfl) (by kernel_rfl) (fun _ _ _ h => h) (Or.inl ⟨by rfl, ?_⟩) n6 ?_
          · intro w hSw; (try dsimp only at hSw); go_simp
          simp only [List.setIfInBounds_toArray, List.set_cons_zero, List.set_cons_succ]
          refine wpAnyH_done (by kernel_rfl) ?_ _
          refine NoPanic.normal ?_
          have P6 := n6.p
          have B6 := n6.b
          obtain ⟨_, y0, y1, y2, _, _, _⟩ := id V6
          clear n6 V6
          obtain ⟨_, c0, c1, c2, c3, c4, c5, c6, c7, c8, c9, c10, f0, f1, f2, f3, f4, f5, f6, f7, f8, f9, f10⟩ := id P6
          go_wp2_with fail
          obtain ⟨_, x0, x1, x2, x3, x4, x5, x6, x7, x8, x9, x10, _, _, _, _, _, _, _, _, _, _, _⟩ := P6.put (.int .i64 0) (.int .i64 0) (.string ⟨#[]⟩) (.int .i64 0) (.int .i64 0) (.string ⟨#[]⟩) (.int .i64 0) (.int .i64 0) (.int .i64 0) (.int .i64 10) (.int .i64 0)
          unfold R11.set at x0 x1 x2 x3 x4 x5 x6 x7 x8 x9 x10
          refine bodyPost_ret (v := pcv (pcE 10)) (by simp [results, Tryz.results82, go_sem, pcv, pcE, v0, x0, x1, x2, x3, x4, x5, x6, x7, x8, x9, x10]) rfl ⟨rfl, ?_⟩
          exact R11.set_below B6 (Nat.le_refl _) _ _ _ _ _ _ _ _ _ _ _
      · go_simp
        have bk5 : Below wd.heap.size wd (wd.alloc (.cells #[.int .i64 0, .int .i64 0, .string ⟨#[]⟩] 35)) := (Below.refl _ _).alloc (Nat.le_refl _) _
        have vk5 := R3.new wd 35 (.int .i64 0) (.int .i64 0) (.string ⟨#[]⟩)
        refine hK.out _ _ (hH.next bk5) (fun k5 => ?_)
        clear hK K
        generalize wd.alloc (.cells #[.int .i64 0, .int .i64 0, .string ⟨#[]⟩] 35) = wa at *
        refine wpAnyH_ready (rs := [3]) (by kernel_rfl) (by simp) ?_
        refine AllReadyH.cons rfl (fun K hK => ?_) AllReadyH.nil
        go_simp
        go_at_call 108
        refine (WN.out _).mono ?_
        rintro e w3 ⟨rfl, hb3⟩
        have bX := bk5.trans (hb3.mono bk5.size)
        have vX := vk5.below hb3
        go_wp2_with fail
        refine hK.out _ _ (k5.next hb3) (fun hH3 => ?_)
        clear hK K WN
        refine take_at (i := 8) (v := .string ⟨NT.toArray⟩) rfl rfl (by kernel_rfl) (by kernel_rfl) (by kernel_rfl) (fun _ _ _ h => h) (Or.inl ⟨by rfl, ?_⟩) hH3 ?_
        · intro w hSw; (try dsimp only at hSw); go_simp
        simp only [List.setIfInBounds_toArray, List.set_cons_zero, List.set_cons_succ]
        refine wpAnyH_ready (rs := [9]) (by kernel_rfl) (by simp) ?_
        refine AllReadyH.cons rfl (fun K hK => ?_) AllReadyH.nil
        go_simp
        go_at_call 107
        refine (PR.out _ hH3.m hH3.r hH3.t).mono ?_
        rintro e w4 ⟨rfl, hb4⟩
        have bY := bX.trans (hb4.mono bX.size)
        have vY := vX.below hb4
        unfold av
        go_wp2_with fail
        refine hK.out _ _ (hH3.next hb4) (fun hH4 => ?_)
        clear hK K PR
        refine take_at (i := 10) (v := .tuple #[.agg #[.int .i64 vt, .int .i64 vn, .string vs], .int .i64 E]) rfl rfl (by kernel_rfl) (by kernel_rfl) (by kernel_rfl) (fun _ _ _ h => h) (Or.inl ⟨by rfl, ?_⟩) hH4 ?_
        · intro w hSw; (try dsimp only at hSw); go_simp
        simp only [List.setIfInBounds_toArray, List.set_cons_zero, List.set_cons_succ]
        refine take_at (i := 11) (v := .agg #[.int .i64 vt, .int .i64 vn, .string vs]) rfl rfl (by kernel_rfl) (by kernel_rfl) (by kernel_rfl) (fun _ _ _ h => h) (Or.inl ⟨by rfl, ?_⟩) hH4 ?_
        · intro w hSw; (try dsimp only at hSw); go_simp
        simp only [List.setIfInBounds_toArray, List.set_cons_zero, List.set_cons_succ]
        refine take_at (i := 12) (v := .int .i64 E) rfl rfl (by kernel_rfl) (by kernel_rfl) (by kernel_rfl) (fun _ _ _ h => h) (Or.inl ⟨by rfl, ?_⟩) hH4 ?_
        · intro w hSw; (try dsimp only at hSw); go_simp
        simp only [List.setIfInBounds_toArray, List.set_cons_zero, List.set_cons_succ]
        refine wpAnyH_ready (rs := [14]) (by kernel_rfl) (by simp) ?_
        refine AllReadyH.cons rfl (fun K hK => ?_) AllReadyH.nil
        obtain ⟨_, y0, y1, y2, z0, z1, z2⟩ := id vY
        go_simp
        have V6 := vY.put (.int .i64 vt) (.int .i64 vn) (.string vs)
        have n6 := hH.next (R3.set_below bY (Nat.le_refl _) (.int .i64 vt) (.int .i64 vn) (.string vs))
        unfold R3.set at V6 n6
        refine hK.out _ _ n6 (fun _ => ?_)
        clear hK K y0 y1 y2 z0 z1 z2
        refine take_at (i := 15) (v := .int .i64 E) rfl rfl (by kernel_rfl) (by kernel_rfl) (by kernel_rfl) (fun _ _ _ h => h) (Or.inl ⟨by rfl, ?_⟩) n6 ?_
        · intro w hSw; (try dsimp only at hSw); go_simp
        simp only [List.setIfInBounds_toArray, List.set_cons_zero, List.set_cons_succ]
        refine wpAnyH_done (by kernel_rfl) ?_ _
        refine NoPanic.normal ?_
        have P6 := n6.p
        have B6 := n6.b
        obtain ⟨_, y0, y1, y2, _, _, _⟩ := id V6
        clear n6 V6
        obtain ⟨_, c0, c1, c2, c3, c4, c5, c6, c7, c8, c9, c10, f0, f1, f2, f3, f4, f5, f6, f7, f8, f9, f10⟩ := id P6
        go_wp2_with fail
        obtain ⟨_, x0, x1, x2, x3, x4, x5, x6, x7, x8, x9, x10, _, _, _, _, _, _, _, _, _, _, _⟩ := P6.put (.int .i64 0) (.int .i64 0) (.string ⟨#[]⟩) (.int .i64 0) (.int .i64 0) (.string ⟨#[]⟩) (.int .i64 0) (.int .i64 0) (.int .i64 0) (.int .i64 10) (.int .i64 0)
        unfold R11.set at x0 x1 x2 x3 x4 x5 x6 x7 x8 x9 x10
        refine bodyPost_ret (v := pcv (pcE 10)) (by simp [results, Tryz.results82, go_sem, pcv, pcE, v0, x0, x1, x2, x3, x4, x5, x6, x7, x8, x9, x10]) rfl ⟨rfl, ?_⟩
        exact R11.set_below B6 (Nat.le_refl _) _ _ _ _ _ _ _ _ _ _ _
  · have h0i : (0 : Int) < (F : Int) := by omega
    rw [if_neg h0] at hns
    have hnI : (d : Int) + (1 + (F : Int)) = (n : Int) := by omega
    have hdn : (d : Int) ≤ (n : Int) := by omega
    clear hns h4 h0 hle hnle hs
    by_cases hE : E = 0
    · rw [if_pos hE]
      have hEb : (E != 0) = false := by rw [hE]; rfl
      clear hE
      go_enter Tryz.func82, Tryz.ntmps82
      go_wp2_with fail
      refine (DS.out _).mono ?_
      rintro e w1 ⟨rfl, hb1⟩
      have P1 := P0.out.below hb1
      have B1 := B0.out.trans (hb1.mono B0.out.size)
      clear DS hb1
      go_wp2_with fail
      refine (FS.out _).mono ?_
      rintro e w2 ⟨rfl, hb2⟩
      have P2 := P1.below hb2
      have B2 := B1.trans (hb2.mono B1.size)
      clear FS hb2
      have n2 : nS w w2 := ⟨B2, P2, HM.out.below B2, HR.out.below B2, HT.out.below B2⟩
      clear P2 B2 HM HR HT P1 B1 P0 B0
      go_wp2_with fail
      refine wp_region_noPanic ?_
      refine wp_region_held_drew (S := fun w' => nS w w') (by kernel_rfl) (n2.drew) (fun hH => ?_)
      generalize w2.drew = wd at *
      clear n2
      refine take_at (i := 0) (v := .string ⟨l.toArray⟩) rfl rfl (by kernel_rfl) (by kernel_rfl) (by kernel_rfl) (fun _ _ _ h => h) (Or.inl ⟨by rfl, ?_⟩) hH ?_
      · intro w hSw; (try dsimp only at hSw); go_simp
      simp only [List.setIfInBounds_toArray, List.set_cons_zero, List.set_cons_succ]
      refine take_at (i := 1) (v := .int .i64 (d : Nat)) rfl rfl (by kernel_rfl) (by kernel_rfl) (by kernel_rfl) (fun _ _ _ h => h) (Or.inl ⟨by rfl, ?_⟩) hH ?_
      · intro w hSw; (try dsimp only at hSw); go_simp
      simp only [List.setIfInBounds_toArray, List.set_cons_zero, List.set_cons_succ]
      refine take_at (i := 2) (v := .string ⟨T.toArray⟩) rfl rfl (by kernel_rfl) (by kernel_rfl) (by kernel_rfl) (fun _ _ _ h => h) (Or.inl ⟨by rfl, ?_⟩) hH ?_
      · intro w hSw; (try dsimp only at hSw); go_simp
      simp only [List.setIfInBounds_toArray, List.set_cons_zero, List.set_cons_succ]
      refine take_at (i := 4) (v := .string ⟨l.toArray⟩) rfl rfl (by kernel_rfl) (by kernel_rfl) (by kernel_rfl) (fun _ _ _ h => h) (Or.inl ⟨by rfl, ?_⟩) hH ?_
      · intro w hSw; (try dsimp only at hSw); go_simp
      simp only [List.setIfInBounds_toArray, List.set_cons_zero, List.set_cons_succ]
      refine take_at (i := 5) (v := .int .i64 (d : Nat)) rfl rfl (by kernel_rfl) (by kernel_rfl) (by kernel_rfl) (fun _ _ _ h => h) (Or.inl ⟨by rfl, ?_⟩) hH ?_
      · intro w hSw; (try dsimp only at hSw); go_simp
      simp only [List.setIfInBounds_toArray, List.set_cons_zero, List.set_cons_succ]
      refine take_at (i := 6) (v := .int .i64 (n : Nat)) rfl rfl (by kernel_rfl) (by kernel_rfl) (by kernel_rfl) (fun _ _ _ h => h) (Or.inl ⟨by rfl, ?_⟩) hH ?_
      · intro w hSw; (try dsimp only at hSw); go_simp
      simp only [List.setIfInBounds_toArray, List.set_cons_zero, List.set_cons_succ]
      refine take_at (i := 7) (v := .string ⟨Q.toArray⟩) rfl rfl (by kernel_rfl) (by kernel_rfl) (by kernel_rfl) (fun _ _ _ h => h) (Or.inl ⟨by rfl, ?_⟩) hH ?_
      · intro w hSw; (try dsimp only at hSw); go_simp
      simp only [List.setIfInBounds_toArray, List.set_cons_zero, List.set_cons_succ]
      refine wpAnyH_ready (rs := [3, 13]) (by kernel_rfl) (by simp) ?_
      refine AllReadyH.cons rfl (fun K hK => ?_) (AllReadyH.cons rfl (fun K hK => ?_) AllReadyH.nil)
      · go_simp
        go_at_call 108
        refine (WN.out _).mono ?_
        rintro e w3 ⟨rfl, hb3⟩
        go_wp2_with fail
        refine hK.out _ _ (hH.next hb3) (fun hH3 => ?_)
        clear hK K WN
        refine take_at (i := 8) (v := .string ⟨NT.toArray⟩) rfl rfl (by kernel_rfl) (by kernel_rfl) (by kernel_rfl) (fun _ _ _ h => h) (Or.inl ⟨by rfl, ?_⟩) hH3 ?_
        · intro w hSw; (try dsimp only at hSw); go_simp
        simp only [List.setIfInBounds_toArray, List.set_cons_zero, List.set_cons_succ]
        refine wpAnyH_ready (rs := [9, 13]) (by kernel_rfl) (by simp) ?_
        refine AllReadyH.cons rfl (fun K hK => ?_) (AllReadyH.cons rfl (fun K hK => ?_) AllReadyH.nil)
        · go_simp
          go_at_call 107
          refine (PR.out _ hH3.m hH3.r hH3.t).mono ?_
          rintro e w4 ⟨rfl, hb4⟩
          unfold av
          go_wp2_with fail
          refine hK.out _ _ (hH3.next hb4) (fun hH4 => ?_)
          clear hK K PR
          refine take_at (i := 10) (v := .tuple #[.agg #[.int .i64 vt, .int .i64 vn, .string vs], .int .i64 E]) rfl rfl (by kernel_rfl) (by kernel_rfl) (by kernel_rfl) (fun _ _ _ h => h) (Or.inl ⟨by rfl, ?_⟩) hH4 ?_
          · intro w hSw; (try dsimp only at hSw); go_simp
          simp only [List.setIfInBounds_toArray, List.set_cons_zero, List.set_cons_succ]
          refine take_at (i := 11) (v := .agg #[.int .i64 vt, .int .i64 vn, .string vs]) rfl rfl (by kernel_rfl) (by kernel_rfl) (by kernel_rfl) (fun _ _ _ h => h) (Or.inl ⟨by rfl, ?_⟩) hH4 ?_
          · intro w hSw; (try dsimp only at hSw); go_simp
          simp only [List.setIfInBounds_toArray, List.set_cons_zero, List.set_cons_succ]
          refine take_at (i := 12) (v := .int .i64 E) rfl rfl (by kernel_rfl) (by kernel_rfl) (by kernel_rfl) (fun _ _ _ h => h) (Or.inl ⟨by rfl, ?_⟩) hH4 ?_
          · intro w hSw; (try dsimp only at hSw); go_simp
          simp only [List.setIfInBounds_toArray, List.set_cons_zero, List.set_cons_succ]
          refine wpAnyH_ready (rs := [13]) (by kernel_rfl) (by simp) ?_
          refine AllReadyH.cons rfl (fun K hK => ?_) AllReadyH.nil
          go_simp
          have bk5 : Below w4.heap.size w4 (w4.alloc (.cells #[.int .i64 0, .int .i64 0, .string ⟨#[]⟩] 35)) := (Below.refl _ _).alloc (Nat.le_refl _) _
          have vk5 := R3.new w4 35 (.int .i64 0) (.int .i64 0) (.string ⟨#[]⟩)
          refine hK.out _ _ (hH4.next bk5) (fun k5 => ?_)
          clear hK K
          generalize w4.alloc (.cells #[.int .i64 0, .int .i64 0, .string ⟨#[]⟩] 35) = wa at *
          refine wpAnyH_ready (rs := [14]) (by kernel_rfl) (by simp) ?_
          refine AllReadyH.cons rfl (fun K hK => ?_) AllReadyH.nil
          obtain ⟨_, y0, y1, y2, z0, z1, z2⟩ := id vk5
          go_simp
          have V6 := vk5.put (.int .i64 vt) (.int .i64 vn) (.string vs)
          have n6 := hH4.next (R3.set_below bk5 (Nat.le_refl _) (.int .i64 vt) (.int .i64 vn) (.string vs))
          unfold R3.set at V6 n6
          refine hK.out _ _ n6 (fun _ => ?_)
          clear hK K y0 y1 y2 z0 z1 z2
          refine take_at (i := 15) (v := .int .i64 E) rfl rfl (by kernel_rfl) (by kernel_rfl) (by kernel_rfl) (fun _ _ _ h => h) (Or.inl ⟨by rfl, ?_⟩) n6 ?_
          · intro w hSw; (try dsimp only at hSw); go_simp
          simp only [List.setIfInBounds_toArray, List.set_cons_zero, List.set_cons_succ]
          refine wpAnyH_done (by kernel_rfl) ?_ _
          refine NoPanic.normal ?_
          have P6 := n6.p
          have B6 := n6.b
          obtain ⟨_, y0, y1, y2, _, _, _⟩ := id V6
          clear n6 V6
          obtain ⟨_, c0, c1, c2, c3, c4, c5, c6, c7, c8, c9, c10, f0, f1, f2, f3, f4, f5, f6, f7, f8, f9, f10⟩ := id P6
          go_wp2_with fail
          obtain ⟨_, x0, x1, x2, x3, x4, x5, x6, x7, x8, x9, x10, _, _, _, _, _, _, _, _, _, _, _⟩ := P6.put (.int .i64 n) (.int .i64 3) (.string ⟨#[]⟩) (.int .i64 vt) (.int .i64 vn) (.string vs) (.int .i64 0) (.int .i64 0) (.int .i64 0) (.int .i64 0) (.int .i64 0)
          unfold R11.set at x0 x1 x2 x3 x4 x5 x6 x7 x8 x9 x10
          refine bodyPost_ret (v := pcv ⟨n, 3, [], ⟨vt, vn, vs⟩, 0, 0⟩) (by simp [results, Tryz.results82, go_sem, pcv, x0, x1, x2, x3, x4, x5, x6, x7, x8, x9, x10]) rfl ⟨rfl, ?_⟩
          exact R11.set_below B6 (Nat.le_refl _) _ _ _ _ _ _ _ _ _ _ _
        · go_simp
          have bk5 : Below w3.heap.size w3 (w3.alloc (.cells #[.int .i64 0, .int .i64 0, .string ⟨#[]⟩] 35)) := (Below.refl _ _).alloc (Nat.le_refl _) _
          have vk5 := R3.new w3 35 (.int .i64 0) (.int .i64 0) (.string ⟨#[]⟩)
          refine hK.out _ _ (hH3.next bk5) (fun k5 => ?_)
          clear hK K
          generalize w3.alloc (.cells #[.int .i64 0, .int .i64 0, .string ⟨#[]⟩] 35) = wa at *
          refine wpAnyH_ready (rs := [9]) (by kernel_rfl) (by simp) ?_
          refine AllReadyH.cons rfl (fun K hK => ?_) AllReadyH.nil
          go_simp
          go_at_call 107
          refine (PR.out _ k5.m k5.r k5.t).mono ?_
          rintro e w4 ⟨rfl, hb4⟩
          have bX := bk5.trans (hb4.mono bk5.size)
          have vX := vk5.below hb4
          unfold av
          go_wp2_with fail
          refine hK.out _ _ (k5.next hb4) (fun hH4 => ?_)
          clear hK K PR
          refine take_at (i := 10) (v := .tuple #[.agg #[.int .i64 vt, .int .i64 vn, .string vs], .int .i64 E]) rfl rfl (by kernel_rfl) (by kernel_rfl) (by kernel_rfl) (fun _ _ _ h => h) (Or.inl ⟨by rfl, ?_⟩) hH4 ?_
          · intro w hSw; (try dsimp only at hSw); go_simp
          simp only [List.setIfInBounds_toArray, List.set_cons_zero, List.set_cons_succ]
          refine take_at (i := 11) (v := .agg #[.int .i64 vt, .int .i64 vn, .string vs]) rfl rfl (by kernel_rfl) (by kernel_rfl) (by kernel_rfl) (fun _ _ _ h => h) (Or.inl ⟨by rfl, ?_⟩) hH4 ?_
          · intro w hSw; (try dsimp only at hSw); go_simp
          simp only [List.setIfInBounds_toArray, List.set_cons_zero, List.set_cons_succ]
          refine take_at (i := 12) (v := .int .i64 E) rfl rfl (by kernel_rfl) (by kernel_rfl) (by kernel_rfl) (fun _ _ _ h => h) (Or.inl ⟨by rfl, ?_⟩) hH4 ?_
          · intro w hSw; (try dsimp only at hSw); go_simp
          simp only [List.setIfInBounds_toArray, List.set_cons_zero, List.set_cons_succ]
          refine wpAnyH_ready (rs := [14]) (by kernel_rfl) (by simp) ?_
          refine AllReadyH.cons rfl (fun K hK => ?_) AllReadyH.nil
          obtain ⟨_, y0, y1, y2, z0, z1, z2⟩ := id vX
          go_simp
          have V6 := vX.put (.int .i64 vt) (.int .i64 vn) (.string vs)
          have n6 := hH3.next (R3.set_below bX (Nat.le_refl _) (.int .i64 vt) (.int .i64 vn) (.string vs))
          unfold R3.set at V6 n6
          refine hK.out _ _ n6 (fun _ => ?_)
          clear hK K y0 y1 y2 z0 z1 z2
          refine take_at (i := 15) (v := .int .i64 E) rfl rfl (by kernel_rfl) (by kernel_rfl) (by kernel_rfl) (fun _ _ _ h => h) (Or.inl ⟨by rfl, ?_⟩) n6 ?_
          · intro w hSw; (try dsimp only at hSw); go_simp
          simp only [List.setIfInBounds_toArray, List.set_cons_zero, List.set_cons_succ]
          refine wpAnyH_done (by kernel_rfl) ?_ _
          refine NoPanic.normal ?_
          have P6 := n6.p
          have B6 := n6.b
          obtain ⟨_, y0, y1, y2, _, _, _⟩ := id V6
          clear n6 V6
          obtain ⟨_, c0, c1, c2, c3, c4, c5, c6, c7, c8, c9, c10, f0, f1, f2, f3, f4, f5, f6, f7, f8, f9, f10⟩ := id P6
          go_wp2_with fail
          obtain ⟨_, x0, x1, x2, x3, x4, x5, x6, x7, x8, x9, x10, _, _, _, _, _, _, _, _, _, _, _⟩ := P6.put (.int .i64 n) (.int .i64 3) (.string ⟨#[]⟩) (.int .i64 vt) (.int .i64 vn) (.string vs) (.int .i64 0) (.int .i64 0) (.int .i64 0) (.int .i64 0) (.int .i64 0)
          unfold R11.set at x0 x1 x2 x3 x4 x5 x6 x7 x8 x9 x10
          refine bodyPost_ret (v := pcv ⟨n, 3, [], ⟨vt, vn, vs⟩, 0, 0⟩) (by simp [results, Tryz.results82, go_sem, pcv, x0, x1, x2, x3, x4, x5, x6, x7, x8, x9, x10]) rfl ⟨rfl, ?_⟩
          exact R11.set_below B6 (Nat.le_refl _) _ _ _ _ _ _ _ _ _ _ _
      · go_simp
        have bk5 : Below wd.heap.size wd (wd.alloc (.cells #[.int .i64 0, .int .i64 0, .string ⟨#[]⟩] 35)) := (Below.refl _ _).alloc (Nat.le_refl _) _
        have vk5 := R3.new wd 35 (.int .i64 0) (.int .i64 0) (.string ⟨#[]⟩)
        refine hK.out _ _ (hH.next bk5) (fun k5 => ?_)
        clear hK K
        generalize wd.alloc (.cells #[.int .i64 0, .int .i64 0, .string ⟨#[]⟩] 35) = wa at *
        refine wpAnyH_ready (rs := [3]) (by kernel_rfl) (by simp) ?_
        refine AllReadyH.cons rfl (fun K hK => ?_) AllReadyH.nil
        go_simp
        go_at_call 108
        refine (WN.out _).mono ?_
        rintro e w3 ⟨rfl, hb3⟩
        have bX := bk5.trans (hb3.mono bk5.size)
        have vX := vk5.below hb3
        go_wp2_with fail
        refine hK.out _ _ (k5.next hb3) (fun hH3 => ?_)
        clear hK K WN
        refine take_at (i := 8) (v := .string ⟨NT.toArray⟩) rfl rfl (by kernel_rfl) (by kernel_rfl) (by kernel_rfl) (fun _ _ _ h => h) (Or.inl ⟨by rfl, ?_⟩) hH3 ?_
        · intro w hSw; (try dsimp only at hSw); go_simp
        simp only [List.setIfInBounds_toArray, List.set_cons_zero, List.set_cons_succ]
        refine wpAnyH_ready (rs := [9]) (by kernel_rfl) (by simp) ?_
        refine AllReadyH.cons rfl (fun K hK => ?_) AllReadyH.nil
        go_simp
        go_at_call 107
        refine (PR.out _ hH3.m hH3.r hH3.t).mono ?_
        rintro e w4 ⟨rfl, hb4⟩
        have bY := bX.trans (hb4.mono bX.size)
        have vY := vX.below hb4
        unfold av
        go_wp2_with fail
        refine hK.out _ _ (hH3.next hb4) (fun hH4 => ?_)
        clear hK K PR
        refine take_at (i := 10) (v := .tuple #[.agg #[.int .i64 vt, .int .i64 vn, .string vs], .int .i64 E]) rfl rfl (by kernel_rfl) (by kernel_rfl) (by kernel_rfl) (fun _ _ _ h => h) (Or.inl ⟨by rfl, ?_⟩) hH4 ?_
        · intro w hSw; (try dsimp only at hSw); go_simp
        simp only [List.setIfInBounds_toArray, List.set_cons_zero, List.set_cons_succ]
        refine take_at (i := 11) (v := .agg #[.int .i64 vt, .int .i64 vn, .string vs]) rfl rfl (by kernel_rfl) (by kernel_rfl) (by kernel_rfl) (fun _ _ _ h => h) (Or.inl ⟨by rfl, ?_⟩) hH4 ?_
        · intro w hSw; (try dsimp only at hSw); go_simp
        simp only [List.setIfInBounds_toArray, List.set_cons_zero, List.set_cons_succ]
        refine take_at (i := 12) (v := .int .i64 E) rfl rfl (by kernel_rfl) (by kernel_rfl) (by kernel_rfl) (fun _ _ _ h => h) (Or.inl ⟨by rfl, ?_⟩) hH4 ?_
        · intro w hSw; (try dsimp only at hSw); go_simp
        simp only [List.setIfInBounds_toArray, List.set_cons_zero, List.set_cons_succ]
        refine wpAnyH_ready (rs := [14]) (by kernel_rfl) (by simp) ?_
        refine AllReadyH.cons rfl (fun K hK => ?_) AllReadyH.nil
        obtain ⟨_, y0, y1, y2, z0, z1, z2⟩ := id vY
        go_simp
        have V6 := vY.put (.int .i64 vt) (.int .i64 vn) (.string vs)
        have n6 := hH.next (R3.set_below bY (Nat.le_refl _) (.int .i64 vt) (.int .i64 vn) (.string vs))
        unfold R3.set at V6 n6
        refine hK.out _ _ n6 (fun _ => ?_)
        clear hK K y0 y1 y2 z0 z1 z2
        refine take_at (i := 15) (v := .int .i64 E) rfl rfl (by kernel_rfl) (by kernel_rfl) (by kernel_rfl) (fun _ _ _ h => h) (Or.inl ⟨by rfl, ?_⟩) n6 ?_
        · intro w hSw; (try dsimp only at hSw); go_simp
        simp only [List.setIfInBounds_toArray, List.set_cons_zero, List.set_cons_succ]
        refine wpAnyH_done (by kernel_rfl) ?_ _
        refine NoPanic.normal ?_
        have P6 := n6.p
        have B6 := n6.b
        obtain ⟨_, y0, y1, y2, _, _, _⟩ := id V6
        clear n6 V6
        obtain ⟨_, c0, c1, c2, c3, c4, c5, c6, c7, c8, c9, c10, f0, f1, f2, f3, f4, f5, f6, f7, f8, f9, f10⟩ := id P6
        go_wp2_with fail
        obtain ⟨_, x0, x1, x2, x3, x4, x5, x6, x7, x8, x9, x10, _, _, _, _, _, _, _, _, _, _, _⟩ := P6.put (.int .i64 n) (.int .i64 3) (.string ⟨#[]⟩) (.int .i64 vt) (.int .i64 vn) (.string vs) (.int .i64 0) (.int .i64 0) (.int .i64 0) (.int .i64 0) (.int .i64 0)
        unfold R11.set at x0 x1 x2 x3 x4 x5 x6 x7 x8 x9 x10
        refine bodyPost_ret (v := pcv ⟨n, 3, [], ⟨vt, vn, vs⟩, 0, 0⟩) (by simp [results, Tryz.results82, go_sem, pcv, x0, x1, x2, x3, x4, x5, x6, x7, x8, x9, x10]) rfl ⟨rfl, ?_⟩
        exact R11.set_below B6 (Nat.le_refl _) _ _ _ _ _ _ _ _ _ _ _
    · rw [if_neg hE]
      have hEb : (E != 0) = true := by rw [bne_iff_ne]; exact hE
      clear hE
      go_enter Tryz.func82, Tryz.ntmps82
      go_wp2_with fail
      refine (DS.out _).mono ?_
      rintro e w1 ⟨rfl, hb1⟩
      have P1 := P0.out.below hb1
      have B1 := B0.out.trans (hb1.mono B0.out.size)
      clear DS hb1
      go_wp2_with fail
      refine (FS.out _).mono ?_
      rintro e w2 ⟨rfl, hb2⟩
      have P2 := P1.below hb2
      have B2 := B1.trans (hb2.mono B1.size)
      clear FS hb2
      have n2 : nS w w2 := ⟨B2, P2, HM.out.below B2, HR.out.below B2, HT.out.below B2⟩
      clear P2 B2 HM HR HT P1 B1 P0 B0
      go_wp2_with fail
      refine wp_region_noPanic ?_
      refine wp_region_held_drew (S := fun w' => nS w w') (by kernel_rfl) (n2.drew) (fun hH => ?_)
      generalize w2.drew = wd at *
      clear n2
      refine take_at (i := 0) (v := .string ⟨l.toArray⟩) rfl rfl (by kernel_rfl) (by kernel_rfl) (by kernel_rfl) (fun _ _ _ h => h) (Or.inl ⟨by rfl, ?_⟩) hH ?_
      · intro w hSw; (try dsimp only at hSw); go_simp
      simp only [List.setIfInBounds_toArray, List.set_cons_zero, List.set_cons_succ]
      refine take_at (i := 1) (v := .int .i64 (d : Nat)) rfl rfl (by kernel_rfl) (by kernel_rfl) (by kernel_rfl) (fun _ _ _ h => h) (Or.inl ⟨by rfl, ?_⟩) hH ?_
      · intro w hSw; (try dsimp only at hSw); go_simp
      simp only [List.setIfInBounds_toArray, List.set_cons_zero, List.set_cons_succ]
      refine take_at (i := 2) (v := .string ⟨T.toArray⟩) rfl rfl (by kernel_rfl) (by kernel_rfl) (by kernel_rfl) (fun _ _ _ h => h) (Or.inl ⟨by rfl, ?_⟩) hH ?_
      · intro w hSw; (try dsimp only at hSw); go_simp
      simp only [List.setIfInBounds_toArray, List.set_cons_zero, List.set_cons_succ]
      refine take_at (i := 4) (v := .string ⟨l.toArray⟩) rfl rfl (by kernel_rfl) (by kernel_rfl) (by kernel_rfl) (fun _ _ _ h => h) (Or.inl ⟨by rfl, ?_⟩) hH ?_
      · intro w hSw; (try dsimp only at hSw); go_simp
      simp only [List.setIfInBounds_toArray, List.set_cons_zero, List.set_cons_succ]
      refine take_at (i := 5) (v := .int .i64 (d : Nat)) rfl rfl (by kernel_rfl) (by kernel_rfl) (by kernel_rfl) (fun _ _ _ h => h) (Or.inl ⟨by rfl, ?_⟩) hH ?_
      · intro w hSw; (try dsimp only at hSw); go_simp
      simp only [List.setIfInBounds_toArray, List.set_cons_zero, List.set_cons_succ]
      refine take_at (i := 6) (v := .int .i64 (n : Nat)) rfl rfl (by kernel_rfl) (by kernel_rfl) (by kernel_rfl) (fun _ _ _ h => h) (Or.inl ⟨by rfl, ?_⟩) hH ?_
      · intro w hSw; (try dsimp only at hSw); go_simp
      simp only [List.setIfInBounds_toArray, List.set_cons_zero, List.set_cons_succ]
      refine take_at (i := 7) (v := .string ⟨Q.toArray⟩) rfl rfl (by kernel_rfl) (by kernel_rfl) (by kernel_rfl) (fun _ _ _ h => h) (Or.inl ⟨by rfl, ?_⟩) hH ?_
      · intro w hSw; (try dsimp only at hSw); go_simp
      simp only [List.setIfInBounds_toArray, List.set_cons_zero, List.set_cons_succ]
      refine wpAnyH_ready (rs := [3, 13]) (by kernel_rfl) (by simp) ?_
      refine AllReadyH.cons rfl (fun K hK => ?_) (AllReadyH.cons rfl (fun K hK => ?_) AllReadyH.nil)
      · go_simp
        go_at_call 108
        refine (WN.out _).mono ?_
        rintro e w3 ⟨rfl, hb3⟩
        go_wp2_with fail
        refine hK.out _ _ (hH.next hb3) (fun hH3 => ?_)
        clear hK K WN
        refine take_at (i := 8) (v := .string ⟨NT.toArray⟩) rfl rfl (by kernel_rfl) (by kernel_rfl) (by kernel_rfl) (fun _ _ _ h => h) (Or.inl ⟨by rfl, ?_⟩) hH3 ?_
        · intro w hSw; (try dsimp only at hSw); go_simp
        simp only [List.setIfInBounds_toArray, List.set_cons_zero, List.set_cons_succ]
        refine wpAnyH_ready (rs := [9, 13]) (by kernel_rfl) (by simp) ?_
        refine AllReadyH.cons rfl (fun K hK => ?_) (AllReadyH.cons rfl (fun K hK => ?_) AllReadyH.nil)
        · go_simp
          go_at_call 107
          refine (PR.out _ hH3.m hH3.r hH3.t).mono ?_
          rintro e w4 ⟨rfl, hb4⟩
          unfold av
          go_wp2_with fail
          refine hK.out _ _ (hH3.next hb4) (fun hH4 => ?_)
          clear hK K PR
          refine take_at (i := 10) (v := .tuple #[.agg #[.int .i64 vt, .int .i64 vn, .string vs], .int .i64 E]) rfl rfl (by kernel_rfl) (by kernel_rfl) (by kernel_rfl) (fun _ _ _ h => h) (Or.inl ⟨by rfl, ?_⟩) hH4 ?_
          · intro w hSw; (try dsimp only at hSw); go_simp
          simp only [List.setIfInBounds_toArray, List.set_cons_zero, List.set_cons_succ]
          refine take_at (i := 11) (v := .agg #[.int .i64 vt, .int .i64 vn, .string vs]) rfl rfl (by kernel_rfl) (by kernel_rfl) (by kernel_rfl) (fun _ _ _ h => h) (Or.inl ⟨by rfl, ?_⟩) hH4 ?_
          · intro w hSw; (try dsimp only at hSw); go_simp
          simp only [List.setIfInBounds_toArray, List.set_cons_zero, List.set_cons_succ]
          refine take_at (i := 12) (v := .int .i64 E) rfl rfl (by kernel_rfl) (by kernel_rfl) (by kernel_rfl) (fun _ _ _ h => h) (Or.inl ⟨by rfl, ?_⟩) hH4 ?_
          · intro w hSw; (try dsimp only at hSw); go_simp
          simp only [List.setIfInBounds_toArray, List.set_cons_zero, List.set_cons_succ]
          refine wpAnyH_ready (rs := [13]) (by kernel_rfl) (by simp) ?_
          refine AllReadyH.cons rfl (fun K hK => ?_) AllReadyH.nil
          go_simp
          have bk5 : Below w4.heap.size w4 (w4.alloc (.cells #[.int .i64 0, .int .i64 0, .string ⟨#[]⟩] 35)) := (Below.refl _ _).alloc (Nat.le_refl _) _
          have vk5 := R3.new w4 35 (.int .i64 0) (.int .i64 0) (.string ⟨#[]⟩)
          refine hK.out _ _ (hH4.next bk5) (fun k5 => ?_)
          clear hK K
          generalize w4.alloc (.cells #[.int .i64 0, .int .i64 0, .string ⟨#[]⟩] 35) = wa at *
          refine wpAnyH_ready (rs := [14]) (by kernel_rfl) (by simp) ?_
          refine AllReadyH.cons rfl (fun K hK => ?_) AllReadyH.nil
          obtain ⟨_, y0, y1, y2, z0, z1, z2⟩ := id vk5
          go_simp
          have V6 := vk5.put (.int .i64 vt) (.int .i64 vn) (.string vs)
          have n6 := hH4.next (R3.set_below bk5 (Nat.le_refl _) (.int .i64 vt) (.int .i64 vn) (.string vs))
          unfold R3.set at V6 n6
          refine hK.out _ _ n6 (fun _ => ?_)
          clear hK K y0 y1 y2 z0 z1 z2
          refine take_at (i := 15) (v := .int .i64 E) rfl rfl (by kernel_rfl) (by kernel_rfl) (by kernel_rfl) (fun _ _ _ h => h) (Or.inl ⟨by rfl, ?_⟩) n6 ?_
          · intro w hSw; (try dsimp only at hSw); go_simp
          simp only [List.setIfInBounds_toArray, List.set_cons_zero, List.set_cons_succ]
          refine wpAnyH_done (by kernel_rfl) ?_ _
          refine NoPanic.normal ?_
          have P6 := n6.p
          have B6 := n6.b
          obtain ⟨_, y0, y1, y2, _, _, _⟩ := id V6
          clear n6 V6
          obtain ⟨_, c0, c1, c2, c3, c4, c5, c6, c7, c8, c9, c10, f0, f1, f2, f3, f4, f5, f6, f7, f8, f9, f10⟩ := id P6
          go_wp2_with fail
          obtain ⟨_, x0, x1, x2, x3, x4, x5, x6, x7, x8, x9, x10, _, _, _, _, _, _, _, _, _, _, _⟩ := P6.put (.int .i64 0) (.int .i64 0) (.string ⟨#[]⟩) (.int .i64 0) (.int .i64 0) (.string ⟨#[]⟩) (.int .i64 0) (.int .i64 0) (.int .i64 0) (.int .i64 10) (.int .i64 0)
          unfold R11.set at x0 x1 x2 x3 x4 x5 x6 x7 x8 x9 x10
          refine bodyPost_ret (v := pcv (pcE 10)) (by simp [results, Tryz.results82, go_sem, pcv, pcE, v0, x0, x1, x2, x3, x4, x5, x6, x7, x8, x9, x10]) rfl ⟨rfl, ?_⟩
          exact R11.set_below B6 (Nat.le_refl _) _ _ _ _ _ _ _ _ _ _ _
        · go_simp
          have bk5 : Below w3.heap.size w3 (w3.alloc (.cells #[.int .i64 0, .int .i64 0, .string ⟨#[]⟩] 35)) := (Below.refl _ _).alloc (Nat.le_refl _) _
          have vk5 := R3.new w3 35 (.int .i64 0) (.int .i64 0) (.string ⟨#[]⟩)
          refine hK.out _ _ (hH3.next bk5) (fun k5 => ?_)
          clear hK K
          generalize w3.alloc (.cells #[.int .i64 0, .int .i64 0, .string ⟨#[]⟩] 35) = wa at *
          refine wpAnyH_ready (rs := [9]) (by kernel_rfl) (by simp) ?_
          refine AllReadyH.cons rfl (fun K hK => ?_) AllReadyH.nil
          go_simp
          go_at_call 107
          refine (PR.out _ k5.m k5.r k5.t).mono ?_
          rintro e w4 ⟨rfl, hb4⟩
          have bX := bk5.trans (hb4.mono bk5.size)
          have vX := vk5.below hb4
          unfold av
          go_wp2_with fail
          refine hK.out _ _ (k5.next hb4) (fun hH4 => ?_)
          clear hK K PR
          refine take_at (i := 10) (v := .tuple #[.agg #[.int .i64 vt, .int .i64 vn, .string vs], .int .i64 E]) rfl rfl (by kernel_rfl) (by kernel_rfl) (by kernel_rfl) (fun _ _ _ h => h) (Or.inl ⟨by rfl, ?_⟩) hH4 ?_
          · intro w hSw; (try dsimp only at hSw); go_simp
          simp only [List.setIfInBounds_toArray, List.set_cons_zero, List.set_cons_succ]
          refine take_at (i := 11) (v := .agg #[.int .i64 vt, .int .i64 vn, .string vs]) rfl rfl (by kernel_rfl) (by kernel_rfl) (by kernel_rfl) (fun _ _ _ h => h) (Or.inl ⟨by rfl, ?_⟩) hH4 ?_
          · intro w hSw; (try dsimp only at hSw); go_simp
          simp only [List.setIfInBounds_toArray, List.set_cons_zero, List.set_cons_succ]
          refine take_at (i := 12) (v := .int .i64 E) rfl rfl (by kernel_rfl) (by kernel_rfl) (by kernel_rfl) (fun _ _ _ h => h) (Or.inl ⟨by rfl, ?_⟩) hH4 ?_
          · intro w hSw; (try dsimp only at hSw); go_simp
          simp only [List.setIfInBounds_toArray, List.set_cons_zero, List.set_cons_succ]
          refine wpAnyH_ready (rs := [14]) (by kernel_rfl) (by simp) ?_
          refine AllReadyH.cons rfl (fun K hK => ?_) AllReadyH.nil
          obtain ⟨_, y0, y1, y2, z0, z1, z2⟩ := id vX
          go_simp
          have V6 := vX.put (.int .i64 vt) (.int .i64 vn) (.string vs)
          have n6 := hH3.next (R3.set_below bX (Nat.le_refl _) (.int .i64 vt) (.int .i64 vn) (.string vs))
          unfold R3.set at V6 n6
          refine hK.out _ _ n6 (fun _ => ?_)
          clear hK K y0 y1 y2 z0 z1 z2
          refine take_at (i := 15) (v := .int .i64 E) rfl rfl (by kernel_rfl) (by kernel_rfl) (by kernel_rfl) (fun _ _ _ h => h) (Or.inl ⟨by rfl, ?_⟩) n6 ?_
          · intro w hSw; (try dsimp only at hSw); go_simp
          simp only [List.setIfInBounds_toArray, List.set_cons_zero, List.set_cons_succ]
          refine wpAnyH_done (by kernel_rfl) ?_ _
          refine NoPanic.normal ?_
          have P6 := n6.p
          have B6 := n6.b
          obtain ⟨_, y0, y1, y2, _, _, _⟩ := id V6
          clear n6 V6
          obtain ⟨_, c0, c1, c2, c3, c4, c5, c6, c7, c8, c9, c10, f0, f1, f2, f3, f4, f5, f6, f7, f8, f9, f10⟩ := id P6
          go_wp2_with fail
          obtain ⟨_, x0, x1, x2, x3, x4, x5, x6, x7, x8, x9, x10, _, _, _, _, _, _, _, _, _, _, _⟩ := P6.put (.int .i64 0) (.int .i64 0) (.string ⟨#[]⟩) (.int .i64 0) (.int .i64 0) (.string ⟨#[]⟩) (.int .i64 0) (.int .i64 0) (.int .i64 0) (.int .i64 10) (.int .i64 0)
          unfold R11.set at x0 x1 x2 x3 x4 x5 x6 x7 x8 x9 x10
          refine bodyPost_ret (v := pcv (pcE 10)) (by simp [results, Tryz.results82, go_sem, pcv, pcE, v0, x0, x1, x2, x3, x4, x5, x6, x7, x8, x9, x10]) rfl ⟨rfl, ?_⟩
          exact R11.set_below B6 (Nat.le_refl _) _ _ _ _ _ _ _ _ _ _ _
      · go_simp
        have bk5 : Below wd.heap.size wd (wd.alloc (.cells #[.int .i64 0, .int .i64 0, .string ⟨#[]⟩] 35)) := (Below.refl _ _).alloc (Nat.le_refl _) _
        have vk5 := R3.new wd 35 (.int .i64 0) (.int .i64 0) (.string ⟨#[]⟩)
        refine hK.out _ _ (hH.next bk5) (fun k5 => ?_)
        clear hK K
        generalize wd.alloc (.cells #[.int .i64 0, .int .i64 0, .string ⟨#[]⟩] 35) = wa at *
        refine wpAnyH_ready (rs := [3]) (by kernel_rfl) (by simp) ?_
        refine AllReadyH.cons rfl (fun K hK => ?_) AllReadyH.nil
        go_simp
        go_at_call 108
        refine (WN.out _).mono ?_
        rintro e w3 ⟨rfl, hb3⟩
        have bX := bk5.trans (hb3.mono bk5.size)
        have vX := vk5.below hb3
        go_wp2_with fail
        refine hK.out _ _ (k5.next hb3) (fun hH3 => ?_)
        clear hK K WN
        refine take_at (i := 8) (v := .string ⟨NT.toArray⟩) rfl rfl (by kernel_rfl) (by kernel_rfl) (by kernel_rfl) (fun _ _ _ h => h) (Or.inl ⟨by rfl, ?_⟩) hH3 ?_
        · intro w hSw; (try dsimp only at hSw); go_simp
        simp only [List.setIfInBounds_toArray, List.set_cons_zero, List.set_cons_succ]
        refine wpAnyH_ready (rs := [9]) (by kernel_rfl) (by simp) ?_
        refine AllReadyH.cons rfl (fun K hK => ?_) AllReadyH.nil
        go_simp
        go_at_call 107
        refine (PR.out _ hH3.m hH3.r hH3.t).mono ?_
        rintro e w4 ⟨rfl, hb4⟩
        have bY := bX.trans (hb4.mono bX.size)
        have vY := vX.below hb4
        unfold av
        go_wp2_with fail
        refine hK.out _ _ (hH3.next hb4) (fun hH4 => ?_)
        clear hK K PR
        refine take_at (i := 10) (v := .tuple #[.agg #[.int .i64 vt, .int .i64 vn, .string vs], .int .i64 E]) rfl rfl (by kernel_rfl) (by kernel_rfl) (by kernel_rfl) (fun _ _ _ h => h) (Or.inl ⟨by rfl, ?_⟩) hH4 ?_
        · intro w hSw; (try dsimp only at hSw); go_simp
        simp only [List.setIfInBounds_toArray, List.set_cons_zero, List.set_cons_succ]
        refine take_at (i := 11) (v := .agg #[.int .i64 vt, .int .i64 vn, .string vs]) rfl rfl (by kernel_rfl) (by kernel_rfl) (by kernel_rfl) (fun _ _ _ h => h) (Or.inl ⟨by rfl, ?_⟩) hH4 ?_
        · intro w hSw; (try dsimp only at hSw); go_simp
        simp only [List.setIfInBounds_toArray, List.set_cons_zero, List.set_cons_succ]
        refine take_at (i := 12) (v := .int .i64 E) rfl rfl (by kernel_rfl) (by kernel_rfl) (by kernel_rfl) (fun _ _ _ h => h) (Or.inl ⟨by rfl, ?_⟩) hH4 ?_
        · intro w hSw; (try dsimp only at hSw); go_simp
        simp only [List.setIfInBounds_toArray, List.set_cons_zero, List.set_cons_succ]
        refine wpAnyH_ready (rs := [14]) (by kernel_rfl) (by simp) ?_
        refine AllReadyH.cons rfl (fun K hK => ?_) AllReadyH.nil
        obtain ⟨_, y0, y1, y2, z0, z1, z2⟩ := id vY
        go_simp
        have V6 := vY.put (.int .i64 vt) (.int .i64 vn) (.string vs)
        have n6 := hH.next (R3.set_below bY (Nat.le_refl _) (.int .i64 vt) (.int .i64 vn) (.string vs))
        unfold R3.set at V6 n6
        refine hK.out _ _ n6 (fun _ => ?_)
        clear hK K y0 y1 y2 z0 z1 z2
        refine take_at (i := 15) (v := .int .i64 E) rfl rfl (by kernel_rfl) (by kernel_rfl) (by kernel_rfl) (fun _ _ _ h => h) (Or.inl ⟨by rfl, ?_⟩) n6 ?_
        · intro w hSw; (try dsimp only at hSw); go_simp
        simp only [List.setIfInBounds_toArray, List.set_cons_zero, List.set_cons_succ]
        refine wpAnyH_done (by kernel_rfl) ?_ _
        refine NoPanic.normal ?_
        have P6 := n6.p
        have B6 := n6.b
        obtain ⟨_, y0, y1, y2, _, _, _⟩ := id V6
        clear n6 V6
        obtain ⟨_, c0, c1, c2, c3, c4, c5, c6, c7, c8, c9, c10, f0, f1, f2, f3, f4, f5, f6, f7, f8, f9, f10⟩ := id P6
        go_wp2_with fail
        obtain ⟨_, x0, x1, x2, x3, x4, x5, x6, x7, x8, x9, x10, _, _, _, _, _, _, _, _, _, _, _⟩ := P6.put (.int .i64 0) (.int .i64 0) (.string ⟨#[]⟩) (.int .i64 0) (.int .i64 0) (.string ⟨#[]⟩) (.int .i64 0) (.int .i64 0) (.int .i64 0) (.int .i64 10) (.int .i64 0)
        unfold R11.set at x0 x1 x2 x3 x4 x5 x6 x7 x8 x9 x10
        refine bodyPost_ret (v := pcv (pcE 10)) (by simp [results, Tryz.results82, go_sem, pcv, pcE, v0, x0, x1, x2, x3, x4, x5, x6, x7, x8, x9, x10]) rfl ⟨rfl, ?_⟩
        exact R11.set_below B6 (Nat.le_refl _) _ _ _ _ _ _ _ _ _ _ _
end Go.Proofs.YtfcolecglobcdaaGreatDoor
