/-
  The walk of simfs.Create on a disk that has no map of names yet.
-/
import Derived.Test.YtlfcmhofpieacaaDkH
namespace Go.Proofs.Ytlfcmhofpieacaa
open Go.RowKit Go.Maps Go.Joins

set_option maxHeartbeats 8000000 in
set_option maxRecDepth 1000000 in
theorem Create_nil0 (base f : Nat) (q : Int) (s : ByteArray) (A B : List (List UInt8 × Fl)) (us : List Un) (w : World) (d : FsAt w f q none (.slice none 0 0) 0) (fge : base ≤ f) (bs : base ≤ w.heap.size) (hs : okN s) (hA : A = []) (hB : B = []) (hus : us = []) :
    Calls Try.prog 6 #[.pointer (some ⟨f, 0, none⟩), .string s] w fun e w' => e = .returned (.int .i64 0) ∧ ∃ m b c, Disk w' base f q m (A ++ (s.data.toList, ⟨b, .slice none 0 0, [], 0⟩) :: B) (us ++ [.cr c s]) ∧ Below base w w' := by
  have CB : Hid (∀ w, Calls Try.prog 13 #[.string s] w fun e w' => e = .returned (.bool true) ∧ w' = w) := fun w => canBe_ok s w hs
  have hsz : s.size ≤ maxLen := by have := hs.2.1; unfold maxLen; omega
  have hput : ∀ b : Nat, (DataW.map ((A ++ B).map ent)).put (.string s.data.toList) (.lit (.int .i64 (b : Int))) = .map (A.map ent ++ (.string s.data.toList, .lit (.int .i64 (b : Int))) :: B.map ent) := by subst hA hB; intro b; rfl
  have hl : A.length + B.length < 64 := by subst hA hB; simp
  have hu : us.length ≤ 1000 := by subst hus; simp
  have g0 := World.grownBy_alloc w (.cells #[.string s] 9) none
  have D0 : FsAt (w.alloc (.cells #[.string s] 9)) f q none (.slice none 0 0) 0 := FsAt.kept d g0 (by simp)
  have hc0 : (w.alloc (.cells #[.string s] 9)).heap[w.heap.size]? = some (.cells #[.string s] 9 (0, 0)) := heap_alloc_new _ _
  have B0 : Below base w (w.alloc (.cells #[.string s] 9)) := (Below.refl _ w).alloc bs _
  have hcb : base ≤ w.heap.size := bs
  go_enter Try.func6, Try.ntmps6
  go_wp2_with fail
  generalize w.alloc (.cells #[.string s] 9) = w0 at *
  refine (CB.out _).mono ?_
  rintro e wx ⟨rfl, hwx⟩; have hwx2 := hwx.symm; subst hwx2; clear hwx
  have h1 := D0
  obtain ⟨c0, c1, c2, c3, cf⟩ := FsAt.c h1
  have cn : w0.cell? ⟨w.heap.size, 0, none⟩ = some (.string s) := (cell_of_block hc0 0).trans rfl
  have lk : ∀ n, (Instr.lookup 37 (.map none) (.string s) false).run Try.prog (w0.drewN n) = .ok (.pointer none) (w0.drewN n) := fun n => Maps.look_nil (w := w0.drewN n) false keyS mapT (zeroP _) (WideMaps.keyOf_string_mk strT hsz)
  have ln : ∀ n ty, (Builtin.len_ #[37] ty #[.map none]).run Try.prog (w0.drewN n) = .ok (.int .i64 0) (w0.drewN n) := fun n ty => Maps.len_nil (w := w0.drewN n) mapT ty
  have RF : Hid (∀ n, Calls Try.prog 14 #[.pointer (some ⟨f, 0, none⟩)] (w0.drewN n) fun e w' => e = .returned (.bool false) ∧ w' = w0.drewN n) := fun n => refuses_no f q none (.slice none 0 0) (w0.drewN n) h1
  go_wp2_with fail
  go_quiet (fail)
  go_wp2_with fail
  refine (RF.out _).mono ?_
  rintro e wx ⟨rfl, hwx⟩; have hwx2 := hwx.symm; subst hwx2; clear hwx
  have B0' : Below base w (w0.drewN nq) := below_drewN B0 nq
  have F0 : FsAt (w0.drewN nq) f q none (.slice none 0 0) 0 := h1
  have hc0' : (w0.drewN nq).heap[w.heap.size]? = some (.cells #[.string s] 9 (0, 0)) := hc0
  have bs0 : base ≤ (w0.drewN nq).heap.size := Nat.le_trans bs B0'.size
  generalize w0.drewN nq = w00 at *
  clear lk ln RF c0 c1 c2 c3 cf cn h1 hc0 B0 D0
  obtain ⟨c0, c1, c2, c3, cf⟩ := F0.c
  have z := eqNilM
  have hmm := @run_makeMap Try.prog
  -- the world behind the making of the map
  obtain ⟨m, hmq⟩ : ∃ m, m = w00.heap.size := ⟨_, rfl⟩
  have hlt0 := lt_of_heap F0
  have F1 : FsAt ((w00.alloc (.map #[] 0)).setCell ⟨f, 1, none⟩ (.map (some w00.heap.size))) f q (some w00.heap.size) (.slice none 0 0) 0 := (block_setCell (i := 1) (v := .map (some w00.heap.size)) (FsAt.kept F0 (World.grownBy_alloc w00 (.map #[] 0) none) (by simp))).trans rfl
  have M1 : Mp ((w00.alloc (.map #[] 0)).setCell ⟨f, 1, none⟩ (.map (some w00.heap.size))) w00.heap.size [] := World.ownsMap.setCell (World.ownsMap_made w00 Try.prog 9 ptrR) (fun e => by have e : w00.heap.size = f := e; omega) _
  have B1 : Below base w ((w00.alloc (.map #[] 0)).setCell ⟨f, 1, none⟩ (.map (some w00.heap.size))) := (B0'.alloc bs0 _).setCell fge _
  have hc1 : ((w00.alloc (.map #[] 0)).setCell ⟨f, 1, none⟩ (.map (some w00.heap.size))).heap[w.heap.size]? = some (.cells #[.string s] 9 (0, 0)) := (heap_setCell_other _ _ _ _ (fun e => by
    have e : w.heap.size = f := e
    have h : w00.heap[f]? = some (.cells #[.string s] 9 (0, 0)) := by rw [← e]; exact hc0'
    unfold FsAt at F0
    rw [F0] at h; simp at h)).trans ((Below.heap_alloc _ _ _ (lt_of_heap hc0')).trans hc0')
  have bs1 : base ≤ ((w00.alloc (.map #[] 0)).setCell ⟨f, 1, none⟩ (.map (some w00.heap.size))).heap.size := by simp; omega
  have D1 : Hid (Disk ((w00.alloc (.map #[] 0)).setCell ⟨f, 1, none⟩ (.map (some w00.heap.size))) base f q w00.heap.size (A ++ B) us) := by
    subst hA hB hus
    exact ⟨bs1, fge, bs0, ⟨_, F1, World.ownsRow_nil _ _ _ _⟩, M1, ⟨fun x hx => by simp at hx, List.Pairwise.nil, List.Pairwise.nil⟩, fun u hu => by simp at hu⟩
  have R1 : ((w00.alloc (.map #[] 0)).setCell ⟨f, 1, none⟩ (.map (some w00.heap.size))).ownsRow base 55 1 (.slice none 0 0) us.length (us.map Un.val) := by
    subst hus; exact World.ownsRow_nil _ _ _ _
  have hEq := World.setCell_alloc_past (w := w00) (.map #[] 0) f 1 (.map (some w00.heap.size)) hlt0
  rw [hEq] at F1 M1 B1 hc1 bs1 D1 R1
  clear hEq
  go_wp2_with fail
  generalize (w00.setCell ⟨f, 1, none⟩ (.map (some w00.heap.size))).alloc (.map #[] 0) = w1 at *
  rw [← hmq] at F1 M1 D1 ⊢
  clear hmq z hmm c0 c1 c2 c3 cf F0 hc0' B0' bs0 bs1 hlt0 M1 hA hB hus
  obtain ⟨ov, hov⟩ : ∃ ov, ov = Value.slice none 0 0 := ⟨_, rfl⟩
  rw [← hov] at F1 R1
  clear hov
  obtain ⟨c0, c1, c2, c3, cf⟩ := F1.c
  have cn : w1.cell? ⟨w.heap.size, 0, none⟩ = some (.string s) := (cell_of_block hc1 0).trans rfl
  go_wp2_with fail
  refine wp_region_noPanic ?_
  refine wp_region_held_drew (S := fun w' => w'.cell? ⟨f, 1, none⟩ = some (.map (some m)) ∧ w'.cell? ⟨w.heap.size, 0, none⟩ = some (.string s)) (by kernel_rfl) ⟨c1, cn⟩ (fun hH => ?_)
  refine take_at (i := 0) (v := .pointer (some ⟨f, 0, none⟩)) rfl rfl (by kernel_rfl) (by kernel_rfl) (by kernel_rfl) (fun _ _ _ h => h) (Or.inl ⟨by rfl, ?_⟩) hH ?_
  · intro v hv; obtain ⟨hv1, hv2⟩ := hv; go_simp
  simp only [List.setIfInBounds_toArray, List.set_cons_zero, List.set_cons_succ]
  refine take_at (i := 1) (v := .pointer (some ⟨f, 0, none⟩)) rfl rfl (by kernel_rfl) (by kernel_rfl) (by kernel_rfl) (fun _ _ _ h => h) (Or.inl ⟨by rfl, ?_⟩) hH ?_
  · intro v hv; obtain ⟨hv1, hv2⟩ := hv; go_simp
  simp only [List.setIfInBounds_toArray, List.set_cons_zero, List.set_cons_succ]
  refine take_at (i := 2) (v := .pointer (some ⟨f, 1, none⟩)) rfl rfl (by kernel_rfl) (by kernel_rfl) (by kernel_rfl) (fun _ _ _ h => h) (Or.inl ⟨by rfl, ?_⟩) hH ?_
  · intro v hv; obtain ⟨hv1, hv2⟩ := hv; go_simp
  simp only [List.setIfInBounds_toArray, List.set_cons_zero, List.set_cons_succ]
  refine take_at (i := 3) (v := .map (some m)) rfl rfl (by kernel_rfl) (by kernel_rfl) (by kernel_rfl) (fun _ _ _ h => h) (Or.inl ⟨by rfl, ?_⟩) hH ?_
  · intro v hv; obtain ⟨hv1, hv2⟩ := hv; go_simp
  simp only [List.setIfInBounds_toArray, List.set_cons_zero, List.set_cons_succ]
  refine take_at (i := 4) (v := .string s) rfl rfl (by kernel_rfl) (by kernel_rfl) (by kernel_rfl) (fun _ _ _ h => h) (Or.inl ⟨by rfl, ?_⟩) hH ?_
  · intro v hv; obtain ⟨hv1, hv2⟩ := hv; go_simp
  simp only [List.setIfInBounds_toArray, List.set_cons_zero, List.set_cons_succ]
  refine take_at (i := 5) (v := .agg #[.slice none 0 0, .int .i64 0]) rfl rfl (by kernel_rfl) (by kernel_rfl) (by kernel_rfl) (fun _ _ _ h => h) (Or.inl ⟨by rfl, ?_⟩) hH ?_
  · intro v hv; obtain ⟨hv1, hv2⟩ := hv; go_simp
  simp only [List.setIfInBounds_toArray, List.set_cons_zero, List.set_cons_succ]
  refine wpAnyH_ready (rs := [6]) (by kernel_rfl) (by simp) ?_
  refine AllReadyH.cons rfl (fun K hK => ?_) AllReadyH.nil
  go_simp
  have hH2 : (fun w' : World => w'.cell? ⟨f, 1, none⟩ = some (.map (some m)) ∧ w'.cell? ⟨w.heap.size, 0, none⟩ = some (.string s)) (w1.alloc (.cells #[.slice none 0 0, .int .i64 0] 44)).drew := ⟨(World.grownBy_alloc w1 (.cells #[.slice none 0 0, .int .i64 0] 44) none).cell c1 (by simp), (World.grownBy_alloc w1 (.cells #[.slice none 0 0, .int .i64 0] 44) none).cell cn (by simp)⟩
  refine hK.out _ _ hH2 (fun _ => ?_)
  clear hK K hH
  have g2 : w1.grownBy (w1.alloc (.cells #[.slice none 0 0, .int .i64 0] 44)).drew none := by
    have h := World.grownBy_alloc w1 (.cells #[.slice none 0 0, .int .i64 0] 44) none
    exact ⟨h.os, h.tape, h.output, h.size, h.block⟩
  have y2 : (w1.alloc (.cells #[.slice none 0 0, .int .i64 0] 44)).drew.heap[w1.heap.size]? = some (.cells #[.slice none 0 0, .int .i64 0] 44 (0, 0)) := heap_alloc_new _ _
  generalize (w1.alloc (.cells #[.slice none 0 0, .int .i64 0] 44)).drew = w2 at *
  have D2 := D1.out.kept g2
  obtain ⟨w3, hrun, hown3, hturn⟩ := World.ownsMap.store (key := .string s) (val := .pointer (some ⟨w1.heap.size, 0, none⟩)) D2.mp keyS mapT (by simp; unfold maxLen; omega) (WideMaps.keyOf_string_mk strT hsz) (ptrR_mk w1.heap.size)
  rw [hput] at hown3
  have g3 := hturn.grown
  have hc13 : Chg (fun i => i = m) w1 w3 := (Chg.of_none g2 _).trans ((Chg.of_grown g3).mono (fun i _ e => by cases e; rfl))
  obtain ⟨es, ck, hmk⟩ := D1.out.mp.kind
  have nm : ∀ {b : Nat} {cs : Array Value} {t : TypeId} {fr : Nat × Nat}, w1.heap[b]? = some (.cells cs t fr) → ¬ b = m := fun h e => by rw [e, hmk] at h; cases h
  have F3 : FsAt w3 f q (some m) ov 0 := hc13.at_ F1 (nm F1)
  have R3 : w3.ownsRow base 55 1 ov us.length (us.map Un.val) := hc13.row R1 (fun g hg e => by obtain ⟨cs, hk⟩ := own_kind R1 g hg; exact nm hk e)
  have hc3 := hc13.at_ hc1 (nm hc1)
  obtain ⟨e0, e1, e2, e3, ef⟩ := F3.c
  have en : w3.cell? ⟨w.heap.size, 0, none⟩ = some (.string s) := (cell_of_block hc3 0).trans rfl
  refine wpAnyH_ready (rs := [7]) (by kernel_rfl) (by simp) ?_
  refine AllReadyH.cons rfl (fun K hK => ?_) AllReadyH.nil
  go_simp
  refine hK.out _ _ ⟨e1, en⟩ (fun _ => ?_)
  clear hK K
  refine wpAnyH_done (by kernel_rfl) ?_ _
  refine NoPanic.normal ?_
  obtain ⟨Po, Co, rfl⟩ := row_form R3
  have B3 : Below base w1 w3 := hc13.below D1.out.bs (fun i e => by subst e; exact D1.out.mge)
  have m3 : m ≠ w1.heap.size := fun e => by have := lt_of_heap hmk; omega
  have y3 : w3.heap[w1.heap.size]? = some (.cells #[.slice none 0 0, .int .i64 0] 44 (0, 0)) := (g3.block w1.heap.size (lt_of_heap y2) (by simp; exact fun e => m3 e.symm)).trans y2
  have Y3 : FlOk w3 base ⟨w1.heap.size, .slice none 0 0, [], 0⟩ := ⟨D1.out.bs, y3, ownsB_nil _ _, Nat.le_refl _, by simp⟩
  have L3 : Fls w3 base ((A ++ (s.data.toList, (⟨w1.heap.size, .slice none 0 0, [], 0⟩ : Fl)) :: B).map (·.2) ++ (us ++ [Un.cr w.heap.size s]).flatMap Un.lost) := by
    have h0 := hc13.files D1.out.fl (fun r e => by subst e; exact other_map hmk)
    have e0 : (A ++ B).map (·.2) ++ us.flatMap Un.lost = A.map (·.2) ++ (B.map (·.2) ++ us.flatMap Un.lost) := by simp
    have e1 : (A ++ (s.data.toList, (⟨w1.heap.size, .slice none 0 0, [], 0⟩ : Fl)) :: B).map (·.2) ++ (us ++ [Un.cr w.heap.size s]).flatMap Un.lost = A.map (·.2) ++ (⟨w1.heap.size, .slice none 0 0, [], 0⟩ : Fl) :: (B.map (·.2) ++ us.flatMap Un.lost) := by simp [Un.lost, Un.cr]
    rw [e1]
    rw [e0] at h0
    refine Fls.add (w := w3) h0 Y3 (fun x hx e => ?_) (fun x hx g hg e => by cases e) rfl
    have hx1 := D1.out.fl.ok x (by rw [e0]; exact hx)
    have := lt_of_heap hx1.at_
    have e : x.b = w1.heap.size := e
    omega
  have M3 : Mp w3 m (A ++ (s.data.toList, (⟨w1.heap.size, .slice none 0 0, [], 0⟩ : Fl)) :: B) := by
    have e : (A ++ (s.data.toList, (⟨w1.heap.size, .slice none 0 0, [], 0⟩ : Fl)) :: B).map ent = A.map ent ++ (.string s.data.toList, .lit (.int .i64 (w1.heap.size : Int))) :: B.map ent := by simp [ent]
    have := own_tight hown3
    unfold Mp
    rw [← e, List.length_map] at this
    exact this
  have U3 : ∀ u ∈ us ++ [Un.cr w.heap.size s], Un.ok w3 base u := fun u hu => by
    rw [List.mem_append] at hu
    rcases hu with hu | hu
    · exact hc13.un (D1.out.un u hu) (fun r e => by subst e; exact plainB_map hmk)
    · rw [List.mem_singleton] at hu; subst hu; exact ⟨hcb, hc3⟩
  have B13 := B1.trans B3
  have bs3 : base ≤ w3.heap.size := Nat.le_trans D1.out.bs B3.size
  have mge := D1.out.mge
  clear hturn hrun hown3 D1 D2 g2 g3 hc13 hmk nm F1 R1 y2 y3 Y3 hc1 hc3 c0 c1 c2 c3 cf cn hH2 d hput e0 e1 e3
  go_wp2_with (at_builtin; refine app_f rfl (.tmp 43) (.tmp 45) rfl base _ (Un.val (.cr w.heap.size s)) us.length _ rfl R3 rfl rfl (by omega) bs3 ?_; intro P4 C4 w4 h4 hc4 hl4; have F4 := hc4.at_ F3 (fun e => by obtain ⟨cs, hk⟩ := own_kind R3 _ e; unfold FsAt at F3; rw [F3] at hk; simp at hk); obtain ⟨k0, k1, k2, k3, kf⟩ := FsAt.c F4)
  go_ret
  have := opened F3 R3 M3 L3 U3 fge mge bs3 h4 hc4
  exact ⟨rfl, m, w1.heap.size, w.heap.size, this.1, B13.trans this.2⟩
theorem Create_nil (base f : Nat) (q : Int) (s : ByteArray) (w : World) (d : FsAt w f q none (.slice none 0 0) 0) (fge : base ≤ f) (bs : base ≤ w.heap.size) (hs : okN s) :
    Calls Try.prog 6 #[.pointer (some ⟨f, 0, none⟩), .string s] w fun e w' => e = .returned (.int .i64 0) ∧ ∃ m b c, Disk w' base f q m [(s.data.toList, ⟨b, .slice none 0 0, [], 0⟩)] [.cr c s] ∧ Below base w w' :=
  Create_nil0 base f q s [] [] [] w d fge bs hs rfl rfl rfl
end Go.Proofs.Ytlfcmhofpieacaa
