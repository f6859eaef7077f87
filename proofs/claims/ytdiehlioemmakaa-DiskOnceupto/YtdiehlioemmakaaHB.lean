/-
  The walk of simfs.Create on a disk that has no map of names yet.
-/
import Derived.Test.YtdiehlioemmakaaHA
import Derived.Test.YtdiehlioemmakaaIter
namespace Go.Proofs.Ytdiehlioemmakaa
open Go.RowKit Go.Maps Go.Joins

set_option maxHeartbeats 8000000 in
set_option maxRecDepth 1000000 in
theorem Create_nil0 (base f : Nat) (q : Int) (s : ByteArray) (A B : List (List UInt8 × Fl)) (us : List Un) (w : World) (d : FsAt w f q none (.slice none 0 0) 0) (fge : base ≤ f) (bs : base ≤ w.heap.size) (hs : okN s) (hA : A = []) (hB : B = []) (hus : us = []) :
    Calls Try.prog 29 #[.pointer (some ⟨f, 0, none⟩), .string s] w fun e w' => e = .returned (.int .i64 0) ∧ ∃ m b c, Disk w' base f q m (A ++ (s.data.toList, ⟨b, .slice none 0 0, [], 0⟩) :: B) (us ++ [.cr c s]) ∧ Below base w w' := by
  have CB : Hid (∀ w, Calls Try.prog 62 #[.string s] w fun e w' => e = .returned (.bool true) ∧ w' = w) := fun w => canBe_ok s w hs
  have hsz : s.size ≤ maxLen := by have := hs.2.1; unfold maxLen; omega
  have hput : ∀ b : Nat, (DataW.map ((A ++ B).map ent)).put (.string s.data.toList) (.lit (.int .i64 (b : Int))) = .map (A.map ent ++ (.string s.data.toList, .lit (.int .i64 (b : Int))) :: B.map ent) := by subst hA hB; intro b; rfl
  have hl : A.length + B.length < 64 := by subst hA hB; simp
  have hu : us.length ≤ 1000 := by subst hus; simp
  have g0 := World.grownBy_alloc w (.cells #[.string s] 9) none
  have D0 : FsAt (w.alloc (.cells #[.string s] 9)) f q none (.slice none 0 0) 0 := FsAt.kept d g0 (by simp)
  have hc0 : (w.alloc (.cells #[.string s] 9)).heap[w.heap.size]? = some (.cells #[.string s] 9 (0, 0)) := heap_alloc_new _ _
  have B0 : Below base w (w.alloc (.cells #[.string s] 9)) := (Below.refl _ w).alloc bs _
  have hcb : base ≤ w.heap.size := bs
  go_enter Try.func29, Try.ntmps29
  go_wp2_with fail
  generalize w.alloc (.cells #[.string s] 9) = w0 at *
  refine (CB.out _).mono ?_
  rintro e wx ⟨rfl, hwx⟩; have hwx2 := hwx.symm; subst hwx2; clear hwx
  have h1 := D0
  obtain ⟨c0, c1, c2, c3, cf⟩ := FsAt.c h1
  have cn : w0.cell? ⟨w.heap.size, 0, none⟩ = some (.string s) := (cell_of_block hc0 0).trans rfl
  have lk : ∀ n, (Instr.lookup 64 (.map none) (.string s) false).run Try.prog (w0.drewN n) = .ok (.pointer none) (w0.drewN n) := fun n => Maps.look_nil (w := w0.drewN n) false keyS mapT (zeroP _) (WideMaps.keyOf_string_mk strT hsz)
  have ln : ∀ n ty, (Builtin.len_ #[64] ty #[.map none]).run Try.prog (w0.drewN n) = .ok (.int .i64 0) (w0.drewN n) := fun n ty => Maps.len_nil (w := w0.drewN n) mapT ty
  have RF : Hid (∀ n, Calls Try.prog 53 #[.pointer (some ⟨f, 0, none⟩)] (w0.drewN n) fun e w' => e = .returned (.bool false) ∧ w' = w0.drewN n) := fun n => refuses_no f q none (.slice none 0 0) (w0.drewN n) h1
  go_wp2_with fail
  go_quiet (fail)
  go_wp2_with fail
  refine (RF.out _).mono ?_
  rintro e wx ⟨rfl, hwx⟩; have hwx2 := hwx.symm; subst hwx2; clear hwx
  have B0' : Below base w (w0.drewN nq) := below_drewN B0 nq
  have F0 : FsAt (w0.drewN nq) f q none (.slice none 0 0) 0 := h1
  have hc0' : (w0.drewN nq).heap[w.heap.size]? = some (.cells #[.string s] 9 (0, 0)) := hc0
  have bs0 : base ≤ (w0.drewN nq).heap.size := Nat.le_trans bs B0'.size
  generalize w0.drewN nq = w00 at *
  clear lk ln RF c0 c1 c2 c3 cf cn h1 hc0 B0 D0
  obtain ⟨c0, c1, c2, c3, cf⟩ := F0.c
  have z := eqNilM
  have hmm := @run_makeMap Try.prog
  -- the world behind the making of the map
  obtain ⟨m, hmq⟩ : ∃ m, m = w00.heap.size := ⟨_, rfl⟩
  have hlt0 := lt_of_heap F0
  have F1 : FsAt ((w00.alloc (.map #[] 0)).setCell ⟨f, 1, none⟩ (.map (some w00.heap.size))) f q (some w00.heap.size) (.slice none 0 0) 0 := (block_setCell (i := 1) (v := .map (some w00.heap.size)) (FsAt.kept F0 (World.grownBy_alloc w00 (.map #[] 0) none) (by simp))).trans rfl
  have M1 : Mp ((w00.alloc (.map #[] 0)).setCell ⟨f, 1, none⟩ (.map (some w00.heap.size))) w00.heap.size [] := World.ownsMap.setCell (World.ownsMap_made w00 Try.prog 9 ptrR) (fun e => by have e : w00.heap.size = f := e; omega) _
  have B1 : Below base w ((w00.alloc (.map #[] 0)).setCell ⟨f, 1, none⟩ (.map (some w00.heap.size))) := (B0'.alloc bs0 _).setCell fge _
  have hc1 : ((w00.alloc (.map #[] 0)).setCell ⟨f, 1, none⟩ (.map (some w00.heap.size))).heap[w.heap.size]? = some (.cells #[.string s] 9 (0, 0)) := (heap_setCell_other _ _ _ _ (fun e => by
    have e : w.heap.size = f := e
    have h : w00.heap[f]? = some (.cells #[.string s] 9 (0, 0)) := by rw [← e]; exact hc0'
    unfold FsAt at F0
    rw [F0] at h; simp at h)).trans ((Below.heap_alloc _ _ _ (lt_of_heap hc0')).trans hc0')
  have bs1 : base ≤ ((w00.alloc (.map #[] 0)).setCell ⟨f, 1, none⟩ (.map (some w00.heap.size))).heap.size := by simp; omega
  have D1 : Hid (Disk ((w00.alloc (.map #[] 0)).setCell ⟨f, 1, none⟩ (.map (some w00.heap.size))) base f q w00.heap.size (A ++ B) us) := by
    subst hA hB hus
    exact ⟨bs1, fge, bs0, ⟨_, F1, World.ownsRow_nil _ _ _ _⟩, M1, ⟨fun x hx => by simp at hx, List.Pairwise.nil, List.Pairwise.nil⟩, fun u hu => by simp at hu⟩
  have R1 : ((w00.alloc (.map #[] 0)).setCell ⟨f, 1, none⟩ (.map (some w00.heap.size))).ownsRow base 72 1 (.slice none 0 0) us.length (us.map Un.val) := by
    subst hus; exact World.ownsRow_nil _ _ _ _
  have hEq := World.setCell_alloc_past (w := w00) (.map #[] 0) f 1 (.map (some w00.heap.size)) hlt0
  rw [hEq] at F1 M1 B1 hc1 bs1 D1 R1
  clear hEq
  go_wp2_with fail
  generalize (w00.setCell ⟨f, 1, none⟩ (.map (some w00.heap.size))).alloc (.map #[] 0) = w1 at *
  rw [← hmq] at F1 M1 D1 ⊢
  clear hmq z hmm c0 c1 c2 c3 cf F0 hc0' B0' bs0 bs1 hlt0 M1 hA hB hus
  obtain ⟨ov, hov⟩ : ∃ ov, ov = Value.slice none 0 0 := ⟨_, rfl⟩
  rw [← hov] at F1 R1
  clear hov
  obtain ⟨c0, c1, c2, c3, cf⟩ := F1.c
  have cn : w1.cell? ⟨w.heap.size, 0, none⟩ = some (.string s) := (cell_of_block hc1 0).trans rfl
  go_wp2_with fail
  refine wp_region_noPanic ?_
  refine wp_region_held_drew (S := fun w' => w'.cell? ⟨f, 1, none⟩ = some (.map (some m)) ∧ w'.cell? ⟨w.heap.size, 0, none⟩ = some (.string s)) (by kernel_rfl) ⟨c1, cn⟩ (fun hH => ?_)
  refine take_at (i := 0) (v := .pointer (some ⟨f, 0, none⟩)) rfl rfl (by kernel_rfl) (by kernel_rfl) (by kernel_rfl) (fun _ _ _ h => h) (Or.inl ⟨by rfl, ?_⟩) hH ?_
  · intro v hv; obtain ⟨hv1, hv2⟩ := hv; go_simp
  simp only [List.setIfInBounds_toArray, List.set_cons_zero, List.set_cons_succ]
  refine take_at (i := 1) (v := .pointer (some ⟨f, 0, none⟩)) rfl rfl (by kernel_rfl) (by kernel_rfl) (by kernel_rfl) (fun _ _ _ h => h) (Or.inl ⟨by rfl, ?_⟩) hH ?_
  · intro v hv; obtain ⟨hv1, hv2⟩ := hv; go_simp
  simp only [List.setIfInBounds_toArray, List.set_cons_zero, List.set_cons_succ]
  refine take_at (i := 2) (v := .pointer (some ⟨f, 1, none⟩)) rfl rfl (by kernel_rfl) (by kernel_rfl) (by kernel_rfl) (fun _ _ _ h => h) (Or.inl ⟨by rfl, ?_⟩) hH ?_
  · intro v hv; obtain ⟨hv1, hv2⟩ := hv; go_simp
  simp only [List.setIfInBounds_toArray, List.set_cons_zero, List.set_cons_succ]
  refine take_at (i := 3) (v := .map (some m)) rfl rfl (by kernel_rfl) (by kernel_rfl) (by kernel_rfl) (fun _ _ _ h => h) (Or.inl ⟨by rfl, ?_⟩) hH ?_
  · intro v hv; obtain ⟨hv1, hv2⟩ := hv; go_simp
  simp only [List.setIfInBounds_toArray, List.set_cons_zero, List.set_cons_succ]
  refine take_at (i := 4) (v := .string s) rfl rfl (by kernel_rfl) (by kernel_rfl) (by kernel_rfl) (fun _ _ _ h => h) (Or.inl ⟨by rfl, ?_⟩) hH ?_
  · intro v hv; obtain ⟨hv1, hv2⟩ := hv; go_simp
  simp only [List.setIfInBounds_toArray, List.set_cons_zero, List.set_cons_succ]
  refine take_at (i := 5) (v := .agg #[.slice none 0 0, .int .i64 0]) rfl rfl (by kernel_rfl) (by kernel_rfl) (by kernel_rfl) (fun _ _ _ h => h) (Or.inl ⟨by rfl, ?_⟩) hH ?_
  · intro v hv; obtain ⟨hv1, hv2⟩ := hv; go_simp
  simp only [List.setIfInBounds_toArray, List.set_cons_zero, List.set_cons_succ]
  refine wpAnyH_ready (rs := [6]) (by kernel_rfl) (by simp) ?_
  refine AllReadyH.cons rfl (fun K hK => ?_) AllReadyH.nil
  go_simp
  have hH2 : (fun w' : World => w'.cell? ⟨f, 1, none⟩ = some (.map (some m)) ∧ w'.cell? ⟨w.heap.size, 0, none⟩ = some (.string s)) (w1.alloc (.cells #[.slice none 0 0, .int .i64 0] 86)).drew := ⟨(World.grownBy_alloc w1 (.cells #[.slice none 0 0, .int .i64 0] 86) none).cell c1 (by simp), (World.grownBy_alloc w1 (.cells #[.slice none 0 0, .int .i64 0] 86) none).cell cn (by simp)⟩
  refine hK.out _ _ hH2 (fun _ => ?_)
  clear hK K hH
  have g2 : w1.grownBy (w1.alloc (.cells #[.slice none 0 0, .int .i64 0] 86)).drew none := by
    have h := World.grownBy_alloc w1 (.cells #[.slice none 0 0, .int .i64 0] 86) none
    exact ⟨h.os, h.tape, h.output, h.size, h.block⟩
  have y2 : (w1.alloc (.cells #[.slice none 0 0, .int .i64 0] 86)).drew.heap[w1.heap.size]? = some (.cells #[.slice none 0 0, .int .i64 0] 86 (0, 0)) := heap_alloc_new _ _
  generalize (w1.alloc (.cells #[.slice none 0 0, .int .i64 0] 86)).drew = w2 at *
  have D2 := D1.out.kept g2
  obtain ⟨w3, hrun, hown3, hturn⟩ := World.ownsMap.store (key := .string s) (val := .pointer (some ⟨w1.heap.size, 0, none⟩)) D2.mp keyS mapT (by simp; unfold maxLen; omega) (WideMaps.keyOf_string_mk strT hsz) (ptrR_mk w1.heap.size)
  rw [hput] at hown3
  have g3 := hturn.grown
  have hc13 : Chg (fun i => i = m) w1 w3 := (Chg.of_none g2 _).trans ((Chg.of_grown g3).mono (fun i _ e => by cases e; rfl))
  obtain ⟨es, ck, hmk⟩ := D1.out.mp.kind
  have nm : ∀ {b : Nat} {cs : Array Value} {t : TypeId} {fr : Nat × Nat}, w1.heap[b]? = some (.cells cs t fr) → ¬ b = m := fun h e => by rw [e, hmk] at h; cases h
  have F3 : FsAt w3 f q (some m) ov 0 := hc13.at_ F1 (nm F1)
  have R3 : w3.ownsRow base 72 1 ov us.length (us.map Un.val) := hc13.row R1 (fun g hg e => by obtain ⟨cs, hk⟩ := own_kind R1 g hg; exact nm hk e)
  have hc3 := hc13.at_ hc1 (nm hc1)
  obtain ⟨e0, e1, e2, e3, ef⟩ := F3.c
  have en : w3.cell? ⟨w.heap.size, 0, none⟩ = some (.string s) := (cell_of_block hc3 0).trans rfl
  refine wpAnyH_ready (rs := [7]) (by kernel_rfl) (by simp) ?_
  refine AllReadyH.cons rfl (fun K hK => ?_) AllReadyH.nil
  go_simp
  refine hK.out _ _ ⟨e1, en⟩ (fun _ => ?_)
  clear hK K
  refine wpAnyH_done (by kernel_rfl) ?_ _
  refine NoPanic.normal ?_
  obtain ⟨Po, Co, rfl⟩ := row_form R3
  have B3 : Below base w1 w3 := hc13.below D1.out.bs (fun i e => by subst e; exact D1.out.mge)
  have m3 : m ≠ w1.heap.size := fun e => by have := lt_of_heap hmk; omega
  have y3 : w3.heap[w1.heap.size]? = some (.cells #[.slice none 0 0, .int .i64 0] 86 (0, 0)) := (g3.block w1.heap.size (lt_of_heap y2) (by simp; exact fun e => m3 e.symm)).trans y2
  have Y3 : FlOk w3 base ⟨w1.heap.size, .slice none 0 0, [], 0⟩ := ⟨D1.out.bs, y3, ownsB_nil _ _, Nat.le_refl _, by simp⟩
  have L3 : Fls w3 base ((A ++ (s.data.toList, (⟨w1.heap.size, .slice none 0 0, [], 0⟩ : Fl)) :: B).map (·.2) ++ (us ++ [Un.cr w.heap.size s]).flatMap Un.lost) := by
    have h0 := hc13.files D1.out.fl (fun r e => by subst e; exact other_map hmk)
    have e0 : (A ++ B).map (·.2) ++ us.flatMap Un.lost = A.map (·.2) ++ (B.map (·.2) ++ us.flatMap Un.lost) := by simp
    have e1 : (A ++ (s.data.toList, (⟨w1.heap.size, .slice none 0 0, [], 0⟩ : Fl)) :: B).map (·.2) ++ (us ++ [Un.cr w.heap.size s]).flatMap Un.lost = A.map (·.2) ++ (⟨w1.heap.size, .slice none 0 0, [], 0⟩ : Fl) :: (B.map (·.2) ++ us.flatMap Un.lost) := by simp [Un.lost, Un.cr]
    rw [e1]
    rw [e0] at h0
    refine Fls.add (w := w3) h0 Y3 (fun x hx e => ?_) (fun x hx g hg e => by cases e) rfl
    have hx1 := D1.out.fl.ok x (by rw [e0]; exact hx)
    have := lt_of_heap hx1.at_
    have e : x.b = w1.heap.size := e
    omega
  have M3 : Mp w3 m (A ++ (s.data.toList, (⟨w1.heap.size, .slice none 0 0, [], 0⟩ : Fl)) :: B) := by
    have e : (A ++ (s.data.toList, (⟨w1.heap.size, .slice none 0 0, [], 0⟩ : Fl)) :: B).map ent = A.map ent ++ (.string s.data.toList, .lit (.int .i64 (w1.heap.size : Int))) :: B.map ent := by simp [ent]
    have := own_tight hown3
    unfold Mp
    rw [← e, List.length_map] at this
    exact this
  have U3 : ∀ u ∈ us ++ [Un.cr w.heap.size s], Un.ok w3 base u := fun u hu => by
    rw [List.mem_append] at hu
    rcases hu with hu | hu
    · exact hc13.un (D1.out.un u hu) (fun r e => by subst e; exact plainB_map hmk)
    · rw [List.mem_singleton] at hu; subst hu; exact ⟨hcb, hc3⟩
  have B13 := B1.trans B3
  have bs3 : base ≤ w3.heap.size := Nat.le_trans D1.out.bs B3.size
  have mge := D1.out.mge
  clear hturn hrun hown3 D1 D2 g2 g3 hc13 hmk nm F1 R1 y2 y3 Y3 hc1 hc3 c0 c1 c2 c3 cf cn hH2 d hput e0 e1 e3
  go_wp2_with (at_builtin; refine app_f rfl (.tmp 43) (.tmp 45) rfl base _ (Un.val (.cr w.heap.size s)) us.length _ rfl R3 rfl rfl (by omega) bs3 ?_; intro P4 C4 w4 h4 hc4 hl4; have F4 := hc4.at_ F3 (fun e => by obtain ⟨cs, hk⟩ := own_kind R3 _ e; unfold FsAt at F3; rw [F3] at hk; simp at hk); obtain ⟨k0, k1, k2, k3, kf⟩ := FsAt.c F4)
  go_ret
  have := opened F3 R3 M3 L3 U3 fge mge bs3 h4 hc4
  exact ⟨rfl, m, w1.heap.size, w.heap.size, this.1, B13.trans this.2⟩
theorem Create_nil (base f : Nat) (q : Int) (s : ByteArray) (w : World) (d : FsAt w f q none (.slice none 0 0) 0) (fge : base ≤ f) (bs : base ≤ w.heap.size) (hs : okN s) :
    Calls Try.prog 29 #[.pointer (some ⟨f, 0, none⟩), .string s] w fun e w' => e = .returned (.int .i64 0) ∧ ∃ m b c, Disk w' base f q m [(s.data.toList, ⟨b, .slice none 0 0, [], 0⟩)] [.cr c s] ∧ Below base w w' :=
  Create_nil0 base f q s [] [] [] w d fge bs hs rfl rfl rfl
end Go.Proofs.Ytdiehlioemmakaa
namespace Go.Proofs.Ytdiehlioemmakaa
open Go.RowKit Go.Maps Go.Joins

set_option maxHeartbeats 4000000 in
set_option maxRecDepth 1000000 in
theorem copied_ok (base : Nat) (X : Fl) (w : World) (okX : FlOk w base X) (hb : base ≤ w.heap.size) :
    Calls Try.prog 27 #[.pointer (some ⟨X.b, 0, none⟩)] w fun e w' => ∃ b v, e = .returned (.pointer (some ⟨b, 0, none⟩)) ∧ w.heap.size ≤ b ∧ FlOk w' base ⟨b, v, X.l, X.k⟩ ∧ (∀ g, v.ownBlock = some g → w.heap.size ≤ g) ∧ w.grownBy w' none := by
  obtain ⟨P, C, hP⟩ := okX.form
  obtain ⟨c0, c1, cf⟩ := okX.c
  have CL : Hid (Calls Try.prog 61 #[X.v] w.drew fun e w' => ∃ v', e = .returned v' ∧ ownsB w' w.heap.size v' X.l ∧ w.grownBy w' none) := by
    refine (Clone_any base X.v X.l w.drew okX.row okX.ll).mono ?_
    rintro e w' ⟨v', rfl, ho, hg⟩
    exact ⟨v', rfl, ho, ⟨hg.os, hg.tape, hg.output, hg.size, hg.block⟩⟩
  rw [hP] at c0 CL
  have kl := okX.kl
  have ll := okX.ll
  clear okX hP cf
  go_enter Try.func27, Try.ntmps27
  go_wp2_with fail
  refine wp_region_noPanic ?_
  refine wp_region_held_drew (S := fun w' => w'.cell? ⟨X.b, 0, none⟩ = some (.slice P X.l.length C) ∧ w'.cell? ⟨X.b, 1, none⟩ = some (.int .i64 (X.k : Int))) (by kernel_rfl) ⟨c0, c1⟩ (fun hH => ?_)
  refine take_at (i := 0) (v := .pointer (some ⟨X.b, 0, none⟩)) rfl rfl (by kernel_rfl) (by kernel_rfl) (by kernel_rfl) (fun _ _ _ h => h) (Or.inl ⟨by rfl, ?_⟩) hH ?_
  · intro v hv; obtain ⟨hv1, hv2⟩ := hv; go_simp
  simp only [List.setIfInBounds_toArray, List.set_cons_zero, List.set_cons_succ]
  refine take_at (i := 1) (v := .pointer (some ⟨X.b, 0, none⟩)) rfl rfl (by kernel_rfl) (by kernel_rfl) (by kernel_rfl) (fun _ _ _ h => h) (Or.inl ⟨by rfl, ?_⟩) hH ?_
  · intro v hv; obtain ⟨hv1, hv2⟩ := hv; go_simp
  simp only [List.setIfInBounds_toArray, List.set_cons_zero, List.set_cons_succ]
  refine take_at (i := 2) (v := .pointer (some ⟨X.b, 0, none⟩)) rfl rfl (by kernel_rfl) (by kernel_rfl) (by kernel_rfl) (fun _ _ _ h => h) (Or.inl ⟨by rfl, ?_⟩) hH ?_
  · intro v hv; obtain ⟨hv1, hv2⟩ := hv; go_simp
  simp only [List.setIfInBounds_toArray, List.set_cons_zero, List.set_cons_succ]
  refine take_at (i := 3) (v := .slice P X.l.length C) rfl rfl (by kernel_rfl) (by kernel_rfl) (by kernel_rfl) (fun _ _ _ h => h) (Or.inl ⟨by rfl, ?_⟩) hH ?_
  · intro v hv; obtain ⟨hv1, hv2⟩ := hv; go_simp
  simp only [List.setIfInBounds_toArray, List.set_cons_zero, List.set_cons_succ]
  refine take_at (i := 5) (v := .pointer (some ⟨X.b, 0, none⟩)) rfl rfl (by kernel_rfl) (by kernel_rfl) (by kernel_rfl) (fun _ _ _ h => h) (Or.inl ⟨by rfl, ?_⟩) hH ?_
  · intro v hv; obtain ⟨hv1, hv2⟩ := hv; go_simp
  simp only [List.setIfInBounds_toArray, List.set_cons_zero, List.set_cons_succ]
  refine take_at (i := 6) (v := .pointer (some ⟨X.b, 0, none⟩)) rfl rfl (by kernel_rfl) (by kernel_rfl) (by kernel_rfl) (fun _ _ _ h => h) (Or.inl ⟨by rfl, ?_⟩) hH ?_
  · intro v hv; obtain ⟨hv1, hv2⟩ := hv; go_simp
  simp only [List.setIfInBounds_toArray, List.set_cons_zero, List.set_cons_succ]
  refine take_at (i := 7) (v := .pointer (some ⟨X.b, 1, none⟩)) rfl rfl (by kernel_rfl) (by kernel_rfl) (by kernel_rfl) (fun _ _ _ h => h) (Or.inl ⟨by rfl, ?_⟩) hH ?_
  · intro v hv; obtain ⟨hv1, hv2⟩ := hv; go_simp
  simp only [List.setIfInBounds_toArray, List.set_cons_zero, List.set_cons_succ]
  refine take_at (i := 8) (v := .int .i64 (X.k : Int)) rfl rfl (by kernel_rfl) (by kernel_rfl) (by kernel_rfl) (fun _ _ _ h => h) (Or.inl ⟨by rfl, ?_⟩) hH ?_
  · intro v hv; obtain ⟨hv1, hv2⟩ := hv; go_simp
  simp only [List.setIfInBounds_toArray, List.set_cons_zero, List.set_cons_succ]
  refine wpAnyH_ready (rs := [4]) (by kernel_rfl) (by simp) ?_
  refine AllReadyH.cons rfl (fun K hK => ?_) AllReadyH.nil
  go_simp
  go_at_call 61
  refine CL.out.mono ?_
  rintro e w2 ⟨v2, rfl, ho2, hg2⟩
  obtain ⟨P2, C2, rfl⟩ := own_form ho2
  go_wp2_with fail
  have hH2 : (fun w' : World => w'.cell? ⟨X.b, 0, none⟩ = some (.slice P X.l.length C) ∧ w'.cell? ⟨X.b, 1, none⟩ = some (.int .i64 (X.k : Int))) w2 := ⟨hg2.cell c0 (by simp), hg2.cell c1 (by simp)⟩
  refine hK.out _ _ hH2 (fun _ => ?_)
  clear hK K hH
  have hH := hH2
  refine take_at (i := 9) (v := .agg #[.slice P2 X.l.length C2, .int .i64 (X.k : Int)]) rfl rfl (by kernel_rfl) (by kernel_rfl) (by kernel_rfl) (fun _ _ _ h => h) (Or.inl ⟨by rfl, ?_⟩) hH ?_
  · intro v hv; obtain ⟨hv1, hv2⟩ := hv; go_simp
  simp only [List.setIfInBounds_toArray, List.set_cons_zero, List.set_cons_succ]
  refine wpAnyH_ready (rs := [10]) (by kernel_rfl) (by simp) ?_
  refine AllReadyH.cons rfl (fun K hK => ?_) AllReadyH.nil
  go_simp
  have hH3 : (fun w' : World => w'.cell? ⟨X.b, 0, none⟩ = some (.slice P X.l.length C) ∧ w'.cell? ⟨X.b, 1, none⟩ = some (.int .i64 (X.k : Int))) (w2.alloc (.cells #[.slice P2 X.l.length C2, .int .i64 (X.k : Int)] 86)) := ⟨(World.grownBy_alloc w2 _ none).cell hH2.1 (by simp), (World.grownBy_alloc w2 _ none).cell hH2.2 (by simp)⟩
  refine hK.out _ _ hH3 (fun _ => ?_)
  clear hK K hH hH2
  have hH := hH3
  refine take_at (i := 11) (v := .pointer (some ⟨w2.heap.size, 0, none⟩)) rfl rfl (by kernel_rfl) (by kernel_rfl) (by kernel_rfl) (fun _ _ _ h => h) (Or.inl ⟨by rfl, ?_⟩) hH ?_
  · intro v hv; obtain ⟨hv1, hv2⟩ := hv; go_simp
  simp only [List.setIfInBounds_toArray, List.set_cons_zero, List.set_cons_succ]
  refine wpAnyH_done (by kernel_rfl) ?_ _
  refine NoPanic.normal ?_
  go_wp2_with fail
  go_ret
  have g3 := World.grownBy_alloc w2 (.cells #[.slice P2 X.l.length C2, .int .i64 (X.k : Int)] 86) none
  refine ⟨w2.heap.size, rfl, hg2.size, .slice P2 X.l.length C2, ⟨Nat.le_trans hb hg2.size, heap_alloc_new _ _, ?_, kl, ll⟩, own_ge ho2, hg2.trans g3⟩
  exact ownsRow_le (World.ownsRow.kept ho2 g3 (by cases h : (Value.slice P2 X.l.length C2).ownBlock <;> simp)) hb

set_option maxHeartbeats 4000000 in
set_option maxRecDepth 1000000 in
theorem giveBack_ok (base m n : Nat) (s : ByteArray) (X : Fl) (D : DataW Unit) (w : World) (hs : okN s) (hm : w.ownsMap Try.prog 9 ptrR m n D) (hn : n ≤ 1000) (mge : base ≤ m) (okX : FlOk w base X) (hb : base ≤ w.heap.size) :
    Calls Try.prog 72 #[.map (some m), .string s, .pointer (some ⟨X.b, 0, none⟩)] w fun e w' => ∃ (b : Nat) (v : Value), e = .returned (.tuple #[]) ∧ w.heap.size ≤ b ∧ FlOk w' base ⟨b, v, X.l, X.k⟩ ∧ (∀ g, v.ownBlock = some g → w.heap.size ≤ g) ∧ w'.ownsMap Try.prog 9 ptrR m (n + 1) (D.put (.string s.data.toList) (.lit (.int .i64 (b : Int)))) ∧ Chg (fun i => i = m) w w' := by
  have hsz : s.size ≤ maxLen := by have := hs.2.1; unfold maxLen; omega
  have CO : Hid (Calls Try.prog 27 #[.pointer (some ⟨X.b, 0, none⟩)] w fun e w' => ∃ b v, e = .returned (.pointer (some ⟨b, 0, none⟩)) ∧ w.heap.size ≤ b ∧ FlOk w' base ⟨b, v, X.l, X.k⟩ ∧ (∀ g, v.ownBlock = some g → w.heap.size ≤ g) ∧ w.grownBy w' none) := copied_ok base X w okX hb
  have HM : Hid (w.ownsMap Try.prog 9 ptrR m n D) := hm
  clear okX hm
  go_enter Try.func72, Try.ntmps72
  go_wp2_with fail
  refine CO.out.mono ?_
  rintro e w2 ⟨b, v, rfl, hbb, okY, hv, hg2⟩
  have hm2 := HM.out.kept hg2 (by simp)
  obtain ⟨es, ck, hmk, _⟩ := id hm2
  obtain ⟨w3, hrun, hown3, hturn⟩ := World.ownsMap.store (key := .string s) (val := .pointer (some ⟨b, 0, none⟩)) hm2 keyS mapT (by unfold maxLen; omega) (WideMaps.keyOf_string_mk strT hsz) (ptrR_mk b)
  have g3 := hturn.grown
  have c3 := Chg.of_grown g3
  have okZ : FlOk w3 base ⟨b, v, X.l, X.k⟩ := c3.file okY (fun e => by cases e; rw [okY.at_] at hmk; cases hmk) (fun g hg e => by
    obtain ⟨cs, hk⟩ := own_kind okY.row g hg
    cases e; rw [hk] at hmk; cases hmk)
  have c13 : Chg (fun i => i = m) w w3 := (Chg.of_none hg2 _).trans (c3.mono (fun i _ e => by cases e; rfl))
  clear hturn okY hmk hm2 g3 c3 hg2
  go_wp2_with fail
  go_end0
  exact ⟨b, v, rfl, hbb, okZ, hv, hown3, c13⟩

/-- files fewer -/
theorem Fls.sub {w : World} {base : Nat} {xs ys : List Fl} (h : Fls w base xs) (hs : ys.Sublist xs) : Fls w base ys := ⟨fun x hx => h.ok x (hs.subset hx), h.nb.sublist hs, h.nv.sublist hs⟩

set_option maxHeartbeats 4000000 in
set_option maxRecDepth 1000000 in
theorem undoC (base f m c : Nat) (q : Int) (s : ByteArray) (X : Fl) (A B : List (List UInt8 × Fl)) (us : List Un) (w : World) (d : Disk w base f q m (A ++ (s.data.toList, X) :: B) us) (hs : okN s) (hu : Un.cr c s ∈ us) (hdel : (DataW.map ((A ++ (s.data.toList, X) :: B).map ent)).del (.string s.data.toList) = .map ((A ++ B).map ent)) :
    Calls Try.prog 63 #[.map (some m), .pointer (some ⟨c, 0, none⟩)] w fun e w' => e = .returned (.tuple #[]) ∧ Disk w' base f q m (A ++ B) us ∧ Chg (fun i => i = m) w w' := by
  have hsz : s.size ≤ maxLen := by have := hs.2.1; unfold maxLen; omega
  have cn : w.cell? ⟨c, 0, none⟩ = some (.string s) := (cell_of_block (d.un _ hu).2 0).trans rfl
  have hm := d.mp
  obtain ⟨w1, hrun, hown, hturn⟩ := World.ownsMap.drop (key := .string s) hm keyS mapT (WideMaps.keyOf_string_mk strT hsz) 0
  have hrun2 : ∀ ty, (Builtin.delete_ #[64, 9] ty #[.map (some m), .string s]).run Try.prog w = .ok (.tuple #[]) w1 := fun ty => hrun
  rw [hdel] at hown
  obtain ⟨es, ck, hmk⟩ := hm.kind
  have c1 : Chg (fun i => i = m) w w1 := (Chg.of_grown hturn.grown).mono (fun i _ e => by cases e; rfl)
  have nm : ∀ {b : Nat} {cs : Array Value} {t : TypeId} {fr : Nat × Nat}, w.heap[b]? = some (.cells cs t fr) → ¬ b = m := fun h e => by rw [e, hmk] at h; cases h
  obtain ⟨ov, h1, h2⟩ := d.fs
  have E : Hid (Disk w1 base f q m (A ++ B) us ∧ Chg (fun i => i = m) w w1) := by
    refine ⟨⟨Nat.le_trans d.bs c1.size, d.fge, d.mge, ⟨ov, c1.at_ h1 (nm h1), c1.row h2 (fun g hg e => by obtain ⟨cs, hk⟩ := own_kind h2 g hg; exact nm hk e)⟩, ?_, ?_, fun u hu => c1.un (d.un u hu) (fun r e => by subst e; exact plainB_map hmk)⟩, c1⟩
    · have := own_tight hown
      unfold Mp
      rw [List.length_map] at this
      exact this
    · refine (c1.files d.fl (fun r e => by subst e; exact other_map hmk)).sub ?_
      refine List.Sublist.append ?_ (List.Sublist.refl _)
      simp only [List.map_append, List.map_cons]
      exact List.Sublist.append (List.Sublist.refl _) (List.sublist_cons_self _ _)
  clear hrun hown hturn c1 hmk nm h1 h2 d hm
  go_enter Try.func63, Try.ntmps63
  go_wp2_with fail
  go_end0
  exact ⟨rfl, E.out⟩
end Go.Proofs.Ytdiehlioemmakaa
namespace Go.Proofs.Ytdiehlioemmakaa
open Go.RowKit Go.Maps Go.Joins

theorem Fls.perm {w : World} {base : Nat} {xs ys : List Fl} (h : Fls w base xs) (hp : xs.Perm ys) : Fls w base ys :=
  ⟨fun x hx => h.ok x (hp.mem_iff.2 hx), (hp.pairwise_iff (fun hab e => hab e.symm)).1 h.nb, (hp.pairwise_iff (fun hab g hg e => hab g e hg)).1 h.nv⟩
def sI : ByteArray := ⟨#[105, 116]⟩
def sN : ByteArray := ⟨#[105, 116, 46, 110, 101, 119]⟩
def nI : List UInt8 := [105, 116]
def nN : List UInt8 := [105, 116, 46, 110, 101, 119]
theorem nI_eq : sI.data.toList = nI := rfl
theorem nN_eq : sN.data.toList = nN := rfl
theorem okI : okN sI := by
  refine ⟨by decide, by decide, ?_⟩
  intro k h
  have h : k < 2 := h
  have : k = 0 ∨ k = 1 := by omega
  rcases this with rfl | rfl <;> exact ⟨Nat.le_of_ble_eq_true rfl, Nat.le_of_ble_eq_true rfl⟩
theorem okNw : okN sN := by
  refine ⟨by decide, by decide, ?_⟩
  intro k h
  have h : k < 6 := h
  have : k = 0 ∨ k = 1 ∨ k = 2 ∨ k = 3 ∨ k = 4 ∨ k = 5 := by omega
  rcases this with rfl | rfl | rfl | rfl | rfl | rfl <;> exact ⟨Nat.le_of_ble_eq_true rfl, Nat.le_of_ble_eq_true rfl⟩

set_option maxHeartbeats 8000000 in
set_option maxRecDepth 1000000 in
theorem Rename_ok (base f m : Nat) (q : Int) (X Y : Fl) (us : List Un) (w : World) (d : Disk w base f q m [(nI, X), (nN, Y)] us) (hu : us.length ≤ 1000) :
    Calls Try.prog 36 #[.pointer (some ⟨f, 0, none⟩), .string sN, .string sI] w fun e w' => e = .returned (.int .i64 0) ∧ ∃ ct cf cl, Disk w' base f q m [(nI, Y)] (us ++ [.rn ct cf cl sI sN X]) ∧ Below base w w' := by
  have CB : Hid (∀ w, Calls Try.prog 62 #[.string sI] w fun e w' => e = .returned (.bool true) ∧ w' = w) := fun w => canBe_ok sI w okI
  have g1 := World.grownBy_alloc w (.cells #[.string sN] 9) none
  have g2 := World.grownBy_alloc (w.alloc (.cells #[.string sN] 9)) (.cells #[.string sI] 9) none
  have D0 : Hid (Disk ((w.alloc (.cells #[.string sN] 9)).alloc (.cells #[.string sI] 9)) base f q m [(nI, X), (nN, Y)] us) := (d.kept g1).kept g2
  have hcf : ((w.alloc (.cells #[.string sN] 9)).alloc (.cells #[.string sI] 9)).heap[w.heap.size]? = some (.cells #[.string sN] 9 (0, 0)) := (g2.block w.heap.size (by simp) (by simp)).trans (heap_alloc_new _ _)
  have hct : ((w.alloc (.cells #[.string sN] 9)).alloc (.cells #[.string sI] 9)).heap[w.heap.size + 1]? = some (.cells #[.string sI] 9 (0, 0)) := by
    have := heap_alloc_new (w.alloc (.cells #[.string sN] 9)) (.cells #[.string sI] 9)
    rw [show (w.alloc (.cells #[.string sN] 9)).heap.size = w.heap.size + 1 by simp] at this
    exact this
  have B0 : Below base w ((w.alloc (.cells #[.string sN] 9)).alloc (.cells #[.string sI] 9)) := ((Below.refl _ w).alloc d.bs _).alloc (by simp; have := d.bs; omega) _
  have hcb : base ≤ w.heap.size := d.bs
  have eqs : (sN.toList == sI.toList) = false := by rw [Lib.toList_data, Lib.toList_data]; decide
  clear g1 g2 d
  go_enter Try.func36, Try.ntmps36
  go_wp2_with fail
  generalize (w.alloc (.cells #[.string sN] 9)).alloc (.cells #[.string sI] 9) = w0 at *
  obtain ⟨ov, h1, h2⟩ := D0.out.fs
  have NM : Hid (Calls Try.prog 58 #[.pointer (some ⟨f, 0, none⟩), .string sN] w0 fun e w' => e = .returned (.tuple #[.pointer (some ⟨Y.b, 0, none⟩), .int .i64 0]) ∧ w' = w0) := named_ok f m q 0 ov sN Y.b _ w0 h1 D0.out.mp okNw rfl
  have RF : Hid (Calls Try.prog 53 #[.pointer (some ⟨f, 0, none⟩)] w0 fun e w' => e = .returned (.bool false) ∧ w' = w0) := refuses_no f q (some m) ov w0 h1
  obtain ⟨c0, c1, c2, c3, cf⟩ := h1.c
  have cn1 : w0.cell? ⟨w.heap.size, 0, none⟩ = some (.string sN) := (cell_of_block hcf 0).trans rfl
  have cn2 : w0.cell? ⟨w.heap.size + 1, 0, none⟩ = some (.string sI) := (cell_of_block hct 0).trans rfl
  have lk : ∀ w' : World, w'.heap[m]? = w0.heap[m]? → (Instr.lookup 64 (.map (some m)) (.string sI) false).run Try.prog w' = .ok (.pointer (some ⟨X.b, 0, none⟩)) w' := fun w' hw => by
    obtain ⟨es, ck, hk, F, hs, hD⟩ := D0.out.mp
    have hm' : Mp w' m [(nI, X), (nN, Y)] := ⟨es, ck, hw.trans hk, F, hs, hD⟩
    obtain ⟨v, ps, hrun, hR⟩ := World.ownsMap.lookup (key := .string sI) hm' keyS mapT (zeroP _) (zd := .nil) (zp := []) rfl (WideMaps.keyOf_string_mk strT (by decide))
    have e : (DataW.map ([(nI, X), (nN, Y)].map ent)).atKey (.string sI.data.toList) .nil = .lit (.int .i64 (X.b : Int)) := rfl
    rw [e] at hR
    rcases ptrR_inv hR with ⟨_, e⟩ | ⟨b', rfl, e⟩
    · cases e
    · cases e; exact hrun
  refine (CB.out _).mono ?_
  rintro e wx ⟨rfl, hwx⟩; have hwx2 := hwx.symm; subst hwx2; clear hwx
  go_wp2_with fail
  refine NM.out.mono ?_
  rintro e wx ⟨rfl, hwx⟩; have hwx2 := hwx.symm; subst hwx2; clear hwx
  go_wp2_with fail
  refine RF.out.mono ?_
  rintro e wx ⟨rfl, hwx⟩; have hwx2 := hwx.symm; subst hwx2; clear hwx
  go_wp2_with fail
  refine wp_region_noPanic ?_
  refine wp_region_held_drew (S := fun w' => w'.cell? ⟨f, 1, none⟩ = some (.map (some m)) ∧ w'.cell? ⟨w.heap.size + 1, 0, none⟩ = some (.string sI) ∧ (Instr.lookup 64 (.map (some m)) (.string sI) false).run Try.prog w' = .ok (.pointer (some ⟨X.b, 0, none⟩)) w') (by kernel_rfl) ⟨c1, cn2, lk _ rfl⟩ (fun hH => ?_)
  refine take_at (i := 0) (v := .pointer (some ⟨f, 0, none⟩)) rfl rfl (by kernel_rfl) (by kernel_rfl) (by kernel_rfl) (fun _ _ _ h => h) (Or.inl ⟨by rfl, ?_⟩) hH ?_
  · intro v hv; obtain ⟨hv1, hv2, hv3⟩ := hv; go_simp
  simp only [List.setIfInBounds_toArray, List.set_cons_zero, List.set_cons_succ]
  refine take_at (i := 1) (v := .pointer (some ⟨f, 0, none⟩)) rfl rfl (by kernel_rfl) (by kernel_rfl) (by kernel_rfl) (fun _ _ _ h => h) (Or.inl ⟨by rfl, ?_⟩) hH ?_
  · intro v hv; obtain ⟨hv1, hv2, hv3⟩ := hv; go_simp
  simp only [List.setIfInBounds_toArray, List.set_cons_zero, List.set_cons_succ]
  refine take_at (i := 2) (v := .pointer (some ⟨f, 1, none⟩)) rfl rfl (by kernel_rfl) (by kernel_rfl) (by kernel_rfl) (fun _ _ _ h => h) (Or.inl ⟨by rfl, ?_⟩) hH ?_
  · intro v hv; obtain ⟨hv1, hv2, hv3⟩ := hv; go_simp
  simp only [List.setIfInBounds_toArray, List.set_cons_zero, List.set_cons_succ]
  refine take_at (i := 3) (v := .map (some m)) rfl rfl (by kernel_rfl) (by kernel_rfl) (by kernel_rfl) (fun _ _ _ h => h) (Or.inl ⟨by rfl, ?_⟩) hH ?_
  · intro v hv; obtain ⟨hv1, hv2, hv3⟩ := hv; go_simp
  simp only [List.setIfInBounds_toArray, List.set_cons_zero, List.set_cons_succ]
  refine take_at (i := 4) (v := .string sI) rfl rfl (by kernel_rfl) (by kernel_rfl) (by kernel_rfl) (fun _ _ _ h => h) (Or.inl ⟨by rfl, ?_⟩) hH ?_
  · intro v hv; obtain ⟨hv1, hv2, hv3⟩ := hv; go_simp
  simp only [List.setIfInBounds_toArray, List.set_cons_zero, List.set_cons_succ]
  refine take_at (i := 5) (v := .pointer (some ⟨X.b, 0, none⟩)) rfl rfl (by kernel_rfl) (by kernel_rfl) (by kernel_rfl) (fun _ _ _ h => h) (Or.inl ⟨by rfl, ?_⟩) hH ?_
  · intro v hv; obtain ⟨hv1, hv2, hv3⟩ := hv; go_simp
  simp only [List.setIfInBounds_toArray, List.set_cons_zero, List.set_cons_succ]
  refine wpAnyH_ready (rs := [6]) (by kernel_rfl) (by simp) ?_
  refine AllReadyH.cons rfl (fun K hK => ?_) AllReadyH.nil
  go_simp
  have hmlt := World.ownsMap.lt D0.out.mp
  have gA : ∀ u : Value, w0.grownBy (w0.alloc (.cells #[u] 68)).drew none := fun u => by
    have h := World.grownBy_alloc w0 (.cells #[u] 68) none
    exact ⟨h.os, h.tape, h.output, h.size, h.block⟩
  have hS : ∀ u : Value, (fun w' : World => w'.cell? ⟨f, 1, none⟩ = some (.map (some m)) ∧ w'.cell? ⟨w.heap.size + 1, 0, none⟩ = some (.string sI) ∧ (Instr.lookup 64 (.map (some m)) (.string sI) false).run Try.prog w' = .ok (.pointer (some ⟨X.b, 0, none⟩)) w') (w0.alloc (.cells #[u] 68)).drew := fun u => ⟨(gA u).cell c1 (by simp), (gA u).cell cn2 (by simp), lk _ ((gA u).block m hmlt (by simp))⟩
  refine hK.out _ _ (hS _) (fun _ => ?_)
  clear hK K hH
  refine wpAnyH_ready (rs := [7]) (by kernel_rfl) (by simp) ?_
  refine AllReadyH.cons rfl (fun K hK => ?_) AllReadyH.nil
  go_simp
  refine hK.out _ _ (hS _) (fun _ => ?_)
  clear hK K
  refine wpAnyH_done (by kernel_rfl) ?_ _
  refine NoPanic.normal ?_
  have D2 : Disk (w0.alloc (.cells #[.pointer (some ⟨X.b, 0, none⟩)] 68)).drew base f q m [(nI, X), (nN, Y)] us := D0.out.kept (gA _)
  have hcl : (w0.alloc (.cells #[.pointer (some ⟨X.b, 0, none⟩)] 68)).drew.heap[w0.heap.size]? = some (.cells #[.pointer (some ⟨X.b, 0, none⟩)] 68 (0, 0)) := heap_alloc_new _ _
  have hcf2 : (w0.alloc (.cells #[.pointer (some ⟨X.b, 0, none⟩)] 68)).drew.heap[w.heap.size]? = some (.cells #[.string sN] 9 (0, 0)) := ((gA _).block _ (lt_of_heap hcf) (by simp)).trans hcf
  have hct2 : (w0.alloc (.cells #[.pointer (some ⟨X.b, 0, none⟩)] 68)).drew.heap[w.heap.size + 1]? = some (.cells #[.string sI] 9 (0, 0)) := ((gA _).block _ (lt_of_heap hct) (by simp)).trans hct
  have B2 : Below base w (w0.alloc (.cells #[.pointer (some ⟨X.b, 0, none⟩)] 68)).drew := below_drewN (B0.alloc D0.out.bs _) 1
  have F2 : FsAt (w0.alloc (.cells #[.pointer (some ⟨X.b, 0, none⟩)] 68)).drew f q (some m) ov 0 := FsAt.kept h1 (gA _) (by simp)
  have R2 : (w0.alloc (.cells #[.pointer (some ⟨X.b, 0, none⟩)] 68)).drew.ownsRow base 72 1 ov us.length (us.map Un.val) := World.ownsRow.kept h2 (gA _) (by cases ov.ownBlock <;> simp)
  have hclb : base ≤ w0.heap.size := D0.out.bs
  generalize (w0.alloc (.cells #[.pointer (some ⟨X.b, 0, none⟩)] 68)).drew = w2 at *
  clear hS gA lk NM RF c0 c1 c2 c3 cf cn1 cn2 h1 h2 hcf hct B0 D0 hmlt
  obtain ⟨c0, c1, c2, c3, cf⟩ := F2.c
  have cn1 : w2.cell? ⟨w.heap.size, 0, none⟩ = some (.string sN) := (cell_of_block hcf2 0).trans rfl
  obtain ⟨es, ck, hmk⟩ := D2.mp.kind
  have nm : ∀ {b : Nat} {cs : Array Value} {t : TypeId} {fr : Nat × Nat}, w2.heap[b]? = some (.cells cs t fr) → ¬ b = m := fun h e => by rw [e, hmk] at h; cases h
  obtain ⟨w3, hrun3, hown3, hturn3⟩ := World.ownsMap.drop (w := w2.drew) (key := .string sN) D2.mp keyS mapT (WideMaps.keyOf_string_mk strT (by decide)) 0
  have hrun3b : ∀ ty, (Builtin.delete_ #[64, 9] ty #[.map (some m), .string sN]).run Try.prog w2.drew = .ok (.tuple #[]) w3 := fun ty => hrun3
  have e3 : (DataW.map ([(nI, X), (nN, Y)].map ent)).del (.string sN.data.toList) = .map ([(nI, X)].map ent) := rfl
  rw [e3] at hown3
  have g3 := hturn3.grown
  have c23 : Chg (fun i => i = m) w2 w3 := ⟨g3.os, g3.tape, g3.output, g3.size, fun k hk hn => g3.block k hk (fun e => by cases e; exact hn rfl)⟩
  have F3 := c23.at_ F2 (nm F2)
  have hcf3 := c23.at_ hcf2 (nm hcf2)
  have hct3 := c23.at_ hct2 (nm hct2)
  obtain ⟨w4, hrun4, hown4, hturn4⟩ := World.ownsMap.store (w := w3.drew) (key := .string sI) (val := .pointer (some ⟨Y.b, 0, none⟩)) hown3 keyS mapT (by simp; unfold maxLen; omega) (WideMaps.keyOf_string_mk strT (by decide)) (ptrR_mk Y.b)
  have e4 : (DataW.map ([(nI, X)].map ent)).put (.string sI.data.toList) (.lit (.int .i64 (Y.b : Int))) = .map ([(nI, Y)].map ent) := rfl
  rw [e4] at hown4
  have g4 := hturn4.grown
  have c24 : Chg (fun i => i = m) w2 w4 := c23.trans ⟨g4.os, g4.tape, g4.output, g4.size, fun k hk hn => g4.block k hk (fun e => by cases e; exact hn rfl)⟩
  obtain ⟨d0, d1, d2, d3, df⟩ := FsAt.c F3
  have dn1 : w3.cell? ⟨w.heap.size, 0, none⟩ = some (.string sN) := (cell_of_block hcf3 0).trans rfl
  have dn2 : w3.cell? ⟨w.heap.size + 1, 0, none⟩ = some (.string sI) := (cell_of_block hct3 0).trans rfl
  have F4 : FsAt w4 f q (some m) ov 0 := c24.at_ F2 (nm F2)
  have R4 : w4.ownsRow base 72 1 ov us.length (us.map Un.val) := c24.row R2 (fun g hg e => by obtain ⟨cs, hk⟩ := own_kind R2 g hg; exact nm hk e)
  have hct4 := c24.at_ hct2 (nm hct2)
  obtain ⟨k0, k1, k2, k3, kf⟩ := FsAt.c F4
  have kn2 : w4.cell? ⟨w.heap.size + 1, 0, none⟩ = some (.string sI) := (cell_of_block hct4 0).trans rfl
  go_wp2_with fail
  refine wp_region_noPanic ?_
  refine wp_region_held_drew (S := fun w' => w'.cell? ⟨f, 1, none⟩ = some (.map (some m)) ∧ w'.cell? ⟨w.heap.size, 0, none⟩ = some (.string sN)) (by kernel_rfl) ⟨c1, cn1⟩ (fun hH => ?_)
  refine take_at (i := 0) (v := .pointer (some ⟨f, 0, none⟩)) rfl rfl (by kernel_rfl) (by kernel_rfl) (by kernel_rfl) (fun _ _ _ h => h) (Or.inl ⟨by rfl, ?_⟩) hH ?_
  · intro v hv; obtain ⟨hv1, hv2⟩ := hv; go_simp
  simp only [List.setIfInBounds_toArray, List.set_cons_zero, List.set_cons_succ]
  refine take_at (i := 1) (v := .pointer (some ⟨f, 0, none⟩)) rfl rfl (by kernel_rfl) (by kernel_rfl) (by kernel_rfl) (fun _ _ _ h => h) (Or.inl ⟨by rfl, ?_⟩) hH ?_
  · intro v hv; obtain ⟨hv1, hv2⟩ := hv; go_simp
  simp only [List.setIfInBounds_toArray, List.set_cons_zero, List.set_cons_succ]
  refine take_at (i := 2) (v := .pointer (some ⟨f, 1, none⟩)) rfl rfl (by kernel_rfl) (by kernel_rfl) (by kernel_rfl) (fun _ _ _ h => h) (Or.inl ⟨by rfl, ?_⟩) hH ?_
  · intro v hv; obtain ⟨hv1, hv2⟩ := hv; go_simp
  simp only [List.setIfInBounds_toArray, List.set_cons_zero, List.set_cons_succ]
  refine take_at (i := 3) (v := .map (some m)) rfl rfl (by kernel_rfl) (by kernel_rfl) (by kernel_rfl) (fun _ _ _ h => h) (Or.inl ⟨by rfl, ?_⟩) hH ?_
  · intro v hv; obtain ⟨hv1, hv2⟩ := hv; go_simp
  simp only [List.setIfInBounds_toArray, List.set_cons_zero, List.set_cons_succ]
  refine take_at (i := 4) (v := .string sN) rfl rfl (by kernel_rfl) (by kernel_rfl) (by kernel_rfl) (fun _ _ _ h => h) (Or.inl ⟨by rfl, ?_⟩) hH ?_
  · intro v hv; obtain ⟨hv1, hv2⟩ := hv; go_simp
  simp only [List.setIfInBounds_toArray, List.set_cons_zero, List.set_cons_succ]
  refine wpAnyH_ready (rs := [5]) (by kernel_rfl) (by simp) ?_
  refine AllReadyH.cons rfl (fun K hK => ?_) AllReadyH.nil
  go_simp
  refine hK.out _ _ ⟨d1, dn1⟩ (fun _ => ?_)
  clear hK K hH
  refine wpAnyH_done (by kernel_rfl) ?_ _
  refine NoPanic.normal ?_
  go_wp2_with fail
  refine wp_region_noPanic ?_
  refine wp_region_held_drew (S := fun w' => w'.cell? ⟨f, 1, none⟩ = some (.map (some m)) ∧ w'.cell? ⟨w.heap.size + 1, 0, none⟩ = some (.string sI)) (by kernel_rfl) ⟨d1, dn2⟩ (fun hH => ?_)
  refine take_at (i := 0) (v := .pointer (some ⟨f, 0, none⟩)) rfl rfl (by kernel_rfl) (by kernel_rfl) (by kernel_rfl) (fun _ _ _ h => h) (Or.inl ⟨by rfl, ?_⟩) hH ?_
  · intro v hv; obtain ⟨hv1, hv2⟩ := hv; go_simp
  simp only [List.setIfInBounds_toArray, List.set_cons_zero, List.set_cons_succ]
  refine take_at (i := 1) (v := .pointer (some ⟨f, 0, none⟩)) rfl rfl (by kernel_rfl) (by kernel_rfl) (by kernel_rfl) (fun _ _ _ h => h) (Or.inl ⟨by rfl, ?_⟩) hH ?_
  · intro v hv; obtain ⟨hv1, hv2⟩ := hv; go_simp
  simp only [List.setIfInBounds_toArray, List.set_cons_zero, List.set_cons_succ]
  refine take_at (i := 2) (v := .pointer (some ⟨f, 1, none⟩)) rfl rfl (by kernel_rfl) (by kernel_rfl) (by kernel_rfl) (fun _ _ _ h => h) (Or.inl ⟨by rfl, ?_⟩) hH ?_
  · intro v hv; obtain ⟨hv1, hv2⟩ := hv; go_simp
  simp only [List.setIfInBounds_toArray, List.set_cons_zero, List.set_cons_succ]
  refine take_at (i := 3) (v := .map (some m)) rfl rfl (by kernel_rfl) (by kernel_rfl) (by kernel_rfl) (fun _ _ _ h => h) (Or.inl ⟨by rfl, ?_⟩) hH ?_
  · intro v hv; obtain ⟨hv1, hv2⟩ := hv; go_simp
  simp only [List.setIfInBounds_toArray, List.set_cons_zero, List.set_cons_succ]
  refine take_at (i := 4) (v := .string sI) rfl rfl (by kernel_rfl) (by kernel_rfl) (by kernel_rfl) (fun _ _ _ h => h) (Or.inl ⟨by rfl, ?_⟩) hH ?_
  · intro v hv; obtain ⟨hv1, hv2⟩ := hv; go_simp
  simp only [List.setIfInBounds_toArray, List.set_cons_zero, List.set_cons_succ]
  refine take_at (i := 5) (v := .pointer (some ⟨Y.b, 0, none⟩)) rfl rfl (by kernel_rfl) (by kernel_rfl) (by kernel_rfl) (fun _ _ _ h => h) (Or.inl ⟨by rfl, ?_⟩) hH ?_
  · intro v hv; obtain ⟨hv1, hv2⟩ := hv; go_simp
  simp only [List.setIfInBounds_toArray, List.set_cons_zero, List.set_cons_succ]
  refine wpAnyH_ready (rs := [6]) (by kernel_rfl) (by simp) ?_
  refine AllReadyH.cons rfl (fun K hK => ?_) AllReadyH.nil
  go_simp
  refine hK.out _ _ ⟨k1, kn2⟩ (fun _ => ?_)
  clear hK K hH
  refine wpAnyH_done (by kernel_rfl) ?_ _
  refine NoPanic.normal ?_
  obtain ⟨Po, Co, rfl⟩ := row_form R4
  have B4 : Below base w2 w4 := c24.below D2.bs (fun i e => by subst e; exact D2.mge)
  have L4 : Fls w4 base ([(nI, Y)].map (·.2) ++ (us ++ [Un.rn (w.heap.size + 1) w.heap.size w0.heap.size sI sN X]).flatMap Un.lost) := by
    have h0 := c24.files D2.fl (fun r e => by subst e; exact other_map hmk)
    have e0 : [(nI, X), (nN, Y)].map (·.2) ++ us.flatMap Un.lost = X :: Y :: us.flatMap Un.lost := rfl
    have e1 : [(nI, Y)].map (·.2) ++ (us ++ [Un.rn (w.heap.size + 1) w.heap.size w0.heap.size sI sN X]).flatMap Un.lost = Y :: (us.flatMap Un.lost ++ [X]) := by simp [Un.lost, Un.rn]
    rw [e1]
    rw [e0] at h0
    exact h0.perm ((List.Perm.swap Y X _).trans (List.Perm.cons Y (List.perm_append_singleton X _).symm))
  have M4 : Mp w4 m [(nI, Y)] := own_tight hown4
  have U4 : ∀ u ∈ us ++ [Un.rn (w.heap.size + 1) w.heap.size w0.heap.size sI sN X], Un.ok w4 base u := fun u hu => by
    rw [List.mem_append] at hu
    rcases hu with hu | hu
    · exact c24.un (D2.un u hu) (fun r e => by subst e; exact plainB_map hmk)
    · rw [List.mem_singleton] at hu; subst hu
      exact ⟨Nat.le_trans hcb (Nat.le_succ _), hcb, hclb, hct4, c24.at_ hcf2 (nm hcf2), c24.at_ hcl (nm hcl)⟩
  have B13 := B2.trans B4
  have bs4 : base ≤ w4.heap.size := Nat.le_trans D2.bs B4.size
  have fge := D2.fge
  have mge := D2.mge
  clear hturn3 hrun3 hrun3b hown3 hturn4 hrun4 hown4 D2 g3 g4 c23 c24 hmk nm F2 F3 R2 hcl hcf2 hct2 hcf3 hct3 hct4 c0 c1 c2 c3 cf cn1 d0 d1 d2 d3 df dn1 dn2 k0 k1 k3 kn2
  go_wp2_with (at_builtin; refine app_f rfl (.tmp 48) (.tmp 50) rfl base _ (Un.val (Un.rn (w.heap.size + 1) w.heap.size w0.heap.size sI sN X)) us.length _ rfl R4 rfl rfl (by omega) bs4 ?_; intro P5 C5 w5 h5 hc5 hl5; have F5 := hc5.at_ F4 (fun e => by obtain ⟨cs, hk⟩ := own_kind R4 _ e; unfold FsAt at F4; rw [F4] at hk; simp at hk); obtain ⟨k0, k1, k2, k3, kf⟩ := FsAt.c F5)
  go_ret
  have := opened F4 R4 M4 L4 U4 fge mge bs4 h5 hc5
  exact ⟨rfl, w.heap.size + 1, w.heap.size, w0.heap.size, this.1, B13.trans this.2⟩
end Go.Proofs.Ytdiehlioemmakaa
namespace Go.Proofs.Ytdiehlioemmakaa
open Go.RowKit Go.Maps Go.Joins

set_option maxHeartbeats 8000000 in
set_option maxRecDepth 1000000 in
theorem undoR (base f m ct cf cl : Nat) (q : Int) (X Y : Fl) (us : List Un) (w : World) (d : Disk w base f q m [(nI, Y)] us) (hu : Un.rn ct cf cl sI sN X ∈ us) :
    Calls Try.prog 71 #[.map (some m), .pointer (some ⟨ct, 0, none⟩), .pointer (some ⟨cf, 0, none⟩), .pointer (some ⟨cl, 0, none⟩)] w fun e w' => e = .returned (.tuple #[]) ∧ (∃ b v, Disk w' base f q m [(nI, ⟨b, v, X.l, X.k⟩), (nN, Y)] us) ∧ Chg (fun i => i = m) w w' := by
  obtain ⟨u1, u2, u3, u4, u5, u6⟩ := d.un _ hu
  have ct0 : w.cell? ⟨ct, 0, none⟩ = some (.string sI) := (cell_of_block u4 0).trans rfl
  have cf0 : w.cell? ⟨cf, 0, none⟩ = some (.string sN) := (cell_of_block u5 0).trans rfl
  have cl0 : w.cell? ⟨cl, 0, none⟩ = some (.pointer (some ⟨X.b, 0, none⟩)) := (cell_of_block u6 0).trans rfl
  have hXl : X ∈ [(nI, Y)].map (·.2) ++ us.flatMap Un.lost := by
    rw [List.mem_append, List.mem_flatMap]
    exact Or.inr ⟨_, hu, List.mem_singleton.2 rfl⟩
  obtain ⟨es, ck, hmk⟩ := d.mp.kind
  have nm : ∀ {b : Nat} {cs : Array Value} {t : TypeId} {fr : Nat × Nat}, w.heap[b]? = some (.cells cs t fr) → ¬ b = m := fun h e => by rw [e, hmk] at h; cases h
  have lk : (Instr.lookup 64 (.map (some m)) (.string sI) false).run Try.prog w = .ok (.pointer (some ⟨Y.b, 0, none⟩)) w := by
    obtain ⟨v, ps, hrun, hR⟩ := World.ownsMap.lookup (key := .string sI) d.mp keyS mapT (zeroP _) (zd := .nil) (zp := []) rfl (WideMaps.keyOf_string_mk strT (by decide))
    have e : (DataW.map ([(nI, Y)].map ent)).atKey (.string sI.data.toList) .nil = .lit (.int .i64 (Y.b : Int)) := rfl
    rw [e] at hR
    rcases ptrR_inv hR with ⟨_, e⟩ | ⟨b', rfl, e⟩
    · cases e
    · cases e; exact hrun
  obtain ⟨w1, hrun1, hown1, hturn1⟩ := World.ownsMap.store (key := .string sN) (val := .pointer (some ⟨Y.b, 0, none⟩)) d.mp keyS mapT (by simp; unfold maxLen; omega) (WideMaps.keyOf_string_mk strT (by decide)) (ptrR_mk Y.b)
  have e1 : (DataW.map ([(nI, Y)].map ent)).put (.string sN.data.toList) (.lit (.int .i64 (Y.b : Int))) = .map ([(nI, Y), (nN, Y)].map ent) := rfl
  rw [e1] at hown1
  have c01 : Chg (fun i => i = m) w w1 := (Chg.of_grown hturn1.grown).mono (fun i _ e => by cases e; rfl)
  have ct1 : w1.cell? ⟨ct, 0, none⟩ = some (.string sI) := (cell_of_block (c01.at_ u4 (nm u4)) 0).trans rfl
  obtain ⟨w2, hrun2, hown2, hturn2⟩ := World.ownsMap.drop (key := .string sI) hown1 keyS mapT (WideMaps.keyOf_string_mk strT (by decide)) 0
  have hrun2b : ∀ ty, (Builtin.delete_ #[64, 9] ty #[.map (some m), .string sI]).run Try.prog w1 = .ok (.tuple #[]) w2 := fun ty => hrun2
  have e2 : (DataW.map ([(nI, Y), (nN, Y)].map ent)).del (.string sI.data.toList) = .map ([(nN, Y)].map ent) := rfl
  rw [e2] at hown2
  have c02 : Chg (fun i => i = m) w w2 := c01.trans ((Chg.of_grown hturn2.grown).mono (fun i _ e => by cases e; rfl))
  have ct2 : w2.cell? ⟨ct, 0, none⟩ = some (.string sI) := (cell_of_block (c02.at_ u4 (nm u4)) 0).trans rfl
  have cl2 : w2.cell? ⟨cl, 0, none⟩ = some (.pointer (some ⟨X.b, 0, none⟩)) := (cell_of_block (c02.at_ u6 (nm u6)) 0).trans rfl
  have L2 : Fls w2 base ([(nI, Y)].map (·.2) ++ us.flatMap Un.lost) := c02.files d.fl (fun r e => by subst e; exact other_map hmk)
  have hb2 : base ≤ w2.heap.size := Nat.le_trans d.bs c02.size
  have GB : Hid (Calls Try.prog 72 #[.map (some m), .string sI, .pointer (some ⟨X.b, 0, none⟩)] w2 fun e w' => ∃ (b : Nat) (v : Value), e = .returned (.tuple #[]) ∧ w2.heap.size ≤ b ∧ FlOk w' base ⟨b, v, X.l, X.k⟩ ∧ (∀ g, v.ownBlock = some g → w2.heap.size ≤ g) ∧ w'.ownsMap Try.prog 9 ptrR m (2 + 1) ((DataW.map ([(nN, Y)].map ent)).put (.string sI.data.toList) (.lit (.int .i64 (b : Int)))) ∧ Chg (fun i => i = m) w2 w') := giveBack_ok base m 2 sI X (.map ([(nN, Y)].map ent)) w2 okI (hown2.mono (by simp)) (by omega) d.mge (L2.ok X hXl) hb2
  obtain ⟨ov, h1, h2⟩ := d.fs
  have F2 : FsAt w2 f q (some m) ov 0 := c02.at_ h1 (nm h1)
  have R2 : w2.ownsRow base 72 1 ov us.length (us.map Un.val) := c02.row h2 (fun g hg e => by obtain ⟨cs, hk⟩ := own_kind h2 g hg; exact nm hk e)
  have U2 : ∀ u ∈ us, Un.ok w2 base u := fun u hu => c02.un (d.un u hu) (fun r e => by subst e; exact plainB_map hmk)
  have fge := d.fge
  have mge := d.mge
  obtain ⟨es2, ck2, hmk2, _⟩ := id hown2
  clear hturn1 hturn2 hown1 hown2 c01 hmk nm h1 h2 d u1 u2 u3 u4 u5 u6 hrun2 hXl hu
  go_enter Try.func71, Try.ntmps71
  go_wp2_with fail
  refine GB.out.mono ?_
  rintro e w3 ⟨b, v, rfl, hbb, okX', hv, hown3, c23⟩
  go_wp2_with fail
  go_end0
  have nm : ∀ {b : Nat} {cs : Array Value} {t : TypeId} {fr : Nat × Nat}, w2.heap[b]? = some (.cells cs t fr) → ¬ b = m := fun h e => by rw [e, hmk2] at h; cases h
  refine ⟨rfl, ⟨b, v, ⟨Nat.le_trans hb2 c23.size, fge, mge, ⟨ov, c23.at_ F2 (nm F2), c23.row R2 (fun g hg e => by obtain ⟨cs, hk⟩ := own_kind R2 g hg; exact nm hk e)⟩, own_tight hown3, ?_, fun u hu => c23.un (U2 u hu) (fun r e => by subst e; exact plainB_map hmk2)⟩⟩, c02.trans c23⟩
  have h0 := c23.files L2 (fun r e => by subst e; exact other_map hmk2)
  have h0' : Fls w3 base ([] ++ (Y :: us.flatMap Un.lost)) := h0
  refine Fls.add (w := w3) (A := []) h0' okX' (fun x hx e => ?_) (fun x hx g hg e => ?_) rfl
  · have := lt_of_heap (L2.ok x hx).at_
    have e : x.b = b := e
    omega
  · obtain ⟨cs, hk⟩ := own_kind (L2.ok x hx).row g hg
    have := lt_of_heap hk
    have := hv g e
    omega
end Go.Proofs.Ytdiehlioemmakaa
namespace Go.Proofs.Ytdiehlioemmakaa
open Go.RowKit Go.Maps Go.Joins

/-- the call of a closure that takes a change back -/
def callU (m : Nat) (w : World) (R : Ending → World → Prop) (u : Un) : Prop :=
  match u.r with
  | none => Calls Try.prog 63 #[.map (some m), .pointer (some ⟨u.c, 0, none⟩)] w R
  | some y => Calls Try.prog 71 #[.map (some m), .pointer (some ⟨u.c, 0, none⟩), .pointer (some ⟨y.1, 0, none⟩), .pointer (some ⟨y.2.1, 0, none⟩)] w R
theorem Disk.drewN {w : World} {base f m : Nat} {q : Int} {xs : List (List UInt8 × Fl)} {us : List Un} (h : Disk w base f q m xs us) (n : Nat) : Disk (w.drewN n) base f q m xs us := h.kept ⟨rfl, rfl, rfl, Nat.le_refl _, fun _ _ _ => rfl⟩

/-- below base nothing has changed, and no block of numbers anywhere -/
def Kp (base : Nat) (w w' : World) : Prop := Below base w w' ∧ ∀ (g : Nat) (cs : Array Value) (fr : Nat × Nat), w.heap[g]? = some (.cells cs 3 fr) → w'.heap[g]? = some (.cells cs 3 fr)
theorem Kp.refl (base : Nat) (w : World) : Kp base w w := ⟨Below.refl _ _, fun _ _ _ h => h⟩
theorem Kp.trans {base : Nat} {a b c : World} (h : Kp base a b) (k : Kp base b c) : Kp base a c := ⟨h.1.trans k.1, fun g cs fr hg => k.2 g cs fr (h.2 g cs fr hg)⟩
theorem Kp.drewN {base : Nat} {a b : World} (h : Kp base a b) (n : Nat) : Kp base a (b.drewN n) := ⟨below_drewN h.1 n, h.2⟩
theorem Kp.of_chg {base : Nat} {S : Nat → Prop} {w w' : World} (h : Chg S w w') (hb : base ≤ w.heap.size) (hs : ∀ i, S i → base ≤ i) (hk : ∀ i, S i → ∀ cs fr, w.heap[i]? ≠ some (.cells cs 3 fr)) : Kp base w w' :=
  ⟨h.below hb hs, fun g cs fr hg => h.at_ hg (fun e => hk g e cs fr hg)⟩
theorem cellC {S : Nat → Prop} {w w' : World} {b o : Nat} {x : Value} (h : Chg S w w') (hc : w.cell? ⟨b, o, none⟩ = some x) (hn : ¬ S b) : w'.cell? ⟨b, o, none⟩ = some x :=
  (World.cell?_of_block (h.block b (World.block_lt_of_cell? w ⟨b, o, none⟩ hc) hn)).trans hc

set_option maxHeartbeats 8000000 in
set_option maxRecDepth 1000000 in
theorem loseNames_ok (base f m : Nat) (q names : Int) (us : List Un) (St : Nat → List (List UInt8 × Fl) → Prop) (xs : List (List UInt8 × Fl)) (w : World) (hn : -9223372036854775808 ≤ names ∧ names ≤ 9223372036854775807) (hus : us.length ≤ 1000)
    (hstep : ∀ j u xs w, us[j]? = some u → Disk w base f q m xs us → St (j + 1) xs → callU m w (fun e w' => e = .returned (.tuple #[]) ∧ (∃ xs', Disk w' base f q m xs' us ∧ St j xs') ∧ Chg (fun i => i = m) w w') u)
    (h0 : St us.length xs) (d : Disk w base f q m xs us) :
    Calls Try.prog 54 #[.pointer (some ⟨f, 0, none⟩), .int .i64 names] w fun e w' => e = .returned (.tuple #[]) ∧ (∃ xs', Disk w' base f q m xs' [] ∧ St (kp names us.length) xs') ∧ Kp base w w' := by
  obtain ⟨k, hk⟩ : ∃ k, k = kp names us.length := ⟨_, rfl⟩
  have hkl : k ≤ us.length := by rw [hk]; unfold kp; have := Nat.mod_lt (max 0 names).toNat (show 0 < us.length + 1 by omega); omega
  have KP : Hid (∀ w, Calls Try.prog 74 #[.int .i64 names, .int .i64 (us.length : Int)] w fun e w' => e = .returned (.int .i64 (k : Int)) ∧ w' = w) := fun w => hk ▸ kept_any names us.length w hn (by omega)
  rw [← hk]
  clear hk hn
  have HS : Hid (∀ j u xs w, us[j]? = some u → Disk w base f q m xs us → St (j + 1) xs → callU m w (fun e w' => e = .returned (.tuple #[]) ∧ (∃ xs', Disk w' base f q m xs' us ∧ St j xs') ∧ Chg (fun i => i = m) w w') u) := hstep
  have H0 : Hid (St us.length xs) := h0
  have D : Hid (Disk w base f q m xs us) := d
  obtain ⟨ov, h1, h2⟩ := d.fs
  obtain ⟨Po, Co, rfl⟩ := row_form h2
  obtain ⟨c0, c1, c2, c3, cf⟩ := h1.c
  clear hstep h0 d h1 h2 c0 c1 c3
  go_enter Try.func54, Try.ntmps54
  go_wp2_with fail
  go_loopw [4] (fun s4 wr => ∃ (j : Nat) (xs' : List (List UInt8 × Fl)), s4 = .int .i64 ((j : Int) - 1) ∧ j ≤ us.length ∧ k ≤ j ∧ Hid (Disk wr base f q m xs' us) ∧ Hid (St j xs') ∧ Kp base w wr) (fun s4 _ => (intOf s4 + 1).toNat)
  case atStart => exact ⟨us.length, xs, by first | rfl | (congr 1; omega), Nat.le_refl _, hkl, D, H0, Kp.refl _ _⟩
  case round =>
    obtain ⟨j, ys, rfl, hj, hkj, DJ, SJ, BJ⟩ := hrel
    obtain ⟨ov, h1, h2⟩ := DJ.out.fs
    obtain ⟨Po, Co, rfl⟩ := row_form h2
    obtain ⟨c0, c1, c2, c3, cf⟩ := h1.c
    by_cases hgo : k < j
    · obtain ⟨i, rfl⟩ : ∃ i, j = i + 1 := ⟨j - 1, by omega⟩
      have ei : ((i + 1 : Nat) : Int) - 1 = (i : Int) := by omega
      rw [ei]
      have hki : (k : Int) ≤ (i : Int) := by omega
      obtain ⟨u, hu⟩ : ∃ u, us[i]? = some u := ⟨us[i], List.getElem?_eq_getElem (by omega)⟩
      have hil : (i : Int) < (us.length : Int) := by omega
      obtain ⟨g, hg⟩ : ∃ g, Po = some ⟨g, 0, none⟩ := by
        rcases h2.2 with ⟨e, h0⟩ | ⟨g, cap, cur, e, _⟩
        · exfalso; omega
        · cases e; exact ⟨g, rfl⟩
      subst hg
      have cu : wr.cell? ⟨g, i, none⟩ = some u.val := by
        rw [World.ownsRow.cellAt h2 i (by omega), List.getElem?_map, hu]; rfl
      have CU := HS.out i u ys wr.drew hu (DJ.out.drewN 1) SJ.out
      have bJ : base ≤ wr.heap.size := DJ.out.bs
      go_wp2_with fail
      refine (KP.out _).mono ?_
      rintro e wx ⟨rfl, hwx⟩; have hwx2 := hwx.symm; subst hwx2; clear hwx
      go_wp2_with fail
      have hmk := DJ.out.mp.kind
      have nmc : ∀ {b o : Nat} {x : Value}, wr.cell? ⟨b, o, none⟩ = some x → b ≠ m := fun h e => by
        obtain ⟨es, ck, hk⟩ := hmk
        subst e
        simp [World.cell?, hk] at h
      clear h1 h2 DJ SJ hu
      refine wp_region_noPanic ?_
      obtain ⟨c, n, rr⟩ := u
      cases rr with
      | none =>
        replace cu : wr.cell? ⟨g, i, none⟩ = some (.func (.func 63) #[] #[.pointer (some ⟨c, 0, none⟩)]) := cu
        have CU2 : Hid (Calls Try.prog 63 #[.map (some m), .pointer (some ⟨c, 0, none⟩)] wr.drew (fun e w' => e = .returned (.tuple #[]) ∧ (∃ xs', Disk w' base f q m xs' us ∧ St i xs') ∧ Chg (fun i => i = m) wr.drew w')) := CU
        clear CU
        refine wp_region_held_drew (S := fun w' => w'.cell? ⟨f, 2, none⟩ = some (.slice (some ⟨g, 0, none⟩) us.length Co) ∧ w'.cell? ⟨g, i, none⟩ = some (.func (.func 63) #[] #[.pointer (some ⟨c, 0, none⟩)]) ∧ w'.cell? ⟨f, 1, none⟩ = some (.map (some m))) (by kernel_rfl) ⟨c2, cu, c1⟩ (fun hH => ?_)
        refine take_at (i := 0) (v := .pointer (some ⟨f, 0, none⟩)) rfl rfl (by kernel_rfl) (by kernel_rfl) (by kernel_rfl) (fun _ _ _ h => h) (Or.inl ⟨by rfl, ?_⟩) hH ?_
        · intro v hv; obtain ⟨hv1, hv2, hv3⟩ := hv; go_simp
        simp only [List.setIfInBounds_toArray, List.set_cons_zero, List.set_cons_succ]
        refine take_at (i := 1) (v := .pointer (some ⟨f, 0, none⟩)) rfl rfl (by kernel_rfl) (by kernel_rfl) (by kernel_rfl) (fun _ _ _ h => h) (Or.inl ⟨by rfl, ?_⟩) hH ?_
        · intro v hv; obtain ⟨hv1, hv2, hv3⟩ := hv; go_simp
        simp only [List.setIfInBounds_toArray, List.set_cons_zero, List.set_cons_succ]
        refine take_at (i := 2) (v := .pointer (some ⟨f, 2, none⟩)) rfl rfl (by kernel_rfl) (by kernel_rfl) (by kernel_rfl) (fun _ _ _ h => h) (Or.inl ⟨by rfl, ?_⟩) hH ?_
        · intro v hv; obtain ⟨hv1, hv2, hv3⟩ := hv; go_simp
        simp only [List.setIfInBounds_toArray, List.set_cons_zero, List.set_cons_succ]
        refine take_at (i := 3) (v := .slice (some ⟨g, 0, none⟩) us.length Co) rfl rfl (by kernel_rfl) (by kernel_rfl) (by kernel_rfl) (fun _ _ _ h => h) (Or.inl ⟨by rfl, ?_⟩) hH ?_
        · intro v hv; obtain ⟨hv1, hv2, hv3⟩ := hv; go_simp
        simp only [List.setIfInBounds_toArray, List.set_cons_zero, List.set_cons_succ]
        refine take_at (i := 4) (v := .int .i64 (i : Int)) rfl rfl (by kernel_rfl) (by kernel_rfl) (by kernel_rfl) (fun _ _ _ h => h) (Or.inl ⟨by rfl, ?_⟩) hH ?_
        · intro v hv; obtain ⟨hv1, hv2, hv3⟩ := hv; go_simp
        simp only [List.setIfInBounds_toArray, List.set_cons_zero, List.set_cons_succ]
        refine take_at (i := 5) (v := .pointer (some ⟨g, i, none⟩)) rfl rfl (by kernel_rfl) (by kernel_rfl) (by kernel_rfl) (fun _ _ _ h => h) (Or.inl ⟨by rfl, ?_⟩) hH ?_
        · intro v hv; obtain ⟨hv1, hv2, hv3⟩ := hv; go_simp
        simp only [List.setIfInBounds_toArray, List.set_cons_zero, List.set_cons_succ]
        refine take_at (i := 6) (v := .func (.func 63) #[] #[.pointer (some ⟨c, 0, none⟩)]) rfl rfl (by kernel_rfl) (by kernel_rfl) (by kernel_rfl) (fun _ _ _ h => h) (Or.inl ⟨by rfl, ?_⟩) hH ?_
        · intro v hv; obtain ⟨hv1, hv2, hv3⟩ := hv; go_simp
        simp only [List.setIfInBounds_toArray, List.set_cons_zero, List.set_cons_succ]
        refine take_at (i := 7) (v := .pointer (some ⟨f, 0, none⟩)) rfl rfl (by kernel_rfl) (by kernel_rfl) (by kernel_rfl) (fun _ _ _ h => h) (Or.inl ⟨by rfl, ?_⟩) hH ?_
        · intro v hv; obtain ⟨hv1, hv2, hv3⟩ := hv; go_simp
        simp only [List.setIfInBounds_toArray, List.set_cons_zero, List.set_cons_succ]
        refine take_at (i := 8) (v := .pointer (some ⟨f, 0, none⟩)) rfl rfl (by kernel_rfl) (by kernel_rfl) (by kernel_rfl) (fun _ _ _ h => h) (Or.inl ⟨by rfl, ?_⟩) hH ?_
        · intro v hv; obtain ⟨hv1, hv2, hv3⟩ := hv; go_simp
        simp only [List.setIfInBounds_toArray, List.set_cons_zero, List.set_cons_succ]
        refine take_at (i := 9) (v := .pointer (some ⟨f, 1, none⟩)) rfl rfl (by kernel_rfl) (by kernel_rfl) (by kernel_rfl) (fun _ _ _ h => h) (Or.inl ⟨by rfl, ?_⟩) hH ?_
        · intro v hv; obtain ⟨hv1, hv2, hv3⟩ := hv; go_simp
        simp only [List.setIfInBounds_toArray, List.set_cons_zero, List.set_cons_succ]
        refine take_at (i := 10) (v := .map (some m)) rfl rfl (by kernel_rfl) (by kernel_rfl) (by kernel_rfl) (fun _ _ _ h => h) (Or.inl ⟨by rfl, ?_⟩) hH ?_
        · intro v hv; obtain ⟨hv1, hv2, hv3⟩ := hv; go_simp
        simp only [List.setIfInBounds_toArray, List.set_cons_zero, List.set_cons_succ]
        refine wpAnyH_ready (rs := [11]) (by kernel_rfl) (by simp) ?_
        refine AllReadyH.cons rfl (fun K hK => ?_) AllReadyH.nil
        go_simp
        go_at_call 63
        refine CU2.out.mono ?_
        rintro e w2 ⟨rfl, ⟨zs, DZ, SZ⟩, CZ⟩
        go_wp2_with fail
        have hH2 : (fun w' : World => w'.cell? ⟨f, 2, none⟩ = some (.slice (some ⟨g, 0, none⟩) us.length Co) ∧ w'.cell? ⟨g, i, none⟩ = some (.func (.func 63) #[] #[.pointer (some ⟨c, 0, none⟩)]) ∧ w'.cell? ⟨f, 1, none⟩ = some (.map (some m))) w2 := ⟨cellC CZ c2 (nmc c2), cellC CZ cu (nmc cu), cellC CZ c1 (nmc c1)⟩
        refine hK.out _ _ hH2 (fun _ => ?_)
        clear hK K hH hH2
        refine wpAnyH_done (by kernel_rfl) ?_ _
        refine NoPanic.normal ?_
        have BZ : Kp base wr w2 := ⟨⟨CZ.os, CZ.tape, CZ.output, CZ.size, fun k hk => CZ.block k (Nat.lt_of_lt_of_le hk bJ) (fun e => by have := DZ.mge; omega)⟩, fun g cs fr hg => CZ.at_ hg (fun e => by obtain ⟨es, ck, hk⟩ := hmk; subst e; rw [hk] at hg; cases hg)⟩
        go_wp2_with fail
        go_roundw
        case rel => exact ⟨i, zs, by first | rfl | (congr 1; omega), by omega, by omega, DZ, SZ, BJ.trans BZ⟩
        case measure => first | (simp [intOf]; done) | (simp [intOf]; omega)
      | some y =>
        obtain ⟨cf', cl, f', X⟩ := y
        obtain ⟨ct, hct⟩ : ∃ ct, ct = c := ⟨_, rfl⟩
        rw [← hct] at cu CU
        clear hct
        replace cu : wr.cell? ⟨g, i, none⟩ = some (.func (.func 71) #[] #[.pointer (some ⟨ct, 0, none⟩), .pointer (some ⟨cf', 0, none⟩), .pointer (some ⟨cl, 0, none⟩)]) := cu
        have CU2 : Hid (Calls Try.prog 71 #[.map (some m), .pointer (some ⟨ct, 0, none⟩), .pointer (some ⟨cf', 0, none⟩), .pointer (some ⟨cl, 0, none⟩)] wr.drew (fun e w' => e = .returned (.tuple #[]) ∧ (∃ xs', Disk w' base f q m xs' us ∧ St i xs') ∧ Chg (fun i => i = m) wr.drew w')) := CU
        clear CU
        refine wp_region_held_drew (S := fun w' => w'.cell? ⟨f, 2, none⟩ = some (.slice (some ⟨g, 0, none⟩) us.length Co) ∧ w'.cell? ⟨g, i, none⟩ = some (.func (.func 71) #[] #[.pointer (some ⟨ct, 0, none⟩), .pointer (some ⟨cf', 0, none⟩), .pointer (some ⟨cl, 0, none⟩)]) ∧ w'.cell? ⟨f, 1, none⟩ = some (.map (some m))) (by kernel_rfl) ⟨c2, cu, c1⟩ (fun hH => ?_)
        refine take_at (i := 0) (v := .pointer (some ⟨f, 0, none⟩)) rfl rfl (by kernel_rfl) (by kernel_rfl) (by kernel_rfl) (fun _ _ _ h => h) (Or.inl ⟨by rfl, ?_⟩) hH ?_
        · intro v hv; obtain ⟨hv1, hv2, hv3⟩ := hv; go_simp
        simp only [List.setIfInBounds_toArray, List.set_cons_zero, List.set_cons_succ]
        refine take_at (i := 1) (v := .pointer (some ⟨f, 0, none⟩)) rfl rfl (by kernel_rfl) (by kernel_rfl) (by kernel_rfl) (fun _ _ _ h => h) (Or.inl ⟨by rfl, ?_⟩) hH ?_
        · intro v hv; obtain ⟨hv1, hv2, hv3⟩ := hv; go_simp
        simp only [List.setIfInBounds_toArray, List.set_cons_zero, List.set_cons_succ]
        refine take_at (i := 2) (v := .pointer (some ⟨f, 2, none⟩)) rfl rfl (by kernel_rfl) (by kernel_rfl) (by kernel_rfl) (fun _ _ _ h => h) (Or.inl ⟨by rfl, ?_⟩) hH ?_
        · intro v hv; obtain ⟨hv1, hv2, hv3⟩ := hv; go_simp
        simp only [List.setIfInBounds_toArray, List.set_cons_zero, List.set_cons_succ]
        refine take_at (i := 3) (v := .slice (some ⟨g, 0, none⟩) us.length Co) rfl rfl (by kernel_rfl) (by kernel_rfl) (by kernel_rfl) (fun _ _ _ h => h) (Or.inl ⟨by rfl, ?_⟩) hH ?_
        · intro v hv; obtain ⟨hv1, hv2, hv3⟩ := hv; go_simp
        simp only [List.setIfInBounds_toArray, List.set_cons_zero, List.set_cons_succ]
        refine take_at (i := 4) (v := .int .i64 (i : Int)) rfl rfl (by kernel_rfl) (by kernel_rfl) (by kernel_rfl) (fun _ _ _ h => h) (Or.inl ⟨by rfl, ?_⟩) hH ?_
        · intro v hv; obtain ⟨hv1, hv2, hv3⟩ := hv; go_simp
        simp only [List.setIfInBounds_toArray, List.set_cons_zero, List.set_cons_succ]
        refine take_at (i := 5) (v := .pointer (some ⟨g, i, none⟩)) rfl rfl (by kernel_rfl) (by kernel_rfl) (by kernel_rfl) (fun _ _ _ h => h) (Or.inl ⟨by rfl, ?_⟩) hH ?_
        · intro v hv; obtain ⟨hv1, hv2, hv3⟩ := hv; go_simp
        simp only [List.setIfInBounds_toArray, List.set_cons_zero, List.set_cons_succ]
        refine take_at (i := 6) (v := .func (.func 71) #[] #[.pointer (some ⟨ct, 0, none⟩), .pointer (some ⟨cf', 0, none⟩), .pointer (some ⟨cl, 0, none⟩)]) rfl rfl (by kernel_rfl) (by kernel_rfl) (by kernel_rfl) (fun _ _ _ h => h) (Or.inl ⟨by rfl, ?_⟩) hH ?_
        · intro v hv; obtain ⟨hv1, hv2, hv3⟩ := hv; go_simp
        simp only [List.setIfInBounds_toArray, List.set_cons_zero, List.set_cons_succ]
        refine take_at (i := 7) (v := .pointer (some ⟨f, 0, none⟩)) rfl rfl (by kernel_rfl) (by kernel_rfl) (by kernel_rfl) (fun _ _ _ h => h) (Or.inl ⟨by rfl, ?_⟩) hH ?_
        · intro v hv; obtain ⟨hv1, hv2, hv3⟩ := hv; go_simp
        simp only [List.setIfInBounds_toArray, List.set_cons_zero, List.set_cons_succ]
        refine take_at (i := 8) (v := .pointer (some ⟨f, 0, none⟩)) rfl rfl (by kernel_rfl) (by kernel_rfl) (by kernel_rfl) (fun _ _ _ h => h) (Or.inl ⟨by rfl, ?_⟩) hH ?_
        · intro v hv; obtain ⟨hv1, hv2, hv3⟩ := hv; go_simp
        simp only [List.setIfInBounds_toArray, List.set_cons_zero, List.set_cons_succ]
        refine take_at (i := 9) (v := .pointer (some ⟨f, 1, none⟩)) rfl rfl (by kernel_rfl) (by kernel_rfl) (by kernel_rfl) (fun _ _ _ h => h) (Or.inl ⟨by rfl, ?_⟩) hH ?_
        · intro v hv; obtain ⟨hv1, hv2, hv3⟩ := hv; go_simp
        simp only [List.setIfInBounds_toArray, List.set_cons_zero, List.set_cons_succ]
        refine take_at (i := 10) (v := .map (some m)) rfl rfl (by kernel_rfl) (by kernel_rfl) (by kernel_rfl) (fun _ _ _ h => h) (Or.inl ⟨by rfl, ?_⟩) hH ?_
        · intro v hv; obtain ⟨hv1, hv2, hv3⟩ := hv; go_simp
        simp only [List.setIfInBounds_toArray, List.set_cons_zero, List.set_cons_succ]
        refine wpAnyH_ready (rs := [11]) (by kernel_rfl) (by simp) ?_
        refine AllReadyH.cons rfl (fun K hK => ?_) AllReadyH.nil
        go_simp
        go_at_call 71
        refine CU2.out.mono ?_
        rintro e w2 ⟨rfl, ⟨zs, DZ, SZ⟩, CZ⟩
        go_wp2_with fail
        have hH2 : (fun w' : World => w'.cell? ⟨f, 2, none⟩ = some (.slice (some ⟨g, 0, none⟩) us.length Co) ∧ w'.cell? ⟨g, i, none⟩ = some (.func (.func 71) #[] #[.pointer (some ⟨ct, 0, none⟩), .pointer (some ⟨cf', 0, none⟩), .pointer (some ⟨cl, 0, none⟩)]) ∧ w'.cell? ⟨f, 1, none⟩ = some (.map (some m))) w2 := ⟨cellC CZ c2 (nmc c2), cellC CZ cu (nmc cu), cellC CZ c1 (nmc c1)⟩
        refine hK.out _ _ hH2 (fun _ => ?_)
        clear hK K hH hH2
        refine wpAnyH_done (by kernel_rfl) ?_ _
        refine NoPanic.normal ?_
        have BZ : Kp base wr w2 := ⟨⟨CZ.os, CZ.tape, CZ.output, CZ.size, fun k hk => CZ.block k (Nat.lt_of_lt_of_le hk bJ) (fun e => by have := DZ.mge; omega)⟩, fun g cs fr hg => CZ.at_ hg (fun e => by obtain ⟨es, ck, hk⟩ := hmk; subst e; rw [hk] at hg; cases hg)⟩
        go_wp2_with fail
        go_roundw
        case rel => exact ⟨i, zs, by first | rfl | (congr 1; omega), by omega, by omega, DZ, SZ, BJ.trans BZ⟩
        case measure => first | (simp [intOf]; done) | (simp [intOf]; omega)
    · obtain rfl : k = j := by omega
      have hkn : ¬ (k : Int) ≤ (k : Int) - 1 := by omega
      have L : Hid (Disk (wr.setCell ⟨f, 2, none⟩ (.slice none 0 0)) base f q m ys [] ∧ Kp base wr (wr.setCell ⟨f, 2, none⟩ (.slice none 0 0))) := by
        have D := DJ.out
        have c5 := Chg.of_cell wr ⟨f, 2, none⟩ (.slice none 0 0)
        have kf : ∀ i, i = f → ∃ cs, wr.heap[i]? = some (.cells cs 67 (0, 0)) := fun i e => by subst e; exact ⟨_, h1⟩
        refine ⟨⟨Nat.le_trans D.bs c5.size, D.fge, D.mge, ⟨.slice none 0 0, (block_setCell h1 _).trans rfl, World.ownsRow_nil _ _ _ _⟩, c5.map D.mp (fun e => ?_), ?_, fun u hu => by simp at hu⟩, Kp.of_chg c5 D.bs (fun i e => by subst e; exact D.fge) (fun i e cs fr h => by obtain ⟨cs', hk⟩ := kf i e; rw [hk] at h; simp at h)⟩
        · obtain ⟨cs, hk⟩ := kf _ e
          obtain ⟨es, c, hk'⟩ := D.mp.kind
          rw [hk'] at hk; cases hk
        · refine (c5.files D.fl (fun r e => ?_)).sub ?_
          · obtain ⟨cs, hk⟩ := kf _ e
            exact other_cells hk (by decide) (by decide)
          · simp
      clear h1 h2 DJ
      go_wp2_with fail
      refine (KP.out _).mono ?_
      rintro e wx ⟨rfl, hwx⟩; have hwx2 := hwx.symm; subst hwx2; clear hwx
      go_wp2_with fail
      go_end0
      exact ⟨rfl, ⟨ys, L.out.1, SJ.out⟩, BJ.trans L.out.2⟩
end Go.Proofs.Ytdiehlioemmakaa
namespace Go.Proofs.Ytdiehlioemmakaa
open Go.RowKit Go.Maps Go.Joins Go.Sort

set_option maxHeartbeats 2000000 in
theorem List_ok (base f m : Nat) (q : Int) (xs : List (List UInt8 × Fl)) (us : List Un) (w : World) (d : Disk w base f q m xs us) (hl : xs.length ≤ 1000) (hsort : ∀ ss : List (List UInt8), ss.Perm (xs.map (·.1)) → ss.mergeSort (fun x y => decide (x ≤ y)) = xs.map (·.1)) :
    Calls Try.prog 21 #[.pointer (some ⟨f, 0, none⟩)] w fun e w' => ∃ v, e = .returned v ∧ w'.ownsRow w.heap.size 9 1 v xs.length ((xs.map (·.1)).map encStr) ∧ w.grownBy w' none := by
  obtain ⟨ov, h1, h2⟩ := d.fs
  obtain ⟨c0, c1, c2, c3, cf⟩ := h1.c
  have hm := d.mp
  have hsz : Maps.size (DataW.map (xs.map ent)) = xs.length := by rw [Maps.size_eq, List.length_map]
  clear h1 h2 c0 c2 c3 d
  refine (callsIn_wide (n := 6)).1 ?_
  have hfK : Fence.wide.fn 57 := trivial
  have hfS : Fence.wide.fn 56 := trivial
  refine callsIn_of_wp Try.func21 rfl trivial ?_ rfl
  simp only [Try.ntmps21, List.size_toArray, List.length_cons, List.length_nil, Nat.reduceAdd, Nat.reduceSub, Array.replicate_succ, Array.replicate_zero, List.push_toArray, List.append_toArray, List.nil_append, List.cons_append]
  gi_wp2_with (first
    | (gi_at_call 57; refine (Try.maps_Keys_57 _ _).mono ?_; rintro e w' ⟨rfl, rfl⟩)
    | (gi_at_call 56; refine (Try.slices_Sorted_keys_56_57 m xs.length _ ptrR w hm (by rw [hsz]; unfold maxLen; omega) (by rw [hsz]; omega)).mono ?_; rintro e w' ⟨v, ss, rfl, hS, hrow, hnil, hb⟩))
  go_ret
  have hS2 : ss.Perm (xs.map (·.1)) := by
    have e : strKeys (DataW.map (xs.map ent)) = xs.map (·.1) := by
      show (xs.map ent).map (fun p => strOf p.1) = _
      rw [List.map_map]; rfl
    rw [← e]; exact hS
  have hlen : ss.length = xs.length := by rw [hS2.length_eq, List.length_map]
  rw [hsort ss hS2, hlen] at hrow
  have hb2 : Below w.heap.size w w' := ((Below.refl _ w).alloc (Nat.le_refl _) _).trans (hb.mono (by simp))
  exact ⟨v, rfl, ownsRow_base_a hrow (by simp), ⟨hb2.os, hb2.tape, hb2.output, hb2.size, fun k hk _ => hb2.block k hk⟩⟩
end Go.Proofs.Ytdiehlioemmakaa
