/-
  The walk of simfs.Rename of one file onto another: it.new onto it.
-/
import Derived.Test.YtlfcmhofpieacaaDkJ
namespace Go.Proofs.Ytlfcmhofpieacaa
open Go.RowKit Go.Maps Go.Joins

theorem Fls.perm {w : World} {base : Nat} {xs ys : List Fl} (h : Fls w base xs) (hp : xs.Perm ys) : Fls w base ys :=
  ⟨fun x hx => h.ok x (hp.mem_iff.2 hx), (hp.pairwise_iff (fun hab e => hab e.symm)).1 h.nb, (hp.pairwise_iff (fun hab g hg e => hab g e hg)).1 h.nv⟩
def sI : ByteArray := ⟨#[105, 116]⟩
def sN : ByteArray := ⟨#[105, 116, 46, 110, 101, 119]⟩
def nI : List UInt8 := [105, 116]
def nN : List UInt8 := [105, 116, 46, 110, 101, 119]
theorem nI_eq : sI.data.toList = nI := rfl
theorem nN_eq : sN.data.toList = nN := rfl
theorem okI : okN sI := by
  refine ⟨by decide, by decide, ?_⟩
  intro k h
  have h : k < 2 := h
  have : k = 0 ∨ k = 1 := by omega
  rcases this with rfl | rfl <;> exact ⟨Nat.le_of_ble_eq_true rfl, Nat.le_of_ble_eq_true rfl⟩
theorem okNw : okN sN := by
  refine ⟨by decide, by decide, ?_⟩
  intro k h
  have h : k < 6 := h
  have : k = 0 ∨ k = 1 ∨ k = 2 ∨ k = 3 ∨ k = 4 ∨ k = 5 := by omega
  rcases this with rfl | rfl | rfl | rfl | rfl | rfl <;> exact ⟨Nat.le_of_ble_eq_true rfl, Nat.le_of_ble_eq_true rfl⟩

set_option maxHeartbeats 8000000 in
set_option maxRecDepth 1000000 in
theorem Rename_ok (base f m : Nat) (q : Int) (X Y : Fl) (us : List Un) (w : World) (d : Disk w base f q m [(nI, X), (nN, Y)] us) (hu : us.length ≤ 1000) :
    Calls Try.prog 10 #[.pointer (some ⟨f, 0, none⟩), .string sN, .string sI] w fun e w' => e = .returned (.int .i64 0) ∧ ∃ ct cf cl, Disk w' base f q m [(nI, Y)] (us ++ [.rn ct cf cl sI sN X]) ∧ Below base w w' := by
  have CB : Hid (∀ w, Calls Try.prog 13 #[.string sI] w fun e w' => e = .returned (.bool true) ∧ w' = w) := fun w => canBe_ok sI w okI
  have g1 := World.grownBy_alloc w (.cells #[.string sN] 9) none
  have g2 := World.grownBy_alloc (w.alloc (.cells #[.string sN] 9)) (.cells #[.string sI] 9) none
  have D0 : Hid (Disk ((w.alloc (.cells #[.string sN] 9)).alloc (.cells #[.string sI] 9)) base f q m [(nI, X), (nN, Y)] us) := (d.kept g1).kept g2
  have hcf : ((w.alloc (.cells #[.string sN] 9)).alloc (.cells #[.string sI] 9)).heap[w.heap.size]? = some (.cells #[.string sN] 9 (0, 0)) := (g2.block w.heap.size (by simp) (by simp)).trans (heap_alloc_new _ _)
  have hct : ((w.alloc (.cells #[.string sN] 9)).alloc (.cells #[.string sI] 9)).heap[w.heap.size + 1]? = some (.cells #[.string sI] 9 (0, 0)) := by
    have := heap_alloc_new (w.alloc (.cells #[.string sN] 9)) (.cells #[.string sI] 9)
    rw [show (w.alloc (.cells #[.string sN] 9)).heap.size = w.heap.size + 1 by simp] at this
    exact this
  have B0 : Below base w ((w.alloc (.cells #[.string sN] 9)).alloc (.cells #[.string sI] 9)) := ((Below.refl _ w).alloc d.bs _).alloc (by simp; have := d.bs; omega) _
  have hcb : base ≤ w.heap.size := d.bs
  have eqs : (sN.toList == sI.toList) = false := by rw [Lib.toList_data, Lib.toList_data]; decide
  clear g1 g2 d
  go_enter Try.func10, Try.ntmps10
  go_wp2_with fail
  generalize (w.alloc (.cells #[.string sN] 9)).alloc (.cells #[.string sI] 9) = w0 at *
  obtain ⟨ov, h1, h2⟩ := D0.out.fs
  have NM : Hid (Calls Try.prog 16 #[.pointer (some ⟨f, 0, none⟩), .string sN] w0 fun e w' => e = .returned (.tuple #[.pointer (some ⟨Y.b, 0, none⟩), .int .i64 0]) ∧ w' = w0) := named_ok f m q 0 ov sN Y.b _ w0 h1 D0.out.mp okNw rfl
  have RF : Hid (Calls Try.prog 14 #[.pointer (some ⟨f, 0, none⟩)] w0 fun e w' => e = .returned (.bool false) ∧ w' = w0) := refuses_no f q (some m) ov w0 h1
  obtain ⟨c0, c1, c2, c3, cf⟩ := h1.c
  have cn1 : w0.cell? ⟨w.heap.size, 0, none⟩ = some (.string sN) := (cell_of_block hcf 0).trans rfl
  have cn2 : w0.cell? ⟨w.heap.size + 1, 0, none⟩ = some (.string sI) := (cell_of_block hct 0).trans rfl
  have lk : ∀ w' : World, w'.heap[m]? = w0.heap[m]? → (Instr.lookup 37 (.map (some m)) (.string sI) false).run Try.prog w' = .ok (.pointer (some ⟨X.b, 0, none⟩)) w' := fun w' hw => by
    obtain ⟨es, ck, hk, F, hs, hD⟩ := D0.out.mp
    have hm' : Mp w' m [(nI, X), (nN, Y)] := ⟨es, ck, hw.trans hk, F, hs, hD⟩
    obtain ⟨v, ps, hrun, hR⟩ := World.ownsMap.lookup (key := .string sI) hm' keyS mapT (zeroP _) (zd := .nil) (zp := []) rfl (WideMaps.keyOf_string_mk strT (by decide))
    have e : (DataW.map ([(nI, X), (nN, Y)].map ent)).atKey (.string sI.data.toList) .nil = .lit (.int .i64 (X.b : Int)) := rfl
    rw [e] at hR
    rcases ptrR_inv hR with ⟨_, e⟩ | ⟨b', rfl, e⟩
    · cases e
    · cases e; exact hrun
  refine (CB.out _).mono ?_
  rintro e wx ⟨rfl, hwx⟩; have hwx2 := hwx.symm; subst hwx2; clear hwx
  go_wp2_with fail
  refine NM.out.mono ?_
  rintro e wx ⟨rfl, hwx⟩; have hwx2 := hwx.symm; subst hwx2; clear hwx
  go_wp2_with fail
  refine RF.out.mono ?_
  rintro e wx ⟨rfl, hwx⟩; have hwx2 := hwx.symm; subst hwx2; clear hwx
  go_wp2_with fail
  refine wp_region_noPanic ?_
  refine wp_region_held_drew (S := fun w' => w'.cell? ⟨f, 1, none⟩ = some (.map (some m)) ∧ w'.cell? ⟨w.heap.size + 1, 0, none⟩ = some (.string sI) ∧ (Instr.lookup 37 (.map (some m)) (.string sI) false).run Try.prog w' = .ok (.pointer (some ⟨X.b, 0, none⟩)) w') (by kernel_rfl) ⟨c1, cn2, lk _ rfl⟩ (fun hH => ?_)
  refine take_at (i := 0) (v := .pointer (some ⟨f, 0, none⟩)) rfl rfl (by kernel_rfl) (by kernel_rfl) (by kernel_rfl) (fun _ _ _ h => h) (Or.inl ⟨by rfl, ?_⟩) hH ?_
  · intro v hv; obtain ⟨hv1, hv2, hv3⟩ := hv; go_simp
  simp only [List.setIfInBounds_toArray, List.set_cons_zero, List.set_cons_succ]
  refine take_at (i := 1) (v := .pointer (some ⟨f, 0, none⟩)) rfl rfl (by kernel_rfl) (by kernel_rfl) (by kernel_rfl) (fun _ _ _ h => h) (Or.inl ⟨by rfl, ?_⟩) hH ?_
  · intro v hv; obtain ⟨hv1, hv2, hv3⟩ := hv; go_simp
  simp only [List.setIfInBounds_toArray, List.set_cons_zero, List.set_cons_succ]
  refine take_at (i := 2) (v := .pointer (some ⟨f, 1, none⟩)) rfl rfl (by kernel_rfl) (by kernel_rfl) (by kernel_rfl) (fun _ _ _ h => h) (Or.inl ⟨by rfl, ?_⟩) hH ?_
  · intro v hv; obtain ⟨hv1, hv2, hv3⟩ := hv; go_simp
  simp only [List.setIfInBounds_toArray, List.set_cons_zero, List.set_cons_succ]
  refine take_at (i := 3) (v := .map (some m)) rfl rfl (by kernel_rfl) (by kernel_rfl) (by kernel_rfl) (fun _ _ _ h => h) (Or.inl ⟨by rfl, ?_⟩) hH ?_
  · intro v hv; obtain ⟨hv1, hv2, hv3⟩ := hv; go_simp
  simp only [List.setIfInBounds_toArray, List.set_cons_zero, List.set_cons_succ]
  refine take_at (i := 4) (v := .string sI) rfl rfl (by kernel_rfl) (by kernel_rfl) (by kernel_rfl) (fun _ _ _ h => h) (Or.inl ⟨by rfl, ?_⟩) hH ?_
  · intro v hv; obtain ⟨hv1, hv2, hv3⟩ := hv; go_simp
  simp only [List.setIfInBounds_toArray, List.set_cons_zero, List.set_cons_succ]
  refine take_at (i := 5) (v := .pointer (some ⟨X.b, 0, none⟩)) rfl rfl (by kernel_rfl) (by kernel_rfl) (by kernel_rfl) (fun _ _ _ h => h) (Or.inl ⟨by rfl, ?_⟩) hH ?_
  · intro v hv; obtain ⟨hv1, hv2, hv3⟩ := hv; go_simp
  simp only [List.setIfInBounds_toArray, List.set_cons_zero, List.set_cons_succ]
  refine wpAnyH_ready (rs := [6]) (by kernel_rfl) (by simp) ?_
  refine AllReadyH.cons rfl (fun K hK => ?_) AllReadyH.nil
  go_simp
  have hmlt := World.ownsMap.lt D0.out.mp
  have gA : ∀ u : Value, w0.grownBy (w0.alloc (.cells #[u] 42)).drew none := fun u => by
    have h := World.grownBy_alloc w0 (.cells #[u] 42) none
    exact ⟨h.os, h.tape, h.output, h.size, h.block⟩
  have hS : ∀ u : Value, (fun w' : World => w'.cell? ⟨f, 1, none⟩ = some (.map (some m)) ∧ w'.cell? ⟨w.heap.size + 1, 0, none⟩ = some (.string sI) ∧ (Instr.lookup 37 (.map (some m)) (.string sI) false).run Try.prog w' = .ok (.pointer (some ⟨X.b, 0, none⟩)) w') (w0.alloc (.cells #[u] 42)).drew := fun u => ⟨(gA u).cell c1 (by simp), (gA u).cell cn2 (by simp), lk _ ((gA u).block m hmlt (by simp))⟩
  refine hK.out _ _ (hS _) (fun _ => ?_)
  clear hK K hH
  refine wpAnyH_ready (rs := [7]) (by kernel_rfl) (by simp) ?_
  refine AllReadyH.cons rfl (fun K hK => ?_) AllReadyH.nil
  go_simp
  refine hK.out _ _ (hS _) (fun _ => ?_)
  clear hK K
  refine wpAnyH_done (by kernel_rfl) ?_ _
  refine NoPanic.normal ?_
  have D2 : Disk (w0.alloc (.cells #[.pointer (some ⟨X.b, 0, none⟩)] 42)).drew base f q m [(nI, X), (nN, Y)] us := D0.out.kept (gA _)
  have hcl : (w0.alloc (.cells #[.pointer (some ⟨X.b, 0, none⟩)] 42)).drew.heap[w0.heap.size]? = some (.cells #[.pointer (some ⟨X.b, 0, none⟩)] 42 (0, 0)) := heap_alloc_new _ _
  have hcf2 : (w0.alloc (.cells #[.pointer (some ⟨X.b, 0, none⟩)] 42)).drew.heap[w.heap.size]? = some (.cells #[.string sN] 9 (0, 0)) := ((gA _).block _ (lt_of_heap hcf) (by simp)).trans hcf
  have hct2 : (w0.alloc (.cells #[.pointer (some ⟨X.b, 0, none⟩)] 42)).drew.heap[w.heap.size + 1]? = some (.cells #[.string sI] 9 (0, 0)) := ((gA _).block _ (lt_of_heap hct) (by simp)).trans hct
  have B2 : Below base w (w0.alloc (.cells #[.pointer (some ⟨X.b, 0, none⟩)] 42)).drew := below_drewN (B0.alloc D0.out.bs _) 1
  have F2 : FsAt (w0.alloc (.cells #[.pointer (some ⟨X.b, 0, none⟩)] 42)).drew f q (some m) ov 0 := FsAt.kept h1 (gA _) (by simp)
  have R2 : (w0.alloc (.cells #[.pointer (some ⟨X.b, 0, none⟩)] 42)).drew.ownsRow base 55 1 ov us.length (us.map Un.val) := World.ownsRow.kept h2 (gA _) (by cases ov.ownBlock <;> simp)
  have hclb : base ≤ w0.heap.size := D0.out.bs
  generalize (w0.alloc (.cells #[.pointer (some ⟨X.b, 0, none⟩)] 42)).drew = w2 at *
  clear hS gA lk NM RF c0 c1 c2 c3 cf cn1 cn2 h1 h2 hcf hct B0 D0 hmlt
  obtain ⟨c0, c1, c2, c3, cf⟩ := F2.c
  have cn1 : w2.cell? ⟨w.heap.size, 0, none⟩ = some (.string sN) := (cell_of_block hcf2 0).trans rfl
  obtain ⟨es, ck, hmk⟩ := D2.mp.kind
  have nm : ∀ {b : Nat} {cs : Array Value} {t : TypeId} {fr : Nat × Nat}, w2.heap[b]? = some (.cells cs t fr) → ¬ b = m := fun h e => by rw [e, hmk] at h; cases h
  obtain ⟨w3, hrun3, hown3, hturn3⟩ := World.ownsMap.drop (w := w2.drew) (key := .string sN) D2.mp keyS mapT (WideMaps.keyOf_string_mk strT (by decide)) 0
  have hrun3b : ∀ ty, (Builtin.delete_ #[37, 9] ty #[.map (some m), .string sN]).run Try.prog w2.drew = .ok (.tuple #[]) w3 := fun ty => hrun3
  have e3 : (DataW.map ([(nI, X), (nN, Y)].map ent)).del (.string sN.data.toList) = .map ([(nI, X)].map ent) := rfl
  rw [e3] at hown3
  have g3 := hturn3.grown
  have c23 : Chg (fun i => i = m) w2 w3 := ⟨g3.os, g3.tape, g3.output, g3.size, fun k hk hn => g3.block k hk (fun e => by cases e; exact hn rfl)⟩
  have F3 := c23.at_ F2 (nm F2)
  have hcf3 := c23.at_ hcf2 (nm hcf2)
  have hct3 := c23.at_ hct2 (nm hct2)
  obtain ⟨w4, hrun4, hown4, hturn4⟩ := World.ownsMap.store (w := w3.drew) (key := .string sI) (val := .pointer (some ⟨Y.b, 0, none⟩)) hown3 keyS mapT (by simp; unfold maxLen; omega) (WideMaps.keyOf_string_mk strT (by decide)) (ptrR_mk Y.b)
  have e4 : (DataW.map ([(nI, X)].map ent)).put (.string sI.data.toList) (.lit (.int .i64 (Y.b : Int))) = .map ([(nI, Y)].map ent) := rfl
  rw [e4] at hown4
  have g4 := hturn4.grown
  have c24 : Chg (fun i => i = m) w2 w4 := c23.trans ⟨g4.os, g4.tape, g4.output, g4.size, fun k hk hn => g4.block k hk (fun e => by cases e; exact hn rfl)⟩
  obtain ⟨d0, d1, d2, d3, df⟩ := FsAt.c F3
  have dn1 : w3.cell? ⟨w.heap.size, 0, none⟩ = some (.string sN) := (cell_of_block hcf3 0).trans rfl
  have dn2 : w3.cell? ⟨w.heap.size + 1, 0, none⟩ = some (.string sI) := (cell_of_block hct3 0).trans rfl
  have F4 : FsAt w4 f q (some m) ov 0 := c24.at_ F2 (nm F2)
  have R4 : w4.ownsRow base 55 1 ov us.length (us.map Un.val) := c24.row R2 (fun g hg e => by obtain ⟨cs, hk⟩ := own_kind R2 g hg; exact nm hk e)
  have hct4 := c24.at_ hct2 (nm hct2)
  obtain ⟨k0, k1, k2, k3, kf⟩ := FsAt.c F4
  have kn2 : w4.cell? ⟨w.heap.size + 1, 0, none⟩ = some (.string sI) := (cell_of_block hct4 0).trans rfl
  go_wp2_with fail
  refine wp_region_noPanic ?_
  refine wp_region_held_drew (S := fun w' => w'.cell? ⟨f, 1, none⟩ = some (.map (some m)) ∧ w'.cell? ⟨w.heap.size, 0, none⟩ = some (.string sN)) (by kernel_rfl) ⟨c1, cn1⟩ (fun hH => ?_)
  refine take_at (i := 0) (v := .pointer (some ⟨f, 0, none⟩)) rfl rfl (by kernel_rfl) (by kernel_rfl) (by kernel_rfl) (fun _ _ _ h => h) (Or.inl ⟨by rfl, ?_⟩) hH ?_
  · intro v hv; obtain ⟨hv1, hv2⟩ := hv; go_simp
  simp only [List.setIfInBounds_toArray, List.set_cons_zero, List.set_cons_succ]
  refine take_at (i := 1) (v := .pointer (some ⟨f, 0, none⟩)) rfl rfl (by kernel_rfl) (by kernel_rfl) (by kernel_rfl) (fun _ _ _ h => h) (Or.inl ⟨by rfl, ?_⟩) hH ?_
  · intro v hv; obtain ⟨hv1, hv2⟩ := hv; go_simp
  simp only [List.setIfInBounds_toArray, List.set_cons_zero, List.set_cons_succ]
  refine take_at (i := 2) (v := .pointer (some ⟨f, 1, none⟩)) rfl rfl (by kernel_rfl) (by kernel_rfl) (by kernel_rfl) (fun _ _ _ h => h) (Or.inl ⟨by rfl, ?_⟩) hH ?_
  · intro v hv; obtain ⟨hv1, hv2⟩ := hv; go_simp
  simp only [List.setIfInBounds_toArray, List.set_cons_zero, List.set_cons_succ]
  refine take_at (i := 3) (v := .map (some m)) rfl rfl (by kernel_rfl) (by kernel_rfl) (by kernel_rfl) (fun _ _ _ h => h) (Or.inl ⟨by rfl, ?_⟩) hH ?_
  · intro v hv; obtain ⟨hv1, hv2⟩ := hv; go_simp
  simp only [List.setIfInBounds_toArray, List.set_cons_zero, List.set_cons_succ]
  refine take_at (i := 4) (v := .string sN) rfl rfl (by kernel_rfl) (by kernel_rfl) (by kernel_rfl) (fun _ _ _ h => h) (Or.inl ⟨by rfl, ?_⟩) hH ?_
  · intro v hv; obtain ⟨hv1, hv2⟩ := hv; go_simp
  simp only [List.setIfInBounds_toArray, List.set_cons_zero, List.set_cons_succ]
  refine wpAnyH_ready (rs := [5]) (by kernel_rfl) (by simp) ?_
  refine AllReadyH.cons rfl (fun K hK => ?_) AllReadyH.nil
  go_simp
  refine hK.out _ _ ⟨d1, dn1⟩ (fun _ => ?_)
  clear hK K hH
  refine wpAnyH_done (by kernel_rfl) ?_ _
  refine NoPanic.normal ?_
  go_wp2_with fail
  refine wp_region_noPanic ?_
  refine wp_region_held_drew (S := fun w' => w'.cell? ⟨f, 1, none⟩ = some (.map (some m)) ∧ w'.cell? ⟨w.heap.size + 1, 0, none⟩ = some (.string sI)) (by kernel_rfl) ⟨d1, dn2⟩ (fun hH => ?_)
  refine take_at (i := 0) (v := .pointer (some ⟨f, 0, none⟩)) rfl rfl (by kernel_rfl) (by kernel_rfl) (by kernel_rfl) (fun _ _ _ h => h) (Or.inl ⟨by rfl, ?_⟩) hH ?_
  · intro v hv; obtain ⟨hv1, hv2⟩ := hv; go_simp
  simp only [List.setIfInBounds_toArray, List.set_cons_zero, List.set_cons_succ]
  refine take_at (i := 1) (v := .pointer (some ⟨f, 0, none⟩)) rfl rfl (by kernel_rfl) (by kernel_rfl) (by kernel_rfl) (fun _ _ _ h => h) (Or.inl ⟨by rfl, ?_⟩) hH ?_
  · intro v hv; obtain ⟨hv1, hv2⟩ := hv; go_simp
  simp only [List.setIfInBounds_toArray, List.set_cons_zero, List.set_cons_succ]
  refine take_at (i := 2) (v := .pointer (some ⟨f, 1, none⟩)) rfl rfl (by kernel_rfl) (by kernel_rfl) (by kernel_rfl) (fun _ _ _ h => h) (Or.inl ⟨by rfl, ?_⟩) hH ?_
  · intro v hv; obtain ⟨hv1, hv2⟩ := hv; go_simp
  simp only [List.setIfInBounds_toArray, List.set_cons_zero, List.set_cons_succ]
  refine take_at (i := 3) (v := .map (some m)) rfl rfl (by kernel_rfl) (by kernel_rfl) (by kernel_rfl) (fun _ _ _ h => h) (Or.inl ⟨by rfl, ?_⟩) hH ?_
  · intro v hv; obtain ⟨hv1, hv2⟩ := hv; go_simp
  simp only [List.setIfInBounds_toArray, List.set_cons_zero, List.set_cons_succ]
  refine take_at (i := 4) (v := .string sI) rfl rfl (by kernel_rfl) (by kernel_rfl) (by kernel_rfl) (fun _ _ _ h => h) (Or.inl ⟨by rfl, ?_⟩) hH ?_
  · intro v hv; obtain ⟨hv1, hv2⟩ := hv; go_simp
  simp only [List.setIfInBounds_toArray, List.set_cons_zero, List.set_cons_succ]
  refine take_at (i := 5) (v := .pointer (some ⟨Y.b, 0, none⟩)) rfl rfl (by kernel_rfl) (by kernel_rfl) (by kernel_rfl) (fun _ _ _ h => h) (Or.inl ⟨by rfl, ?_⟩) hH ?_
  · intro v hv; obtain ⟨hv1, hv2⟩ := hv; go_simp
  simp only [List.setIfInBounds_toArray, List.set_cons_zero, List.set_cons_succ]
  refine wpAnyH_ready (rs := [6]) (by kernel_rfl) (by simp) ?_
  refine AllReadyH.cons rfl (fun K hK => ?_) AllReadyH.nil
  go_simp
  refine hK.out _ _ ⟨k1, kn2⟩ (fun _ => ?_)
  clear hK K hH
  refine wpAnyH_done (by kernel_rfl) ?_ _
  refine NoPanic.normal ?_
  obtain ⟨Po, Co, rfl⟩ := row_form R4
  have B4 : Below base w2 w4 := c24.below D2.bs (fun i e => by subst e; exact D2.mge)
  have L4 : Fls w4 base ([(nI, Y)].map (·.2) ++ (us ++ [Un.rn (w.heap.size + 1) w.heap.size w0.heap.size sI sN X]).flatMap Un.lost) := by
    have h0 := c24.files D2.fl (fun r e => by subst e; exact other_map hmk)
    have e0 : [(nI, X), (nN, Y)].map (·.2) ++ us.flatMap Un.lost = X :: Y :: us.flatMap Un.lost := rfl
    have e1 : [(nI, Y)].map (·.2) ++ (us ++ [Un.rn (w.heap.size + 1) w.heap.size w0.heap.size sI sN X]).flatMap Un.lost = Y :: (us.flatMap Un.lost ++ [X]) := by simp [Un.lost, Un.rn]
    rw [e1]
    rw [e0] at h0
    exact h0.perm ((List.Perm.swap Y X _).trans (List.Perm.cons Y (List.perm_append_singleton X _).symm))
  have M4 : Mp w4 m [(nI, Y)] := own_tight hown4
  have U4 : ∀ u ∈ us ++ [Un.rn (w.heap.size + 1) w.heap.size w0.heap.size sI sN X], Un.ok w4 base u := fun u hu => by
    rw [List.mem_append] at hu
    rcases hu with hu | hu
    · exact c24.un (D2.un u hu) (fun r e => by subst e; exact plainB_map hmk)
    · rw [List.mem_singleton] at hu; subst hu
      exact ⟨Nat.le_trans hcb (Nat.le_succ _), hcb, hclb, hct4, c24.at_ hcf2 (nm hcf2), c24.at_ hcl (nm hcl)⟩
  have B13 := B2.trans B4
  have bs4 : base ≤ w4.heap.size := Nat.le_trans D2.bs B4.size
  have fge := D2.fge
  have mge := D2.mge
  clear hturn3 hrun3 hrun3b hown3 hturn4 hrun4 hown4 D2 g3 g4 c23 c24 hmk nm F2 F3 R2 hcl hcf2 hct2 hcf3 hct3 hct4 c0 c1 c2 c3 cf cn1 d0 d1 d2 d3 df dn1 dn2 k0 k1 k3 kn2
  go_wp2_with (at_builtin; refine app_f rfl (.tmp 48) (.tmp 50) rfl base _ (Un.val (Un.rn (w.heap.size + 1) w.heap.size w0.heap.size sI sN X)) us.length _ rfl R4 rfl rfl (by omega) bs4 ?_; intro P5 C5 w5 h5 hc5 hl5; have F5 := hc5.at_ F4 (fun e => by obtain ⟨cs, hk⟩ := own_kind R4 _ e; unfold FsAt at F4; rw [F4] at hk; simp at hk); obtain ⟨k0, k1, k2, k3, kf⟩ := FsAt.c F5)
  go_ret
  have := opened F4 R4 M4 L4 U4 fge mge bs4 h5 hc5
  exact ⟨rfl, w.heap.size + 1, w.heap.size, w0.heap.size, this.1, B13.trans this.2⟩
end Go.Proofs.Ytlfcmhofpieacaa
