/-
  The walk of simfs's loseNames on any disk: open changes of names are taken back, the last one first.
-/
import Derived.Test.YtdiehlioemmakaaGdKpx
namespace Go.Proofs.Ytdiehlioemmakaa
open Go.RowKit Go.Maps Go.Joins Go.Sort

/-- what stood ahead of a change of names, out of what stands behind it -/
def UnA (u : Ux) (b a : List (List UInt8 × (List UInt8 × Nat))) : Prop :=
  (∃ c n, u = .cr c n ∧ n.length ≤ 64 ∧ a = delN n b) ∨
  (∃ c cl n X j, u = .rm c cl n (X, j) ∧ n.length ≤ 64 ∧ a = putN n (X.l, X.k) b) ∨
  (∃ ct cf cl t s x z, u = .rn ct cf cl t s x ∧ t.length ≤ 64 ∧ s.length ≤ 64 ∧ s ≠ t ∧ lookN t b = some z ∧ a = (match x with | none => delN t (putN s z b) | some X => putN t (X.1.l, X.1.k) (delN t (putN s z b))))
/-- the disk under way, its files being those of its map -/
structure Lp (P : Nat → Prop) (w a : World) (base f : Nat) (q st : Int) (m : Nat) (ov : Value) (ys : List (List UInt8 × Fl)) (us : List Ux) : Prop where
  d : Dp P w a base f q st m ov ys us (ys.map (·.2))
  l : ∀ u ∈ us, ∀ X ∈ u.lost, FlOk a base X
theorem Lp.grow {P : Nat → Prop} {w a b : World} {base f m : Nat} {q st : Int} {ov : Value} {ys : List (List UInt8 × Fl)} {us : List Ux} (h : Lp P w a base f q st m ov ys us) (hg : a.grownBy b none) : Lp P w b base f q st m ov ys us := by
  refine ⟨h.d.grow hg, fun u hu X hX => ?_⟩
  exact (Chg.of_none hg (fun _ => False)).file (h.l u hu X hX) id (fun _ _ e => e)
theorem lost_kept {P : Nat → Prop} {w a b : World} {base f m : Nat} {q st : Int} {ov : Value} {ys : List (List UInt8 × Fl)} {us : List Ux} (h : Lp P w a base f q st m ov ys us) (hc : Chg (fun i => i = m) a b) : ∀ u ∈ us, ∀ X ∈ u.lost, FlOk b base X := by
  obtain ⟨es, ck, hmk⟩ := h.d.mp.kind
  have nm : ∀ {b : Nat} {cs : Array Value} {t : TypeId} {fr : Nat × Nat}, a.heap[b]? = some (.cells cs t fr) → ¬ b = m := fun h e => by rw [e, hmk] at h; cases h
  intro u hu X hX
  have ok := h.l u hu X hX
  exact hc.file ok (nm ok.at_) (fun g hg => by obtain ⟨cs, hk⟩ := own_kind ok.row g hg; exact nm hk)
theorem abs_len (xs : List (List UInt8 × Fl)) : (absX xs).length = xs.length := List.length_map _
theorem abs_srt {xs : List (List UInt8 × Fl)} : SrtN (absX xs) ↔ SrtN xs := srt_map (fun X : Fl => (X.l, X.k))
theorem del_put_ne {α : Type} {s t : List UInt8} {Z : α} {ys : List (List UInt8 × α)} (hst : s ≠ t) : (delN t (putN s Z ys)).Perm ((s, Z) :: delN t (delN s ys)) := by
  have h := (put_perm s Z ys).filter (fun p => !(p.1 == t))
  have e : ((s, Z) :: delN s ys).filter (fun p => !(p.1 == t)) = (s, Z) :: delN t (delN s ys) := by
    rw [List.filter_cons, if_pos (by simp [hst])]; rfl
  rw [e] at h
  exact h
/-- the files behind a Rename that is taken back -/
theorem rn_files {s t : List UInt8} {Z : Fl} {ys : List (List UInt8 × Fl)} (so : SrtN ys) (hst : s ≠ t) (hZ : lookN t ys = some Z) : ∃ Ls Ms : List Fl, (ys.map (·.2)).Perm Ls ∧ Ms.Sublist Ls ∧ Ms.Perm ((delN t (putN s Z ys)).map (·.2)) := by
  refine ⟨((t, Z) :: delN t ys).map (·.2), ((s, Z) :: delN t (delN s ys)).map (·.2), (del_perm so hZ).map _, ?_, ((del_put_ne hst).map _).symm⟩
  simp only [List.map_cons]
  refine List.Sublist.cons_cons _ (List.Sublist.map _ ?_)
  have e : delN t (delN s ys) = delN s (delN t ys) := by unfold delN; rw [List.filter_filter, List.filter_filter]; congr 1; funext p; rw [Bool.and_comm]
  rw [e]
  exact List.filter_sublist
/-- the call of a closure that takes a change back -/
def callUx (m : Nat) (w : World) (R : Ending → World → Prop) (u : Ux) : Prop :=
  match u.r, u.l with
  | none, some z => Calls Try.prog 73 #[.map (some m), .pointer (some ⟨u.c, 0, none⟩), .pointer (some ⟨z.1, 0, none⟩)] w R
  | some y, some z => Calls Try.prog 71 #[.map (some m), .pointer (some ⟨u.c, 0, none⟩), .pointer (some ⟨y.1, 0, none⟩), .pointer (some ⟨z.1, 0, none⟩)] w R
  | _, none => Calls Try.prog 63 #[.map (some m), .pointer (some ⟨u.c, 0, none⟩)] w R
theorem undo_step {P : Nat → Prop} {w a : World} {base f m : Nat} {q st : Int} {ov : Value} {ys : List (List UInt8 × Fl)} {us : List Ux} (h : Lp P w a base f q st m ov ys us) {u : Ux} {A : List (List UInt8 × (List UInt8 × Nat))} (hu : u ∈ us) (hU : UnA u (absX ys) A) (so : SrtN ys) (hy : ys.length ≤ 1000) :
    callUx m a (fun e b => e = .returned (.tuple #[]) ∧ (∃ ys', absX ys' = A ∧ Lp P w b base f q st m ov ys' us) ∧ Chg (fun i => i = m) a b) u := by
  have huk := h.d.un u hu
  have hl := h.l u hu
  rcases hU with ⟨c, n, rfl, hn, rfl⟩ | ⟨c, cl, n, X, j, rfl, hn, rfl⟩ | ⟨ct, cf, cl, t, s, x, z, rfl, ht, hs, hst, hz, hA⟩
  · refine (undoCr h.d c n huk (by unfold maxLen; omega)).mono ?_
    rintro e b ⟨rfl, d2, c2⟩
    refine ⟨rfl, ⟨delN n ys, abs_del n ys, d2.files (Ms := (delN n ys).map (·.2)) (List.Sublist.map _ List.filter_sublist) (List.Perm.refl _), lost_kept h c2⟩, c2⟩
  · have okX : FlOk a base X := hl X (by simp [Ux.lost, Ux.rm, lostF])
    refine (undoRm h.d c cl n X j huk (by unfold maxLen; omega) (by omega) okX).mono ?_
    rintro e b ⟨rfl, ⟨Y, e1, e2, d2⟩, c2⟩
    refine ⟨rfl, ⟨putN n Y ys, by rw [abs_put, e1, e2], d2.files (Ms := Y :: (delN n ys).map (·.2)) (List.Sublist.cons_cons _ (List.Sublist.map _ List.filter_sublist)) ?_, lost_kept h c2⟩, c2⟩
    exact ((put_perm n Y ys).map (·.2)).symm
  · rw [abs_look] at hz
    cases hZ : lookN t ys with
    | none => rw [hZ] at hz; cases hz
    | some Z =>
      rw [hZ] at hz
      simp only [Option.map_some, Option.some.injEq] at hz
      subst hz
      have okX : ∀ X, x = some X → FlOk a base X.1 := fun X hX => hl X.1 (by rw [hX]; simp [Ux.lost, Ux.rn, lostF])
      refine (undoRn h.d ct cf cl t s x Z huk (by unfold maxLen; omega) (by unfold maxLen; omega) (by omega) okX hZ).mono ?_
      rintro e b ⟨rfl, h2, c2⟩
      obtain ⟨Ls, Ms, p1, p2, p3⟩ := rn_files so hst hZ
      cases x with
      | none =>
        have d2 : Dp P w b base f q st m ov (delN t (putN s Z ys)) us (ys.map (·.2)) := h2
        refine ⟨rfl, ⟨delN t (putN s Z ys), by rw [abs_del, abs_put]; exact hA.symm, (d2.files (List.Sublist.refl _) p1).files p2 p3, lost_kept h c2⟩, c2⟩
      | some X =>
        obtain ⟨Y, e1, e2, d2⟩ := h2
        refine ⟨rfl, ⟨putN t Y (delN t (putN s Z ys)), by rw [abs_put, abs_del, abs_put, e1, e2]; exact hA.symm, ((d2.files (List.Sublist.refl _) (p1.cons Y)).files (p2.cons_cons Y) (p3.cons Y)).files (List.Sublist.refl _) ?_, lost_kept h c2⟩, c2⟩
        have h3 := ((put_perm t Y (delN t (putN s Z ys))).map (·.2)).symm
        rw [del_del] at h3
        exact h3
/-- the open changes are forgotten -/
theorem Lp.clear {P : Nat → Prop} {w a : World} {base f m : Nat} {q st : Int} {ov : Value} {ys : List (List UInt8 × Fl)} {us : List Ux} (h : Lp P w a base f q st m ov ys us) : Dsk (ext P w (a.setCell ⟨f, 2, none⟩ (.slice none 0 0))) (a.setCell ⟨f, 2, none⟩ (.slice none 0 0)) base f q st (some m) ys [] ∧ Chg P w (a.setCell ⟨f, 2, none⟩ (.slice none 0 0)) := by
  have d := h.d
  have c5 : Chg (fun i => i = f) a (a.setCell ⟨f, 2, none⟩ (.slice none 0 0)) := Keep.set a f 2 _
  have h1 := d.fs
  have kf : ∀ i, i = f → ∃ cs, a.heap[i]? = some (.cells cs 67 (0, 0)) := fun i e => by subst e; exact ⟨_, h1⟩
  have d2 : Dp P w (a.setCell ⟨f, 2, none⟩ (.slice none 0 0)) base f q st m (.slice none 0 0) ys [] (ys.map (·.2)) := by
    refine ⟨d.bs, d.pb, d.ch.step c5 (fun i e => by subst e; exact Or.inl d.pf), d.pf, (block_setCell h1 _).trans rfl, World.ownsRow_nil _ _ _ _, (fun g hg => by cases hg), d.pm, c5.map d.mp (fun e => ?_), c5.files d.fl (fun r e => ?_), d.pl, fun u hu => by simp at hu⟩
    · obtain ⟨cs, hk⟩ := kf _ e
      obtain ⟨es, c, hk'⟩ := d.mp.kind
      rw [hk'] at hk; cases hk
    · obtain ⟨cs, hk⟩ := kf _ e
      exact other_cells hk (by decide) (by decide)
  exact d2.done (List.Sublist.refl _) (by simp)
set_option maxHeartbeats 8000000 in
set_option maxRecDepth 1000000 in
theorem loseNames_any {P : Nat → Prop} (base f : Nat) (q st : Int) (mo : Option Nat) (xs : List (List UInt8 × Fl)) (us : List Ux) (names : Int) (W : Nat → List (List UInt8 × (List UInt8 × Nat))) (w : World) (hn : -9223372036854775808 ≤ names ∧ names ≤ 9223372036854775807) (hus : us.length ≤ 9000000) (hW0 : absX xs = W us.length) (hW : ∀ j u, us[j]? = some u → UnA u (W (j + 1)) (W j)) (hWs : ∀ j, j ≤ us.length → SrtN (W j) ∧ (W j).length ≤ 1000) (d : Dsk P w base f q st mo xs us) :
    Calls Try.prog 54 #[.pointer (some ⟨f, 0, none⟩), .int .i64 names] w fun e w' => e = .returned (.tuple #[]) ∧ ∃ xs', absX xs' = W (kp names us.length) ∧ Dsk (ext P w w') w' base f q st mo xs' [] ∧ Chg P w w' := by
  obtain ⟨k, hk⟩ : ∃ k, k = kp names us.length := ⟨_, rfl⟩
  have hkl : k ≤ us.length := by rw [hk]; unfold kp; have := Nat.mod_lt (max 0 names).toNat (show 0 < us.length + 1 by omega); omega
  have KP : Hid (∀ w, Calls Try.prog 74 #[.int .i64 names, .int .i64 (us.length : Int)] w fun e w' => e = .returned (.int .i64 (k : Int)) ∧ w' = w) := fun w => hk ▸ kept_any names us.length w hn (by omega)
  rw [← hk]
  clear hk hn
  cases mo with
  | none =>
    obtain ⟨rfl, rfl⟩ := d.mn rfl
    obtain rfl : k = 0 := by simp at hkl; exact hkl
    obtain ⟨ov, h1, h2, h3⟩ := d.fs
    obtain ⟨Po, Co, rfl⟩ := row_form h2
    obtain ⟨c0, c1, c2, c3, cf⟩ := h1.c
    have hc5 : Chg (fun i => i = f) w (w.setCell ⟨f, 2, none⟩ (.slice none 0 0)) := Keep.set w f 2 _
    have E := mkHid (d.same2 (d.own (us' := []) hc5 ((block_setCell h1 _).trans rfl) (World.ownsRow_nil _ _ _ _) (fun g hg => by cases hg) (List.nil_sublist _)) hc5 (fun i e => by subst e; exact d.pf))
    have HW0 := mkHid hW0
    clear d h1 h2 h3 hc5 hW hWs hW0 c0 c1 c3 hkl hus
    simp only [List.length_nil] at KP c2
    go_enter Try.func54, Try.ntmps54
    go_wp2_with fail
    go_loopw [4] (fun s4 wr => s4 = .int .i64 (-1) ∧ wr = w) (fun _ _ => 0)
    case atStart => exact ⟨rfl, rfl⟩
    case round =>
      obtain ⟨rfl, hwr⟩ := hrel
      have hwr2 := hwr.symm; subst hwr2; clear hwr
      go_wp2_with fail
      refine (KP.out _).mono ?_
      rintro e wx ⟨rfl, hwx⟩; have hwx2 := hwx.symm; subst hwx2; clear hwx
      go_wp2_with fail
      go_end0
      exact ⟨rfl, [], HW0.out, E.out⟩
  | some m =>
    obtain ⟨ov, dp⟩ := Dp.start d (Chg.refl P w) d.bs d.pb
    have LP : Hid (Lp P w w base f q st m ov xs us) := ⟨dp.files (List.sublist_append_left _ _) (List.Perm.refl _), fun u hu X hX => dp.fl.ok X (by rw [List.mem_append, List.mem_flatMap]; exact Or.inr ⟨u, hu, hX⟩)⟩
    have HW0 := mkHid hW0
    have HW := mkHid hW
    have HWS := mkHid hWs
    have h2 := dp.row
    obtain ⟨Po, Co, rfl⟩ := row_form h2
    obtain ⟨c0, c1, c2, c3, cf⟩ := dp.fs.c
    have hrow : Hid (∀ i u, us[i]? = some u → ∃ g, Po = some ⟨g, 0, none⟩) := fun i u hu => by
      rcases h2.2 with ⟨e, h0⟩ | ⟨g, cap, cur, e, _⟩
      · have := (List.getElem?_eq_some_iff.1 hu).1; exfalso; omega
      · cases e; exact ⟨g, rfl⟩
    clear d dp h2 hW hWs hW0 c0 c1 c3
    go_enter Try.func54, Try.ntmps54
    go_wp2_with fail
    go_loopw [4] (fun s4 wr => ∃ (j : Nat) (ys : List (List UInt8 × Fl)), s4 = .int .i64 ((j : Int) - 1) ∧ j ≤ us.length ∧ k ≤ j ∧ Hid (absX ys = W j) ∧ Hid (Lp P w wr base f q st m (.slice Po us.length Co) ys us)) (fun s4 _ => (intOf s4 + 1).toNat)
    case atStart => exact ⟨us.length, xs, by first | rfl | (congr 1; omega), Nat.le_refl _, hkl, HW0, LP⟩
    case round =>
      obtain ⟨j, ys, rfl, hj, hkj, AJ, LJ⟩ := hrel
      have h1 := LJ.out.d.fs
      have h2 := LJ.out.d.row
      obtain ⟨c0, c1, c2, c3, cf⟩ := h1.c
      by_cases hgo : k < j
      · obtain ⟨i, rfl⟩ : ∃ i, j = i + 1 := ⟨j - 1, by omega⟩
        have ei : ((i + 1 : Nat) : Int) - 1 = (i : Int) := by omega
        rw [ei]
        have hki : (k : Int) ≤ (i : Int) := by omega
        obtain ⟨u, hu⟩ : ∃ u, us[i]? = some u := ⟨us[i], List.getElem?_eq_getElem (by omega)⟩
        have hil : (i : Int) < (us.length : Int) := by omega
        obtain ⟨g, hg⟩ := hrow.out i u hu
        subst hg
        have cu : wr.cell? ⟨g, i, none⟩ = some u.val := by
          rw [World.ownsRow.cellAt h2 i (by omega), List.getElem?_map, hu]; rfl
        have hUA := HW.out i u hu
        rw [← AJ.out] at hUA
        have hso := HWS.out (i + 1) hj
        rw [← AJ.out, abs_srt, abs_len] at hso
        have CU := undo_step (LJ.out.grow (b := wr.drew) ⟨rfl, rfl, rfl, Nat.le_refl _, fun _ _ _ => rfl⟩) (List.mem_of_getElem? hu) hUA hso.1 hso.2
        obtain ⟨es, ck, hmk⟩ := LJ.out.d.mp.kind
        have nmc : ∀ {b o : Nat} {x : Value}, wr.cell? ⟨b, o, none⟩ = some x → ¬ b = m := fun {b o x} h e => by subst e; unfold World.cell? at h; simp only at h; rw [hmk] at h; cases h
        clear h1 h2 c0 c3 hso LJ AJ
        go_wp2_with fail
        refine (KP.out _).mono ?_
        rintro e wx ⟨rfl, hwx⟩; have hwx2 := hwx.symm; subst hwx2; clear hwx
        go_wp2_with fail
        refine wp_region_noPanic ?_
        rcases hUA with ⟨c, n, rfl, _, _⟩ | ⟨c, cl, n, X, jj, rfl, _, _⟩ | ⟨ct, cf', cl, t, s, x, z, rfl, _, _, _, _, _⟩
        · replace cu : wr.cell? ⟨g, i, none⟩ = some (.func (.func 63) #[] #[.pointer (some ⟨c, 0, none⟩)]) := cu
          have CU2 : Hid (Calls Try.prog 63 #[.map (some m), .pointer (some ⟨c, 0, none⟩)] wr.drew (fun e b => e = .returned (.tuple #[]) ∧ (∃ ys', absX ys' = W i ∧ Lp P w b base f q st m (.slice (some ⟨g, 0, none⟩) us.length Co) ys' us) ∧ Chg (fun i => i = m) wr.drew b)) := CU
          clear CU
          refine wp_region_held_drew (S := fun w' => w'.cell? ⟨f, 2, none⟩ = some (.slice (some ⟨g, 0, none⟩) us.length Co) ∧ w'.cell? ⟨g, i, none⟩ = some (.func (.func 63) #[] #[.pointer (some ⟨c, 0, none⟩)]) ∧ w'.cell? ⟨f, 1, none⟩ = some (.map (some m))) (by kernel_rfl) ⟨c2, cu, c1⟩ (fun hH => ?_)
          refine tKx (i := 0) (v := .pointer (some ⟨f, 0, none⟩)) rfl rfl (by kernel_rfl) (fun _ _ _ h => h) ?_ hH ?_
          · intro w5 hSw; obtain ⟨hv1, hv2, hv3⟩ := hSw; go_simp
          simp only [zA9, zB9, zC9]
          refine tKx (i := 1) (v := .pointer (some ⟨f, 0, none⟩)) rfl rfl (by kernel_rfl) (fun _ _ _ h => h) ?_ hH ?_
          · intro w5 hSw; obtain ⟨hv1, hv2, hv3⟩ := hSw; go_simp
          simp only [zA9, zB9, zC9]
          refine tKx (i := 2) (v := .pointer (some ⟨f, 2, none⟩)) rfl rfl (by kernel_rfl) (fun _ _ _ h => h) ?_ hH ?_
          · intro w5 hSw; obtain ⟨hv1, hv2, hv3⟩ := hSw; go_simp
          simp only [zA9, zB9, zC9]
          refine tKx (i := 3) (v := .slice (some ⟨g, 0, none⟩) us.length Co) rfl rfl (by kernel_rfl) (fun _ _ _ h => h) ?_ hH ?_
          · intro w5 hSw; obtain ⟨hv1, hv2, hv3⟩ := hSw; go_simp
          simp only [zA9, zB9, zC9]
          refine tKx (i := 4) (v := .int .i64 (i : Int)) rfl rfl (by kernel_rfl) (fun _ _ _ h => h) ?_ hH ?_
          · intro w5 hSw; obtain ⟨hv1, hv2, hv3⟩ := hSw; go_simp
          simp only [zA9, zB9, zC9]
          refine tKx (i := 5) (v := .pointer (some ⟨g, i, none⟩)) rfl rfl (by kernel_rfl) (fun _ _ _ h => h) ?_ hH ?_
          · intro w5 hSw; obtain ⟨hv1, hv2, hv3⟩ := hSw; go_simp
          simp only [zA9, zB9, zC9]
          refine tKx (i := 6) (v := .func (.func 63) #[] #[.pointer (some ⟨c, 0, none⟩)]) rfl rfl (by kernel_rfl) (fun _ _ _ h => h) ?_ hH ?_
          · intro w5 hSw; obtain ⟨hv1, hv2, hv3⟩ := hSw; go_simp
          simp only [zA9, zB9, zC9]
          refine tKx (i := 7) (v := .pointer (some ⟨f, 0, none⟩)) rfl rfl (by kernel_rfl) (fun _ _ _ h => h) ?_ hH ?_
          · intro w5 hSw; obtain ⟨hv1, hv2, hv3⟩ := hSw; go_simp
          simp only [zA9, zB9, zC9]
          refine tKx (i := 8) (v := .pointer (some ⟨f, 0, none⟩)) rfl rfl (by kernel_rfl) (fun _ _ _ h => h) ?_ hH ?_
          · intro w5 hSw; obtain ⟨hv1, hv2, hv3⟩ := hSw; go_simp
          simp only [zA9, zB9, zC9]
          refine tKx (i := 9) (v := .pointer (some ⟨f, 1, none⟩)) rfl rfl (by kernel_rfl) (fun _ _ _ h => h) ?_ hH ?_
          · intro w5 hSw; obtain ⟨hv1, hv2, hv3⟩ := hSw; go_simp
          simp only [zA9, zB9, zC9]
          refine tKx (i := 10) (v := .map (some m)) rfl rfl (by kernel_rfl) (fun _ _ _ h => h) ?_ hH ?_
          · intro w5 hSw; obtain ⟨hv1, hv2, hv3⟩ := hSw; go_simp
          simp only [zA9, zB9, zC9]
          refine wpAnyH_ready (rs := [11]) (by kernel_rfl) (by simp) ?_
          refine AllReadyH.cons rfl (fun K hK => ?_) AllReadyH.nil
          go_simp
          go_at_call 63
          refine CU2.out.mono ?_
          rintro e w2 ⟨rfl, ⟨zs, AZ, LZ⟩, CZ⟩
          go_wp2_with fail
          refine hK.out _ _ ⟨cellC CZ c2 (nmc c2), cellC CZ cu (nmc cu), cellC CZ c1 (nmc c1)⟩ (fun _ => ?_)
          clear hK K hH
          refine wpAnyH_done (by kernel_rfl) ?_ _
          refine NoPanic.normal ?_
          have AZ' := mkHid AZ
          have LZ' := mkHid LZ
          clear CZ AZ LZ
          go_wp2_with fail
          go_roundw
          case rel => exact ⟨i, zs, by first | rfl | (congr 1; omega), by omega, by omega, AZ', LZ'⟩
          case measure => first | (simp [intOf]; done) | (simp [intOf]; omega)
        · replace cu : wr.cell? ⟨g, i, none⟩ = some (.func (.func 73) #[] #[.pointer (some ⟨c, 0, none⟩), .pointer (some ⟨cl, 0, none⟩)]) := cu
          have CU2 : Hid (Calls Try.prog 73 #[.map (some m), .pointer (some ⟨c, 0, none⟩), .pointer (some ⟨cl, 0, none⟩)] wr.drew (fun e b => e = .returned (.tuple #[]) ∧ (∃ ys', absX ys' = W i ∧ Lp P w b base f q st m (.slice (some ⟨g, 0, none⟩) us.length Co) ys' us) ∧ Chg (fun i => i = m) wr.drew b)) := CU
          clear CU
          refine wp_region_held_drew (S := fun w' => w'.cell? ⟨f, 2, none⟩ = some (.slice (some ⟨g, 0, none⟩) us.length Co) ∧ w'.cell? ⟨g, i, none⟩ = some (.func (.func 73) #[] #[.pointer (some ⟨c, 0, none⟩), .pointer (some ⟨cl, 0, none⟩)]) ∧ w'.cell? ⟨f, 1, none⟩ = some (.map (some m))) (by kernel_rfl) ⟨c2, cu, c1⟩ (fun hH => ?_)
          refine tKx (i := 0) (v := .pointer (some ⟨f, 0, none⟩)) rfl rfl (by kernel_rfl) (fun _ _ _ h => h) ?_ hH ?_
          · intro w5 hSw; obtain ⟨hv1, hv2, hv3⟩ := hSw; go_simp
          simp only [zA9, zB9, zC9]
          refine tKx (i := 1) (v := .pointer (some ⟨f, 0, none⟩)) rfl rfl (by kernel_rfl) (fun _ _ _ h => h) ?_ hH ?_
          · intro w5 hSw; obtain ⟨hv1, hv2, hv3⟩ := hSw; go_simp
          simp only [zA9, zB9, zC9]
          refine tKx (i := 2) (v := .pointer (some ⟨f, 2, none⟩)) rfl rfl (by kernel_rfl) (fun _ _ _ h => h) ?_ hH ?_
          · intro w5 hSw; obtain ⟨hv1, hv2, hv3⟩ := hSw; go_simp
          simp only [zA9, zB9, zC9]
          refine tKx (i := 3) (v := .slice (some ⟨g, 0, none⟩) us.length Co) rfl rfl (by kernel_rfl) (fun _ _ _ h => h) ?_ hH ?_
          · intro w5 hSw; obtain ⟨hv1, hv2, hv3⟩ := hSw; go_simp
          simp only [zA9, zB9, zC9]
          refine tKx (i := 4) (v := .int .i64 (i : Int)) rfl rfl (by kernel_rfl) (fun _ _ _ h => h) ?_ hH ?_
          · intro w5 hSw; obtain ⟨hv1, hv2, hv3⟩ := hSw; go_simp
          simp only [zA9, zB9, zC9]
          refine tKx (i := 5) (v := .pointer (some ⟨g, i, none⟩)) rfl rfl (by kernel_rfl) (fun _ _ _ h => h) ?_ hH ?_
          · intro w5 hSw; obtain ⟨hv1, hv2, hv3⟩ := hSw; go_simp
          simp only [zA9, zB9, zC9]
          refine tKx (i := 6) (v := .func (.func 73) #[] #[.pointer (some ⟨c, 0, none⟩), .pointer (some ⟨cl, 0, none⟩)]) rfl rfl (by kernel_rfl) (fun _ _ _ h => h) ?_ hH ?_
          · intro w5 hSw; obtain ⟨hv1, hv2, hv3⟩ := hSw; go_simp
          simp only [zA9, zB9, zC9]
          refine tKx (i := 7) (v := .pointer (some ⟨f, 0, none⟩)) rfl rfl (by kernel_rfl) (fun _ _ _ h => h) ?_ hH ?_
          · intro w5 hSw; obtain ⟨hv1, hv2, hv3⟩ := hSw; go_simp
          simp only [zA9, zB9, zC9]
          refine tKx (i := 8) (v := .pointer (some ⟨f, 0, none⟩)) rfl rfl (by kernel_rfl) (fun _ _ _ h => h) ?_ hH ?_
          · intro w5 hSw; obtain ⟨hv1, hv2, hv3⟩ := hSw; go_simp
          simp only [zA9, zB9, zC9]
          refine tKx (i := 9) (v := .pointer (some ⟨f, 1, none⟩)) rfl rfl (by kernel_rfl) (fun _ _ _ h => h) ?_ hH ?_
          · intro w5 hSw; obtain ⟨hv1, hv2, hv3⟩ := hSw; go_simp
          simp only [zA9, zB9, zC9]
          refine tKx (i := 10) (v := .map (some m)) rfl rfl (by kernel_rfl) (fun _ _ _ h => h) ?_ hH ?_
          · intro w5 hSw; obtain ⟨hv1, hv2, hv3⟩ := hSw; go_simp
          simp only [zA9, zB9, zC9]
          refine wpAnyH_ready (rs := [11]) (by kernel_rfl) (by simp) ?_
          refine AllReadyH.cons rfl (fun K hK => ?_) AllReadyH.nil
          go_simp
          go_at_call 73
          refine CU2.out.mono ?_
          rintro e w2 ⟨rfl, ⟨zs, AZ, LZ⟩, CZ⟩
          go_wp2_with fail
          refine hK.out _ _ ⟨cellC CZ c2 (nmc c2), cellC CZ cu (nmc cu), cellC CZ c1 (nmc c1)⟩ (fun _ => ?_)
          clear hK K hH
          refine wpAnyH_done (by kernel_rfl) ?_ _
          refine NoPanic.normal ?_
          have AZ' := mkHid AZ
          have LZ' := mkHid LZ
          clear CZ AZ LZ
          go_wp2_with fail
          go_roundw
          case rel => exact ⟨i, zs, by first | rfl | (congr 1; omega), by omega, by omega, AZ', LZ'⟩
          case measure => first | (simp [intOf]; done) | (simp [intOf]; omega)
        · replace cu : wr.cell? ⟨g, i, none⟩ = some (.func (.func 71) #[] #[.pointer (some ⟨ct, 0, none⟩), .pointer (some ⟨cf', 0, none⟩), .pointer (some ⟨cl, 0, none⟩)]) := cu
          have CU2 : Hid (Calls Try.prog 71 #[.map (some m), .pointer (some ⟨ct, 0, none⟩), .pointer (some ⟨cf', 0, none⟩), .pointer (some ⟨cl, 0, none⟩)] wr.drew (fun e b => e = .returned (.tuple #[]) ∧ (∃ ys', absX ys' = W i ∧ Lp P w b base f q st m (.slice (some ⟨g, 0, none⟩) us.length Co) ys' us) ∧ Chg (fun i => i = m) wr.drew b)) := CU
          clear CU
          refine wp_region_held_drew (S := fun w' => w'.cell? ⟨f, 2, none⟩ = some (.slice (some ⟨g, 0, none⟩) us.length Co) ∧ w'.cell? ⟨g, i, none⟩ = some (.func (.func 71) #[] #[.pointer (some ⟨ct, 0, none⟩), .pointer (some ⟨cf', 0, none⟩), .pointer (some ⟨cl, 0, none⟩)]) ∧ w'.cell? ⟨f, 1, none⟩ = some (.map (some m))) (by kernel_rfl) ⟨c2, cu, c1⟩ (fun hH => ?_)
          refine tKx (i := 0) (v := .pointer (some ⟨f, 0, none⟩)) rfl rfl (by kernel_rfl) (fun _ _ _ h => h) ?_ hH ?_
          · intro w5 hSw; obtain ⟨hv1, hv2, hv3⟩ := hSw; go_simp
          simp only [zA9, zB9, zC9]
          refine tKx (i := 1) (v := .pointer (some ⟨f, 0, none⟩)) rfl rfl (by kernel_rfl) (fun _ _ _ h => h) ?_ hH ?_
          · intro w5 hSw; obtain ⟨hv1, hv2, hv3⟩ := hSw; go_simp
          simp only [zA9, zB9, zC9]
          refine tKx (i := 2) (v := .pointer (some ⟨f, 2, none⟩)) rfl rfl (by kernel_rfl) (fun _ _ _ h => h) ?_ hH ?_
          · intro w5 hSw; obtain ⟨hv1, hv2, hv3⟩ := hSw; go_simp
          simp only [zA9, zB9, zC9]
          refine tKx (i := 3) (v := .slice (some ⟨g, 0, none⟩) us.length Co) rfl rfl (by kernel_rfl) (fun _ _ _ h => h) ?_ hH ?_
          · intro w5 hSw; obtain ⟨hv1, hv2, hv3⟩ := hSw; go_simp
          simp only [zA9, zB9, zC9]
          refine tKx (i := 4) (v := .int .i64 (i : Int)) rfl rfl (by kernel_rfl) (fun _ _ _ h => h) ?_ hH ?_
          · intro w5 hSw; obtain ⟨hv1, hv2, hv3⟩ := hSw; go_simp
          simp only [zA9, zB9, zC9]
          refine tKx (i := 5) (v := .pointer (some ⟨g, i, none⟩)) rfl rfl (by kernel_rfl) (fun _ _ _ h => h) ?_ hH ?_
          · intro w5 hSw; obtain ⟨hv1, hv2, hv3⟩ := hSw; go_simp
          simp only [zA9, zB9, zC9]
          refine tKx (i := 6) (v := .func (.func 71) #[] #[.pointer (some ⟨ct, 0, none⟩), .pointer (some ⟨cf', 0, none⟩), .pointer (some ⟨cl, 0, none⟩)]) rfl rfl (by kernel_rfl) (fun _ _ _ h => h) ?_ hH ?_
          · intro w5 hSw; obtain ⟨hv1, hv2, hv3⟩ := hSw; go_simp
          simp only [zA9, zB9, zC9]
          refine tKx (i := 7) (v := .pointer (some ⟨f, 0, none⟩)) rfl rfl (by kernel_rfl) (fun _ _ _ h => h) ?_ hH ?_
          · intro w5 hSw; obtain ⟨hv1, hv2, hv3⟩ := hSw; go_simp
          simp only [zA9, zB9, zC9]
          refine tKx (i := 8) (v := .pointer (some ⟨f, 0, none⟩)) rfl rfl (by kernel_rfl) (fun _ _ _ h => h) ?_ hH ?_
          · intro w5 hSw; obtain ⟨hv1, hv2, hv3⟩ := hSw; go_simp
          simp only [zA9, zB9, zC9]
          refine tKx (i := 9) (v := .pointer (some ⟨f, 1, none⟩)) rfl rfl (by kernel_rfl) (fun _ _ _ h => h) ?_ hH ?_
          · intro w5 hSw; obtain ⟨hv1, hv2, hv3⟩ := hSw; go_simp
          simp only [zA9, zB9, zC9]
          refine tKx (i := 10) (v := .map (some m)) rfl rfl (by kernel_rfl) (fun _ _ _ h => h) ?_ hH ?_
          · intro w5 hSw; obtain ⟨hv1, hv2, hv3⟩ := hSw; go_simp
          simp only [zA9, zB9, zC9]
          refine wpAnyH_ready (rs := [11]) (by kernel_rfl) (by simp) ?_
          refine AllReadyH.cons rfl (fun K hK => ?_) AllReadyH.nil
          go_simp
          go_at_call 71
          refine CU2.out.mono ?_
          rintro e w2 ⟨rfl, ⟨zs, AZ, LZ⟩, CZ⟩
          go_wp2_with fail
          refine hK.out _ _ ⟨cellC CZ c2 (nmc c2), cellC CZ cu (nmc cu), cellC CZ c1 (nmc c1)⟩ (fun _ => ?_)
          clear hK K hH
          refine wpAnyH_done (by kernel_rfl) ?_ _
          refine NoPanic.normal ?_
          have AZ' := mkHid AZ
          have LZ' := mkHid LZ
          clear CZ AZ LZ
          go_wp2_with fail
          go_roundw
          case rel => exact ⟨i, zs, by first | rfl | (congr 1; omega), by omega, by omega, AZ', LZ'⟩
          case measure => first | (simp [intOf]; done) | (simp [intOf]; omega)
      · obtain rfl : k = j := by omega
        have hkn : ¬ (k : Int) ≤ (k : Int) - 1 := by omega
        have L := mkHid LJ.out.clear
        have f2 := cf 2
        have hlt := lt_of_heap h1
        clear h1 h2 LJ c0 c1 c3 cf
        go_wp2_with fail
        refine (KP.out _).mono ?_
        rintro e wx ⟨rfl, hwx⟩; have hwx2 := hwx.symm; subst hwx2; clear hwx
        go_wp2_with fail
        go_end0
        exact ⟨rfl, ys, AJ.out, L.out⟩
end Go.Proofs.Ytdiehlioemmakaa

