/-
  The walk of simfs.loseNames: the open changes of names are taken back, the last one first, but for the first ones.
-/
import Derived.Test.YtdiehlioemmakaaUB
import Derived.Test.YtdiehlioemmakaaIter
namespace Go.Proofs.Ytdiehlioemmakaa
open Go.RowKit Go.Maps Go.Joins

/-- the call of a closure that takes a change back -/
def callU (m : Nat) (w : World) (R : Ending → World → Prop) (u : Un) : Prop :=
  match u.r with
  | none => Calls Try.prog 63 #[.map (some m), .pointer (some ⟨u.c, 0, none⟩)] w R
  | some y => Calls Try.prog 71 #[.map (some m), .pointer (some ⟨u.c, 0, none⟩), .pointer (some ⟨y.1, 0, none⟩), .pointer (some ⟨y.2.1, 0, none⟩)] w R
theorem Disk.drewN {w : World} {base f m : Nat} {q : Int} {xs : List (List UInt8 × Fl)} {us : List Un} (h : Disk w base f q m xs us) (n : Nat) : Disk (w.drewN n) base f q m xs us := h.kept ⟨rfl, rfl, rfl, Nat.le_refl _, fun _ _ _ => rfl⟩

/-- below base nothing has changed, and no block of numbers anywhere -/
def Kp (base : Nat) (w w' : World) : Prop := Below base w w' ∧ ∀ (g : Nat) (cs : Array Value) (fr : Nat × Nat), w.heap[g]? = some (.cells cs 3 fr) → w'.heap[g]? = some (.cells cs 3 fr)
theorem Kp.refl (base : Nat) (w : World) : Kp base w w := ⟨Below.refl _ _, fun _ _ _ h => h⟩
theorem Kp.trans {base : Nat} {a b c : World} (h : Kp base a b) (k : Kp base b c) : Kp base a c := ⟨h.1.trans k.1, fun g cs fr hg => k.2 g cs fr (h.2 g cs fr hg)⟩
theorem Kp.drewN {base : Nat} {a b : World} (h : Kp base a b) (n : Nat) : Kp base a (b.drewN n) := ⟨below_drewN h.1 n, h.2⟩
theorem Kp.of_chg {base : Nat} {S : Nat → Prop} {w w' : World} (h : Chg S w w') (hb : base ≤ w.heap.size) (hs : ∀ i, S i → base ≤ i) (hk : ∀ i, S i → ∀ cs fr, w.heap[i]? ≠ some (.cells cs 3 fr)) : Kp base w w' :=
  ⟨h.below hb hs, fun g cs fr hg => h.at_ hg (fun e => hk g e cs fr hg)⟩
theorem cellC {S : Nat → Prop} {w w' : World} {b o : Nat} {x : Value} (h : Chg S w w') (hc : w.cell? ⟨b, o, none⟩ = some x) (hn : ¬ S b) : w'.cell? ⟨b, o, none⟩ = some x :=
  (World.cell?_of_block (h.block b (World.block_lt_of_cell? w ⟨b, o, none⟩ hc) hn)).trans hc

set_option maxHeartbeats 8000000 in
set_option maxRecDepth 1000000 in
theorem loseNames_ok (base f m : Nat) (q names : Int) (us : List Un) (St : Nat → List (List UInt8 × Fl) → Prop) (xs : List (List UInt8 × Fl)) (w : World) (hn : -9223372036854775808 ≤ names ∧ names ≤ 9223372036854775807) (hus : us.length ≤ 1000)
    (hstep : ∀ j u xs w, us[j]? = some u → Disk w base f q m xs us → St (j + 1) xs → callU m w (fun e w' => e = .returned (.tuple #[]) ∧ (∃ xs', Disk w' base f q m xs' us ∧ St j xs') ∧ Chg (fun i => i = m) w w') u)
    (h0 : St us.length xs) (d : Disk w base f q m xs us) :
    Calls Try.prog 54 #[.pointer (some ⟨f, 0, none⟩), .int .i64 names] w fun e w' => e = .returned (.tuple #[]) ∧ (∃ xs', Disk w' base f q m xs' [] ∧ St (kp names us.length) xs') ∧ Kp base w w' := by
  obtain ⟨k, hk⟩ : ∃ k, k = kp names us.length := ⟨_, rfl⟩
  have hkl : k ≤ us.length := by rw [hk]; unfold kp; have := Nat.mod_lt (max 0 names).toNat (show 0 < us.length + 1 by omega); omega
  have KP : Hid (∀ w, Calls Try.prog 74 #[.int .i64 names, .int .i64 (us.length : Int)] w fun e w' => e = .returned (.int .i64 (k : Int)) ∧ w' = w) := fun w => hk ▸ kept_any names us.length w hn (by omega)
  rw [← hk]
  clear hk hn
  have HS : Hid (∀ j u xs w, us[j]? = some u → Disk w base f q m xs us → St (j + 1) xs → callU m w (fun e w' => e = .returned (.tuple #[]) ∧ (∃ xs', Disk w' base f q m xs' us ∧ St j xs') ∧ Chg (fun i => i = m) w w') u) := hstep
  have H0 : Hid (St us.length xs) := h0
  have D : Hid (Disk w base f q m xs us) := d
  obtain ⟨ov, h1, h2⟩ := d.fs
  obtain ⟨Po, Co, rfl⟩ := row_form h2
  obtain ⟨c0, c1, c2, c3, cf⟩ := h1.c
  clear hstep h0 d h1 h2 c0 c1 c3
  go_enter Try.func54, Try.ntmps54
  go_wp2_with fail
  go_loopw [4] (fun s4 wr => ∃ (j : Nat) (xs' : List (List UInt8 × Fl)), s4 = .int .i64 ((j : Int) - 1) ∧ j ≤ us.length ∧ k ≤ j ∧ Hid (Disk wr base f q m xs' us) ∧ Hid (St j xs') ∧ Kp base w wr) (fun s4 _ => (intOf s4 + 1).toNat)
  case atStart => exact ⟨us.length, xs, by first | rfl | (congr 1; omega), Nat.le_refl _, hkl, D, H0, Kp.refl _ _⟩
  case round =>
    obtain ⟨j, ys, rfl, hj, hkj, DJ, SJ, BJ⟩ := hrel
    obtain ⟨ov, h1, h2⟩ := DJ.out.fs
    obtain ⟨Po, Co, rfl⟩ := row_form h2
    obtain ⟨c0, c1, c2, c3, cf⟩ := h1.c
    by_cases hgo : k < j
    · obtain ⟨i, rfl⟩ : ∃ i, j = i + 1 := ⟨j - 1, by omega⟩
      have ei : ((i + 1 : Nat) : Int) - 1 = (i : Int) := by omega
      rw [ei]
      have hki : (k : Int) ≤ (i : Int) := by omega
      obtain ⟨u, hu⟩ : ∃ u, us[i]? = some u := ⟨us[i], List.getElem?_eq_getElem (by omega)⟩
      have hil : (i : Int) < (us.length : Int) := by omega
      obtain ⟨g, hg⟩ : ∃ g, Po = some ⟨g, 0, none⟩ := by
        rcases h2.2 with ⟨e, h0⟩ | ⟨g, cap, cur, e, _⟩
        · exfalso; omega
        · cases e; exact ⟨g, rfl⟩
      subst hg
      have cu : wr.cell? ⟨g, i, none⟩ = some u.val := by
        rw [World.ownsRow.cellAt h2 i (by omega), List.getElem?_map, hu]; rfl
      have CU := HS.out i u ys wr.drew hu (DJ.out.drewN 1) SJ.out
      have bJ : base ≤ wr.heap.size := DJ.out.bs
      go_wp2_with fail
      refine (KP.out _).mono ?_
      rintro e wx ⟨rfl, hwx⟩; have hwx2 := hwx.symm; subst hwx2; clear hwx
      go_wp2_with fail
      have hmk := DJ.out.mp.kind
      have nmc : ∀ {b o : Nat} {x : Value}, wr.cell? ⟨b, o, none⟩ = some x → b ≠ m := fun h e => by
        obtain ⟨es, ck, hk⟩ := hmk
        subst e
        simp [World.cell?, hk] at h
      clear h1 h2 DJ SJ hu
      refine wp_region_noPanic ?_
      obtain ⟨c, n, rr⟩ := u
      cases rr with
      | none =>
        replace cu : wr.cell? ⟨g, i, none⟩ = some (.func (.func 63) #[] #[.pointer (some ⟨c, 0, none⟩)]) := cu
        have CU2 : Hid (Calls Try.prog 63 #[.map (some m), .pointer (some ⟨c, 0, none⟩)] wr.drew (fun e w' => e = .returned (.tuple #[]) ∧ (∃ xs', Disk w' base f q m xs' us ∧ St i xs') ∧ Chg (fun i => i = m) wr.drew w')) := CU
        clear CU
        refine wp_region_held_drew (S := fun w' => w'.cell? ⟨f, 2, none⟩ = some (.slice (some ⟨g, 0, none⟩) us.length Co) ∧ w'.cell? ⟨g, i, none⟩ = some (.func (.func 63) #[] #[.pointer (some ⟨c, 0, none⟩)]) ∧ w'.cell? ⟨f, 1, none⟩ = some (.map (some m))) (by kernel_rfl) ⟨c2, cu, c1⟩ (fun hH => ?_)
        refine tKx (i := 0) (v := .pointer (some ⟨f, 0, none⟩)) rfl rfl (by kernel_rfl) (fun _ _ _ h => h) ?_ hH ?_
        · intro v hv; obtain ⟨hv1, hv2, hv3⟩ := hv; go_simp
        simp only [zA9, zB9, zC9]
        refine tKx (i := 1) (v := .pointer (some ⟨f, 0, none⟩)) rfl rfl (by kernel_rfl) (fun _ _ _ h => h) ?_ hH ?_
        · intro v hv; obtain ⟨hv1, hv2, hv3⟩ := hv; go_simp
        simp only [zA9, zB9, zC9]
        refine tKx (i := 2) (v := .pointer (some ⟨f, 2, none⟩)) rfl rfl (by kernel_rfl) (fun _ _ _ h => h) ?_ hH ?_
        · intro v hv; obtain ⟨hv1, hv2, hv3⟩ := hv; go_simp
        simp only [zA9, zB9, zC9]
        refine tKx (i := 3) (v := .slice (some ⟨g, 0, none⟩) us.length Co) rfl rfl (by kernel_rfl) (fun _ _ _ h => h) ?_ hH ?_
        · intro v hv; obtain ⟨hv1, hv2, hv3⟩ := hv; go_simp
        simp only [zA9, zB9, zC9]
        refine tKx (i := 4) (v := .int .i64 (i : Int)) rfl rfl (by kernel_rfl) (fun _ _ _ h => h) ?_ hH ?_
        · intro v hv; obtain ⟨hv1, hv2, hv3⟩ := hv; go_simp
        simp only [zA9, zB9, zC9]
        refine tKx (i := 5) (v := .pointer (some ⟨g, i, none⟩)) rfl rfl (by kernel_rfl) (fun _ _ _ h => h) ?_ hH ?_
        · intro v hv; obtain ⟨hv1, hv2, hv3⟩ := hv; go_simp
        simp only [zA9, zB9, zC9]
        refine tKx (i := 6) (v := .func (.func 63) #[] #[.pointer (some ⟨c, 0, none⟩)]) rfl rfl (by kernel_rfl) (fun _ _ _ h => h) ?_ hH ?_
        · intro v hv; obtain ⟨hv1, hv2, hv3⟩ := hv; go_simp
        simp only [zA9, zB9, zC9]
        refine tKx (i := 7) (v := .pointer (some ⟨f, 0, none⟩)) rfl rfl (by kernel_rfl) (fun _ _ _ h => h) ?_ hH ?_
        · intro v hv; obtain ⟨hv1, hv2, hv3⟩ := hv; go_simp
        simp only [zA9, zB9, zC9]
        refine tKx (i := 8) (v := .pointer (some ⟨f, 0, none⟩)) rfl rfl (by kernel_rfl) (fun _ _ _ h => h) ?_ hH ?_
        · intro v hv; obtain ⟨hv1, hv2, hv3⟩ := hv; go_simp
        simp only [zA9, zB9, zC9]
        refine tKx (i := 9) (v := .pointer (some ⟨f, 1, none⟩)) rfl rfl (by kernel_rfl) (fun _ _ _ h => h) ?_ hH ?_
        · intro v hv; obtain ⟨hv1, hv2, hv3⟩ := hv; go_simp
        simp only [zA9, zB9, zC9]
        refine tKx (i := 10) (v := .map (some m)) rfl rfl (by kernel_rfl) (fun _ _ _ h => h) ?_ hH ?_
        · intro v hv; obtain ⟨hv1, hv2, hv3⟩ := hv; go_simp
        simp only [zA9, zB9, zC9]
        refine wpAnyH_ready (rs := [11]) (by kernel_rfl) (by simp) ?_
        refine AllReadyH.cons rfl (fun K hK => ?_) AllReadyH.nil
        go_simp
        go_at_call 63
        refine CU2.out.mono ?_
        rintro e w2 ⟨rfl, ⟨zs, DZ, SZ⟩, CZ⟩
        go_wp2_with fail
        have hH2 : (fun w' : World => w'.cell? ⟨f, 2, none⟩ = some (.slice (some ⟨g, 0, none⟩) us.length Co) ∧ w'.cell? ⟨g, i, none⟩ = some (.func (.func 63) #[] #[.pointer (some ⟨c, 0, none⟩)]) ∧ w'.cell? ⟨f, 1, none⟩ = some (.map (some m))) w2 := ⟨cellC CZ c2 (nmc c2), cellC CZ cu (nmc cu), cellC CZ c1 (nmc c1)⟩
        refine hK.out _ _ hH2 (fun _ => ?_)
        clear hK K hH hH2
        refine wpAnyH_done (by kernel_rfl) ?_ _
        refine NoPanic.normal ?_
        have BZ : Kp base wr w2 := ⟨⟨CZ.os, CZ.tape, CZ.output, CZ.size, fun k hk => CZ.block k (Nat.lt_of_lt_of_le hk bJ) (fun e => by have := DZ.mge; omega)⟩, fun g cs fr hg => CZ.at_ hg (fun e => by obtain ⟨es, ck, hk⟩ := hmk; subst e; rw [hk] at hg; cases hg)⟩
        go_wp2_with fail
        go_roundw
        case rel => exact ⟨i, zs, by first | rfl | (congr 1; omega), by omega, by omega, DZ, SZ, BJ.trans BZ⟩
        case measure => first | (simp [intOf]; done) | (simp [intOf]; omega)
      | some y =>
        obtain ⟨cf', cl, f', X⟩ := y
        obtain ⟨ct, hct⟩ : ∃ ct, ct = c := ⟨_, rfl⟩
        rw [← hct] at cu CU
        clear hct
        replace cu : wr.cell? ⟨g, i, none⟩ = some (.func (.func 71) #[] #[.pointer (some ⟨ct, 0, none⟩), .pointer (some ⟨cf', 0, none⟩), .pointer (some ⟨cl, 0, none⟩)]) := cu
        have CU2 : Hid (Calls Try.prog 71 #[.map (some m), .pointer (some ⟨ct, 0, none⟩), .pointer (some ⟨cf', 0, none⟩), .pointer (some ⟨cl, 0, none⟩)] wr.drew (fun e w' => e = .returned (.tuple #[]) ∧ (∃ xs', Disk w' base f q m xs' us ∧ St i xs') ∧ Chg (fun i => i = m) wr.drew w')) := CU
        clear CU
        refine wp_region_held_drew (S := fun w' => w'.cell? ⟨f, 2, none⟩ = some (.slice (some ⟨g, 0, none⟩) us.length Co) ∧ w'.cell? ⟨g, i, none⟩ = some (.func (.func 71) #[] #[.pointer (some ⟨ct, 0, none⟩), .pointer (some ⟨cf', 0, none⟩), .pointer (some ⟨cl, 0, none⟩)]) ∧ w'.cell? ⟨f, 1, none⟩ = some (.map (some m))) (by kernel_rfl) ⟨c2, cu, c1⟩ (fun hH => ?_)
        refine tKx (i := 0) (v := .pointer (some ⟨f, 0, none⟩)) rfl rfl (by kernel_rfl) (fun _ _ _ h => h) ?_ hH ?_
        · intro v hv; obtain ⟨hv1, hv2, hv3⟩ := hv; go_simp
        simp only [zA9, zB9, zC9]
        refine tKx (i := 1) (v := .pointer (some ⟨f, 0, none⟩)) rfl rfl (by kernel_rfl) (fun _ _ _ h => h) ?_ hH ?_
        · intro v hv; obtain ⟨hv1, hv2, hv3⟩ := hv; go_simp
        simp only [zA9, zB9, zC9]
        refine tKx (i := 2) (v := .pointer (some ⟨f, 2, none⟩)) rfl rfl (by kernel_rfl) (fun _ _ _ h => h) ?_ hH ?_
        · intro v hv; obtain ⟨hv1, hv2, hv3⟩ := hv; go_simp
        simp only [zA9, zB9, zC9]
        refine tKx (i := 3) (v := .slice (some ⟨g, 0, none⟩) us.length Co) rfl rfl (by kernel_rfl) (fun _ _ _ h => h) ?_ hH ?_
        · intro v hv; obtain ⟨hv1, hv2, hv3⟩ := hv; go_simp
        simp only [zA9, zB9, zC9]
        refine tKx (i := 4) (v := .int .i64 (i : Int)) rfl rfl (by kernel_rfl) (fun _ _ _ h => h) ?_ hH ?_
        · intro v hv; obtain ⟨hv1, hv2, hv3⟩ := hv; go_simp
        simp only [zA9, zB9, zC9]
        refine tKx (i := 5) (v := .pointer (some ⟨g, i, none⟩)) rfl rfl (by kernel_rfl) (fun _ _ _ h => h) ?_ hH ?_
        · intro v hv; obtain ⟨hv1, hv2, hv3⟩ := hv; go_simp
        simp only [zA9, zB9, zC9]
        refine tKx (i := 6) (v := .func (.func 71) #[] #[.pointer (some ⟨ct, 0, none⟩), .pointer (some ⟨cf', 0, none⟩), .pointer (some ⟨cl, 0, none⟩)]) rfl rfl (by kernel_rfl) (fun _ _ _ h => h) ?_ hH ?_
        · intro v hv; obtain ⟨hv1, hv2, hv3⟩ := hv; go_simp
        simp only [zA9, zB9, zC9]
        refine tKx (i := 7) (v := .pointer (some ⟨f, 0, none⟩)) rfl rfl (by kernel_rfl) (fun _ _ _ h => h) ?_ hH ?_
        · intro v hv; obtain ⟨hv1, hv2, hv3⟩ := hv; go_simp
        simp only [zA9, zB9, zC9]
        refine tKx (i := 8) (v := .pointer (some ⟨f, 0, none⟩)) rfl rfl (by kernel_rfl) (fun _ _ _ h => h) ?_ hH ?_
        · intro v hv; obtain ⟨hv1, hv2, hv3⟩ := hv; go_simp
        simp only [zA9, zB9, zC9]
        refine tKx (i := 9) (v := .pointer (some ⟨f, 1, none⟩)) rfl rfl (by kernel_rfl) (fun _ _ _ h => h) ?_ hH ?_
        · intro v hv; obtain ⟨hv1, hv2, hv3⟩ := hv; go_simp
        simp only [zA9, zB9, zC9]
        refine tKx (i := 10) (v := .map (some m)) rfl rfl (by kernel_rfl) (fun _ _ _ h => h) ?_ hH ?_
        · intro v hv; obtain ⟨hv1, hv2, hv3⟩ := hv; go_simp
        simp only [zA9, zB9, zC9]
        refine wpAnyH_ready (rs := [11]) (by kernel_rfl) (by simp) ?_
        refine AllReadyH.cons rfl (fun K hK => ?_) AllReadyH.nil
        go_simp
        go_at_call 71
        refine CU2.out.mono ?_
        rintro e w2 ⟨rfl, ⟨zs, DZ, SZ⟩, CZ⟩
        go_wp2_with fail
        have hH2 : (fun w' : World => w'.cell? ⟨f, 2, none⟩ = some (.slice (some ⟨g, 0, none⟩) us.length Co) ∧ w'.cell? ⟨g, i, none⟩ = some (.func (.func 71) #[] #[.pointer (some ⟨ct, 0, none⟩), .pointer (some ⟨cf', 0, none⟩), .pointer (some ⟨cl, 0, none⟩)]) ∧ w'.cell? ⟨f, 1, none⟩ = some (.map (some m))) w2 := ⟨cellC CZ c2 (nmc c2), cellC CZ cu (nmc cu), cellC CZ c1 (nmc c1)⟩
        refine hK.out _ _ hH2 (fun _ => ?_)
        clear hK K hH hH2
        refine wpAnyH_done (by kernel_rfl) ?_ _
        refine NoPanic.normal ?_
        have BZ : Kp base wr w2 := ⟨⟨CZ.os, CZ.tape, CZ.output, CZ.size, fun k hk => CZ.block k (Nat.lt_of_lt_of_le hk bJ) (fun e => by have := DZ.mge; omega)⟩, fun g cs fr hg => CZ.at_ hg (fun e => by obtain ⟨es, ck, hk⟩ := hmk; subst e; rw [hk] at hg; cases hg)⟩
        go_wp2_with fail
        go_roundw
        case rel => exact ⟨i, zs, by first | rfl | (congr 1; omega), by omega, by omega, DZ, SZ, BJ.trans BZ⟩
        case measure => first | (simp [intOf]; done) | (simp [intOf]; omega)
    · obtain rfl : k = j := by omega
      have hkn : ¬ (k : Int) ≤ (k : Int) - 1 := by omega
      have L : Hid (Disk (wr.setCell ⟨f, 2, none⟩ (.slice none 0 0)) base f q m ys [] ∧ Kp base wr (wr.setCell ⟨f, 2, none⟩ (.slice none 0 0))) := by
        have D := DJ.out
        have c5 := Chg.of_cell wr ⟨f, 2, none⟩ (.slice none 0 0)
        have kf : ∀ i, i = f → ∃ cs, wr.heap[i]? = some (.cells cs 67 (0, 0)) := fun i e => by subst e; exact ⟨_, h1⟩
        refine ⟨⟨Nat.le_trans D.bs c5.size, D.fge, D.mge, ⟨.slice none 0 0, (block_setCell h1 _).trans rfl, World.ownsRow_nil _ _ _ _⟩, c5.map D.mp (fun e => ?_), ?_, fun u hu => by simp at hu⟩, Kp.of_chg c5 D.bs (fun i e => by subst e; exact D.fge) (fun i e cs fr h => by obtain ⟨cs', hk⟩ := kf i e; rw [hk] at h; simp at h)⟩
        · obtain ⟨cs, hk⟩ := kf _ e
          obtain ⟨es, c, hk'⟩ := D.mp.kind
          rw [hk'] at hk; cases hk
        · refine (c5.files D.fl (fun r e => ?_)).sub ?_
          · obtain ⟨cs, hk⟩ := kf _ e
            exact other_cells hk (by decide) (by decide)
          · simp
      clear h1 h2 DJ
      go_wp2_with fail
      refine (KP.out _).mono ?_
      rintro e wx ⟨rfl, hwx⟩; have hwx2 := hwx.symm; subst hwx2; clear hwx
      go_wp2_with fail
      go_end0
      exact ⟨rfl, ⟨ys, L.out.1, SJ.out⟩, BJ.trans L.out.2⟩
end Go.Proofs.Ytdiehlioemmakaa

namespace Go.Proofs.Ytdiehlioemmakaa
open Go.RowKit Go.Maps Go.Joins Go.Sort

set_option maxHeartbeats 2000000 in
theorem List_ok (base f m : Nat) (q : Int) (xs : List (List UInt8 × Fl)) (us : List Un) (w : World) (d : Disk w base f q m xs us) (hl : xs.length ≤ 1000) (hsort : ∀ ss : List (List UInt8), ss.Perm (xs.map (·.1)) → ss.mergeSort (fun x y => decide (x ≤ y)) = xs.map (·.1)) :
    Calls Try.prog 21 #[.pointer (some ⟨f, 0, none⟩)] w fun e w' => ∃ v, e = .returned v ∧ w'.ownsRow w.heap.size 9 1 v xs.length ((xs.map (·.1)).map encStr) ∧ w.grownBy w' none := by
  obtain ⟨ov, h1, h2⟩ := d.fs
  obtain ⟨c0, c1, c2, c3, cf⟩ := h1.c
  have hm := d.mp
  have hsz : Maps.size (DataW.map (xs.map ent)) = xs.length := by rw [Maps.size_eq, List.length_map]
  clear h1 h2 c0 c2 c3 d
  refine (callsIn_wide (n := 6)).1 ?_
  have hfK : Fence.wide.fn 57 := trivial
  have hfS : Fence.wide.fn 56 := trivial
  refine callsIn_of_wp Try.func21 rfl trivial ?_ rfl
  simp only [Try.ntmps21, List.size_toArray, List.length_cons, List.length_nil, Nat.reduceAdd, Nat.reduceSub, Array.replicate_succ, Array.replicate_zero, List.push_toArray, List.append_toArray, List.nil_append, List.cons_append]
  gi_wp2_with (first
    | (gi_at_call 57; refine (Try.maps_Keys_57 _ _).mono ?_; rintro e w' ⟨rfl, rfl⟩)
    | (gi_at_call 56; refine (Try.slices_Sorted_keys_56_57 m xs.length _ ptrR w hm (by rw [hsz]; unfold maxLen; omega) (by rw [hsz]; omega)).mono ?_; rintro e w' ⟨v, ss, rfl, hS, hrow, hnil, hb⟩))
  go_ret
  have hS2 : ss.Perm (xs.map (·.1)) := by
    have e : strKeys (DataW.map (xs.map ent)) = xs.map (·.1) := by
      show (xs.map ent).map (fun p => strOf p.1) = _
      rw [List.map_map]; rfl
    rw [← e]; exact hS
  have hlen : ss.length = xs.length := by rw [hS2.length_eq, List.length_map]
  rw [hsort ss hS2, hlen] at hrow
  have hb2 : Below w.heap.size w w' := ((Below.refl _ w).alloc (Nat.le_refl _) _).trans (hb.mono (by simp))
  exact ⟨v, rfl, ownsRow_base_a hrow (by simp), ⟨hb2.os, hb2.tape, hb2.output, hb2.size, fun k hk _ => hb2.block k hk⟩⟩
end Go.Proofs.Ytdiehlioemmakaa

