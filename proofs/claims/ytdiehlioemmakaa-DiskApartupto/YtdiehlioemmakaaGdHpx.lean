/-
  The walk of simfs's Create on any disk.
-/
import Derived.Test.YtdiehlioemmakaaUI
namespace Go.Proofs.Ytdiehlioemmakaa
open Go.RowKit Go.Maps Go.Joins

def crPE {α : Type} (n : List UInt8) (xs : List (List UInt8 × α)) (st : Int) : Int := if nmOk n = false then 6 else if (lookN n xs).isSome = true then 41 else if 64 ≤ xs.length then 43 else if rfB st = true then 44 else 0
def stN {α : Type} (n : List UInt8) (xs : List (List UInt8 × α)) (st : Int) : Int := if nmOk n = false then st else if (lookN n xs).isSome = true then st else if 64 ≤ xs.length then st else rfS st
def CrQ (P : Nat → Prop) (w w' : World) (base f : Nat) (q st' : Int) (xs : List (List UInt8 × Fl)) (us : List Ux) (n : List UInt8) (E : Int) : Prop := ∃ mo' X c, X.l = [] ∧ X.k = 0 ∧ Dsk (ext P w w') w' base f q st' mo' (if E = 0 then putN n X xs else xs) (if E = 0 then us ++ [Ux.cr c n] else us) ∧ Chg P w w'
theorem CrQ.no {P : Nat → Prop} {w w' : World} {base f : Nat} {q st' : Int} {mo : Option Nat} {xs : List (List UInt8 × Fl)} {us : List Ux} {n : List UInt8} {E : Int} (hE : E ≠ 0) (h : Dsk (ext P w w') w' base f q st' mo xs us ∧ Chg P w w') : CrQ P w w' base f q st' xs us n E := by
  refine ⟨mo, ⟨0, .slice none 0 0, [], 0⟩, 0, rfl, rfl, ?_⟩
  rw [if_neg hE, if_neg hE]; exact h
theorem chg_drewN (P : Nat → Prop) (w : World) (n : Nat) : Chg P w (w.drewN n) := ⟨rfl, rfl, rfl, Nat.le_refl _, fun _ _ _ => rfl⟩
theorem cr_perm {n : List UInt8} {Y : Fl} {xs : List (List UInt8 × Fl)} {us : List Ux} {c : Nat} (hl : lookN n xs = none) : (Y :: (xs.map (·.2) ++ us.flatMap Ux.lost)).Perm ((putN n Y xs).map (·.2) ++ (us ++ [Ux.cr c n]).flatMap Ux.lost) := by
  have e1 : (us ++ [Ux.cr c n]).flatMap Ux.lost = us.flatMap Ux.lost := by rw [List.flatMap_append]; simp [Ux.lost, Ux.cr, lostF]
  rw [e1]
  have h := (put_perm n Y xs).map (·.2)
  rw [del_none (look_no hl)] at h
  exact (h.symm.append_right _)
set_option maxHeartbeats 8000000 in
set_option maxRecDepth 1000000 in
theorem Create_any {P : Nat → Prop} (base f : Nat) (q st : Int) (mo : Option Nat) (xs : List (List UInt8 × Fl)) (us : List Ux) (n : List UInt8) (w : World) (hll : n.length ≤ 1000000000) (hr : -9223372036854775808 ≤ st ∧ st ≤ 9223372036854775807) (hxl : xs.length ≤ 1000) (hul : us.length ≤ 9000000) (d : Dsk P w base f q st mo xs us) :
    Calls Try.prog 29 #[.pointer (some ⟨f, 0, none⟩), .string ⟨n.toArray⟩] w fun e w' => e = .returned (.int .i64 (crPE n xs st)) ∧ CrQ P w w' base f q (stN n xs st) xs us n (crPE n xs st) := by
  have CB : Hid (∀ w, Calls Try.prog 62 #[.string ⟨n.toArray⟩] w fun e w' => e = .returned (.bool (nmOk n)) ∧ w' = w) := fun w => canBe_any n w hll
  have g0 := World.grownBy_alloc w (.cells #[.string ⟨n.toArray⟩] 9) none
  have D0 : Hid (Dsk P (w.alloc (.cells #[.string ⟨n.toArray⟩] 9)) base f q st mo xs us) := d.kept g0
  have hc0 : (w.alloc (.cells #[.string ⟨n.toArray⟩] 9)).heap[w.heap.size]? = some (.cells #[.string ⟨n.toArray⟩] 9 (0, 0)) := heap_alloc_new _ _
  have C0 : Hid (Chg P w (w.alloc (.cells #[.string ⟨n.toArray⟩] 9))) := Chg.of_alloc _ _ _
  have s0 : (w.alloc (.cells #[.string ⟨n.toArray⟩] 9)).heap.size = w.heap.size + 1 := by simp
  have hbs := d.bs
  have hpb := mkHid d.pb
  have pf := d.pf
  have hfl := (d.pb f d.pf).2
  have D := mkHid d
  clear d g0
  cases hok : nmOk n with
  | false =>
    rw [hok] at CB
    have EE : crPE n xs st = 6 := by unfold crPE; rw [hok]; rfl
    have ES : stN n xs st = st := by unfold stN; rw [hok]; rfl
    rw [EE, ES]
    clear EE ES
    go_enter Try.func29, Try.ntmps29
    go_wp2_with fail
    generalize w.alloc (.cells #[.string ⟨n.toArray⟩] 9) = w0 at *
    refine (CB.out _).mono ?_
    rintro e wx ⟨rfl, hwx⟩; have hwx2 := hwx.symm; subst hwx2; clear hwx
    go_wp2_with fail
    go_ret
    exact ⟨rfl, CrQ.no (by decide) (D.out.same2 D0.out C0.out (fun _ e => e))⟩
  | true =>
    rw [hok] at CB
    have hnl : n.length ≤ maxLen := by have := nm_len hok; unfold maxLen; omega
    obtain ⟨ov, h1, _, _⟩ := D0.out.fs
    obtain ⟨c0, c1, c2, c3, cf⟩ := h1.c
    have cn : (w.alloc (.cells #[.string ⟨n.toArray⟩] 9)).cell? ⟨w.heap.size, 0, none⟩ = some (.string ⟨n.toArray⟩) := (cell_of_block hc0 0).trans rfl
    have LK : ∀ k, (Instr.lookup 64 (.map mo) (.string ⟨n.toArray⟩) false).run Try.prog ((w.alloc (.cells #[.string ⟨n.toArray⟩] 9)).drewN k) = .ok (lookV (lookN n xs)) ((w.alloc (.cells #[.string ⟨n.toArray⟩] 9)).drewN k) := fun k => (D0.out.drewN k).look n hnl
    have LN : ∀ k ty, (Builtin.len_ #[64] ty #[.map mo]).run Try.prog ((w.alloc (.cells #[.string ⟨n.toArray⟩] 9)).drewN k) = .ok (.int .i64 ((xs.length : Nat) : Int)) ((w.alloc (.cells #[.string ⟨n.toArray⟩] 9)).drewN k) := fun k ty => (D0.out.drewN k).len ty
    clear h1 c0 c2 c3
    cases hlk : lookN n xs with
    | some X =>
      rw [hlk] at LK
      unfold lookV at LK
      have EE : crPE n xs st = 41 := by unfold crPE; rw [hok, hlk]; rfl
      have ES : stN n xs st = st := by unfold stN; rw [hok, hlk]; rfl
      rw [EE, ES]
      clear EE ES
      go_enter Try.func29, Try.ntmps29
      go_wp2_with fail
      generalize w.alloc (.cells #[.string ⟨n.toArray⟩] 9) = w0 at *
      refine (CB.out _).mono ?_
      rintro e wx ⟨rfl, hwx⟩; have hwx2 := hwx.symm; subst hwx2; clear hwx
      go_wp2_with fail
      go_quiet (fail)
      go_wp2_with fail
      go_ret
      exact ⟨rfl, CrQ.no (by decide) (D.out.same2 (D0.out.drewN nq) (C0.out.trans (chg_drewN P w0 nq)) (fun _ e => e))⟩
    | none =>
      rw [hlk] at LK
      unfold lookV at LK
      have EE : crPE n xs st = if 64 ≤ xs.length then 43 else if rfB st = true then 44 else 0 := by unfold crPE; rw [hok, hlk]; rfl
      have ES : stN n xs st = if 64 ≤ xs.length then st else rfS st := by unfold stN; rw [hok, hlk]; rfl
      rw [EE, ES]
      clear EE ES
      by_cases h64 : 64 ≤ xs.length
      · rw [if_pos h64, if_pos h64]
        have h64i : (64 : Int) ≤ ((xs.length : Nat) : Int) := by omega
        go_enter Try.func29, Try.ntmps29
        go_wp2_with fail
        generalize w.alloc (.cells #[.string ⟨n.toArray⟩] 9) = w0 at *
        refine (CB.out _).mono ?_
        rintro e wx ⟨rfl, hwx⟩; have hwx2 := hwx.symm; subst hwx2; clear hwx
        go_wp2_with fail
        go_quiet (fail)
        go_wp2_with fail
        go_ret
        exact ⟨rfl, CrQ.no (by decide) (D.out.same2 (D0.out.drewN nq) (C0.out.trans (chg_drewN P w0 nq)) (fun _ e => e))⟩
      rw [if_neg h64, if_neg h64]
      have h64i : ¬ (64 : Int) ≤ ((xs.length : Nat) : Int) := by omega
      have RF : Hid (∀ k, Calls Try.prog 53 #[.pointer (some ⟨f, 0, none⟩)] ((w.alloc (.cells #[.string ⟨n.toArray⟩] 9)).drewN k) fun e w' => e = .returned (.bool (rfB st)) ∧ Dsk P w' base f q (rfS st) mo xs us ∧ Chg (fun i => i = f) ((w.alloc (.cells #[.string ⟨n.toArray⟩] 9)).drewN k) w' ∧ w'.heap.size = ((w.alloc (.cells #[.string ⟨n.toArray⟩] 9)).drewN k).heap.size) := fun k => refuses_any base f q st mo xs us _ (D0.out.drewN k) hr
      cases hB : rfB st with
      | true =>
        rw [hB] at RF
        rw [if_pos rfl]
        go_enter Try.func29, Try.ntmps29
        go_wp2_with fail
        generalize w.alloc (.cells #[.string ⟨n.toArray⟩] 9) = w0 at *
        refine (CB.out _).mono ?_
        rintro e wx ⟨rfl, hwx⟩; have hwx2 := hwx.symm; subst hwx2; clear hwx
        go_wp2_with fail
        go_quiet (fail)
        go_wp2_with fail
        refine (RF.out _).mono ?_
        rintro e w4 ⟨rfl, d4, c4, s4⟩
        have C4 : Hid (Chg P w w4) := (C0.out.trans (chg_drewN P w0 nq)).trans (c4.mono (fun i _ e => by subst e; exact pf))
        go_wp2_with fail
        go_ret
        exact ⟨rfl, CrQ.no (by decide) (D.out.same2 d4 C4.out (fun _ e => e))⟩
      | false =>
        rw [hB] at RF
        rw [if_neg (by simp)]
        cases mo with
        | none =>
          go_enter Try.func29, Try.ntmps29
          go_wp2_with fail
          generalize w.alloc (.cells #[.string ⟨n.toArray⟩] 9) = w0 at *
          refine (CB.out _).mono ?_
          rintro e wx ⟨rfl, hwx⟩; have hwx2 := hwx.symm; subst hwx2; clear hwx
          go_wp2_with fail
          go_quiet (fail)
          go_wp2_with fail
          refine (RF.out _).mono ?_
          rintro e w4 ⟨rfl, d4, c4, s4⟩
          have C4 : Hid (Chg P w w4) := (C0.out.trans (chg_drewN P w0 nq)).trans (c4.mono (fun i _ e => by subst e; exact pf))
          have hb4 : w4.heap[w.heap.size]? = some (.cells #[.string ⟨n.toArray⟩] 9 (0, 0)) := c4.at_ hc0 (fun e => by have e : w.heap.size = f := e; omega)
          have s5 : w4.heap.size = w.heap.size + 1 := s4.trans s0
          clear LK LN RF hc0 c1 cn cf c4 CB D0 C0 s4 s0
          obtain ⟨rfl, rfl, ov, dp⟩ := Dp.fresh d4 C4.out hbs hpb.out
          obtain ⟨ov4, h1, _, _⟩ := d4.fs
          obtain ⟨c0, c1, c2, c3, cf⟩ := h1.c
          have z := eqNilM
          have hmm := @run_makeMap Try.prog
          have hb6 : ((w4.setCell ⟨f, 1, none⟩ (.map (some w4.heap.size))).alloc (.map #[] 0)).heap[w.heap.size]? = some (.cells #[.string ⟨n.toArray⟩] 9 (0, 0)) := hAlloc ((heap_setCell_other _ ⟨f, 1, none⟩ _ _ (show w.heap.size ≠ f by omega)).trans hb4) _
          have s6 : w.heap.size + 1 ≤ ((w4.setCell ⟨f, 1, none⟩ (.map (some w4.heap.size))).alloc (.map #[] 0)).heap.size := by simp [s5]
          have DP := mkHid dp
          obtain ⟨m, hm⟩ : ∃ m, m = w4.heap.size := ⟨_, rfl⟩
          rw [← hm] at DP
          have hf4 : f < w4.heap.size := by omega
          clear h1 c0 c2 c3 d4 dp hb4 s5 C4
          go_wp2_with fail
          rw [← hm] at hb6 s6 ⊢
          generalize (w4.setCell ⟨f, 1, none⟩ (.map (some m))).alloc (.map #[] 0) = w1 at *
          clear hm z hmm c1 cf
          obtain ⟨Z, hZ⟩ : ∃ Z : List Fl, Z = [] := ⟨_, rfl⟩
          obtain ⟨c0, c1, c2, c3, cf⟩ := DP.out.fs.c
          have cn : w1.cell? ⟨w.heap.size, 0, none⟩ = some (.string ⟨n.toArray⟩) := (cell_of_block hb6 0).trans rfl
          clear c0 c2 c3
          go_wp2_with fail
          refine wp_region_noPanic ?_
          refine wp_region_held_drew (S := fun w' => w'.cell? ⟨f, 1, none⟩ = some (.map (some m)) ∧ w'.cell? ⟨w.heap.size, 0, none⟩ = some (.string ⟨n.toArray⟩)) (by kernel_rfl) (⟨c1, cn⟩) (fun hH => ?_)
          refine tKx (i := 0) (v := .pointer (some ⟨f, 0, none⟩)) rfl rfl (by kernel_rfl) (fun _ _ _ h => h) ?_ hH ?_
          · intro w5 hSw; obtain ⟨hv1, hv2⟩ := hSw; go_simp
          simp only [zA9, zB9, zC9]
          refine tKx (i := 1) (v := .pointer (some ⟨f, 0, none⟩)) rfl rfl (by kernel_rfl) (fun _ _ _ h => h) ?_ hH ?_
          · intro w5 hSw; obtain ⟨hv1, hv2⟩ := hSw; go_simp
          simp only [zA9, zB9, zC9]
          refine tKx (i := 2) (v := .pointer (some ⟨f, 1, none⟩)) rfl rfl (by kernel_rfl) (fun _ _ _ h => h) ?_ hH ?_
          · intro w5 hSw; obtain ⟨hv1, hv2⟩ := hSw; go_simp
          simp only [zA9, zB9, zC9]
          refine tKx (i := 3) (v := .map (some m)) rfl rfl (by kernel_rfl) (fun _ _ _ h => h) ?_ hH ?_
          · intro w5 hSw; obtain ⟨hv1, hv2⟩ := hSw; go_simp
          simp only [zA9, zB9, zC9]
          refine tKx (i := 4) (v := .string ⟨n.toArray⟩) rfl rfl (by kernel_rfl) (fun _ _ _ h => h) ?_ hH ?_
          · intro w5 hSw; obtain ⟨hv1, hv2⟩ := hSw; go_simp
          simp only [zA9, zB9, zC9]
          refine tKx (i := 5) (v := .agg #[.slice none 0 0, .int .i64 0]) rfl rfl (by kernel_rfl) (fun _ _ _ h => h) ?_ hH ?_
          · intro w5 hSw; obtain ⟨hv1, hv2⟩ := hSw; go_simp
          simp only [zA9, zB9, zC9]
          refine wpAnyH_ready (rs := [6]) (by kernel_rfl) (by simp) ?_
          refine AllReadyH.cons rfl (fun K hK => ?_) AllReadyH.nil
          go_simp
          have g2 : w1.grownBy (w1.alloc (.cells #[.slice none 0 0, .int .i64 0] 86)).drew none := by
            have h := World.grownBy_alloc w1 (.cells #[.slice none 0 0, .int .i64 0] 86) none
            exact ⟨h.os, h.tape, h.output, h.size, h.block⟩
          have y2 : (w1.alloc (.cells #[.slice none 0 0, .int .i64 0] 86)).drew.heap[w1.heap.size]? = some (.cells #[.slice none 0 0, .int .i64 0] 86 (0, 0)) := heap_alloc_new _ _
          refine hK.out _ _ ⟨g2.cell c1 (by simp), g2.cell cn (by simp)⟩ (fun _ => ?_)
          clear hK K hH
          obtain ⟨Y, hY⟩ : ∃ Y : Fl, Y = ⟨w1.heap.size, .slice none 0 0, [], 0⟩ := ⟨_, rfl⟩
          have hYb : Y.b = w1.heap.size := by rw [hY]
          have okY : FlOk (w1.alloc (.cells #[.slice none 0 0, .int .i64 0] 86)).drew base Y := by rw [hY]; exact ⟨by show base ≤ w1.heap.size; omega, y2, ownsB_nil _ _, Nat.le_refl _, by simp⟩
          have hYl : Y.l = [] ∧ Y.k = 0 := by rw [hY]; exact ⟨rfl, rfl⟩
          have hYv : Y.v.ownBlock = none := by rw [hY]; rfl
          clear hY
          have dp2 := (DP.out.grow g2).addf okY (Or.inr (by rw [hYb]; omega)) (fun g hg => by rw [hYv] at hg; cases hg) (fun x hx e => by
            have := lt_of_heap (DP.out.fl.ok x hx).at_
            rw [e, hYb] at this; omega) (fun x hx g hg e => by rw [hYv] at e; cases e)
          have hb7 := (g2.block _ (lt_of_heap hb6) (by simp)).trans hb6
          generalize (w1.alloc (.cells #[.slice none 0 0, .int .i64 0] 86)).drew = w2 at *
          obtain ⟨w3, hrun, dp3, c3⟩ := dp2.store n Y hnl (by simp)
          rw [hYb] at hrun
          clear hYb
          obtain ⟨es, ck, hmk⟩ := dp2.mp.kind
          have hb8 := c3.at_ hb7 (fun e => by have e : w.heap.size = m := e; rw [e, hmk] at hb7; cases hb7)
          obtain ⟨e0, e1, e2, e3, ef⟩ := dp3.fs.c
          have en : w3.cell? ⟨w.heap.size, 0, none⟩ = some (.string ⟨n.toArray⟩) := (cell_of_block hb8 0).trans rfl
          refine wpAnyH_ready (rs := [7]) (by kernel_rfl) (by simp) ?_
          refine AllReadyH.cons rfl (fun K hK => ?_) AllReadyH.nil
          go_simp
          refine hK.out _ _ ⟨e1, en⟩ (fun _ => ?_)
          clear hK K
          refine wpAnyH_done (by kernel_rfl) ?_ _
          refine NoPanic.normal ?_
          obtain ⟨P4, C4, w5, hrun4, F5, dp5⟩ := dp3.push (.cr w.heap.size n) (.func (.func 63) #[] #[.pointer (some ⟨w.heap.size, 0, none⟩)]) rfl ⟨Or.inr (Nat.le_refl _), hb8, (fun y hy => by cases hy), (fun z hz => by cases hz)⟩ (by simp) rfl
          obtain ⟨k0, k1, k2, k3, kf⟩ := F5.c
          have kf2 := kf 2
          have hw5 := lt_of_heap F5
          have fin := mkHid (dp5.done (List.Sublist.refl _) (cr_perm (xs := []) (us := []) rfl))
          clear DP dp2 dp3 dp5 hb6 hb7 hb8 hmk okY y2 g2 c3 hrun F5 kf ef e0 e1 e3 k0 k1 k3 en c1 cn cf
          go_wp2_with (at_builtin; refine list_app 65 rfl (.tmp 43) (.tmp 45) rfl rfl rfl hrun4 ?_)
          go_ret
          exact ⟨rfl, (show CrQ _ _ _ _ _ _ _ _ _ _ _ from ⟨some m, Y, w.heap.size, hYl.1, hYl.2, by rw [if_pos rfl, if_pos rfl]; exact fin.out⟩)⟩
        | some m =>
          go_enter Try.func29, Try.ntmps29
          go_wp2_with fail
          generalize w.alloc (.cells #[.string ⟨n.toArray⟩] 9) = w0 at *
          refine (CB.out _).mono ?_
          rintro e wx ⟨rfl, hwx⟩; have hwx2 := hwx.symm; subst hwx2; clear hwx
          go_wp2_with fail
          go_quiet (fail)
          go_wp2_with fail
          refine (RF.out _).mono ?_
          rintro e w4 ⟨rfl, d4, c4, s4⟩
          have C4 : Hid (Chg P w w4) := (C0.out.trans (chg_drewN P w0 nq)).trans (c4.mono (fun i _ e => by subst e; exact pf))
          have hb4 : w4.heap[w.heap.size]? = some (.cells #[.string ⟨n.toArray⟩] 9 (0, 0)) := c4.at_ hc0 (fun e => by have e : w.heap.size = f := e; omega)
          have s5 : w4.heap.size = w.heap.size + 1 := s4.trans s0
          clear LK LN RF hc0 c1 cn cf c4 CB D0 C0 s4 s0
          obtain ⟨ov, dp⟩ := Dp.start d4 C4.out hbs hpb.out
          have DP := mkHid dp
          have hb6 := hb4
          have s6 : w.heap.size + 1 ≤ w4.heap.size := by omega
          obtain ⟨c0, c1, c2, c3, cf⟩ := dp.fs.c
          have z := neNilM m
          clear c0 c2 c3 d4 dp hb4 s5 C4
          go_wp2_with fail
          obtain ⟨w1, hw1⟩ : ∃ x, x = w4 := ⟨_, rfl⟩
          rw [← hw1] at DP hb6 s6 c1 cf ⊢
          clear hw1 z c1 cf
          obtain ⟨Z, hZ⟩ : ∃ Z : List Fl, Z = xs.map (·.2) ++ us.flatMap Ux.lost := ⟨_, rfl⟩
          obtain ⟨c0, c1, c2, c3, cf⟩ := DP.out.fs.c
          have cn : w1.cell? ⟨w.heap.size, 0, none⟩ = some (.string ⟨n.toArray⟩) := (cell_of_block hb6 0).trans rfl
          clear c0 c2 c3
          go_wp2_with fail
          refine wp_region_noPanic ?_
          refine wp_region_held_drew (S := fun w' => w'.cell? ⟨f, 1, none⟩ = some (.map (some m)) ∧ w'.cell? ⟨w.heap.size, 0, none⟩ = some (.string ⟨n.toArray⟩)) (by kernel_rfl) (⟨c1, cn⟩) (fun hH => ?_)
          refine tKx (i := 0) (v := .pointer (some ⟨f, 0, none⟩)) rfl rfl (by kernel_rfl) (fun _ _ _ h => h) ?_ hH ?_
          · intro w5 hSw; obtain ⟨hv1, hv2⟩ := hSw; go_simp
          simp only [zA9, zB9, zC9]
          refine tKx (i := 1) (v := .pointer (some ⟨f, 0, none⟩)) rfl rfl (by kernel_rfl) (fun _ _ _ h => h) ?_ hH ?_
          · intro w5 hSw; obtain ⟨hv1, hv2⟩ := hSw; go_simp
          simp only [zA9, zB9, zC9]
          refine tKx (i := 2) (v := .pointer (some ⟨f, 1, none⟩)) rfl rfl (by kernel_rfl) (fun _ _ _ h => h) ?_ hH ?_
          · intro w5 hSw; obtain ⟨hv1, hv2⟩ := hSw; go_simp
          simp only [zA9, zB9, zC9]
          refine tKx (i := 3) (v := .map (some m)) rfl rfl (by kernel_rfl) (fun _ _ _ h => h) ?_ hH ?_
          · intro w5 hSw; obtain ⟨hv1, hv2⟩ := hSw; go_simp
          simp only [zA9, zB9, zC9]
          refine tKx (i := 4) (v := .string ⟨n.toArray⟩) rfl rfl (by kernel_rfl) (fun _ _ _ h => h) ?_ hH ?_
          · intro w5 hSw; obtain ⟨hv1, hv2⟩ := hSw; go_simp
          simp only [zA9, zB9, zC9]
          refine tKx (i := 5) (v := .agg #[.slice none 0 0, .int .i64 0]) rfl rfl (by kernel_rfl) (fun _ _ _ h => h) ?_ hH ?_
          · intro w5 hSw; obtain ⟨hv1, hv2⟩ := hSw; go_simp
          simp only [zA9, zB9, zC9]
          refine wpAnyH_ready (rs := [6]) (by kernel_rfl) (by simp) ?_
          refine AllReadyH.cons rfl (fun K hK => ?_) AllReadyH.nil
          go_simp
          have g2 : w1.grownBy (w1.alloc (.cells #[.slice none 0 0, .int .i64 0] 86)).drew none := by
            have h := World.grownBy_alloc w1 (.cells #[.slice none 0 0, .int .i64 0] 86) none
            exact ⟨h.os, h.tape, h.output, h.size, h.block⟩
          have y2 : (w1.alloc (.cells #[.slice none 0 0, .int .i64 0] 86)).drew.heap[w1.heap.size]? = some (.cells #[.slice none 0 0, .int .i64 0] 86 (0, 0)) := heap_alloc_new _ _
          refine hK.out _ _ ⟨g2.cell c1 (by simp), g2.cell cn (by simp)⟩ (fun _ => ?_)
          clear hK K hH
          obtain ⟨Y, hY⟩ : ∃ Y : Fl, Y = ⟨w1.heap.size, .slice none 0 0, [], 0⟩ := ⟨_, rfl⟩
          have hYb : Y.b = w1.heap.size := by rw [hY]
          have okY : FlOk (w1.alloc (.cells #[.slice none 0 0, .int .i64 0] 86)).drew base Y := by rw [hY]; exact ⟨by show base ≤ w1.heap.size; omega, y2, ownsB_nil _ _, Nat.le_refl _, by simp⟩
          have hYl : Y.l = [] ∧ Y.k = 0 := by rw [hY]; exact ⟨rfl, rfl⟩
          have hYv : Y.v.ownBlock = none := by rw [hY]; rfl
          clear hY
          have dp2 := (DP.out.grow g2).addf okY (Or.inr (by rw [hYb]; omega)) (fun g hg => by rw [hYv] at hg; cases hg) (fun x hx e => by
            have := lt_of_heap (DP.out.fl.ok x hx).at_
            rw [e, hYb] at this; omega) (fun x hx g hg e => by rw [hYv] at e; cases e)
          have hb7 := (g2.block _ (lt_of_heap hb6) (by simp)).trans hb6
          generalize (w1.alloc (.cells #[.slice none 0 0, .int .i64 0] 86)).drew = w2 at *
          obtain ⟨w3, hrun, dp3, c3⟩ := dp2.store n Y hnl (by omega)
          rw [hYb] at hrun
          clear hYb
          obtain ⟨es, ck, hmk⟩ := dp2.mp.kind
          have hb8 := c3.at_ hb7 (fun e => by have e : w.heap.size = m := e; rw [e, hmk] at hb7; cases hb7)
          obtain ⟨e0, e1, e2, e3, ef⟩ := dp3.fs.c
          have en : w3.cell? ⟨w.heap.size, 0, none⟩ = some (.string ⟨n.toArray⟩) := (cell_of_block hb8 0).trans rfl
          refine wpAnyH_ready (rs := [7]) (by kernel_rfl) (by simp) ?_
          refine AllReadyH.cons rfl (fun K hK => ?_) AllReadyH.nil
          go_simp
          refine hK.out _ _ ⟨e1, en⟩ (fun _ => ?_)
          clear hK K
          refine wpAnyH_done (by kernel_rfl) ?_ _
          refine NoPanic.normal ?_
          obtain ⟨P4, C4, w5, hrun4, F5, dp5⟩ := dp3.push (.cr w.heap.size n) (.func (.func 63) #[] #[.pointer (some ⟨w.heap.size, 0, none⟩)]) rfl ⟨Or.inr (Nat.le_refl _), hb8, (fun y hy => by cases hy), (fun z hz => by cases hz)⟩ (by omega) rfl
          obtain ⟨k0, k1, k2, k3, kf⟩ := F5.c
          have kf2 := kf 2
          have hw5 := lt_of_heap F5
          have fin := mkHid (dp5.done (List.Sublist.refl _) (cr_perm hlk))
          clear DP dp2 dp3 dp5 hb6 hb7 hb8 hmk okY y2 g2 c3 hrun F5 kf ef e0 e1 e3 k0 k1 k3 en c1 cn cf
          go_wp2_with (at_builtin; refine list_app 65 rfl (.tmp 43) (.tmp 45) rfl rfl rfl hrun4 ?_)
          go_ret
          exact ⟨rfl, (show CrQ _ _ _ _ _ _ _ _ _ _ _ from ⟨some m, Y, w.heap.size, hYl.1, hYl.2, by rw [if_pos rfl, if_pos rfl]; exact fin.out⟩)⟩
end Go.Proofs.Ytdiehlioemmakaa

