/-
  A disk whose own block alone has changed: SyncNames, Stop; the walk of simfs.Crash.
-/
import Derived.Test.YtdiehlioemmakaaDkOx
namespace Go.Proofs.Ytdiehlioemmakaa
open Go.RowKit Go.Maps Go.Joins Go.Sort

theorem lost_sub : ∀ {us' us : List Un}, us'.Sublist us → (us'.flatMap Un.lost).Sublist (us.flatMap Un.lost)
  | _, _, .slnil => List.Sublist.refl _
  | _, _, .cons a h => by rw [List.flatMap_cons]; exact (lost_sub h).trans (List.sublist_append_right _ _)
  | _, _, .cons_cons a h => by rw [List.flatMap_cons, List.flatMap_cons]; exact List.Sublist.append (List.Sublist.refl _) (lost_sub h)
/-- the disk's own block alone has changed, and fewer changes of names are open -/
theorem Disk.own {w w' : World} {base f m : Nat} {q : Int} {xs : List (List UInt8 × Fl)} {us us' : List Un} {ov : Value} (h : Disk w base f q m xs us) (hc : Chg (fun i => i = f) w w') (hF : FsAt w' f q (some m) ov 0) (hr : w'.ownsRow base 72 1 ov us'.length (us'.map Un.val)) (hs : us'.Sublist us) :
    Disk w' base f q m xs us' ∧ Below base w w' := by
  obtain ⟨ov0, h1, h2⟩ := h.fs
  have kf : ∀ i, i = f → ∃ cs, w.heap[i]? = some (.cells cs 67 (0, 0)) := fun i e => by subst e; exact ⟨_, h1⟩
  refine ⟨⟨Nat.le_trans h.bs hc.size, h.fge, h.mge, ⟨ov, hF, hr⟩, hc.map h.mp (fun e => ?_), ?_, fun u hu => hc.un (h.un u (hs.subset hu)) (fun r e => ?_)⟩, hc.below h.bs (fun i e => by subst e; exact h.fge)⟩
  · obtain ⟨cs, hk⟩ := kf _ e
    obtain ⟨es, c, hk'⟩ := h.mp.kind
    rw [hk'] at hk; cases hk
  · refine (hc.files h.fl (fun r e => ?_)).sub (List.Sublist.append (List.Sublist.refl _) (lost_sub hs))
    obtain ⟨cs, hk⟩ := kf _ e
    exact other_cells hk (by decide) (by decide)
  · obtain ⟨cs, hk⟩ := kf _ e
    exact plainB_cells hk (by decide) (by decide)
theorem SyncNames_disk (base f m : Nat) (q : Int) (xs : List (List UInt8 × Fl)) (us : List Un) (w : World) (d : Disk w base f q m xs us) :
    Calls Try.prog 15 #[.pointer (some ⟨f, 0, none⟩)] w fun e w' => e = .returned (.int .i64 0) ∧ Disk w' base f q m xs [] ∧ Below base w w' := by
  obtain ⟨ov, h1, h2⟩ := d.fs
  refine (SyncNames_ok f q (some m) ov w h1).mono ?_
  rintro e w' ⟨rfl, hF, hg⟩
  exact ⟨rfl, d.own ((Chg.of_grown hg).mono (fun i _ e => by cases e; rfl)) hF (World.ownsRow_nil _ _ _ _) (List.nil_sublist _)⟩
theorem Stop_disk (base f m : Nat) (q : Int) (xs : List (List UInt8 × Fl)) (us : List Un) (w : World) (d : Disk w base f q m xs us) :
    Calls Try.prog 14 #[.pointer (some ⟨f, 0, none⟩), .int .i64 0] w fun e w' => e = .returned (.tuple #[]) ∧ Disk w' base f q m xs us ∧ Kp base w w' := by
  obtain ⟨ov, h1, h2⟩ := d.fs
  refine (Stop_0 f q 0 (some m) ov w h1).mono ?_
  rintro e w' ⟨rfl, hF, hg⟩
  have hc : Chg (fun i => i = f) w w' := (Chg.of_grown hg).mono (fun i _ e => by cases e; rfl)
  refine ⟨rfl, (d.own hc hF (hc.row h2 (fun g hg e => ?_)) (List.Sublist.refl _)).1, Kp.of_chg hc d.bs (fun i e => by subst e; exact d.fge) (fun i e cs fr h => by subst e; unfold FsAt at h1; rw [h1] at h; simp at h)⟩
  obtain ⟨cs, hk⟩ := own_kind h2 g hg
  have e : g = f := e
  unfold FsAt at h1
  rw [e, h1] at hk; simp at hk

set_option maxHeartbeats 2000000 in
set_option maxRecDepth 100000 in
theorem Crash_ok (base f m : Nat) (q names : Int) (keeps : List Int) (Pk : Option Addr) (Ck : Nat) (us : List Un) (St : Nat → List (List UInt8 × Fl) → Prop) (xs : List (List UInt8 × Fl)) (w : World) (hn : -9223372036854775808 ≤ names ∧ names ≤ 9223372036854775807) (hus : us.length ≤ 1000)
    (hstep : ∀ j u xs w, us[j]? = some u → Disk w base f q m xs us → St (j + 1) xs → callU m w (fun e w' => e = .returned (.tuple #[]) ∧ (∃ xs', Disk w' base f q m xs' us ∧ St j xs') ∧ Chg (fun i => i = m) w w') u)
    (h0 : St us.length xs) (d : Disk w base f q m xs us)
    (hst : ∀ ys, St (kp names us.length) ys → ys.length ≤ 1000 ∧ (∀ p ∈ ys, p.1.length ≤ 64) ∧ ∀ ss : List (List UInt8), ss.Perm (ys.map (·.1)) → ss.mergeSort (fun x y => decide (x ≤ y)) = ys.map (·.1))
    (hk : ∀ w', Kp base w w' → intIn w' Pk keeps) (hkr : ∀ x ∈ keeps, -9223372036854775808 ≤ x ∧ x ≤ 9223372036854775807) (hkl : keeps.length ≤ 9223372036854775807) :
    Calls Try.prog 17 #[.pointer (some ⟨f, 0, none⟩), .slice Pk keeps.length Ck, .int .i64 names] w fun e w' => e = .returned (.tuple #[]) ∧ (∃ ys zs, St (kp names us.length) ys ∧ Disk w' base f q m zs [] ∧ zs.map abs = cuts keeps 0 ys) ∧ Kp base w w' := by
  have LN : Hid (Calls Try.prog 54 #[.pointer (some ⟨f, 0, none⟩), .int .i64 names] w fun e w' => e = .returned (.tuple #[]) ∧ (∃ xs', Disk w' base f q m xs' [] ∧ St (kp names us.length) xs') ∧ Kp base w w') := loseNames_ok base f m q names us St xs w hn hus hstep h0 d
  have HT : Hid (∀ ys, St (kp names us.length) ys → ys.length ≤ 1000 ∧ (∀ p ∈ ys, p.1.length ≤ 64) ∧ ∀ ss : List (List UInt8), ss.Perm (ys.map (·.1)) → ss.mergeSort (fun x y => decide (x ≤ y)) = ys.map (·.1)) := hst
  have HK : Hid (∀ w', Kp base w w' → intIn w' Pk keeps) := hk
  have HR : Hid (∀ x ∈ keeps, -9223372036854775808 ≤ x ∧ x ≤ 9223372036854775807) := hkr
  generalize kp names us.length = k at *
  clear hstep h0 d hst hk hkr
  go_enter Try.func17, Try.ntmps17
  go_wp2_with fail
  refine LN.out.mono ?_
  rintro e w1 ⟨rfl, ⟨ys, D1, S1⟩, B1⟩
  obtain ⟨t1, t2, t3⟩ := HT.out ys S1
  have L2 : Hid (Calls Try.prog 55 #[.pointer (some ⟨f, 0, none⟩), .slice Pk keeps.length Ck] w1 fun e w' => e = .returned (.tuple #[]) ∧ (∃ xs', Disk w' base f q m xs' [] ∧ xs'.map abs = cuts keeps 0 ys) ∧ Kp base w1 w') := loseBytes_ok base f m q keeps Pk Ck ys w1 D1 t1 t2 t3 (fun w' hb => HK.out w' (B1.trans hb)) HR.out hkl
  clear t1 t2 t3 D1
  go_wp2_with fail
  refine L2.out.mono ?_
  rintro e w2 ⟨rfl, ⟨zs, D2, E2⟩, B2⟩
  have L3 : Hid (Calls Try.prog 14 #[.pointer (some ⟨f, 0, none⟩), .int .i64 0] w2 fun e w' => e = .returned (.tuple #[]) ∧ Disk w' base f q m zs [] ∧ Kp base w2 w') := Stop_disk base f m q zs [] w2 D2
  clear D2
  go_wp2_with fail
  refine L3.out.mono ?_
  rintro e w3 ⟨rfl, D3, B3⟩
  go_wp2_with fail
  go_end0
  exact ⟨rfl, ⟨ys, zs, S1, D3, E2⟩, B1.trans (B2.trans B3)⟩
end Go.Proofs.Ytdiehlioemmakaa
