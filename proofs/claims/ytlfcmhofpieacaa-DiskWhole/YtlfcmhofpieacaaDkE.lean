/-
  The walks of simfs.Sync, Append, Read, slices.Clone.
-/
import Derived.Test.YtlfcmhofpieacaaDkD
import Derived.Deep.RegionHeld3
namespace Go.Proofs.Ytlfcmhofpieacaa
open Go.RowKit Go.Maps Go.Joins

theorem at_of {n : List UInt8} {X : Fl} {z : DataW Unit} : ∀ {xs : List (List UInt8 × Fl)}, xs.Pairwise (fun p q => p.1 ≠ q.1) → (n, X) ∈ xs → (DataW.map (xs.map ent)).atKey (.string n) z = .lit (.int .i64 (X.b : Int))
  | [], _, h => by simp at h
  | p :: t, hp, h => by
    rw [List.pairwise_cons] at hp
    rcases List.mem_cons.1 h with rfl | h
    · have e : (Lit.string n).sameKey (.string n) = true := beq_self_eq_true n
      simp only [DataW.atKey, List.map_cons, List.find?_cons, ent, e]
    · have e : (Lit.string p.1).sameKey (.string n) = false := by rw [same_str, beq_eq_false_iff_ne]; exact hp.1 _ h
      have := at_of (z := z) hp.2 h
      simp only [DataW.atKey, List.map_cons, List.find?_cons, ent, e] at this ⊢
      exact this
/-- a file of a disk has changed -/
theorem Disk.file {w w' : World} {base f m : Nat} {q : Int} {n : List UInt8} {X X' : Fl} {A B : List (List UInt8 × Fl)} {us : List Un} (h : Disk w base f q m (A ++ (n, X) :: B) us) (hc : Chg (fun i => i = X.b ∨ X.v.ownBlock = some i) w w') (hX : FlOk w' base X') (hb : X'.b = X.b) (hv : ∀ g, X'.v.ownBlock = some g → X.v.ownBlock = some g ∨ w.heap.size ≤ g) :
    Disk w' base f q m (A ++ (n, X') :: B) us ∧ Below base w w' := by
  have okX : FlOk w base X := h.fl.ok X (by simp)
  have kind : ∀ i, (i = X.b ∨ X.v.ownBlock = some i) → ∃ cs t, w.heap[i]? = some (.cells cs t (0, 0)) ∧ (t = 44 ∨ t = 5) := by
    rintro i (rfl | e)
    · exact ⟨_, _, okX.at_, Or.inl rfl⟩
    · obtain ⟨cs, hk⟩ := own_kind okX.row _ e
      exact ⟨_, _, hk, Or.inr rfl⟩
  obtain ⟨ov, h1, h2⟩ := h.fs
  refine ⟨⟨Nat.le_trans h.bs hc.size, h.fge, h.mge, ⟨ov, hc.at_ h1 (fun e => ?_), hc.row h2 (fun g hg e => ?_)⟩, ?_, ?_, fun u hu => hc.un (h.un u hu) (fun r e => ?_)⟩, hc.below h.bs ?_⟩
  · obtain ⟨cs, t, hk, ht⟩ := kind _ e
    unfold FsAt at h1; rw [h1] at hk; rcases ht with rfl | rfl <;> simp at hk
  · obtain ⟨cs, t, hk, ht⟩ := kind _ e
    obtain ⟨cs', hk'⟩ := own_kind h2 g hg
    rw [hk'] at hk; rcases ht with rfl | rfl <;> simp at hk
  · have hm : Mp w' m (A ++ (n, X) :: B) := hc.map h.mp (fun e => by
      obtain ⟨cs, t, hk, _⟩ := kind _ e
      obtain ⟨es, c, hk'⟩ := h.mp.kind
      rw [hk'] at hk; simp at hk)
    unfold Mp at hm ⊢
    have e1 : (A ++ (n, X') :: B).map ent = (A ++ (n, X) :: B).map ent := by simp [ent, hb]
    have e2 : (A ++ (n, X') :: B).length = (A ++ (n, X) :: B).length := by simp
    rw [e1, e2]; exact hm
  · have hf := h.fl
    have e1 : ∀ Y : Fl, (A ++ (n, Y) :: B).map (·.2) ++ us.flatMap Un.lost = A.map (·.2) ++ Y :: (B.map (·.2) ++ us.flatMap Un.lost) := fun Y => by simp
    rw [e1] at hf ⊢
    exact hf.upd hc hX hb hv
  · obtain ⟨cs, t, hk, ht⟩ := kind _ e
    refine plainB_cells hk ?_ ?_ <;> rcases ht with rfl | rfl <;> decide
  · rintro i (rfl | e)
    · exact okX.ge
    · exact own_ge okX.row _ e
theorem FlOk.form {w : World} {base : Nat} {x : Fl} (h : FlOk w base x) : ∃ P C, x.v = .slice P x.l.length C := by
  rcases h.row.2 with ⟨e, h0⟩ | ⟨g, cap, cur, e, _⟩
  · exact ⟨none, 0, by rw [e, h0]⟩
  · exact ⟨_, _, e⟩

set_option maxHeartbeats 1000000 in
set_option maxRecDepth 100000 in
theorem Sync_ok (base f m : Nat) (q : Int) (s : ByteArray) (X : Fl) (A B : List (List UInt8 × Fl)) (us : List Un) (w : World) (d : Disk w base f q m (A ++ (s.data.toList, X) :: B) us) (hs : okN s) :
    Calls Try.prog 8 #[.pointer (some ⟨f, 0, none⟩), .string s] w fun e w' => e = .returned (.int .i64 0) ∧ Disk w' base f q m (A ++ (s.data.toList, { X with k := X.l.length }) :: B) us ∧ Below base w w' := by
  obtain ⟨ov, h1, h2⟩ := d.fs
  have okX : FlOk w base X := d.fl.ok X (by simp)
  have NM : Hid (Calls Try.prog 16 #[.pointer (some ⟨f, 0, none⟩), .string s] w fun e w' => e = .returned (.tuple #[.pointer (some ⟨X.b, 0, none⟩), .int .i64 0]) ∧ w' = w) := named_ok f m q 0 ov s X.b _ w h1 d.mp hs (at_of d.mp.names (by simp))
  have RF : Hid (Calls Try.prog 14 #[.pointer (some ⟨f, 0, none⟩)] w fun e w' => e = .returned (.bool false) ∧ w' = w) := refuses_no f q (some m) ov w h1
  obtain ⟨c0, c1, cf⟩ := okX.c
  obtain ⟨P, C, hP⟩ := okX.form
  have E : Hid (Disk (w.setCell ⟨X.b, 1, none⟩ (.int .i64 (X.l.length : Int))) base f q m (A ++ (s.data.toList, { X with k := X.l.length }) :: B) us ∧ Below base w (w.setCell ⟨X.b, 1, none⟩ (.int .i64 (X.l.length : Int)))) := by
    have hc := (Chg.of_cell w ⟨X.b, 1, none⟩ (.int .i64 (X.l.length : Int))).mono (T := fun i => i = X.b ∨ X.v.ownBlock = some i) (fun i _ h => Or.inl h)
    refine d.file hc ⟨okX.ge, (block_setCell okX.at_ _).trans rfl, (Chg.of_cell w ⟨X.b, 1, none⟩ _).row okX.row (fun g hg e => ?_), Nat.le_refl _, okX.ll⟩ rfl (fun g hg => Or.inl hg)
    obtain ⟨cs, hk⟩ := own_kind okX.row _ hg
    have e : g = X.b := e
    rw [e, okX.at_] at hk; simp at hk
  rw [hP] at c0
  clear d h1 h2 okX hP
  go_enter Try.func8, Try.ntmps8
  go_wp2_with fail
  refine NM.out.mono ?_
  rintro e wx ⟨rfl, hwx⟩; have hwx2 := hwx.symm; subst hwx2; clear hwx
  go_wp2_with fail
  refine RF.out.mono ?_
  rintro e wx ⟨rfl, hwx⟩; have hwx2 := hwx.symm; subst hwx2; clear hwx
  go_wp2_with fail
  go_ret
  exact ⟨rfl, E.out⟩
end Go.Proofs.Ytlfcmhofpieacaa
