/-
  Where a value belongs is the partition that wants it most, whatever stands beside it: the law RingApart, walked whole.
-/
import Derived.Test.YtmhmcffejkpmjaaDoorRnG
import Derived.Test.YtmhmcffejkpmjaaDoorRoB
namespace Go.Proofs.YtmhmcffejkpmjaaDoor
open Go.RowKit Go.Shelf Go.Joins
set_option maxRecDepth 100000

theorem bst_val (s : Nat) : ∀ n, (bst s n).2 = byN s (bst s n).1
  | 0 => rfl
  | n + 1 => by
    by_cases h : (bst s n).2 < byN s (n + 1)
    · rw [bst_yes h]
    · rw [bst_no h]; exact bst_val s n
theorem bst_max (s : Nat) : ∀ n k, k ≤ n → byN s k ≤ (bst s n).2 ∧ (byN s k = (bst s n).2 → (bst s n).1 ≤ k)
  | 0, k, h => by
    obtain rfl : k = 0 := by omega
    exact ⟨Nat.le_refl _, fun _ => Nat.le_refl _⟩
  | n + 1, k, h => by
    by_cases hg : (bst s n).2 < byN s (n + 1)
    · rw [bst_yes hg]
      rcases Nat.lt_or_ge n k with hk | hk
      · obtain rfl : k = n + 1 := by omega
        exact ⟨Nat.le_refl _, fun _ => Nat.le_refl _⟩
      · have := (bst_max s n k hk).1
        exact ⟨by show _ ≤ byN s (n + 1); omega, fun e => by exfalso; have e2 : byN s k = byN s (n + 1) := e; omega⟩
    · rw [bst_no hg]
      rcases Nat.lt_or_ge n k with hk | hk
      · obtain rfl : k = n + 1 := by omega
        exact ⟨by omega, fun _ => by have := bst_le s n; omega⟩
      · exact bst_max s n k hk
theorem errs_none : ∀ l : List Va, errs l = 0 → ∀ v ∈ l, v.chk = 0
  | [], _, v, h => by cases h
  | x :: l, h, v, hv => by
    by_cases h0 : x.chk = 0
    · rw [errs_pass h0] at h
      rcases List.mem_cons.1 hv with rfl | hv
      · exact h0
      · exact errs_none l h v hv
    · rw [errs_stop h0] at h; exact absurd h h0
theorem wE_none {l : List Va} (h : wE l = 0) : ∀ v ∈ l, v.chk = 0 := by
  unfold wE at h; split at h
  · cases h
  · exact errs_none l h
theorem ty_of {a : Va} (h : a.chk = 0) : 0 ≤ a.ty ∧ a.ty ≤ 4 := chk_ty h
/-- values that are the same have the same bytes -/
theorem ord_same {a b : Va} (ha : a.chk = 0) (hb : b.chk = 0) (h : ordV a b = 0) : a.ty = b.ty ∧ valB a = valB b := by
  have h1 := ty_of ha
  have h2 := ty_of hb
  unfold ordV at h
  by_cases hg : grp a.ty = grp b.ty
  · rw [if_pos hg] at h
    by_cases g0 : grp a.ty = 0
    · have t1 : a.ty = 0 := by unfold grp at g0; split at g0; assumption; split at g0; cases g0; split at g0; cases g0; split at g0; cases g0; cases g0
      have t2 : b.ty = 0 := by rw [hg] at g0; unfold grp at g0; split at g0; assumption; split at g0; cases g0; split at g0; cases g0; split at g0; cases g0; cases g0
      refine ⟨by rw [t1, t2], ?_⟩
      unfold valB; rw [t1, t2]; simp
    · rw [if_neg g0] at h
      by_cases g1 : grp a.ty = 1
      · rw [if_pos g1] at h
        have t1 := grp_one.1 g1
        have t2 := grp_one.1 (hg ▸ g1)
        have q : numC a b = 0 ∧ cmpI a.ty b.ty = 0 := by
          unfold firstI at h
          by_cases z : numC a b = 0
          · refine ⟨z, ?_⟩
            simp [z, firstI] at h
            by_cases z2 : cmpI a.ty b.ty = 0
            · exact z2
            · simp [z2] at h
          · simp [z] at h
        have e := cmpI_zero.1 q.2
        refine ⟨e, ?_⟩
        have q1 := q.1
        unfold numC at q1
        rw [if_pos e] at q1
        have en := cmpI_zero.1 q1
        unfold valB numN sc
        rw [e, en]
        rw [if_pos t2, if_pos t2]
      · rw [if_neg g1] at h
        by_cases g2 : grp a.ty = 2
        · rw [if_pos g2] at h
          have t1 : a.ty = 3 := by unfold grp at g2; split at g2; cases g2; split at g2; cases g2; split at g2; assumption; split at g2; cases g2; cases g2
          have t2 : b.ty = 3 := by rw [hg] at g2; unfold grp at g2; split at g2; cases g2; split at g2; cases g2; split at g2; assumption; split at g2; cases g2; cases g2
          have es : a.s.data.toList = b.s.data.toList := (cmp_zero _ _).1 h
          refine ⟨by rw [t1, t2], ?_⟩
          unfold valB textB
          rw [t1, t2, es]
          simp
        · rw [if_neg g2] at h
          by_cases g3 : grp a.ty = 3
          · rw [if_pos g3] at h
            have t1 : a.ty = 4 := by unfold grp at g3; split at g3; cases g3; split at g3; cases g3; split at g3; cases g3; split at g3; assumption; cases g3
            have t2 : b.ty = 4 := by rw [hg] at g3; unfold grp at g3; split at g3; cases g3; split at g3; cases g3; split at g3; cases g3; split at g3; assumption; cases g3
            refine ⟨by rw [t1, t2], ?_⟩
            unfold valB
            rw [t1, t2, cmpI_zero.1 h]
            simp
          · exfalso
            have g4 : grp a.ty = 4 := by rcases grp_vals a.ty with x | x | x | x | x <;> simp_all
            rcases ty_cases a.ty with x | x | x | x | x | x <;> first | (rw [x] at g4; cases g4) | omega
  · rw [if_neg hg] at h
    exact absurd (cmpI_zero.1 h) hg
theorem amV_same {a b : Va} (n : Nat) (ha : a.chk = 0) (hb : b.chk = 0) (h : ordV a b = 0) : amV n a = amV n b := by
  obtain ⟨h1, h2⟩ := ord_same ha hb h
  unfold amV nulV sdV
  rw [h1, h2]
end Go.Proofs.YtmhmcffejkpmjaaDoor
