/-
  The laws of sums and products, as plain arithmetic.
-/
import Derived.Test.YtjkaokbabplebaaDoorLwN
namespace Go.Proofs.YtjkaokbabplebaaDoor
open Go.RowKit Go.Shelf

/-- a number, or NULL, that can be -/
def N1 (a : Va) : Prop := a.chk = 0 ∧ (a.ty = 0 ∨ a.ty = 1 ∨ a.ty = 2)
theorem grp_num {t : Int} : (t = 0 ∨ grp t = 1) ↔ (t = 0 ∨ t = 1 ∨ t = 2) := by
  unfold grp
  constructor
  · rintro (h | h)
    · exact Or.inl h
    · by_cases h0 : t = 0
      · exact Or.inl h0
      · rw [if_neg h0] at h
        by_cases h1 : t = 1 ∨ t = 2
        · exact Or.inr h1
        · rw [if_neg h1] at h
          by_cases h3 : t = 3
          · rw [if_pos h3] at h; omega
          · rw [if_neg h3] at h; split at h <;> omega
  · rintro (h | h)
    · exact Or.inl h
    · refine Or.inr ?_
      rw [if_neg (by omega), if_pos h]
theorem nums1 (a : Va) : nums [a] = 0 ↔ N1 a := by
  unfold nums chk2 N1
  by_cases hc : a.chk = 0
  · have e : errs [a] = 0 := by rw [errs_pass hc]; rfl
    rw [if_pos e]
    by_cases hg : a.ty = 0 ∨ grp a.ty = 1
    · rw [badNum_pass hg]
      exact ⟨fun _ => ⟨hc, grp_num.1 hg⟩, fun _ => rfl⟩
    · rw [badNum_stop hg]
      exact ⟨fun h => by omega, fun h => absurd (grp_num.2 h.2) hg⟩
  · have e : errs [a] = a.chk := errs_stop hc
    rw [e, if_neg hc]
    exact ⟨fun h => absurd h hc, fun h => absurd h.1 hc⟩
theorem nums2 (a b : Va) : nums [a, b] = 0 ↔ N1 a ∧ N1 b := by
  unfold nums chk2
  by_cases hc : a.chk = 0
  · by_cases hd : b.chk = 0
    · have e : errs [a, b] = 0 := by rw [errs_pass hc, errs_pass hd]; rfl
      rw [if_pos e]
      by_cases hg : a.ty = 0 ∨ grp a.ty = 1
      · rw [badNum_pass hg]
        by_cases hk : b.ty = 0 ∨ grp b.ty = 1
        · rw [badNum_pass hk]
          exact ⟨fun _ => ⟨⟨hc, grp_num.1 hg⟩, ⟨hd, grp_num.1 hk⟩⟩, fun _ => rfl⟩
        · rw [badNum_stop hk]
          exact ⟨fun h => by omega, fun h => absurd (grp_num.2 h.2.2) hk⟩
      · rw [badNum_stop hg]
        exact ⟨fun h => by omega, fun h => absurd (grp_num.2 h.1.2) hg⟩
    · have e : errs [a, b] = b.chk := by rw [errs_pass hc, errs_stop hd]
      rw [e, if_neg hd]
      exact ⟨fun h => absurd h hd, fun h => absurd h.2.1 hd⟩
  · have e : errs [a, b] = a.chk := errs_stop hc
    rw [e, if_neg hc]
    exact ⟨fun h => absurd h hc, fun h => absurd h.1.1 hc⟩
theorem N1_num {t n : Int} (h : t = 0 ∨ t = 1 ∨ t = 2) : N1 ⟨t, n, ⟨#[]⟩⟩ := by
  refine ⟨?_, h⟩
  show chk t n _ = 0
  unfold chk
  rw [if_neg (by omega), if_neg (by omega)]
theorem rk_bad {fW fP : Int → Int → Int} {a b : Va} (h : ¬ (N1 a ∧ N1 b)) : rk fW fP a b = ((⟨0, 0, ⟨#[]⟩⟩ : Va), nums [a, b]) ∧ ¬ nums [a, b] = 0 := by
  have h' : ¬ nums [a, b] = 0 := fun e => h ((nums2 a b).1 e)
  exact ⟨by unfold rk; rw [if_pos h'], h'⟩
theorem rk_null {fW fP : Int → Int → Int} {a b : Va} (ha : N1 a) (hb : N1 b) (h : a.ty = 0 ∨ b.ty = 0) : rk fW fP a b = ((⟨0, 0, ⟨#[]⟩⟩ : Va), 0) := by
  unfold rk; rw [if_neg (by simp [(nums2 a b).2 ⟨ha, hb⟩]), if_pos h]
theorem rk_whole {fW fP : Int → Int → Int} {a b : Va} (ha : N1 a) (hb : N1 b) (h1 : a.ty = 1) (h2 : b.ty = 1) : rk fW fP a b = num 1 (ovV (fW a.n b.n)) (ovE (fW a.n b.n)) := by
  unfold rk; rw [if_neg (by simp [(nums2 a b).2 ⟨ha, hb⟩]), if_neg (by omega), if_pos ⟨h1, h2⟩]
theorem rk_parts {fW fP : Int → Int → Int} {a b : Va} (ha : N1 a) (hb : N1 b) (h0 : ¬ (a.ty = 0 ∨ b.ty = 0)) (h1 : ¬ (a.ty = 1 ∧ b.ty = 1)) :
    rk fW fP a b = if ¬ ovE (pt a) = 0 then ((⟨0, 0, ⟨#[]⟩⟩ : Va), ovE (pt a)) else if ¬ ovE (pt b) = 0 then ((⟨0, 0, ⟨#[]⟩⟩ : Va), ovE (pt b)) else num 2 (ovV (fP (pt a) (pt b))) (ovE (fP (pt a) (pt b))) := by
  unfold rk; rw [if_neg (by simp [(nums2 a b).2 ⟨ha, hb⟩]), if_neg h0, if_neg h1]
theorem rk_ok (fW fP : Int → Int → Int) (a b : Va) : fit (rk fW fP a b).1.n ∧ (rk fW fP a b).1.s = ⟨#[]⟩ := by
  have z : fit 0 := by unfold fit; omega
  have nm : ∀ t x e, fit (num t (ovV x) e).1.n ∧ (num t (ovV x) e).1.s = ⟨#[]⟩ := fun t x e => by
    unfold num; split
    · exact ⟨ovV_fit x, rfl⟩
    · exact ⟨z, rfl⟩
  unfold rk
  split
  · exact ⟨z, rfl⟩
  · split
    · exact ⟨z, rfl⟩
    · split
      · exact nm _ _ _
      · split
        · exact ⟨z, rfl⟩
        · split
          · exact ⟨z, rfl⟩
          · exact nm _ _ _
theorem ng_ok (b : Va) : fit (ng b).1.n ∧ (ng b).1.s = ⟨#[]⟩ := by
  have z : fit 0 := by unfold fit; omega
  unfold ng
  split
  · exact ⟨z, rfl⟩
  · split
    · exact ⟨z, rfl⟩
    · unfold num; split
      · exact ⟨ovV_fit _, rfl⟩
      · exact ⟨z, rfl⟩
theorem num_zero {t x e : Int} (h : (num t x e).2 = 0) : e = 0 := by
  by_cases g : e = 0
  · exact g
  · rw [num_bad g] at h; exact h
theorem num_fit {t x : Int} (h : fit x) : num t (ovV x) (ovE x) = (⟨t, x, ⟨#[]⟩⟩, 0) := by rw [ovV_in h, ovE_in h, num_ok]

/-- sums and products do not hang on the order -/
theorem rk_comm (fW fP : Int → Int → Int) (cW : ∀ x y, fW x y = fW y x) (cP : ∀ x y, fP x y = fP y x) (a b : Va) : (rk fW fP a b).1 = (rk fW fP b a).1 ∧ ((rk fW fP a b).2 = 0 ↔ (rk fW fP b a).2 = 0) := by
  by_cases hN : N1 a ∧ N1 b
  · obtain ⟨ha, hb⟩ := hN
    by_cases h0 : a.ty = 0 ∨ b.ty = 0
    · rw [rk_null ha hb h0, rk_null hb ha h0.symm]; exact ⟨rfl, Iff.rfl⟩
    · by_cases h1 : a.ty = 1 ∧ b.ty = 1
      · rw [rk_whole ha hb h1.1 h1.2, rk_whole hb ha h1.2 h1.1, cW]; exact ⟨rfl, Iff.rfl⟩
      · rw [rk_parts ha hb h0 h1, rk_parts hb ha (fun h => h0 h.symm) (fun h => h1 h.symm), cP (pt b)]
        by_cases ga : ovE (pt a) = 0
        · by_cases gb : ovE (pt b) = 0
          · rw [if_neg (by simp [ga]), if_neg (by simp [gb]), if_neg (by simp [gb]), if_neg (by simp [ga])]; exact ⟨rfl, Iff.rfl⟩
          · rw [if_neg (by simp [ga]), if_pos gb, if_pos gb]; exact ⟨rfl, Iff.rfl⟩
        · rw [if_pos ga]
          by_cases gb : ovE (pt b) = 0
          · rw [if_neg (by simp [gb]), if_pos ga]; exact ⟨rfl, Iff.rfl⟩
          · rw [if_pos gb]; exact ⟨rfl, ⟨fun h => absurd h ga, fun h => absurd h gb⟩⟩
  · obtain ⟨e1, n1⟩ := rk_bad (fW := fW) (fP := fP) hN
    obtain ⟨e2, n2⟩ := rk_bad (fW := fW) (fP := fP) (fun h : N1 b ∧ N1 a => hN ⟨h.2, h.1⟩)
    rw [e1, e2]; exact ⟨rfl, ⟨fun h => absurd h n1, fun h => absurd h n2⟩⟩
theorem parts_zero {fW fP : Int → Int → Int} {a b : Va} (ha : N1 a) (hb : N1 b) (h0 : ¬ (a.ty = 0 ∨ b.ty = 0)) (h1 : ¬ (a.ty = 1 ∧ b.ty = 1)) (h : (rk fW fP a b).2 = 0) : fit (pt a) ∧ fit (pt b) ∧ fit (fP (pt a) (pt b)) ∧ rk fW fP a b = (⟨2, fP (pt a) (pt b), ⟨#[]⟩⟩, 0) := by
  rw [rk_parts ha hb h0 h1] at h ⊢
  by_cases ga : ovE (pt a) = 0
  · rw [if_neg (by simp [ga])] at h ⊢
    by_cases gb : ovE (pt b) = 0
    · rw [if_neg (by simp [gb])] at h ⊢
      have k := ovE_zero (num_zero h)
      exact ⟨ovE_zero ga, ovE_zero gb, k, num_fit k⟩
    · rw [if_pos gb] at h; exact absurd h gb
  · rw [if_pos ga] at h; exact absurd h ga
theorem parts_make {fW fP : Int → Int → Int} {a b : Va} (ha : N1 a) (hb : N1 b) (h0 : ¬ (a.ty = 0 ∨ b.ty = 0)) (h1 : ¬ (a.ty = 1 ∧ b.ty = 1)) (k1 : fit (pt a)) (k2 : fit (pt b)) (k3 : fit (fP (pt a) (pt b))) : rk fW fP a b = (⟨2, fP (pt a) (pt b), ⟨#[]⟩⟩, 0) := by
  rw [rk_parts ha hb h0 h1, ovE_in k1, ovE_in k2, if_neg (by simp), if_neg (by simp), num_fit k3]

/-- a difference is the sum with the opposite -/
theorem law_neg (a b : Va) (hi : (ng b).2 = 0) (hj : (rk (fun x y => x - y) (fun x y => x - y) a b).2 = 0) : rk (fun x y => x + y) (fun x y => x + y) a (ng b).1 = ((rk (fun x y => x - y) (fun x y => x - y) a b).1, 0) := by
  by_cases hN : N1 a ∧ N1 b
  · obtain ⟨ha, hb⟩ := hN
    have hnb := (nums1 b).2 hb
    by_cases hb0 : b.ty = 0
    · have e : ng b = ((⟨0, 0, ⟨#[]⟩⟩ : Va), 0) := by unfold ng; rw [if_neg (by simp [hnb]), if_pos hb0]
      rw [e, rk_null (fW := fun x y => x - y) (fP := fun x y => x - y) ha hb (Or.inr hb0), rk_null (fW := fun x y => x + y) (fP := fun x y => x + y) ha (N1_num (Or.inl rfl)) (Or.inr rfl)]
    · have e : ng b = num b.ty (ovV (0 - b.n)) (ovE (0 - b.n)) := by unfold ng; rw [if_neg (by simp [hnb]), if_neg hb0]
      rw [e] at hi ⊢
      have kn := ovE_zero (num_zero hi)
      rw [num_fit kn]
      have hn : N1 ⟨b.ty, 0 - b.n, ⟨#[]⟩⟩ := N1_num hb.2
      by_cases ha0 : a.ty = 0
      · rw [rk_null (fW := fun x y => x - y) (fP := fun x y => x - y) ha hb (Or.inl ha0), rk_null (fW := fun x y => x + y) (fP := fun x y => x + y) ha hn (Or.inl ha0)]
      · by_cases h1 : a.ty = 1 ∧ b.ty = 1
        · rw [rk_whole ha hb h1.1 h1.2] at hj ⊢
          have k := ovE_zero (num_zero hj)
          rw [rk_whole ha hn h1.1 h1.2, num_fit k]
          show num 1 (ovV (a.n + (0 - b.n))) (ovE (a.n + (0 - b.n))) = _
          rw [show a.n + (0 - b.n) = a.n - b.n by omega, num_fit k]
        · obtain ⟨k1, k2, k3, k4⟩ := parts_zero ha hb (by omega) h1 hj
          rw [k4]
          have en : pt ⟨b.ty, 0 - b.n, ⟨#[]⟩⟩ = - pt b := by
            unfold pt
            by_cases h2 : b.ty = 2
            · rw [if_pos h2, if_pos h2]; show 0 - b.n = _; omega
            · rw [if_neg h2, if_neg h2]; show (0 - b.n) * 10000 = _; omega
          have kf : fit (pt ⟨b.ty, 0 - b.n, ⟨#[]⟩⟩) := by
            rw [en]
            unfold pt at k2 ⊢
            unfold fit at kn k2 ⊢
            by_cases h2 : b.ty = 2
            · rw [if_pos h2]; omega
            · rw [if_neg h2] at k2 ⊢; omega
          have k5 : pt a + pt ⟨b.ty, 0 - b.n, ⟨#[]⟩⟩ = pt a - pt b := by rw [en]; omega
          have := parts_make (fW := fun x y => x + y) (fP := fun x y => x + y) ha hn (by show ¬ (a.ty = 0 ∨ b.ty = 0); omega) h1 k1 kf (by rw [k5]; exact k3)
          rw [k5] at this
          exact this
  · obtain ⟨e1, n1⟩ := rk_bad (fW := fun x y => x - y) (fP := fun x y => x - y) hN
    rw [e1] at hj; exact absurd hj n1
/-- less a number, and by it, comes back -/
theorem law_back (a b : Va) (fa : fit a.n) (he : (rk (fun x y => x + y) (fun x y => x + y) a b).2 = 0) : (rk (fun x y => x - y) (fun x y => x - y) (rk (fun x y => x + y) (fun x y => x + y) a b).1 b).2 = 0 ∧ (a.ty = 0 ∨ a.ty = 1 ∨ a.ty = 2) ∧ (a.ty = (rk (fun x y => x + y) (fun x y => x + y) a b).1.ty → (rk (fun x y => x - y) (fun x y => x - y) (rk (fun x y => x + y) (fun x y => x + y) a b).1 b).1 = pln a) := by
  by_cases hN : N1 a ∧ N1 b
  · obtain ⟨ha, hb⟩ := hN
    by_cases h0 : a.ty = 0 ∨ b.ty = 0
    · rw [rk_null ha hb h0, rk_null (N1_num (Or.inl rfl)) hb (Or.inl rfl)]
      refine ⟨rfl, ha.2, fun h => ?_⟩
      unfold pln; rw [if_neg (by have h' : a.ty = 0 := h; omega)]
    · by_cases h1 : a.ty = 1 ∧ b.ty = 1
      · rw [rk_whole ha hb h1.1 h1.2] at he ⊢
        have k := ovE_zero (num_zero he)
        rw [num_fit k, rk_whole (N1_num (Or.inr (Or.inl rfl))) hb rfl h1.2]
        show (num 1 (ovV (a.n + b.n - b.n)) (ovE (a.n + b.n - b.n))).2 = 0 ∧ _ ∧ (_ → (num 1 (ovV (a.n + b.n - b.n)) (ovE (a.n + b.n - b.n))).1 = _)
        rw [show a.n + b.n - b.n = a.n by omega, num_fit fa]
        refine ⟨rfl, ha.2, fun _ => ?_⟩
        unfold pln; rw [if_pos (Or.inl h1.1), h1.1]
      · obtain ⟨k1, k2, k3, k4⟩ := parts_zero ha hb h0 h1 he
        rw [k4]
        have es : pt ⟨2, pt a + pt b, ⟨#[]⟩⟩ = pt a + pt b := if_pos rfl
        have k5 : pt ⟨2, pt a + pt b, ⟨#[]⟩⟩ - pt b = pt a := by rw [es]; omega
        have := parts_make (fW := fun x y => x - y) (fP := fun x y => x - y) (a := ⟨2, pt a + pt b, ⟨#[]⟩⟩) (N1_num (Or.inr (Or.inr rfl))) hb (by show ¬ ((2 : Int) = 0 ∨ b.ty = 0); omega) (by show ¬ ((2 : Int) = 1 ∧ b.ty = 1); omega) (by rw [es]; exact k3) k2 (by rw [k5]; exact k1)
        rw [k5] at this
        show (rk (fun x y => x - y) (fun x y => x - y) ⟨2, pt a + pt b, ⟨#[]⟩⟩ b).2 = 0 ∧ _ ∧ (_ → (rk (fun x y => x - y) (fun x y => x - y) ⟨2, pt a + pt b, ⟨#[]⟩⟩ b).1 = _)
        rw [this]
        refine ⟨rfl, ha.2, fun h => ?_⟩
        have h' : a.ty = 2 := h
        have ea : pt a = a.n := if_pos h'
        unfold pln; rw [if_pos (Or.inr h'), ea, h']
  · obtain ⟨e1, n1⟩ := rk_bad (fW := fun x y => x + y) (fP := fun x y => x + y) hN
    rw [e1] at he; exact absurd he n1
end Go.Proofs.YtjkaokbabplebaaDoor
