/-
  What Reckon comes to.
-/
import Derived.Test.YtppcoimfgafbfaaGreatDoorLwA
namespace Go.Proofs.YtppcoimfgafbfaaGreatDoor
open Go.RowKit Go.Shelf

/-- a number, or an error -/
def num (ty n e : Int) : Va × Int := if e = 0 then (⟨ty, n, ⟨#[]⟩⟩, 0) else (⟨0, 0, ⟨#[]⟩⟩, e)
/-- the answer of a call that tells a value and an error -/
def ans (p : Va × Int) : Value := .tuple #[.agg #[.int .i64 p.1.ty, .int .i64 p.1.n, .string p.1.s], .int .i64 p.2]
theorem num_ok (ty n : Int) : num ty n 0 = (⟨ty, n, ⟨#[]⟩⟩, 0) := if_pos rfl
theorem num_bad {ty n e : Int} (h : ¬ e = 0) : num ty n e = (⟨0, 0, ⟨#[]⟩⟩, e) := if_neg h
theorem number_any (ty n e : Int) (w : World) : Calls Tryz.prog 12 #[.int .i64 ty, .int .i64 n, .int .i64 e] w fun r w' => r = .returned (ans (num ty n e)) ∧ Below w.heap.size w w' := by
  by_cases h : e = 0
  · subst h; rw [num_ok]; exact number_ok ty n w
  · rw [num_bad h]; exact number_err ty n e w h
/-- how many ten-thousandths a number is -/
def pt (v : Va) : Int := if v.ty = 2 then v.n else v.n * 10000
theorem partsOf_any (v : Va) (w : World) (hf : fit v.n) :
    Calls Tryz.prog 13 #[.agg #[.int .i64 v.ty, .int .i64 v.n, .string v.s]] w fun e w' => e = .returned (.tuple #[.int .i64 (ovV (pt v)), .int .i64 (ovE (pt v))]) ∧ Below w.heap.size w w' := by
  obtain ⟨ty, n, s⟩ := v
  by_cases h : ty = 2
  · subst h
    have e : pt ⟨2, n, s⟩ = n := if_pos rfl
    rw [e, ovV_in hf, ovE_in hf]; exact partsOf_dec n s w
  · have e : pt ⟨ty, n, s⟩ = n * 10000 := if_neg h
    rw [e]; exact partsOf_whole ty n s w h hf
theorem oneNull_or (a b : Va) (w : World) : Calls Tryz.prog 10 #[.agg #[.int .i64 a.ty, .int .i64 a.n, .string a.s], .agg #[.int .i64 b.ty, .int .i64 b.n, .string b.s]] w fun e w' => e = .returned (.bool (decide (a.ty = 0 ∨ b.ty = 0))) ∧ Below w.heap.size w w' := by
  have := oneNull_any a.ty a.n a.s b.ty b.n b.s w
  rw [show (decide (a.ty = 0) || decide (b.ty = 0)) = decide (a.ty = 0 ∨ b.ty = 0) by rw [Bool.eq_iff_iff]; simp] at this
  exact this
/-- what Reckon comes to, given the reckoning of wholes and of ten-thousandths -/
def rk (fW fP : Int → Int → Int) (a b : Va) : Va × Int :=
  if ¬ nums [a, b] = 0 then (⟨0, 0, ⟨#[]⟩⟩, nums [a, b]) else if a.ty = 0 ∨ b.ty = 0 then (⟨0, 0, ⟨#[]⟩⟩, 0)
  else if a.ty = 1 ∧ b.ty = 1 then num 1 (ovV (fW a.n b.n)) (ovE (fW a.n b.n))
  else if ¬ ovE (pt a) = 0 then (⟨0, 0, ⟨#[]⟩⟩, ovE (pt a)) else if ¬ ovE (pt b) = 0 then (⟨0, 0, ⟨#[]⟩⟩, ovE (pt b))
  else num 2 (ovV (fP (pt a) (pt b))) (ovE (fP (pt a) (pt b)))
theorem nums_ty {a b : Va} (h : nums [a, b] = 0) : (a.ty = 0 ∨ a.ty = 1 ∨ a.ty = 2) ∧ (b.ty = 0 ∨ b.ty = 1 ∨ b.ty = 2) := by
  have g : ∀ t : Int, grp t = 1 → t = 1 ∨ t = 2 := fun t ht => by
    unfold grp at ht
    by_cases h0 : t = 0
    · rw [if_pos h0] at ht; omega
    · rw [if_neg h0] at ht
      by_cases h1 : t = 1 ∨ t = 2
      · exact h1
      · rw [if_neg h1] at ht
        by_cases h3 : t = 3
        · rw [if_pos h3] at ht; omega
        · rw [if_neg h3] at ht; split at ht <;> omega
  unfold nums chk2 at h
  by_cases he : errs [a, b] = 0
  · rw [if_pos he] at h
    by_cases h1 : a.ty = 0 ∨ grp a.ty = 1
    · rw [badNum_pass h1] at h
      by_cases h2 : b.ty = 0 ∨ grp b.ty = 1
      · exact ⟨h1.imp id (g _), h2.imp id (g _)⟩
      · rw [badNum_stop h2] at h; omega
    · rw [badNum_stop h1] at h; omega
  · rw [if_neg he] at h; exact absurd h he
theorem ovV_fit (x : Int) : fit (ovV x) := by
  by_cases h : fit x
  · rw [ovV_in h]; exact h
  · rw [ovV_out h]; unfold fit; omega
theorem ovE_zero {x : Int} (h : ovE x = 0) : fit x := by
  by_cases g : fit x
  · exact g
  · rw [ovE_out g] at h; omega
end Go.Proofs.YtppcoimfgafbfaaGreatDoor
