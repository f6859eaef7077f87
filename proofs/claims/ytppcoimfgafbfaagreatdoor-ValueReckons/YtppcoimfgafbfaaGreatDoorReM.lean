/-
  Both Reckons, of any sign.
-/
import Derived.Test.YtppcoimfgafbfaaGreatDoorReJ
import Derived.Test.YtppcoimfgafbfaaGreatDoorReKa
import Derived.Test.YtppcoimfgafbfaaGreatDoorReKb
import Derived.Test.YtppcoimfgafbfaaGreatDoorReF
import Derived.Test.YtppcoimfgafbfaaGreatDoorReFo
import Derived.Test.YtppcoimfgafbfaaGreatDoorLwRsum
import Derived.Test.YtppcoimfgafbfaaGreatDoorLwRdif
import Derived.Test.YtppcoimfgafbfaaGreatDoorLwRmul
namespace Go.Proofs.YtppcoimfgafbfaaGreatDoor
open Go.RowKit Go.Shelf

set_option maxHeartbeats 2000000 in
set_option maxRecDepth 1000000 in
theorem refReckon_other (op : ByteArray) (a b : Va) (w : World) (hop : inL ops4 op = false) :
    Calls Tryz.prog 5 #[.string op, .agg #[.int .i64 a.ty, .int .i64 a.n, .string a.s], .agg #[.int .i64 b.ty, .int .i64 b.n, .string b.s]] w fun e w' => e = .returned (ans ((⟨0, 0, ⟨#[]⟩⟩ : Va), 1)) ∧ Below w.heap.size w w' := by
  have F0 : Hid _ := Fr.new w a b ⟨0, 0, ⟨#[]⟩⟩
  have B0 : Hid _ := (((Below.refl _ w).alloc (Nat.le_refl _) (.cells #[.int .i64 a.ty, .int .i64 a.n, .string a.s] 23)).alloc (by simp) (.cells #[.int .i64 b.ty, .int .i64 b.n, .string b.s] 23)).alloc (by simp; omega) (.cells #[.int .i64 0, .int .i64 0, .string ⟨#[]⟩] 23)
  have V0 : Hid (∀ t, _) := fun t => strsAt_four3 w (.cells #[.int .i64 a.ty, .int .i64 a.n, .string a.s] 23) (.cells #[.int .i64 b.ty, .int .i64 b.n, .string b.s] 23) (.cells #[.int .i64 0, .int .i64 0, .string ⟨#[]⟩] 23) t
  have IN : Hid (∀ g w, strsAt w g ops4 → Calls Tryz.prog 15 #[.slice (some ⟨g, 0, none⟩) 4 4, .string op] w fun e w' => e = .returned (.bool false) ∧ Below w.heap.size w w') := fun g w hv => (in_any g 4 ops4 op w (by decide) hv).mono (by rintro e w' ⟨rfl, rfl⟩; exact ⟨by rw [hop], Below.refl _ _⟩)
  clear hop
  go_enter Tryz.func5, Tryz.ntmps5
  go_wp2_with fail
  refine (IN.out _ _ (V0.out _)).mono ?_
  rintro e w1 ⟨rfl, hb1⟩
  have F1 := F0.out.below (((Below.refl _ _).alloc (Nat.le_refl _) _).trans (hb1.mono (by simp)))
  have B1 := (B0.out.alloc (by simp; omega) _).trans (hb1.mono (by simp; omega))
  clear hb1 F0 B0 V0
  obtain ⟨l1, a0, a1, a2, b0, b1, b2, r0, r1, r2, hf⟩ := id F1
  go_wp2_with fail
  refine bodyPost_ret (v := .tuple #[.agg #[.int .i64 0, .int .i64 0, .string ⟨#[]⟩], .int .i64 1]) (by simp [results, Tryz.results5, go_sem, r0, r1, r2]) rfl ⟨rfl, ?_⟩
  exact ((B1.setCell (by simp; omega) _).setCell (by simp; omega) _).setCell (by simp; omega) _

theorem refReckon_in (op : ByteArray) (a b : Va) (w : World) (hop : inL ops4 op = true) (fa : fit a.n) (fb : fit b.n) (fW fP : Int → Int → Int × Int)
    (HW : ∀ x y w, fit x → fit y → Calls Tryz.prog 19 #[.string op, .int .i64 x, .int .i64 y, .bool false] w fun e w' => e = .returned (.tuple #[.int .i64 (fW x y).1, .int .i64 (fW x y).2]) ∧ Below w.heap.size w w')
    (HP : ∀ x y w, fit x → fit y → Calls Tryz.prog 19 #[.string op, .int .i64 x, .int .i64 y, .bool true] w fun e w' => e = .returned (.tuple #[.int .i64 (fP x y).1, .int .i64 (fP x y).2]) ∧ Below w.heap.size w w') :
    Calls Tryz.prog 5 #[.string op, .agg #[.int .i64 a.ty, .int .i64 a.n, .string a.s], .agg #[.int .i64 b.ty, .int .i64 b.n, .string b.s]] w fun e w' => e = .returned (ans (rk2 fW fP a b)) ∧ Below w.heap.size w w' := by
  by_cases he : errs [a, b] = 0
  · by_cases hx : (a.ty = 0 ∨ grp a.ty = 1) ∧ (b.ty = 0 ∨ grp b.ty = 1)
    · have hn : nums [a, b] = 0 := by unfold nums chk2; rw [if_pos he, badNum_pass hx.1, badNum_pass hx.2]; rfl
      by_cases h0 : a.ty = 0 ∨ b.ty = 0
      · have e : rk2 fW fP a b = ((⟨0, 0, ⟨#[]⟩⟩ : Va), 0) := by unfold rk2; rw [if_neg (by simp [hn]), if_pos h0]
        rw [e]; exact refReckon_null op a b w hop he hx h0
      · rw [not_or] at h0
        have ta := grp1_ty (hx.1.resolve_left h0.1)
        have tb := grp1_ty (hx.2.resolve_left h0.2)
        by_cases h11 : a.ty = 1 ∧ b.ty = 1
        · have e : rk2 fW fP a b = num 1 (fW a.n b.n).1 (fW a.n b.n).2 := by unfold rk2; rw [if_neg (by simp [hn]), if_neg (by omega), if_pos h11]
          rw [e]; exact refReckon_whole op a b w hop fa fb fW HW he h11.1 h11.2
        · have e : rk2 fW fP a b = if ¬ ovE (pt a) = 0 then ((⟨0, 0, ⟨#[]⟩⟩ : Va), ovE (pt a)) else if ¬ ovE (pt b) = 0 then ((⟨0, 0, ⟨#[]⟩⟩ : Va), ovE (pt b)) else num 2 (fP (pt a) (pt b)).1 (fP (pt a) (pt b)).2 := by unfold rk2; rw [if_neg (by simp [hn]), if_neg (by omega), if_neg h11]
          rw [e]
          rcases ta with ta | ta
          · exact refReckon_partsB op a b w hop fa fb fP HP he ta (by omega)
          · exact refReckon_partsA op a b w hop fa fb fP HP he ta tb
    · have hn : nums [a, b] = 7 := by
        unfold nums chk2; rw [if_pos he]
        by_cases h1 : a.ty = 0 ∨ grp a.ty = 1
        · rw [badNum_pass h1, badNum_stop (fun h => hx ⟨h1, h⟩)]
        · rw [badNum_stop h1]
      have e : rk2 fW fP a b = ((⟨0, 0, ⟨#[]⟩⟩ : Va), 7) := by unfold rk2; rw [if_pos (by rw [hn]; decide), hn]
      rw [e]; exact refReckon_type op a b w hop he hx
  · have hn : nums [a, b] = errs [a, b] := by unfold nums chk2; rw [if_neg he]
    have e : rk2 fW fP a b = ((⟨0, 0, ⟨#[]⟩⟩ : Va), errs [a, b]) := by unfold rk2; rw [if_pos (by rw [hn]; exact he), hn]
    rw [e]; exact refReckon_err op a b w hop he

/-- what Reckon comes to, of any sign -/
def rkO (op : ByteArray) (a b : Va) : Va × Int :=
  if op.data.toList = [43] then rk2 (ovP fun x y => x + y) (ovP fun x y => x + y) a b
  else if op.data.toList = [45] then rk2 (ovP fun x y => x - y) (ovP fun x y => x - y) a b
  else if op.data.toList = [42] then rk2 (ovP fun x y => x * y) (ovP prd) a b
  else if op.data.toList = [47] then rk2 divW divP a b
  else ((⟨0, 0, ⟨#[]⟩⟩ : Va), 1)
theorem eq_of_bytes {s : ByteArray} {l : List UInt8} (h : s.data.toList = l) : s = ⟨l.toArray⟩ := by
  subst h; cases s; simp
theorem Reckon_all (op : ByteArray) (a b : Va) (w : World) (fa : fit a.n) (fb : fit b.n) (sa : a.s.size ≤ 9223372036854775807) (sb : b.s.size ≤ 9223372036854775807) (hT : Tabs w) :
    Calls Tryz.prog 4 #[.string op, .agg #[.int .i64 a.ty, .int .i64 a.n, .string a.s], .agg #[.int .i64 b.ty, .int .i64 b.n, .string b.s]] w fun e w' => e = .returned (ans (rkO op a b)) ∧ Below w.heap.size w w' := by
  unfold rkO
  by_cases h0 : op.data.toList = [43]
  · rw [if_pos h0, ← rk_rk2, eq_of_bytes h0]; exact Reckon_sum a b w fa fb sa sb hT
  · rw [if_neg h0]
    by_cases h1 : op.data.toList = [45]
    · rw [if_pos h1, ← rk_rk2, eq_of_bytes h1]; exact Reckon_dif a b w fa fb sa sb hT
    · rw [if_neg h1]
      by_cases h2 : op.data.toList = [42]
      · rw [if_pos h2, ← rk_rk2, eq_of_bytes h2]; exact Reckon_mul a b w fa fb sa sb hT
      · rw [if_neg h2]
        by_cases h3 : op.data.toList = [47]
        · rw [if_pos h3, eq_of_bytes h3]; exact Reckon_div a b w fa fb sa sb hT
        · rw [if_neg h3]; exact Reckon_other op a b w h0 h1 h2 h3
theorem refReckon_all (op : ByteArray) (a b : Va) (w : World) (fa : fit a.n) (fb : fit b.n) :
    Calls Tryz.prog 5 #[.string op, .agg #[.int .i64 a.ty, .int .i64 a.n, .string a.s], .agg #[.int .i64 b.ty, .int .i64 b.n, .string b.s]] w fun e w' => e = .returned (ans (rkO op a b)) ∧ Below w.heap.size w w' := by
  unfold rkO
  by_cases h0 : op.data.toList = [43]
  · rw [if_pos h0, eq_of_bytes h0]; exact refReckon_in _ a b w (by rw [in_ops]; decide) fa fb _ _ (fun x y w hx hy => reckoned_sum x y false w hx hy) (fun x y w hx hy => reckoned_sum x y true w hx hy)
  · rw [if_neg h0]
    by_cases h1 : op.data.toList = [45]
    · rw [if_pos h1, eq_of_bytes h1]; exact refReckon_in _ a b w (by rw [in_ops]; decide) fa fb _ _ (fun x y w hx hy => reckoned_dif x y false w hx hy) (fun x y w hx hy => reckoned_dif x y true w hx hy)
    · rw [if_neg h1]
      by_cases h2 : op.data.toList = [42]
      · rw [if_pos h2, eq_of_bytes h2]; exact refReckon_in _ a b w (by rw [in_ops]; decide) fa fb _ _ (fun x y w hx hy => reckoned_mulW x y w hx hy) (fun x y w hx hy => reckoned_mulP x y w hx hy)
      · rw [if_neg h2]
        by_cases h3 : op.data.toList = [47]
        · rw [if_pos h3, eq_of_bytes h3]
          refine refReckon_in _ a b w (by rw [in_ops]; decide) fa fb _ _ (fun x y w hx hy => ?_) (fun x y w hx hy => ?_)
          · unfold divW
            by_cases h : y = 0
            · subst h; rw [if_pos rfl]; exact reckoned_zero x false w
            · rw [if_neg h]; exact reckoned_divW x y w hx hy h
          · unfold divP
            by_cases h : y = 0
            · subst h; rw [if_pos rfl]; exact reckoned_zero x true w
            · rw [if_neg h]; exact reckoned_divP x y w hx hy h
        · rw [if_neg h3]
          refine refReckon_other op a b w ?_
          rw [in_ops]
          simp only [List.contains_cons, List.contains_nil, Bool.or_false]
          simp only [beq_eq_false_iff_ne.2 h0, beq_eq_false_iff_ne.2 h1, beq_eq_false_iff_ne.2 h2, beq_eq_false_iff_ne.2 h3]; rfl
end Go.Proofs.YtppcoimfgafbfaaGreatDoor
