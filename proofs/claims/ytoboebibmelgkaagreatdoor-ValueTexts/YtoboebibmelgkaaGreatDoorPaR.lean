/-
  What is printed is read as what it was.
-/
import Derived.Test.YtoboebibmelgkaaGreatDoorPaQ
namespace Go.Proofs.YtoboebibmelgkaaGreatDoor
open Go.RowKit Go.Shelf

theorem dg_isD {d : Nat} (h : d < 10) : isD (dig d) = true := by
  unfold isD
  rw [dig_nat h]
  exact decide_eq_true ⟨by omega, by omega⟩
theorem dd_all (u : Nat) : allD (Lib.decDigits u) = true := by
  induction u using Nat.strongRecOn with
  | _ u ih =>
    by_cases h : u < 10
    · rw [Lib.decDigits, dif_pos h]
      show (isD (dig u) && true) = true
      rw [dg_isD h]; rfl
    · rw [Lib.decDigits, dif_neg h]
      have i1 := ih (u / 10) (by omega)
      unfold allD at i1 ⊢
      rw [List.all_append, i1]
      show (true && (isD (dig (u % 10)) && true)) = true
      rw [dg_isD (by omega)]; rfl
theorem dval_dig (a d : Nat) (h : d < 10) : dval a [dig d] = a * 10 + d := by
  have e : dval a [dig d] = a * 10 + ((dig d).toNat - 48) := rfl
  rw [e, dig_nat h]; omega
theorem dd_val (u : Nat) : dval 0 (Lib.decDigits u) = u := by
  induction u using Nat.strongRecOn with
  | _ u ih =>
    by_cases h : u < 10
    · rw [Lib.decDigits, dif_pos h]
      have := dval_dig 0 u h
      unfold dig at this
      rw [this]; omega
    · rw [Lib.decDigits, dif_neg h, dval_app, ih (u / 10) (by omega)]
      have := dval_dig (u / 10) (u % 10) (by omega)
      unfold dig at this
      rw [this]; omega
theorem dd_ne (u : Nat) : Lib.decDigits u ≠ [] := by
  intro h
  have := Lib.decDigits_length u
  rw [h] at this
  have h1 := Lib.nDigits_pos u
  simp at this; omega
theorem dd_head (u : Nat) (hu : u ≠ 0) : (Lib.decDigits u).head? ≠ some 48 := by
  induction u using Nat.strongRecOn with
  | _ u ih =>
    by_cases h : u < 10
    · rw [Lib.decDigits, dif_pos h]
      show some (dig u) ≠ some 48
      intro e
      have e2 := congrArg UInt8.toNat (Option.some.inj e)
      rw [dig_nat h] at e2
      have : (48 : UInt8).toNat = 48 := rfl
      omega
    · rw [Lib.decDigits, dif_neg h]
      have i1 := ih (u / 10) (by omega) (by omega)
      have hne := dd_ne (u / 10)
      rcases hd : Lib.decDigits (u / 10) with _ | ⟨x, r⟩
      · exact absurd hd hne
      · rw [hd] at i1; exact i1
theorem dd_whole (u : Nat) : whole (Lib.decDigits u) = true := by
  unfold whole
  rw [dd_all]
  have hne := dd_ne u
  by_cases hu : u = 0
  · subst hu
    rw [Lib.decDigits, dif_pos (by decide)]; rfl
  · have h := dd_head u hu
    have e : ((Lib.decDigits u).head? != some 48) = true := by rw [bne_iff_ne]; exact h
    rw [e]
    rcases hd : Lib.decDigits u with _ | ⟨x, r⟩
    · exact absurd hd hne
    · simp
theorem dd_not0 {u : Nat} (hu : u ≠ 0) : Lib.decDigits u ≠ [48] := by
  intro h
  have := dd_head u hu
  rw [h] at this
  exact this rfl
theorem isD_ne {x : UInt8} (h : isD x = true) : x ≠ 46 ∧ x ≠ 39 ∧ x ≠ 45 ∧ x ≠ 78 ∧ x ≠ 84 ∧ x ≠ 70 := by
  have hx : 48 ≤ x.toNat ∧ x.toNat ≤ 57 := by simpa [isD] using h
  refine ⟨?_, ?_, ?_, ?_, ?_, ?_⟩ <;> (rintro rfl; revert hx; decide)
theorem cutP_all : ∀ {l : List UInt8}, allD l = true → cutP l = (l, [], false)
  | [], _ => rfl
  | x :: r, h => by
    have h2 : isD x = true ∧ allD r = true := by unfold allD at h; rw [List.all_cons, Bool.and_eq_true] at h; exact h
    rw [cutP, if_neg (isD_ne h2.1).1, cutP_all h2.2]
theorem cutP_point : ∀ {l : List UInt8} (F : List UInt8), allD l = true → cutP (l ++ 46 :: F) = (l, F, true)
  | [], F, _ => by show cutP (46 :: F) = _; rw [cutP, if_pos rfl]
  | x :: r, F, h => by
    have h2 : isD x = true ∧ allD r = true := by unfold allD at h; rw [List.all_cons, Bool.and_eq_true] at h; exact h
    show cutP (x :: (r ++ 46 :: F)) = _
    rw [cutP, if_neg (isD_ne h2.1).1, cutP_point F h2.2]
theorem prs_at {x : UInt8} {r : List UInt8} (hl : (x :: r).length ≤ 8194) (h1 : x ≠ 39) (h2 : x ≠ 78) (h3 : x ≠ 84) (h4 : x ≠ 70) : prs (x :: r) = if x = 45 then prN r true else prN (x :: r) false := by
  unfold prs
  rw [if_neg (by omega), if_neg (by intro e; injection e with e _; exact h2 e), if_neg (by intro e; injection e with e _; exact h3 e), if_neg (by intro e; injection e with e _; exact h4 e), if_neg (by intro e; exact h1 (Option.some.inj e))]
  by_cases h : x = 45
  · rw [if_pos h, if_pos (by rw [h]; rfl)]; rfl
  · rw [if_neg h, if_neg (by intro e; exact h (Option.some.inj e))]
theorem prs_neg (r : List UInt8) (hl : r.length ≤ 8000) : prs (45 :: r) = prN r true := by
  rw [prs_at (by simp; omega) (by decide) (by decide) (by decide) (by decide), if_pos rfl]
theorem prs_pos {l : List UInt8} (hl : l.length ≤ 8000) (hne : l ≠ []) (hd : ∀ x r, l = x :: r → isD x = true) : prs l = prN l false := by
  rcases l with _ | ⟨x, r⟩
  · exact absurd rfl hne
  · have h := isD_ne (hd x r rfl)
    rw [prs_at (by omega) h.2.1 h.2.2.2.1 h.2.2.2.2.1 h.2.2.2.2.2, if_neg h.2.2.1]
theorem fin_is {ty n : Int} (h : fit n) : fin ty n.natAbs (decide (n < 0)) = (⟨ty, n, ⟨#[]⟩⟩, 0) := by
  have h1 := h.1
  have h2 := h.2
  unfold fin
  by_cases hn : n < 0
  · rw [if_pos (decide_eq_true hn), if_pos (by omega)]
    have : -(n.natAbs : Int) = n := by omega
    rw [this]
  · rw [if_neg (by simpa using hn), if_pos (by omega)]
    have : (n.natAbs : Int) = n := by omega
    rw [this]
theorem dd_len {u : Nat} (h : u < 18446744073709551616) : (Lib.decDigits u).length ≤ 20 := by rw [Lib.decDigits_length]; exact Lib.nDigits_le20 u h
theorem dd_first (u : Nat) (F : List UInt8) : ∀ x r, Lib.decDigits u ++ F = x :: r → isD x = true := by
  intro x r h
  rcases hd : Lib.decDigits u with _ | ⟨y, t⟩
  · exact absurd hd (dd_ne u)
  · rw [hd] at h
    have e : y = x := by injection h
    have := dd_all u
    rw [hd] at this
    unfold allD at this
    rw [List.all_cons, Bool.and_eq_true, e] at this
    exact this.1
theorem itoa_eq (n : Int) : Lib.itoa n = if n < 0 then 45 :: Lib.decDigits n.natAbs else Lib.decDigits n.natAbs := by
  unfold Lib.itoa
  by_cases h : n < 0
  · rw [if_pos h, if_pos h]
  · rw [if_neg h, if_neg h]
    have : n.toNat = n.natAbs := by omega
    rw [this]
theorem prN_whole {u : Nat} (neg : Bool) (h : neg = true → u ≠ 0) : prN (Lib.decDigits u) neg = fin 1 u neg := by
  unfold prN
  rw [cutP_all (dd_all u), if_neg (by rw [dd_whole]; decide), if_pos rfl, if_neg (by rintro ⟨h1, h2⟩; exact dd_not0 (h h1) h2), dd_val]
theorem prs_itoa {n : Int} (h : fit n) : prs (Lib.itoa n) = (⟨1, n, ⟨#[]⟩⟩, 0) := by
  have hx := abs_lt h
  rw [itoa_eq, ← fin_is h]
  have hl := dd_len (u := n.natAbs) (by omega)
  by_cases hn : n < 0
  · rw [if_pos hn, prs_neg _ (by omega), decide_eq_true hn]
    exact prN_whole true (fun _ => by omega)
  · rw [if_neg hn, prs_pos (by omega) (dd_ne _) (by have := dd_first n.natAbs []; rw [List.append_nil] at this; exact this), decide_eq_false hn]
    exact prN_whole false (fun e => by cases e)
theorem fdS_pad {f : Nat} (_ : f < 10000) : fdS f ++ List.replicate (4 - (fdS f).length) 48 = [dig (f / 1000), dig (f / 100 % 10), dig (f / 10 % 10), dig (f % 10)] := by
  unfold fdS fd3 fd2 fd1
  by_cases h1 : f % 1000 = 0
  · rw [if_pos h1]
    have a : f / 100 % 10 = 0 := by omega
    have b : f / 10 % 10 = 0 := by omega
    have c : f % 10 = 0 := by omega
    rw [a, b, c]; rfl
  · rw [if_neg h1]
    have a : f % 1000 / 100 = f / 100 % 10 := by omega
    rw [a]
    by_cases h2 : f % 1000 % 100 = 0
    · rw [if_pos h2]
      have b : f / 10 % 10 = 0 := by omega
      have c : f % 10 = 0 := by omega
      rw [b, c]; rfl
    · rw [if_neg h2]
      have b : f % 1000 % 100 / 10 = f / 10 % 10 := by omega
      have c : f % 1000 % 100 % 10 = f % 10 := by omega
      rw [b, c]
      by_cases h3 : f % 10 = 0
      · rw [if_pos h3, h3]; rfl
      · rw [if_neg h3]; rfl
theorem fdS_ok {f : Nat} (h : f < 10000) : fdS f ≠ [] ∧ ¬ 4 < (fdS f).length ∧ allD (fdS f) = true := by
  have hp := fdS_pad h
  have hl := congrArg List.length hp
  rw [List.length_append, List.length_replicate] at hl
  refine ⟨by unfold fdS; exact List.cons_ne_nil _ _, by simp at hl; omega, ?_⟩
  have ha : allD (fdS f ++ List.replicate (4 - (fdS f).length) 48) = true := by
    rw [hp]
    unfold allD
    simp only [List.all_cons, List.all_nil, Bool.and_true]
    rw [dg_isD (d := f / 1000) (by omega), dg_isD (d := f / 100 % 10) (by omega), dg_isD (d := f / 10 % 10) (by omega), dg_isD (d := f % 10) (by omega)]; rfl
  unfold allD at ha ⊢
  rw [List.all_append, Bool.and_eq_true] at ha
  exact ha.1
theorem dval_pad {f : Nat} (h : f < 10000) (a : Nat) : dval a (fdS f ++ List.replicate (4 - (fdS f).length) 48) = a * 10000 + f := by
  rw [fdS_pad h, dval_four rfl]
  have e : dval 0 [dig (f / 1000), dig (f / 100 % 10), dig (f / 10 % 10), dig (f % 10)] = (((0 * 10 + ((dig (f / 1000)).toNat - 48)) * 10 + ((dig (f / 100 % 10)).toNat - 48)) * 10 + ((dig (f / 10 % 10)).toNat - 48)) * 10 + ((dig (f % 10)).toNat - 48) := rfl
  rw [e, dig_nat (by omega), dig_nat (by omega), dig_nat (by omega), dig_nat (by omega)]
  omega
theorem prN_dec (x : Nat) (neg : Bool) : prN (Lib.decDigits (x / 10000) ++ 46 :: fdS (x % 10000)) neg = fin 2 x neg := by
  have hf : x % 10000 < 10000 := Nat.mod_lt _ (by decide)
  obtain ⟨k1, k2, k3⟩ := fdS_ok hf
  unfold prN
  rw [cutP_point _ (dd_all _), if_neg (by rw [dd_whole]; decide), if_neg (by simp), if_neg (by rintro (h | h | h); exact k1 h; exact k2 h; rw [k3] at h; cases h)]
  show fin 2 (dval 0 (Lib.decDigits (x / 10000) ++ fdS (x % 10000) ++ List.replicate (4 - (fdS (x % 10000)).length) 48)) neg = _
  rw [List.append_assoc, dval_app, dd_val, dval_pad hf]
  have : x / 10000 * 10000 + x % 10000 = x := by omega
  rw [this]
theorem prs_dec {n : Int} (h : fit n) : prs (decL n) = (⟨2, n, ⟨#[]⟩⟩, 0) := by
  have hx := abs_lt h
  rw [← fin_is h]
  have hl := dd_len (u := n.natAbs / 10000) (by omega)
  have hf : n.natAbs % 10000 < 10000 := Nat.mod_lt _ (by decide)
  have k2 := (fdS_ok hf).2.1
  unfold decL
  by_cases hn : n < 0
  · rw [if_pos hn, decide_eq_true hn]
    have e : [45] ++ Lib.decDigits (n.natAbs / 10000) ++ [46] ++ fdS (n.natAbs % 10000) = 45 :: (Lib.decDigits (n.natAbs / 10000) ++ 46 :: fdS (n.natAbs % 10000)) := by simp
    rw [e, prs_neg _ (by simp; omega)]
    exact prN_dec _ _
  · rw [if_neg hn, decide_eq_false hn]
    have e : [] ++ Lib.decDigits (n.natAbs / 10000) ++ [46] ++ fdS (n.natAbs % 10000) = Lib.decDigits (n.natAbs / 10000) ++ 46 :: fdS (n.natAbs % 10000) := by simp
    rw [e, prs_pos (by simp; omega) (by simp) (dd_first _ _)]
    exact prN_dec _ _
theorem prs_text {s : ByteArray} (h : chkT s = 0) : prs (39 :: (qd s.data.toList ++ [39])) = (⟨3, 0, s⟩, 0) := by
  have hz := (chkT_zero h).1
  have hsl : s.data.toList.length = s.size := Array.length_toList
  have hq := qd_len s.data.toList
  unfold prs
  rw [if_neg (by simp; omega), if_neg (by intro e; injection e with e _; revert e; decide), if_neg (by intro e; injection e with e _; revert e; decide), if_neg (by intro e; injection e with e _; revert e; decide), if_pos (by rfl)]
  unfold prT
  have hg : (39 :: (qd s.data.toList ++ [39])).getLast? = some 39 := by
    rw [show (39 :: (qd s.data.toList ++ [39]) : List UInt8) = (39 :: qd s.data.toList) ++ [39] from rfl, List.getLast?_append]; rfl
  rw [if_neg (by rw [hg]; simp)]
  have hd : ((39 :: (qd s.data.toList ++ [39])).drop 1).dropLast = qd s.data.toList := by
    show (qd s.data.toList ++ [39]).dropLast = _
    exact List.dropLast_concat
  rw [hd, unq_qd]
  show (if chkT ⟨s.data.toList.toArray⟩ = 0 then ((⟨3, 0, ⟨s.data.toList.toArray⟩⟩, 0) : Va × Int) else bad (chkT ⟨s.data.toList.toArray⟩)) = _
  rw [← bytes_of s, if_pos h]
theorem prs_prV {ty n : Int} {s : ByteArray} (hn : fit n) (hc : chk ty n s = 0) : prs (prV ty n s) = (plV ty n s, 0) := by
  have h5 : (ty = 0 ∨ ty = 1 ∨ ty = 2 ∨ ty = 3 ∨ ty = 4) ∧ (ty = 4 → n = 0 ∨ n = 1) := by
    unfold chk at hc
    by_cases h : ty < 0 ∨ 4 < ty ∨ (ty = 4 ∧ n ≠ 0 ∧ n ≠ 1)
    · rw [if_pos h] at hc; cases hc
    · exact ⟨by omega, fun e => by omega⟩
  obtain ⟨h5, h4⟩ := h5
  rcases h5 with rfl | rfl | rfl | rfl | rfl
  · rfl
  · exact prs_itoa hn
  · exact prs_dec hn
  · rw [chk_text] at hc
    exact prs_text hc
  · rcases h4 rfl with rfl | rfl
    · rfl
    · rfl
theorem prV_len {ty n : Int} {s : ByteArray} (hn : fit n) (hc : chk ty n s = 0) : (prV ty n s).length ≤ 8194 := by
  apply Nat.le_of_not_lt
  intro h
  have e : prs (prV ty n s) = bad 2 := if_pos h
  rw [prs_prV hn hc] at e
  have := congrArg Prod.snd e
  revert this
  show (0 : Int) = 2 → False
  decide
end Go.Proofs.YtoboebibmelgkaaGreatDoor
