/-
  What was written is read as it was, and what is read is written as it was: values.
-/
import Derived.Test.YtedacccedbchaaaDoorBkG
namespace Go.Proofs.YtedacccedbchaaaDoor
open Go.RowKit Go.Shelf

theorem beN_inj : ∀ x y : List UInt8, x.length = y.length → beN x = beN y → x = y
  | [], [], _, _ => rfl
  | [], _ :: _, h, _ => by simp at h
  | _ :: _, [], h, _ => by simp at h
  | a :: x, b :: y, h, e => by
    have hl : x.length = y.length := by simpa using h
    have lx := beN_lt x
    have ly := beN_lt y
    rw [← hl] at ly
    have e' : a.toNat * 256 ^ x.length + beN x = b.toNat * 256 ^ x.length + beN y := by
      have : beN (b :: y) = b.toNat * 256 ^ y.length + beN y := rfl
      rw [← hl] at this
      rw [← this, ← e]; rfl
    have ih := beN_inj x y hl
    generalize 256 ^ x.length = M at *
    generalize beN x = X at *
    generalize beN y = Y at *
    have hab : a.toNat = b.toNat := by
      rcases Nat.lt_trichotomy a.toNat b.toNat with g | g | g
      · have : (a.toNat + 1) * M ≤ b.toNat * M := Nat.mul_le_mul_right _ g
        rw [Nat.add_mul] at this; omega
      · exact g
      · have : (b.toNat + 1) * M ≤ a.toNat * M := Nat.mul_le_mul_right _ g
        rw [Nat.add_mul] at this; omega
    rw [hab] at e'
    rw [UInt8.toNat_inj.1 hab, ih (by omega)]
theorem be8_of {m : List UInt8} (h : m.length = 8) : be8 (beN m) 8 = m := by
  have hl := beN_lt m
  rw [h] at hl
  exact beN_inj _ _ (by rw [be8_len, h]) (be8_val (by simpa using hl))
theorem words_of (b1 b2 b11 : UInt8) {m : List UInt8} (h : m.length = 8) : wordsB (b1.toNat * 256 + b2.toNat) (beN m) b11.toNat = 2 :: b1 :: b2 :: (m ++ [b11]) := by
  have h1 := b1.toNat_lt
  have h2 := b2.toNat_lt
  have e1 : UInt8.ofNat ((b1.toNat * 256 + b2.toNat) / 256) = b1 := by
    rw [show (b1.toNat * 256 + b2.toNat) / 256 = b1.toNat by omega, UInt8.ofNat_toNat]
  have e2 : UInt8.ofNat (b1.toNat * 256 + b2.toNat) = b2 := UInt8.toNat_inj.1 (by rw [UInt8.toNat_ofNat']; omega)
  unfold wordsB
  rw [e1, e2, be8_of h, UInt8.ofNat_toNat]
  simp
theorem dest12 {l : List UInt8} (h : ¬ l.length < 12) : ∃ b0 b1 b2 c0 c1 c2 c3 c4 c5 c6 c7 b11 t, l = b0 :: b1 :: b2 :: c0 :: c1 :: c2 :: c3 :: c4 :: c5 :: c6 :: c7 :: b11 :: t := by
  rcases l with _ | ⟨b0, l⟩; · simp at h
  rcases l with _ | ⟨b1, l⟩; · simp at h
  rcases l with _ | ⟨b2, l⟩; · simp at h
  rcases l with _ | ⟨c0, l⟩; · simp at h
  rcases l with _ | ⟨c1, l⟩; · simp at h
  rcases l with _ | ⟨c2, l⟩; · simp at h
  rcases l with _ | ⟨c3, l⟩; · simp at h
  rcases l with _ | ⟨c4, l⟩; · simp at h
  rcases l with _ | ⟨c5, l⟩; · simp at h
  rcases l with _ | ⟨c6, l⟩; · simp at h
  rcases l with _ | ⟨c7, l⟩; · simp at h
  rcases l with _ | ⟨b11, l⟩; · simp at h
  exact ⟨_, _, _, _, _, _, _, _, _, _, _, _, _, rfl⟩
theorem chk_num (ty n : Int) (s : ByteArray) (h : ty = 1 ∨ ty = 2) : chk ty n s = 0 := by
  unfold chk; rw [if_neg (by omega), if_neg (by omega)]
theorem numV_back {hi lo kd : Nat} {v : Va} (h1 : hi < 65536) (h2 : lo < 18446744073709551616) (h : numV hi lo kd = some v) : (kd = 1 ∨ kd = 2) ∧ v.ty = kd ∧ fit v.n ∧ numN v = hi * 18446744073709551616 + lo ∧ v.s = ⟨#[]⟩ := by
  unfold numV at h
  by_cases k1 : kd = 1
  · rw [if_pos k1] at h
    unfold whV at h
    split at h
    · rename_i hh
      obtain ⟨g1, g2, g3⟩ := hh
      obtain ⟨d, hd⟩ : ∃ d, hi = 27768 + d := ⟨hi - 27768, by omega⟩
      rw [show hi - 27768 = d by omega] at h g3
      have hq : (d * 18446744073709551616 + lo) / 10000 < 18446744073709551616 := by omega
      obtain ⟨q, hqe⟩ : ∃ q, q = (d * 18446744073709551616 + lo) / 10000 := ⟨_, rfl⟩
      have hm : d * 18446744073709551616 + lo = q * 10000 := by omega
      rw [← hqe] at h hq
      obtain rfl := Option.some.inj h
      refine ⟨Or.inl k1, by rw [k1]; rfl, ⟨by show _ ≤ (q : Int) - 9223372036854775808; omega, by show (q : Int) - 9223372036854775808 ≤ _; omega⟩, ?_, rfl⟩
      rw [numN_big rfl]
      show (((q : Int) - 9223372036854775808) * 10000 + 604462909807314587353088).toNat = _
      omega
    · cases h
  · rw [if_neg k1] at h
    by_cases k2 : kd = 2
    · rw [if_pos k2] at h
      split at h
      · rename_i hh
        obtain rfl := Option.some.inj h
        refine ⟨Or.inr k2, by rw [k2]; rfl, i64n_fit h2, ?_, rfl⟩
        rw [numN_dec (by show ¬ (2 : Int) = 1; omega)]
        show (i64n lo + 604462909807314587353088).toNat = _
        unfold i64n at *
        split at hh
        · rename_i g; rw [if_pos g]; omega
        · rename_i g; rw [if_neg g]; omega
      · cases h
    · rw [if_neg k2] at h; cases h
theorem whV_of (q : Nat) (h : q < 18446744073709551616) : whV ((q * 10000 + 27768 * 18446744073709551616) / 18446744073709551616) ((q * 10000 + 27768 * 18446744073709551616) % 18446744073709551616) = some ⟨1, (q : Int) - 9223372036854775808, ⟨#[]⟩⟩ := by
  rw [Nat.add_mul_div_right _ _ (by decide), Nat.add_mul_mod_self_right]
  have hd : q * 10000 / 18446744073709551616 < 10000 := Nat.div_lt_of_lt_mul (by omega)
  unfold whV
  rw [Nat.add_sub_cancel, Nat.div_add_mod', Nat.mul_div_cancel _ (by decide), if_pos ⟨Nat.le_add_left _ _, by omega, Nat.mul_mod_left _ _⟩]
theorem hi_of (H L : Nat) (h : L < 18446744073709551616) : (H * 18446744073709551616 + L) / 18446744073709551616 = H := by
  rw [Nat.add_comm, Nat.add_mul_div_right _ _ (by decide), Nat.div_eq_of_lt h, Nat.zero_add]
theorem lo_of (H L : Nat) (h : L < 18446744073709551616) : (H * 18446744073709551616 + L) % 18446744073709551616 = L := by
  rw [Nat.add_comm, Nat.add_mul_mod_self_right, Nat.mod_eq_of_lt h]
theorem rdV_num (r : List UInt8) : rdV (2 :: r) = rdNum (2 :: r) := rfl
theorem fit0 : fit 0 := by unfold fit; omega
theorem numV_of {v : Va} (ht : v.ty = 1 ∨ v.ty = 2) (hf : fit v.n) : numV (numN v / 18446744073709551616) (numN v % 18446744073709551616) v.ty.toNat = some ⟨v.ty, v.n, ⟨#[]⟩⟩ := by
  obtain ⟨ty, n, s⟩ := v
  unfold fit at hf
  simp only at ht hf
  rcases ht with rfl | rfl
  · have hN := numN_big (x := ⟨1, n, s⟩) rfl
    simp only at hN
    rw [hN]
    obtain ⟨q, hq⟩ : ∃ q : Nat, (q : Int) = n + 9223372036854775808 := ⟨(n + 9223372036854775808).toNat, by omega⟩
    have e : (n * 10000 + 604462909807314587353088).toNat = q * 10000 + 27768 * 18446744073709551616 := by omega
    rw [e]
    show (if (1 : Nat) = 1 then _ else _) = _
    rw [if_pos rfl]
    have en : (q : Int) - 9223372036854775808 = n := by omega
    rw [whV_of q (by omega), en]
  · have hN := numN_dec (x := ⟨2, n, s⟩) (by show ¬ (2 : Int) = 1; omega)
    simp only at hN
    rw [hN]
    have hi64 : i64n ((n + 604462909807314587353088).toNat % 18446744073709551616) = n := by
      unfold i64n; split <;> omega
    show (if (2 : Nat) = 1 then _ else if (2 : Nat) = 2 then _ else _) = _
    rw [if_neg (by decide), if_pos rfl, hi64, if_pos (by omega)]

/-- a value without what its type does not name -/
def pl (v : Va) : Va := if v.ty = 3 then ⟨3, 0, v.s⟩ else if v.ty = 1 ∨ v.ty = 2 ∨ v.ty = 4 then ⟨v.ty, v.n, ⟨#[]⟩⟩ else ⟨v.ty, 0, ⟨#[]⟩⟩

theorem rdTx_esc : ∀ t r : List UInt8, rdTx (esc t ++ 0 :: 0 :: r) = .ok (t, (esc t).length + 2)
  | [], r => rdTx_end r
  | x :: t, r => by
    rw [esc_cons]
    by_cases h : x = 0
    · rw [if_pos h, h]
      show rdTx (0 :: 255 :: (esc t ++ 0 :: 0 :: r)) = _
      rw [rdTx_zero, rdTx_esc t r]; rfl
    · rw [if_neg h]
      show rdTx (x :: (esc t ++ 0 :: 0 :: r)) = _
      rw [rdTx_plain h, rdTx_esc t r]; rfl
theorem rdTx_back : ∀ (n : Nat) (l t : List UInt8) (k : Nat), l.length ≤ n → rdTx l = .ok (t, k) → k ≤ l.length ∧ esc t ++ [0, 0] = l.take k
  | _, [], t, k, _, h => by rw [rdTx_nil] at h; cases h
  | 0, _ :: _, _, _, hn, _ => by simp at hn
  | n + 1, x :: r, t, k, hn, h => by
    by_cases x0 : x = 0
    · subst x0
      rcases r with _ | ⟨y, r'⟩
      · rw [rdTx_open] at h; cases h
      · by_cases y255 : y = 255
        · subst y255
          rw [rdTx_zero] at h
          rcases hq : rdTx r' with e | ⟨t', k'⟩
          · rw [hq] at h; cases h
          · rw [hq] at h
            have h' : (0 :: t', k' + 2) = (t, k) := Except.ok.inj h
            simp only [Prod.mk.injEq] at h'
            obtain ⟨rfl, rfl⟩ := h'
            have ih := rdTx_back n r' t' k' (by simp at hn; omega) hq
            refine ⟨by simp; exact ih.1, ?_⟩
            rw [esc_cons, if_pos rfl]
            show 0 :: 255 :: (esc t' ++ [0, 0]) = 0 :: 255 :: r'.take k'
            rw [ih.2]
        · by_cases y0 : y = 0
          · subst y0
            rw [rdTx_end] at h
            have h' : (([] : List UInt8), 2) = (t, k) := Except.ok.inj h
            simp only [Prod.mk.injEq] at h'
            obtain ⟨rfl, rfl⟩ := h'
            exact ⟨by simp, by simp [esc]⟩
          · rw [rdTx_bad y255 y0] at h; cases h
    · rw [rdTx_plain x0] at h
      rcases hq : rdTx r with e | ⟨t', k'⟩
      · rw [hq] at h; cases h
      · rw [hq] at h
        have h' : (x :: t', k' + 1) = (t, k) := Except.ok.inj h
        simp only [Prod.mk.injEq] at h'
        obtain ⟨rfl, rfl⟩ := h'
        have ih := rdTx_back n r t' k' (by simp at hn; omega) hq
        refine ⟨by simp; exact ih.1, ?_⟩
        rw [esc_cons, if_neg x0]
        show x :: (esc t' ++ [0, 0]) = x :: r.take k'
        rw [ih.2]

/-- WHAT IS READ IS WRITTEN AS IT WAS -/
theorem rdV_back {l : List UInt8} {v : Va} {k : Nat} (h : rdV l = .ok (v, k)) : 1 ≤ k ∧ k ≤ l.length ∧ v.chk = 0 ∧ fit v.n ∧ valB v = l.take k := by
  rcases l with _ | ⟨x, l'⟩
  · cases h
  have h : (if x = 1 then .ok (⟨0, 0, ⟨#[]⟩⟩, 1) else if x = 2 then rdNum (x :: l') else if x = 3 then rdText (x :: l') else if x = 4 then rdBool (x :: l') else .error 20) = Except.ok (v, k) := h
  by_cases x1 : x = 1
  · rw [if_pos x1] at h
    simp only [Except.ok.injEq, Prod.mk.injEq] at h
    obtain ⟨rfl, rfl⟩ := h
    subst x1
    exact ⟨by omega, by simp, by decide, ⟨by decide, by decide⟩, by simp [valB]⟩
  rw [if_neg x1] at h
  by_cases x2 : x = 2
  · rw [if_pos x2] at h
    subst x2
    unfold rdNum at h
    split at h
    · cases h
    · rename_i h12
      obtain ⟨b0, b1, b2, c0, c1, c2, c3, c4, c5, c6, c7, b11, t, e⟩ := dest12 h12
      rw [e] at h ⊢
      obtain ⟨rfl⟩ : 2 = b0 := by injection e
      have e1 : (2 :: b1 :: b2 :: c0 :: c1 :: c2 :: c3 :: c4 :: c5 :: c6 :: c7 :: b11 :: t : List UInt8).getD 1 0 = b1 := rfl
      have e2 : (2 :: b1 :: b2 :: c0 :: c1 :: c2 :: c3 :: c4 :: c5 :: c6 :: c7 :: b11 :: t : List UInt8).getD 2 0 = b2 := rfl
      have e11 : (2 :: b1 :: b2 :: c0 :: c1 :: c2 :: c3 :: c4 :: c5 :: c6 :: c7 :: b11 :: t : List UInt8).getD 11 0 = b11 := rfl
      have em : (List.drop 3 (2 :: b1 :: b2 :: c0 :: c1 :: c2 :: c3 :: c4 :: c5 :: c6 :: c7 :: b11 :: t : List UInt8)).take 8 = [c0, c1, c2, c3, c4, c5, c6, c7] := rfl
      rw [e1, e2, e11, em] at h
      have hb1 := b1.toNat_lt
      have hb2 := b2.toNat_lt
      have hlo : beN [c0, c1, c2, c3, c4, c5, c6, c7] < 18446744073709551616 := by
        have h := beN_lt [c0, c1, c2, c3, c4, c5, c6, c7]
        simp only [List.length_cons, List.length_nil, Nat.zero_add, Nat.reduceAdd, Nat.reducePow] at h
        exact h
      split at h
      · rename_i v' hv
        simp only [Except.ok.injEq, Prod.mk.injEq] at h
        obtain ⟨rfl, rfl⟩ := h
        obtain ⟨g1, g2, g3, g4, g5⟩ := numV_back (by omega) hlo hv
        have ht : v'.ty = 1 ∨ v'.ty = 2 := by omega
        refine ⟨by omega, by simp, chk_num _ _ _ ht, g3, ?_⟩
        have eb : valB v' = wordsB (numN v' / 18446744073709551616) (numN v' % 18446744073709551616) v'.ty.toNat := if_pos ht
        rw [eb, g4, show v'.ty.toNat = b11.toNat by omega, hi_of _ _ hlo, lo_of _ _ hlo, words_of b1 b2 b11 rfl]
        rfl
      · cases h
  rw [if_neg x2] at h
  by_cases x3 : x = 3
  · rw [if_pos x3] at h
    subst x3
    unfold rdText at h
    show _ ∧ _
    have hd : (3 :: l' : List UInt8).drop 1 = l' := rfl
    rw [hd] at h
    rcases hq : rdTx l' with e | ⟨t, n⟩
    · rw [hq] at h; cases h
    · rw [hq] at h
      have h : whT ⟨([] ++ t).toArray⟩ (1 + n) = .ok (v, k) := h
      rw [List.nil_append] at h
      unfold whT at h
      split at h
      · rename_i hc
        simp only [Except.ok.injEq, Prod.mk.injEq] at h
        obtain ⟨rfl, rfl⟩ := h
        have hb := rdTx_back l'.length l' t n (Nat.le_refl _) hq
        refine ⟨by omega, by simp; omega, ?_, fit0, ?_⟩
        · show chk 3 0 _ = 0
          rw [chk_text]; exact hc
        · have eb : valB ⟨3, 0, ⟨t.toArray⟩⟩ = textB ⟨t.toArray⟩ := by simp [valB]
          rw [eb, Nat.add_comm 1 n]
          show 3 :: esc t ++ [0, 0] = 3 :: l'.take n
          rw [List.cons_append, hb.2]
      · cases h
  rw [if_neg x3] at h
  by_cases x4 : x = 4
  · rw [if_pos x4] at h
    subst x4
    unfold rdBool at h
    split at h
    · cases h
    · rename_i h2
      rcases l' with _ | ⟨b, l2⟩
      · simp at h2
      have e1 : (4 :: b :: l2 : List UInt8).getD 1 0 = b := rfl
      rw [e1] at h
      split at h
      · cases h
      · rename_i hb
        simp only [Except.ok.injEq, Prod.mk.injEq] at h
        obtain ⟨rfl, rfl⟩ := h
        have hbb : b.toNat = 0 ∨ b.toNat = 1 := by omega
        refine ⟨by omega, by simp, ?_, ⟨by show _ ≤ (b.toNat : Int); omega, by show (b.toNat : Int) ≤ _; omega⟩, ?_⟩
        · show chk 4 (b.toNat : Int) ⟨#[]⟩ = 0
          unfold chk; rw [if_neg (by omega), if_neg (by omega)]
        · have eb : valB ⟨4, (b.toNat : Int), ⟨#[]⟩⟩ = [4, UInt8.ofNat (b.toNat : Int).toNat] := by simp [valB]
          rw [eb, Int.toNat_natCast, UInt8.ofNat_toNat]; rfl
  · rw [if_neg x4] at h; cases h

/-- WHAT WAS WRITTEN IS READ AS IT WAS, whatever stands behind -/
theorem rdV_of {v : Va} (hc : v.chk = 0) (hf : fit v.n) (t : List UInt8) : rdV (valB v ++ t) = .ok (pl v, (valB v).length) := by
  have hc' : chk v.ty v.n v.s = 0 := hc
  have hty := chk_ty hc'
  by_cases hn : v.ty = 1 ∨ v.ty = 2
  · have eb : valB v = wordsB (numN v / 18446744073709551616) (numN v % 18446744073709551616) v.ty.toNat := if_pos hn
    have hN := numN_lt hf
    have hpl : pl v = ⟨v.ty, v.n, ⟨#[]⟩⟩ := by unfold pl; rw [if_neg (by omega), if_pos (by omega)]
    rw [eb, wordsB_len, hpl]
    have hs : wordsB (numN v / 18446744073709551616) (numN v % 18446744073709551616) v.ty.toNat ++ t = 2 :: UInt8.ofNat (numN v / 18446744073709551616 / 256) :: UInt8.ofNat (numN v / 18446744073709551616) :: (be8 (numN v % 18446744073709551616) 8 ++ UInt8.ofNat v.ty.toNat :: t) := by simp [wordsB]
    rw [hs]
    rw [rdV_num]
    unfold rdNum
    have hlen : ¬ (2 :: UInt8.ofNat (numN v / 18446744073709551616 / 256) :: UInt8.ofNat (numN v / 18446744073709551616) :: (be8 (numN v % 18446744073709551616) 8 ++ UInt8.ofNat v.ty.toNat :: t) : List UInt8).length < 12 := by simp [be8_len]; omega
    rw [if_neg hlen]
    have e1 : (2 :: UInt8.ofNat (numN v / 18446744073709551616 / 256) :: UInt8.ofNat (numN v / 18446744073709551616) :: (be8 (numN v % 18446744073709551616) 8 ++ UInt8.ofNat v.ty.toNat :: t) : List UInt8).getD 1 0 = UInt8.ofNat (numN v / 18446744073709551616 / 256) := rfl
    have e2 : (2 :: UInt8.ofNat (numN v / 18446744073709551616 / 256) :: UInt8.ofNat (numN v / 18446744073709551616) :: (be8 (numN v % 18446744073709551616) 8 ++ UInt8.ofNat v.ty.toNat :: t) : List UInt8).getD 2 0 = UInt8.ofNat (numN v / 18446744073709551616) := rfl
    have e11 : (2 :: UInt8.ofNat (numN v / 18446744073709551616 / 256) :: UInt8.ofNat (numN v / 18446744073709551616) :: (be8 (numN v % 18446744073709551616) 8 ++ UInt8.ofNat v.ty.toNat :: t) : List UInt8).getD 11 0 = UInt8.ofNat v.ty.toNat := by
      rw [List.getD_eq_getElem?_getD]
      show ((be8 (numN v % 18446744073709551616) 8 ++ UInt8.ofNat v.ty.toNat :: t)[8]?).getD 0 = _
      rw [List.getElem?_append_right (by rw [be8_len]; exact Nat.le_refl _), be8_len]; rfl
    have em : (List.drop 3 (2 :: UInt8.ofNat (numN v / 18446744073709551616 / 256) :: UInt8.ofNat (numN v / 18446744073709551616) :: (be8 (numN v % 18446744073709551616) 8 ++ UInt8.ofNat v.ty.toNat :: t) : List UInt8)).take 8 = be8 (numN v % 18446744073709551616) 8 := by
      show (be8 (numN v % 18446744073709551616) 8 ++ UInt8.ofNat v.ty.toNat :: t).take 8 = _
      rw [List.take_append_of_le_length (by rw [be8_len]; exact Nat.le_refl _), List.take_of_length_le (by rw [be8_len]; exact Nat.le_refl _)]
    rw [e1, e2, e11, em, be8_val (by omega), UInt8.toNat_ofNat', UInt8.toNat_ofNat', UInt8.toNat_ofNat']
    have a1 : numN v / 18446744073709551616 / 256 % 2 ^ 8 * 256 + numN v / 18446744073709551616 % 2 ^ 8 = numN v / 18446744073709551616 := by omega
    have a2 : v.ty.toNat % 2 ^ 8 = v.ty.toNat := by omega
    rw [a1, a2, numV_of hn hf]
  · rcases (show v.ty = 0 ∨ v.ty = 3 ∨ v.ty = 4 by omega) with h0 | h3 | h4
    · have eb : valB v = [1] := by unfold valB; rw [if_neg hn, if_neg (by omega), if_neg (by omega)]
      have hpl : pl v = ⟨0, 0, ⟨#[]⟩⟩ := by unfold pl; rw [if_neg (by omega), if_neg (by omega), h0]
      rw [eb, hpl]; rfl
    · have eb : valB v = textB v.s := by unfold valB; rw [if_neg hn, if_pos h3]
      have hpl : pl v = ⟨3, 0, v.s⟩ := by unfold pl; rw [if_pos h3]
      rw [eb, hpl]
      have hs : textB v.s ++ t = 3 :: (esc v.s.data.toList ++ 0 :: 0 :: t) := by simp [textB]
      rw [hs]
      show fin [] 1 (rdTx (esc v.s.data.toList ++ 0 :: 0 :: t)) = _
      rw [rdTx_esc]
      show whT ⟨([] ++ v.s.data.toList).toArray⟩ (1 + ((esc v.s.data.toList).length + 2)) = _
      have es : (⟨([] ++ v.s.data.toList).toArray⟩ : ByteArray) = v.s := by simp
      rw [es]
      unfold whT
      rw [h3, chk_text] at hc'
      rw [if_pos hc']
      congr 2
      simp [textB]; omega
    · have eb : valB v = [4, UInt8.ofNat v.n.toNat] := by unfold valB; rw [if_neg hn, if_neg (by omega), if_pos h4]
      have hpl : pl v = ⟨4, v.n, ⟨#[]⟩⟩ := by unfold pl; rw [if_neg (by omega), if_pos (by omega), h4]
      rw [h4] at hc'
      have hb := chk_bool hc'
      rw [eb, hpl]
      show rdBool (4 :: UInt8.ofNat v.n.toNat :: t) = _
      have e1 : (4 :: UInt8.ofNat v.n.toNat :: t : List UInt8).getD 1 0 = UInt8.ofNat v.n.toNat := rfl
      unfold rdBool
      rw [if_neg (by simp), e1, UInt8.toNat_ofNat', if_neg (by omega)]
      have e2 : ((v.n.toNat % 2 ^ 8 : Nat) : Int) = v.n := by omega
      rw [e2]; rfl
end Go.Proofs.YtedacccedbchaaaDoor
