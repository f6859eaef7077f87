/-
  Bytes stand in the order of what they say: values' and rows' bytes against values and rows.
-/
import Derived.Test.YtedacccedbchaaaDoorRoB
import Derived.Test.YtedacccedbchaaaDoorBkD
namespace Go.Proofs.YtedacccedbchaaaDoor
open Go.RowKit Go.Shelf
theorem cmp_be : ∀ x y : List UInt8, x.length = y.length → ∀ s t : List UInt8, Lib.compareBytes (x ++ s) (y ++ t) = if beN x = beN y then Lib.compareBytes s t else cmpI (beN x) (beN y)
  | [], [], _, s, t => by simp [beN]
  | [], _ :: _, h, _, _ => by simp at h
  | _ :: _, [], h, _, _ => by simp at h
  | a :: x, b :: y, h, s, t => by
    have hl : x.length = y.length := by simpa using h
    have ih := cmp_be x y hl s t
    have lx := beN_lt x
    have ly := beN_lt y
    rw [← hl] at ly
    have ex : beN (a :: x) = a.toNat * 256 ^ x.length + beN x := rfl
    have ey : beN (b :: y) = b.toNat * 256 ^ x.length + beN y := by rw [hl]; rfl
    simp only [List.cons_append, Lib.compareBytes, UInt8.lt_iff_toNat_lt]
    rw [ih, ex, ey]
    generalize 256 ^ x.length = M at *
    generalize beN x = X at *
    generalize beN y = Y at *
    by_cases h1 : a.toNat < b.toNat
    · have : (a.toNat + 1) * M ≤ b.toNat * M := Nat.mul_le_mul_right _ h1
      rw [Nat.add_mul] at this
      have hlt : a.toNat * M + X < b.toNat * M + Y := by omega
      rw [if_pos h1, if_neg (by omega), cmpI_lt (by omega)]
    · by_cases h2 : b.toNat < a.toNat
      · have : (b.toNat + 1) * M ≤ a.toNat * M := Nat.mul_le_mul_right _ h2
        rw [Nat.add_mul] at this
        have hlt : b.toNat * M + Y < a.toNat * M + X := by omega
        rw [if_neg h1, if_pos h2, if_neg (by omega), cmpI_gt (by omega)]
      · have e : a.toNat = b.toNat := by omega
        rw [if_neg h1, if_neg h2, e]
        by_cases h3 : X = Y
        · rw [if_pos h3, if_pos (by omega)]
        · rw [if_neg h3, if_neg (by omega)]
          unfold cmpI
          by_cases h4 : X < Y
          · rw [if_pos (by omega), if_pos (by omega)]
          · rw [if_neg (by omega), if_pos (by omega), if_neg (by omega), if_pos (by omega)]
/-- an escaped text, its end behind it, and whatever follows -/
theorem cmp_esc : ∀ a b s t : List UInt8, Lib.compareBytes (esc a ++ (0 :: 0 :: s)) (esc b ++ (0 :: 0 :: t)) = if Lib.compareBytes a b = 0 then Lib.compareBytes s t else Lib.compareBytes a b
  | [], [], s, t => by simp [esc, Lib.compareBytes]
  | [], y :: b, s, t => by
    rw [esc_cons]
    by_cases h : y = 0
    · rw [if_pos h]; simp [esc, Lib.compareBytes]
    · rw [if_neg h]
      have hy : 0 < y.toNat := by
        rcases Nat.eq_zero_or_pos y.toNat with h0 | h0
        · exact absurd (UInt8.toNat_inj.1 h0) h
        · exact h0
      simp [esc, Lib.compareBytes, UInt8.lt_iff_toNat_lt, hy]
  | x :: a, [], s, t => by
    rw [esc_cons]
    by_cases h : x = 0
    · rw [if_pos h]; simp [esc, Lib.compareBytes]
    · rw [if_neg h]
      have hx : 0 < x.toNat := by
        rcases Nat.eq_zero_or_pos x.toNat with h0 | h0
        · exact absurd (UInt8.toNat_inj.1 h0) h
        · exact h0
      simp [esc, Lib.compareBytes, UInt8.lt_iff_toNat_lt, hx]
  | x :: a, y :: b, s, t => by
    have ih := cmp_esc a b s t
    rw [esc_cons, esc_cons]
    have hz : ∀ z : UInt8, ¬ z = 0 → 0 < z.toNat := fun z h => by
      rcases Nat.eq_zero_or_pos z.toNat with h0 | h0
      · exact absurd (UInt8.toNat_inj.1 h0) h
      · exact h0
    by_cases hx : x = 0
    · by_cases hy : y = 0
      · subst hx hy
        rw [if_pos rfl]
        simp only [List.cons_append, Lib.compareBytes, UInt8.lt_iff_toNat_lt, Nat.lt_irrefl, if_false]
        exact ih
      · subst hx
        have := hz y hy
        rw [if_pos rfl, if_neg hy]
        simp [Lib.compareBytes, UInt8.lt_iff_toNat_lt, this]
    · by_cases hy : y = 0
      · subst hy
        have := hz x hx
        rw [if_neg hx, if_pos rfl]
        simp [Lib.compareBytes, UInt8.lt_iff_toNat_lt, this]
      · rw [if_neg hx, if_neg hy, List.cons_append, List.cons_append]
        have key : ∀ p q : List UInt8, Lib.compareBytes (x :: p) (y :: q) = if x < y then -1 else if y < x then 1 else Lib.compareBytes p q := fun p q => by simp only [Lib.compareBytes]
        rw [key, key]
        by_cases h1 : x < y
        · rw [if_pos h1, if_pos h1]; rfl
        · by_cases h2 : y < x
          · rw [if_neg h1, if_pos h2, if_neg h1, if_pos h2]; rfl
          · rw [if_neg h1, if_neg h2, if_neg h1, if_neg h2]; exact ih
theorem cmp_head {x y : UInt8} (h : x.toNat < y.toNat) (s t : List UInt8) : Lib.compareBytes (x :: s) (y :: t) = -1 ∧ Lib.compareBytes (y :: t) (x :: s) = 1 := by
  simp only [Lib.compareBytes, UInt8.lt_iff_toNat_lt]
  exact ⟨if_pos h, by rw [if_neg (by omega), if_pos h]⟩
theorem cmp_same_head (x : UInt8) (s t : List UInt8) : Lib.compareBytes (x :: s) (x :: t) = Lib.compareBytes s t := by
  simp [Lib.compareBytes]

theorem chk_va {a : Va} (h : a.chk = 0) : 0 ≤ a.ty ∧ a.ty ≤ 4 ∧ (a.ty = 4 → a.n = 0 ∨ a.n = 1) := by
  have h' : chk a.ty a.n a.s = 0 := h
  refine ⟨(chk_ty h').1, (chk_ty h').2, fun e => ?_⟩
  rw [e] at h'; exact chk_bool h'
theorem numN_int {a : Va} (h : fit a.n) : ((numN a : Nat) : Int) = sc a + 604462909807314587353088 := by
  unfold fit at h; unfold numN sc; split <;> omega
theorem cmpI_up (x y k m : Int) (hm : 0 < m) (a b : Int) (ha : 0 ≤ a ∧ a < m) (hb : 0 ≤ b ∧ b < m) : cmpI (k + x * m + a) (k + y * m + b) = firstI [cmpI x y, cmpI a b] := by
  by_cases h : x < y
  · have : (x + 1) * m ≤ y * m := Int.mul_le_mul_of_nonneg_right h (by omega)
    rw [Int.add_mul] at this
    rw [cmpI_lt (by omega), cmpI_lt h]; rfl
  · by_cases g : y < x
    · have : (y + 1) * m ≤ x * m := Int.mul_le_mul_of_nonneg_right g (by omega)
      rw [Int.add_mul] at this
      rw [cmpI_gt (by omega), cmpI_gt g]; rfl
    · have e : x = y := by omega
      subst e
      rw [cmpI_same]
      have : firstI [0, cmpI a b] = cmpI a b := by
        unfold firstI; rw [if_pos rfl]; unfold firstI; split
        · rename_i h; rw [h]; rfl
        · rfl
      rw [this]
      unfold cmpI
      by_cases p : a < b
      · rw [if_pos p, if_pos (by omega)]
      · by_cases q : b < a
        · rw [if_neg p, if_pos q, if_neg (by omega), if_pos (by omega)]
        · rw [if_neg p, if_neg q, if_neg (by omega), if_neg (by omega)]
theorem grp0 : grp 0 = 0 := rfl
theorem grp1 : grp 1 = 1 := rfl
theorem grp2 : grp 2 = 1 := rfl
theorem grp3 : grp 3 = 2 := rfl
theorem grp4 : grp 4 = 3 := rfl
/-- the first byte of a value is one above its group -/
theorem valB_head {a : Va} (h : a.chk = 0) : ∃ l, ∃ x : UInt8, valB a = x :: l ∧ (x.toNat : Int) = grp a.ty + 1 := by
  obtain ⟨ty, n, s⟩ := a
  have ht : 0 ≤ ty ∧ ty ≤ 4 := ⟨(chk_va h).1, (chk_va h).2.1⟩
  rcases (show ty = 0 ∨ ty = 1 ∨ ty = 2 ∨ ty = 3 ∨ ty = 4 by omega) with rfl | rfl | rfl | rfl | rfl
  · exact ⟨[], 1, by simp [valB], rfl⟩
  · exact ⟨_, 2, by simp [valB, wordsB]; rfl, rfl⟩
  · exact ⟨_, 2, by simp [valB, wordsB]; rfl, rfl⟩
  · exact ⟨_, 3, by simp [valB, textB]; rfl, rfl⟩
  · exact ⟨_, 4, by simp [valB]; rfl, rfl⟩
theorem valB_num {a : Va} (h : a.ty = 1 ∨ a.ty = 2) (hf : fit a.n) : (valB a).length = 12 ∧ ((beN (valB a) : Nat) : Int) = 2 * 256 ^ 11 + 604462909807314587353088 * 256 + sc a * 256 + a.ty := by
  have e : valB a = wordsB (numN a / 18446744073709551616) (numN a % 18446744073709551616) a.ty.toNat := if_pos h
  have hl := numN_lt hf
  have hi := numN_int hf
  rw [e, wordsB_len, words_val (by omega) (by omega) (by omega)]
  refine ⟨rfl, ?_⟩
  have : numN a / 18446744073709551616 * 18446744073709551616 + numN a % 18446744073709551616 = numN a := by omega
  rw [this]
  have ht : ((a.ty.toNat : Nat) : Int) = a.ty := by omega
  omega
/-- THE ORDER: a value's bytes and whatever follows, against another's -/
theorem val_cmp {a b : Va} (ha : a.chk = 0) (hb : b.chk = 0) (fa : fit a.n) (fb : fit b.n) (s t : List UInt8) :
    Lib.compareBytes (valB a ++ s) (valB b ++ t) = if ordV a b = 0 then Lib.compareBytes s t else ordV a b := by
  by_cases hg : grp a.ty = grp b.ty
  · have eo : ordV a b = if grp a.ty = 0 then 0 else if grp a.ty = 1 then firstI [numC a b, cmpI a.ty b.ty] else if grp a.ty = 2 then cmpB a.s b.s else if grp a.ty = 3 then cmpI a.n b.n else firstI [cmpI a.ty b.ty, cmpI a.n b.n, cmpB a.s b.s] := if_pos hg
    have ta := chk_va ha
    have tb := chk_va hb
    by_cases hn : a.ty = 1 ∨ a.ty = 2
    · have g1 : grp a.ty = 1 := grp_one.2 hn
      have g2 : grp b.ty = 1 := hg ▸ g1
      have hnb := grp_one.1 g2
      obtain ⟨l1, v1⟩ := valB_num hn fa
      obtain ⟨l2, v2⟩ := valB_num hnb fb
      rw [cmp_be _ _ (by rw [l1, l2])]
      have e1 : ordV a b = cmpI (beN (valB a)) (beN (valB b)) := by
        rw [eo, if_neg (by omega), if_pos g1, num_cmp g1 g2, v1, v2]
        have := cmpI_up (sc a) (sc b) (2 * 256 ^ 11 + 604462909807314587353088 * 256) 256 (by omega) a.ty b.ty (by omega) (by omega)
        exact this.symm
      rw [e1]
      by_cases hq : beN (valB a) = beN (valB b)
      · rw [if_pos hq, if_pos (cmpI_eq (by omega))]
      · rw [if_neg hq, if_neg (by rw [cmpI_zero]; omega)]
    · have hgb : ¬ (b.ty = 1 ∨ b.ty = 2) := fun h => hn (grp_one.1 (hg.trans (grp_one.2 h)))
      obtain ⟨ty, n, s1⟩ := a
      obtain ⟨ty2, n2, s2⟩ := b
      simp only at *
      rcases (show ty = 0 ∨ ty = 3 ∨ ty = 4 by omega) with rfl | rfl | rfl <;> rcases (show ty2 = 0 ∨ ty2 = 3 ∨ ty2 = 4 by omega) with rfl | rfl | rfl <;> simp only [grp0, grp3, grp4] at hg <;> try omega
      · rw [eo]
        have e1 : valB ⟨0, n, s1⟩ = [1] := by simp [valB]
        have e2 : valB ⟨0, n2, s2⟩ = [1] := by simp [valB]
        rw [e1, e2, grp0, if_pos rfl, if_pos rfl]
        exact cmp_same_head _ _ _
      · have e1 : valB ⟨3, n, s1⟩ = textB s1 := by simp [valB]
        have e2 : valB ⟨3, n2, s2⟩ = textB s2 := by simp [valB]
        have eo2 : ordV ⟨3, n, s1⟩ ⟨3, n2, s2⟩ = cmpB s1 s2 := by rw [eo]; rfl
        rw [e1, e2, eo2]
        have k1 : ∀ (z : ByteArray) (u : List UInt8), textB z ++ u = 3 :: (esc z.data.toList ++ (0 :: 0 :: u)) := fun z u => by simp [textB]
        rw [k1, k1, cmp_same_head]
        exact cmp_esc _ _ _ _
      · have e1 : valB ⟨4, n, s1⟩ = [4, UInt8.ofNat n.toNat] := by simp [valB]
        have e2 : valB ⟨4, n2, s2⟩ = [4, UInt8.ofNat n2.toNat] := by simp [valB]
        have eo2 : ordV ⟨4, n, s1⟩ ⟨4, n2, s2⟩ = cmpI n n2 := by rw [eo]; rfl
        rw [e1, e2, eo2]
        rcases ta.2.2 rfl with rfl | rfl <;> rcases tb.2.2 rfl with rfl | rfl
        · rw [if_pos (cmpI_same _)]; exact (cmp_same_head _ _ _).trans (cmp_same_head _ _ _)
        · exact (cmp_same_head _ _ _).trans (cmp_head (by decide) _ _).1
        · exact (cmp_same_head _ _ _).trans (cmp_head (by decide) _ _).2
        · rw [if_pos (cmpI_same _)]; exact (cmp_same_head _ _ _).trans (cmp_same_head _ _ _)
  · have eo : ordV a b = cmpI (grp a.ty) (grp b.ty) := if_neg hg
    obtain ⟨l1, x1, e1, h1⟩ := valB_head ha
    obtain ⟨l2, x2, e2, h2⟩ := valB_head hb
    rw [eo, e1, e2, List.cons_append, List.cons_append, if_neg (by rw [cmpI_zero]; exact hg)]
    by_cases h : grp a.ty < grp b.ty
    · rw [cmpI_lt h]; exact (cmp_head (by omega) _ _).1
    · rw [cmpI_gt (by omega)]; exact (cmp_head (by omega) _ _).2
theorem val_ord {a b : Va} (ha : a.chk = 0) (hb : b.chk = 0) (fa : fit a.n) (fb : fit b.n) : Lib.compareBytes (valB a) (valB b) = ordV a b := by
  have h := val_cmp ha hb fa fb [] []
  rw [List.append_nil, List.append_nil] at h
  rw [h]; split
  · rename_i e; rw [e]; rfl
  · rfl
/-- no value's bytes are the beginning of another one's -/
theorem val_begins {a b : Va} (ha : a.chk = 0) (hb : b.chk = 0) (fa : fit a.n) (fb : fit b.n) {t : List UInt8} (h : valB a ++ t = valB b) : ordV a b = 0 := by
  have h1 := val_cmp ha hb fa fb t []
  rw [h, List.append_nil, (cmp_zero _ _).2 rfl] at h1
  by_cases h0 : ordV a b = 0
  · exact h0
  · rw [if_neg h0] at h1; exact h1.symm
theorem val_same {a b : Va} (ha : a.chk = 0) (hb : b.chk = 0) (fa : fit a.n) (fb : fit b.n) (h : ordV a b = 0) : valB a = valB b :=
  (cmp_zero _ _).1 (by rw [val_ord ha hb fa fb, h])
theorem rows_cmp : ∀ {la lb : List Va}, (∀ v ∈ la, v.chk = 0) → (∀ v ∈ lb, v.chk = 0) → (∀ v ∈ la, fit v.n) → (∀ v ∈ lb, fit v.n) → Lib.compareBytes (rowB la) (rowB lb) = rowsV la lb
  | [], [], _, _, _, _ => by simp [rowB, rowsB, rowsV, Lib.compareBytes]
  | [], b :: lb, _, hb, _, _ => by
    obtain ⟨l2, x2, e2, h2⟩ := valB_head (hb b List.mem_cons_self)
    have hg := grp_vals b.ty
    show Lib.compareBytes [0] ((valB b ++ rowsB lb) ++ [0]) = -1
    rw [e2]; exact (cmp_head (x := 0) (by have : (0 : UInt8).toNat = 0 := rfl; omega) _ _).1
  | a :: la, [], ha, _, _, _ => by
    obtain ⟨l2, x2, e2, h2⟩ := valB_head (ha a List.mem_cons_self)
    have hg := grp_vals a.ty
    show Lib.compareBytes ((valB a ++ rowsB la) ++ [0]) [0] = 1
    rw [e2]; exact (cmp_head (x := 0) (by have : (0 : UInt8).toNat = 0 := rfl; omega) _ _).2
  | a :: la, b :: lb, ha, hb, fa, fb => by
    have ih := rows_cmp (fun v h => ha v (List.mem_cons_of_mem _ h)) (fun v h => hb v (List.mem_cons_of_mem _ h)) (fun v h => fa v (List.mem_cons_of_mem _ h)) (fun v h => fb v (List.mem_cons_of_mem _ h))
    show Lib.compareBytes ((valB a ++ rowsB la) ++ [0]) ((valB b ++ rowsB lb) ++ [0]) = if ordV a b = 0 then rowsV la lb else ordV a b
    rw [List.append_assoc, List.append_assoc, val_cmp (ha a List.mem_cons_self) (hb b List.mem_cons_self) (fa a List.mem_cons_self) (fb b List.mem_cons_self)]
    split
    · exact ih
    · rfl
end Go.Proofs.YtedacccedbchaaaDoor
