/-
  Literals: quotes in pairs, digits, a point: what a text says, as functions.
-/
import Derived.Test.YtfcolecglobcdaaGreatDoorChkVal
import Derived.Test.YtfcolecglobcdaaGreatDoorArInt
import Derived.Lib.Replace
import Derived.Lib.IndexBytes
import Derived.Lib.IndexAny
import Derived.Lib.ParseIntB
namespace Go.Proofs.YtfcolecglobcdaaGreatDoor
open Go.RowKit Go.Shelf

/-! ### ReplaceAll, sign by sign -/
theorem rpl_eq {s old new : List UInt8} (hne : old ≠ new) : Lib.replaceAll s old new = Lib.replaceK old new (Lib.count s old) s := by
  unfold Lib.replaceAll Lib.replace Lib.replaceNum
  rw [if_neg (by simpa using hne), if_pos (Or.inl (by decide))]
theorem rpl_nil {old new : List UInt8} (hne : old ≠ new) (h : old ≠ []) : Lib.replaceAll [] old new = [] := by
  rw [rpl_eq hne]
  have hi : Lib.index [] old = -1 := by
    unfold Lib.index
    rw [if_neg (by simpa using h)]
  rw [Lib.count_miss hi]
  rfl
theorem rpl_hit {s old new : List UInt8} (hne : old ≠ new) (h : old ≠ []) (hp : old.isPrefixOf s = true) : Lib.replaceAll s old new = new ++ Lib.replaceAll (s.drop old.length) old new := by
  have hi : Lib.index s old = ((0 : Nat) : Int) := by
    rcases s with _ | ⟨b, l⟩
    · rcases old with _ | ⟨c, o⟩
      · exact absurd rfl h
      · simp at hp
    · unfold Lib.index
      rw [if_pos hp]; rfl
  rw [rpl_eq hne, rpl_eq hne, Lib.count_hit h hi, Nat.add_comm 1, Lib.replaceK_hit _ _ _ _ _ hi, Nat.zero_add]
  simp
theorem rpl_miss {b : UInt8} {l old new : List UInt8} (hne : old ≠ new) (h : old ≠ []) (hp : old.isPrefixOf (b :: l) = false) : Lib.replaceAll (b :: l) old new = b :: Lib.replaceAll l old new := by
  have hi : Lib.index (b :: l) old = if Lib.index l old == -1 then -1 else Lib.index l old + 1 := by
    rw [Lib.index, if_neg (by simp [hp])]
  rw [rpl_eq hne, rpl_eq hne]
  by_cases hm : Lib.index l old = -1
  · rw [if_pos (by simpa using hm)] at hi
    rw [Lib.count_miss hi, Lib.count_miss hm]; rfl
  · have hg := Lib.index_ge l old
    obtain ⟨i, hii⟩ : ∃ i : Nat, Lib.index l old = (i : Int) := ⟨(Lib.index l old).toNat, by omega⟩
    rw [if_neg (by simpa using hm), hii] at hi
    have hi2 : Lib.index (b :: l) old = ((i + 1 : Nat) : Int) := by rw [hi]; omega
    have e1 := Lib.count_hit h hi2
    have e2 := Lib.count_hit h hii
    have ed : (b :: l).drop (i + 1 + old.length) = l.drop (i + old.length) := by
      rw [show i + 1 + old.length = (i + old.length) + 1 by omega, List.drop_succ_cons]
    rw [ed] at e1
    rw [e1, e2, Nat.add_comm 1, Lib.replaceK_hit _ _ _ _ _ hi2, Lib.replaceK_hit _ _ _ _ _ hii, ed]
    simp
/-- each quote twice -/
def qd : List UInt8 → List UInt8
  | [] => []
  | x :: r => if x = 39 then 39 :: 39 :: qd r else x :: qd r
theorem qd_app : ∀ a b : List UInt8, qd (a ++ b) = qd a ++ qd b
  | [], b => rfl
  | x :: a, b => by
    simp only [List.cons_append, qd, qd_app a b]
    split <;> rfl
theorem qd_len : ∀ l : List UInt8, (qd l).length ≤ 2 * l.length
  | [] => by simp [qd]
  | x :: l => by
    have := qd_len l
    unfold qd
    split <;> simp <;> omega
theorem qd_rpl : ∀ l : List UInt8, Lib.replaceAll l [39] [39, 39] = qd l
  | [] => rpl_nil (by decide) (by decide)
  | x :: l => by
    by_cases h : x = 39
    · subst h
      rw [rpl_hit (by decide) (by decide) (by simp)]
      show [39, 39] ++ Lib.replaceAll l [39] [39, 39] = _
      rw [qd_rpl l]; simp [qd]
    · rw [rpl_miss (by decide) (by decide) (by simp [List.isPrefixOf]; exact fun e => h e.symm), qd_rpl l]
      simp [qd, h]
/-- pairs of quotes as something else -/
def rpl (new : List UInt8) : List UInt8 → List UInt8
  | [] => []
  | [x] => [x]
  | x :: y :: r => if x = 39 ∧ y = 39 then new ++ rpl new r else x :: rpl new (y :: r)
theorem rpl_is (new : List UInt8) (hn : [39, 39] ≠ new) : ∀ (n : Nat) (l : List UInt8), l.length ≤ n → Lib.replaceAll l [39, 39] new = rpl new l
  | _, [], _ => rpl_nil hn (by decide)
  | _, [x], _ => by
    rw [rpl_miss hn (by decide) (by simp [List.isPrefixOf]), rpl_nil hn (by decide)]; simp [rpl]
  | 0, _ :: _ :: _, h => by simp at h
  | n + 1, x :: y :: r, h => by
    by_cases hxy : x = 39 ∧ y = 39
    · obtain ⟨rfl, rfl⟩ := hxy
      rw [rpl_hit hn (by decide) (by simp [List.isPrefixOf])]
      show new ++ Lib.replaceAll r [39, 39] new = _
      rw [rpl_is new hn n r (by simp at h; omega)]
      simp [rpl]
    · rw [rpl_miss hn (by decide) (by
        simp only [List.isPrefixOf, Bool.and_true, Bool.and_eq_false_iff, beq_eq_false_iff_ne]
        by_cases hx : x = 39
        · right; intro e; exact hxy ⟨hx, e.symm⟩
        · left; intro e; exact hx e.symm), rpl_is new hn n (y :: r) (by simp at h ⊢; omega)]
      rw [rpl, if_neg hxy]
/-- what stands between quotes -/
def unq : List UInt8 → Option (List UInt8)
  | [] => some []
  | [x] => if x = 39 then none else some [x]
  | x :: y :: r => if x = 39 then (if y = 39 then (unq r).map (39 :: ·) else none) else (unq (y :: r)).map (x :: ·)
theorem has_one (l : List UInt8) : Lib.contains l [39] = l.contains 39 := by
  unfold Lib.contains
  rw [Lib.index_one, Lib.contains_iff_indexByte]
theorem unq_none : ∀ (n : Nat) (l : List UInt8), l.length ≤ n → (rpl [] l).contains 39 = (unq l).isNone
  | _, [], _ => by simp [rpl, unq]
  | _, [x], _ => by
    by_cases h : x = 39
    · simp [rpl, unq, h]
    · have : ¬ 39 = x := fun e => h e.symm
      simp [rpl, unq, h, this]
  | 0, _ :: _ :: _, h => by simp at h
  | n + 1, x :: y :: r, h => by
    have ih1 := unq_none n r (by simp at h; omega)
    have ih2 := unq_none n (y :: r) (by simp at h ⊢; omega)
    rw [List.contains_eq_mem] at ih1 ih2
    by_cases hx : x = 39
    · by_cases hy : y = 39
      · simp [rpl, unq, hx, hy, ih1]
      · simp [rpl, unq, hx, hy]
    · have hx2 : ¬ 39 = x := fun e => hx e.symm
      rw [rpl, if_neg (fun e => hx e.1), unq, if_neg hx]
      simp [hx2, ih2]
theorem unq_some : ∀ (n : Nat) (l t : List UInt8), l.length ≤ n → unq l = some t → rpl [39] l = t
  | _, [], t, _, h => by simp [unq] at h; simp [rpl, ← h]
  | _, [x], t, _, h => by
    by_cases hx : x = 39
    · simp [unq, hx] at h
    · simp [unq, hx] at h; simp [rpl, ← h]
  | 0, _ :: _ :: _, _, h, _ => by simp at h
  | n + 1, x :: y :: r, t, hl, h => by
    by_cases hx : x = 39
    · by_cases hy : y = 39
      · rw [unq, if_pos hx, if_pos hy] at h
        obtain ⟨u, hu, rfl⟩ := Option.map_eq_some_iff.1 h
        rw [rpl, if_pos ⟨hx, hy⟩, unq_some n r u (by simp at hl; omega) hu]; rfl
      · rw [unq, if_pos hx, if_neg hy] at h; cases h
    · rw [unq, if_neg hx] at h
      obtain ⟨u, hu, rfl⟩ := Option.map_eq_some_iff.1 h
      rw [rpl, if_neg (fun e => hx e.1), unq_some n (y :: r) u (by simp at hl ⊢; omega) hu]
theorem unq_qd : ∀ t : List UInt8, unq (qd t) = some t
  | [] => rfl
  | x :: t => by
    have ih := unq_qd t
    by_cases hx : x = 39
    · subst hx
      simp [qd, unq, ih]
    · rw [qd, if_neg hx]
      rcases hq : qd t with _ | ⟨y, r⟩
      · rw [hq] at ih
        simp [unq] at ih
        subst ih
        simp [unq, hx]
      · rw [hq] at ih
        rw [unq, if_neg hx, ih]; rfl

/-! ### digits -/
def isD (x : UInt8) : Bool := decide (48 ≤ x.toNat ∧ x.toNat ≤ 57)
def allD (l : List UInt8) : Bool := l.all isD
def dval (acc : Nat) : List UInt8 → Nat
  | [] => acc
  | x :: r => dval (acc * 10 + (x.toNat - 48)) r
theorem dval_ge : ∀ (l : List UInt8) (acc : Nat), acc ≤ dval acc l
  | [], acc => Nat.le_refl _
  | x :: r, acc => Nat.le_trans (show acc ≤ acc * 10 + (x.toNat - 48) by omega) (dval_ge r (acc * 10 + (x.toNat - 48)))
theorem dval_app : ∀ (a b : List UInt8) (acc : Nat), dval acc (a ++ b) = dval (dval acc a) b
  | [], _, _ => rfl
  | x :: a, b, acc => dval_app a b (acc * 10 + (x.toNat - 48))
theorem dval_next {l : List UInt8} {k : Nat} {x : UInt8} (h : l[k]? = some x) (acc : Nat) : dval acc (l.take (k + 1)) = dval acc (l.take k) * 10 + (x.toNat - 48) := by
  rw [List.take_add_one, h, dval_app]
  generalize dval acc (l.take k) = m
  rfl
theorem dval_take (l : List UInt8) (k acc : Nat) : dval acc (l.take k) ≤ dval acc l := by
  conv => rhs; rw [← List.take_append_drop k l, dval_app]
  exact dval_ge _ _
theorem parseM_ok (M : Nat) (hM : M = 18446744073709551615) : ∀ (l : List UInt8) (acc : Nat), allD l = true → acc ≤ M → Lib.parseUintM M acc l = if dval acc l ≤ M then .ok (dval acc l) else .range
  | [], acc, _, ha => by
    have e : dval acc [] = acc := rfl
    rw [e, if_pos ha]; rfl
  | x :: r, acc, h, ha => by
    simp only [allD, List.all_cons, Bool.and_eq_true] at h
    have hx : 48 ≤ x.toNat ∧ x.toNat ≤ 57 := by have := h.1; simpa [isD] using this
    have e : dval acc (x :: r) = dval (acc * 10 + (x.toNat - 48)) r := rfl
    have hg := dval_ge r (acc * 10 + (x.toNat - 48))
    rw [e, Lib.parseUintM, if_pos hx]
    by_cases h1 : 1844674407370955162 ≤ acc
    · rw [if_pos h1, if_neg (by omega)]
    · rw [if_neg h1]
      by_cases h2 : M < acc * 10 + (x.toNat - 48)
      · rw [if_pos h2, if_neg (by omega)]
      · rw [if_neg h2]
        exact parseM_ok M hM r _ h.2 (by omega)
theorem parseU_all {l : List UInt8} (h : allD l = true) (hl : l ≠ []) : Lib.parseUintB 64 l = if dval 0 l ≤ 18446744073709551615 then .ok (dval 0 l) else .range := by
  unfold Lib.parseUintB
  rw [if_neg hl]
  exact parseM_ok (2 ^ 64 - 1) (by decide) l 0 h (Nat.zero_le _)

/-! ### a point -/
def cutP : List UInt8 → List UInt8 × List UInt8 × Bool
  | [] => ([], [], false)
  | x :: r => if x = 46 then ([], r, true) else (x :: (cutP r).1, (cutP r).2.1, (cutP r).2.2)
theorem cutP_is : ∀ l : List UInt8, Lib.cut l [46] = cutP l
  | [] => by simp [Lib.cut, Lib.index, cutP]
  | x :: r => by
    have ih := cutP_is r
    unfold Lib.cut at ih ⊢
    by_cases h : x = 46
    · subst h
      have hidx : Lib.index (46 :: r) [46] = 0 := by rw [Lib.index, if_pos (by simp [List.isPrefixOf])]
      rw [hidx]
      simp [cutP]
    · have hidx : Lib.index (x :: r) [46] = if Lib.index r [46] == -1 then -1 else Lib.index r [46] + 1 := by
        rw [Lib.index, if_neg (by simp [List.isPrefixOf]; exact fun (e : 46 = x) => h e.symm)]
      rw [cutP, if_neg h, ← ih, hidx]
      by_cases hm : Lib.index r [46] = -1
      · simp [hm]
      · have hg := Lib.index_ge r [46]
        obtain ⟨i, hi⟩ : ∃ i : Nat, Lib.index r [46] = (i : Int) := ⟨(Lib.index r [46]).toNat, by omega⟩
        have e1 : ((i : Int) == -1) = false := by rw [beq_eq_false_iff_ne]; omega
        have hidx2 : Lib.index (x :: r) [46] = ((i + 1 : Nat) : Int) := by
          rw [hidx, hi, e1]
          show (i : Int) + 1 = _
          omega
        rw [← hidx, hidx2, hi, if_pos (by omega), if_pos (by omega)]
        simp
/-- a number of such a size and sign -/
def fin (ty : Int) (n : Nat) (neg : Bool) : Va × Int :=
  if neg = true then (if n ≤ 9223372036854775808 then (⟨ty, -(n : Int), ⟨#[]⟩⟩, 0) else (⟨0, 0, ⟨#[]⟩⟩, 10))
  else (if n < 9223372036854775808 then (⟨ty, (n : Int), ⟨#[]⟩⟩, 0) else (⟨0, 0, ⟨#[]⟩⟩, 10))
def bad (e : Int) : Va × Int := (⟨0, 0, ⟨#[]⟩⟩, e)
/-- digits without noughts ahead -/
def whole (l : List UInt8) : Bool := !l.isEmpty && allD l && (l == [48] || l.head? != some 48)
/-- a number without its sign -/
def prN (u : List UInt8) (neg : Bool) : Va × Int :=
  if whole (cutP u).1 = false then bad 3
  else if (cutP u).2.2 = false then (if neg = true ∧ (cutP u).1 = [48] then bad 3 else fin 1 (dval 0 (cutP u).1) neg)
  else if (cutP u).2.1 = [] ∨ 4 < (cutP u).2.1.length ∨ allD (cutP u).2.1 = false then bad 3
  else fin 2 (dval 0 ((cutP u).1 ++ (cutP u).2.1 ++ List.replicate (4 - (cutP u).2.1.length) 48)) neg
/-- a text between quotes -/
def prT (s : List UInt8) : Va × Int :=
  if s.length < 2 ∨ s.getLast? ≠ some 39 then bad 3
  else match unq ((s.drop 1).dropLast) with
    | none => bad 3
    | some t => if chkT ⟨t.toArray⟩ = 0 then (⟨3, 0, ⟨t.toArray⟩⟩, 0) else bad (chkT ⟨t.toArray⟩)
/-- a literal -/
def prs (s : List UInt8) : Va × Int :=
  if 8194 < s.length then bad 2
  else if s = [78, 85, 76, 76] then (⟨0, 0, ⟨#[]⟩⟩, 0)
  else if s = [84, 82, 85, 69] then (⟨4, 1, ⟨#[]⟩⟩, 0)
  else if s = [70, 65, 76, 83, 69] then (⟨4, 0, ⟨#[]⟩⟩, 0)
  else if s.head? = some 39 then prT s
  else if s.head? = some 45 then prN (s.drop 1) true else prN s false
end Go.Proofs.YtfcolecglobcdaaGreatDoor
