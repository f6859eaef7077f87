/-
  Rows: what was written is read as it was, and what is read is written as it was; the walk of rowcode.ReadRow.
-/
import Derived.Test.YtedacccedbchaaaDoorBkM
namespace Go.Proofs.YtedacccedbchaaaDoor
open Go.RowKit Go.Shelf

def rdRs : Nat → List Va → List UInt8 → Nat → Except Int (List Va × Nat)
  | 0, _, _, _ => .error 4
  | _ + 1, _, [], _ => .error 4
  | f + 1, acc, x :: r, n => if x = 0 then .ok (acc, n + 1) else if acc.length = 16 then .error 20 else
      match rdV (x :: r) with
      | .error e => .error e
      | .ok (v, k) => rdRs f (acc ++ [v]) ((x :: r).drop k) (n + k)
/-- the row with which bytes begin -/
def rdRow (l : List UInt8) : Except Int (List Va × Nat) := rdRs (l.length + 1) [] l 0
def okV (v : Va) : Prop := v.chk = 0 ∧ fit v.n
theorem rdRs_back : ∀ (f : Nat) (acc : List Va) (l : List UInt8) (n : Nat) (s : List Va) (m : Nat), rdRs f acc l n = .ok (s, m) → acc.length ≤ 16 → (∀ v ∈ acc, okV v) →
    ∃ tl, s = acc ++ tl ∧ (∀ v ∈ s, okV v) ∧ s.length ≤ 16 ∧ n + 1 ≤ m ∧ m ≤ n + l.length ∧ rowsB tl ++ [0] = l.take (m - n)
  | 0, _, _, _, _, _, h, _, _ => by unfold rdRs at h; cases h
  | _ + 1, _, [], _, _, _, h, _, _ => by unfold rdRs at h; cases h
  | f + 1, acc, x :: r, n, s, m, h, ha, hk => by
    rw [rdRs] at h
    by_cases x0 : x = 0
    · rw [if_pos x0] at h
      simp only [Except.ok.injEq, Prod.mk.injEq] at h
      obtain ⟨rfl, rfl⟩ := h
      refine ⟨[], by simp, hk, ha, by omega, by simp, ?_⟩
      rw [show n + 1 - n = 1 by omega, x0]; rfl
    · rw [if_neg x0] at h
      by_cases h16 : acc.length = 16
      · rw [if_pos h16] at h; cases h
      · rw [if_neg h16] at h
        rcases hq : rdV (x :: r) with e | ⟨v, k⟩
        · rw [hq] at h; cases h
        · rw [hq] at h
          obtain ⟨k1, k2, kc, kf, kb⟩ := rdV_back hq
          obtain ⟨tl, e1, e2, e3, e4, e5, e6⟩ := rdRs_back f (acc ++ [v]) ((x :: r).drop k) (n + k) s m h (by simp; omega) (by
            intro u hu
            simp only [List.mem_append, List.mem_cons, List.not_mem_nil, or_false] at hu
            rcases hu with hu | rfl
            · exact hk u hu
            · exact ⟨kc, kf⟩)
          rw [List.length_drop] at e5
          refine ⟨v :: tl, by rw [e1]; simp, e2, e3, by omega, by omega, ?_⟩
          show (valB v ++ rowsB tl) ++ [0] = _
          rw [List.append_assoc, e6, kb, ← List.take_add]
          congr 1
          omega
theorem valB_first {v : Va} (h : v.chk = 0) : ∃ x l, valB v = x :: l ∧ ¬ x = 0 := by
  have hc : chk v.ty v.n v.s = 0 := h
  have hty := chk_ty hc
  unfold valB
  split
  · exact ⟨2, _, rfl, by decide⟩
  · split
    · exact ⟨3, _, rfl, by decide⟩
    · split
      · exact ⟨4, _, rfl, by decide⟩
      · exact ⟨1, _, rfl, by decide⟩
theorem rdRs_of : ∀ (r : List Va) (f : Nat) (acc : List Va) (t : List UInt8) (n : Nat), r.length + acc.length ≤ 16 → (∀ v ∈ r, okV v) → r.length < f → rdRs f acc (rowsB r ++ 0 :: t) n = .ok (acc ++ r.map pl, n + ((rowsB r).length + 1))
  | [], f + 1, acc, t, n, _, _, _ => by
    show rdRs (f + 1) acc (0 :: t) n = _
    rw [rdRs, if_pos rfl]; simp [rowsB]
  | v :: r, f + 1, acc, t, n, hl, hk, hf => by
    obtain ⟨x, l, e, x0⟩ := valB_first (hk v List.mem_cons_self).1
    have hh : rowsB (v :: r) ++ 0 :: t = valB v ++ (rowsB r ++ 0 :: t) := by
      show (valB v ++ rowsB r) ++ 0 :: t = _
      rw [List.append_assoc]
    have hd := rdV_of (hk v List.mem_cons_self).1 (hk v List.mem_cons_self).2 (rowsB r ++ 0 :: t)
    rw [hh]
    rw [e] at hd ⊢
    rw [List.cons_append] at hd ⊢
    rw [rdRs, if_neg x0, if_neg (by simp at hl; omega), hd]
    show rdRs f (acc ++ [pl v]) (List.drop (x :: l).length (x :: (l ++ (rowsB r ++ 0 :: t)))) (n + (x :: l).length) = _
    rw [← List.cons_append, List.drop_left, rdRs_of r f (acc ++ [pl v]) t _ (by simp at hl ⊢; omega) (fun u hu => hk u (List.mem_cons_of_mem _ hu)) (by simp at hf; omega)]
    have e2 : (rowsB (v :: r)).length = (x :: l).length + (rowsB r).length := by
      show (valB v ++ rowsB r).length = _
      rw [e, List.length_append]
    rw [e2]
    congr 2
    · simp
    · omega
theorem rowsB_min : ∀ r : List Va, (∀ v ∈ r, okV v) → r.length ≤ (rowsB r).length
  | [], _ => by simp
  | v :: r, h => by
    have ih := rowsB_min r (fun u hu => h u (List.mem_cons_of_mem _ hu))
    obtain ⟨x, l, e, _⟩ := valB_first (h v List.mem_cons_self).1
    show (v :: r).length ≤ (valB v ++ rowsB r).length
    rw [e]; simp; omega
/-- WHAT WAS WRITTEN IS READ AS IT WAS -/
theorem rdRow_of {r : List Va} (h16 : r.length ≤ 16) (hk : ∀ v ∈ r, okV v) (t : List UInt8) : rdRow (rowB r ++ t) = .ok (r.map pl, (rowB r).length) := by
  unfold rdRow rowB
  rw [show (rowsB r ++ [0]) ++ t = rowsB r ++ 0 :: t by simp]
  have := rowsB_min r hk
  rw [rdRs_of r _ [] t 0 (by simp; exact h16) hk (by simp; omega)]
  simp
/-- WHAT IS READ IS WRITTEN AS IT WAS -/
theorem rdRow_back {l : List UInt8} {s : List Va} {m : Nat} (h : rdRow l = .ok (s, m)) : (∀ v ∈ s, okV v) ∧ s.length ≤ 16 ∧ 1 ≤ m ∧ m ≤ l.length ∧ rowB s = l.take m := by
  obtain ⟨tl, e1, e2, e3, e4, e5, e6⟩ := rdRs_back _ _ _ _ _ _ h (by simp) (by simp)
  rw [List.nil_append] at e1
  subst e1
  exact ⟨e2, e3, by omega, by omega, e6⟩
end Go.Proofs.YtedacccedbchaaaDoor
