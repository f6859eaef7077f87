/-
  Walks: a message that is received; a node that goes down.
-/
import Derived.Test.YtbdlamlplfogjaaNtG
namespace Go.Proofs.Ytbdlamlplfogjaa
open Go.RowKit Go.Maps Go.Joins
variable {P : Nat → Prop} {w w' : World} {n c : Nat} {S : St} {L : Ly}

set_option maxHeartbeats 1000000 in
set_option maxRecDepth 100000 in
theorem Waits_any (h : NetL P w n c S L) (k : Int) : Calls Try.prog 43 #[.pointer (some ⟨n, 0, none⟩), .int .i64 k] w fun e w' => e = .returned (.tuple #[.int .i64 (if isS S k then (S.ms k.toNat).length else 0 : Nat), .int .i64 (if isS S k then 0 else 60)]) ∧ w' = w := by
  have IS := mkHid (Is_any h k)
  cases hs : isS S k with
  | false =>
    rw [hs] at IS
    clear h
    go_enter Try.func43, Try.ntmps43
    go_wp2_with fail
    refine IS.out.mono ?_
    rintro e w1 ⟨rfl, hwx⟩; have hwx2 := hwx.symm; subst hwx2; clear hwx
    go_wp2_with fail
    go_ret2
    exact ⟨rfl, rfl⟩
  | true =>
    rw [hs] at IS
    have hk : 0 ≤ k ∧ k < S.N := by
      unfold isS at hs
      rw [Bool.and_eq_true, decide_eq_true_eq] at hs
      exact hs.1
    obtain ⟨i, rfl⟩ : ∃ i : Nat, k = (i : Int) := ⟨k.toNat, by omega⟩
    have hi : i < S.N := by omega
    have hi2 : (i : Int) < (S.N : Int) := by omega
    obtain ⟨c0, _⟩ := h.cs
    obtain ⟨_, d1, _⟩ := h.cn hi
    obtain ⟨pv, cv, hv, _⟩ := (h.wts i hi).form
    rw [hv] at d1
    rw [show ((i : Int)).toNat = i from rfl]
    clear h hv hs hk
    go_enter Try.func43, Try.ntmps43
    go_wp2_with fail
    refine IS.out.mono ?_
    rintro e w1 ⟨rfl, hwx⟩; have hwx2 := hwx.symm; subst hwx2; clear hwx
    go_wp2_with fail
    go_ret2
    exact ⟨rfl, rfl⟩
theorem NetL.nnb (h : NetL P w n c S L) : n ≠ L.nb := kd_ne (by rw [h.kn, h.knb]; decide)
/-- a node that goes down -/
def downS (S : St) (i : Nat) : St := { S with dn := upd S.dn i true, ms := upd S.ms i [] }
set_option maxHeartbeats 1000000 in
set_option maxRecDepth 100000 in
theorem Down_any (h : NetL P w n c S L) (k : Int) : Calls Try.prog 39 #[.pointer (some ⟨n, 0, none⟩), .int .i64 k] w fun e w' => e = .returned (.int .i64 (if isS S k then 0 else 60)) ∧ UpN P w n c (if isS S k then downS S k.toNat else S) w' := by
  have IS := mkHid (Is_any h k)
  cases hs : isS S k with
  | false =>
    rw [hs] at IS
    have H := mkHid h
    clear h
    go_enter Try.func39, Try.ntmps39
    go_wp2_with fail
    refine IS.out.mono ?_
    rintro e w1 ⟨rfl, hwx⟩; have hwx2 := hwx.symm; subst hwx2; clear hwx
    go_wp2_with fail
    go_ret
    exact ⟨rfl, L, H.out.more (fun _ => ext_le) (ext_pb H.out.pb (Nat.le_refl _)), Chg.refl _ _⟩
  | true =>
    rw [hs] at IS
    have hk : 0 ≤ k ∧ k < S.N := by
      unfold isS at hs
      rw [Bool.and_eq_true, decide_eq_true_eq] at hs
      exact hs.1
    obtain ⟨i, rfl⟩ : ∃ i : Nat, k = (i : Int) := ⟨k.toNat, by omega⟩
    have hi : i < S.N := by omega
    have hi2 : (i : Int) < (S.N : Int) := by omega
    obtain ⟨c0, _⟩ := h.cs
    obtain ⟨d0, d1, df⟩ := h.cn hi
    have df0 := df (i * 2)
    have df1 := df (i * 2 + 1)
    obtain ⟨pv, cv, hv, _⟩ := (h.wts i hi).form
    rw [hv] at d1
    have FIN : Hid (UpN P w n c (downS S i) ((w.setCell ⟨L.nb, i * 2, none⟩ (.bool true)).setCell ⟨L.nb, i * 2 + 1, none⟩ (.slice none 0 0))) := by
      obtain ⟨cur, hb, r1, _, r3, r4⟩ := h.nds
      have e1 : (w.setCell ⟨L.nb, i * 2, none⟩ (.bool true)).heap[L.nb]? = some (.cells (cur.setIfInBounds (i * 2) (.bool true)) 69 (0, 0)) := block_setCell hb _
      have e2 : ((w.setCell ⟨L.nb, i * 2, none⟩ (.bool true)).setCell ⟨L.nb, i * 2 + 1, none⟩ (.slice none 0 0)).heap[L.nb]? = some (.cells ((cur.setIfInBounds (i * 2) (.bool true)).setIfInBounds (i * 2 + 1) (.slice none 0 0)) 69 (0, 0)) := block_setCell e1 _
      have C := ((Chg.refl (fun k => k = L.nb) w).set ⟨L.nb, i * 2, none⟩ (.bool true) rfl).set ⟨L.nb, i * 2 + 1, none⟩ (.slice none 0 0) rfl
      refine ⟨_, h.node C hi (fun k hk => Or.inl hk) (d := true) (ms := []) (v := .slice none 0 0) e2 (by simp [r3]) ?_ ?_ (fun k hk hne => ?_) (shr_nil _ _ _) (fun g hg => by simp [Value.ownBlock] at hg)⟩
      · rw [Array.getElem?_setIfInBounds, if_neg (by omega), Array.getElem?_setIfInBounds, if_pos rfl, if_pos (by omega)]
      · rw [Array.getElem?_setIfInBounds, if_pos rfl, if_pos (by simp; omega)]
      · rw [Array.getElem?_setIfInBounds, if_neg (by omega), Array.getElem?_setIfInBounds, if_neg (by omega), Array.getElem?_setIfInBounds, if_neg (by omega), Array.getElem?_setIfInBounds, if_neg (by omega)]
        exact r4 k hk
    rw [show ((i : Int)).toNat = i from rfl]
    have hne := h.nnb
    have hne2 := hne.symm
    clear h hv hs hk df
    go_enter Try.func39, Try.ntmps39
    go_wp2_with fail
    refine IS.out.mono ?_
    rintro e w1 ⟨rfl, hwx⟩; have hwx2 := hwx.symm; subst hwx2; clear hwx
    go_wp2_with fail
    go_ret
    exact ⟨rfl, FIN.out⟩
end Go.Proofs.Ytbdlamlplfogjaa
