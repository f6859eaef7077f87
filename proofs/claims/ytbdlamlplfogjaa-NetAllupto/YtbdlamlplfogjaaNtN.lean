/-
  Walks: a node that comes again, and was down.
-/
import Derived.Test.YtbdlamlplfogjaaNtM
namespace Go.Proofs.Ytbdlamlplfogjaa
open Go.RowKit Go.Maps Go.Joins
variable {P : Nat → Prop} {w w' : World} {n c : Nat} {S : St} {L : Ly}

theorem anewK_s (S : St) (i k : Nat) : anewK S i (k + 1) = if k = i then anewS (anewK S i k) i k else anewS (anewS (anewK S i k) i k) k i := rfl
theorem NetL.up_fin (h : NetL P w n c S L) {i : Nat} (hi : i < S.N) : UpN P w n c { S with dn := upd S.dn i false } (w.setCell ⟨L.nb, i * 2, none⟩ (.bool false)) := by
  obtain ⟨cur, hb, r1, r2, r3, r4⟩ := h.nds
  have b4 : (w.setCell ⟨L.nb, i * 2, none⟩ (.bool false)).heap[L.nb]? = some (.cells (cur.setIfInBounds (i * 2) (.bool false)) 69 (0, 0)) := block_setCell hb _
  have CC : Chg (fun k => k = L.nb) w (w.setCell ⟨L.nb, i * 2, none⟩ (.bool false)) := Chg.of_cell w ⟨L.nb, i * 2, none⟩ (.bool false)
  have hs5 := (h.wts i hi).kept CC (fun g hg e => by
    have e : g = L.nb := e
    have := ((h.wts i hi).kd g hg).1
    rw [e, h.knb] at this; simp at this)
  have fin := h.node CC hi (fun k hk => Or.inl hk) (d := false) (ms := S.ms i) (v := L.vs i) b4 (by simp [r3]) (by
    rw [Array.getElem?_setIfInBounds, if_pos rfl, if_pos (by omega)]) (by
    rw [Array.getElem?_setIfInBounds, if_neg (by omega)]; exact (r4 i hi).2) (fun k hk hne => by
    rw [Array.getElem?_setIfInBounds, if_neg (by omega), Array.getElem?_setIfInBounds, if_neg (by omega)]; exact r4 k hk) hs5 (fun g hg => Or.inl hg)
  have e1 : upd S.ms i (S.ms i) = S.ms := by
    funext k
    by_cases e : k = i
    · rw [e, upd_same]
    · rw [upd_other _ _ e]
  rw [e1] at fin
  exact ⟨_, fin⟩
set_option maxHeartbeats 2000000 in
set_option maxRecDepth 100000 in
theorem Up_goes (h : NetL P w n c S L) (i : Nat) (hi : i < S.N) (hd : S.dn i = true) (hb : ∀ a b, (S.wy a b).b ≤ 100000000000) (hc : c ≤ 900000000) : Calls Try.prog 18 #[.pointer (some ⟨n, 0, none⟩), .int .i64 i] w (ErQ P w n (c + 128) (upT S i) (upK S i)) := by
  have hk : 0 ≤ (i : Int) ∧ (i : Int) < S.N := by omega
  have HS := mkHid (has_any h i)
  rw [decide_eq_true hk] at HS
  rw [show upT S (i : Int) = upS S i from (if_pos hk).trans (if_pos (by rw [show ((i : Int)).toNat = i from rfl, hd])), show upK S (i : Int) = 0 from (if_pos hk).trans (if_pos (by rw [show ((i : Int)).toNat = i from rfl, hd]))]
  obtain ⟨c0, _⟩ := h.cs
  obtain ⟨d0, d1, df⟩ := h.cn hi
  rw [hd] at d0
  have df0 := df (i * 2)
  have hi2 : (i : Int) < (S.N : Int) := by omega
  have hne := h.nnb
  have hne2 := hne.symm
  have U0 := mkHid (h.up_fin hi)
  have h64 := h.n64
  obtain ⟨N, hN⟩ : ∃ N, N = S.N := ⟨_, rfl⟩
  have HN := mkHid hN
  unfold upS
  generalize hS0 : ({ S with dn := upd S.dn i false } : St) = S0 at U0 ⊢
  rw [← hN] at c0 hi2 h64 ⊢
  have hi3 : i < N := by omega
  have n0 : S0.N = N := by rw [← hS0, hN]
  have b0 : ∀ a b, (S0.wy a b).b ≤ 100000000000 := by rw [← hS0]; exact hb
  clear h hk df hS0 hN hb
  go_enter Try.func18, Try.ntmps18
  go_wp2_with fail
  refine HS.out.mono ?_
  rintro e w1 ⟨rfl, hwx⟩; have hwx2 := hwx.symm; subst hwx2; clear hwx
  go_wp2_with fail
  go_loopw [31] (fun s31 wr => ∃ k : Nat, s31 = .int .i64 (k : Int) ∧ k ≤ N ∧ Hid (UpN P w n (c + 2 * k) (anewK S0 i k) wr)) (fun s31 _ => N - (intOf s31).toNat)
  case atStart => exact ⟨0, rfl, Nat.zero_le _, U0⟩
  case round =>
    obtain ⟨k, rfl, hk, UP⟩ := hrel
    by_cases hlt : k < N
    · have hlti : (k : Int) < (N : Int) := by omega
      obtain ⟨L1, hL1, C1⟩ := UP.out
      have BA := mkHid (beginAnew_any hL1 i k (by rw [anewK_N, n0]; omega) (by rw [anewK_N, n0]; omega) (by have := anewK_b (i := i) b0 k i k; omega) (by omega))
      have HC1 := mkHid C1
      clear hL1 C1
      by_cases hki : k = i
      · have EK : Hid (anewK S0 i (k + 1) = anewS (anewK S0 i k) i k) := (anewK_s S0 i k).trans (if_pos hki)
        subst hki
        unfold ky at BA
        go_wp2_with fail
        refine BA.out.mono ?_
        rintro e w2 ⟨rfl, hu⟩
        have HU : Hid (UpN P w n (c + 2 * k + 1) (anewK S0 k (k + 1)) w2) := by rw [EK.out]; exact UpN.trans HC1.out hu
        clear hu
        go_wp2_with fail
        go_roundw
        case rel => exact ⟨k + 1, by go_num, hlt, mkHid (HU.out.le (c2 := c + 2 * (k + 1)) (by omega))⟩
        case measure => simp [intOf]; omega
      · have hki2 : ((k : Int) == (i : Int)) = false := by rw [beq_eq_false_iff_ne]; omega
        have EK : Hid (anewK S0 i (k + 1) = anewS (anewS (anewK S0 i k) i k) k i) := (anewK_s S0 i k).trans (if_neg hki)
        clear hki
        unfold ky at BA
        go_wp2_with fail
        refine BA.out.mono ?_
        rintro e w2 ⟨rfl, hu⟩
        obtain ⟨L2, hL2, C2⟩ := UpN.trans HC1.out hu
        have BB := mkHid (beginAnew_any hL2 k i (by rw [anewS_N, anewK_N, n0]; omega) (by rw [anewS_N, anewK_N, n0]; omega) (by have := anewS_b (anewK_b (i := i) b0 k) (i := i) (j := k) k i; omega) (by omega))
        have HC2 := mkHid C2
        unfold ky at BB
        clear hu hL2 C2
        go_wp2_with fail
        refine BB.out.mono ?_
        rintro e w3 ⟨rfl, hu⟩
        have HU : Hid (UpN P w n (c + 2 * k + 1 + 1) (anewK S0 i (k + 1)) w3) := by rw [EK.out]; exact UpN.trans HC2.out hu
        clear hu
        go_wp2_with fail
        go_roundw
        case rel => exact ⟨k + 1, by go_num, hlt, mkHid (HU.out.le (c2 := c + 2 * (k + 1)) (by omega))⟩
        case measure => simp [intOf]; omega
    · obtain rfl : k = N := by omega
      go_wp2_with fail
      go_ret
      exact ⟨rfl, UP.out.le (c2 := c + 128) (by omega)⟩
theorem Up_any (h : NetL P w n c S L) (k : Int) (hb : ∀ a b, (S.wy a b).b ≤ 100000000000) (hc : c ≤ 900000000) : Calls Try.prog 18 #[.pointer (some ⟨n, 0, none⟩), .int .i64 k] w (ErQ P w n (c + 128) (upT S k) (upK S k)) := by
  by_cases hk : 0 ≤ k ∧ k < S.N
  · obtain ⟨i, rfl⟩ : ∃ i : Nat, k = (i : Int) := ⟨k.toNat, by omega⟩
    cases hd : S.dn i with
    | false => exact Up_is h i (by omega) hd
    | true => exact Up_goes h i (by omega) hd hb hc
  · exact Up_no h k hk
end Go.Proofs.Ytbdlamlplfogjaa
