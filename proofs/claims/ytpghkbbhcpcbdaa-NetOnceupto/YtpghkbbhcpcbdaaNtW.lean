/-
  Walks: slices.Clone at four types.
-/
import Derived.Test.YtpghkbbhcpcbdaaNtU
namespace Go.Proofs.Ytpghkbbhcpcbdaa
open Go.RowKit Go.Maps Go.Joins
variable {P : Nat → Prop} {w w' : World} {n c : Nat} {S : St} {L : Ly}

/-- what a copy of a row is: the same cells in new memory -/
def CpQ (w : World) (e : TypeId) (sz k : Nat) (xs : List Value) (r : Ending) (w' : World) : Prop := ∃ v', r = .returned v' ∧ shr w' e sz v' k xs ∧ w.grownBy w' none ∧ ∀ g, v'.ownBlock = some g → w.heap.size ≤ g
/-- 'append(S{}, s...)', laid ahead -/
theorem Rw.copy {t e : TypeId} {z : Value} {sz by' : Nat} (R : Rw t e z sz by') {k cap : Nat} {xs : List Value} {a : Addr} (h : shr w e sz (.slice (some a) k cap) k xs) (h1 : ∀ u ∈ xs, u.oneCell' = true) (hl : k ≤ 1000000000) :
    ∃ p' c' w', (∀ ty, (Builtin.append_ #[t, t] ty #[.slice (some ⟨w.heap.size, 0, none⟩) 0 0, .slice (some a) k cap]).run Try.prog (w.alloc (.cells #[] e)) = .ok (.slice p' k c') w') ∧ shr w' e sz (.slice p' k c') k xs ∧ w.grownBy w' none ∧ ∀ g, (Value.slice p' k c').ownBlock = some g → w.heap.size ≤ g := by
  have g1 := World.grownBy_alloc w (.cells #[] e) none
  have h' := h.kept (Chg.of_none g1 (fun _ => False)) (fun _ _ e => e)
  have b0 := heap_alloc_new w (.cells #[] e)
  obtain ⟨g, off, rfl, hc⟩ := h'.cell
  rcases Nat.eq_zero_or_pos k with rfl | hk
  · obtain ⟨i, hi, _, hs, _⟩ := info_parts R.inf
    have hx : xs = [] := List.eq_nil_of_length_eq_zero (by simpa using h.1)
    subst hx
    have hr := fun ty => run_append_room_cells (P := Try.prog) (w.alloc (.cells #[] e)) t ty e i R.sl hi w.heap.size 0 0 0 ⟨g, off, none⟩ 0 cap [] (by simp) (fun j u hj => by simp at hj) (fun u hu => by simp at hu) (Nat.le_refl _) (fun j hj => by simp at hj) (fun j hj => by simp at hj)
    refine ⟨_, _, _, hr, ⟨by simp, Or.inr ⟨w.heap.size, 0, 0, #[], rfl, b0, Nat.le_refl _, by unfold maxLen; omega, Or.inl rfl, fun j u hj => by simp at hj⟩⟩, g1, fun g hg => by simp [Value.ownBlock] at hg; omega⟩
  · have s0 : shr (w.alloc (.cells #[] e)) e sz (.slice (some ⟨w.heap.size, 0, none⟩) 0 0) 0 [] := ⟨by simp, Or.inr ⟨w.heap.size, 0, 0, #[], rfl, b0, Nat.le_refl _, by unfold maxLen; omega, Or.inl rfl, fun j u hj => by simp at hj⟩⟩
    obtain ⟨v', w', hr, s', g', o'⟩ := R.app (c := cap) s0 (m := k) (news := xs) (ad := ⟨g, off, none⟩) h.1 (fun j u hj => by rw [add_plain]; exact hc j u hj) h1 (by omega) hk
    rw [Nat.zero_add] at s'
    obtain ⟨p', c', rfl, _⟩ := s'.form
    refine ⟨p', c', w', hr, by rw [List.nil_append] at s'; exact s', grown_new g1 g' (fun g hg => by simp [Value.ownBlock] at hg; omega), fun g hg => ?_⟩
    rcases o' with e | ⟨g2, e, h2, _⟩
    · rw [e] at hg; simp [Value.ownBlock] at hg; omega
    · rw [hg] at e; cases e
      exact Nat.le_trans g1.size h2
set_option maxHeartbeats 1000000 in
set_option maxRecDepth 100000 in
theorem CloneS (v : Value) (k : Nat) (xs : List Value) (h : shr w 9 1 v k xs) (h1 : ∀ u ∈ xs, u.oneCell' = true) (hl : k ≤ 1000000000) : Calls Try.prog 29 #[v] w (CpQ w 9 1 k xs) := by
  rcases h.2 with ⟨rfl, rfl⟩ | ⟨g, off, cap, cur, rfl, hg, hn, hm, _, _⟩
  · have H := mkHid h
    have nq := Lib.run_eql_slice_nil (P := Try.prog) w 49 9 none 0 0 0 0 rwS.sl
    clear h
    go_enter Try.func29, Try.ntmps29
    go_wp2_with fail
    go_ret
    exact ⟨_, rfl, H.out, grown_refl w, fun g hg => by simp [Value.ownBlock] at hg⟩
  · obtain ⟨p', c', w1, hr, s1, g1, o1⟩ := rwS.copy h h1 hl
    have nq := Lib.run_eql_slice_nil (P := Try.prog) w 49 9 (some ⟨g, off, none⟩) k cap 0 0 rwS.sl
    have S1 := mkHid s1
    have G1 := mkHid g1
    have O1 := mkHid o1
    clear h hg hn hm s1 g1 o1
    go_enter Try.func29, Try.ntmps29
    go_wp2_with (first | (at_builtin; refine wp_app 49 rfl (.tmp 5) (.tmp 6) rfl rfl rfl hr ?_) | fail)
    go_ret
    exact ⟨_, rfl, S1.out, G1.out, O1.out⟩
set_option maxHeartbeats 1000000 in
set_option maxRecDepth 100000 in
theorem CloneM (v : Value) (k : Nat) (xs : List Value) (h : shr w 82 2 v k xs) (h1 : ∀ u ∈ xs, u.oneCell' = true) (hl : k ≤ 1000000000) : Calls Try.prog 28 #[v] w (CpQ w 82 2 k xs) := by
  rcases h.2 with ⟨rfl, rfl⟩ | ⟨g, off, cap, cur, rfl, hg, hn, hm, _, _⟩
  · have H := mkHid h
    have nq := Lib.run_eql_slice_nil (P := Try.prog) w 67 82 none 0 0 0 0 rwM.sl
    clear h
    go_enter Try.func28, Try.ntmps28
    go_wp2_with fail
    go_ret
    exact ⟨_, rfl, H.out, grown_refl w, fun g hg => by simp [Value.ownBlock] at hg⟩
  · obtain ⟨p', c', w1, hr, s1, g1, o1⟩ := rwM.copy h h1 hl
    have nq := Lib.run_eql_slice_nil (P := Try.prog) w 67 82 (some ⟨g, off, none⟩) k cap 0 0 rwM.sl
    have S1 := mkHid s1
    have G1 := mkHid g1
    have O1 := mkHid o1
    clear h hg hn hm s1 g1 o1
    go_enter Try.func28, Try.ntmps28
    go_wp2_with (first | (at_builtin; refine wp_app 67 rfl (.tmp 5) (.tmp 6) rfl rfl rfl hr ?_) | fail)
    go_ret
    exact ⟨_, rfl, S1.out, G1.out, O1.out⟩
set_option maxHeartbeats 1000000 in
set_option maxRecDepth 100000 in
theorem CloneP (v : Value) (k : Nat) (xs : List Value) (h : shr w 79 6 v k xs) (h1 : ∀ u ∈ xs, u.oneCell' = true) (hl : k ≤ 1000000000) : Calls Try.prog 27 #[v] w (CpQ w 79 6 k xs) := by
  rcases h.2 with ⟨rfl, rfl⟩ | ⟨g, off, cap, cur, rfl, hg, hn, hm, _, _⟩
  · have H := mkHid h
    have nq := Lib.run_eql_slice_nil (P := Try.prog) w 71 79 none 0 0 0 0 rwP.sl
    clear h
    go_enter Try.func27, Try.ntmps27
    go_wp2_with fail
    go_ret
    exact ⟨_, rfl, H.out, grown_refl w, fun g hg => by simp [Value.ownBlock] at hg⟩
  · obtain ⟨p', c', w1, hr, s1, g1, o1⟩ := rwP.copy h h1 hl
    have nq := Lib.run_eql_slice_nil (P := Try.prog) w 71 79 (some ⟨g, off, none⟩) k cap 0 0 rwP.sl
    have S1 := mkHid s1
    have G1 := mkHid g1
    have O1 := mkHid o1
    clear h hg hn hm s1 g1 o1
    go_enter Try.func27, Try.ntmps27
    go_wp2_with (first | (at_builtin; refine wp_app 71 rfl (.tmp 5) (.tmp 6) rfl rfl rfl hr ?_) | fail)
    go_ret
    exact ⟨_, rfl, S1.out, G1.out, O1.out⟩
set_option maxHeartbeats 1000000 in
set_option maxRecDepth 100000 in
theorem CloneN (v : Value) (k : Nat) (xs : List Value) (h : shr w 69 2 v k xs) (h1 : ∀ u ∈ xs, u.oneCell' = true) (hl : k ≤ 1000000000) : Calls Try.prog 26 #[v] w (CpQ w 69 2 k xs) := by
  rcases h.2 with ⟨rfl, rfl⟩ | ⟨g, off, cap, cur, rfl, hg, hn, hm, _, _⟩
  · have H := mkHid h
    have nq := Lib.run_eql_slice_nil (P := Try.prog) w 65 69 none 0 0 0 0 rwN.sl
    clear h
    go_enter Try.func26, Try.ntmps26
    go_wp2_with fail
    go_ret
    exact ⟨_, rfl, H.out, grown_refl w, fun g hg => by simp [Value.ownBlock] at hg⟩
  · obtain ⟨p', c', w1, hr, s1, g1, o1⟩ := rwN.copy h h1 hl
    have nq := Lib.run_eql_slice_nil (P := Try.prog) w 65 69 (some ⟨g, off, none⟩) k cap 0 0 rwN.sl
    have S1 := mkHid s1
    have G1 := mkHid g1
    have O1 := mkHid o1
    clear h hg hn hm s1 g1 o1
    go_enter Try.func26, Try.ntmps26
    go_wp2_with (first | (at_builtin; refine wp_app 65 rfl (.tmp 5) (.tmp 6) rfl rfl rfl hr ?_) | fail)
    go_ret
    exact ⟨_, rfl, S1.out, G1.out, O1.out⟩
end Go.Proofs.Ytpghkbbhcpcbdaa
