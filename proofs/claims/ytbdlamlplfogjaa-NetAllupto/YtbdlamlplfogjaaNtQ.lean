/-
  Walks: a message that is sent (all ways through); a packet that comes.
-/
import Derived.Test.YtbdlamlplfogjaaNtP
namespace Go.Proofs.Ytbdlamlplfogjaa
open Go.RowKit Go.Maps Go.Joins
variable {P : Nat → Prop} {w w' : World} {n c : Nat} {S : St} {L : Ly}

theorem Send_any (h : NetL P w n c S L) (f t : Int) (p : Option Addr) (l : List UInt8) (cap : Nat) (hby : bys w p l) (hcap : p = none → cap = 0) (hok : ∀ i j, (S.wy i j).b < 100000000000 ∧ (S.wy i j).t < 100000000000 ∧ (S.wy i j).us.length ≤ 4096) (hc : c ≤ 1000000000) : Calls Try.prog 14 #[.pointer (some ⟨n, 0, none⟩), .int .i64 f, .int .i64 t, .slice p l.length cap] w (ErQ P w n (c + 1) (sendT S f t ⟨l.toArray⟩) (sendE S f t l.length)) := by
  cases hf : isS S f with
  | false =>
    have e1 : sendT S f t ⟨l.toArray⟩ = S := if_neg (by rw [hf]; simp)
    have e2 : sendE S f t l.length = 60 := if_neg (by rw [hf]; simp)
    rw [e1, e2]; exact Send_no h f t _ hf
  | true =>
    by_cases ht : 0 ≤ t ∧ t < S.N
    · obtain ⟨i, rfl, hi, _⟩ := isS_in hf
      obtain ⟨j, rfl⟩ : ∃ j : Nat, t = (j : Int) := ⟨t.toNat, by omega⟩
      have e1 : sendT S (i : Int) (j : Int) ⟨l.toArray⟩ = if 65536 < l.length ∨ (S.wy i j).us.length = 4096 then S else sendS S i j ⟨l.toArray⟩ := if_pos ⟨hf, ht⟩
      have e2 : sendE S (i : Int) (j : Int) l.length = if 65536 < l.length ∨ (S.wy i j).us.length = 4096 then 2 else 0 := if_pos ⟨hf, ht⟩
      rw [e1, e2]
      by_cases hl : 65536 < l.length ∨ (S.wy i j).us.length = 4096
      · rw [if_pos hl, if_pos hl]; exact Send_long h i j p l.length cap hf (by omega) hl
      · rw [if_neg hl, if_neg hl]
        have := hok i j
        exact Send_ok h i j p l cap hf (by omega) (by omega) (by omega) hby hcap (by omega) (by omega) hc
    · have e1 : sendT S f t ⟨l.toArray⟩ = S := if_neg (fun e => ht e.2)
      have e2 : sendE S f t l.length = 60 := if_neg (fun e => ht e.2)
      rw [e1, e2]; exact Send_to h f t _ hf ht
/-- where a packet goes to -/
def pkTo (p : Pk) : Nat := if p.ack then p.f else p.t
def pkFr (p : Pk) : Nat := if p.ack then p.t else p.f
/-- whether it does something -/
def hits (S : St) (p : Pk) : Bool := decide (p.e = (S.wy p.f p.t).b + 1) && !S.dn (pkTo p)
set_option maxHeartbeats 2000000 in
set_option maxRecDepth 100000 in
theorem come_old (h : NetL P w n c S L) (p : Pk) (hf : p.f < S.N) (ht : p.t < S.N) (hb : (S.wy p.f p.t).b < 1000000000000) (he : p.e ≠ (S.wy p.f p.t).b + 1) : Calls Try.prog 54 #[.pointer (some ⟨n, 0, none⟩), pkV p] w fun e w' => e = .returned (.tuple #[]) ∧ w.grownBy w' none := by
  have h64 := h.n64
  have LK : Hid (∀ W : World, w.grownBy W none → W.cell? ⟨n, 1, none⟩ = some (.map (some L.m)) ∧ (Instr.lookup 70 (.map (some L.m)) (ky p.f p.t) false).run Try.prog W = .ok (wyV (S.wy p.f p.t) (L.uv p.f p.t)) W) := fun W gW => ⟨(h.kept gW).cs.2.1, (h.kept gW).map.look (i := p.f) (j := p.t) (by omega) (by omega)⟩
  have GB := mkHid (grown_drew (grown_al (grown_al (grown_refl w) (.cells (pkL p).toArray 79)) (.cells #[.int .u64 (S.wy p.f p.t).b, .int .u64 (S.wy p.f p.t).t, L.uv p.f p.t, .int .u64 (S.wy p.f p.t).c] 84)))
  have B1 := mkHid (al2_fst w (.cells (pkL p).toArray 79) (.cells #[.int .u64 (S.wy p.f p.t).b, .int .u64 (S.wy p.f p.t).t, L.uv p.f p.t, .int .u64 (S.wy p.f p.t).c] 84))
  have B2 := mkHid (al2_snd w (.cells (pkL p).toArray 79) (.cells #[.int .u64 (S.wy p.f p.t).b, .int .u64 (S.wy p.f p.t).t, L.uv p.f p.t, .int .u64 (S.wy p.f p.t).c] 84))
  obtain ⟨c0, c1, c2, _⟩ := h.cs
  have hn := lt_of_heap h.net
  obtain ⟨pu, cu, hu, _⟩ := (h.uns p.f p.t hf ht).form
  have EP := mkHid (fun w => epoch_any (S.wy p.f p.t) (L.uv p.f p.t) w hb)
  unfold wyV at EP
  have he2 : ((p.e : Int) == (((S.wy p.f p.t).b + 1 : Nat) : Int)) = false := by rw [beq_eq_false_iff_ne]; omega
  unfold ky wyV at LK
  unfold pkV
  unfold pkL at GB B1 B2
  rw [hu] at LK GB EP B1 B2
  clear h hu
  go_enter Try.func54, Try.ntmps54
  go_wp2_with fail
  refine wp_region_noPanic ?_
  refine wp_region_held_drew (S := fun w' => w.grownBy w' none ∧ w'.heap[w.heap.size]? = some (.cells #[.int .i64 p.f, .int .i64 p.t, .bool p.ack, .int .u64 p.s, .int .u64 p.e, .string p.x] 79 (0, 0))) (by kernel_rfl) (⟨grown_drew (grown_al (grown_refl w) _), heap_alloc_new w _⟩) (fun hL0 => ?_)
  refine take_at (i := 0) (v := .pointer (some ⟨n, 0, none⟩)) rfl rfl (by kernel_rfl) (by kernel_rfl) (by kernel_rfl) (fun _ _ _ h => h) (Or.inl ⟨by rfl, ?_⟩) hL0 ?_
  · intro w hSw; (try dsimp only at hSw); obtain ⟨gS, x6⟩ := hSw; obtain ⟨q1, q2⟩ := LK.out _ gS; obtain ⟨a0, a1, a2, a3, a4, a5, _⟩ := cells6 x6; go_simp
  simp only [List.setIfInBounds_toArray, List.set_cons_zero, List.set_cons_succ]
  refine take_at (i := 1) (v := .pointer (some ⟨n, 0, none⟩)) rfl rfl (by kernel_rfl) (by kernel_rfl) (by kernel_rfl) (fun _ _ _ h => h) (Or.inl ⟨by rfl, ?_⟩) hL0 ?_
  · intro w hSw; (try dsimp only at hSw); obtain ⟨gS, x6⟩ := hSw; obtain ⟨q1, q2⟩ := LK.out _ gS; obtain ⟨a0, a1, a2, a3, a4, a5, _⟩ := cells6 x6; go_simp
  simp only [List.setIfInBounds_toArray, List.set_cons_zero, List.set_cons_succ]
  refine take_at (i := 2) (v := .pointer (some ⟨n, 1, none⟩)) rfl rfl (by kernel_rfl) (by kernel_rfl) (by kernel_rfl) (fun _ _ _ h => h) (Or.inl ⟨by rfl, ?_⟩) hL0 ?_
  · intro w hSw; (try dsimp only at hSw); obtain ⟨gS, x6⟩ := hSw; obtain ⟨q1, q2⟩ := LK.out _ gS; obtain ⟨a0, a1, a2, a3, a4, a5, _⟩ := cells6 x6; go_simp
  simp only [List.setIfInBounds_toArray, List.set_cons_zero, List.set_cons_succ]
  refine take_at (i := 3) (v := .map (some L.m)) rfl rfl (by kernel_rfl) (by kernel_rfl) (by kernel_rfl) (fun _ _ _ h => h) (Or.inl ⟨by rfl, ?_⟩) hL0 ?_
  · intro w hSw; (try dsimp only at hSw); obtain ⟨gS, x6⟩ := hSw; obtain ⟨q1, q2⟩ := LK.out _ gS; obtain ⟨a0, a1, a2, a3, a4, a5, _⟩ := cells6 x6; go_simp
  simp only [List.setIfInBounds_toArray, List.set_cons_zero, List.set_cons_succ]
  refine take_at (i := 4) (v := .pointer (some ⟨w.heap.size, 0, none⟩)) rfl rfl (by kernel_rfl) (by kernel_rfl) (by kernel_rfl) (fun _ _ _ h => h) (Or.inl ⟨by rfl, ?_⟩) hL0 ?_
  · intro w hSw; (try dsimp only at hSw); obtain ⟨gS, x6⟩ := hSw; obtain ⟨q1, q2⟩ := LK.out _ gS; obtain ⟨a0, a1, a2, a3, a4, a5, _⟩ := cells6 x6; go_simp
  simp only [List.setIfInBounds_toArray, List.set_cons_zero, List.set_cons_succ]
  refine take_at (i := 5) (v := .agg #[.int .i64 p.f, .int .i64 p.t]) rfl rfl (by kernel_rfl) (by kernel_rfl) (by kernel_rfl) (fun _ _ _ h => h) (Or.inl ⟨by rfl, ?_⟩) hL0 ?_
  · intro w hSw; (try dsimp only at hSw); obtain ⟨gS, x6⟩ := hSw; obtain ⟨q1, q2⟩ := LK.out _ gS; obtain ⟨a0, a1, a2, a3, a4, a5, _⟩ := cells6 x6; go_simp
  simp only [List.setIfInBounds_toArray, List.set_cons_zero, List.set_cons_succ]
  refine take_at (i := 6) (v := .agg #[.int .u64 (S.wy p.f p.t).b, .int .u64 (S.wy p.f p.t).t, .slice pu (S.wy p.f p.t).us.length cu, .int .u64 (S.wy p.f p.t).c]) rfl rfl (by kernel_rfl) (by kernel_rfl) (by kernel_rfl) (fun _ _ _ h => h) (Or.inl ⟨by rfl, ?_⟩) hL0 ?_
  · intro w hSw; (try dsimp only at hSw); obtain ⟨gS, x6⟩ := hSw; obtain ⟨q1, q2⟩ := LK.out _ gS; obtain ⟨a0, a1, a2, a3, a4, a5, _⟩ := cells6 x6; go_simp
  simp only [List.setIfInBounds_toArray, List.set_cons_zero, List.set_cons_succ]
  refine wpAnyH_ready (rs := [7]) (by kernel_rfl) (by simp) ?_
  refine AllReadyH.cons rfl (fun K hK => ?_) AllReadyH.nil
  go_simp
  refine hK.out _ _ ⟨grown_drew (grown_al (grown_al (grown_refl w) _) _), al2_fst w _ _⟩ (fun hL1 => ?_)
  clear hK K
  refine wpAnyH_ready (rs := [8]) (by kernel_rfl) (by simp) ?_
  refine AllReadyH.cons rfl (fun K hK => ?_) AllReadyH.nil
  go_simp
  refine hK.out _ _ ⟨grown_drew (grown_al (grown_al (grown_refl w) _) _), al2_fst w _ _⟩ (fun hL2 => ?_)
  clear hK K
  refine wpAnyH_done (by kernel_rfl) ?_ _
  refine NoPanic.normal ?_
  clear hL0 hL1 hL2
  go_wp2_with fail
  refine wp_region_noPanic ?_
  refine wp_region_held_drew (S := fun w' => w.grownBy w' none ∧ w'.heap[w.heap.size]? = some (.cells #[.int .i64 p.f, .int .i64 p.t, .bool p.ack, .int .u64 p.s, .int .u64 p.e, .string p.x] 79 (0, 0)) ∧ w'.heap[w.heap.size + 1]? = some (.cells #[.int .u64 (S.wy p.f p.t).b, .int .u64 (S.wy p.f p.t).t, .slice pu (S.wy p.f p.t).us.length cu, .int .u64 (S.wy p.f p.t).c] 84 (0, 0))) (by kernel_rfl) (⟨grown_drew GB.out, B1.out, B2.out⟩) (fun hH0 => ?_)
  refine take_at (i := 0) (v := .pointer (some ⟨w.heap.size, 4, none⟩)) rfl rfl (by kernel_rfl) (by kernel_rfl) (by kernel_rfl) (fun _ _ _ h => h) (Or.inl ⟨by rfl, ?_⟩) hH0 ?_
  · intro w hSw; (try dsimp only at hSw); obtain ⟨_, x6, x4⟩ := hSw; obtain ⟨a0, a1, a2, a3, a4, a5, _⟩ := cells6 x6; obtain ⟨d0, d1, d2, d3, _⟩ := cells4 x4; go_simp
  simp only [List.setIfInBounds_toArray, List.set_cons_zero, List.set_cons_succ]
  refine take_at (i := 1) (v := .int .u64 p.e) rfl rfl (by kernel_rfl) (by kernel_rfl) (by kernel_rfl) (fun _ _ _ h => h) (Or.inl ⟨by rfl, ?_⟩) hH0 ?_
  · intro w hSw; (try dsimp only at hSw); obtain ⟨_, x6, x4⟩ := hSw; obtain ⟨a0, a1, a2, a3, a4, a5, _⟩ := cells6 x6; obtain ⟨d0, d1, d2, d3, _⟩ := cells4 x4; go_simp
  simp only [List.setIfInBounds_toArray, List.set_cons_zero, List.set_cons_succ]
  refine take_at (i := 2) (v := .agg #[.int .u64 (S.wy p.f p.t).b, .int .u64 (S.wy p.f p.t).t, .slice pu (S.wy p.f p.t).us.length cu, .int .u64 (S.wy p.f p.t).c]) rfl rfl (by kernel_rfl) (by kernel_rfl) (by kernel_rfl) (fun _ _ _ h => h) (Or.inl ⟨by rfl, ?_⟩) hH0 ?_
  · intro w hSw; (try dsimp only at hSw); obtain ⟨_, x6, x4⟩ := hSw; obtain ⟨a0, a1, a2, a3, a4, a5, _⟩ := cells6 x6; obtain ⟨d0, d1, d2, d3, _⟩ := cells4 x4; go_simp
  simp only [List.setIfInBounds_toArray, List.set_cons_zero, List.set_cons_succ]
  refine wpAnyH_ready (rs := [3]) (by kernel_rfl) (by simp) ?_
  refine AllReadyH.cons rfl (fun K hK => ?_) AllReadyH.nil
  go_simp
  go_at_call 50
  refine (EP.out _).mono ?_
  rintro e w7 ⟨rfl, g7⟩
  have s7 : (fun w' => w.grownBy w' none ∧ w'.heap[w.heap.size]? = some (.cells #[.int .i64 p.f, .int .i64 p.t, .bool p.ack, .int .u64 p.s, .int .u64 p.e, .string p.x] 79 (0, 0)) ∧ w'.heap[w.heap.size + 1]? = some (.cells #[.int .u64 (S.wy p.f p.t).b, .int .u64 (S.wy p.f p.t).t, .slice pu (S.wy p.f p.t).us.length cu, .int .u64 (S.wy p.f p.t).c] 84 (0, 0))) w7 := ⟨grown_none_trans hH0.1 g7, box_keep hH0.2.1 g7 (by simp), box_keep hH0.2.2 g7 (by simp)⟩
  go_wp2_with fail
  refine hK.out _ _ s7 (fun hH1 => ?_)
  clear hK K s7
  refine take_at (i := 4) (v := .bool true) rfl rfl (by kernel_rfl) (by kernel_rfl) (by kernel_rfl) (fun _ _ _ h => h) (Or.inl ⟨by rfl, ?_⟩) hH1 ?_
  · intro w hSw; (try dsimp only at hSw); obtain ⟨_, x6, x4⟩ := hSw; obtain ⟨a0, a1, a2, a3, a4, a5, _⟩ := cells6 x6; obtain ⟨d0, d1, d2, d3, _⟩ := cells4 x4; go_simp; omega
  simp only [List.setIfInBounds_toArray, List.set_cons_zero, List.set_cons_succ]
  refine take_at (i := 5) (v := .bool true) rfl rfl (by kernel_rfl) (by kernel_rfl) (by kernel_rfl) (fun _ _ _ h => h) (Or.inl ⟨by rfl, ?_⟩) hH1 ?_
  · intro w hSw; (try dsimp only at hSw); obtain ⟨_, x6, x4⟩ := hSw; obtain ⟨a0, a1, a2, a3, a4, a5, _⟩ := cells6 x6; obtain ⟨d0, d1, d2, d3, _⟩ := cells4 x4; go_simp
  simp only [List.setIfInBounds_toArray, List.set_cons_zero, List.set_cons_succ]
  refine take_at (i := 6) (v := undef) rfl rfl (by kernel_rfl) (by kernel_rfl) (by kernel_rfl) (fun _ _ _ h => h) (Or.inr ⟨by rfl, rfl⟩) hH1 ?_
  simp only [List.setIfInBounds_toArray, List.set_cons_zero, List.set_cons_succ]
  refine take_at (i := 7) (v := undef) rfl rfl (by kernel_rfl) (by kernel_rfl) (by kernel_rfl) (fun _ _ _ h => h) (Or.inr ⟨by rfl, rfl⟩) hH1 ?_
  simp only [List.setIfInBounds_toArray, List.set_cons_zero, List.set_cons_succ]
  refine take_at (i := 8) (v := undef) rfl rfl (by kernel_rfl) (by kernel_rfl) (by kernel_rfl) (fun _ _ _ h => h) (Or.inr ⟨by rfl, rfl⟩) hH1 ?_
  simp only [List.setIfInBounds_toArray, List.set_cons_zero, List.set_cons_succ]
  refine take_at (i := 9) (v := undef) rfl rfl (by kernel_rfl) (by kernel_rfl) (by kernel_rfl) (fun _ _ _ h => h) (Or.inr ⟨by rfl, rfl⟩) hH1 ?_
  simp only [List.setIfInBounds_toArray, List.set_cons_zero, List.set_cons_succ]
  refine take_at (i := 10) (v := undef) rfl rfl (by kernel_rfl) (by kernel_rfl) (by kernel_rfl) (fun _ _ _ h => h) (Or.inr ⟨by rfl, rfl⟩) hH1 ?_
  simp only [List.setIfInBounds_toArray, List.set_cons_zero, List.set_cons_succ]
  refine take_at (i := 11) (v := undef) rfl rfl (by kernel_rfl) (by kernel_rfl) (by kernel_rfl) (fun _ _ _ h => h) (Or.inr ⟨by rfl, rfl⟩) hH1 ?_
  simp only [List.setIfInBounds_toArray, List.set_cons_zero, List.set_cons_succ]
  refine take_at (i := 12) (v := .bool true) rfl rfl (by kernel_rfl) (by kernel_rfl) (by kernel_rfl) (fun _ _ _ h => h) (Or.inl ⟨by rfl, ?_⟩) hH1 ?_
  · intro w hSw; (try dsimp only at hSw); obtain ⟨_, x6, x4⟩ := hSw; obtain ⟨a0, a1, a2, a3, a4, a5, _⟩ := cells6 x6; obtain ⟨d0, d1, d2, d3, _⟩ := cells4 x4; go_simp
  simp only [List.setIfInBounds_toArray, List.set_cons_zero, List.set_cons_succ]
  refine wpAnyH_done (by kernel_rfl) ?_ _
  refine NoPanic.normal ?_
  have G7 := mkHid hH1.1
  clear hH1 hH0 g7
  go_wp2_with fail
  refine bodyPost_ret (results_none rfl _ _ _) rfl ?_
  exact ⟨rfl, G7.out⟩
set_option maxHeartbeats 2000000 in
set_option maxRecDepth 100000 in
theorem come_down (h : NetL P w n c S L) (p : Pk) (hf : p.f < S.N) (ht : p.t < S.N) (hb : (S.wy p.f p.t).b < 1000000000000) (he : p.e = (S.wy p.f p.t).b + 1) (hdn : S.dn (pkTo p) = true) : Calls Try.prog 54 #[.pointer (some ⟨n, 0, none⟩), pkV p] w fun e w' => e = .returned (.tuple #[]) ∧ w.grownBy w' none := by
  have h64 := h.n64
  have LK : Hid (∀ W : World, w.grownBy W none → W.cell? ⟨n, 1, none⟩ = some (.map (some L.m)) ∧ (Instr.lookup 70 (.map (some L.m)) (ky p.f p.t) false).run Try.prog W = .ok (wyV (S.wy p.f p.t) (L.uv p.f p.t)) W) := fun W gW => ⟨(h.kept gW).cs.2.1, (h.kept gW).map.look (i := p.f) (j := p.t) (by omega) (by omega)⟩
  have GB := mkHid (grown_drew (grown_al (grown_al (grown_refl w) (.cells (pkL p).toArray 79)) (.cells #[.int .u64 (S.wy p.f p.t).b, .int .u64 (S.wy p.f p.t).t, L.uv p.f p.t, .int .u64 (S.wy p.f p.t).c] 84)))
  have B1 := mkHid (al2_fst w (.cells (pkL p).toArray 79) (.cells #[.int .u64 (S.wy p.f p.t).b, .int .u64 (S.wy p.f p.t).t, L.uv p.f p.t, .int .u64 (S.wy p.f p.t).c] 84))
  have B2 := mkHid (al2_snd w (.cells (pkL p).toArray 79) (.cells #[.int .u64 (S.wy p.f p.t).b, .int .u64 (S.wy p.f p.t).t, L.uv p.f p.t, .int .u64 (S.wy p.f p.t).c] 84))
  obtain ⟨c0, c1, c2, _⟩ := h.cs
  have hn := lt_of_heap h.net
  obtain ⟨pu, cu, hu, _⟩ := (h.uns p.f p.t hf ht).form
  have EP := mkHid (fun w => epoch_any (S.wy p.f p.t) (L.uv p.f p.t) w hb)
  unfold wyV at EP
  have he2 : ((p.e : Int) == (((S.wy p.f p.t).b + 1 : Nat) : Int)) = true := by rw [he]; simp
  have HE := mkHid he
  have hto : pkTo p < S.N := by unfold pkTo; split <;> omega
  have IS := mkHid (fun (W : World) (gW : w.grownBy W none) => Is_any (h.kept gW) (pkTo p : Int))
  have eI : isS S (pkTo p : Int) = !S.dn (pkTo p) := by
    unfold isS
    rw [decide_eq_true (by omega), Bool.true_and]; rfl
  rw [eI, hdn] at IS
  have GO : Hid (∀ w, Calls Try.prog 46 #[.agg #[.int .i64 p.f, .int .i64 p.t, .bool p.ack, .int .u64 p.s, .int .u64 p.e, .string p.x]] w fun e w' => e = .returned (.agg #[.int .i64 (pkFr p), .int .i64 (pkTo p)]) ∧ w.grownBy w' none) := fun w => by
    have := goes_any p w
    unfold pkV ky at this
    exact this
  unfold ky wyV at LK
  unfold pkV
  unfold pkL at GB B1 B2
  rw [hu] at LK GB EP B1 B2
  clear h hu he
  go_enter Try.func54, Try.ntmps54
  go_wp2_with fail
  refine wp_region_noPanic ?_
  refine wp_region_held_drew (S := fun w' => w.grownBy w' none ∧ w'.heap[w.heap.size]? = some (.cells #[.int .i64 p.f, .int .i64 p.t, .bool p.ack, .int .u64 p.s, .int .u64 p.e, .string p.x] 79 (0, 0))) (by kernel_rfl) (⟨grown_drew (grown_al (grown_refl w) _), heap_alloc_new w _⟩) (fun hL0 => ?_)
  refine take_at (i := 0) (v := .pointer (some ⟨n, 0, none⟩)) rfl rfl (by kernel_rfl) (by kernel_rfl) (by kernel_rfl) (fun _ _ _ h => h) (Or.inl ⟨by rfl, ?_⟩) hL0 ?_
  · intro w hSw; (try dsimp only at hSw); obtain ⟨gS, x6⟩ := hSw; obtain ⟨q1, q2⟩ := LK.out _ gS; obtain ⟨a0, a1, a2, a3, a4, a5, _⟩ := cells6 x6; go_simp
  simp only [List.setIfInBounds_toArray, List.set_cons_zero, List.set_cons_succ]
  refine take_at (i := 1) (v := .pointer (some ⟨n, 0, none⟩)) rfl rfl (by kernel_rfl) (by kernel_rfl) (by kernel_rfl) (fun _ _ _ h => h) (Or.inl ⟨by rfl, ?_⟩) hL0 ?_
  · intro w hSw; (try dsimp only at hSw); obtain ⟨gS, x6⟩ := hSw; obtain ⟨q1, q2⟩ := LK.out _ gS; obtain ⟨a0, a1, a2, a3, a4, a5, _⟩ := cells6 x6; go_simp
  simp only [List.setIfInBounds_toArray, List.set_cons_zero, List.set_cons_succ]
  refine take_at (i := 2) (v := .pointer (some ⟨n, 1, none⟩)) rfl rfl (by kernel_rfl) (by kernel_rfl) (by kernel_rfl) (fun _ _ _ h => h) (Or.inl ⟨by rfl, ?_⟩) hL0 ?_
  · intro w hSw; (try dsimp only at hSw); obtain ⟨gS, x6⟩ := hSw; obtain ⟨q1, q2⟩ := LK.out _ gS; obtain ⟨a0, a1, a2, a3, a4, a5, _⟩ := cells6 x6; go_simp
  simp only [List.setIfInBounds_toArray, List.set_cons_zero, List.set_cons_succ]
  refine take_at (i := 3) (v := .map (some L.m)) rfl rfl (by kernel_rfl) (by kernel_rfl) (by kernel_rfl) (fun _ _ _ h => h) (Or.inl ⟨by rfl, ?_⟩) hL0 ?_
  · intro w hSw; (try dsimp only at hSw); obtain ⟨gS, x6⟩ := hSw; obtain ⟨q1, q2⟩ := LK.out _ gS; obtain ⟨a0, a1, a2, a3, a4, a5, _⟩ := cells6 x6; go_simp
  simp only [List.setIfInBounds_toArray, List.set_cons_zero, List.set_cons_succ]
  refine take_at (i := 4) (v := .pointer (some ⟨w.heap.size, 0, none⟩)) rfl rfl (by kernel_rfl) (by kernel_rfl) (by kernel_rfl) (fun _ _ _ h => h) (Or.inl ⟨by rfl, ?_⟩) hL0 ?_
  · intro w hSw; (try dsimp only at hSw); obtain ⟨gS, x6⟩ := hSw; obtain ⟨q1, q2⟩ := LK.out _ gS; obtain ⟨a0, a1, a2, a3, a4, a5, _⟩ := cells6 x6; go_simp
  simp only [List.setIfInBounds_toArray, List.set_cons_zero, List.set_cons_succ]
  refine take_at (i := 5) (v := .agg #[.int .i64 p.f, .int .i64 p.t]) rfl rfl (by kernel_rfl) (by kernel_rfl) (by kernel_rfl) (fun _ _ _ h => h) (Or.inl ⟨by rfl, ?_⟩) hL0 ?_
  · intro w hSw; (try dsimp only at hSw); obtain ⟨gS, x6⟩ := hSw; obtain ⟨q1, q2⟩ := LK.out _ gS; obtain ⟨a0, a1, a2, a3, a4, a5, _⟩ := cells6 x6; go_simp
  simp only [List.setIfInBounds_toArray, List.set_cons_zero, List.set_cons_succ]
  refine take_at (i := 6) (v := .agg #[.int .u64 (S.wy p.f p.t).b, .int .u64 (S.wy p.f p.t).t, .slice pu (S.wy p.f p.t).us.length cu, .int .u64 (S.wy p.f p.t).c]) rfl rfl (by kernel_rfl) (by kernel_rfl) (by kernel_rfl) (fun _ _ _ h => h) (Or.inl ⟨by rfl, ?_⟩) hL0 ?_
  · intro w hSw; (try dsimp only at hSw); obtain ⟨gS, x6⟩ := hSw; obtain ⟨q1, q2⟩ := LK.out _ gS; obtain ⟨a0, a1, a2, a3, a4, a5, _⟩ := cells6 x6; go_simp
  simp only [List.setIfInBounds_toArray, List.set_cons_zero, List.set_cons_succ]
  refine wpAnyH_ready (rs := [7]) (by kernel_rfl) (by simp) ?_
  refine AllReadyH.cons rfl (fun K hK => ?_) AllReadyH.nil
  go_simp
  refine hK.out _ _ ⟨grown_drew (grown_al (grown_al (grown_refl w) _) _), al2_fst w _ _⟩ (fun hL1 => ?_)
  clear hK K
  refine wpAnyH_ready (rs := [8]) (by kernel_rfl) (by simp) ?_
  refine AllReadyH.cons rfl (fun K hK => ?_) AllReadyH.nil
  go_simp
  refine hK.out _ _ ⟨grown_drew (grown_al (grown_al (grown_refl w) _) _), al2_fst w _ _⟩ (fun hL2 => ?_)
  clear hK K
  refine wpAnyH_done (by kernel_rfl) ?_ _
  refine NoPanic.normal ?_
  clear hL0 hL1 hL2
  go_wp2_with fail
  refine wp_region_noPanic ?_
  refine wp_region_held_drew (S := fun w' => w.grownBy w' none ∧ w'.heap[w.heap.size]? = some (.cells #[.int .i64 p.f, .int .i64 p.t, .bool p.ack, .int .u64 p.s, .int .u64 p.e, .string p.x] 79 (0, 0)) ∧ w'.heap[w.heap.size + 1]? = some (.cells #[.int .u64 (S.wy p.f p.t).b, .int .u64 (S.wy p.f p.t).t, .slice pu (S.wy p.f p.t).us.length cu, .int .u64 (S.wy p.f p.t).c] 84 (0, 0))) (by kernel_rfl) (⟨grown_drew GB.out, B1.out, B2.out⟩) (fun hH0 => ?_)
  refine take_at (i := 0) (v := .pointer (some ⟨w.heap.size, 4, none⟩)) rfl rfl (by kernel_rfl) (by kernel_rfl) (by kernel_rfl) (fun _ _ _ h => h) (Or.inl ⟨by rfl, ?_⟩) hH0 ?_
  · intro w hSw; (try dsimp only at hSw); obtain ⟨_, x6, x4⟩ := hSw; obtain ⟨a0, a1, a2, a3, a4, a5, _⟩ := cells6 x6; obtain ⟨d0, d1, d2, d3, _⟩ := cells4 x4; go_simp
  simp only [List.setIfInBounds_toArray, List.set_cons_zero, List.set_cons_succ]
  refine take_at (i := 1) (v := .int .u64 p.e) rfl rfl (by kernel_rfl) (by kernel_rfl) (by kernel_rfl) (fun _ _ _ h => h) (Or.inl ⟨by rfl, ?_⟩) hH0 ?_
  · intro w hSw; (try dsimp only at hSw); obtain ⟨_, x6, x4⟩ := hSw; obtain ⟨a0, a1, a2, a3, a4, a5, _⟩ := cells6 x6; obtain ⟨d0, d1, d2, d3, _⟩ := cells4 x4; go_simp
  simp only [List.setIfInBounds_toArray, List.set_cons_zero, List.set_cons_succ]
  refine take_at (i := 2) (v := .agg #[.int .u64 (S.wy p.f p.t).b, .int .u64 (S.wy p.f p.t).t, .slice pu (S.wy p.f p.t).us.length cu, .int .u64 (S.wy p.f p.t).c]) rfl rfl (by kernel_rfl) (by kernel_rfl) (by kernel_rfl) (fun _ _ _ h => h) (Or.inl ⟨by rfl, ?_⟩) hH0 ?_
  · intro w hSw; (try dsimp only at hSw); obtain ⟨_, x6, x4⟩ := hSw; obtain ⟨a0, a1, a2, a3, a4, a5, _⟩ := cells6 x6; obtain ⟨d0, d1, d2, d3, _⟩ := cells4 x4; go_simp
  simp only [List.setIfInBounds_toArray, List.set_cons_zero, List.set_cons_succ]
  refine wpAnyH_ready (rs := [3]) (by kernel_rfl) (by simp) ?_
  refine AllReadyH.cons rfl (fun K hK => ?_) AllReadyH.nil
  go_simp
  go_at_call 50
  refine (EP.out _).mono ?_
  rintro e w7 ⟨rfl, g7⟩
  have s7 : (fun w' => w.grownBy w' none ∧ w'.heap[w.heap.size]? = some (.cells #[.int .i64 p.f, .int .i64 p.t, .bool p.ack, .int .u64 p.s, .int .u64 p.e, .string p.x] 79 (0, 0)) ∧ w'.heap[w.heap.size + 1]? = some (.cells #[.int .u64 (S.wy p.f p.t).b, .int .u64 (S.wy p.f p.t).t, .slice pu (S.wy p.f p.t).us.length cu, .int .u64 (S.wy p.f p.t).c] 84 (0, 0))) w7 := ⟨grown_none_trans hH0.1 g7, box_keep hH0.2.1 g7 (by simp), box_keep hH0.2.2 g7 (by simp)⟩
  go_wp2_with fail
  refine hK.out _ _ s7 (fun hH1 => ?_)
  clear hK K s7
  refine take_at (i := 4) (v := .bool false) rfl rfl (by kernel_rfl) (by kernel_rfl) (by kernel_rfl) (fun _ _ _ h => h) (Or.inl ⟨by rfl, ?_⟩) hH1 ?_
  · intro w hSw; (try dsimp only at hSw); obtain ⟨_, x6, x4⟩ := hSw; obtain ⟨a0, a1, a2, a3, a4, a5, _⟩ := cells6 x6; obtain ⟨d0, d1, d2, d3, _⟩ := cells4 x4; go_simp; have := HE.out; omega
  simp only [List.setIfInBounds_toArray, List.set_cons_zero, List.set_cons_succ]
  refine take_at (i := 5) (v := .bool false) rfl rfl (by kernel_rfl) (by kernel_rfl) (by kernel_rfl) (fun _ _ _ h => h) (Or.inl ⟨by rfl, ?_⟩) hH1 ?_
  · intro w hSw; (try dsimp only at hSw); obtain ⟨_, x6, x4⟩ := hSw; obtain ⟨a0, a1, a2, a3, a4, a5, _⟩ := cells6 x6; obtain ⟨d0, d1, d2, d3, _⟩ := cells4 x4; go_simp
  simp only [List.setIfInBounds_toArray, List.set_cons_zero, List.set_cons_succ]
  refine take_at (i := 6) (v := .pointer (some ⟨n, 0, none⟩)) rfl rfl (by kernel_rfl) (by kernel_rfl) (by kernel_rfl) (fun _ _ _ h => h) (Or.inl ⟨by rfl, ?_⟩) hH1 ?_
  · intro w hSw; (try dsimp only at hSw); obtain ⟨_, x6, x4⟩ := hSw; obtain ⟨a0, a1, a2, a3, a4, a5, _⟩ := cells6 x6; obtain ⟨d0, d1, d2, d3, _⟩ := cells4 x4; go_simp
  simp only [List.setIfInBounds_toArray, List.set_cons_zero, List.set_cons_succ]
  refine take_at (i := 7) (v := .agg #[.int .i64 p.f, .int .i64 p.t, .bool p.ack, .int .u64 p.s, .int .u64 p.e, .string p.x]) rfl rfl (by kernel_rfl) (by kernel_rfl) (by kernel_rfl) (fun _ _ _ h => h) (Or.inl ⟨by rfl, ?_⟩) hH1 ?_
  · intro w hSw; (try dsimp only at hSw); obtain ⟨_, x6, x4⟩ := hSw; obtain ⟨a0, a1, a2, a3, a4, a5, _⟩ := cells6 x6; obtain ⟨d0, d1, d2, d3, _⟩ := cells4 x4; go_simp
  simp only [List.setIfInBounds_toArray, List.set_cons_zero, List.set_cons_succ]
  refine wpAnyH_ready (rs := [8]) (by kernel_rfl) (by simp) ?_
  refine AllReadyH.cons rfl (fun K hK => ?_) AllReadyH.nil
  go_simp
  go_at_call 46
  refine (GO.out _).mono ?_
  rintro e w8 ⟨rfl, g8⟩
  have s8 : (fun w' => w.grownBy w' none ∧ w'.heap[w.heap.size]? = some (.cells #[.int .i64 p.f, .int .i64 p.t, .bool p.ack, .int .u64 p.s, .int .u64 p.e, .string p.x] 79 (0, 0)) ∧ w'.heap[w.heap.size + 1]? = some (.cells #[.int .u64 (S.wy p.f p.t).b, .int .u64 (S.wy p.f p.t).t, .slice pu (S.wy p.f p.t).us.length cu, .int .u64 (S.wy p.f p.t).c] 84 (0, 0))) w8 := ⟨grown_none_trans hH1.1 g8, box_keep hH1.2.1 g8 (by simp), box_keep hH1.2.2 g8 (by simp)⟩
  go_wp2_with fail
  refine hK.out _ _ s8 (fun hH2 => ?_)
  clear hK K s8
  refine take_at (i := 9) (v := .int .i64 (pkTo p)) rfl rfl (by kernel_rfl) (by kernel_rfl) (by kernel_rfl) (fun _ _ _ h => h) (Or.inl ⟨by rfl, ?_⟩) hH2 ?_
  · intro w hSw; (try dsimp only at hSw); obtain ⟨_, x6, x4⟩ := hSw; have fe := fieldE (pkFr p) (pkTo p) w; go_simp
  simp only [List.setIfInBounds_toArray, List.set_cons_zero, List.set_cons_succ]
  refine wpAnyH_ready (rs := [10]) (by kernel_rfl) (by simp) ?_
  refine AllReadyH.cons rfl (fun K hK => ?_) AllReadyH.nil
  go_simp
  go_at_call 20
  refine (IS.out w8 hH2.1).mono ?_
  rintro e w9 ⟨rfl, hwx⟩; have hwx2 := hwx.symm; subst hwx2; clear hwx
  go_wp2_with fail
  refine hK.out _ _ hH2 (fun hH3 => ?_)
  clear hK K
  refine take_at (i := 11) (v := .bool true) rfl rfl (by kernel_rfl) (by kernel_rfl) (by kernel_rfl) (fun _ _ _ h => h) (Or.inl ⟨by rfl, ?_⟩) hH3 ?_
  · intro w hSw; (try dsimp only at hSw); obtain ⟨_, x6, x4⟩ := hSw; obtain ⟨a0, a1, a2, a3, a4, a5, _⟩ := cells6 x6; obtain ⟨d0, d1, d2, d3, _⟩ := cells4 x4; go_simp
  simp only [List.setIfInBounds_toArray, List.set_cons_zero, List.set_cons_succ]
  refine take_at (i := 12) (v := .bool true) rfl rfl (by kernel_rfl) (by kernel_rfl) (by kernel_rfl) (fun _ _ _ h => h) (Or.inl ⟨by rfl, ?_⟩) hH3 ?_
  · intro w hSw; (try dsimp only at hSw); obtain ⟨_, x6, x4⟩ := hSw; obtain ⟨a0, a1, a2, a3, a4, a5, _⟩ := cells6 x6; obtain ⟨d0, d1, d2, d3, _⟩ := cells4 x4; go_simp
  simp only [List.setIfInBounds_toArray, List.set_cons_zero, List.set_cons_succ]
  refine wpAnyH_done (by kernel_rfl) ?_ _
  refine NoPanic.normal ?_
  have G7 := mkHid hH3.1
  have X6 := mkHid hH3.2.1
  have X4 := mkHid hH3.2.2
  clear hH0 hH1 hH2 hH3 g7 g8
  go_wp2_with fail
  refine bodyPost_ret (results_none rfl _ _ _) rfl ?_
  exact ⟨rfl, G7.out⟩
end Go.Proofs.Ytbdlamlplfogjaa
