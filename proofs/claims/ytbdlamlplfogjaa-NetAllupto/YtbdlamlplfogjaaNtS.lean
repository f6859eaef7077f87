/-
  Walks: a packet that comes, and is the next one.
-/
import Derived.Test.YtbdlamlplfogjaaNtR
namespace Go.Proofs.Ytbdlamlplfogjaa
open Go.RowKit Go.Maps Go.Joins
variable {P : Nat → Prop} {w w' : World} {n c : Nat} {S : St} {L : Ly}

/-- a message more waits at a node, laid ahead -/
theorem NetL.msg_run (h : NetL P w n c S L) {j : Nat} (hj : j < S.N) (f : Nat) (x : ByteArray) (hl : (S.ms j).length ≤ 900000000) {W : World} (g0 : w.grownBy W none) {g : Nat} (hg : W.heap[g]? = some (.cells #[.int .i64 f, .string x] 82 (0, 0))) :
    ∃ p' c' w4, (∀ ty, (Builtin.append_ #[67, 67] ty #[L.vs j, .slice (some ⟨g, 0, none⟩) 1 1]).run Try.prog W = .ok (.slice p' ((S.ms j).length + 1) c') w4) ∧ w4.cell? ⟨L.nb, j * 2 + 1, none⟩ = some (L.vs j) ∧ w4.frozen? ⟨L.nb, j * 2 + 1, none⟩ = false ∧
      UpN P w n c { S with ms := upd S.ms j (S.ms j ++ [(f, x)]) } (w4.setCell ⟨L.nb, j * 2 + 1, none⟩ (.slice p' ((S.ms j).length + 1) c')) ∧
      (∀ b o, W.heap[b]? = some o → kd W b ≠ 82 + 2 → kd W b ≠ 69 + 2 → (w4.setCell ⟨L.nb, j * 2 + 1, none⟩ (.slice p' ((S.ms j).length + 1) c')).heap[b]? = some o) := by
  have h' := h.kept g0
  obtain ⟨v4, w4, hr, s4, g4, o4⟩ := rwM.app (c := 1) (h'.wts j hj) (m := 1) (news := msL (f, x)) rfl (one_of hg) (by intro u hu; simp only [msL, List.mem_cons, List.mem_nil_iff, or_false] at hu; rcases hu with rfl | rfl <;> rfl) (by omega) (by omega)
  obtain ⟨p', c', rfl, _⟩ := s4.form
  obtain ⟨cur, hb, r1, r2, r3, r4⟩ := h'.nds
  have kne : some L.nb ≠ (L.vs j).ownBlock := fun e => by
    have := ((h'.wts j hj).kd _ e.symm).1
    rw [h'.knb] at this; simp at this
  have b3 := box_keep hb g4 kne
  have b4 : (w4.setCell ⟨L.nb, j * 2 + 1, none⟩ (.slice p' ((S.ms j).length + 1) c')).heap[L.nb]? = some (.cells (cur.setIfInBounds (j * 2 + 1) (.slice p' ((S.ms j).length + 1) c')) 69 (0, 0)) := block_setCell b3 _
  have CC : Chg (fun k => k = L.nb ∨ (L.vs j).ownBlock = some k) w (w4.setCell ⟨L.nb, j * 2 + 1, none⟩ (.slice p' ((S.ms j).length + 1) c')) := by
    have c1 : Chg (fun k => k = L.nb ∨ (L.vs j).ownBlock = some k) w w4 := (Chg.of_none g0 _).trans ((Chg.of_grown g4).mono (fun k _ hk => Or.inr hk))
    exact c1.set ⟨L.nb, j * 2 + 1, none⟩ _ (Or.inl rfl)
  have hs5 := s4.kept (Chg.of_cell w4 ⟨L.nb, j * 2 + 1, none⟩ (.slice p' ((S.ms j).length + 1) c')) (fun g hg e => by
    have e : g = L.nb := e
    have := (s4.kd g hg).1
    rw [e, kd_cells b3] at this; simp at this)
  have fin := h.node CC hj (fun k hk => hk) (d := S.dn j) (ms := S.ms j ++ [(f, x)]) (v := .slice p' ((S.ms j).length + 1) c') b4 (by simp [r3]) (by
    rw [Array.getElem?_setIfInBounds, if_neg (by omega)]; exact (r4 j hj).1) (by
    rw [Array.getElem?_setIfInBounds, if_pos rfl, if_pos (by omega)]) (fun k hk hne => by
    rw [Array.getElem?_setIfInBounds, if_neg (by omega), Array.getElem?_setIfInBounds, if_neg (by omega)]; exact r4 k hk) (by
    rw [msC_app, List.length_append]; exact hs5) (fun g hg => by
    rcases o4 with e | ⟨g', e, h1, h2⟩
    · exact Or.inl (by rw [← e]; exact hg)
    · rw [hg] at e; cases e
      exact Or.inr ⟨Nat.le_trans g0.size h1, by simpa using h2⟩)
  have e1 : upd S.dn j (S.dn j) = S.dn := by
    funext k
    by_cases e : k = j
    · rw [e, upd_same]
    · rw [upd_other _ _ e]
  rw [e1] at fin
  refine ⟨p', c', w4, hr, (cell_of_block b3 _).trans (r4 j hj).2, unfrozen_of_block b3 _, ⟨_, fin⟩, fun b o ho k1 k2 => ?_⟩
  have q := box_keep ho g4 (fun e => k1 ((h'.wts j hj).kd b e.symm).1)
  refine (heap_setCell_other w4 ⟨L.nb, j * 2 + 1, none⟩ b _ (fun e => k2 ?_)).trans q
  have e : b = L.nb := e
  rw [e]; exact h'.knb
/-- a packet that comes and is the next one -/
def nextS (S : St) (p : Pk) : St := { S with wy := upd2 S.wy p.f p.t { S.wy p.f p.t with c := (S.wy p.f p.t).c + 1 }, ms := upd S.ms p.t (S.ms p.t ++ [(p.f, p.x)]) }
set_option maxHeartbeats 2000000 in
set_option maxRecDepth 100000 in
theorem come_next (h : NetL P w n c S L) (p : Pk) (hf : p.f < S.N) (ht : p.t < S.N) (hb : (S.wy p.f p.t).b < 1000000000000) (he : p.e = (S.wy p.f p.t).b + 1) (hdn : S.dn (pkTo p) = false) (hak : p.ack = false) (hs : p.s = (S.wy p.f p.t).c + 1) (hcc : (S.wy p.f p.t).c < 1000000000000) (hml : (S.ms p.t).length ≤ 900000000) (hc : c ≤ 1000000000) : Calls Try.prog 54 #[.pointer (some ⟨n, 0, none⟩), pkV p] w fun e w' => e = .returned (.tuple #[]) ∧ UpN P w n (c + 1) (flyS (nextS S p) (ackP p ((S.wy p.f p.t).c + 1))) w' := by
  have h64 := h.n64
  have LK : Hid (∀ W : World, w.grownBy W none → W.cell? ⟨n, 1, none⟩ = some (.map (some L.m)) ∧ (Instr.lookup 70 (.map (some L.m)) (ky p.f p.t) false).run Try.prog W = .ok (wyV (S.wy p.f p.t) (L.uv p.f p.t)) W) := fun W gW => ⟨(h.kept gW).cs.2.1, (h.kept gW).map.look (i := p.f) (j := p.t) (by omega) (by omega)⟩
  have GB := mkHid (grown_drew (grown_al (grown_al (grown_refl w) (.cells (pkL p).toArray 79)) (.cells #[.int .u64 (S.wy p.f p.t).b, .int .u64 (S.wy p.f p.t).t, L.uv p.f p.t, .int .u64 (S.wy p.f p.t).c] 84)))
  have B1 := mkHid (al2_fst w (.cells (pkL p).toArray 79) (.cells #[.int .u64 (S.wy p.f p.t).b, .int .u64 (S.wy p.f p.t).t, L.uv p.f p.t, .int .u64 (S.wy p.f p.t).c] 84))
  have B2 := mkHid (al2_snd w (.cells (pkL p).toArray 79) (.cells #[.int .u64 (S.wy p.f p.t).b, .int .u64 (S.wy p.f p.t).t, L.uv p.f p.t, .int .u64 (S.wy p.f p.t).c] 84))
  obtain ⟨c0, c1, c2, _⟩ := h.cs
  have hn := lt_of_heap h.net
  obtain ⟨pu, cu, hu, _⟩ := (h.uns p.f p.t hf ht).form
  have EP := mkHid (fun w => epoch_any (S.wy p.f p.t) (L.uv p.f p.t) w hb)
  unfold wyV at EP
  have he2 : ((p.e : Int) == (((S.wy p.f p.t).b + 1 : Nat) : Int)) = true := by rw [he]; simp
  have HE := mkHid he
  have hto : pkTo p < S.N := by unfold pkTo; split <;> omega
  have IS := mkHid (fun (W : World) (gW : w.grownBy W none) => Is_any (h.kept gW) (pkTo p : Int))
  have eI : isS S (pkTo p : Int) = !S.dn (pkTo p) := by
    unfold isS
    rw [decide_eq_true (by omega), Bool.true_and]; rfl
  rw [eI, hdn] at IS
  have GO : Hid (∀ w, Calls Try.prog 46 #[.agg #[.int .i64 p.f, .int .i64 p.t, .bool p.ack, .int .u64 p.s, .int .u64 p.e, .string p.x]] w fun e w' => e = .returned (.agg #[.int .i64 (pkFr p), .int .i64 (pkTo p)]) ∧ w.grownBy w' none) := fun w => by
    have := goes_any p w
    unfold pkV ky at this
    exact this
  have HN := mkHid h
  have HU := mkHid hu
  have HAK := mkHid hak
  have hs2 : ((p.s : Int) == ((S.wy p.f p.t).c : Int) + 1) = true := by rw [hs]; simp
  unfold ky wyV at LK
  unfold pkV
  unfold pkL at GB B1 B2
  rw [hu] at LK GB EP B1 B2
  clear h hu he hak hs
  go_enter Try.func54, Try.ntmps54
  go_wp2_with fail
  refine wp_region_noPanic ?_
  refine wp_region_held_drew (S := fun w' => w.grownBy w' none ∧ w'.heap[w.heap.size]? = some (.cells #[.int .i64 p.f, .int .i64 p.t, .bool p.ack, .int .u64 p.s, .int .u64 p.e, .string p.x] 79 (0, 0))) (by kernel_rfl) (⟨grown_drew (grown_al (grown_refl w) _), heap_alloc_new w _⟩) (fun hL0 => ?_)
  refine take_at (i := 0) (v := .pointer (some ⟨n, 0, none⟩)) rfl rfl (by kernel_rfl) (by kernel_rfl) (by kernel_rfl) (fun _ _ _ h => h) (Or.inl ⟨by rfl, ?_⟩) hL0 ?_
  · intro w hSw; (try dsimp only at hSw); obtain ⟨gS, x6⟩ := hSw; obtain ⟨q1, q2⟩ := LK.out _ gS; obtain ⟨a0, a1, a2, a3, a4, a5, _⟩ := cells6 x6; go_simp
  simp only [List.setIfInBounds_toArray, List.set_cons_zero, List.set_cons_succ]
  refine take_at (i := 1) (v := .pointer (some ⟨n, 0, none⟩)) rfl rfl (by kernel_rfl) (by kernel_rfl) (by kernel_rfl) (fun _ _ _ h => h) (Or.inl ⟨by rfl, ?_⟩) hL0 ?_
  · intro w hSw; (try dsimp only at hSw); obtain ⟨gS, x6⟩ := hSw; obtain ⟨q1, q2⟩ := LK.out _ gS; obtain ⟨a0, a1, a2, a3, a4, a5, _⟩ := cells6 x6; go_simp
  simp only [List.setIfInBounds_toArray, List.set_cons_zero, List.set_cons_succ]
  refine take_at (i := 2) (v := .pointer (some ⟨n, 1, none⟩)) rfl rfl (by kernel_rfl) (by kernel_rfl) (by kernel_rfl) (fun _ _ _ h => h) (Or.inl ⟨by rfl, ?_⟩) hL0 ?_
  · intro w hSw; (try dsimp only at hSw); obtain ⟨gS, x6⟩ := hSw; obtain ⟨q1, q2⟩ := LK.out _ gS; obtain ⟨a0, a1, a2, a3, a4, a5, _⟩ := cells6 x6; go_simp
  simp only [List.setIfInBounds_toArray, List.set_cons_zero, List.set_cons_succ]
  refine take_at (i := 3) (v := .map (some L.m)) rfl rfl (by kernel_rfl) (by kernel_rfl) (by kernel_rfl) (fun _ _ _ h => h) (Or.inl ⟨by rfl, ?_⟩) hL0 ?_
  · intro w hSw; (try dsimp only at hSw); obtain ⟨gS, x6⟩ := hSw; obtain ⟨q1, q2⟩ := LK.out _ gS; obtain ⟨a0, a1, a2, a3, a4, a5, _⟩ := cells6 x6; go_simp
  simp only [List.setIfInBounds_toArray, List.set_cons_zero, List.set_cons_succ]
  refine take_at (i := 4) (v := .pointer (some ⟨w.heap.size, 0, none⟩)) rfl rfl (by kernel_rfl) (by kernel_rfl) (by kernel_rfl) (fun _ _ _ h => h) (Or.inl ⟨by rfl, ?_⟩) hL0 ?_
  · intro w hSw; (try dsimp only at hSw); obtain ⟨gS, x6⟩ := hSw; obtain ⟨q1, q2⟩ := LK.out _ gS; obtain ⟨a0, a1, a2, a3, a4, a5, _⟩ := cells6 x6; go_simp
  simp only [List.setIfInBounds_toArray, List.set_cons_zero, List.set_cons_succ]
  refine take_at (i := 5) (v := .agg #[.int .i64 p.f, .int .i64 p.t]) rfl rfl (by kernel_rfl) (by kernel_rfl) (by kernel_rfl) (fun _ _ _ h => h) (Or.inl ⟨by rfl, ?_⟩) hL0 ?_
  · intro w hSw; (try dsimp only at hSw); obtain ⟨gS, x6⟩ := hSw; obtain ⟨q1, q2⟩ := LK.out _ gS; obtain ⟨a0, a1, a2, a3, a4, a5, _⟩ := cells6 x6; go_simp
  simp only [List.setIfInBounds_toArray, List.set_cons_zero, List.set_cons_succ]
  refine take_at (i := 6) (v := .agg #[.int .u64 (S.wy p.f p.t).b, .int .u64 (S.wy p.f p.t).t, .slice pu (S.wy p.f p.t).us.length cu, .int .u64 (S.wy p.f p.t).c]) rfl rfl (by kernel_rfl) (by kernel_rfl) (by kernel_rfl) (fun _ _ _ h => h) (Or.inl ⟨by rfl, ?_⟩) hL0 ?_
  · intro w hSw; (try dsimp only at hSw); obtain ⟨gS, x6⟩ := hSw; obtain ⟨q1, q2⟩ := LK.out _ gS; obtain ⟨a0, a1, a2, a3, a4, a5, _⟩ := cells6 x6; go_simp
  simp only [List.setIfInBounds_toArray, List.set_cons_zero, List.set_cons_succ]
  refine wpAnyH_ready (rs := [7]) (by kernel_rfl) (by simp) ?_
  refine AllReadyH.cons rfl (fun K hK => ?_) AllReadyH.nil
  go_simp
  refine hK.out _ _ ⟨grown_drew (grown_al (grown_al (grown_refl w) _) _), al2_fst w _ _⟩ (fun hL1 => ?_)
  clear hK K
  refine wpAnyH_ready (rs := [8]) (by kernel_rfl) (by simp) ?_
  refine AllReadyH.cons rfl (fun K hK => ?_) AllReadyH.nil
  go_simp
  refine hK.out _ _ ⟨grown_drew (grown_al (grown_al (grown_refl w) _) _), al2_fst w _ _⟩ (fun hL2 => ?_)
  clear hK K
  refine wpAnyH_done (by kernel_rfl) ?_ _
  refine NoPanic.normal ?_
  clear hL0 hL1 hL2
  go_wp2_with fail
  refine wp_region_noPanic ?_
  refine wp_region_held_drew (S := fun w' => w.grownBy w' none ∧ w'.heap[w.heap.size]? = some (.cells #[.int .i64 p.f, .int .i64 p.t, .bool p.ack, .int .u64 p.s, .int .u64 p.e, .string p.x] 79 (0, 0)) ∧ w'.heap[w.heap.size + 1]? = some (.cells #[.int .u64 (S.wy p.f p.t).b, .int .u64 (S.wy p.f p.t).t, .slice pu (S.wy p.f p.t).us.length cu, .int .u64 (S.wy p.f p.t).c] 84 (0, 0))) (by kernel_rfl) (⟨grown_drew GB.out, B1.out, B2.out⟩) (fun hH0 => ?_)
  refine take_at (i := 0) (v := .pointer (some ⟨w.heap.size, 4, none⟩)) rfl rfl (by kernel_rfl) (by kernel_rfl) (by kernel_rfl) (fun _ _ _ h => h) (Or.inl ⟨by rfl, ?_⟩) hH0 ?_
  · intro w hSw; (try dsimp only at hSw); obtain ⟨_, x6, x4⟩ := hSw; obtain ⟨a0, a1, a2, a3, a4, a5, _⟩ := cells6 x6; obtain ⟨d0, d1, d2, d3, _⟩ := cells4 x4; go_simp
  simp only [List.setIfInBounds_toArray, List.set_cons_zero, List.set_cons_succ]
  refine take_at (i := 1) (v := .int .u64 p.e) rfl rfl (by kernel_rfl) (by kernel_rfl) (by kernel_rfl) (fun _ _ _ h => h) (Or.inl ⟨by rfl, ?_⟩) hH0 ?_
  · intro w hSw; (try dsimp only at hSw); obtain ⟨_, x6, x4⟩ := hSw; obtain ⟨a0, a1, a2, a3, a4, a5, _⟩ := cells6 x6; obtain ⟨d0, d1, d2, d3, _⟩ := cells4 x4; go_simp
  simp only [List.setIfInBounds_toArray, List.set_cons_zero, List.set_cons_succ]
  refine take_at (i := 2) (v := .agg #[.int .u64 (S.wy p.f p.t).b, .int .u64 (S.wy p.f p.t).t, .slice pu (S.wy p.f p.t).us.length cu, .int .u64 (S.wy p.f p.t).c]) rfl rfl (by kernel_rfl) (by kernel_rfl) (by kernel_rfl) (fun _ _ _ h => h) (Or.inl ⟨by rfl, ?_⟩) hH0 ?_
  · intro w hSw; (try dsimp only at hSw); obtain ⟨_, x6, x4⟩ := hSw; obtain ⟨a0, a1, a2, a3, a4, a5, _⟩ := cells6 x6; obtain ⟨d0, d1, d2, d3, _⟩ := cells4 x4; go_simp
  simp only [List.setIfInBounds_toArray, List.set_cons_zero, List.set_cons_succ]
  refine wpAnyH_ready (rs := [3]) (by kernel_rfl) (by simp) ?_
  refine AllReadyH.cons rfl (fun K hK => ?_) AllReadyH.nil
  go_simp
  go_at_call 50
  refine (EP.out _).mono ?_
  rintro e w7 ⟨rfl, g7⟩
  have s7 : (fun w' => w.grownBy w' none ∧ w'.heap[w.heap.size]? = some (.cells #[.int .i64 p.f, .int .i64 p.t, .bool p.ack, .int .u64 p.s, .int .u64 p.e, .string p.x] 79 (0, 0)) ∧ w'.heap[w.heap.size + 1]? = some (.cells #[.int .u64 (S.wy p.f p.t).b, .int .u64 (S.wy p.f p.t).t, .slice pu (S.wy p.f p.t).us.length cu, .int .u64 (S.wy p.f p.t).c] 84 (0, 0))) w7 := ⟨grown_none_trans hH0.1 g7, box_keep hH0.2.1 g7 (by simp), box_keep hH0.2.2 g7 (by simp)⟩
  go_wp2_with fail
  refine hK.out _ _ s7 (fun hH1 => ?_)
  clear hK K s7
  refine take_at (i := 4) (v := .bool false) rfl rfl (by kernel_rfl) (by kernel_rfl) (by kernel_rfl) (fun _ _ _ h => h) (Or.inl ⟨by rfl, ?_⟩) hH1 ?_
  · intro w hSw; (try dsimp only at hSw); obtain ⟨_, x6, x4⟩ := hSw; obtain ⟨a0, a1, a2, a3, a4, a5, _⟩ := cells6 x6; obtain ⟨d0, d1, d2, d3, _⟩ := cells4 x4; go_simp; have := HE.out; omega
  simp only [List.setIfInBounds_toArray, List.set_cons_zero, List.set_cons_succ]
  refine take_at (i := 5) (v := .bool false) rfl rfl (by kernel_rfl) (by kernel_rfl) (by kernel_rfl) (fun _ _ _ h => h) (Or.inl ⟨by rfl, ?_⟩) hH1 ?_
  · intro w hSw; (try dsimp only at hSw); obtain ⟨_, x6, x4⟩ := hSw; obtain ⟨a0, a1, a2, a3, a4, a5, _⟩ := cells6 x6; obtain ⟨d0, d1, d2, d3, _⟩ := cells4 x4; go_simp
  simp only [List.setIfInBounds_toArray, List.set_cons_zero, List.set_cons_succ]
  refine take_at (i := 6) (v := .pointer (some ⟨n, 0, none⟩)) rfl rfl (by kernel_rfl) (by kernel_rfl) (by kernel_rfl) (fun _ _ _ h => h) (Or.inl ⟨by rfl, ?_⟩) hH1 ?_
  · intro w hSw; (try dsimp only at hSw); obtain ⟨_, x6, x4⟩ := hSw; obtain ⟨a0, a1, a2, a3, a4, a5, _⟩ := cells6 x6; obtain ⟨d0, d1, d2, d3, _⟩ := cells4 x4; go_simp
  simp only [List.setIfInBounds_toArray, List.set_cons_zero, List.set_cons_succ]
  refine take_at (i := 7) (v := .agg #[.int .i64 p.f, .int .i64 p.t, .bool p.ack, .int .u64 p.s, .int .u64 p.e, .string p.x]) rfl rfl (by kernel_rfl) (by kernel_rfl) (by kernel_rfl) (fun _ _ _ h => h) (Or.inl ⟨by rfl, ?_⟩) hH1 ?_
  · intro w hSw; (try dsimp only at hSw); obtain ⟨_, x6, x4⟩ := hSw; obtain ⟨a0, a1, a2, a3, a4, a5, _⟩ := cells6 x6; obtain ⟨d0, d1, d2, d3, _⟩ := cells4 x4; go_simp
  simp only [List.setIfInBounds_toArray, List.set_cons_zero, List.set_cons_succ]
  refine wpAnyH_ready (rs := [8]) (by kernel_rfl) (by simp) ?_
  refine AllReadyH.cons rfl (fun K hK => ?_) AllReadyH.nil
  go_simp
  go_at_call 46
  refine (GO.out _).mono ?_
  rintro e w8 ⟨rfl, g8⟩
  have s8 : (fun w' => w.grownBy w' none ∧ w'.heap[w.heap.size]? = some (.cells #[.int .i64 p.f, .int .i64 p.t, .bool p.ack, .int .u64 p.s, .int .u64 p.e, .string p.x] 79 (0, 0)) ∧ w'.heap[w.heap.size + 1]? = some (.cells #[.int .u64 (S.wy p.f p.t).b, .int .u64 (S.wy p.f p.t).t, .slice pu (S.wy p.f p.t).us.length cu, .int .u64 (S.wy p.f p.t).c] 84 (0, 0))) w8 := ⟨grown_none_trans hH1.1 g8, box_keep hH1.2.1 g8 (by simp), box_keep hH1.2.2 g8 (by simp)⟩
  go_wp2_with fail
  refine hK.out _ _ s8 (fun hH2 => ?_)
  clear hK K s8
  refine take_at (i := 9) (v := .int .i64 (pkTo p)) rfl rfl (by kernel_rfl) (by kernel_rfl) (by kernel_rfl) (fun _ _ _ h => h) (Or.inl ⟨by rfl, ?_⟩) hH2 ?_
  · intro w hSw; (try dsimp only at hSw); obtain ⟨_, x6, x4⟩ := hSw; have fe := fieldE (pkFr p) (pkTo p) w; go_simp
  simp only [List.setIfInBounds_toArray, List.set_cons_zero, List.set_cons_succ]
  refine wpAnyH_ready (rs := [10]) (by kernel_rfl) (by simp) ?_
  refine AllReadyH.cons rfl (fun K hK => ?_) AllReadyH.nil
  go_simp
  go_at_call 20
  refine (IS.out w8 hH2.1).mono ?_
  rintro e w9 ⟨rfl, hwx⟩; have hwx2 := hwx.symm; subst hwx2; clear hwx
  go_wp2_with fail
  refine hK.out _ _ hH2 (fun hH3 => ?_)
  clear hK K
  refine take_at (i := 11) (v := .bool false) rfl rfl (by kernel_rfl) (by kernel_rfl) (by kernel_rfl) (fun _ _ _ h => h) (Or.inl ⟨by rfl, ?_⟩) hH3 ?_
  · intro w hSw; (try dsimp only at hSw); obtain ⟨_, x6, x4⟩ := hSw; obtain ⟨a0, a1, a2, a3, a4, a5, _⟩ := cells6 x6; obtain ⟨d0, d1, d2, d3, _⟩ := cells4 x4; go_simp
  simp only [List.setIfInBounds_toArray, List.set_cons_zero, List.set_cons_succ]
  refine take_at (i := 12) (v := .bool false) rfl rfl (by kernel_rfl) (by kernel_rfl) (by kernel_rfl) (fun _ _ _ h => h) (Or.inl ⟨by rfl, ?_⟩) hH3 ?_
  · intro w hSw; (try dsimp only at hSw); obtain ⟨_, x6, x4⟩ := hSw; obtain ⟨a0, a1, a2, a3, a4, a5, _⟩ := cells6 x6; obtain ⟨d0, d1, d2, d3, _⟩ := cells4 x4; go_simp
  simp only [List.setIfInBounds_toArray, List.set_cons_zero, List.set_cons_succ]
  refine wpAnyH_done (by kernel_rfl) ?_ _
  refine NoPanic.normal ?_
  have G7 := mkHid hH3.1
  have X6 := mkHid hH3.2.1
  have X4 := mkHid hH3.2.2
  clear hH0 hH1 hH2 hH3 g7 g8
  obtain ⟨a0, a1, a2, a3, a4, a5, _⟩ := cells6 X6.out
  rw [HAK.out] at a2
  obtain ⟨d0, d1, d2, d3, df⟩ := cells4 X4.out
  have df3 := df 3
  have cW : Chg (fun k => w.heap.size ≤ k) w (w8.setCell ⟨w.heap.size + 1, 3, none⟩ (.int .u64 ((S.wy p.f p.t).c + 1 : Nat))).drew := ((chgN G7.out).set ⟨w.heap.size + 1, 3, none⟩ _ (Nat.le_succ _)).drew
  have h8 := HN.out.away cW (fun i hi e => by have := HN.out.pb i hi; omega)
  obtain ⟨w11, up, _, ub2, U11⟩ := HN.out.way_run hf ht hc cW (w10 := (w8.setCell ⟨w.heap.size + 1, 3, none⟩ (.int .u64 ((S.wy p.f p.t).c + 1 : Nat))).drew) (x := { S.wy p.f p.t with c := (S.wy p.f p.t).c + 1 }) (v' := L.uv p.f p.t) (h8.uns p.f p.t hf ht) (grown_but (grown_refl _) _) rfl
  have X4' : (w8.setCell ⟨w.heap.size + 1, 3, none⟩ (.int .u64 ((S.wy p.f p.t).c + 1 : Nat))).drew.heap[w.heap.size + 1]? = some (.cells #[.int .u64 (S.wy p.f p.t).b, .int .u64 (S.wy p.f p.t).t, .slice pu (S.wy p.f p.t).us.length cu, .int .u64 ((S.wy p.f p.t).c + 1 : Nat)] 84 (0, 0)) := (block_setCell X4.out _).trans rfl
  have X6' : (w8.setCell ⟨w.heap.size + 1, 3, none⟩ (.int .u64 ((S.wy p.f p.t).c + 1 : Nat))).drew.heap[w.heap.size]? = some (.cells #[.int .i64 p.f, .int .i64 p.t, .bool p.ack, .int .u64 p.s, .int .u64 p.e, .string p.x] 79 (0, 0)) := (heap_setCell_other w8 ⟨w.heap.size + 1, 3, none⟩ w.heap.size _ (by simp)).trans X6.out
  have Y6 := mkHid (ub2 _ _ X6' (by rw [kd_cells X6']; decide) (by rw [kd_cells X6']; decide))
  have Y4 := mkHid (ub2 _ _ X4' (by rw [kd_cells X4']; decide) (by rw [kd_cells X4']; decide))
  have n1 : w8.cell? ⟨n, 1, none⟩ = some (.map (some L.m)) := (HN.out.kept G7.out).cs.2.1
  have hnw : n ≠ w.heap.size + 1 := by omega
  have hnw2 : w.heap.size + 1 ≠ n := by omega
  have U := mkHid U11
  unfold ky wyV at up
  rw [HU.out] at up
  simp only [show (((S.wy p.f p.t).c + 1 : Nat) : Int) = ((S.wy p.f p.t).c : Int) + 1 from rfl] at up
  clear ub2 U11 X4' X6' h8 cW df
  go_wp2_with fail
  go_region
  obtain ⟨L1, h11, C11⟩ := U.out
  clear a0 a1 a2 a3 a4 a5 d0 d1 d2 d3 n1 up
  obtain ⟨a0, a1, a2, a3, a4, a5, _⟩ := cells6 Y6.out
  have n0 : w11.cell? ⟨n, 0, none⟩ = some (.slice (some ⟨L1.nb, 0, none⟩) S.N L1.ncap) := h11.cs.1
  have pt : (p.t : Int) < (S.N : Int) := by omega
  go_wp2_with fail
  go_region
  have h12 := h11.kept (grown_drew (grown_refl w11))
  have C12 := C11.drew
  have Z6 : Hid ((w11.drew).heap[w.heap.size]? = _) := Y6.out
  have Z4 : Hid ((w11.drew).heap[w.heap.size + 1]? = _) := Y4.out
  have ss : w.heap.size + 2 ≤ (w11.drew).heap.size := lt_of_heap Z4.out
  have ex : ext P w w11 = ext P w w11.drew := rfl
  rw [ex] at h12
  generalize w11.drew = w12 at h12 C12 Z6 Z4 ss ⊢
  clear a0 a1 a2 a3 a4 a5 n0 h11 C11 ex
  obtain ⟨p', c', w4, hr, k1, k2, U4, ub4⟩ := h12.msg_run (j := p.t) ht p.f p.x hml (W := (w12.alloc (.cells #[.int .i64 p.f, .string p.x] 82)).drew) (grown_drew (grown_al (grown_refl w12) _)) (g := w12.heap.size) (heap_alloc_new w12 _)
  have Q6 : (w12.alloc (.cells #[.int .i64 p.f, .string p.x] 82)).drew.heap[w.heap.size]? = _ := box_keep Z6.out (grown_drew (grown_al (grown_refl w12) _)) (by simp)
  have Q4 : (w12.alloc (.cells #[.int .i64 p.f, .string p.x] 82)).drew.heap[w.heap.size + 1]? = _ := box_keep Z4.out (grown_drew (grown_al (grown_refl w12) _)) (by simp)
  have V6 := mkHid (ub4 _ _ Q6 (by rw [kd_cells Q6]; decide) (by rw [kd_cells Q6]; decide))
  have V4 := mkHid (ub4 _ _ Q4 (by rw [kd_cells Q4]; decide) (by rw [kd_cells Q4]; decide))
  have UU : Hid (UpN P w n (c + 1) (nextS S p) _) := UpN.trans C12 U4
  have vs1 : w12.cell? ⟨L1.nb, p.t * 2 + 1, none⟩ = some (L1.vs p.t) := (h12.cn (i := p.t) ht).2.1
  have hnb1 : L1.nb < w12.heap.size := h12.pb _ h12.pnb
  obtain ⟨pv, cv, hv, _⟩ := (h12.wts p.t ht).form
  have hv2 : L1.vs p.t = .slice pv (S.ms p.t).length cv := hv
  rw [hv2] at vs1 hr k1
  obtain ⟨a0, a1, a2, a3, a4, a5, _⟩ := cells6 Z6.out
  have hr2 : ∀ ty, (Builtin.append_ #[67, 67] ty #[.slice pv (S.ms p.t).length cv, .slice (some ⟨w12.heap.size, 0, none⟩) 1 1]).run Try.prog (w12.alloc (.cells #[.int .i64 p.f, .string p.x] 82)).drew = .ok (.slice p' ((S.ms p.t).length + 1) c') w4 := hr
  clear h12 C12 U4 ub4 Q6 Q4 hv hv2 hr Y6 Y4
  go_wp2_with fail
  go_region_law (refine step_app 67 rfl (.tmp 67) (.tmp 74) rfl rfl rfl hr2 ?_)
  all_goals
    obtain ⟨e0, e1, e2, e3, e4, e5, _⟩ := cells6 V6.out
    obtain ⟨d0, d1, d2, d3, _⟩ := cells4 V4.out
    have F8 := mkHid (send_fly UU.out (grown_refl _) (ackP p ((S.wy p.f p.t).c + 1)))
    unfold pkV ackP at F8
    go_wp2_with fail
    refine F8.out.mono ?_
    rintro e w9 ⟨rfl, U9, _⟩
    have UZ := mkHid U9
    clear U9
    go_wp2_with fail
    go_end0
    exact ⟨rfl, UZ.out⟩
end Go.Proofs.Ytbdlamlplfogjaa
