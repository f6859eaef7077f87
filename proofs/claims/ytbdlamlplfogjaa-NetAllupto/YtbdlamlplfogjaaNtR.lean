/-
  Walks: a packet that comes and tells; one that comes again.
-/
import Derived.Test.YtbdlamlplfogjaaNtQ
namespace Go.Proofs.Ytbdlamlplfogjaa
open Go.RowKit Go.Maps Go.Joins
variable {P : Nat → Prop} {w w' : World} {n c : Nat} {S : St} {L : Ly}

/-- a way is put into the map, its list having changed -/
theorem NetL.way_run (h : NetL P w n c S L) {i j : Nat} (hi : i < S.N) (hj : j < S.N) (hc : c ≤ 1000000000) {W : World} (cW : Chg (fun k => w.heap.size ≤ k) w W) {w10 : World} {x : Wy} {v' : Value} (s10 : shr w10 9 1 v' x.us.length (usC x.us)) (g10 : W.grownBy w10 (L.uv i j).ownBlock) (o10 : v'.ownBlock = (L.uv i j).ownBlock) :
    ∃ w11, (Instr.mapUpdate 70 (.map (some L.m)) (ky i j) (wyV x v')).run Try.prog w10 = .ok () w11 ∧ (∀ b o, W.heap[b]? = some o → kd W b ≠ 9 + 2 → w10.heap[b]? = some o) ∧ (∀ b o, W.heap[b]? = some o → kd W b ≠ 9 + 2 → kd W b ≠ 1 → w11.heap[b]? = some o) ∧ UpN P w n (c + 1) { S with wy := upd2 S.wy i j x } w11 := by
  have h' := h.away cW (fun i hi e => by have := h.pb i hi; omega)
  have h64 := h.n64
  have ub : ∀ b o, W.heap[b]? = some o → kd W b ≠ 9 + 2 → w10.heap[b]? = some o := fun b o hb hk => box_keep hb g10 (fun e => hk ((h'.uns i j hi hj).kd b e.symm).1)
  have mW := h'.map.kept (Chg.of_grown g10) (fun e => by
    have := ((h'.uns i j hi hj).kd _ e).1
    rw [h'.map.kd.1] at this; simp at this)
  obtain ⟨w11, up, m11, g11⟩ := mW.put (i := i) (j := j) hi hj (wyV x v') hc
  have nm : ∀ b o, w10.heap[b]? = some o → kd w10 b ≠ 1 → w11.heap[b]? = some o := fun b o hb hk => box_keep hb g11 (fun e => by
    cases e
    exact hk mW.kd.1)
  have s11 := s10.kept (Chg.of_grown g11) (fun g hg e => by
    have e : L.m = g := by simpa using e
    have := (s10.kd g hg).1
    rw [← e, mW.kd.1] at this; simp at this)
  have CC : Chg (fun k => k = L.m ∨ (L.uv i j).ownBlock = some k) w w11 := by
    have c0 : Chg (fun k => k = L.m ∨ (L.uv i j).ownBlock = some k) w W := (Chg.refl _ w).then_new cW
    exact (c0.trans ((Chg.of_grown g10).mono (fun k _ hk => Or.inr hk))).trans ((Chg.of_grown g11).mono (fun k _ hk => Or.inl (by simpa using hk.symm)))
  refine ⟨w11, up, ub, fun b o hb h1 h2 => nm b o (ub b o hb h1) (fun e => h2 ?_), _, h.way CC hi hj (fun k hk => hk) (x := x) (v := v') m11 s11 (fun g hg => Or.inl (by rw [← o10]; exact hg))⟩
  unfold kd at e ⊢
  rw [ub b o hb h1] at e
  rw [hb]; exact e
def ackP (p : Pk) (c : Nat) : Pk := ⟨p.f, p.t, true, c, p.e, ⟨#[]⟩⟩
theorem chgN (h : w.grownBy w' none) : Chg (fun k => w.heap.size ≤ k) w w' := Chg.of_none h _
set_option maxHeartbeats 2000000 in
set_option maxRecDepth 100000 in
theorem come_ack (h : NetL P w n c S L) (p : Pk) (hf : p.f < S.N) (ht : p.t < S.N) (hb : (S.wy p.f p.t).b < 1000000000000) (he : p.e = (S.wy p.f p.t).b + 1) (hdn : S.dn (pkTo p) = false) (hak : p.ack = true) (hbt : (S.wy p.f p.t).t < 1000000000000) (hul : (S.wy p.f p.t).us.length < 1000000000000) (hc : c ≤ 1000000000) : Calls Try.prog 54 #[.pointer (some ⟨n, 0, none⟩), pkV p] w fun e w' => e = .returned (.tuple #[]) ∧ UpN P w n (c + 1) { S with wy := upd2 S.wy p.f p.t (tellW (S.wy p.f p.t) p.s) } w' := by
  have h64 := h.n64
  have LK : Hid (∀ W : World, w.grownBy W none → W.cell? ⟨n, 1, none⟩ = some (.map (some L.m)) ∧ (Instr.lookup 70 (.map (some L.m)) (ky p.f p.t) false).run Try.prog W = .ok (wyV (S.wy p.f p.t) (L.uv p.f p.t)) W) := fun W gW => ⟨(h.kept gW).cs.2.1, (h.kept gW).map.look (i := p.f) (j := p.t) (by omega) (by omega)⟩
  have GB := mkHid (grown_drew (grown_al (grown_al (grown_refl w) (.cells (pkL p).toArray 79)) (.cells #[.int .u64 (S.wy p.f p.t).b, .int .u64 (S.wy p.f p.t).t, L.uv p.f p.t, .int .u64 (S.wy p.f p.t).c] 84)))
  have B1 := mkHid (al2_fst w (.cells (pkL p).toArray 79) (.cells #[.int .u64 (S.wy p.f p.t).b, .int .u64 (S.wy p.f p.t).t, L.uv p.f p.t, .int .u64 (S.wy p.f p.t).c] 84))
  have B2 := mkHid (al2_snd w (.cells (pkL p).toArray 79) (.cells #[.int .u64 (S.wy p.f p.t).b, .int .u64 (S.wy p.f p.t).t, L.uv p.f p.t, .int .u64 (S.wy p.f p.t).c] 84))
  obtain ⟨c0, c1, c2, _⟩ := h.cs
  have hn := lt_of_heap h.net
  obtain ⟨pu, cu, hu, _⟩ := (h.uns p.f p.t hf ht).form
  have EP := mkHid (fun w => epoch_any (S.wy p.f p.t) (L.uv p.f p.t) w hb)
  unfold wyV at EP
  have he2 : ((p.e : Int) == (((S.wy p.f p.t).b + 1 : Nat) : Int)) = true := by rw [he]; simp
  have HE := mkHid he
  have hto : pkTo p < S.N := by unfold pkTo; split <;> omega
  have IS := mkHid (fun (W : World) (gW : w.grownBy W none) => Is_any (h.kept gW) (pkTo p : Int))
  have eI : isS S (pkTo p : Int) = !S.dn (pkTo p) := by
    unfold isS
    rw [decide_eq_true (by omega), Bool.true_and]; rfl
  rw [eI, hdn] at IS
  have GO : Hid (∀ w, Calls Try.prog 46 #[.agg #[.int .i64 p.f, .int .i64 p.t, .bool p.ack, .int .u64 p.s, .int .u64 p.e, .string p.x]] w fun e w' => e = .returned (.agg #[.int .i64 (pkFr p), .int .i64 (pkTo p)]) ∧ w.grownBy w' none) := fun w => by
    have := goes_any p w
    unfold pkV ky at this
    exact this
  have HN := mkHid h
  have HAK := mkHid hak
  clear hak
  have HU := mkHid hu
  have NC : Hid (∀ W : World, w.grownBy W none → W.cell? ⟨n, 1, none⟩ = some (.map (some L.m))) := fun W gW => (h.kept gW).cs.2.1
  have TL : Hid (∀ W : World, w.grownBy W none → Calls Try.prog 61 #[wyV (S.wy p.f p.t) (L.uv p.f p.t), .int .u64 p.s] W (WyQ W (tellW (S.wy p.f p.t) p.s) (L.uv p.f p.t))) := fun W gW => tell_any (S.wy p.f p.t) (L.uv p.f p.t) p.s ((h.kept gW).uns p.f p.t hf ht) hbt hul
  unfold wyV at TL
  rw [hu] at TL
  unfold ky wyV at LK
  unfold pkV
  unfold pkL at GB B1 B2
  rw [hu] at LK GB EP B1 B2
  clear h hu he
  go_enter Try.func54, Try.ntmps54
  go_wp2_with fail
  refine wp_region_noPanic ?_
  refine wp_region_held_drew (S := fun w' => w.grownBy w' none ∧ w'.heap[w.heap.size]? = some (.cells #[.int .i64 p.f, .int .i64 p.t, .bool p.ack, .int .u64 p.s, .int .u64 p.e, .string p.x] 79 (0, 0))) (by kernel_rfl) (⟨grown_drew (grown_al (grown_refl w) _), heap_alloc_new w _⟩) (fun hL0 => ?_)
  refine take_at (i := 0) (v := .pointer (some ⟨n, 0, none⟩)) rfl rfl (by kernel_rfl) (by kernel_rfl) (by kernel_rfl) (fun _ _ _ h => h) (Or.inl ⟨by rfl, ?_⟩) hL0 ?_
  · intro w hSw; (try dsimp only at hSw); obtain ⟨gS, x6⟩ := hSw; obtain ⟨q1, q2⟩ := LK.out _ gS; obtain ⟨a0, a1, a2, a3, a4, a5, _⟩ := cells6 x6; go_simp
  simp only [List.setIfInBounds_toArray, List.set_cons_zero, List.set_cons_succ]
  refine take_at (i := 1) (v := .pointer (some ⟨n, 0, none⟩)) rfl rfl (by kernel_rfl) (by kernel_rfl) (by kernel_rfl) (fun _ _ _ h => h) (Or.inl ⟨by rfl, ?_⟩) hL0 ?_
  · intro w hSw; (try dsimp only at hSw); obtain ⟨gS, x6⟩ := hSw; obtain ⟨q1, q2⟩ := LK.out _ gS; obtain ⟨a0, a1, a2, a3, a4, a5, _⟩ := cells6 x6; go_simp
  simp only [List.setIfInBounds_toArray, List.set_cons_zero, List.set_cons_succ]
  refine take_at (i := 2) (v := .pointer (some ⟨n, 1, none⟩)) rfl rfl (by kernel_rfl) (by kernel_rfl) (by kernel_rfl) (fun _ _ _ h => h) (Or.inl ⟨by rfl, ?_⟩) hL0 ?_
  · intro w hSw; (try dsimp only at hSw); obtain ⟨gS, x6⟩ := hSw; obtain ⟨q1, q2⟩ := LK.out _ gS; obtain ⟨a0, a1, a2, a3, a4, a5, _⟩ := cells6 x6; go_simp
  simp only [List.setIfInBounds_toArray, List.set_cons_zero, List.set_cons_succ]
  refine take_at (i := 3) (v := .map (some L.m)) rfl rfl (by kernel_rfl) (by kernel_rfl) (by kernel_rfl) (fun _ _ _ h => h) (Or.inl ⟨by rfl, ?_⟩) hL0 ?_
  · intro w hSw; (try dsimp only at hSw); obtain ⟨gS, x6⟩ := hSw; obtain ⟨q1, q2⟩ := LK.out _ gS; obtain ⟨a0, a1, a2, a3, a4, a5, _⟩ := cells6 x6; go_simp
  simp only [List.setIfInBounds_toArray, List.set_cons_zero, List.set_cons_succ]
  refine take_at (i := 4) (v := .pointer (some ⟨w.heap.size, 0, none⟩)) rfl rfl (by kernel_rfl) (by kernel_rfl) (by kernel_rfl) (fun _ _ _ h => h) (Or.inl ⟨by rfl, ?_⟩) hL0 ?_
  · intro w hSw; (try dsimp only at hSw); obtain ⟨gS, x6⟩ := hSw; obtain ⟨q1, q2⟩ := LK.out _ gS; obtain ⟨a0, a1, a2, a3, a4, a5, _⟩ := cells6 x6; go_simp
  simp only [List.setIfInBounds_toArray, List.set_cons_zero, List.set_cons_succ]
  refine take_at (i := 5) (v := .agg #[.int .i64 p.f, .int .i64 p.t]) rfl rfl (by kernel_rfl) (by kernel_rfl) (by kernel_rfl) (fun _ _ _ h => h) (Or.inl ⟨by rfl, ?_⟩) hL0 ?_
  · intro w hSw; (try dsimp only at hSw); obtain ⟨gS, x6⟩ := hSw; obtain ⟨q1, q2⟩ := LK.out _ gS; obtain ⟨a0, a1, a2, a3, a4, a5, _⟩ := cells6 x6; go_simp
  simp only [List.setIfInBounds_toArray, List.set_cons_zero, List.set_cons_succ]
  refine take_at (i := 6) (v := .agg #[.int .u64 (S.wy p.f p.t).b, .int .u64 (S.wy p.f p.t).t, .slice pu (S.wy p.f p.t).us.length cu, .int .u64 (S.wy p.f p.t).c]) rfl rfl (by kernel_rfl) (by kernel_rfl) (by kernel_rfl) (fun _ _ _ h => h) (Or.inl ⟨by rfl, ?_⟩) hL0 ?_
  · intro w hSw; (try dsimp only at hSw); obtain ⟨gS, x6⟩ := hSw; obtain ⟨q1, q2⟩ := LK.out _ gS; obtain ⟨a0, a1, a2, a3, a4, a5, _⟩ := cells6 x6; go_simp
  simp only [List.setIfInBounds_toArray, List.set_cons_zero, List.set_cons_succ]
  refine wpAnyH_ready (rs := [7]) (by kernel_rfl) (by simp) ?_
  refine AllReadyH.cons rfl (fun K hK => ?_) AllReadyH.nil
  go_simp
  refine hK.out _ _ ⟨grown_drew (grown_al (grown_al (grown_refl w) _) _), al2_fst w _ _⟩ (fun hL1 => ?_)
  clear hK K
  refine wpAnyH_ready (rs := [8]) (by kernel_rfl) (by simp) ?_
  refine AllReadyH.cons rfl (fun K hK => ?_) AllReadyH.nil
  go_simp
  refine hK.out _ _ ⟨grown_drew (grown_al (grown_al (grown_refl w) _) _), al2_fst w _ _⟩ (fun hL2 => ?_)
  clear hK K
  refine wpAnyH_done (by kernel_rfl) ?_ _
  refine NoPanic.normal ?_
  clear hL0 hL1 hL2
  go_wp2_with fail
  refine wp_region_noPanic ?_
  refine wp_region_held_drew (S := fun w' => w.grownBy w' none ∧ w'.heap[w.heap.size]? = some (.cells #[.int .i64 p.f, .int .i64 p.t, .bool p.ack, .int .u64 p.s, .int .u64 p.e, .string p.x] 79 (0, 0)) ∧ w'.heap[w.heap.size + 1]? = some (.cells #[.int .u64 (S.wy p.f p.t).b, .int .u64 (S.wy p.f p.t).t, .slice pu (S.wy p.f p.t).us.length cu, .int .u64 (S.wy p.f p.t).c] 84 (0, 0))) (by kernel_rfl) (⟨grown_drew GB.out, B1.out, B2.out⟩) (fun hH0 => ?_)
  refine take_at (i := 0) (v := .pointer (some ⟨w.heap.size, 4, none⟩)) rfl rfl (by kernel_rfl) (by kernel_rfl) (by kernel_rfl) (fun _ _ _ h => h) (Or.inl ⟨by rfl, ?_⟩) hH0 ?_
  · intro w hSw; (try dsimp only at hSw); obtain ⟨_, x6, x4⟩ := hSw; obtain ⟨a0, a1, a2, a3, a4, a5, _⟩ := cells6 x6; obtain ⟨d0, d1, d2, d3, _⟩ := cells4 x4; go_simp
  simp only [List.setIfInBounds_toArray, List.set_cons_zero, List.set_cons_succ]
  refine take_at (i := 1) (v := .int .u64 p.e) rfl rfl (by kernel_rfl) (by kernel_rfl) (by kernel_rfl) (fun _ _ _ h => h) (Or.inl ⟨by rfl, ?_⟩) hH0 ?_
  · intro w hSw; (try dsimp only at hSw); obtain ⟨_, x6, x4⟩ := hSw; obtain ⟨a0, a1, a2, a3, a4, a5, _⟩ := cells6 x6; obtain ⟨d0, d1, d2, d3, _⟩ := cells4 x4; go_simp
  simp only [List.setIfInBounds_toArray, List.set_cons_zero, List.set_cons_succ]
  refine take_at (i := 2) (v := .agg #[.int .u64 (S.wy p.f p.t).b, .int .u64 (S.wy p.f p.t).t, .slice pu (S.wy p.f p.t).us.length cu, .int .u64 (S.wy p.f p.t).c]) rfl rfl (by kernel_rfl) (by kernel_rfl) (by kernel_rfl) (fun _ _ _ h => h) (Or.inl ⟨by rfl, ?_⟩) hH0 ?_
  · intro w hSw; (try dsimp only at hSw); obtain ⟨_, x6, x4⟩ := hSw; obtain ⟨a0, a1, a2, a3, a4, a5, _⟩ := cells6 x6; obtain ⟨d0, d1, d2, d3, _⟩ := cells4 x4; go_simp
  simp only [List.setIfInBounds_toArray, List.set_cons_zero, List.set_cons_succ]
  refine wpAnyH_ready (rs := [3]) (by kernel_rfl) (by simp) ?_
  refine AllReadyH.cons rfl (fun K hK => ?_) AllReadyH.nil
  go_simp
  go_at_call 50
  refine (EP.out _).mono ?_
  rintro e w7 ⟨rfl, g7⟩
  have s7 : (fun w' => w.grownBy w' none ∧ w'.heap[w.heap.size]? = some (.cells #[.int .i64 p.f, .int .i64 p.t, .bool p.ack, .int .u64 p.s, .int .u64 p.e, .string p.x] 79 (0, 0)) ∧ w'.heap[w.heap.size + 1]? = some (.cells #[.int .u64 (S.wy p.f p.t).b, .int .u64 (S.wy p.f p.t).t, .slice pu (S.wy p.f p.t).us.length cu, .int .u64 (S.wy p.f p.t).c] 84 (0, 0))) w7 := ⟨grown_none_trans hH0.1 g7, box_keep hH0.2.1 g7 (by simp), box_keep hH0.2.2 g7 (by simp)⟩
  go_wp2_with fail
  refine hK.out _ _ s7 (fun hH1 => ?_)
  clear hK K s7
  refine take_at (i := 4) (v := .bool false) rfl rfl (by kernel_rfl) (by kernel_rfl) (by kernel_rfl) (fun _ _ _ h => h) (Or.inl ⟨by rfl, ?_⟩) hH1 ?_
  · intro w hSw; (try dsimp only at hSw); obtain ⟨_, x6, x4⟩ := hSw; obtain ⟨a0, a1, a2, a3, a4, a5, _⟩ := cells6 x6; obtain ⟨d0, d1, d2, d3, _⟩ := cells4 x4; go_simp; have := HE.out; omega
  simp only [List.setIfInBounds_toArray, List.set_cons_zero, List.set_cons_succ]
  refine take_at (i := 5) (v := .bool false) rfl rfl (by kernel_rfl) (by kernel_rfl) (by kernel_rfl) (fun _ _ _ h => h) (Or.inl ⟨by rfl, ?_⟩) hH1 ?_
  · intro w hSw; (try dsimp only at hSw); obtain ⟨_, x6, x4⟩ := hSw; obtain ⟨a0, a1, a2, a3, a4, a5, _⟩ := cells6 x6; obtain ⟨d0, d1, d2, d3, _⟩ := cells4 x4; go_simp
  simp only [List.setIfInBounds_toArray, List.set_cons_zero, List.set_cons_succ]
  refine take_at (i := 6) (v := .pointer (some ⟨n, 0, none⟩)) rfl rfl (by kernel_rfl) (by kernel_rfl) (by kernel_rfl) (fun _ _ _ h => h) (Or.inl ⟨by rfl, ?_⟩) hH1 ?_
  · intro w hSw; (try dsimp only at hSw); obtain ⟨_, x6, x4⟩ := hSw; obtain ⟨a0, a1, a2, a3, a4, a5, _⟩ := cells6 x6; obtain ⟨d0, d1, d2, d3, _⟩ := cells4 x4; go_simp
  simp only [List.setIfInBounds_toArray, List.set_cons_zero, List.set_cons_succ]
  refine take_at (i := 7) (v := .agg #[.int .i64 p.f, .int .i64 p.t, .bool p.ack, .int .u64 p.s, .int .u64 p.e, .string p.x]) rfl rfl (by kernel_rfl) (by kernel_rfl) (by kernel_rfl) (fun _ _ _ h => h) (Or.inl ⟨by rfl, ?_⟩) hH1 ?_
  · intro w hSw; (try dsimp only at hSw); obtain ⟨_, x6, x4⟩ := hSw; obtain ⟨a0, a1, a2, a3, a4, a5, _⟩ := cells6 x6; obtain ⟨d0, d1, d2, d3, _⟩ := cells4 x4; go_simp
  simp only [List.setIfInBounds_toArray, List.set_cons_zero, List.set_cons_succ]
  refine wpAnyH_ready (rs := [8]) (by kernel_rfl) (by simp) ?_
  refine AllReadyH.cons rfl (fun K hK => ?_) AllReadyH.nil
  go_simp
  go_at_call 46
  refine (GO.out _).mono ?_
  rintro e w8 ⟨rfl, g8⟩
  have s8 : (fun w' => w.grownBy w' none ∧ w'.heap[w.heap.size]? = some (.cells #[.int .i64 p.f, .int .i64 p.t, .bool p.ack, .int .u64 p.s, .int .u64 p.e, .string p.x] 79 (0, 0)) ∧ w'.heap[w.heap.size + 1]? = some (.cells #[.int .u64 (S.wy p.f p.t).b, .int .u64 (S.wy p.f p.t).t, .slice pu (S.wy p.f p.t).us.length cu, .int .u64 (S.wy p.f p.t).c] 84 (0, 0))) w8 := ⟨grown_none_trans hH1.1 g8, box_keep hH1.2.1 g8 (by simp), box_keep hH1.2.2 g8 (by simp)⟩
  go_wp2_with fail
  refine hK.out _ _ s8 (fun hH2 => ?_)
  clear hK K s8
  refine take_at (i := 9) (v := .int .i64 (pkTo p)) rfl rfl (by kernel_rfl) (by kernel_rfl) (by kernel_rfl) (fun _ _ _ h => h) (Or.inl ⟨by rfl, ?_⟩) hH2 ?_
  · intro w hSw; (try dsimp only at hSw); obtain ⟨_, x6, x4⟩ := hSw; have fe := fieldE (pkFr p) (pkTo p) w; go_simp
  simp only [List.setIfInBounds_toArray, List.set_cons_zero, List.set_cons_succ]
  refine wpAnyH_ready (rs := [10]) (by kernel_rfl) (by simp) ?_
  refine AllReadyH.cons rfl (fun K hK => ?_) AllReadyH.nil
  go_simp
  go_at_call 20
  refine (IS.out w8 hH2.1).mono ?_
  rintro e w9 ⟨rfl, hwx⟩; have hwx2 := hwx.symm; subst hwx2; clear hwx
  go_wp2_with fail
  refine hK.out _ _ hH2 (fun hH3 => ?_)
  clear hK K
  refine take_at (i := 11) (v := .bool false) rfl rfl (by kernel_rfl) (by kernel_rfl) (by kernel_rfl) (fun _ _ _ h => h) (Or.inl ⟨by rfl, ?_⟩) hH3 ?_
  · intro w hSw; (try dsimp only at hSw); obtain ⟨_, x6, x4⟩ := hSw; obtain ⟨a0, a1, a2, a3, a4, a5, _⟩ := cells6 x6; obtain ⟨d0, d1, d2, d3, _⟩ := cells4 x4; go_simp
  simp only [List.setIfInBounds_toArray, List.set_cons_zero, List.set_cons_succ]
  refine take_at (i := 12) (v := .bool false) rfl rfl (by kernel_rfl) (by kernel_rfl) (by kernel_rfl) (fun _ _ _ h => h) (Or.inl ⟨by rfl, ?_⟩) hH3 ?_
  · intro w hSw; (try dsimp only at hSw); obtain ⟨_, x6, x4⟩ := hSw; obtain ⟨a0, a1, a2, a3, a4, a5, _⟩ := cells6 x6; obtain ⟨d0, d1, d2, d3, _⟩ := cells4 x4; go_simp
  simp only [List.setIfInBounds_toArray, List.set_cons_zero, List.set_cons_succ]
  refine wpAnyH_done (by kernel_rfl) ?_ _
  refine NoPanic.normal ?_
  have G7 := mkHid hH3.1
  have X6 := mkHid hH3.2.1
  have X4 := mkHid hH3.2.2
  clear hH0 hH1 hH2 hH3 g7 g8
  obtain ⟨a0, a1, a2, a3, a4, a5, _⟩ := cells6 X6.out
  rw [HAK.out] at a2
  go_wp2_with fail
  refine wp_region_noPanic ?_
  refine wp_region_held_drew (S := fun w' => w'.heap[w.heap.size]? = some (.cells #[.int .i64 p.f, .int .i64 p.t, .bool p.ack, .int .u64 p.s, .int .u64 p.e, .string p.x] 79 (0, 0)) ∧ w'.heap[w.heap.size + 1]? = some (.cells #[.int .u64 (S.wy p.f p.t).b, .int .u64 (S.wy p.f p.t).t, .slice pu (S.wy p.f p.t).us.length cu, .int .u64 (S.wy p.f p.t).c] 84 (0, 0)) ∧ w'.cell? ⟨n, 1, none⟩ = some (.map (some L.m))) (by kernel_rfl) (⟨X6.out, X4.out, NC.out w8 G7.out⟩) (fun hA0 => ?_)
  refine take_at (i := 0) (v := .pointer (some ⟨n, 0, none⟩)) rfl rfl (by kernel_rfl) (by kernel_rfl) (by kernel_rfl) (fun _ _ _ h => h) (Or.inl ⟨by rfl, ?_⟩) hA0 ?_
  · intro w hSw; (try dsimp only at hSw); obtain ⟨x6, x4, y1⟩ := hSw; obtain ⟨a0, a1, a2, a3, a4, a5, _⟩ := cells6 x6; obtain ⟨d0, d1, d2, d3, _⟩ := cells4 x4; go_simp
  simp only [List.setIfInBounds_toArray, List.set_cons_zero, List.set_cons_succ]
  refine take_at (i := 1) (v := .pointer (some ⟨n, 0, none⟩)) rfl rfl (by kernel_rfl) (by kernel_rfl) (by kernel_rfl) (fun _ _ _ h => h) (Or.inl ⟨by rfl, ?_⟩) hA0 ?_
  · intro w hSw; (try dsimp only at hSw); obtain ⟨x6, x4, y1⟩ := hSw; obtain ⟨a0, a1, a2, a3, a4, a5, _⟩ := cells6 x6; obtain ⟨d0, d1, d2, d3, _⟩ := cells4 x4; go_simp
  simp only [List.setIfInBounds_toArray, List.set_cons_zero, List.set_cons_succ]
  refine take_at (i := 2) (v := .pointer (some ⟨n, 1, none⟩)) rfl rfl (by kernel_rfl) (by kernel_rfl) (by kernel_rfl) (fun _ _ _ h => h) (Or.inl ⟨by rfl, ?_⟩) hA0 ?_
  · intro w hSw; (try dsimp only at hSw); obtain ⟨x6, x4, y1⟩ := hSw; obtain ⟨a0, a1, a2, a3, a4, a5, _⟩ := cells6 x6; obtain ⟨d0, d1, d2, d3, _⟩ := cells4 x4; go_simp
  simp only [List.setIfInBounds_toArray, List.set_cons_zero, List.set_cons_succ]
  refine take_at (i := 3) (v := .map (some L.m)) rfl rfl (by kernel_rfl) (by kernel_rfl) (by kernel_rfl) (fun _ _ _ h => h) (Or.inl ⟨by rfl, ?_⟩) hA0 ?_
  · intro w hSw; (try dsimp only at hSw); obtain ⟨x6, x4, y1⟩ := hSw; obtain ⟨a0, a1, a2, a3, a4, a5, _⟩ := cells6 x6; obtain ⟨d0, d1, d2, d3, _⟩ := cells4 x4; go_simp
  simp only [List.setIfInBounds_toArray, List.set_cons_zero, List.set_cons_succ]
  refine take_at (i := 4) (v := .pointer (some ⟨w.heap.size, 0, none⟩)) rfl rfl (by kernel_rfl) (by kernel_rfl) (by kernel_rfl) (fun _ _ _ h => h) (Or.inl ⟨by rfl, ?_⟩) hA0 ?_
  · intro w hSw; (try dsimp only at hSw); obtain ⟨x6, x4, y1⟩ := hSw; obtain ⟨a0, a1, a2, a3, a4, a5, _⟩ := cells6 x6; obtain ⟨d0, d1, d2, d3, _⟩ := cells4 x4; go_simp
  simp only [List.setIfInBounds_toArray, List.set_cons_zero, List.set_cons_succ]
  refine take_at (i := 5) (v := .agg #[.int .i64 p.f, .int .i64 p.t]) rfl rfl (by kernel_rfl) (by kernel_rfl) (by kernel_rfl) (fun _ _ _ h => h) (Or.inl ⟨by rfl, ?_⟩) hA0 ?_
  · intro w hSw; (try dsimp only at hSw); obtain ⟨x6, x4, y1⟩ := hSw; obtain ⟨a0, a1, a2, a3, a4, a5, _⟩ := cells6 x6; obtain ⟨d0, d1, d2, d3, _⟩ := cells4 x4; go_simp
  simp only [List.setIfInBounds_toArray, List.set_cons_zero, List.set_cons_succ]
  refine take_at (i := 6) (v := .agg #[.int .u64 (S.wy p.f p.t).b, .int .u64 (S.wy p.f p.t).t, .slice pu (S.wy p.f p.t).us.length cu, .int .u64 (S.wy p.f p.t).c]) rfl rfl (by kernel_rfl) (by kernel_rfl) (by kernel_rfl) (fun _ _ _ h => h) (Or.inl ⟨by rfl, ?_⟩) hA0 ?_
  · intro w hSw; (try dsimp only at hSw); obtain ⟨x6, x4, y1⟩ := hSw; obtain ⟨a0, a1, a2, a3, a4, a5, _⟩ := cells6 x6; obtain ⟨d0, d1, d2, d3, _⟩ := cells4 x4; go_simp
  simp only [List.setIfInBounds_toArray, List.set_cons_zero, List.set_cons_succ]
  refine take_at (i := 7) (v := .pointer (some ⟨w.heap.size, 3, none⟩)) rfl rfl (by kernel_rfl) (by kernel_rfl) (by kernel_rfl) (fun _ _ _ h => h) (Or.inl ⟨by rfl, ?_⟩) hA0 ?_
  · intro w hSw; (try dsimp only at hSw); obtain ⟨x6, x4, y1⟩ := hSw; obtain ⟨a0, a1, a2, a3, a4, a5, _⟩ := cells6 x6; obtain ⟨d0, d1, d2, d3, _⟩ := cells4 x4; go_simp
  simp only [List.setIfInBounds_toArray, List.set_cons_zero, List.set_cons_succ]
  refine take_at (i := 8) (v := .int .u64 p.s) rfl rfl (by kernel_rfl) (by kernel_rfl) (by kernel_rfl) (fun _ _ _ h => h) (Or.inl ⟨by rfl, ?_⟩) hA0 ?_
  · intro w hSw; (try dsimp only at hSw); obtain ⟨x6, x4, y1⟩ := hSw; obtain ⟨a0, a1, a2, a3, a4, a5, _⟩ := cells6 x6; obtain ⟨d0, d1, d2, d3, _⟩ := cells4 x4; go_simp
  simp only [List.setIfInBounds_toArray, List.set_cons_zero, List.set_cons_succ]
  refine wpAnyH_ready (rs := [9]) (by kernel_rfl) (by simp) ?_
  refine AllReadyH.cons rfl (fun K hK => ?_) AllReadyH.nil
  go_simp
  go_at_call 61
  refine (TL.out _ (grown_drew G7.out)).mono ?_
  rintro e w10 ⟨v10, rfl, s10, g10, o10⟩
  obtain ⟨w11, up, ub, ub2, U11⟩ := HN.out.way_run hf ht hc (W := w8.drew) (chgN (grown_drew G7.out)) s10 (by rw [HU.out]; exact g10) (by rw [HU.out]; exact o10)
  have nb : (w8.drew).heap[n]? = _ := (HN.out.kept G7.out).net
  have q1 := ub _ _ X6.out (by rw [show kd w8.drew w.heap.size = _ from kd_cells X6.out]; decide)
  have q2 := ub _ _ X4.out (by rw [show kd w8.drew (w.heap.size + 1) = _ from kd_cells X4.out]; decide)
  have q3 := ub _ _ nb (by rw [show kd w8.drew n = _ from kd_cells nb]; decide)
  have r1 := ub2 _ _ X6.out (by rw [show kd w8.drew w.heap.size = _ from kd_cells X6.out]; decide) (by rw [show kd w8.drew w.heap.size = _ from kd_cells X6.out]; decide)
  have r2 := ub2 _ _ X4.out (by rw [show kd w8.drew (w.heap.size + 1) = _ from kd_cells X4.out]; decide) (by rw [show kd w8.drew (w.heap.size + 1) = _ from kd_cells X4.out]; decide)
  have r3 := ub2 _ _ nb (by rw [show kd w8.drew n = _ from kd_cells nb]; decide) (by rw [show kd w8.drew n = _ from kd_cells nb]; decide)
  have U := mkHid U11
  clear ub ub2 U11 s10 g10 o10 nb
  go_wp2_with fail
  refine hK.out _ _ ⟨q1, q2, (cell_of_block q3 1).trans rfl⟩ (fun hA1 => ?_)
  clear hK K
  refine wpAnyH_ready (rs := [10]) (by kernel_rfl) (by simp) ?_
  refine AllReadyH.cons rfl (fun K hK => ?_) AllReadyH.nil
  unfold ky at up
  go_simp
  refine hK.out _ _ ⟨r1, r2, (cell_of_block r3 1).trans rfl⟩ (fun hA2 => ?_)
  clear hK K
  refine wpAnyH_done (by kernel_rfl) ?_ _
  refine NoPanic.normal ?_
  go_wp2_with fail
  refine bodyPost_ret (results_none rfl _ _ _) rfl ?_
  exact ⟨rfl, U.out⟩
set_option maxHeartbeats 2000000 in
set_option maxRecDepth 100000 in
theorem come_again (h : NetL P w n c S L) (p : Pk) (hf : p.f < S.N) (ht : p.t < S.N) (hb : (S.wy p.f p.t).b < 1000000000000) (he : p.e = (S.wy p.f p.t).b + 1) (hdn : S.dn (pkTo p) = false) (hak : p.ack = false) (hs : p.s ≠ (S.wy p.f p.t).c + 1) (hcc : (S.wy p.f p.t).c < 1000000000000) : Calls Try.prog 54 #[.pointer (some ⟨n, 0, none⟩), pkV p] w fun e w' => e = .returned (.tuple #[]) ∧ UpN P w n c (flyS S (ackP p (S.wy p.f p.t).c)) w' := by
  have h64 := h.n64
  have LK : Hid (∀ W : World, w.grownBy W none → W.cell? ⟨n, 1, none⟩ = some (.map (some L.m)) ∧ (Instr.lookup 70 (.map (some L.m)) (ky p.f p.t) false).run Try.prog W = .ok (wyV (S.wy p.f p.t) (L.uv p.f p.t)) W) := fun W gW => ⟨(h.kept gW).cs.2.1, (h.kept gW).map.look (i := p.f) (j := p.t) (by omega) (by omega)⟩
  have GB := mkHid (grown_drew (grown_al (grown_al (grown_refl w) (.cells (pkL p).toArray 79)) (.cells #[.int .u64 (S.wy p.f p.t).b, .int .u64 (S.wy p.f p.t).t, L.uv p.f p.t, .int .u64 (S.wy p.f p.t).c] 84)))
  have B1 := mkHid (al2_fst w (.cells (pkL p).toArray 79) (.cells #[.int .u64 (S.wy p.f p.t).b, .int .u64 (S.wy p.f p.t).t, L.uv p.f p.t, .int .u64 (S.wy p.f p.t).c] 84))
  have B2 := mkHid (al2_snd w (.cells (pkL p).toArray 79) (.cells #[.int .u64 (S.wy p.f p.t).b, .int .u64 (S.wy p.f p.t).t, L.uv p.f p.t, .int .u64 (S.wy p.f p.t).c] 84))
  obtain ⟨c0, c1, c2, _⟩ := h.cs
  have hn := lt_of_heap h.net
  obtain ⟨pu, cu, hu, _⟩ := (h.uns p.f p.t hf ht).form
  have EP := mkHid (fun w => epoch_any (S.wy p.f p.t) (L.uv p.f p.t) w hb)
  unfold wyV at EP
  have he2 : ((p.e : Int) == (((S.wy p.f p.t).b + 1 : Nat) : Int)) = true := by rw [he]; simp
  have HE := mkHid he
  have hto : pkTo p < S.N := by unfold pkTo; split <;> omega
  have IS := mkHid (fun (W : World) (gW : w.grownBy W none) => Is_any (h.kept gW) (pkTo p : Int))
  have eI : isS S (pkTo p : Int) = !S.dn (pkTo p) := by
    unfold isS
    rw [decide_eq_true (by omega), Bool.true_and]; rfl
  rw [eI, hdn] at IS
  have GO : Hid (∀ w, Calls Try.prog 46 #[.agg #[.int .i64 p.f, .int .i64 p.t, .bool p.ack, .int .u64 p.s, .int .u64 p.e, .string p.x]] w fun e w' => e = .returned (.agg #[.int .i64 (pkFr p), .int .i64 (pkTo p)]) ∧ w.grownBy w' none) := fun w => by
    have := goes_any p w
    unfold pkV ky at this
    exact this
  have HN := mkHid h
  have HAK := mkHid hak
  clear hak
  have hs2 : ((p.s : Int) == (((S.wy p.f p.t).c + 1 : Nat) : Int)) = false := by rw [beq_eq_false_iff_ne]; omega
  have hs3 : ((p.s : Int) == ((S.wy p.f p.t).c : Int) + 1) = false := hs2
  unfold ky wyV at LK
  unfold pkV
  unfold pkL at GB B1 B2
  rw [hu] at LK GB EP B1 B2
  clear h hu he
  go_enter Try.func54, Try.ntmps54
  go_wp2_with fail
  refine wp_region_noPanic ?_
  refine wp_region_held_drew (S := fun w' => w.grownBy w' none ∧ w'.heap[w.heap.size]? = some (.cells #[.int .i64 p.f, .int .i64 p.t, .bool p.ack, .int .u64 p.s, .int .u64 p.e, .string p.x] 79 (0, 0))) (by kernel_rfl) (⟨grown_drew (grown_al (grown_refl w) _), heap_alloc_new w _⟩) (fun hL0 => ?_)
  refine take_at (i := 0) (v := .pointer (some ⟨n, 0, none⟩)) rfl rfl (by kernel_rfl) (by kernel_rfl) (by kernel_rfl) (fun _ _ _ h => h) (Or.inl ⟨by rfl, ?_⟩) hL0 ?_
  · intro w hSw; (try dsimp only at hSw); obtain ⟨gS, x6⟩ := hSw; obtain ⟨q1, q2⟩ := LK.out _ gS; obtain ⟨a0, a1, a2, a3, a4, a5, _⟩ := cells6 x6; go_simp
  simp only [List.setIfInBounds_toArray, List.set_cons_zero, List.set_cons_succ]
  refine take_at (i := 1) (v := .pointer (some ⟨n, 0, none⟩)) rfl rfl (by kernel_rfl) (by kernel_rfl) (by kernel_rfl) (fun _ _ _ h => h) (Or.inl ⟨by rfl, ?_⟩) hL0 ?_
  · intro w hSw; (try dsimp only at hSw); obtain ⟨gS, x6⟩ := hSw; obtain ⟨q1, q2⟩ := LK.out _ gS; obtain ⟨a0, a1, a2, a3, a4, a5, _⟩ := cells6 x6; go_simp
  simp only [List.setIfInBounds_toArray, List.set_cons_zero, List.set_cons_succ]
  refine take_at (i := 2) (v := .pointer (some ⟨n, 1, none⟩)) rfl rfl (by kernel_rfl) (by kernel_rfl) (by kernel_rfl) (fun _ _ _ h => h) (Or.inl ⟨by rfl, ?_⟩) hL0 ?_
  · intro w hSw; (try dsimp only at hSw); obtain ⟨gS, x6⟩ := hSw; obtain ⟨q1, q2⟩ := LK.out _ gS; obtain ⟨a0, a1, a2, a3, a4, a5, _⟩ := cells6 x6; go_simp
  simp only [List.setIfInBounds_toArray, List.set_cons_zero, List.set_cons_succ]
  refine take_at (i := 3) (v := .map (some L.m)) rfl rfl (by kernel_rfl) (by kernel_rfl) (by kernel_rfl) (fun _ _ _ h => h) (Or.inl ⟨by rfl, ?_⟩) hL0 ?_
  · intro w hSw; (try dsimp only at hSw); obtain ⟨gS, x6⟩ := hSw; obtain ⟨q1, q2⟩ := LK.out _ gS; obtain ⟨a0, a1, a2, a3, a4, a5, _⟩ := cells6 x6; go_simp
  simp only [List.setIfInBounds_toArray, List.set_cons_zero, List.set_cons_succ]
  refine take_at (i := 4) (v := .pointer (some ⟨w.heap.size, 0, none⟩)) rfl rfl (by kernel_rfl) (by kernel_rfl) (by kernel_rfl) (fun _ _ _ h => h) (Or.inl ⟨by rfl, ?_⟩) hL0 ?_
  · intro w hSw; (try dsimp only at hSw); obtain ⟨gS, x6⟩ := hSw; obtain ⟨q1, q2⟩ := LK.out _ gS; obtain ⟨a0, a1, a2, a3, a4, a5, _⟩ := cells6 x6; go_simp
  simp only [List.setIfInBounds_toArray, List.set_cons_zero, List.set_cons_succ]
  refine take_at (i := 5) (v := .agg #[.int .i64 p.f, .int .i64 p.t]) rfl rfl (by kernel_rfl) (by kernel_rfl) (by kernel_rfl) (fun _ _ _ h => h) (Or.inl ⟨by rfl, ?_⟩) hL0 ?_
  · intro w hSw; (try dsimp only at hSw); obtain ⟨gS, x6⟩ := hSw; obtain ⟨q1, q2⟩ := LK.out _ gS; obtain ⟨a0, a1, a2, a3, a4, a5, _⟩ := cells6 x6; go_simp
  simp only [List.setIfInBounds_toArray, List.set_cons_zero, List.set_cons_succ]
  refine take_at (i := 6) (v := .agg #[.int .u64 (S.wy p.f p.t).b, .int .u64 (S.wy p.f p.t).t, .slice pu (S.wy p.f p.t).us.length cu, .int .u64 (S.wy p.f p.t).c]) rfl rfl (by kernel_rfl) (by kernel_rfl) (by kernel_rfl) (fun _ _ _ h => h) (Or.inl ⟨by rfl, ?_⟩) hL0 ?_
  · intro w hSw; (try dsimp only at hSw); obtain ⟨gS, x6⟩ := hSw; obtain ⟨q1, q2⟩ := LK.out _ gS; obtain ⟨a0, a1, a2, a3, a4, a5, _⟩ := cells6 x6; go_simp
  simp only [List.setIfInBounds_toArray, List.set_cons_zero, List.set_cons_succ]
  refine wpAnyH_ready (rs := [7]) (by kernel_rfl) (by simp) ?_
  refine AllReadyH.cons rfl (fun K hK => ?_) AllReadyH.nil
  go_simp
  refine hK.out _ _ ⟨grown_drew (grown_al (grown_al (grown_refl w) _) _), al2_fst w _ _⟩ (fun hL1 => ?_)
  clear hK K
  refine wpAnyH_ready (rs := [8]) (by kernel_rfl) (by simp) ?_
  refine AllReadyH.cons rfl (fun K hK => ?_) AllReadyH.nil
  go_simp
  refine hK.out _ _ ⟨grown_drew (grown_al (grown_al (grown_refl w) _) _), al2_fst w _ _⟩ (fun hL2 => ?_)
  clear hK K
  refine wpAnyH_done (by kernel_rfl) ?_ _
  refine NoPanic.normal ?_
  clear hL0 hL1 hL2
  go_wp2_with fail
  refine wp_region_noPanic ?_
  refine wp_region_held_drew (S := fun w' => w.grownBy w' none ∧ w'.heap[w.heap.size]? = some (.cells #[.int .i64 p.f, .int .i64 p.t, .bool p.ack, .int .u64 p.s, .int .u64 p.e, .string p.x] 79 (0, 0)) ∧ w'.heap[w.heap.size + 1]? = some (.cells #[.int .u64 (S.wy p.f p.t).b, .int .u64 (S.wy p.f p.t).t, .slice pu (S.wy p.f p.t).us.length cu, .int .u64 (S.wy p.f p.t).c] 84 (0, 0))) (by kernel_rfl) (⟨grown_drew GB.out, B1.out, B2.out⟩) (fun hH0 => ?_)
  refine take_at (i := 0) (v := .pointer (some ⟨w.heap.size, 4, none⟩)) rfl rfl (by kernel_rfl) (by kernel_rfl) (by kernel_rfl) (fun _ _ _ h => h) (Or.inl ⟨by rfl, ?_⟩) hH0 ?_
  · intro w hSw; (try dsimp only at hSw); obtain ⟨_, x6, x4⟩ := hSw; obtain ⟨a0, a1, a2, a3, a4, a5, _⟩ := cells6 x6; obtain ⟨d0, d1, d2, d3, _⟩ := cells4 x4; go_simp
  simp only [List.setIfInBounds_toArray, List.set_cons_zero, List.set_cons_succ]
  refine take_at (i := 1) (v := .int .u64 p.e) rfl rfl (by kernel_rfl) (by kernel_rfl) (by kernel_rfl) (fun _ _ _ h => h) (Or.inl ⟨by rfl, ?_⟩) hH0 ?_
  · intro w hSw; (try dsimp only at hSw); obtain ⟨_, x6, x4⟩ := hSw; obtain ⟨a0, a1, a2, a3, a4, a5, _⟩ := cells6 x6; obtain ⟨d0, d1, d2, d3, _⟩ := cells4 x4; go_simp
  simp only [List.setIfInBounds_toArray, List.set_cons_zero, List.set_cons_succ]
  refine take_at (i := 2) (v := .agg #[.int .u64 (S.wy p.f p.t).b, .int .u64 (S.wy p.f p.t).t, .slice pu (S.wy p.f p.t).us.length cu, .int .u64 (S.wy p.f p.t).c]) rfl rfl (by kernel_rfl) (by kernel_rfl) (by kernel_rfl) (fun _ _ _ h => h) (Or.inl ⟨by rfl, ?_⟩) hH0 ?_
  · intro w hSw; (try dsimp only at hSw); obtain ⟨_, x6, x4⟩ := hSw; obtain ⟨a0, a1, a2, a3, a4, a5, _⟩ := cells6 x6; obtain ⟨d0, d1, d2, d3, _⟩ := cells4 x4; go_simp
  simp only [List.setIfInBounds_toArray, List.set_cons_zero, List.set_cons_succ]
  refine wpAnyH_ready (rs := [3]) (by kernel_rfl) (by simp) ?_
  refine AllReadyH.cons rfl (fun K hK => ?_) AllReadyH.nil
  go_simp
  go_at_call 50
  refine (EP.out _).mono ?_
  rintro e w7 ⟨rfl, g7⟩
  have s7 : (fun w' => w.grownBy w' none ∧ w'.heap[w.heap.size]? = some (.cells #[.int .i64 p.f, .int .i64 p.t, .bool p.ack, .int .u64 p.s, .int .u64 p.e, .string p.x] 79 (0, 0)) ∧ w'.heap[w.heap.size + 1]? = some (.cells #[.int .u64 (S.wy p.f p.t).b, .int .u64 (S.wy p.f p.t).t, .slice pu (S.wy p.f p.t).us.length cu, .int .u64 (S.wy p.f p.t).c] 84 (0, 0))) w7 := ⟨grown_none_trans hH0.1 g7, box_keep hH0.2.1 g7 (by simp), box_keep hH0.2.2 g7 (by simp)⟩
  go_wp2_with fail
  refine hK.out _ _ s7 (fun hH1 => ?_)
  clear hK K s7
  refine take_at (i := 4) (v := .bool false) rfl rfl (by kernel_rfl) (by kernel_rfl) (by kernel_rfl) (fun _ _ _ h => h) (Or.inl ⟨by rfl, ?_⟩) hH1 ?_
  · intro w hSw; (try dsimp only at hSw); obtain ⟨_, x6, x4⟩ := hSw; obtain ⟨a0, a1, a2, a3, a4, a5, _⟩ := cells6 x6; obtain ⟨d0, d1, d2, d3, _⟩ := cells4 x4; go_simp; have := HE.out; omega
  simp only [List.setIfInBounds_toArray, List.set_cons_zero, List.set_cons_succ]
  refine take_at (i := 5) (v := .bool false) rfl rfl (by kernel_rfl) (by kernel_rfl) (by kernel_rfl) (fun _ _ _ h => h) (Or.inl ⟨by rfl, ?_⟩) hH1 ?_
  · intro w hSw; (try dsimp only at hSw); obtain ⟨_, x6, x4⟩ := hSw; obtain ⟨a0, a1, a2, a3, a4, a5, _⟩ := cells6 x6; obtain ⟨d0, d1, d2, d3, _⟩ := cells4 x4; go_simp
  simp only [List.setIfInBounds_toArray, List.set_cons_zero, List.set_cons_succ]
  refine take_at (i := 6) (v := .pointer (some ⟨n, 0, none⟩)) rfl rfl (by kernel_rfl) (by kernel_rfl) (by kernel_rfl) (fun _ _ _ h => h) (Or.inl ⟨by rfl, ?_⟩) hH1 ?_
  · intro w hSw; (try dsimp only at hSw); obtain ⟨_, x6, x4⟩ := hSw; obtain ⟨a0, a1, a2, a3, a4, a5, _⟩ := cells6 x6; obtain ⟨d0, d1, d2, d3, _⟩ := cells4 x4; go_simp
  simp only [List.setIfInBounds_toArray, List.set_cons_zero, List.set_cons_succ]
  refine take_at (i := 7) (v := .agg #[.int .i64 p.f, .int .i64 p.t, .bool p.ack, .int .u64 p.s, .int .u64 p.e, .string p.x]) rfl rfl (by kernel_rfl) (by kernel_rfl) (by kernel_rfl) (fun _ _ _ h => h) (Or.inl ⟨by rfl, ?_⟩) hH1 ?_
  · intro w hSw; (try dsimp only at hSw); obtain ⟨_, x6, x4⟩ := hSw; obtain ⟨a0, a1, a2, a3, a4, a5, _⟩ := cells6 x6; obtain ⟨d0, d1, d2, d3, _⟩ := cells4 x4; go_simp
  simp only [List.setIfInBounds_toArray, List.set_cons_zero, List.set_cons_succ]
  refine wpAnyH_ready (rs := [8]) (by kernel_rfl) (by simp) ?_
  refine AllReadyH.cons rfl (fun K hK => ?_) AllReadyH.nil
  go_simp
  go_at_call 46
  refine (GO.out _).mono ?_
  rintro e w8 ⟨rfl, g8⟩
  have s8 : (fun w' => w.grownBy w' none ∧ w'.heap[w.heap.size]? = some (.cells #[.int .i64 p.f, .int .i64 p.t, .bool p.ack, .int .u64 p.s, .int .u64 p.e, .string p.x] 79 (0, 0)) ∧ w'.heap[w.heap.size + 1]? = some (.cells #[.int .u64 (S.wy p.f p.t).b, .int .u64 (S.wy p.f p.t).t, .slice pu (S.wy p.f p.t).us.length cu, .int .u64 (S.wy p.f p.t).c] 84 (0, 0))) w8 := ⟨grown_none_trans hH1.1 g8, box_keep hH1.2.1 g8 (by simp), box_keep hH1.2.2 g8 (by simp)⟩
  go_wp2_with fail
  refine hK.out _ _ s8 (fun hH2 => ?_)
  clear hK K s8
  refine take_at (i := 9) (v := .int .i64 (pkTo p)) rfl rfl (by kernel_rfl) (by kernel_rfl) (by kernel_rfl) (fun _ _ _ h => h) (Or.inl ⟨by rfl, ?_⟩) hH2 ?_
  · intro w hSw; (try dsimp only at hSw); obtain ⟨_, x6, x4⟩ := hSw; have fe := fieldE (pkFr p) (pkTo p) w; go_simp
  simp only [List.setIfInBounds_toArray, List.set_cons_zero, List.set_cons_succ]
  refine wpAnyH_ready (rs := [10]) (by kernel_rfl) (by simp) ?_
  refine AllReadyH.cons rfl (fun K hK => ?_) AllReadyH.nil
  go_simp
  go_at_call 20
  refine (IS.out w8 hH2.1).mono ?_
  rintro e w9 ⟨rfl, hwx⟩; have hwx2 := hwx.symm; subst hwx2; clear hwx
  go_wp2_with fail
  refine hK.out _ _ hH2 (fun hH3 => ?_)
  clear hK K
  refine take_at (i := 11) (v := .bool false) rfl rfl (by kernel_rfl) (by kernel_rfl) (by kernel_rfl) (fun _ _ _ h => h) (Or.inl ⟨by rfl, ?_⟩) hH3 ?_
  · intro w hSw; (try dsimp only at hSw); obtain ⟨_, x6, x4⟩ := hSw; obtain ⟨a0, a1, a2, a3, a4, a5, _⟩ := cells6 x6; obtain ⟨d0, d1, d2, d3, _⟩ := cells4 x4; go_simp
  simp only [List.setIfInBounds_toArray, List.set_cons_zero, List.set_cons_succ]
  refine take_at (i := 12) (v := .bool false) rfl rfl (by kernel_rfl) (by kernel_rfl) (by kernel_rfl) (fun _ _ _ h => h) (Or.inl ⟨by rfl, ?_⟩) hH3 ?_
  · intro w hSw; (try dsimp only at hSw); obtain ⟨_, x6, x4⟩ := hSw; obtain ⟨a0, a1, a2, a3, a4, a5, _⟩ := cells6 x6; obtain ⟨d0, d1, d2, d3, _⟩ := cells4 x4; go_simp
  simp only [List.setIfInBounds_toArray, List.set_cons_zero, List.set_cons_succ]
  refine wpAnyH_done (by kernel_rfl) ?_ _
  refine NoPanic.normal ?_
  have G7 := mkHid hH3.1
  have X6 := mkHid hH3.2.1
  have X4 := mkHid hH3.2.2
  clear hH0 hH1 hH2 hH3 g7 g8
  obtain ⟨a0, a1, a2, a3, a4, a5, _⟩ := cells6 X6.out
  rw [HAK.out] at a2
  obtain ⟨d0, d1, d2, d3, _⟩ := cells4 X4.out
  have F8 := mkHid (send_fly (HN.out.upn G7.out) (grown_refl w8) (ackP p (S.wy p.f p.t).c))
  unfold pkV ackP at F8
  go_wp2_with fail
  refine F8.out.mono ?_
  rintro e w9 ⟨rfl, U9, _⟩
  have U := mkHid U9
  clear U9
  go_wp2_with fail
  go_end0
  exact ⟨rfl, U.out⟩
end Go.Proofs.Ytbdlamlplfogjaa
