/-
  Walks: a network that is the same, made.
-/
import Derived.Test.YtpghkbbhcpcbdaaNtX
import Derived.Test.YtpghkbbhcpcbdaaNtO
import Derived.Maps.RangeWalk
import Derived.Deep.CutRange
namespace Go.Proofs.Ytpghkbbhcpcbdaa
open Go.RowKit Go.Maps Go.Joins
variable {P : Nat → Prop} {w w' : World} {n c : Nat} {S : St} {L : Ly}

/-- what Clone answers: the same net in new memory -/
def ClQ (w : World) (c : Nat) (S : St) (r : Ending) (w' : World) : Prop := ∃ n L, r = .returned (.pointer (some ⟨n, 0, none⟩)) ∧ NetL (fun i => w.heap.size ≤ i ∧ i < w'.heap.size) w' n c S L ∧ w.grownBy w' none
theorem usC_one (l : List ByteArray) : ∀ u ∈ usC l, u.oneCell' = true := by
  intro u hu
  simp only [usC, List.mem_map] at hu
  obtain ⟨p, _, rfl⟩ := hu
  rfl
set_option maxHeartbeats 4000000 in
set_option maxRecDepth 100000 in
theorem Clone_any (h : NetL P w n c S L) (hl : S.fl.length ≤ 100000) (hml : ∀ i, (S.ms i).length ≤ 1000000000) (hul : ∀ i j, (S.wy i j).us.length ≤ 1000000000) (hc : c ≤ 1000000000) : Calls Try.prog 7 #[.pointer (some ⟨n, 0, none⟩)] w (ClQ w c S) := by
  have h64 := h.n64
  have H := mkHid h
  obtain ⟨pf, cf, hfv, _⟩ := h.fly.form
  have CS : Hid (∀ W : World, w.grownBy W none → W.cell? ⟨n, 0, none⟩ = some (.slice (some ⟨L.nb, 0, none⟩) S.N L.ncap) ∧ W.cell? ⟨n, 1, none⟩ = some (.map (some L.m)) ∧ W.cell? ⟨n, 2, none⟩ = some (.slice pf S.fl.length cf)) := fun W g => by
    obtain ⟨a, b, d, _⟩ := (h.kept g).cs
    rw [hfv] at d
    exact ⟨a, b, d⟩
  obtain ⟨KM, hKM, LN⟩ : ∃ K : Nat, K ≤ c ∧ Hid (∀ W : World, w.grownBy W none → ∀ ty, (Builtin.len_ #[70] ty #[.map (some L.m)]).run Try.prog W = .ok (.int .i64 K) W) := by
    obtain ⟨n0, D, ho, hn0, _⟩ := h.map
    refine ⟨Maps.size D, Nat.le_trans ho.size_le hn0, fun W g ty => ?_⟩
    exact (ho.kept g (by simp)).len mapW ty
  have CLN : Hid (∀ W : World, w.grownBy W none → Calls Try.prog 26 #[.slice (some ⟨L.nb, 0, none⟩) S.N L.ncap] W (CnQ W S.N (ndC S L.vs))) := fun W g => CloneN0 _ _ _ _ (h.kept g).nodes (by have := h.n64; omega) h.n1
  have CLP : Hid (∀ W : World, w.grownBy W none → Calls Try.prog 27 #[.slice pf S.fl.length cf] W (CpQ W 79 6 S.fl.length (pkC S.fl))) := fun W g => CloneP _ _ _ (by rw [← hfv]; exact (h.kept g).fly) (pkC_one _) (by omega)
  go_enter Try.func7, Try.ntmps7
  go_upto_region 1 with fail
  go_cut [3] from 7 to 24 (fun s3 wx => ∃ cb : Nat, s3 = .pointer (some ⟨cb, 0, none⟩) ∧ Hid (ClA w S L cb wx))
  case first =>
    refine wp_region_noPanic ?_
    refine wp_region_held_drew (S := fun w' => w.grownBy w' none) (by kernel_rfl) (grown_drew (grown_refl w)) (fun h0 => ?_)
    refine take_at (i := 0) (v := .pointer (some ⟨n, 0, none⟩)) rfl rfl (by kernel_rfl) (by kernel_rfl) (by kernel_rfl) (fun _ _ _ h => h) (Or.inl ⟨by rfl, ?_⟩) h0 ?_
    · intro w hSw; (try dsimp only at hSw); obtain ⟨q0, q1, q2⟩ := CS.out _ hSw; have q3 := LN.out _ hSw; go_simp
    simp only [List.setIfInBounds_toArray, List.set_cons_zero, List.set_cons_succ]
    refine take_at (i := 1) (v := .pointer (some ⟨n, 0, none⟩)) rfl rfl (by kernel_rfl) (by kernel_rfl) (by kernel_rfl) (fun _ _ _ h => h) (Or.inl ⟨by rfl, ?_⟩) h0 ?_
    · intro w hSw; (try dsimp only at hSw); obtain ⟨q0, q1, q2⟩ := CS.out _ hSw; have q3 := LN.out _ hSw; go_simp
    simp only [List.setIfInBounds_toArray, List.set_cons_zero, List.set_cons_succ]
    refine take_at (i := 2) (v := .pointer (some ⟨n, 0, none⟩)) rfl rfl (by kernel_rfl) (by kernel_rfl) (by kernel_rfl) (fun _ _ _ h => h) (Or.inl ⟨by rfl, ?_⟩) h0 ?_
    · intro w hSw; (try dsimp only at hSw); obtain ⟨q0, q1, q2⟩ := CS.out _ hSw; have q3 := LN.out _ hSw; go_simp
    simp only [List.setIfInBounds_toArray, List.set_cons_zero, List.set_cons_succ]
    refine take_at (i := 3) (v := .slice (some ⟨L.nb, 0, none⟩) S.N L.ncap) rfl rfl (by kernel_rfl) (by kernel_rfl) (by kernel_rfl) (fun _ _ _ h => h) (Or.inl ⟨by rfl, ?_⟩) h0 ?_
    · intro w hSw; (try dsimp only at hSw); obtain ⟨q0, q1, q2⟩ := CS.out _ hSw; have q3 := LN.out _ hSw; go_simp
    simp only [List.setIfInBounds_toArray, List.set_cons_zero, List.set_cons_succ]
    refine take_at (i := 5) (v := .pointer (some ⟨n, 0, none⟩)) rfl rfl (by kernel_rfl) (by kernel_rfl) (by kernel_rfl) (fun _ _ _ h => h) (Or.inl ⟨by rfl, ?_⟩) h0 ?_
    · intro w hSw; (try dsimp only at hSw); obtain ⟨q0, q1, q2⟩ := CS.out _ hSw; have q3 := LN.out _ hSw; go_simp
    simp only [List.setIfInBounds_toArray, List.set_cons_zero, List.set_cons_succ]
    refine take_at (i := 6) (v := .pointer (some ⟨n, 0, none⟩)) rfl rfl (by kernel_rfl) (by kernel_rfl) (by kernel_rfl) (fun _ _ _ h => h) (Or.inl ⟨by rfl, ?_⟩) h0 ?_
    · intro w hSw; (try dsimp only at hSw); obtain ⟨q0, q1, q2⟩ := CS.out _ hSw; have q3 := LN.out _ hSw; go_simp
    simp only [List.setIfInBounds_toArray, List.set_cons_zero, List.set_cons_succ]
    refine take_at (i := 7) (v := .pointer (some ⟨n, 1, none⟩)) rfl rfl (by kernel_rfl) (by kernel_rfl) (by kernel_rfl) (fun _ _ _ h => h) (Or.inl ⟨by rfl, ?_⟩) h0 ?_
    · intro w hSw; (try dsimp only at hSw); obtain ⟨q0, q1, q2⟩ := CS.out _ hSw; have q3 := LN.out _ hSw; go_simp
    simp only [List.setIfInBounds_toArray, List.set_cons_zero, List.set_cons_succ]
    refine take_at (i := 8) (v := .map (some L.m)) rfl rfl (by kernel_rfl) (by kernel_rfl) (by kernel_rfl) (fun _ _ _ h => h) (Or.inl ⟨by rfl, ?_⟩) h0 ?_
    · intro w hSw; (try dsimp only at hSw); obtain ⟨q0, q1, q2⟩ := CS.out _ hSw; have q3 := LN.out _ hSw; go_simp
    simp only [List.setIfInBounds_toArray, List.set_cons_zero, List.set_cons_succ]
    refine take_at (i := 11) (v := .pointer (some ⟨n, 0, none⟩)) rfl rfl (by kernel_rfl) (by kernel_rfl) (by kernel_rfl) (fun _ _ _ h => h) (Or.inl ⟨by rfl, ?_⟩) h0 ?_
    · intro w hSw; (try dsimp only at hSw); obtain ⟨q0, q1, q2⟩ := CS.out _ hSw; have q3 := LN.out _ hSw; go_simp
    simp only [List.setIfInBounds_toArray, List.set_cons_zero, List.set_cons_succ]
    refine take_at (i := 12) (v := .pointer (some ⟨n, 0, none⟩)) rfl rfl (by kernel_rfl) (by kernel_rfl) (by kernel_rfl) (fun _ _ _ h => h) (Or.inl ⟨by rfl, ?_⟩) h0 ?_
    · intro w hSw; (try dsimp only at hSw); obtain ⟨q0, q1, q2⟩ := CS.out _ hSw; have q3 := LN.out _ hSw; go_simp
    simp only [List.setIfInBounds_toArray, List.set_cons_zero, List.set_cons_succ]
    refine take_at (i := 13) (v := .pointer (some ⟨n, 2, none⟩)) rfl rfl (by kernel_rfl) (by kernel_rfl) (by kernel_rfl) (fun _ _ _ h => h) (Or.inl ⟨by rfl, ?_⟩) h0 ?_
    · intro w hSw; (try dsimp only at hSw); obtain ⟨q0, q1, q2⟩ := CS.out _ hSw; have q3 := LN.out _ hSw; go_simp
    simp only [List.setIfInBounds_toArray, List.set_cons_zero, List.set_cons_succ]
    refine take_at (i := 14) (v := .slice pf S.fl.length cf) rfl rfl (by kernel_rfl) (by kernel_rfl) (by kernel_rfl) (fun _ _ _ h => h) (Or.inl ⟨by rfl, ?_⟩) h0 ?_
    · intro w hSw; (try dsimp only at hSw); obtain ⟨q0, q1, q2⟩ := CS.out _ hSw; have q3 := LN.out _ hSw; go_simp
    simp only [List.setIfInBounds_toArray, List.set_cons_zero, List.set_cons_succ]
    refine wpAnyH_ready (rs := [4]) (by kernel_rfl) (by simp) ?_
    refine AllReadyH.cons rfl (fun K hK => ?_) AllReadyH.nil
    go_simp
    go_at_call 26
    refine (CLN.out _ h0).mono ?_
    rintro e w1 ⟨nb, ncap, rfl, R1, g1, o1⟩
    go_wp2_with fail
    refine hK.out _ _ (grown_none_trans h0 g1) (fun h1 => ?_)
    clear hK K
    refine take_at (i := 9) (v := .int .i64 KM) rfl rfl (by kernel_rfl) (by kernel_rfl) (by kernel_rfl) (fun _ _ _ h => h) (Or.inl ⟨by rfl, ?_⟩) h1 ?_
    · intro w hSw; (try dsimp only at hSw); obtain ⟨q0, q1, q2⟩ := CS.out _ hSw; have q3 := LN.out _ hSw; go_simp
    simp only [List.setIfInBounds_toArray, List.set_cons_zero, List.set_cons_succ]
    refine wpAnyH_ready (rs := [10, 15]) (by kernel_rfl) (by simp) ?_
    refine AllReadyH.cons rfl (fun K hK => ?_) (AllReadyH.cons rfl (fun K hK => ?_) AllReadyH.nil)
    · go_simp
      have gm := World.grownBy_alloc w1 (.map #[] 0) none
      have M2 := Wm_new w1 h64
      have o2 : w.heap.size ≤ w1.heap.size := h1.size
      refine hK.out _ _ (grown_none_trans h1 gm) (fun h2 => ?_)
      clear hK K
      refine wpAnyH_ready (rs := [15]) (by kernel_rfl) (by simp) ?_
      refine AllReadyH.cons rfl (fun K hK => ?_) AllReadyH.nil
      go_simp
      go_at_call 27
      refine (CLP.out _ h2).mono ?_
      rintro e w3 ⟨v3, rfl, s3, g3, o3⟩
      go_wp2_with fail
      refine hK.out _ _ (grown_none_trans h2 g3) (fun h3 => ?_)
      clear hK K
      have g3' : (w1.alloc (.map #[] 0)).grownBy w3 none := g3
      have R3 := (R1.kept gm).kept g3'
      have M3 := M2.kept (Chg.of_none g3' (fun _ => False)) (fun e => e)
      obtain ⟨mb, hmb⟩ : ∃ mb, mb = w1.heap.size := ⟨_, rfl⟩
      rw [← hmb] at M3 o2 ⊢
      clear hmb
      obtain ⟨p3, c3, rfl, _⟩ := s3.form
      refine take_at (i := 16) (v := .agg #[.slice (some ⟨nb, 0, none⟩) S.N ncap, .map (some mb), .slice p3 S.fl.length c3]) rfl rfl (by kernel_rfl) (by kernel_rfl) (by kernel_rfl) (fun _ _ _ h => h) (Or.inl ⟨by rfl, ?_⟩) h3 ?_
      · intro w hSw; (try dsimp only at hSw); go_simp
      simp only [List.setIfInBounds_toArray, List.set_cons_zero, List.set_cons_succ]
      refine wpAnyH_ready (rs := [17]) (by kernel_rfl) (by simp) ?_
      refine AllReadyH.cons rfl (fun K hK => ?_) AllReadyH.nil
      go_simp
      have gb := World.grownBy_alloc w3 (.cells #[.slice (some ⟨nb, 0, none⟩) S.N ncap, .map (some mb), .slice p3 S.fl.length c3] 73) none
      have NN := heap_alloc_new w3 (.cells #[.slice (some ⟨nb, 0, none⟩) S.N ncap, .map (some mb), .slice p3 S.fl.length c3] 73)
      refine hK.out _ _ (grown_none_trans h3 gb) (fun h4 => ?_)
      clear hK K
      have CA : Hid (ClA w S L w3.heap.size (w3.alloc (.cells #[.slice (some ⟨nb, 0, none⟩) S.N ncap, .map (some mb), .slice p3 S.fl.length c3] 73))) := ⟨h4, h3.size, nb, ncap, mb, _, NN, Nat.le_trans h0.size o1, o2, fun g hg => Nat.le_trans h2.size (o3 g hg), R3.kept gb, M3.kept (Chg.of_none gb (fun _ => False)) (fun e => e), s3.kept (Chg.of_none gb (fun _ => False)) (fun _ _ e => e)⟩
      refine take_at (i := 18) (v := .pointer (some ⟨w3.heap.size, 0, none⟩)) rfl rfl (by kernel_rfl) (by kernel_rfl) (by kernel_rfl) (fun _ _ _ h => h) (Or.inl ⟨by rfl, ?_⟩) h4 ?_
      · intro w hSw; (try dsimp only at hSw); go_simp
      simp only [List.setIfInBounds_toArray, List.set_cons_zero, List.set_cons_succ]
      refine wpAnyH_done (by kernel_rfl) ?_ _
      refine NoPanic.normal ?_
      go_wp2_with fail
      go_meet
      case rel => exact ⟨_, rfl, CA⟩
    · go_simp
      go_at_call 27
      refine (CLP.out _ h1).mono ?_
      rintro e w2 ⟨v3, rfl, s2, g2, o3⟩
      go_wp2_with fail
      refine hK.out _ _ (grown_none_trans h1 g2) (fun h2 => ?_)
      clear hK K
      refine wpAnyH_ready (rs := [10]) (by kernel_rfl) (by simp) ?_
      refine AllReadyH.cons rfl (fun K hK => ?_) AllReadyH.nil
      go_simp
      have gm := World.grownBy_alloc w2 (.map #[] 0) none
      have M3 := Wm_new w2 h64
      have o2 : w.heap.size ≤ w2.heap.size := h2.size
      refine hK.out _ _ (grown_none_trans h2 gm) (fun h3 => ?_)
      clear hK K
      have R3 := (R1.kept g2).kept gm
      have s3 := s2.kept (Chg.of_none gm (fun _ => False)) (fun _ _ e => e)
      have h3 : w.grownBy (w2.alloc (.map #[] 0)) none := h3
      obtain ⟨mb, hmb⟩ : ∃ mb, mb = w2.heap.size := ⟨_, rfl⟩
      rw [← hmb] at M3 o2 ⊢
      clear hmb
      obtain ⟨p3, c3, rfl, _⟩ := s3.form
      refine take_at (i := 16) (v := .agg #[.slice (some ⟨nb, 0, none⟩) S.N ncap, .map (some mb), .slice p3 S.fl.length c3]) rfl rfl (by kernel_rfl) (by kernel_rfl) (by kernel_rfl) (fun _ _ _ h => h) (Or.inl ⟨by rfl, ?_⟩) h3 ?_
      · intro w hSw; (try dsimp only at hSw); go_simp
      simp only [List.setIfInBounds_toArray, List.set_cons_zero, List.set_cons_succ]
      refine wpAnyH_ready (rs := [17]) (by kernel_rfl) (by simp) ?_
      refine AllReadyH.cons rfl (fun K hK => ?_) AllReadyH.nil
      go_simp
      have gb := World.grownBy_alloc (w2.alloc (.map #[] 0)) (.cells #[.slice (some ⟨nb, 0, none⟩) S.N ncap, .map (some mb), .slice p3 S.fl.length c3] 73) none
      have NN := heap_alloc_new (w2.alloc (.map #[] 0)) (.cells #[.slice (some ⟨nb, 0, none⟩) S.N ncap, .map (some mb), .slice p3 S.fl.length c3] 73)
      refine hK.out _ _ (grown_none_trans h3 gb) (fun h4 => ?_)
      clear hK K
      have CA : Hid (ClA w S L (w2.alloc (.map #[] 0)).heap.size ((w2.alloc (.map #[] 0)).alloc (.cells #[.slice (some ⟨nb, 0, none⟩) S.N ncap, .map (some mb), .slice p3 S.fl.length c3] 73))) := ⟨h4, h3.size, nb, ncap, mb, _, NN, Nat.le_trans h0.size o1, o2, fun g hg => Nat.le_trans h1.size (o3 g hg), R3.kept gb, M3.kept (Chg.of_none gb (fun _ => False)) (fun e => e), s3.kept (Chg.of_none gb (fun _ => False)) (fun _ _ e => e)⟩
      refine take_at (i := 18) (v := .pointer (some ⟨(w2.alloc (.map #[] 0)).heap.size, 0, none⟩)) rfl rfl (by kernel_rfl) (by kernel_rfl) (by kernel_rfl) (fun _ _ _ h => h) (Or.inl ⟨by rfl, ?_⟩) h4 ?_
      · intro w hSw; (try dsimp only at hSw); go_simp
      simp only [List.setIfInBounds_toArray, List.set_cons_zero, List.set_cons_succ]
      refine wpAnyH_done (by kernel_rfl) ?_ _
      refine NoPanic.normal ?_
      go_wp2_with fail
      go_meet
      case rel => exact ⟨_, rfl, CA⟩
  case rest =>
    obtain ⟨cb, rfl, CA⟩ := hcut
    obtain ⟨nb, ncap, m, fv, hnet, onb, om, ofv, hrow, hmap, hfl⟩ := CA.out.ex
    have c0' : wc.cell? ⟨cb, 0, none⟩ = some (.slice (some ⟨nb, 0, none⟩) S.N ncap) := (cell_of_block hnet 0).trans rfl
    have B0 : Hid (ClB w S L cb nb ncap m fv 0 L.vs wc) := ⟨CA.out.gr, hnet, CA.out.ge, onb, om, ofv, hrow, hmap, hfl, fun i hi => by omega, fun _ _ => rfl, fun i j hi => by omega⟩
    obtain ⟨N, hN⟩ : ∃ N, N = S.N := ⟨_, rfl⟩
    have HN := mkHid hN
    rw [← hN] at c0'
    clear hnet hrow hmap hfl hN
    go_wp2_with fail
    go_loopw [30] (fun s30 wr => ∃ (k : Nat) (vs : Nat → Value), s30 = .int .i64 (k : Int) ∧ k ≤ N ∧ Hid (ClB w S L cb nb ncap m fv k vs wr)) (fun s30 _ => N - (intOf s30).toNat)
    case atStart => exact ⟨0, L.vs, rfl, Nat.zero_le _, B0⟩
    case round =>
      obtain ⟨k, vs, rfl, hk, CB⟩ := hrel
      by_cases hlt : k < N
      · have hlti : (k : Int) < (N : Int) := by omega
        have hkN : k < S.N := by rw [← show N = S.N from HN.out]; exact hlt
        obtain ⟨cur, hb, r1, r2, r3, r4⟩ := CB.out.row
        have x0 : wr.cell? ⟨cb, 0, none⟩ = some (.slice (some ⟨nb, 0, none⟩) N ncap) := by rw [show N = S.N from HN.out]; exact (cell_of_block CB.out.net 0).trans rfl
        have x1 : wr.cell? ⟨nb, k * 2 + 1, none⟩ = some (L.vs k) := by
          have := (cell_of_block hb (k * 2 + 1)).trans (r4 _ _ (ndC_get S vs k hkN).2)
          rw [CB.out.old k (Nat.le_refl _)] at this; exact this
        obtain ⟨pv, cv, hv, _⟩ := (H.out.wts k hkN).form
        rw [hv] at x1
        have CM : Hid (∀ W : World, wr.grownBy W none → Calls Try.prog 28 #[.slice pv (S.ms k).length cv] W fun e w' => ∃ p5 c5, e = .returned (.slice p5 (S.ms k).length c5) ∧ shr w' 82 2 (.slice p5 (S.ms k).length c5) (S.ms k).length (msC (S.ms k)) ∧ wr.grownBy w' none ∧ (∀ g, (Value.slice p5 (S.ms k).length c5).ownBlock = some g → wr.heap.size ≤ g) ∧ w'.cell? ⟨cb, 0, none⟩ = some (.slice (some ⟨nb, 0, none⟩) N ncap) ∧ w'.cell? ⟨nb, k * 2 + 1, none⟩ = some (.slice pv (S.ms k).length cv) ∧ w'.frozen? ⟨nb, k * 2 + 1, none⟩ = false) := fun W gW => by
          refine (CloneM (.slice pv (S.ms k).length cv) (S.ms k).length (msC (S.ms k)) (by rw [← hv]; exact ((H.out.kept CB.out.gr).kept gW).wts k hkN) (msC_one _) (hml k)).mono ?_
          rintro e w5 ⟨v5, rfl, s5, g5, o5⟩
          obtain ⟨p5, c5, rfl, _⟩ := s5.form
          have g6 := grown_none_trans gW g5
          refine ⟨p5, c5, rfl, s5, g6, fun g hg => Nat.le_trans gW.size (o5 g hg), ?_, ?_, ?_⟩
          · rw [show N = S.N from HN.out]; exact (cell_of_block (box_keep CB.out.net g6 (by simp)) 0).trans rfl
          · have := (cell_of_block (box_keep hb g6 (by simp)) (k * 2 + 1)).trans (r4 _ _ (ndC_get S vs k hkN).2)
            rw [CB.out.old k (Nat.le_refl _), hv] at this; exact this
          · exact unfrozen_of_block (box_keep hb g6 (by simp)) _
        have HV := mkHid hv
        clear hb r1 r2 r3 r4 hv
        go_wp2_with fail
        go_region_with ((go_at_call 28; refine (CM.out _ (grown_drew (grown_refl _))).mono ?_; rintro e w5 ⟨p5, c5, rfl, s5, g5, o5, y0, y1, yf⟩))
        all_goals
          have NB : Hid (ClB w S L cb nb ncap m fv (k + 1) (upd vs k (.slice p5 (S.ms k).length c5)) (w5.setCell ⟨nb, k * 2 + 1, none⟩ (.slice p5 (S.ms k).length c5))) := CB.out.next hkN s5 g5 o5
          clear s5 g5 o5
          go_wp2_with fail
          go_roundw
          case rel => exact ⟨k + 1, _, by go_num, hlt, NB⟩
          case measure => simp [intOf]; omega
      · obtain rfl : k = N := by omega
        have CBN : ClB w S L cb nb ncap m fv S.N vs wr := by rw [← show k = S.N from HN.out]; exact CB.out
        obtain ⟨n0, D, ho, hn0, _, hH, hF⟩ := H.out.map
        have ho' := ho.kept CBN.gr (by simp)
        have C0 := mkHid (CBN.ways H.out hF)
        have x1 : wr.cell? ⟨n, 1, none⟩ = some (.map (some L.m)) := (H.out.kept CBN.gr).cs.2.1
        have Lm : L.m < w.heap.size := H.out.pb _ H.out.pm
        have hsz := CBN.gr.size
        clear CBN CB ho
        go_wp2_with (first
          | (at_range; refine wpList_range_own _ rfl _ 70 rfl 76 84 keyE mapW hR L.m n0 D rfl ho' ?_; intro w0 hrg0 hg0 hs0)
          | go_in)
        (try go_frame)
        obtain ⟨r, hr⟩ : ∃ r, r = wr.heap.size := ⟨_, rfl⟩
        rw [← hr] at hrg0 ⊢
        have hro : w.heap.size ≤ r := by rw [hr]; exact hsz
        have C1 := mkHid (C0.out.kept hg0 (fun r e => by cases e))
        have szD : Maps.size D ≤ n0 := ho'.size_le
        clear C0 ho' hr hsz x1 hg0 hs0
        go_loopw [] (fun wr => ∃ (left : Lit → Bool) (cnt K : Nat) (uv : Nat → Nat → Value), wr.ranges Try.prog 76 hR L.m r n0 D left cnt ∧ Hid (ClC w S cb nb ncap m K fv vs uv left wr) ∧ K + cnt ≤ c ∧ (∀ kl, left kl = true → Maps.has D kl = true)) (fun wr => wr.rangeLeft L.m r)
        case atStart => exact ⟨_, _, 0, L.uv, hrg0, C1, by omega, fun _ h => h⟩
        case round =>
          obtain ⟨left, cnt, K, uv, hrg, CC, hKc, hsub⟩ := hrel
          go_wp2_with (first
            | (at_next; refine wpList_next_ranges _ rfl _ rfl 76 keyE hR (fun v => v) (fun v => v) (fun key kl _ => ⟨key, rfl⟩) (fun v y _ => ⟨v, rfl⟩) L.m r n0 D left cnt rfl hrg ?_ ?_)
            | go_in)
          · intro _ hl0
            have FIN : Hid (∃ L', NetL (fun i => w.heap.size ≤ i ∧ i < wr.heap.size) wr cb c S L') := by
              obtain ⟨L', h'⟩ := CC.out.fin hl0 H.out.n1 H.out.n64
              exact ⟨L', h'.le (by omega)⟩
            have GR := mkHid CC.out.gr
            clear hrg
            go_wp2_with fail
            go_ret
            obtain ⟨L', h'⟩ := FIN.out
            exact ⟨cb, L', rfl, h', GR.out⟩
          · intro x y kl yy yp w1 cnt1 hkey hlk hv hat hrg1 hlt1 hg1 hs1 hen
            obtain ⟨i, j, hi, hj, rfl⟩ := hH kl (hsub kl hlk)
            have hi64 : i < 64 := by omega
            have hj64 : j < 64 := by omega
            obtain rfl : x = ky i j := keyE.inj hkey (ky_in hi64 hj64)
            have ey : y = wyV (S.wy i j) (L.uv i j) := by
              have h1 := hat (.held zW)
              rw [hF i j hi64 hj64] at h1
              have h2 : yy = .held y := by
                have : some (DataW.held y, ([] : List MemPlace)) = some (yy, yp) := hv
                cases this; rfl
              rw [h2] at h1
              exact (DataW.held.inj h1).symm
            subst ey
            have hrk : wr.heap[r]? ≠ none := by
              have := hrg.lt
              rw [Array.getElem?_eq_getElem this]; simp
            have k0 : ∀ o, wr.heap[r]? = some o → kd wr r = 0 := fun o ho => by
              obtain ⟨es, clock, since, seen, c0, _, _, _, _, hri, _⟩ := hrg
              unfold kd; rw [hri]
            have C2 := CC.out.kept hg1 (fun q e => by cases e; exact ⟨hro, k0⟩)
            have hNw1 := H.out.kept C2.gr
            obtain ⟨pu, cu, hu, _⟩ := (hNw1.uns i j hi hj).form
            have CSS : Hid (∀ W : World, w1.grownBy W none → Calls Try.prog 29 #[.slice pu (S.wy i j).us.length cu] W (CpQ W 9 1 (S.wy i j).us.length (usC (S.wy i j).us))) := fun W gW => CloneS _ _ _ (by rw [← hu]; exact (hNw1.kept gW).uns i j hi hj) (usC_one _) (hul i j)
            have HU := mkHid hu
            have GA := mkHid (grown_al (grown_al (grown_refl w1) (.cells #[.int .i64 i, .int .i64 j] 76)) (.cells #[.int .u64 (S.wy i j).b, .int .u64 (S.wy i j).t, L.uv i j, .int .u64 (S.wy i j).c] 84))
            have B1 := mkHid (al2_fst w1 (.cells #[.int .i64 i, .int .i64 j] 76) (.cells #[.int .u64 (S.wy i j).b, .int .u64 (S.wy i j).t, L.uv i j, .int .u64 (S.wy i j).c] 84))
            have B2 := mkHid (al2_snd w1 (.cells #[.int .i64 i, .int .i64 j] 76) (.cells #[.int .u64 (S.wy i j).b, .int .u64 (S.wy i j).t, L.uv i j, .int .u64 (S.wy i j).c] 84))
            rw [hu] at GA B1 B2
            unfold ky wyV at hen
            unfold ky wyV
            rw [hu] at hen
            (try rw [hu])
            have HC2 := mkHid C2
            have HG1 := mkHid hrg1
            have HG0 := mkHid hrg
            clear hat hv hkey hu C2 hNw1 k0 hrk hrg1 hrg hg1 hs1 CC
            go_wp2_with fail
            refine (CSS.out _ GA.out).mono ?_
            rintro e w5 ⟨v5, rfl, s5, g5, o5⟩
            obtain ⟨p5, c5, rfl, _⟩ := s5.form
            have X1 := box_keep B1.out g5 (by simp)
            have X2 := box_keep B2.out g5 (by simp)
            obtain ⟨a0, a1, _⟩ := cells2 X1
            obtain ⟨d0, d1, d2, d3, df⟩ := cells4 X2
            have df2 := df 2
            have g15 := grown_none_trans GA.out g5
            have g16 : w1.grownBy (w5.setCell ⟨w1.heap.size + 1, 2, none⟩ (.slice p5 (S.wy i j).us.length c5)).drew none := grown_drew (grown_set g15 _ _ (Nat.le_succ _))
            have C6 := HC2.out.kept g16 (fun q e => by cases e)
            have kb : kd w5 (w1.heap.size + 1) = 84 + 2 := kd_cells X2
            have s6 := (s5.kept (Chg.of_cell w5 ⟨w1.heap.size + 1, 2, none⟩ (.slice p5 (S.wy i j).us.length c5)) (fun g hg e => by
              have e : g = w1.heap.size + 1 := e
              have := (s5.kd g hg).1
              rw [e, kb] at this; simp at this)).kept (Chg.drew (Chg.refl (fun _ => False) _)) (fun _ _ e => e)
            obtain ⟨w6, up, m6, g6⟩ := C6.map.put hi hj (wyV (S.wy i j) (.slice p5 (S.wy i j).us.length c5)) (by omega)
            have CN := mkHid (HC2.out.next H.out.n64 hi hj g16 s6 (fun g hg => Nat.le_trans GA.out.size (o5 g hg)) m6 g6)
            have omm : w.heap.size ≤ m := HC2.out.om
            have RN := mkHid ((HG1.out.kept g16 (by simp) (by simp)).kept g6 (by simp; omega) (by
              intro e
              have e : r = m := by simpa using e
              have h1 := C6.map.kd.1
              obtain ⟨es, clock, since, seen, c0, _, _, _, _, hri, _⟩ := HG1.out.kept g16 (by simp) (by simp)
              rw [← e] at h1
              unfold kd at h1
              rw [hri] at h1; simp at h1))
            have cbn : w5.cell? ⟨cb, 1, none⟩ = some (.map (some m)) := (cell_of_block (HC2.out.kept g15 (fun q e => by cases e)).net 1).trans rfl
            have ocb := lt_of_heap (HC2.out.net)
            have hcb : cb ≠ w1.heap.size + 1 := by omega
            have hcb2 : w1.heap.size + 1 ≠ cb := by omega
            unfold ky wyV at up
            clear s5 g5 o5 X1 X2 df g15 g16 C6 kb s6 m6 g6
            go_wp2_with fail
            go_region
            all_goals
              go_wp2_with fail
              go_roundw
              case rel => exact ⟨_, cnt1, K + 1, _, RN.out, CN, by omega, fun kl hl => hsub kl (by simp at hl; exact hl.1)⟩
              case measure => rw [RN.out.left_eq, HG0.out.left_eq]; exact hlt1
end Go.Proofs.Ytpghkbbhcpcbdaa
