/-
  Walks: a node's tick.
-/
import Derived.Test.YtbdlamlplfogjaaNtT
namespace Go.Proofs.Ytbdlamlplfogjaa
open Go.RowKit Go.Maps Go.Joins
variable {P : Nat → Prop} {w w' : World} {n c : Nat} {S : St} {L : Ly}

/-- the net with the first m of a way's unsure texts sent anew -/
def tickM (S : St) (i j : Nat) : Nat → St
  | 0 => S
  | m + 1 => flyS (tickM S i j m) ⟨i, j, false, (S.wy i j).t + 1 + m, (S.wy i j).b + 1, (S.wy i j).us.getD m ⟨#[]⟩⟩
/-- all ways of a node to the first k others -/
def tickK (S : St) (i : Nat) : Nat → St
  | 0 => S
  | k + 1 => tickM (tickK S i k) i k ((tickK S i k).wy i k).us.length
theorem flyS_N (S : St) (p : Pk) : (flyS S p).N = S.N := by unfold flyS; split <;> rfl
theorem flyS_wy (S : St) (p : Pk) : (flyS S p).wy = S.wy := by unfold flyS; split <;> rfl
theorem tickM_N (S : St) (i j : Nat) : ∀ m, (tickM S i j m).N = S.N
  | 0 => rfl
  | m + 1 => (flyS_N _ _).trans (tickM_N S i j m)
theorem tickM_wy (S : St) (i j : Nat) : ∀ m, (tickM S i j m).wy = S.wy
  | 0 => rfl
  | m + 1 => (flyS_wy _ _).trans (tickM_wy S i j m)
theorem tickK_N (S : St) (i : Nat) : ∀ k, (tickK S i k).N = S.N
  | 0 => rfl
  | k + 1 => (tickM_N _ _ _ _).trans (tickK_N S i k)
theorem tickK_wy (S : St) (i : Nat) : ∀ k, (tickK S i k).wy = S.wy
  | 0 => rfl
  | k + 1 => (tickM_wy _ _ _ _).trans (tickK_wy S i k)
/-- the net in the midst of a tick: where it lies, and two boxes beside it -/
def TkW (P : Nat → Prop) (w : World) (n c : Nat) (S : St) (L : Ly) (eb wb : Nat) (E W : Obj) (wr : World) : Prop := (∃ fv, NetL (ext P w wr) wr n c S { L with fv := fv } ∧ Chg P w wr) ∧ wr.heap[eb]? = some E ∧ wr.heap[wb]? = some W
/-- a packet that flies beside two boxes -/
theorem fly_box {eb wb : Nat} {cs ds : Array Value} {wr w8 : World} (h : TkW P w n c S L eb wb (.cells cs 76) (.cells ds 84) wr) (g8 : wr.grownBy w8 none) (p : Pk) : Calls Try.prog 48 #[.pointer (some ⟨n, 0, none⟩), pkV p] w8 fun e w' => e = .returned (.tuple #[]) ∧ TkW P w n c (flyS S p) L eb wb (.cells cs 76) (.cells ds 84) w' := by
  obtain ⟨⟨fv, hN, C⟩, he, hw⟩ := h
  have h8 := hN.kept g8
  have e8 := box_keep he g8 (by simp)
  have k8 := box_keep hw g8 (by simp)
  refine (fly_any h8.tight p).mono ?_
  rintro e w9 ⟨rfl, fv9, h9, c9⟩
  have n1 := h8.other (kd_cells e8) (by decide) (by decide) (by decide) (by decide) (by decide)
  have n2 := h8.other (kd_cells k8) (by decide) (by decide) (by decide) (by decide) (by decide)
  refine ⟨rfl, ⟨fv9, h9.more (fun i hi => ?_) (fun i hi => ?_), C.xtrans ((Chg.of_none g8 _).trans (c9.mono (fun i _ hi => h8.blkP i hi))) (fun i hi => hi)⟩, c9.at_ e8 n1, c9.at_ k8 n2⟩
  · rcases hi with hi | hi
    · rcases h8.blkP i hi with hi | hi
      · exact Or.inl hi
      · exact Or.inr ⟨hi.1, Nat.lt_of_lt_of_le hi.2 (Nat.le_trans g8.size c9.size)⟩
    · exact Or.inr ⟨Nat.le_trans (Nat.le_trans C.size g8.size) hi.1, hi.2⟩
  · rcases hi with hi | hi
    · exact Nat.lt_of_lt_of_le (hN.pb i (ext_le hi)) (Nat.le_trans g8.size c9.size)
    · exact hi.2
theorem usC_get {l : List ByteArray} {m : Nat} {x : ByteArray} (h : l[m]? = some x) : (usC l)[m]? = some (.string x) := by simp [usC, h]
/-- the m-th unsure text of a way, in memory -/
theorem NetL.ust (h : NetL P w n c S L) {i j m : Nat} (hi : i < S.N) (hj : j < S.N) {x : ByteArray} (hx : (S.wy i j).us[m]? = some x) : ∃ g off cap, L.uv i j = .slice (some ⟨g, off, none⟩) (S.wy i j).us.length cap ∧ w.cell? ⟨g, off + m, none⟩ = some (.string x) := by
  have hu := h.uns i j hi hj
  have hm := (List.getElem?_eq_some_iff.1 hx).1
  rcases hu.2 with ⟨_, h0⟩ | ⟨g, off, cap, cur, e, hb, _, _, _, hc⟩
  · omega
  · exact ⟨g, off, cap, e, (cell_of_block hb _).trans (hc m _ (usC_get hx))⟩
theorem u64w {z : Int} (h0 : 0 ≤ z) (h1 : z < 18446744073709551616) : IntKind.u64.wrap z = z := by
  simp only [IntKind.wrap]
  simp [IntKind.bits, IntKind.signed] <;> omega
def tickS (S : St) (k : Int) : St := if isS S k = true then tickK S k.toNat S.N else S
def isE (S : St) (k : Int) : Int := if isS S k = true then 0 else 60
set_option maxHeartbeats 4000000 in
set_option maxRecDepth 100000 in
theorem Tick_no (h : NetL P w n c S L) (k : Int) (hs : isS S k = false) : Calls Try.prog 22 #[.pointer (some ⟨n, 0, none⟩), .int .i64 k] w (ErQ P w n c (tickS S k) (isE S k)) := by
  have IS := mkHid (Is_any h k)
  rw [hs] at IS
  rw [show tickS S k = S from if_neg (by rw [hs]; simp), show isE S k = 60 from if_neg (by rw [hs]; simp)]
  have FNN := mkHid (h.upn (grown_refl w))
  clear h
  go_enter Try.func22, Try.ntmps22
  go_wp2_with fail
  refine IS.out.mono ?_
  rintro e w1 ⟨rfl, hwx⟩; have hwx2 := hwx.symm; subst hwx2; clear hwx
  go_wp2_with fail
  go_ret
  exact ⟨rfl, FNN.out⟩
set_option maxHeartbeats 4000000 in
set_option maxRecDepth 100000 in
theorem Tick_goes (h : NetL P w n c S L) (i : Nat) (hs : isS S (i : Int) = true) (hb : ∀ a b, (S.wy a b).b < 1000000000000) (ht0 : ∀ a b, (S.wy a b).t < 1000000000000) (hu0 : ∀ a b, (S.wy a b).us.length ≤ 4096) : Calls Try.prog 22 #[.pointer (some ⟨n, 0, none⟩), .int .i64 i] w (ErQ P w n c (tickS S i) (isE S i)) := by
  have IS := mkHid (Is_any h i)
  rw [hs] at IS
  have hi : i < S.N := by obtain ⟨a, h1, h2, _⟩ := isS_in hs; omega
  rw [show tickS S (i : Int) = tickK S i S.N from if_pos hs, show isE S (i : Int) = 0 from if_pos hs]
  obtain ⟨c0, _⟩ := h.cs
  have h64 := h.n64
  have U0 := mkHid (h.upn (grown_refl w))
  obtain ⟨N, hN⟩ : ∃ N, N = S.N := ⟨_, rfl⟩
  have HN := mkHid hN
  rw [← hN] at c0 ⊢
  clear h hN
  go_enter Try.func22, Try.ntmps22
  go_wp2_with fail
  refine IS.out.mono ?_
  rintro e w1 ⟨rfl, hwx⟩; have hwx2 := hwx.symm; subst hwx2; clear hwx
  go_wp2_with fail
  go_loopw [19] (fun s19 wr => ∃ k : Nat, s19 = .int .i64 (k : Int) ∧ k ≤ N ∧ Hid (UpN P w n c (tickK S i k) wr)) (fun s19 _ => N - (intOf s19).toNat)
  case atStart => exact ⟨0, rfl, Nat.zero_le _, U0⟩
  case round =>
    obtain ⟨k, rfl, hk, UP⟩ := hrel
    by_cases hlt : k < N
    · have hlti : (k : Int) < (N : Int) := by omega
      obtain ⟨L1, hL1, C1⟩ := UP.out
      have hkN : k < S.N := by rw [← show N = S.N from HN.out]; exact hlt
      have e1 : (tickK S i k).wy = S.wy := tickK_wy S i k
      have e2 : (tickK S i k).N = S.N := tickK_N S i k
      have sh := hL1.uns i k (by rw [e2]; exact hi) (by rw [e2]; exact hkN)
      rw [e1] at sh
      obtain ⟨pu, cu, hu, _⟩ := sh.form
      have LK : Hid (∀ W : World, wr.grownBy W none → W.cell? ⟨n, 1, none⟩ = some (.map (some L1.m)) ∧ (Instr.lookup 70 (.map (some L1.m)) (ky i k) false).run Try.prog W = .ok (wyV (S.wy i k) (.slice pu (S.wy i k).us.length cu)) W) := fun W gW => ⟨(hL1.kept gW).cs.2.1, by
        have := (hL1.kept gW).map.look (i := i) (j := k) (by omega) (by omega)
        rw [e1, hu] at this; exact this⟩
      have TW0 : Hid (TkW P w n c (tickM (tickK S i k) i k 0) L1 wr.heap.size (wr.heap.size + 1) (.cells #[.int .i64 i, .int .i64 k] 76) (.cells #[.int .u64 (S.wy i k).b, .int .u64 (S.wy i k).t, .slice pu (S.wy i k).us.length cu, .int .u64 (S.wy i k).c] 84) ((wr.alloc (.cells #[.int .i64 i, .int .i64 k] 76)).alloc (.cells #[.int .u64 (S.wy i k).b, .int .u64 (S.wy i k).t, .slice pu (S.wy i k).us.length cu, .int .u64 (S.wy i k).c] 84)).drew) := by
        have gg := grown_drew (grown_al (grown_al (grown_refl wr) (.cells #[.int .i64 i, .int .i64 k] 76)) (.cells #[.int .u64 (S.wy i k).b, .int .u64 (S.wy i k).t, .slice pu (S.wy i k).us.length cu, .int .u64 (S.wy i k).c] 84))
        refine ⟨⟨L1.fv, (hL1.kept gg).more (fun x hx => ?_) (fun x hx => ?_), C1.trans (Chg.of_none gg _)⟩, al2_fst wr _ _, al2_snd wr _ _⟩
        · rcases hx with hx | hx
          · exact Or.inl hx
          · exact Or.inr ⟨hx.1, Nat.lt_of_lt_of_le hx.2 gg.size⟩
        · rcases hx with hx | hx
          · exact Nat.lt_of_lt_of_le (hL1.pb x (ext_le hx)) gg.size
          · exact hx.2
      have EP := mkHid (fun w => epoch_any (S.wy i k) (.slice pu (S.wy i k).us.length cu) w (hb i k))
      unfold wyV at EP
      unfold ky wyV at LK
      have HU := mkHid hu
      have hn : n < wr.heap.size := hL1.pb n hL1.pn
      have EK : Hid (tickK S i (k + 1) = tickM (tickK S i k) i k (S.wy i k).us.length) := by
        show Hid (tickM (tickK S i k) i k ((tickK S i k).wy i k).us.length = _)
        rw [e1]; exact mkHid rfl
      have E1 := mkHid e1
      have E2 := mkHid e2
      have ht := ht0 i k
      have hul := hu0 i k
      clear hL1 C1 sh hu e1 e2
      go_wp2_with fail
      refine wp_region_noPanic ?_
      refine wp_region_held_drew (S := fun w' => wr.grownBy w' none ∧ w'.heap[wr.heap.size]? = some (.cells #[.int .i64 i, .int .i64 k] 76 (0, 0))) (by kernel_rfl) (⟨grown_drew (grown_al (grown_refl wr) _), heap_alloc_new wr _⟩) (fun hL0 => ?_)
      refine take_at (i := 0) (v := .pointer (some ⟨n, 0, none⟩)) rfl rfl (by kernel_rfl) (by kernel_rfl) (by kernel_rfl) (fun _ _ _ h => h) (Or.inl ⟨by rfl, ?_⟩) hL0 ?_
      · intro w hSw; (try dsimp only at hSw); obtain ⟨gS, x6⟩ := hSw; obtain ⟨q1, q2⟩ := LK.out _ gS; obtain ⟨a0, a1, _⟩ := cells2 x6; go_simp
      simp only [List.setIfInBounds_toArray, List.set_cons_zero, List.set_cons_succ]
      refine take_at (i := 1) (v := .pointer (some ⟨n, 0, none⟩)) rfl rfl (by kernel_rfl) (by kernel_rfl) (by kernel_rfl) (fun _ _ _ h => h) (Or.inl ⟨by rfl, ?_⟩) hL0 ?_
      · intro w hSw; (try dsimp only at hSw); obtain ⟨gS, x6⟩ := hSw; obtain ⟨q1, q2⟩ := LK.out _ gS; obtain ⟨a0, a1, _⟩ := cells2 x6; go_simp
      simp only [List.setIfInBounds_toArray, List.set_cons_zero, List.set_cons_succ]
      refine take_at (i := 2) (v := .pointer (some ⟨n, 1, none⟩)) rfl rfl (by kernel_rfl) (by kernel_rfl) (by kernel_rfl) (fun _ _ _ h => h) (Or.inl ⟨by rfl, ?_⟩) hL0 ?_
      · intro w hSw; (try dsimp only at hSw); obtain ⟨gS, x6⟩ := hSw; obtain ⟨q1, q2⟩ := LK.out _ gS; obtain ⟨a0, a1, _⟩ := cells2 x6; go_simp
      simp only [List.setIfInBounds_toArray, List.set_cons_zero, List.set_cons_succ]
      refine take_at (i := 3) (v := .map (some L1.m)) rfl rfl (by kernel_rfl) (by kernel_rfl) (by kernel_rfl) (fun _ _ _ h => h) (Or.inl ⟨by rfl, ?_⟩) hL0 ?_
      · intro w hSw; (try dsimp only at hSw); obtain ⟨gS, x6⟩ := hSw; obtain ⟨q1, q2⟩ := LK.out _ gS; obtain ⟨a0, a1, _⟩ := cells2 x6; go_simp
      simp only [List.setIfInBounds_toArray, List.set_cons_zero, List.set_cons_succ]
      refine take_at (i := 4) (v := .agg #[.int .i64 i, .int .i64 k]) rfl rfl (by kernel_rfl) (by kernel_rfl) (by kernel_rfl) (fun _ _ _ h => h) (Or.inl ⟨by rfl, ?_⟩) hL0 ?_
      · intro w hSw; (try dsimp only at hSw); obtain ⟨gS, x6⟩ := hSw; obtain ⟨q1, q2⟩ := LK.out _ gS; obtain ⟨a0, a1, _⟩ := cells2 x6; go_simp
      simp only [List.setIfInBounds_toArray, List.set_cons_zero, List.set_cons_succ]
      refine take_at (i := 5) (v := .agg #[.int .u64 (S.wy i k).b, .int .u64 (S.wy i k).t, .slice pu (S.wy i k).us.length cu, .int .u64 (S.wy i k).c]) rfl rfl (by kernel_rfl) (by kernel_rfl) (by kernel_rfl) (fun _ _ _ h => h) (Or.inl ⟨by rfl, ?_⟩) hL0 ?_
      · intro w hSw; (try dsimp only at hSw); obtain ⟨gS, x6⟩ := hSw; obtain ⟨q1, q2⟩ := LK.out _ gS; obtain ⟨a0, a1, _⟩ := cells2 x6; go_simp
      simp only [List.setIfInBounds_toArray, List.set_cons_zero, List.set_cons_succ]
      refine wpAnyH_ready (rs := [6]) (by kernel_rfl) (by simp) ?_
      refine AllReadyH.cons rfl (fun K hK => ?_) AllReadyH.nil
      go_simp
      refine hK.out _ _ ⟨grown_drew (grown_al (grown_al (grown_refl wr) _) _), al2_fst wr _ _⟩ (fun hL1 => ?_)
      clear hK K
      refine wpAnyH_ready (rs := [7]) (by kernel_rfl) (by simp) ?_
      refine AllReadyH.cons rfl (fun K hK => ?_) AllReadyH.nil
      go_simp
      refine hK.out _ _ ⟨grown_drew (grown_al (grown_al (grown_refl wr) _) _), al2_fst wr _ _⟩ (fun hL2 => ?_)
      clear hK K
      refine wpAnyH_done (by kernel_rfl) ?_ _
      refine NoPanic.normal ?_
      clear hL0 hL1 hL2
      generalize hWr : ((wr.alloc (.cells #[.int .i64 i, .int .i64 k] 76)).alloc (.cells #[.int .u64 (S.wy i k).b, .int .u64 (S.wy i k).t, .slice pu (S.wy i k).us.length cu, .int .u64 (S.wy i k).c] 84)).drew = wx at TW0 ⊢
      generalize heb : wr.heap.size = eb at TW0 ⊢
      obtain ⟨wb, hwb⟩ : ∃ wb, wb = eb + 1 := ⟨_, rfl⟩
      rw [← hwb] at TW0 ⊢
      have D0 := (cells4 TW0.out.2.2).2.2.1
      clear hWr LK UP hwb heb
      go_wp2_with fail
      clear D0
      go_loopw [34] (fun s34 wr_1 => ∃ m : Nat, s34 = .int .i64 (m : Int) ∧ m ≤ (S.wy i k).us.length ∧ Hid (TkW P w n c (tickM (tickK S i k) i k m) L1 eb wb (.cells #[.int .i64 i, .int .i64 k] 76) (.cells #[.int .u64 (S.wy i k).b, .int .u64 (S.wy i k).t, .slice pu (S.wy i k).us.length cu, .int .u64 (S.wy i k).c] 84) wr_1)) (fun s34 _ => (S.wy i k).us.length - (intOf s34).toNat)
      case atStart => exact ⟨0, rfl, Nat.zero_le _, TW0⟩
      case round =>
        obtain ⟨m, rfl, hm, TW⟩ := hrel
        by_cases hlm : m < (S.wy i k).us.length
        · have hlmi : (m : Int) < ((S.wy i k).us.length : Int) := by omega
          obtain ⟨x, hx⟩ : ∃ x, (S.wy i k).us[m]? = some x := ⟨_, List.getElem?_eq_getElem hlm⟩
          have EM : Hid (tickM (tickK S i k) i k (m + 1) = flyS (tickM (tickK S i k) i k m) ⟨i, k, false, (S.wy i k).t + 1 + m, (S.wy i k).b + 1, x⟩) := by
            show Hid (flyS (tickM (tickK S i k) i k m) ⟨i, k, false, ((tickK S i k).wy i k).t + 1 + m, ((tickK S i k).wy i k).b + 1, ((tickK S i k).wy i k).us.getD m ⟨#[]⟩⟩ = _)
            rw [E1.out, List.getD_eq_getElem?_getD, hx]; exact mkHid rfl
          obtain ⟨fv, hN2, C2⟩ := TW.out.1
          have x1 : ((tickM (tickK S i k) i k m).wy i k).us[m]? = some x := by rw [tickM_wy, E1.out]; exact hx
          obtain ⟨g, off, cap, hv, hcell⟩ := hN2.ust (i := i) (j := k) (m := m) (by rw [tickM_N, E2.out]; exact hi) (by rw [tickM_N, E2.out]; exact hkN) x1
          rw [tickM_wy, E1.out] at hv
          have hv2 : pu = some ⟨g, off, none⟩ := by
            have h1 : L1.uv i k = .slice pu (S.wy i k).us.length cu := HU.out
            have h2 : L1.uv i k = _ := hv
            rw [h1] at h2; cases h2; rfl
          subst hv2
          clear hN2 C2 hx x1 hv
          go_wp2_with fail
          refine wp_region_noPanic ?_
          refine wp_region_held_drew (S := fun w' => w'.heap[eb]? = some (.cells #[.int .i64 i, .int .i64 k] 76 (0, 0)) ∧ w'.heap[wb]? = some (.cells #[.int .u64 (S.wy i k).b, .int .u64 (S.wy i k).t, .slice (some ⟨g, off, none⟩) (S.wy i k).us.length cu, .int .u64 (S.wy i k).c] 84 (0, 0))) (by kernel_rfl) (⟨TW.out.2.1, TW.out.2.2⟩) (fun hF0 => ?_)
          refine take_at (i := 0) (v := .pointer (some ⟨n, 0, none⟩)) rfl rfl (by kernel_rfl) (by kernel_rfl) (by kernel_rfl) (fun _ _ _ h => h) (Or.inl ⟨by rfl, ?_⟩) hF0 ?_
          · intro w hSw; (try dsimp only at hSw); obtain ⟨x6, x4⟩ := hSw; obtain ⟨a0, a1, _⟩ := cells2 x6; obtain ⟨d0, d1, d2, d3, _⟩ := cells4 x4; go_simp
          simp only [List.setIfInBounds_toArray, List.set_cons_zero, List.set_cons_succ]
          refine take_at (i := 1) (v := .agg #[.int .i64 i, .int .i64 k]) rfl rfl (by kernel_rfl) (by kernel_rfl) (by kernel_rfl) (fun _ _ _ h => h) (Or.inl ⟨by rfl, ?_⟩) hF0 ?_
          · intro w hSw; (try dsimp only at hSw); obtain ⟨x6, x4⟩ := hSw; obtain ⟨a0, a1, _⟩ := cells2 x6; obtain ⟨d0, d1, d2, d3, _⟩ := cells4 x4; go_simp
          simp only [List.setIfInBounds_toArray, List.set_cons_zero, List.set_cons_succ]
          refine take_at (i := 2) (v := .pointer (some ⟨wb, 1, none⟩)) rfl rfl (by kernel_rfl) (by kernel_rfl) (by kernel_rfl) (fun _ _ _ h => h) (Or.inl ⟨by rfl, ?_⟩) hF0 ?_
          · intro w hSw; (try dsimp only at hSw); obtain ⟨x6, x4⟩ := hSw; obtain ⟨a0, a1, _⟩ := cells2 x6; obtain ⟨d0, d1, d2, d3, _⟩ := cells4 x4; go_simp
          simp only [List.setIfInBounds_toArray, List.set_cons_zero, List.set_cons_succ]
          refine take_at (i := 3) (v := .int .u64 (S.wy i k).t) rfl rfl (by kernel_rfl) (by kernel_rfl) (by kernel_rfl) (fun _ _ _ h => h) (Or.inl ⟨by rfl, ?_⟩) hF0 ?_
          · intro w hSw; (try dsimp only at hSw); obtain ⟨x6, x4⟩ := hSw; obtain ⟨a0, a1, _⟩ := cells2 x6; obtain ⟨d0, d1, d2, d3, _⟩ := cells4 x4; go_simp
          simp only [List.setIfInBounds_toArray, List.set_cons_zero, List.set_cons_succ]
          refine take_at (i := 4) (v := .int .u64 (((S.wy i k).t : Int) + 1)) rfl rfl (by kernel_rfl) (by kernel_rfl) (by kernel_rfl) (fun _ _ _ h => h) (Or.inl ⟨by rfl, ?_⟩) hF0 ?_
          · intro w hSw; (try dsimp only at hSw); obtain ⟨x6, x4⟩ := hSw; obtain ⟨a0, a1, _⟩ := cells2 x6; obtain ⟨d0, d1, d2, d3, _⟩ := cells4 x4; go_simp; (first | done | exact u64w (by omega) (by omega))
          simp only [List.setIfInBounds_toArray, List.set_cons_zero, List.set_cons_succ]
          refine take_at (i := 5) (v := .int .i64 m) rfl rfl (by kernel_rfl) (by kernel_rfl) (by kernel_rfl) (fun _ _ _ h => h) (Or.inl ⟨by rfl, ?_⟩) hF0 ?_
          · intro w hSw; (try dsimp only at hSw); obtain ⟨x6, x4⟩ := hSw; obtain ⟨a0, a1, _⟩ := cells2 x6; obtain ⟨d0, d1, d2, d3, _⟩ := cells4 x4; go_simp
          simp only [List.setIfInBounds_toArray, List.set_cons_zero, List.set_cons_succ]
          refine take_at (i := 6) (v := .int .u64 m) rfl rfl (by kernel_rfl) (by kernel_rfl) (by kernel_rfl) (fun _ _ _ h => h) (Or.inl ⟨by rfl, ?_⟩) hF0 ?_
          · intro w hSw; (try dsimp only at hSw); obtain ⟨x6, x4⟩ := hSw; obtain ⟨a0, a1, _⟩ := cells2 x6; obtain ⟨d0, d1, d2, d3, _⟩ := cells4 x4; go_simp; (first | done | exact u64w (by omega) (by omega))
          simp only [List.setIfInBounds_toArray, List.set_cons_zero, List.set_cons_succ]
          refine take_at (i := 7) (v := .int .u64 (((S.wy i k).t : Int) + 1 + (m : Int))) rfl rfl (by kernel_rfl) (by kernel_rfl) (by kernel_rfl) (fun _ _ _ h => h) (Or.inl ⟨by rfl, ?_⟩) hF0 ?_
          · intro w hSw; (try dsimp only at hSw); obtain ⟨x6, x4⟩ := hSw; obtain ⟨a0, a1, _⟩ := cells2 x6; obtain ⟨d0, d1, d2, d3, _⟩ := cells4 x4; go_simp; (first | done | exact u64w (by omega) (by omega))
          simp only [List.setIfInBounds_toArray, List.set_cons_zero, List.set_cons_succ]
          refine take_at (i := 8) (v := .agg #[.int .u64 (S.wy i k).b, .int .u64 (S.wy i k).t, .slice (some ⟨g, off, none⟩) (S.wy i k).us.length cu, .int .u64 (S.wy i k).c]) rfl rfl (by kernel_rfl) (by kernel_rfl) (by kernel_rfl) (fun _ _ _ h => h) (Or.inl ⟨by rfl, ?_⟩) hF0 ?_
          · intro w hSw; (try dsimp only at hSw); obtain ⟨x6, x4⟩ := hSw; obtain ⟨a0, a1, _⟩ := cells2 x6; obtain ⟨d0, d1, d2, d3, _⟩ := cells4 x4; go_simp
          simp only [List.setIfInBounds_toArray, List.set_cons_zero, List.set_cons_succ]
          refine take_at (i := 10) (v := .string x) rfl rfl (by kernel_rfl) (by kernel_rfl) (by kernel_rfl) (fun _ _ _ h => h) (Or.inl ⟨by rfl, ?_⟩) hF0 ?_
          · intro w hSw; (try dsimp only at hSw); obtain ⟨x6, x4⟩ := hSw; obtain ⟨a0, a1, _⟩ := cells2 x6; obtain ⟨d0, d1, d2, d3, _⟩ := cells4 x4; go_simp
          simp only [List.setIfInBounds_toArray, List.set_cons_zero, List.set_cons_succ]
          refine wpAnyH_ready (rs := [9]) (by kernel_rfl) (by simp) ?_
          refine AllReadyH.cons rfl (fun K hK => ?_) AllReadyH.nil
          go_simp
          go_at_call 50
          refine (EP.out _).mono ?_
          rintro e w7 ⟨rfl, g7⟩
          have g7b : wr.grownBy w7 none := ⟨g7.os, g7.tape, g7.output, g7.size, g7.block⟩
          go_wp2_with fail
          refine hK.out _ _ ⟨box_keep TW.out.2.1 g7b (by simp), box_keep TW.out.2.2 g7b (by simp)⟩ (fun hF1 => ?_)
          clear hK K
          refine take_at (i := 11) (v := .agg #[.int .i64 i, .int .i64 k, .bool false, .int .u64 (((S.wy i k).t : Int) + 1 + (m : Int)), .int .u64 (((S.wy i k).b + 1 : Nat) : Int), .string x]) rfl rfl (by kernel_rfl) (by kernel_rfl) (by kernel_rfl) (fun _ _ _ h => h) (Or.inl ⟨by rfl, ?_⟩) hF1 ?_
          · intro w hSw; (try dsimp only at hSw); obtain ⟨x6, x4⟩ := hSw; obtain ⟨a0, a1, _⟩ := cells2 x6; obtain ⟨d0, d1, d2, d3, _⟩ := cells4 x4; go_simp
          simp only [List.setIfInBounds_toArray, List.set_cons_zero, List.set_cons_succ]
          have F8 := mkHid (fly_box TW.out g7b ⟨i, k, false, (S.wy i k).t + 1 + m, (S.wy i k).b + 1, x⟩)
          unfold pkV at F8
          simp only [show (((S.wy i k).t + 1 + m : Nat) : Int) = ((S.wy i k).t : Int) + 1 + (m : Int) from rfl] at F8
          refine wpAnyH_ready (rs := [12]) (by kernel_rfl) (by simp) ?_
          refine AllReadyH.cons rfl (fun K hK => ?_) AllReadyH.nil
          go_simp
          go_at_call 48
          refine F8.out.mono ?_
          rintro e w9 ⟨rfl, T9⟩
          have TZ := mkHid T9
          clear T9
          go_wp2_with fail
          refine hK.out _ _ ⟨TZ.out.2.1, TZ.out.2.2⟩ (fun hF2 => ?_)
          clear hK K
          refine wpAnyH_done (by kernel_rfl) ?_ _
          refine NoPanic.normal ?_
          clear hF0 hF1 hF2 g7 g7b
          rw [← EM.out] at TZ
          go_wp2_with fail
          go_roundw
          case rel => exact ⟨m + 1, by go_num, hlm, TZ⟩
          case measure => simp [intOf]; omega
        · obtain rfl : m = (S.wy i k).us.length := by omega
          have UN : Hid (UpN P w n c (tickK S i (k + 1)) wr) := by
            rw [EK.out]
            obtain ⟨fv, h1, h2⟩ := TW.out.1
            exact ⟨_, h1, h2⟩
          go_wp2_with fail
          go_roundw
          case rel => exact ⟨k + 1, by go_num, hlt, UN⟩
          case measure => simp [intOf]; omega
    · obtain rfl : k = N := by omega
      go_wp2_with fail
      go_ret
      exact ⟨rfl, UP.out⟩
theorem Tick_any (h : NetL P w n c S L) (k : Int) (hb : ∀ a b, (S.wy a b).b < 1000000000000) (ht0 : ∀ a b, (S.wy a b).t < 1000000000000) (hu0 : ∀ a b, (S.wy a b).us.length ≤ 4096) : Calls Try.prog 22 #[.pointer (some ⟨n, 0, none⟩), .int .i64 k] w (ErQ P w n c (tickS S k) (isE S k)) := by
  cases hs : isS S k with
  | false => exact Tick_no h k hs
  | true =>
    obtain ⟨i, rfl, _⟩ := isS_in hs
    exact Tick_goes h i hs hb ht0 hu0
end Go.Proofs.Ytbdlamlplfogjaa
