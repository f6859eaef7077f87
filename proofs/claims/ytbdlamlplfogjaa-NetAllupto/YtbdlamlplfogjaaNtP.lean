/-
  Walks: a message that is sent.
-/
import Derived.Test.YtbdlamlplfogjaaNtO
namespace Go.Proofs.Ytbdlamlplfogjaa
open Go.RowKit Go.Maps Go.Joins
variable {P : Nat → Prop} {w w' : World} {n c : Nat} {S : St} {L : Ly}

/-- what Send answers, and the net behind it -/
def sendE (S : St) (f t : Int) (l : Nat) : Int := if isS S f = true ∧ 0 ≤ t ∧ t < S.N then (if 65536 < l ∨ (S.wy f.toNat t.toNat).us.length = 4096 then 2 else 0) else 60
def sendT (S : St) (f t : Int) (x : ByteArray) : St := if isS S f = true ∧ 0 ≤ t ∧ t < S.N then (if 65536 < x.data.toList.length ∨ (S.wy f.toNat t.toNat).us.length = 4096 then S else sendS S f.toNat t.toNat x) else S
set_option maxHeartbeats 2000000 in
set_option maxRecDepth 100000 in
theorem Send_no (h : NetL P w n c S L) (f t : Int) (v : Value) (hf : isS S f = false) : Calls Try.prog 14 #[.pointer (some ⟨n, 0, none⟩), .int .i64 f, .int .i64 t, v] w (ErQ P w n (c + 1) S 60) := by
  have IS := mkHid (Is_any h f)
  rw [hf] at IS
  have FNN := mkHid ((h.upn (grown_refl w)).le (c2 := c + 1) (by omega))
  clear h
  go_enter Try.func14, Try.ntmps14
  go_wp2_with fail
  refine IS.out.mono ?_
  rintro e w1 ⟨rfl, hwx⟩; have hwx2 := hwx.symm; subst hwx2; clear hwx
  go_wp2_with fail
  go_ret
  exact ⟨rfl, FNN.out⟩
set_option maxHeartbeats 2000000 in
set_option maxRecDepth 100000 in
theorem Send_to (h : NetL P w n c S L) (f t : Int) (v : Value) (hf : isS S f = true) (ht : ¬ (0 ≤ t ∧ t < S.N)) : Calls Try.prog 14 #[.pointer (some ⟨n, 0, none⟩), .int .i64 f, .int .i64 t, v] w (ErQ P w n (c + 1) S 60) := by
  have IS := mkHid (Is_any h f)
  rw [hf] at IS
  have HS := mkHid (has_any h t)
  rw [decide_eq_false ht] at HS
  have FNN := mkHid ((h.upn (grown_refl w)).le (c2 := c + 1) (by omega))
  clear h ht
  go_enter Try.func14, Try.ntmps14
  go_wp2_with fail
  refine IS.out.mono ?_
  rintro e w1 ⟨rfl, hwx⟩; have hwx2 := hwx.symm; subst hwx2; clear hwx
  go_wp2_with fail
  refine HS.out.mono ?_
  rintro e w1 ⟨rfl, hwx⟩; have hwx2 := hwx.symm; subst hwx2; clear hwx
  go_wp2_with fail
  go_ret
  exact ⟨rfl, FNN.out⟩
set_option maxHeartbeats 2000000 in
set_option maxRecDepth 100000 in
theorem Send_long (h : NetL P w n c S L) (i j : Nat) (p : Option Addr) (l cap : Nat) (hf : isS S (i : Int) = true) (hj : j < S.N) (hl : 65536 < l ∨ (S.wy i j).us.length = 4096) : Calls Try.prog 14 #[.pointer (some ⟨n, 0, none⟩), .int .i64 i, .int .i64 j, .slice p l cap] w (ErQ P w n (c + 1) S 2) := by
  have IS := mkHid (Is_any h i)
  rw [hf] at IS
  have hi : i < S.N := by obtain ⟨a, h1, h2, _⟩ := isS_in hf; omega
  have HS := mkHid (has_any h j)
  rw [decide_eq_true (by omega)] at HS
  have h64 := h.n64
  have gb := grown_drew (grown_al (grown_refl w) (.cells #[.int .i64 i, .int .i64 j] 76))
  have lk := (h.kept gb).map.look (i := i) (j := j) (by omega) (by omega)
  have lk2 := (h.kept (grown_drew (grown_al (grown_al (grown_refl w) (.cells #[.int .i64 i, .int .i64 j] 76)) (.cells #[.int .u64 0, .int .u64 0, .slice none 0 0, .int .u64 0] 84)))).map.look (i := i) (j := j) (by omega) (by omega)
  obtain ⟨c0, c1, c2, _⟩ := h.cs
  have hn := lt_of_heap h.net
  obtain ⟨pu, cu, hu, _⟩ := (h.uns i j hi hj).form
  have GB := mkHid (grown_drew (grown_al (grown_al (grown_refl w) (.cells #[.int .i64 i, .int .i64 j] 76)) (.cells #[.int .u64 (S.wy i j).b, .int .u64 (S.wy i j).t, L.uv i j, .int .u64 (S.wy i j).c] 84)))
  have FNN := mkHid ((h.upn GB.out).le (c2 := c + 1) (by omega))
  unfold ky wyV at lk lk2
  rw [hu] at lk lk2 FNN
  clear h gb hu GB
  rcases Nat.lt_or_ge 65536 l with h1 | h1
  · have h1' : (65536 : Int) < (l : Int) := by omega
    clear hl
    go_enter Try.func14, Try.ntmps14
    go_wp2_with fail
    refine IS.out.mono ?_
    rintro e w1 ⟨rfl, hwx⟩; have hwx2 := hwx.symm; subst hwx2; clear hwx
    go_wp2_with fail
    refine HS.out.mono ?_
    rintro e w1 ⟨rfl, hwx⟩; have hwx2 := hwx.symm; subst hwx2; clear hwx
    go_wp2_with fail
    go_region
    all_goals
      go_wp2_with fail
      go_ret
      exact ⟨rfl, FNN.out⟩
  · have h1' : ¬ (65536 : Int) < (l : Int) := by omega
    have h2 : (((S.wy i j).us.length : Int) == 4096) = true := by rw [beq_iff_eq]; omega
    clear hl
    go_enter Try.func14, Try.ntmps14
    go_wp2_with fail
    refine IS.out.mono ?_
    rintro e w1 ⟨rfl, hwx⟩; have hwx2 := hwx.symm; subst hwx2; clear hwx
    go_wp2_with fail
    refine HS.out.mono ?_
    rintro e w1 ⟨rfl, hwx⟩; have hwx2 := hwx.symm; subst hwx2; clear hwx
    go_wp2_with fail
    go_region
    all_goals
      go_wp2_with fail
      go_ret
      exact ⟨rfl, FNN.out⟩
set_option maxHeartbeats 2000000 in
set_option maxRecDepth 100000 in
theorem Send_ok (h : NetL P w n c S L) (i j : Nat) (p : Option Addr) (l : List UInt8) (cap : Nat) (hf : isS S (i : Int) = true) (hj : j < S.N) (h1 : l.length ≤ 65536) (h2 : (S.wy i j).us.length < 4096) (hby : bys w p l) (hcap : p = none → cap = 0) (hb : (S.wy i j).b < 100000000000) (ht : (S.wy i j).t < 100000000000) (hc : c ≤ 1000000000) : Calls Try.prog 14 #[.pointer (some ⟨n, 0, none⟩), .int .i64 i, .int .i64 j, .slice p l.length cap] w (ErQ P w n (c + 1) (sendS S i j ⟨l.toArray⟩) 0) := by
  have IS := mkHid (Is_any h i)
  rw [hf] at IS
  have hi : i < S.N := by obtain ⟨a, h1, h2, _⟩ := isS_in hf; omega
  have HS := mkHid (has_any h j)
  rw [decide_eq_true (by omega)] at HS
  have h64 := h.n64
  have gb := grown_drew (grown_al (grown_refl w) (.cells #[.int .i64 i, .int .i64 j] 76))
  have lk := (h.kept gb).map.look (i := i) (j := j) (by omega) (by omega)
  have lk2 := (h.kept (grown_drew (grown_al (grown_al (grown_refl w) (.cells #[.int .i64 i, .int .i64 j] 76)) (.cells #[.int .u64 0, .int .u64 0, .slice none 0 0, .int .u64 0] 84)))).map.look (i := i) (j := j) (by omega) (by omega)
  obtain ⟨c0, c1, c2, _⟩ := h.cs
  have hn := lt_of_heap h.net
  obtain ⟨pu, cu, hu, _⟩ := (h.uns i j hi hj).form
  have GB := mkHid (grown_drew (grown_al (grown_al (grown_refl w) (.cells #[.int .i64 i, .int .i64 j] 76)) (.cells #[.int .u64 (S.wy i j).b, .int .u64 (S.wy i j).t, L.uv i j, .int .u64 (S.wy i j).c] 84)))
  have GC := mkHid (grown_drew (grown_al (grown_al (grown_al (grown_refl w) (.cells #[.int .i64 i, .int .i64 j] 76)) (.cells #[.int .u64 (S.wy i j).b, .int .u64 (S.wy i j).t, L.uv i j, .int .u64 (S.wy i j).c] 84)) (.cells #[.string ⟨l.toArray⟩] 9)))
  obtain ⟨p', c', w4, w6, hr, b1, b2, b3, up, b5, b6, U6⟩ := h.send_run hi hj ⟨l.toArray⟩ (by omega) hc GC.out (g := w.heap.size + 2) (al3_3 _ _ _ _) (wb := w.heap.size + 1) (eb := w.heap.size) (al3_2 _ _ _ _) (al3_1 _ _ _ _) (by omega)
  have cv := (hby.chg (Chg.of_none GB.out (fun _ => False)) (fun _ _ e => e)).conv cap hcap
  have FY : Hid (∀ w8, w6.grownBy w8 none → Calls Try.prog 48 #[.pointer (some ⟨n, 0, none⟩), pkV (sentP S i j ⟨l.toArray⟩)] w8 fun e w' => e = .returned (.tuple #[]) ∧ UpN P w n (c + 1) (sendS S i j ⟨l.toArray⟩) w' ∧ ∀ b t, (t = 76 ∨ t = 84) → kd w6 b = t + 2 → w'.heap[b]? = w6.heap[b]?) := fun w8 g8 => send_fly U6 g8 _
  have ST := mkHid (fun w => sent_any (sentW S i j ⟨l.toArray⟩) p' c' w (show (S.wy i j).t < _ by omega) (show ((S.wy i j).us ++ [(⟨l.toArray⟩ : ByteArray)]).length < _ by rw [List.length_append, List.length_singleton]; omega))
  have EP := mkHid (fun w => epoch_any (sentW S i j ⟨l.toArray⟩) (.slice p' ((S.wy i j).us.length + 1) c') w (show (S.wy i j).b < _ by omega))
  have n1 : w4.cell? ⟨n, 1, none⟩ = some (.map (some L.m)) := by
    have e := b3.trans (h.kept GC.out).net
    exact (cell_of_block e 1).trans rfl
  have hn4 : n ≠ w.heap.size + 1 := by omega
  have hn4' : w.heap.size + 1 ≠ n := by omega
  obtain ⟨x0, x1, x2, x3, xf⟩ := cells4 b1
  obtain ⟨y0, y1, _⟩ := cells2 b2
  have xf2 := xf 2
  have h1' : ¬ (65536 : Int) < (l.length : Int) := by omega
  have h2' : (((S.wy i j).us.length : Int) == 4096) = false := by rw [beq_eq_false_iff_ne]; omega
  unfold ky wyV sentW at up
  unfold ky wyV at lk lk2
  rw [hu] at lk lk2 x2 hr cv
  have B5 := mkHid b5
  have B6 := mkHid b6
  have hlen : ((S.wy i j).us ++ [(⟨l.toArray⟩ : ByteArray)]).length = (S.wy i j).us.length + 1 := by simp
  clear h gb GB GC U6 b1 b2 b3 b5 b6 xf hby hcap
  go_enter Try.func14, Try.ntmps14
  go_wp2_with fail
  refine IS.out.mono ?_
  rintro e w1 ⟨rfl, hwx⟩; have hwx2 := hwx.symm; subst hwx2; clear hwx
  go_wp2_with fail
  refine HS.out.mono ?_
  rintro e w1 ⟨rfl, hwx⟩; have hwx2 := hwx.symm; subst hwx2; clear hwx
  go_wp2_with fail
  go_region
  all_goals
    go_wp2_with (first | (at_builtin; refine wp_app 49 rfl (.tmp 43) (.tmp 45) rfl rfl rfl hr ?_) | fail)
    go_region
    obtain ⟨z0, z1, z2, z3, zf⟩ := cells4 B5.out
    obtain ⟨u0, u1, _⟩ := cells2 B6.out
    clear zf
    go_wp2_with fail
    refine wp_region_noPanic ?_
    refine wp_region_held_drew (S := fun w' => w'.cell? ⟨w.heap.size, 0, none⟩ = some (.int .i64 i) ∧ w'.cell? ⟨w.heap.size, 1, none⟩ = some (.int .i64 j) ∧ w'.cell? ⟨w.heap.size + 1, 0, none⟩ = some (.int .u64 (S.wy i j).b) ∧ w'.cell? ⟨w.heap.size + 1, 1, none⟩ = some (.int .u64 (S.wy i j).t) ∧ w'.cell? ⟨w.heap.size + 1, 2, none⟩ = some (.slice p' ((S.wy i j).us.length + 1) c') ∧ w'.cell? ⟨w.heap.size + 1, 3, none⟩ = some (.int .u64 (S.wy i j).c)) (by kernel_rfl) (⟨u0, u1, z0, z1, z2, z3⟩) (fun hH0 => ?_)
    have SK : Hid (∀ W : World, W.heap[w.heap.size]? = w6.heap[w.heap.size]? → W.heap[w.heap.size + 1]? = w6.heap[w.heap.size + 1]? → (fun w' => w'.cell? ⟨w.heap.size, 0, none⟩ = some (.int .i64 i) ∧ w'.cell? ⟨w.heap.size, 1, none⟩ = some (.int .i64 j) ∧ w'.cell? ⟨w.heap.size + 1, 0, none⟩ = some (.int .u64 (S.wy i j).b) ∧ w'.cell? ⟨w.heap.size + 1, 1, none⟩ = some (.int .u64 (S.wy i j).t) ∧ w'.cell? ⟨w.heap.size + 1, 2, none⟩ = some (.slice p' ((S.wy i j).us.length + 1) c') ∧ w'.cell? ⟨w.heap.size + 1, 3, none⟩ = some (.int .u64 (S.wy i j).c)) W) := fun W e1 e2 => by
      obtain ⟨a0, a1, a2, a3, _⟩ := cells4 (e2.trans B5.out)
      obtain ⟨d0, d1, _⟩ := cells2 (e1.trans B6.out)
      exact ⟨d0, d1, a0, a1, a2, a3⟩
    refine take_at (i := 0) (v := .pointer (some ⟨n, 0, none⟩)) rfl rfl (by kernel_rfl) (by kernel_rfl) (by kernel_rfl) (fun _ _ _ h => h) (Or.inl ⟨by rfl, ?_⟩) hH0 ?_
    · intro w hSw; (try dsimp only at hSw); obtain ⟨a0, a1, a2, a3, a4, a5⟩ := hSw; go_simp
    simp only [List.setIfInBounds_toArray, List.set_cons_zero, List.set_cons_succ]
    refine take_at (i := 1) (v := .agg #[.int .i64 i, .int .i64 j]) rfl rfl (by kernel_rfl) (by kernel_rfl) (by kernel_rfl) (fun _ _ _ h => h) (Or.inl ⟨by rfl, ?_⟩) hH0 ?_
    · intro w hSw; (try dsimp only at hSw); obtain ⟨a0, a1, a2, a3, a4, a5⟩ := hSw; go_simp
    simp only [List.setIfInBounds_toArray, List.set_cons_zero, List.set_cons_succ]
    refine take_at (i := 2) (v := .agg #[.int .u64 (S.wy i j).b, .int .u64 (S.wy i j).t, .slice p' ((S.wy i j).us.length + 1) c', .int .u64 (S.wy i j).c]) rfl rfl (by kernel_rfl) (by kernel_rfl) (by kernel_rfl) (fun _ _ _ h => h) (Or.inl ⟨by rfl, ?_⟩) hH0 ?_
    · intro w hSw; (try dsimp only at hSw); obtain ⟨a0, a1, a2, a3, a4, a5⟩ := hSw; go_simp
    simp only [List.setIfInBounds_toArray, List.set_cons_zero, List.set_cons_succ]
    refine take_at (i := 4) (v := .agg #[.int .u64 (S.wy i j).b, .int .u64 (S.wy i j).t, .slice p' ((S.wy i j).us.length + 1) c', .int .u64 (S.wy i j).c]) rfl rfl (by kernel_rfl) (by kernel_rfl) (by kernel_rfl) (fun _ _ _ h => h) (Or.inl ⟨by rfl, ?_⟩) hH0 ?_
    · intro w hSw; (try dsimp only at hSw); obtain ⟨a0, a1, a2, a3, a4, a5⟩ := hSw; go_simp
    simp only [List.setIfInBounds_toArray, List.set_cons_zero, List.set_cons_succ]
    refine take_at (i := 6) (v := .string ⟨l.toArray⟩) rfl rfl (by kernel_rfl) (by kernel_rfl) (by kernel_rfl) (fun _ _ _ h => h) (Or.inl ⟨by rfl, ?_⟩) hH0 ?_
    · intro w hSw; (try dsimp only at hSw); obtain ⟨a0, a1, a2, a3, a4, a5⟩ := hSw; go_simp
    simp only [List.setIfInBounds_toArray, List.set_cons_zero, List.set_cons_succ]
    have lt1 := lt_of_heap B5.out
    unfold wyV sentW at ST EP
    rw [hlen] at ST
    refine wpAnyH_ready (rs := [3]) (by kernel_rfl) (by simp) ?_
    refine AllReadyH.cons rfl (fun K hK => ?_) AllReadyH.nil
    go_simp
    go_at_call 49
    refine (ST.out _).mono ?_
    rintro e w7 ⟨rfl, g7⟩
    go_wp2_with fail
    refine hK.out _ _ (SK.out w7 (g7.block _ (by simpa using Nat.lt_of_succ_lt lt1) (by simp)) (g7.block _ (by simpa using lt1) (by simp))) (fun hH1 => ?_)
    clear hK K
    have l7 := g7.size
    refine wpAnyH_ready (rs := [5]) (by kernel_rfl) (by simp) ?_
    refine AllReadyH.cons rfl (fun K hK => ?_) AllReadyH.nil
    go_simp
    go_at_call 50
    refine (EP.out _).mono ?_
    rintro e w8 ⟨rfl, g8⟩
    have g68 : w6.grownBy w8 none := grown_none_trans ⟨g7.os, g7.tape, g7.output, g7.size, g7.block⟩ g8
    go_wp2_with fail
    refine hK.out _ _ (SK.out w8 (g68.block _ (by omega) (by simp)) (g68.block _ (by omega) (by simp))) (fun hH2 => ?_)
    clear hK K
    refine take_at (i := 7) (v := .agg #[.int .i64 i, .int .i64 j, .bool false, .int .u64 (((S.wy i j).t + ((S.wy i j).us.length + 1) : Nat) : Int), .int .u64 (((S.wy i j).b + 1 : Nat) : Int), .string ⟨l.toArray⟩]) rfl rfl (by kernel_rfl) (by kernel_rfl) (by kernel_rfl) (fun _ _ _ h => h) (Or.inl ⟨by rfl, ?_⟩) hH2 ?_
    · intro w hSw; (try dsimp only at hSw); obtain ⟨a0, a1, a2, a3, a4, a5⟩ := hSw; go_simp
    simp only [List.setIfInBounds_toArray, List.set_cons_zero, List.set_cons_succ]
    have F8 := mkHid (FY.out w8 g68)
    unfold pkV sentP at F8
    refine wpAnyH_ready (rs := [8]) (by kernel_rfl) (by simp) ?_
    refine AllReadyH.cons rfl (fun K hK => ?_) AllReadyH.nil
    go_simp
    go_at_call 48
    refine F8.out.mono ?_
    rintro e w9 ⟨rfl, U9, K9⟩
    have FNN := mkHid U9
    have s1 := K9 w.heap.size 76 (Or.inl rfl) (kd_cells B6.out)
    have s2 := K9 (w.heap.size + 1) 84 (Or.inr rfl) (kd_cells B5.out)
    clear U9 K9
    go_wp2_with fail
    refine hK.out _ _ (SK.out w9 s1 s2) (fun hH3 => ?_)
    clear hK K
    refine wpAnyH_done (by kernel_rfl) ?_ _
    refine NoPanic.normal ?_
    go_wp2_with fail
    go_ret
    exact ⟨rfl, FNN.out⟩
end Go.Proofs.Ytbdlamlplfogjaa
