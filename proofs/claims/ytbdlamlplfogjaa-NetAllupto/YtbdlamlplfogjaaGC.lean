/-
  Walks: the document's net: a message of a way goes.
-/
import Derived.Test.YtbdlamlplfogjaaNwEx
namespace Go.Proofs.Ytbdlamlplfogjaa
open Go.RowKit Go.Maps Go.Joins
variable {Q : Nat → Prop} {w w' : World} {d : Nat} {S : St} {T : Nat → Nat → List ByteArray} {R : Lr}

theorem rwR.get1 {e : TypeId} {v : Value} {n k : Nat} {R1 : Nat → List Value → Prop} (h : rwR w Q e 1 v n R1) (hk : k < n) : ∃ g o c u, v = .slice (some ⟨g, o, none⟩) n c ∧ w.cell? ⟨g, o + k, none⟩ = some u ∧ R1 k [u] ∧ g < w.heap.size := by
  obtain ⟨xs, h1, h2, h3, h4⟩ := h
  have hl := h1.1
  obtain ⟨p, c, e1, _, _, e4, _⟩ := h1.form
  subst e1
  cases p with
  | none => have := (e4 rfl).1; omega
  | some a =>
    obtain ⟨g, o, rfl, hc⟩ := h1.cell
    have hkl : k < xs.length := by omega
    have h5 := h4 k hk
    rw [Nat.mul_one] at h5
    have e5 : (xs.drop k).take 1 = [xs[k]] := by
      rw [List.drop_eq_getElem_cons hkl]; rfl
    rw [e5] at h5
    exact ⟨g, o, c, xs[k], rfl, hc k _ (List.getElem?_eq_getElem hkl), h5, (h1.kd g rfl).2⟩
set_option maxHeartbeats 4000000 in
set_option maxRecDepth 100000 in
theorem rMessage_any (h : RL Q w d S T R) {i j k : Nat} (hi : i < S.N) (hj : j < S.N) {x : ByteArray} (hx : (T i j)[k]? = some x) (hkb : k < 1000000000) : Calls Try.prog 56 #[.pointer (some ⟨d, 0, none⟩), .int .i64 (i : Int), .int .i64 (j : Int), .int .i64 ((k + 1 : Nat) : Int)] w (RCQ Q w d (flyS S ⟨i, j, false, k + 1, (S.wy i j).b + 1, x⟩) T) := by
  have hkl := (List.getElem?_eq_some_iff.1 hx).1
  obtain ⟨c0, c1, c2, c3, _⟩ := h.cs
  obtain ⟨y0, y1, y2, y3, y4, _⟩ := h.ycell hi hj
  obtain ⟨gs, os, cs, u, hs, hu, hR, lgs⟩ := (h.sr i j hi hj).get1 hkl
  obtain ⟨bv, eb, hv⟩ := hR x hx
  have eb : u = bv := by injection eb
  subst eb
  rw [hs] at y2
  have hd := h.pb _ h.qd
  have FY : Hid (∀ W, w.grownBy W none → Calls Try.prog 58 #[.pointer (some ⟨d, 0, none⟩), .agg #[.int .i64 (i : Int), .int .i64 (j : Int), .bool false, .int .u64 ((k + 1 : Nat) : Int), .int .u64 (((S.wy i j).b + 1 : Nat) : Int), u]] W fun e w' => e = .returned (.tuple #[]) ∧ RU Q w d (flyS S ⟨i, j, false, k + 1, (S.wy i j).b + 1, x⟩) T w' ∧ ∀ b, w.heap.size ≤ b → b < W.heap.size → w'.heap[b]? = W.heap[b]?) := fun W gW => by
    refine (rFly_any (h.kept gW) ⟨i, j, false, k + 1, (S.wy i j).b + 1, x⟩ (hv.kept h.pb gW (fun _ e => e))).mono ?_
    rintro e w5 ⟨rfl, U⟩
    refine ⟨rfl, U.base h.pb gW, fun b hb1 hb2 => ?_⟩
    obtain ⟨R5, _, C5⟩ := U
    exact C5.block b hb2 (fun e => by have := h.pb b e.1; omega)
  obtain ⟨pb, cb, rfl, _⟩ := hv
  obtain ⟨lb, hlb⟩ : ∃ lb, lb = x.data.toList.length := ⟨_, rfl⟩
  obtain ⟨TL, hTL⟩ : ∃ TL, TL = (T i j).length := ⟨_, rfl⟩
  rw [← hlb] at FY hu
  rw [← hTL] at y2 hkl
  obtain ⟨w1, hw1⟩ : ∃ w1, w1 = w.alloc (.cells #[.int .u64 (((S.wy i j).b + 1 : Nat) : Int), .slice (some ⟨gs, os, none⟩) TL cs, .int .i64 ((S.wy i j).t : Int), .int .i64 ((S.wy i j).c : Int)] 108) := ⟨_, rfl⟩
  have hbx : w1.heap[w.heap.size]? = some (.cells #[.int .u64 (((S.wy i j).b + 1 : Nat) : Int), .slice (some ⟨gs, os, none⟩) TL cs, .int .i64 ((S.wy i j).t : Int), .int .i64 ((S.wy i j).c : Int)] 108 (0, 0)) := by rw [hw1]; exact heap_alloc_new _ _
  have KT : Hid (∀ W, W.heap[w.heap.size]? = w1.heap[w.heap.size]? → (fun w' : World => w'.cell? ⟨w.heap.size, 0, none⟩ = some (.int .u64 (((S.wy i j).b + 1 : Nat) : Int)) ∧ w'.cell? ⟨w.heap.size, 1, none⟩ = some (.slice (some ⟨gs, os, none⟩) TL cs)) W) := fun W e => by
    obtain ⟨q0, q1, _⟩ := cells4 (e.trans hbx)
    exact ⟨q0, q1⟩
  have KS : Hid (∀ W, w1.grownBy W none → (fun w' : World => w'.cell? ⟨w.heap.size, 0, none⟩ = some (.int .u64 (((S.wy i j).b + 1 : Nat) : Int)) ∧ w'.cell? ⟨w.heap.size, 1, none⟩ = some (.slice (some ⟨gs, os, none⟩) TL cs)) W) := fun W g => KT.out W (g.block _ (lt_of_heap hbx) (by simp))
  have i1 : (i : Int) < (S.N : Int) := by omega
  have i2 : (j : Int) < (S.N : Int) := by omega
  have i3 : (k : Int) < (TL : Int) := by omega
  have i4 : IntKind.i64.wrap (k : Int) = (k : Int) := by rw [IntKind.wrap_i64]; omega
  have i5 : IntKind.u64.wrap ((k : Int) + 1) = (k : Int) + 1 := by rw [IntKind.wrap_u64]; omega
  subst hw1
  clear h hs hR hx hTL hlb hbx
  go_enter Try.func56, Try.ntmps56
  go_wp2_with fail
  refine wp_region_noPanic ?_
  refine wp_region_held_drew (S := fun w' : World => w'.cell? ⟨w.heap.size, 0, none⟩ = some (.int .u64 (((S.wy i j).b + 1 : Nat) : Int)) ∧ w'.cell? ⟨w.heap.size, 1, none⟩ = some (.slice (some ⟨gs, os, none⟩) TL cs)) (by kernel_rfl) (KS.out _ (grown_drew (grown_refl _))) (fun hH => ?_)
  refine take_at (i := 0) (v := .pointer (some ⟨d, 0, none⟩)) rfl rfl (by kernel_rfl) (by kernel_rfl) (by kernel_rfl) (fun _ _ _ h => h) (Or.inl ⟨by rfl, ?_⟩) hH ?_
  · intro w5 hSw; obtain ⟨s0, s1⟩ := hSw; go_simp
  simp only [List.setIfInBounds_toArray, List.set_cons_zero, List.set_cons_succ]
  refine take_at (i := 1) (v := .int .i64 (i : Int)) rfl rfl (by kernel_rfl) (by kernel_rfl) (by kernel_rfl) (fun _ _ _ h => h) (Or.inl ⟨by rfl, ?_⟩) hH ?_
  · intro w5 hSw; obtain ⟨s0, s1⟩ := hSw; go_simp
  simp only [List.setIfInBounds_toArray, List.set_cons_zero, List.set_cons_succ]
  refine take_at (i := 2) (v := .int .i64 (j : Int)) rfl rfl (by kernel_rfl) (by kernel_rfl) (by kernel_rfl) (fun _ _ _ h => h) (Or.inl ⟨by rfl, ?_⟩) hH ?_
  · intro w5 hSw; obtain ⟨s0, s1⟩ := hSw; go_simp
  simp only [List.setIfInBounds_toArray, List.set_cons_zero, List.set_cons_succ]
  refine take_at (i := 3) (v := .int .i64 ((k + 1 : Nat) : Int)) rfl rfl (by kernel_rfl) (by kernel_rfl) (by kernel_rfl) (fun _ _ _ h => h) (Or.inl ⟨by rfl, ?_⟩) hH ?_
  · intro w5 hSw; obtain ⟨s0, s1⟩ := hSw; go_simp
  simp only [List.setIfInBounds_toArray, List.set_cons_zero, List.set_cons_succ]
  refine take_at (i := 4) (v := .int .u64 ((k + 1 : Nat) : Int)) rfl rfl (by kernel_rfl) (by kernel_rfl) (by kernel_rfl) (fun _ _ _ h => h) (Or.inl ⟨by rfl, ?_⟩) hH ?_
  · intro w5 hSw; obtain ⟨s0, s1⟩ := hSw; go_simp
  simp only [List.setIfInBounds_toArray, List.set_cons_zero, List.set_cons_succ]
  refine take_at (i := 5) (v := .pointer (some ⟨w.heap.size, 0, none⟩)) rfl rfl (by kernel_rfl) (by kernel_rfl) (by kernel_rfl) (fun _ _ _ h => h) (Or.inl ⟨by rfl, ?_⟩) hH ?_
  · intro w5 hSw; obtain ⟨s0, s1⟩ := hSw; go_simp
  simp only [List.setIfInBounds_toArray, List.set_cons_zero, List.set_cons_succ]
  refine take_at (i := 6) (v := .int .u64 (((S.wy i j).b + 1 : Nat) : Int)) rfl rfl (by kernel_rfl) (by kernel_rfl) (by kernel_rfl) (fun _ _ _ h => h) (Or.inl ⟨by rfl, ?_⟩) hH ?_
  · intro w5 hSw; obtain ⟨s0, s1⟩ := hSw; go_simp
  simp only [List.setIfInBounds_toArray, List.set_cons_zero, List.set_cons_succ]
  refine take_at (i := 7) (v := .pointer (some ⟨w.heap.size, 1, none⟩)) rfl rfl (by kernel_rfl) (by kernel_rfl) (by kernel_rfl) (fun _ _ _ h => h) (Or.inl ⟨by rfl, ?_⟩) hH ?_
  · intro w5 hSw; obtain ⟨s0, s1⟩ := hSw; go_simp
  simp only [List.setIfInBounds_toArray, List.set_cons_zero, List.set_cons_succ]
  refine take_at (i := 8) (v := .slice (some ⟨gs, os, none⟩) TL cs) rfl rfl (by kernel_rfl) (by kernel_rfl) (by kernel_rfl) (fun _ _ _ h => h) (Or.inl ⟨by rfl, ?_⟩) hH ?_
  · intro w5 hSw; obtain ⟨s0, s1⟩ := hSw; go_simp
  simp only [List.setIfInBounds_toArray, List.set_cons_zero, List.set_cons_succ]
  refine take_at (i := 9) (v := .int .i64 ((k + 1 : Nat) : Int)) rfl rfl (by kernel_rfl) (by kernel_rfl) (by kernel_rfl) (fun _ _ _ h => h) (Or.inl ⟨by rfl, ?_⟩) hH ?_
  · intro w5 hSw; obtain ⟨s0, s1⟩ := hSw; go_simp
  simp only [List.setIfInBounds_toArray, List.set_cons_zero, List.set_cons_succ]
  refine take_at (i := 10) (v := .int .i64 (k : Int)) rfl rfl (by kernel_rfl) (by kernel_rfl) (by kernel_rfl) (fun _ _ _ h => h) (Or.inl ⟨by rfl, ?_⟩) hH ?_
  · intro w5 hSw; obtain ⟨s0, s1⟩ := hSw; go_simp
  simp only [List.setIfInBounds_toArray, List.set_cons_zero, List.set_cons_succ]
  refine take_at (i := 11) (v := .pointer (some ⟨gs, os + k, none⟩)) rfl rfl (by kernel_rfl) (by kernel_rfl) (by kernel_rfl) (fun _ _ _ h => h) (Or.inl ⟨by rfl, ?_⟩) hH ?_
  · intro w5 hSw; obtain ⟨s0, s1⟩ := hSw; go_simp
  simp only [List.setIfInBounds_toArray, List.set_cons_zero, List.set_cons_succ]
  refine wpAnyH_ready (rs := [12]) (by kernel_rfl) (by simp) ?_
  refine AllReadyH.cons rfl (fun K hK => ?_) AllReadyH.nil
  go_simp
  refine hK.out _ _ (KS.out _ (grown_drew (grown_refl _))) (fun hH => ?_)
  clear hK K
  refine take_at (i := 13) (v := .agg #[.int .i64 (i : Int), .int .i64 (j : Int), .bool false, .int .u64 ((k + 1 : Nat) : Int), .int .u64 (((S.wy i j).b + 1 : Nat) : Int), .slice pb lb cb]) rfl rfl (by kernel_rfl) (by kernel_rfl) (by kernel_rfl) (fun _ _ _ h => h) (Or.inl ⟨by rfl, ?_⟩) hH ?_
  · intro w5 hSw; obtain ⟨s0, s1⟩ := hSw; go_simp
  simp only [List.setIfInBounds_toArray, List.set_cons_zero, List.set_cons_succ]
  refine wpAnyH_ready (rs := [14]) (by kernel_rfl) (by simp) ?_
  refine AllReadyH.cons rfl (fun K hK => ?_) AllReadyH.nil
  go_simp
  go_at_call 58
  refine (FY.out _ (grown_drew (grown_al (grown_refl _) _))).mono ?_
  rintro e w5 ⟨rfl, u5, k5⟩
  have U5 := mkHid u5
  clear u5
  go_wp2_with fail
  refine hK.out _ _ (KT.out w5 (k5 _ (Nat.le_refl _) (by simp))) (fun hH => ?_)
  clear hK K
  refine wpAnyH_done (by kernel_rfl) ?_ _
  refine NoPanic.normal ?_
  go_wp2_with fail
  go_end0
  exact ⟨rfl, U5.out⟩
end Go.Proofs.Ytbdlamlplfogjaa
namespace Go.Proofs.Ytbdlamlplfogjaa
open Go.RowKit Go.Maps Go.Joins
variable {Q : Nat → Prop} {w w' : World} {d : Nat} {S : St} {T : Nat → Nat → List ByteArray} {R : Lr}

/-- an element's cells -/
theorem rwR.cells {e : TypeId} {sz n k : Nat} {v : Value} {R1 : Nat → List Value → Prop} (h : rwR w Q e sz v n R1) (hk : k < n) : ∃ g o c ys, v = .slice (some ⟨g, o, none⟩) n c ∧ n ≤ c ∧ R1 k ys ∧ (∀ m u, ys[m]? = some u → w.cell? ⟨g, o + k * sz + m, none⟩ = some u) ∧ g < w.heap.size ∧ Q g := by
  obtain ⟨xs, h1, h2, h3, h4⟩ := h
  have hl := h1.1
  obtain ⟨p, c, e1, e2, _, e4, _⟩ := h1.form
  subst e1
  cases p with
  | none => have := (e4 rfl).1; omega
  | some a =>
    obtain ⟨g, o, rfl, hc⟩ := h1.cell
    refine ⟨g, o, c, _, rfl, e2, h4 k hk, fun m u hm => ?_, (h1.kd g rfl).2, h2 g rfl⟩
    rw [List.getElem?_take] at hm
    split at hm
    · rw [List.getElem?_drop] at hm
      rw [Nat.add_assoc]; exact hc _ u hm
    · cases hm
set_option maxHeartbeats 2000000 in
set_option maxRecDepth 100000 in
theorem rTwice_any (h : RL Q w d S T R) (k : Int) : Calls Try.prog 37 #[.pointer (some ⟨d, 0, none⟩), .int .i64 k] w (REQ Q w d (twiceS S k) T (flE S k)) := by
  obtain ⟨c0, c1, c2, c3, _⟩ := h.cs
  by_cases h1 : 0 ≤ k ∧ k < S.fl.length
  · obtain ⟨i, rfl⟩ : ∃ i : Nat, k = (i : Int) := ⟨k.toNat, by omega⟩
    have hi : i < S.fl.length := by omega
    obtain ⟨p, hp⟩ : ∃ p, S.fl[i]? = some p := ⟨_, List.getElem?_eq_getElem hi⟩
    have e0 : fliesS S (i : Int) = true := by unfold fliesS; rw [decide_eq_true h1]
    have e1 : twiceS S (i : Int) = flyS S p := by unfold twiceS; rw [e0, if_pos rfl, Int.toNat_natCast, List.getD_eq_getElem?_getD, hp]; rfl
    have e2 : flE S (i : Int) = 0 := by unfold flE; rw [e0]; rfl
    unfold REQ
    rw [e1, e2]
    obtain ⟨g, o, c, ys, hv, hnc, hR, hc, hg, _⟩ := h.ar.cells hi
    obtain ⟨bv, hy, hb⟩ := hR p hp
    subst hy
    have FY := mkHid (rFly_any h p hb)
    rw [hv] at c3
    obtain ⟨pb, cb, rfl, _⟩ := hb
    obtain ⟨lb, hlb⟩ : ∃ lb, lb = p.x.data.toList.length := ⟨_, rfl⟩
    rw [← hlb] at FY hc
    have q0 := hc 0 _ rfl
    have q1 := hc 1 _ rfl
    have q2 := hc 2 _ rfl
    have q3 := hc 3 _ rfl
    have q4 := hc 4 _ rfl
    have q5 := hc 5 _ rfl
    rw [Nat.add_zero] at q0
    unfold rpL at FY
    obtain ⟨M, hM⟩ : ∃ M, M = S.fl.length := ⟨_, rfl⟩
    rw [← hM] at c3 hi
    have i1 : (i : Int) < (M : Int) := by omega
    have i2 : ¬ (M : Int) ≤ (i : Int) := by omega
    have i3 : ¬ (i : Int) < 0 := by omega
    clear h h1 e0 e1 e2 hR hc hlb hM hv hp
    go_enter Try.func37, Try.ntmps37
    go_wp2_with fail
    refine FY.out.mono ?_
    rintro e w5 ⟨rfl, u5⟩
    have U5 := mkHid u5
    clear u5
    go_wp2_with fail
    go_ret
    exact ⟨rfl, U5.out⟩
  · have e0 : fliesS S k = false := by unfold fliesS; rw [decide_eq_false h1]
    have e1 : twiceS S k = S := by unfold twiceS; rw [e0]; rfl
    have e2 : flE S k = 61 := by unfold flE; rw [e0]; rfl
    unfold REQ
    rw [e1, e2]
    have U := mkHid (h.up (grown_refl _))
    obtain ⟨pa, ca, ha, _⟩ := h.ar.form
    rw [ha] at c3
    by_cases h2 : k < 0
    · clear h h1 e0 e1 e2 ha
      go_enter Try.func37, Try.ntmps37
      go_wp2_with fail
      go_ret
      exact ⟨rfl, U.out⟩
    · have h3 : (S.fl.length : Int) ≤ k := by omega
      clear h h1 e0 e1 e2 ha
      go_enter Try.func37, Try.ntmps37
      go_wp2_with fail
      go_ret
      exact ⟨rfl, U.out⟩
/-- a row of one's own is a row -/
theorem ownsRow_shr {e : TypeId} {sz n : Nat} {v : Value} {ys : List Value} (ho : w.ownsRow 0 e sz v n ys) : shr w e sz v n ys ∧ ∀ g, v.ownBlock = some g → g < w.heap.size := by
  obtain ⟨l1, l2⟩ := ho
  rcases l2 with ⟨e1, e2⟩ | ⟨g, cap, cur, rfl, _, hb, h2, h3, h4, h5⟩
  · subst e1
    exact ⟨⟨l1, Or.inl ⟨rfl, e2⟩⟩, fun g hg => by simp [Value.ownBlock] at hg⟩
  · refine ⟨⟨l1, Or.inr ⟨g, 0, cap, cur, rfl, hb, h2, h3, Or.inr (by rw [Nat.zero_add]; exact h4), fun j u hj => ?_⟩⟩, fun g' hg => ?_⟩
    · rw [← h5, List.getElem?_take] at hj
      split at hj
      · rw [Nat.zero_add]; simpa using hj
      · cases hj
    · simp [Value.ownBlock] at hg; subst hg; exact lt_of_heap hb
/-- what is appended: nothing, or cells that stand somewhere -/
def srcS (w : World) (sz : Nat) (P : Option Addr) (m c : Nat) (news : List Value) : Prop := (P = none ∧ m = 0 ∧ c = 0 ∧ news = []) ∨ ∃ ad, P = some ad ∧ news.length = m * sz ∧ (∀ j u, news[j]? = some u → w.cell? (ad.add j) = some u) ∧ ∀ u ∈ news, u.oneCell' = true
theorem srcS.kept {sz m c : Nat} {P : Option Addr} {news : List Value} (h : srcS w sz P m c news) (hg : w.grownBy w' none) : srcS w' sz P m c news := by
  rcases h with h | ⟨ad, h1, h2, h3, h4⟩
  · exact Or.inl h
  · exact Or.inr ⟨ad, h1, h2, fun j u hj => hg.cell (h3 j u hj) (by simp), h4⟩
theorem Rw.more {t e : TypeId} {z : Value} {sz by' : Nat} (Rr : Rw t e z sz by') {v : Value} {n m c : Nat} {xs news : List Value} {P : Option Addr} (ho : w.ownsRow 0 e sz v n xs) (hs : srcS w sz P m c news) (hl : n + m ≤ 500000000) :
    ∃ v' W', (∀ ty, (Builtin.append_ #[t, t] ty #[v, .slice P m c]).run Try.prog w = .ok v' W') ∧ W'.ownsRow 0 e sz v' (n + m) (xs ++ news) ∧ w.grownBy W' v.ownBlock ∧ ∀ g, v'.ownBlock = some g → v.ownBlock = some g ∨ w.heap.size ≤ g := by
  obtain ⟨i0, hi, hz0, hzs, hz2⟩ := info_parts Rr.inf
  rcases hs with ⟨rfl, rfl, rfl, rfl⟩ | ⟨ad, rfl, hm, hc, h1⟩
  · exact ⟨v, w, fun ty => run_append_owned_none (P := Try.prog) (w := w) 0 t ty e i0 sz Rr.sl hi v n xs ho, by rw [List.append_nil]; exact ho, ⟨rfl, rfl, rfl, Nat.le_refl _, fun _ _ _ => rfl⟩, fun g hg => Or.inl hg⟩
  · have hbb : (n + m) * by' ≤ 140737488355328 := by
      have : by' * (n + m) ≤ 64 * 500000000 := Nat.mul_le_mul Rr.sm hl
      rw [Nat.mul_comm]; omega
    obtain ⟨v', W', k1, k2, k3, _, k5⟩ := run_append_own_at (P := Try.prog) w 0 t 0 e i0 z sz by' Rr.sl hi hz0 hzs hz2 Rr.zs Rr.pos v n xs ho ad m c news hm hc h1 (by unfold maxLen; omega) hbb (Nat.zero_le _)
    refine ⟨v', W', fun ty => k1, k2, k3, fun g hg => ?_⟩
    rcases k5 with e1 | e1
    · exact Or.inl (e1.symm.trans hg)
    · rw [e1] at hg; cases hg; exact Or.inr (Nat.le_refl _)
theorem row_none {e : TypeId} {sz B : Nat} (hB : w.heap[B]? = some (.cells #[] e (0, 0))) : w.ownsRow 0 e sz (.slice (some ⟨B, 0, none⟩) 0 0) 0 [] := ⟨by simp, Or.inr ⟨B, 0, #[], rfl, Nat.zero_le _, hB, Nat.le_refl _, by unfold maxLen; omega, by simp, by simp⟩⟩
end Go.Proofs.Ytbdlamlplfogjaa
namespace Go.Proofs.Ytbdlamlplfogjaa
open Go.RowKit Go.Maps Go.Joins
variable {Q : Nat → Prop} {w w' : World} {d : Nat} {S : St} {T : Nat → Nat → List ByteArray} {R : Lr}

theorem chunk_erase {α : Type} {xs : List α} {n sz i k : Nat} (hx : xs.length = n * sz) (hi : i < n) : ((xs.take (i * sz) ++ xs.drop ((i + 1) * sz)).drop (k * sz)).take sz = if k < i then (xs.drop (k * sz)).take sz else (xs.drop ((k + 1) * sz)).take sz := by
  have h1 : i * sz ≤ xs.length := by rw [hx]; exact Nat.mul_le_mul_right _ (by omega)
  have hl : (xs.take (i * sz)).length = i * sz := by rw [List.length_take]; omega
  by_cases hk : k < i
  · have h2 : k * sz + sz ≤ i * sz := by rw [← Nat.succ_mul]; exact Nat.mul_le_mul_right _ hk
    rw [if_pos hk, List.drop_append_of_le_length (by omega), List.take_append_of_le_length (by rw [List.length_drop]; omega), List.drop_take, List.take_take, Nat.min_eq_left (by omega)]
  · have h2 : i * sz ≤ k * sz := Nat.mul_le_mul_right _ (by omega)
    rw [if_neg hk, List.drop_append, hl, List.drop_eq_nil_of_le (by rw [hl]; exact h2), List.nil_append, List.drop_drop]
    congr 2
    rw [Nat.add_mul, Nat.add_mul, Nat.one_mul]
    omega
/-- what 'take' answers and leaves -/
def RtQ (Q : Nat → Prop) (w : World) (d : Nat) (S : St) (T : Nat → Nat → List ByteArray) (k : Int) (r : Ending) (w' : World) : Prop :=
  (¬ (0 ≤ k ∧ k < S.fl.length) ∧ r = .returned (.tuple #[.agg #[.int .i64 0, .int .i64 0, .bool false, .int .u64 0, .int .u64 0, .slice none 0 0], .int .i64 61]) ∧ RU Q w d S T w') ∨
  ∃ (i : Nat) (p : Pk) (pb : Option Addr) (cb : Nat), k = (i : Int) ∧ S.fl[i]? = some p ∧ r = .returned (.tuple #[.agg (rpL p (.slice pb p.x.data.toList.length cb)).toArray, .int .i64 0]) ∧ byV w' (ext Q w w') (.slice pb p.x.data.toList.length cb) p.x ∧ RU Q w d { S with fl := S.fl.eraseIdx i } T w'
/-- both appends laid ahead -/
theorem RL.take_lay (h : RL Q w d S T R) {i : Nat} (hi : i < S.fl.length) (hl : S.fl.length ≤ 100000) {g o c : Nat} (hv : R.av = .slice (some ⟨g, o, none⟩) S.fl.length c) {W : World} (gW : w.grownBy W none) {B : Nat} (hB : W.heap[B]? = some (.cells #[] 97 (0, 0))) (hBn : w.heap.size ≤ B) :
    ∃ p4 c4 W4 p5 c5 W5, (∀ ty, (Builtin.append_ #[44, 44] ty #[.slice (some ⟨B, 0, none⟩) 0 0, .slice (some ⟨g, o, none⟩) i c]).run Try.prog W = .ok (.slice p4 i c4) W4) ∧
      (∀ ty, (Builtin.append_ #[44, 44] ty #[.slice p4 i c4, if c = i + 1 then .slice (some ⟨g, o, none⟩) (S.fl.length - (i + 1)) 0 else .slice (some ⟨g, o + (i + 1) * 6, none⟩) (S.fl.length - (i + 1)) (c - (i + 1))]).run Try.prog W4 = .ok (.slice p5 (S.fl.length - 1) c5) W5) ∧ w.grownBy W4 none ∧ w.grownBy W5 none ∧ (∀ b, b ≠ B → b < W.heap.size → W5.heap[b]? = W.heap[b]? ∧ W4.heap[b]? = W.heap[b]?) ∧
      RU Q w d { S with fl := S.fl.eraseIdx i } T (W5.setCell ⟨d, 3, none⟩ (.slice p5 (S.fl.length - 1) c5)) := by
  obtain ⟨xs, s1, s2, s3, s4⟩ := h.ar
  have hxl := s1.1
  rw [hv] at s1
  obtain ⟨g', o', he, hcs⟩ := s1.cell
  have he1 : g = g' := by injection he
  have he2 : o = o' := by injection he
  subst he1; subst he2
  have hcap : S.fl.length ≤ c := by
    rcases s1.2 with ⟨e, _⟩ | ⟨_, _, _, _, e, _, hnc, _⟩
    · cases e
    · cases e; exact hnc
  have src4 : srcS W 6 (some ⟨g, o, none⟩) i c (xs.take (i * 6)) := by
    refine Or.inr ⟨_, rfl, by rw [List.length_take]; omega, fun j u hj => ?_, fun u hu => s3 u (List.mem_of_mem_take hu)⟩
    rw [List.getElem?_take] at hj
    split at hj
    · rw [add_plain]; exact gW.cell (hcs j u hj) (by simp)
    · cases hj
  obtain ⟨v4, W4, r4, ow4, g4, o4⟩ := rwA.more (row_none hB) src4 (by omega)
  rw [Nat.zero_add, List.nil_append] at ow4
  have gA : w.grownBy W4 none := grown_new gW g4 (fun x hx => by simp [Value.ownBlock] at hx; rw [← hx]; exact hBn)
  obtain ⟨t4, _⟩ := ownsRow_shr ow4
  obtain ⟨p4, c4, e4, _⟩ := t4.form
  subst e4
  have src5 : ∃ P5 C5, (if c = i + 1 then (.slice (some ⟨g, o, none⟩) (S.fl.length - (i + 1)) 0 : Value) else .slice (some ⟨g, o + (i + 1) * 6, none⟩) (S.fl.length - (i + 1)) (c - (i + 1))) = .slice P5 (S.fl.length - (i + 1)) C5 ∧ srcS W4 6 P5 (S.fl.length - (i + 1)) C5 (xs.drop ((i + 1) * 6)) := by
    by_cases hc : c = i + 1
    · rw [if_pos hc]
      exact ⟨_, _, rfl, Or.inr ⟨_, rfl, by rw [List.length_drop]; omega, fun j u hj => by rw [List.drop_eq_nil_of_le (by omega)] at hj; simp at hj, fun u hu => s3 u (List.mem_of_mem_drop hu)⟩⟩
    · rw [if_neg hc]
      refine ⟨_, _, rfl, Or.inr ⟨_, rfl, by rw [List.length_drop]; omega, fun j u hj => ?_, fun u hu => s3 u (List.mem_of_mem_drop hu)⟩⟩
      rw [List.getElem?_drop] at hj
      rw [add_plain, Nat.add_assoc]; exact gA.cell (hcs _ u hj) (by simp)
  obtain ⟨P5, C5, e5, sr5⟩ := src5
  rw [e5]
  obtain ⟨v5, W5, r5, ow5, g5, o5⟩ := rwA.more ow4 sr5 (by omega)
  have en : i + (S.fl.length - (i + 1)) = S.fl.length - 1 := by omega
  rw [en] at ow5
  obtain ⟨t5, l5⟩ := ownsRow_shr ow5
  obtain ⟨p5, c5, e5', _⟩ := t5.form
  subst e5'
  have ob : ∀ x, (Value.slice p4 i c4).ownBlock = some x → w.heap.size ≤ x ∧ (x = B ∨ W.heap.size ≤ x) := fun x hx => by
    rcases o4 x hx with e | e
    · simp [Value.ownBlock] at e; exact ⟨by rw [← e]; exact hBn, Or.inl e.symm⟩
    · exact ⟨Nat.le_trans gW.size e, Or.inr e⟩
  have gB : w.grownBy W5 none := grown_new gA g5 (fun x hx => (ob x hx).1)
  refine ⟨p4, c4, W4, p5, c5, W5, r4, r5, gA, gB, fun b hb1 hb2 => ?_, ?_⟩
  · have k4 : W4.heap[b]? = W.heap[b]? := g4.block b hb2 (fun e => by simp [Value.ownBlock] at e; exact hb1 e)
    refine ⟨(g5.block b (Nat.lt_of_lt_of_le hb2 g4.size) (fun e => ?_)).trans k4, k4⟩
    rcases (ob b e.symm).2 with e1 | e1
    · exact hb1 e1
    · omega
  · have H9 := h.away (Q' := ext Q w W5) (Chg.of_none gB (fun _ => False)) (fun _ _ e => e) (fun _ => ext_le) (ext_pb h.pb gB.size)
    have hlen : (S.fl.eraseIdx i).length = S.fl.length - 1 := List.length_eraseIdx_of_lt hi
    have hrow : rwR W5 (ext Q w W5) 97 6 (.slice p5 (S.fl.length - 1) c5) (S.fl.eraseIdx i).length (aiR W5 (ext Q w W5) (S.fl.eraseIdx i)) := by
      rw [hlen]
      refine ⟨_, t5, fun x hx => ext_new ?_ (l5 x hx), fun u hu => ?_, fun k hk m hm => ?_⟩
      · rcases o5 x hx with e | e
        · exact (ob x e).1
        · exact Nat.le_trans gA.size e
      · rcases List.mem_append.1 hu with e | e
        · exact s3 u (List.mem_of_mem_take e)
        · exact s3 u (List.mem_of_mem_drop e)
      · rw [chunk_erase hxl hi]
        rw [List.getElem?_eraseIdx] at hm
        by_cases hki : k < i
        · rw [if_pos hki] at hm ⊢
          obtain ⟨bv, e, hb⟩ := s4 k (by omega) m hm
          exact ⟨bv, e, hb.kept h.pb gB (fun _ => ext_le)⟩
        · rw [if_neg hki] at hm ⊢
          obtain ⟨bv, e, hb⟩ := s4 (k + 1) (by omega) m hm
          exact ⟨bv, e, hb.kept h.pb gB (fun _ => ext_le)⟩
    have HF := H9.setA hrow
    refine ⟨_, HF.away (Chg.refl (fun _ => False) _) (fun _ _ e => e) (fun x hx => ?_) (fun x hx => ?_), ?_⟩
    · rcases hx with e | e
      · exact Or.inl e
      · exact Or.inr ⟨e.1, by rw [World.size_setCell]; exact e.2⟩
    · rcases hx with e | e
      · rw [World.size_setCell]; exact Nat.lt_of_lt_of_le (h.pb x e) gB.size
      · exact e.2
    · exact (Chg.of_none gB _).set _ _ ⟨h.qd, by rw [show kd w (Addr.block ⟨d, 3, none⟩) = _ from h.kb.1]; decide⟩
theorem RU.box {w2 W6 W7 : World} {b : Nat} (hq : ∀ i, Q i → i < w.heap.size) (g : w.grownBy w2 none) (h : RU Q w2 d S T W6) (hc : Chg (fun x => x = b) W6 W7) (hb1 : w.heap.size ≤ b) (hb2 : b < w2.heap.size) : RU Q w d S T W7 := by
  obtain ⟨R, h1, h2⟩ := h
  have hs : w2.heap.size ≤ W6.heap.size := h2.size
  refine ⟨R, h1.away hc (fun x hx e => ?_) (fun x hx => ?_) (ext_pb hq (Nat.le_trans g.size (Nat.le_trans hs hc.size))), ?_⟩
  · have e : x = b := e
    rcases hx with e1 | e1
    · have := hq x e1; omega
    · omega
  · rcases hx with e1 | e1
    · exact Or.inl e1
    · exact Or.inr ⟨Nat.le_trans g.size e1.1, Nat.lt_of_lt_of_le e1.2 hc.size⟩
  · exact Chg.then_new (hb_trans (Chg.of_none g _) h2 (fun _ => ext_le)) (hc.mono (fun x _ e => by have e : x = b := e; show w.heap.size ≤ x; omega))
end Go.Proofs.Ytbdlamlplfogjaa
