/-
  The law NetAll, walked whole.
-/
import Derived.Test.YtbdlamlplfogjaaNyFx
namespace Go.Proofs.Ytbdlamlplfogjaa
open Go.RowKit Go.Maps Go.Joins

set_option maxHeartbeats 4000000 in
set_option maxRecDepth 100000 in
theorem NetAll_bad (N : Int) (va : Value) (w : World) (h : N < 1 ∨ 64 < N) : Calls Try.prog 3 #[.int .i64 N, va] w fun e w' => e = .returned (.bool true) ∧ w.grownBy w' none := by
  have BG := mkHid (fun w => begins_bad (w := w) N h)
  clear h
  go_enter Try.func3, Try.ntmps3
  go_wp2_with fail
  refine (BG.out w).mono ?_
  rintro e w2 ⟨rfl, hwx⟩; have hwx2 := hwx.symm; subst hwx2; clear hwx
  go_wp2_with fail
  go_ret
  exact ⟨rfl, grown_refl _⟩
theorem LA_start {w1 w2 : World} {N n d pr m : Nat} {L : Ly} {R : Lr} (hp : w2.heap[pr]? = some (.cells #[.pointer (some ⟨n, 0, none⟩), .pointer (some ⟨d, 0, none⟩)] 33 (0, 0))) (hm : m ≤ pr) (hm1 : w1.heap.size ≤ m) (hN : NetL (fun i => w1.heap.size ≤ i ∧ i < m) w2 n 0 (st0 N) L) (hR : RL (fun i => m ≤ i ∧ i < pr) w2 d (st0 N) (fun _ _ => []) R) (g2 : w1.grownBy w2 none) : LA w1 N 0 pr (.slice (some ⟨w2.heap.size, 0, none⟩) 1 1) [] (w2.alloc (.cells #[.pointer (some ⟨pr, 0, none⟩)] 23)) := by
  have g := grown_al (grown_refl w2) (.cells #[.pointer (some ⟨pr, 0, none⟩)] 23)
  have lp := lt_of_heap hp
  exact ⟨n, d, _, _, _, _, 0, L, R, ⟨hN.kept g, hR.kept g, fun i h1 h2 => by omega⟩, Good.begin N, by omega, box_keep hp g (by simp), fun e => by omega, fun e => by omega, fun i h => h.1, fun i h => by omega, by omega, grown_none_trans g2 g, ⟨⟨by simp [ptrs], Or.inr ⟨w2.heap.size, 1, _, rfl, Nat.zero_le _, heap_alloc_new w2 _, Nat.le_refl _, by unfold maxLen; omega, by simp, by simp [ptrs]⟩⟩, fun g hg => by cases hg; exact g2.size⟩, fun g hg => by cases hg; exact ⟨fun e => absurd (show w2.heap.size < m from e.2) (by omega), fun e => absurd (show w2.heap.size < pr from e.2) (by omega)⟩, fun q hq => by simp at hq⟩
theorem LA.form {w1 wr : World} {N k pr : Nat} {v : Value} {ps : List Nat} (h : LA w1 N k pr v ps wr) : ∃ g c, v = .slice (some ⟨g, 0, none⟩) (ps.length + 1) c ∧ ∀ j q, (ps ++ [pr])[j]? = some q → wr.cell? ⟨g, j, none⟩ = some (.pointer (some ⟨q, 0, none⟩)) := by
  obtain ⟨n, d, P, Q, S, T, c, L, R, b, G, hc, hpr, nP, nQ, sP, sQ, sp, gr, xr, _⟩ := h
  obtain ⟨g, cap, cur, e, _, hb, _, _, _, hy⟩ := xr.open (by omega)
  exact ⟨g, cap, e, fun j q hq => (cell_of_block hb j).trans (hy j _ (by unfold ptrs; rw [List.getElem?_map, hq]; rfl))⟩
theorem LA.airs {w1 wr w' : World} {N k pr j q : Nat} {v : Value} {ps : List Nat} (h : LA w1 N k pr v ps wr) (hq : (ps ++ [pr])[j]? = some q) (g : wr.grownBy w' none) : Calls Try.prog 10 #[.pointer (some ⟨q, 0, none⟩)] w' fun e w2 => e = .returned (.bool true) ∧ wr.grownBy w2 none := by
  rcases List.mem_append.1 (List.mem_of_getElem? hq) with e | e
  · obtain ⟨n, d, P, Q, S, T, c, L, R, b, G, hc, hpr, nP, nQ, sP, sQ, sp, gr, xr, xn, op⟩ := h
    exact (op q e).air g
  · have eq' : q = pr := by simpa using e
    subst eq'
    exact h.air g
theorem LA.pr0 {w1 wr : World} {N k pr : Nat} {v : Value} {ps : List Nat} (h : LA w1 N k pr v ps wr) : pr < wr.heap.size := by
  obtain ⟨n, d, P, Q, S, T, c, L, R, b, G, hc, hpr, _⟩ := h
  exact lt_of_heap hpr
theorem nacs.val {w wr : World} {Pa : Option Addr} {l : List Ac} {i : Nat} {x : Ac} (h : nacs w Pa l) (hx : l[i]? = some x) (hg : w.grownBy wr none) : ∃ g o, Pa = some ⟨g, o, none⟩ ∧ wr.cell? ⟨g, o + i * 6, none⟩ = some (.int .i64 x.k) ∧ wr.cell? ⟨g, o + i * 6 + 1, none⟩ = some (.int .i64 x.a) ∧ wr.cell? ⟨g, o + i * 6 + 2, none⟩ = some (.int .i64 x.t) ∧ wr.cell? ⟨g, o + i * 6 + 3, none⟩ = some (.int .i64 x.i) ∧ wr.cell? ⟨g, o + i * 6 + 4, none⟩ = some (.slice x.p x.b.length x.q) ∧ wr.cell? ⟨g, o + i * 6 + 5, none⟩ = some (.bool x.h) := by
  obtain ⟨g, o, e, c0, c1, c2, c3, c4, c5, _⟩ := h.at hx hg
  exact ⟨g, o, e, c0, c1, c2, c3, c4, c5⟩
set_option maxHeartbeats 8000000 in
set_option maxRecDepth 100000 in
theorem NetAll_ok (N : Nat) (l : List Ac) (Pa : Option Addr) (Ca : Nat) (w : World) (h1 : 1 ≤ N) (h64 : N ≤ 64) (hl : l.length ≤ 1900000) (ha : nacs w Pa l) : Calls Try.prog 3 #[.int .i64 N, .slice Pa l.length Ca] w fun e w' => e = .returned (.bool true) ∧ w.grownBy w' none := by
  have BG := mkHid (begins_both (w := w) N h1 h64)
  obtain ⟨A, hA⟩ : ∃ A, A = l.length := ⟨_, rfl⟩
  have HA := mkHid hA
  have HAC := mkHid ha
  rw [← hA] at hl ⊢
  clear hA ha
  go_enter Try.func3, Try.ntmps3
  go_wp2_with fail
  refine BG.out.mono ?_
  rintro e w2 ⟨pr0, n, d, m, L, R, rfl, hp, hm, hN, hR, g2⟩
  have hm1 : w.heap.size ≤ m := by
    have := hN.pn
    omega
  have L0 := mkHid (LA_start hp hm hm1 hN hR g2)
  clear BG hp hm hm1 hN hR g2
  go_wp2_with fail
  go_loopw [5, 7, 8] (fun s5 s7 s8 wr => ∃ (k pr : Nat) (ps : List Nat), s5 = .pointer (some ⟨pr, 0, none⟩) ∧ s8 = .int .i64 (k : Int) ∧ k ≤ A ∧ ps.length ≤ 20 ∧ Hid (LA w N k pr s7 ps wr)) (fun _ _ s8 _ => A - (intOf s8).toNat)
  case atStart => exact ⟨0, pr0, [], rfl, rfl, Nat.zero_le _, Nat.zero_le _, L0⟩
  case round =>
    rename_i s5 s7 s8
    obtain ⟨k, pr, ps, rfl, rfl, hk, hps, LK⟩ := hrel
    obtain ⟨gv, cv, rfl, _⟩ := LK.out.form
    by_cases hlt : k < A
    · have hlti : (k : Int) < (A : Int) := by omega
      obtain ⟨x, hx⟩ : ∃ x, l[k]? = some x := ⟨_, List.getElem?_eq_getElem (by rw [← HA.out]; exact hlt)⟩
      have HX := mkHid hx
      obtain ⟨g, o, hPa, c0, c1, c2, c3, c4, c5⟩ := HAC.out.val hx LK.out.gr
      subst hPa
      clear hx
      by_cases h9 : x.k = 9
      · have h9b : (x.k == 9) = true := by rw [h9]; rfl
        obtain ⟨n, d, S, T, q0, q1, CL, rest⟩ := LK.out.clone (by omega)
        have CLH := mkHid CL
        have RST := mkHid rest
        clear CL rest c1 c2 c3 c4 c5 h9
        go_wp2_with fail
        refine CLH.out.mono ?_
        rintro e wa ⟨n2, L2, rfl, hN, ga⟩
        have HNN := mkHid hN
        have GA := mkHid ga
        have q1a := ga.cell q1 (by simp)
        clear hN ga CLH
        by_cases h20 : ps.length = 20
        · have h20i : (20 : Int) < (ps.length : Int) + 1 := by omega
          have GG := mkHid (grown_none_trans LK.out.gr GA.out)
          go_wp2_with fail
          go_ret
          exact ⟨rfl, GG.out⟩
        · have h20i : ¬ (20 : Int) < (ps.length : Int) + 1 := by omega
          obtain ⟨Q0, CY, rest2⟩ := RST.out wa n2 L2 HNN.out GA.out wa (grown_refl _)
          have CYH := mkHid CY
          have RS2 := mkHid rest2
          clear CY rest2 RST
          go_wp2_with fail
          refine CYH.out.mono ?_
          rintro e wb ⟨cb, R2, rfl, hR, gb, hcb, hnew⟩
          obtain ⟨p', c', w4, hr, LB⟩ := RS2.out wb cb R2 hR gb hcb hnew (by omega)
          have LBH := mkHid LB
          clear hR gb hcb hnew CYH RS2 LB
          have gw4 := LBH.out.gr
          obtain ⟨g', o', hPa', d0, d1, d2, d3, d4, d5⟩ := HAC.out.val HX.out gw4
          have eg : g = g' ∧ o = o' := by
            injection hPa' with e; injection e with e1 e2
            exact ⟨e1, e2⟩
          obtain ⟨rfl, rfl⟩ := eg
          have DO := mkHid (LBH.out.does (by omega) (grown_refl _) HAC.out HX.out)
          unfold Ac.cells at DO
          clear gw4 hPa' c0 q0 q1 q1a LK
          go_wp2_with (first | (at_builtin; refine wp_app 26 rfl (.tmp 55) (.tmp 57) rfl rfl rfl hr ?_) | fail)
          refine DO.out.mono ?_
          rintro e w5 ⟨rfl, u5⟩
          have AIR := mkHid (u5.air (grown_refl _))
          have U5 := mkHid u5
          clear u5
          go_wp2_with fail
          refine AIR.out.mono ?_
          rintro e w6 ⟨rfl, g6⟩
          have U6 := mkHid (U5.out.grow g6)
          clear g6 AIR U5
          go_wp2_with fail
          go_roundw
          case rel => exact ⟨k + 1, _, ps ++ [pr], rfl, by go_num, hlt, by rw [List.length_append]; simp; omega, U6⟩
          case measure => simp [intOf]; omega
      · have h9b : (x.k == 9) = false := by rw [beq_eq_false_iff_ne]; exact h9
        have DO := mkHid (LK.out.does (by omega) (grown_refl _) HAC.out HX.out)
        unfold Ac.cells at DO
        clear LK h9
        go_wp2_with fail
        refine DO.out.mono ?_
        rintro e w5 ⟨rfl, u5⟩
        have AIR := mkHid (u5.air (grown_refl _))
        have U5 := mkHid u5
        clear u5
        go_wp2_with fail
        refine AIR.out.mono ?_
        rintro e w6 ⟨rfl, g6⟩
        have U6 := mkHid (U5.out.grow g6)
        clear g6 AIR U5
        go_wp2_with fail
        go_roundw
        case rel => exact ⟨k + 1, _, ps, rfl, by go_num, hlt, hps, U6⟩
        case measure => simp [intOf]; omega
    · obtain rfl : k = A := by omega
      have hkk : ¬ (k : Int) < (k : Int) := by omega
      obtain ⟨M, hM⟩ : ∃ M, M = ps.length := ⟨_, rfl⟩
      have HM := mkHid hM
      rw [← hM]
      rw [← hM] at hps
      clear hM
      go_wp2_with fail
      go_loopw [10] (fun s10 wx => ∃ j : Nat, s10 = .int .i64 (j : Int) ∧ j ≤ M + 1 ∧ Hid (wr.grownBy wx none)) (fun s10 _ => M + 1 - (intOf s10).toNat)
      case atStart => exact ⟨0, rfl, Nat.zero_le _, mkHid (grown_refl _)⟩
      case round =>
        rename World => wx
        obtain ⟨j, rfl, hj, GX⟩ := hrel
        by_cases hlj : j < M + 1
        · have hlji : (j : Int) < (M : Int) + 1 := by omega
          obtain ⟨q, hq⟩ : ∃ q, (ps ++ [pr])[j]? = some q := ⟨_, List.getElem?_eq_getElem (by rw [List.length_append, ← HM.out]; simpa using hlj)⟩
          obtain ⟨g', c', e', hcell⟩ := LK.out.form
          have eg : gv = g' := by injection e' with e; injection e with e; injection e
          subst eg
          have x0 := GX.out.cell (hcell j q hq) (by simp)
          have AIR := mkHid (LK.out.airs hq GX.out)
          clear e' hcell hq
          go_wp2_with fail
          refine AIR.out.mono ?_
          rintro e w6 ⟨rfl, g6⟩
          have G6 := mkHid g6
          clear g6 AIR
          go_wp2_with fail
          go_roundw
          case rel => exact ⟨j + 1, by go_num, hlj, G6⟩
          case measure => simp [intOf]; omega
        · obtain rfl : j = M + 1 := by omega
          have hjj : ¬ ((M + 1 : Nat) : Int) < (M : Int) + 1 := by omega
          have GG := mkHid (grown_none_trans LK.out.gr GX.out)
          go_wp2_with fail
          go_ret
          exact ⟨rfl, GG.out⟩
end Go.Proofs.Ytbdlamlplfogjaa
