/-
  Walks: the document's new network; both.
-/
import Derived.Test.YtpghkbbhcpcbdaaNuC
namespace Go.Proofs.Ytpghkbbhcpcbdaa
open Go.RowKit Go.Maps Go.Joins
variable {P : Nat → Prop} {w w' : World} {n c : Nat} {S : St} {L : Ly}

theorem anyRow.form {e : TypeId} {sz k : Nat} {v : Value} {wr : World} (h : anyRow w e sz k v wr) : ∃ p q, v = .slice p k q := by
  obtain ⟨⟨xs, hs⟩, _⟩ := h
  obtain ⟨p, q, e, _⟩ := hs.form
  exact ⟨p, q, e⟩
theorem anyRow_nil (w wr : World) (e : TypeId) (sz : Nat) : anyRow w e sz 0 (.slice none 0 0) wr := ⟨⟨[], shr_nil _ _ _⟩, fun g hg => by simp [Value.ownBlock] at hg⟩
/-- the document's net and a row of ways beside it -/
def RfW (w : World) (d k1 k2 k3 j : Nat) (v1 v2 v3 v : Value) (wr : World) : Prop := RfN w d k1 k2 k3 v1 v2 v3 wr ∧ anyRow w 108 4 j v wr
def RnQ (w : World) (r : Ending) (w' : World) : Prop := ∃ d, r = .returned (.tuple #[.pointer (some ⟨d, 0, none⟩), .int .i64 0]) ∧ w.grownBy w' none
set_option maxHeartbeats 2000000 in
set_option maxRecDepth 100000 in
theorem refNew_ok (N : Nat) (h1 : 1 ≤ N) (h64 : N ≤ 64) : Calls Try.prog 25 #[.int .i64 N] w (RnQ w) := by
  have i1 : ¬ (N : Int) < 1 := by omega
  have i2 : ¬ (64 : Int) < (N : Int) := by omega
  have R0 : Hid (RfN w w.heap.size 0 0 0 (.slice none 0 0) (.slice none 0 0) (.slice none 0 0) (w.alloc (.cells #[.slice none 0 0, .slice none 0 0, .slice none 0 0, .slice none 0 0] 90))) := ⟨World.grownBy_alloc w _ none, Nat.le_refl _, heap_alloc_new w _, anyRow_nil _ _ _ _, anyRow_nil _ _ _ _, anyRow_nil _ _ _ _⟩
  obtain ⟨d, hd⟩ : ∃ d, d = w.heap.size := ⟨_, rfl⟩
  rw [← hd] at R0
  have HD := mkHid hd
  clear hd
  go_enter Try.func25, Try.ntmps25
  go_wp2_with fail
  rw [← show d = w.heap.size from HD.out]
  clear HD
  go_loopw [5] (fun s5 wr => ∃ (k : Nat) (v1 v2 v3 : Value), s5 = .int .i64 (k : Int) ∧ k ≤ N ∧ Hid (RfN w d k k k v1 v2 v3 wr)) (fun s5 _ => N - (intOf s5).toNat)
  case atStart => exact ⟨0, _, _, _, rfl, Nat.zero_le _, R0⟩
  case round =>
    obtain ⟨k, v1, v2, v3, rfl, hk, RN⟩ := hrel
    by_cases hlt : k < N
    · have hlti : (k : Int) < (N : Int) := by omega
      obtain ⟨p1, q1, rfl⟩ := RN.out.r1.form
      obtain ⟨p2, q2, rfl⟩ := RN.out.r2.form
      obtain ⟨p3, q3, rfl⟩ := RN.out.r3.form
      obtain ⟨x0, x1, x2, x3, xf⟩ := cells4 RN.out.net
      have hdl := lt_of_heap RN.out.net
      obtain ⟨pa, ca, w4, hr, hd4, _, _, RA⟩ := RN.out.There (.bool true) rfl (by omega)
      obtain ⟨y0, y1, y2, y3, yf⟩ := cells4 hd4
      have yf0 := yf 0
      obtain ⟨z0, z1, z2, z3, zf⟩ := cells4 RA.net
      have hdl4 := lt_of_heap RA.net
      obtain ⟨pb, cb, w6, hr6, hd6, _, _, RB⟩ := RA.Waits (.slice none 0 0) rfl (by omega)
      rw [World.size_setCell] at hr6
      obtain ⟨t0, t1, t2, t3, tf⟩ := cells4 hd6
      have tf2 := tf 2
      have RW0 : Hid (RfW w d (k + 1) k (k + 1) 0 (.slice pa (k + 1) ca) (.slice p2 k q2) (.slice pb (k + 1) cb) (.slice none 0 0) (w6.setCell ⟨d, 2, none⟩ (.slice pb (k + 1) cb))) := ⟨RB, anyRow_nil _ _ _ _⟩
      clear xf yf zf tf hd4 hd6 RA RB RN
      go_wp2_with (first | (at_builtin; refine wp_app 86 rfl (.tmp 25) (.tmp 26) rfl rfl rfl hr ?_) | (at_builtin; refine wp_app 88 rfl (.tmp 34) (.tmp 35) rfl rfl rfl hr6 ?_) | fail)
      generalize w6.setCell ⟨d, 2, none⟩ (.slice pb (k + 1) cb) = wx at RW0 ⊢
      clear hr hr6 x0 x1 x2 x3 y0 y1 y2 y3 z0 z1 z2 z3 t0 t1 t2 t3 yf0 tf2 hdl hdl4
      go_loopw [6, 7] (fun s6 s7 wr => ∃ j : Nat, s7 = .int .i64 (j : Int) ∧ j ≤ N ∧ Hid (RfW w d (k + 1) k (k + 1) j (.slice pa (k + 1) ca) (.slice p2 k q2) (.slice pb (k + 1) cb) s6 wr)) (fun _ s7 _ => N - (intOf s7).toNat)
      case atStart => exact ⟨0, rfl, Nat.zero_le _, RW0⟩
      case round =>
        rename_i s6 s7
        obtain ⟨j, rfl, hj, RW⟩ := hrel
        by_cases hlj : j < N
        · have hlji : (j : Int) < (N : Int) := by omega
          obtain ⟨hR, hA⟩ := RW.out
          obtain ⟨ps, qs, rfl⟩ := hA.form
          obtain ⟨pc, cc, w7, hr7, a7, g7, b7, n7⟩ := rwWa.push hR.gr hA [.int .u64 1, .slice none 0 0, .int .i64 0, .int .i64 0] rfl (by intro u hu; simp only [List.mem_cons, List.mem_nil_iff, or_false] at hu; rcases hu with rfl | rfl | rfl | rfl <;> rfl) (by omega)
          have RW7 : Hid (RfW w d (k + 1) k (k + 1) (j + 1) (.slice pa (k + 1) ca) (.slice p2 k q2) (.slice pb (k + 1) cb) (.slice pc (j + 1) cc) w7) := ⟨⟨g7, hR.od, b7 d _ hR.net (by rw [kd_cells hR.net]; decide), n7 hR.r1 (by decide), n7 hR.r2 (by decide), n7 hR.r3 (by decide)⟩, a7⟩
          clear hR hA a7 g7 b7 n7
          go_wp2_with (first | (at_builtin; refine wp_app 91 rfl (.tmp 44) (.tmp 46) rfl rfl rfl hr7 ?_) | fail)
          go_roundw
          case rel => exact ⟨j + 1, by go_num, hlj, RW7⟩
          case measure => simp [intOf]; omega
        · obtain rfl : j = N := by omega
          obtain ⟨hR, hA⟩ := RW.out
          obtain ⟨ps, qs, rfl⟩ := hA.form
          obtain ⟨x0, x1, x2, x3, xf⟩ := cells4 hR.net
          have hdl := lt_of_heap hR.net
          obtain ⟨pe, ce, w8, hr8, hd8, _, _, RE⟩ := hR.Ways (.slice ps j qs) rfl (by omega)
          obtain ⟨y0, y1, y2, y3, yf⟩ := cells4 hd8
          have yf1 := yf 1
          have RF := mkHid RE
          clear hR hA xf yf hd8 RE
          go_wp2_with (first | (at_builtin; refine wp_app 87 rfl (.tmp 52) (.tmp 54) rfl rfl rfl hr8 ?_) | fail)
          go_roundw
          case rel => exact ⟨k + 1, _, _, _, by go_num, hlt, RF⟩
          case measure => simp [intOf]; omega
    · obtain rfl : k = N := by omega
      have G := mkHid RN.out.gr
      go_wp2_with fail
      go_ret2
      exact ⟨d, rfl, G.out⟩
/-- what begins answers: a pair -/
def BgQ (w : World) (N : Nat) (r : Ending) (w' : World) : Prop := ∃ pr n d L, r = .returned (.tuple #[.pointer (some ⟨pr, 0, none⟩), .bool true]) ∧ w'.heap[pr]? = some (.cells #[.pointer (some ⟨n, 0, none⟩), .pointer (some ⟨d, 0, none⟩)] 33 (0, 0)) ∧ w.heap.size ≤ pr ∧ NetL (fun i => w.heap.size ≤ i ∧ i < pr) w' n 0 (st0 N) L ∧ w.grownBy w' none
set_option maxHeartbeats 1000000 in
set_option maxRecDepth 100000 in
theorem begins_ok (N : Nat) (h1 : 1 ≤ N) (h64 : N ≤ 64) : Calls Try.prog 6 #[.int .i64 N] w (BgQ w N) := by
  have NW := mkHid (New_ok (w := w) N h1 h64)
  have RN := mkHid (fun w => refNew_ok (w := w) N h1 h64)
  go_enter Try.func6, Try.ntmps6
  go_wp2_with fail
  refine NW.out.mono ?_
  rintro e w1 ⟨n, L, rfl, hL, g1⟩
  have HL := mkHid hL
  have G1 := mkHid g1
  clear hL g1
  go_wp2_with fail
  refine (RN.out _).mono ?_
  rintro e w2 ⟨d, rfl, g2⟩
  have G2 := mkHid g2
  clear g2
  go_wp2_with fail
  go_ret2
  have ga := World.grownBy_alloc w2 (.cells #[.pointer (some ⟨n, 0, none⟩), .pointer (some ⟨d, 0, none⟩)] 33) none
  have g12 := grown_none_trans G2.out ga
  refine ⟨_, n, d, L, rfl, heap_alloc_new w2 _, Nat.le_trans G1.out.size G2.out.size, ?_, grown_none_trans G1.out g12⟩
  have h3 := HL.out.kept g12
  refine h3.more (fun i hi => ⟨hi.1, Nat.lt_of_lt_of_le hi.2 G2.out.size⟩) (fun i hi => Nat.lt_of_lt_of_le hi.2 ga.size)
set_option maxHeartbeats 1000000 in
set_option maxRecDepth 100000 in
theorem begins_bad (N : Int) (h : N < 1 ∨ 64 < N) : Calls Try.prog 6 #[.int .i64 N] w fun e w' => e = .returned (.tuple #[.pointer none, .bool true]) ∧ w' = w := by
  have NW := mkHid (New_bad (w := w) N h)
  have RN := mkHid (refNew_bad (w := w) N h)
  clear h
  go_enter Try.func6, Try.ntmps6
  go_wp2_with fail
  refine NW.out.mono ?_
  rintro e w1 ⟨rfl, hwx⟩; have hwx2 := hwx.symm; subst hwx2; clear hwx
  go_wp2_with fail
  refine RN.out.mono ?_
  rintro e w1 ⟨rfl, hwx⟩; have hwx2 := hwx.symm; subst hwx2; clear hwx
  go_wp2_with fail
  go_ret2
  exact ⟨rfl, rfl⟩
end Go.Proofs.Ytpghkbbhcpcbdaa
