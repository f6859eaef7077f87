/-
  The law NetEnd, walked whole.
-/
import Derived.Test.YtbdlamlplfogjaaGL
namespace Go.Proofs.Ytbdlamlplfogjaa
open Go.RowKit Go.Maps Go.Joins

set_option maxHeartbeats 4000000 in
set_option maxRecDepth 100000 in
theorem NetEnd_bad (N : Int) (va vf vt : Value) (w : World) (h : N < 1 ∨ 64 < N) : Calls Try.prog 5 #[.int .i64 N, va, vf, vt] w fun e w' => e = .returned (.bool true) ∧ w.grownBy w' none := by
  have LV := mkHid (lives_any w)
  have BG := mkHid (fun w => begins_bad (w := w) N h)
  clear h
  go_enter Try.func5, Try.ntmps5
  go_wp2_with fail
  refine LV.out.mono ?_
  rintro e w1 ⟨rfl, g1⟩
  have G1 := mkHid g1
  clear LV g1
  go_wp2_with fail
  refine (BG.out w1).mono ?_
  rintro e w2 ⟨rfl, hwx⟩; have hwx2 := hwx.symm; subst hwx2; clear hwx
  go_wp2_with fail
  go_ret
  exact ⟨rfl, G1.out⟩
theorem LE_start {w1 w2 : World} {N n d pr m : Nat} {L : Ly} {R : Lr} (hp : w2.heap[pr]? = some (.cells #[.pointer (some ⟨n, 0, none⟩), .pointer (some ⟨d, 0, none⟩)] 33 (0, 0))) (hm : m ≤ pr) (hm1 : w1.heap.size ≤ m) (hN : NetL (fun i => w1.heap.size ≤ i ∧ i < m) w2 n 0 (st0 N) L) (hR : RL (fun i => m ≤ i ∧ i < pr) w2 d (st0 N) (fun _ _ => []) R) (g2 : w1.grownBy w2 none) : LE w1 N n d pr 0 w2 :=
  ⟨_, _, _, _, 0, L, R, ⟨hN, hR, fun i h1 h2 => by omega⟩, Good.begin N, by omega, hp, fun e => by omega, fun e => by omega, fun i h => h.1, fun i h => by omega, by omega, g2⟩
/-- an act as it is loaded -/
theorem nacs.val {w wr : World} {Pa : Option Addr} {l : List Ac} {i : Nat} {x : Ac} (h : nacs w Pa l) (hx : l[i]? = some x) (hg : w.grownBy wr none) : ∃ g o, Pa = some ⟨g, o, none⟩ ∧ wr.cell? ⟨g, o + i * 6, none⟩ = some (.int .i64 x.k) ∧ wr.cell? ⟨g, o + i * 6 + 1, none⟩ = some (.int .i64 x.a) ∧ wr.cell? ⟨g, o + i * 6 + 2, none⟩ = some (.int .i64 x.t) ∧ wr.cell? ⟨g, o + i * 6 + 3, none⟩ = some (.int .i64 x.i) ∧ wr.cell? ⟨g, o + i * 6 + 4, none⟩ = some (.slice x.p x.b.length x.q) ∧ wr.cell? ⟨g, o + i * 6 + 5, none⟩ = some (.bool x.h) := by
  obtain ⟨g, o, e, c0, c1, c2, c3, c4, c5, _⟩ := h.at hx hg
  exact ⟨g, o, e, c0, c1, c2, c3, c4, c5⟩
theorem sumU_le {S : St} {T : Nat → Nat → List ByteArray} {B N : Nat} (h : Good S T B N) (a : Nat) : ∀ k, sumU S a k ≤ 4096 * k
  | 0 => Nat.le_refl _
  | k + 1 => by
    have := sumU_le h a k
    have := h.ok.wu a k
    show sumU S a k + (S.wy a k).us.length ≤ _
    omega
/-- the last loop: the program's net, what is still to come, how often it was gone round -/
def LF (w1 : World) (N n d pr k a b : Nat) (T : Nat → Nat → List ByteArray) (i : Nat) (S : St) (wr : World) : Prop := LP w1 N n d pr (k + i) S T wr ∧ Pend S T a b ∧ S.dn a = false ∧ S.dn b = false ∧ i + wgt S.fl ≤ 8192
theorem isS_dn {S : St} {a : Nat} (h : a < S.N) : isS S (a : Int) = !S.dn a := by
  unfold isS
  rw [decide_eq_true (by omega), Bool.true_and, Int.toNat_natCast]
theorem fl_cons {S : St} {p : Pk} {rest : List Pk} (h : S.fl = p :: rest) : delivS S 0 = comeS { S with fl := rest } p ∧ flE S 0 = 0 := by
  have e0 : fliesS S 0 = true := by unfold fliesS; rw [h]; simp
  refine ⟨?_, by unfold flE; rw [e0]; rfl⟩
  unfold delivS
  rw [e0, if_pos rfl, h]; rfl
theorem LF.step {w1 wr : World} {N n d pr k a b i : Nat} {T : Nat → Nat → List ByteArray} {S : St} (h : LF w1 N n d pr k a b T i S wr) (hk : k ≤ 2000000) (ha : a < N) (hb : b < N) {p : Pk} {rest : List Pk} (hf : S.fl = p :: rest) {W : World} (g : wr.grownBy W none) : Calls Try.prog 23 #[.pointer (some ⟨n, 0, none⟩), .int .i64 0] W fun e w' => e = .returned (.int .i64 0) ∧ ∃ S', LF w1 N n d pr k a b T (i + 1) S' w' := by
  obtain ⟨h1, h2, h3, h4, h5⟩ := h
  have G := h1.good
  have hN := G.hN
  have hfb := G.fb
  obtain ⟨e1, e2⟩ := fl_cons hf
  obtain ⟨GG, OO, hI⟩ := G.inv
  have hl : rest.length < 4096 := by rw [hf] at hfb; simp at hfb; omega
  obtain ⟨s1, s2⟩ := h2.step hI (by omega) (by omega) h3 h4 hf hl
  have Ga := G.alone (by omega) ⟨2, 0, 0, 0, none, [], 0, false⟩
  have ea : aloneS S ⟨2, 0, 0, 0, none, [], 0, false⟩ = delivS S 0 := rfl
  rw [ea] at Ga
  refine ((h1.kept g).moves Ga (er := flE S 0) (fun P c L b hc => Deliver_any b 0 G.ok (by omega))).mono ?_
  rintro e w5 ⟨rfl, U⟩
  refine ⟨by rw [e2], delivS S 0, U, by rw [e1]; exact s1, ?_, ?_, ?_⟩
  · rw [e1, comeS_dn]; exact h3
  · rw [e1, comeS_dn]; exact h4
  · rw [e1]; omega
set_option maxHeartbeats 8000000 in
set_option maxRecDepth 100000 in
theorem NetEnd_ok (N : Nat) (l : List Ac) (Pa : Option Addr) (Ca f t : Nat) (w : World) (h1 : 1 ≤ N) (h64 : N ≤ 64) (hl : l.length ≤ 1900000) (ha : nacs w Pa l) (hf : f ≤ 255) (ht : t ≤ 255) : Calls Try.prog 5 #[.int .i64 N, .slice Pa l.length Ca, .int .u8 f, .int .u8 t] w fun e w' => e = .returned (.bool true) ∧ w.grownBy w' none := by
  have LV := mkHid (lives_any w)
  have BG := mkHid (fun w => begins_both (w := w) N h1 h64)
  obtain ⟨A, hA⟩ : ∃ A, A = l.length := ⟨_, rfl⟩
  have HA := mkHid hA
  have HAC := mkHid ha
  rw [← hA] at hl ⊢
  obtain ⟨a, hfa, haN⟩ : ∃ a : Nat, (f : Int).tmod (N : Int) = (a : Int) ∧ a < N := ⟨f % N, (Int.ofNat_tmod f N).symm, Nat.mod_lt _ (by omega)⟩
  obtain ⟨b, htb, hbN⟩ : ∃ b : Nat, (t : Int).tmod (N : Int) = (b : Int) ∧ b < N := ⟨t % N, (Int.ofNat_tmod t N).symm, Nat.mod_lt _ (by omega)⟩
  have n0 : ((N : Int) == 0) = false := by rw [beq_eq_false_iff_ne]; omega
  have n1 : ¬ (N : Int) = 0 := by omega
  have f1 : IntKind.i64.wrap (f : Int) = (f : Int) := by rw [IntKind.wrap_i64]; omega
  have t1 : IntKind.i64.wrap (t : Int) = (t : Int) := by rw [IntKind.wrap_i64]; omega
  have fa1 : IntKind.i64.wrap ((f : Int).tmod (N : Int)) = (a : Int) := by rw [hfa, IntKind.wrap_i64]; omega
  have tb1 : IntKind.i64.wrap ((t : Int).tmod (N : Int)) = (b : Int) := by rw [htb, IntKind.wrap_i64]; omega
  clear hA ha hf ht
  go_enter Try.func5, Try.ntmps5
  go_wp2_with fail
  refine LV.out.mono ?_
  rintro e w1 ⟨rfl, g1⟩
  have G1 := mkHid g1
  clear LV g1
  go_wp2_with fail
  refine (BG.out w1).mono ?_
  rintro e w2 ⟨pr, n, d, m, L, R, rfl, hp, hm, hN, hR, g2⟩
  have hm1 : w1.heap.size ≤ m := by
    have := hN.pn
    omega
  have L0 := mkHid (LE_start hp hm hm1 hN hR g2)
  clear BG hp hm hm1 hN hR g2
  go_wp2_with fail
  go_loopw [11] (fun s11 wr => ∃ k : Nat, s11 = .int .i64 (k : Int) ∧ k ≤ A ∧ Hid (LE w1 N n d pr k wr)) (fun s11 _ => A - (intOf s11).toNat)
  case atStart => exact ⟨0, rfl, Nat.zero_le _, L0⟩
  case round =>
    obtain ⟨k, rfl, hk, LK⟩ := hrel
    by_cases hlt : k < A
    · have hlti : (k : Int) < (A : Int) := by omega
      obtain ⟨x, hx⟩ : ∃ x, l[k]? = some x := ⟨_, List.getElem?_eq_getElem (by rw [← HA.out]; exact hlt)⟩
      have gw : w.grownBy wr none := by
        obtain ⟨S, T, q⟩ := LK.out.lp
        exact grown_none_trans G1.out q.gr
      obtain ⟨g, o, hPa, c0, c1, c2, c3, c4, c5⟩ := HAC.out.val hx gw
      have DO := mkHid (LK.out.does (by omega) G1.out HAC.out hx)
      unfold Ac.cells at DO
      subst hPa
      clear gw LK hx
      go_wp2_with fail
      refine DO.out.mono ?_
      rintro e w5 ⟨rfl, u5⟩
      have U5 := mkHid u5
      clear u5
      go_wp2_with fail
      go_roundw
      case rel => exact ⟨k + 1, by go_num, hlt, U5⟩
      case measure => simp [intOf]; omega
    · obtain rfl : k = A := by omega
      obtain ⟨S, T, q⟩ := LK.out.lp
      have QH := mkHid q
      clear q LK L0
      have hki : ¬ (k : Int) < (k : Int) := by omega
      go_wp2_with fail
      go_quiet (fail)
      have GW := mkHid (grown_drewN (grown_refl wr) nq)
      generalize wr.drewN nq = wq at GW ⊢
      have LQ := mkHid (QH.out.kept GW.out)
      clear GW QH
      have hSN : Hid (S.N = N) := LQ.out.good.hN
      have pc := LQ.out.pr
      have GRW : Hid (∀ W, wq.grownBy W none → w.grownBy W none) := fun W g => grown_none_trans G1.out (grown_none_trans LQ.out.gr g)
      have ISP : Hid (∀ j : Nat, j < N → Calls Try.prog 20 #[.pointer (some ⟨n, 0, none⟩), .int .i64 (j : Int)] wq fun e w' => e = .returned (.bool (!S.dn j)) ∧ w' = wq) := fun j hj => by
        obtain ⟨P, c, L, b, _⟩ := LQ.out
        have := Is_any b (j : Int)
        rw [isS_dn (by rw [hSN.out]; exact hj)] at this
        exact this
      cases da : S.dn a with
      | true =>
        have IA := mkHid (ISP.out a haN)
        rw [da] at IA
        clear da
        go_wp2_with fail
        refine IA.out.mono ?_
        rintro e w5 ⟨rfl, hwx⟩; have hwx2 := hwx.symm; subst hwx2; clear hwx
        go_wp2_with fail
        go_ret
        exact ⟨rfl, GRW.out _ (grown_refl _)⟩
      | false =>
        cases db : S.dn b with
        | true =>
          have IA := mkHid (ISP.out a haN)
          rw [da] at IA
          have IB := mkHid (ISP.out b hbN)
          rw [db] at IB
          clear da db
          go_wp2_with fail
          refine IA.out.mono ?_
          rintro e w5 ⟨rfl, hwx⟩; have hwx2 := hwx.symm; subst hwx2; clear hwx
          go_wp2_with fail
          refine IB.out.mono ?_
          rintro e w5 ⟨rfl, hwx⟩; have hwx2 := hwx.symm; subst hwx2; clear hwx
          go_wp2_with fail
          go_ret
          exact ⟨rfl, GRW.out _ (grown_refl _)⟩
        | false =>
          have IA := mkHid (ISP.out a haN)
          rw [da] at IA
          have IB := mkHid (ISP.out b hbN)
          rw [db] at IB
          have HD := mkHid (And.intro da db)
          have UNS : Hid (∀ W (i j : Nat), wq.grownBy W none → i < N → j < N → Calls Try.prog 21 #[.pointer (some ⟨n, 0, none⟩), .int .i64 (i : Int), .int .i64 (j : Int)] W fun e w' => e = .returned (.tuple #[.int .i64 ((S.wy i j).us.length : Int), .int .i64 0]) ∧ wq.grownBy w' none) := fun W i j g hi hj => by
            obtain ⟨P, c, L, b, _⟩ := LQ.out
            have e0 : (0 ≤ (i : Int) ∧ (i : Int) < S.N) ∧ (0 ≤ (j : Int) ∧ (j : Int) < S.N) := by have := hSN.out; omega
            refine (Unsure_any (b.kept g) (i : Int) (j : Int)).mono ?_
            rintro e w5 ⟨rfl, g5⟩
            refine ⟨?_, grown_none_trans g g5⟩
            unfold unK unE
            rw [if_pos e0, if_pos e0, Int.toNat_natCast, Int.toNat_natCast]
          have FLT : Hid (∀ W, wq.grownBy W none → Calls Try.prog 13 #[.pointer (some ⟨n, 0, none⟩)] W fun e w' => ∃ p cap, e = .returned (.slice p S.fl.length cap) ∧ wq.grownBy w' none) := fun W g => by
            obtain ⟨P, c, L, b, G, _⟩ := LQ.out
            refine (Flights_any (b.kept g) (by have := G.fb; omega)).mono ?_
            rintro e w5 ⟨⟨p, cap, rfl⟩, g5⟩
            exact ⟨p, cap, rfl, grown_none_trans g g5⟩
          have SUL : Hid (∀ i, i ≤ N → sumU S a i ≤ 262144) := fun i hi => by
            have := sumU_le LQ.out.good a i
            omega
          clear da db ISP
          go_wp2_with fail
          refine IA.out.mono ?_
          rintro e w5 ⟨rfl, hwx⟩; have hwx2 := hwx.symm; subst hwx2; clear hwx
          go_wp2_with fail
          refine IB.out.mono ?_
          rintro e w5 ⟨rfl, hwx⟩; have hwx2 := hwx.symm; subst hwx2; clear hwx
          go_wp2_with fail
          clear IA IB
          go_loopw [14, 15] (fun s14 s15 wv => ∃ i : Nat, s14 = .int .i64 (sumU S a i : Int) ∧ s15 = .int .i64 (i : Int) ∧ i ≤ N ∧ Hid (wq.grownBy wv none)) (fun _ s15 _ => N - (intOf s15).toNat)
          case atStart => exact ⟨0, rfl, rfl, Nat.zero_le _, mkHid (grown_refl _)⟩
          case round =>
            rename World => wv
            obtain ⟨i, rfl, rfl, hi, GV⟩ := hrel
            have pcv := GV.out.cell pc (by simp)
            by_cases hlt2 : i < N
            · have hlti : (i : Int) < (N : Int) := by omega
              have UN := mkHid (UNS.out wv a i GV.out haN hlt2)
              obtain ⟨ul, hul⟩ : ∃ ul, ul = (S.wy a i).us.length := ⟨_, rfl⟩
              obtain ⟨sm, hsm⟩ : ∃ sm, sm = sumU S a i := ⟨_, rfl⟩
              have SE : Hid (sumU S a (i + 1) = sm + ul) := by rw [hsm, hul]; rfl
              have b1 := SUL.out (i + 1) hlt2
              rw [SE.out] at b1
              rw [← hul] at UN
              rw [← hsm]
              have ws : IntKind.i64.wrap ((sm : Int) + (ul : Int)) = (sm : Int) + (ul : Int) := by rw [IntKind.wrap_i64]; omega
              clear hul hsm
              go_wp2_with fail
              refine UN.out.mono ?_
              rintro e w6 ⟨rfl, g6⟩
              have G6 := mkHid g6
              clear g6
              go_wp2_with fail
              go_roundw
              case rel => exact ⟨i + 1, by rw [SE.out]; go_num, by go_num, hlt2, G6⟩
              case measure => simp [intOf]; omega
            · obtain rfl : i = N := by omega
              have hii : ¬ (i : Int) < (i : Int) := by omega
              have FL := mkHid (FLT.out wv GV.out)
              obtain ⟨fl, hfl⟩ : ∃ fl, fl = S.fl.length := ⟨_, rfl⟩
              obtain ⟨sm, hsm⟩ : ∃ sm, sm = sumU S a i := ⟨_, rfl⟩
              have b1 := SUL.out i (Nat.le_refl _)
              have b2 : S.fl.length ≤ 4096 := LQ.out.good.fb
              rw [← hsm] at b1 ⊢
              rw [← hfl] at FL b2
              have ws : IntKind.i64.wrap ((fl : Int) + (sm : Int)) = (fl : Int) + (sm : Int) := by rw [IntKind.wrap_i64]; omega
              have HF := mkHid hfl
              have HS := mkHid hsm
              clear hfl hsm
              by_cases hge : 2048 ≤ fl + sm
              · have hgi : (2048 : Int) ≤ (fl : Int) + (sm : Int) := by omega
                go_wp2_with fail
                refine FL.out.mono ?_
                rintro e w6 ⟨p, cap, rfl, g6⟩
                have G6 := mkHid g6
                clear g6
                go_wp2_with fail
                go_ret
                exact ⟨rfl, GRW.out _ G6.out⟩
              · have hgi : ¬ (2048 : Int) ≤ (fl : Int) + (sm : Int) := by omega
                have TK : Hid (∀ W, wq.grownBy W none → Calls Try.prog 22 #[.pointer (some ⟨n, 0, none⟩), .int .i64 (a : Int)] W fun e w' => e = .returned (.int .i64 0) ∧ LF w1 i n d pr (k + 1) a b T 0 (tickS S (a : Int)) w') := fun W g => by
                  have G := LQ.out.good
                  have ok := G.ok
                  have hlt := ok.lt
                  have hs : isS S (a : Int) = true := by rw [isS_dn (by rw [hSN.out]; exact haN), HD.out.1]; rfl
                  have e1 : isE S (a : Int) = 0 := by unfold isE; rw [hs]; rfl
                  obtain ⟨GG, OO, hI⟩ := G.inv
                  have Ga := G.alone (by omega) ⟨5, (a : Int), 0, 0, none, [], 0, false⟩
                  have ea : aloneS S ⟨5, (a : Int), 0, 0, none, [], 0, false⟩ = tickS S (a : Int) := rfl
                  rw [ea] at Ga
                  have PB := Pend.begin hI (a := a) (b := b) (by rw [hSN.out]; exact haN) (by rw [hSN.out]; exact hbN) HD.out.1 (by rw [hSN.out, ← HF.out, ← HS.out]; omega)
                  refine ((LQ.out.kept g).moves Ga (er := isE S (a : Int)) (fun P c L b hc => (Tick_any b (a : Int) (fun x y => by have := ok.wb x y; omega) (fun x y => by have := ok.wt x y; omega) (fun x y => ok.wu x y)).mono (fun e w5 q => ⟨q.1, q.2.le (by omega)⟩))).mono ?_
                  rintro e w5 ⟨rfl, U⟩
                  have ed : (tickS S (a : Int)).dn = S.dn := by
                    have : ∀ k, (tickK S a k).dn = S.dn := fun k => by
                      have tm : ∀ (S2 : St) x y m, (tickM S2 x y m).dn = S2.dn := fun S2 x y m => by
                        induction m with
                        | zero => rfl
                        | succ m ih => rw [tickM, flyS_dn]; exact ih
                      induction k with
                      | zero => rfl
                      | succ k ih => rw [tickK, tm]; exact ih
                    unfold tickS
                    rw [if_pos hs]; exact this _
                  refine ⟨by rw [e1], U, PB, by rw [ed]; exact HD.out.1, by rw [ed]; exact HD.out.2, ?_⟩
                  have := wgt_le (tickS S (a : Int)).fl
                  have := Ga.fb
                  omega
                go_wp2_with fail
                refine FL.out.mono ?_
                rintro e w6 ⟨p, cap, rfl, g6⟩
                have G6 := mkHid g6
                clear g6
                have pc6 := G6.out.cell pc (by simp)
                go_wp2_with fail
                refine (TK.out _ G6.out).mono ?_
                rintro e w7 ⟨rfl, u7⟩
                have U7 := mkHid u7
                clear u7 TK FL UNS FLT SUL LQ pcv pc pc6 HF HS HD
                go_wp2_with fail
                go_loopw [18] (fun s18 wx => ∃ (j : Nat) (S2 : St), s18 = .int .i64 (j : Int) ∧ j ≤ 8192 ∧ Hid (LF w1 i n d pr (k + 1) a b T j S2 wx)) (fun s18 _ => 9000 - (intOf s18).toNat)
                case atStart => exact ⟨0, _, rfl, Nat.zero_le _, U7⟩
                case round =>
                  rename World => wx
                  obtain ⟨j, S2, rfl, hj, LJ⟩ := hrel
                  have pcx := LJ.out.1.pr
                  have FL : Hid (Calls Try.prog 13 #[.pointer (some ⟨n, 0, none⟩)] wx fun e w' => ∃ p cap, e = .returned (.slice p S2.fl.length cap) ∧ wx.grownBy w' none) := by
                    obtain ⟨P, c, L, b, G, _⟩ := LJ.out.1
                    refine (Flights_any b (by have := G.fb; omega)).mono ?_
                    rintro e w5 ⟨⟨p, cap, rfl⟩, g5⟩
                    exact ⟨p, cap, rfl, g5⟩
                  cases hfl : S2.fl with
                  | nil =>
                    rw [hfl] at FL
                    have UN : Hid (∀ W, wx.grownBy W none → Calls Try.prog 21 #[.pointer (some ⟨n, 0, none⟩), .int .i64 (a : Int), .int .i64 (b : Int)] W fun e w' => e = .returned (.tuple #[.int .i64 0, .int .i64 0]) ∧ w.grownBy w' none) := fun W g => by
                      have hG := LJ.out.1.good
                      obtain ⟨GG, OO, hI⟩ := hG.inv
                      have hN2 := hG.hN
                      have us := LJ.out.2.1.fin hI (by omega) (by omega) hfl
                      have gr := LJ.out.1.gr
                      obtain ⟨P, c, L, b', _⟩ := LJ.out.1
                      have e0 : (0 ≤ (a : Int) ∧ (a : Int) < S2.N) ∧ (0 ≤ (b : Int) ∧ (b : Int) < S2.N) := by omega
                      refine (Unsure_any (b'.kept g) (a : Int) (b : Int)).mono ?_
                      rintro e w5 ⟨rfl, g5⟩
                      refine ⟨?_, grown_none_trans G1.out (grown_none_trans gr (grown_none_trans g g5))⟩
                      unfold unK unE
                      rw [if_pos e0, if_pos e0, Int.toNat_natCast, Int.toNat_natCast, us]; rfl
                    clear LJ hfl
                    go_wp2_with fail
                    refine FL.out.mono ?_
                    rintro e w8 ⟨p, cap, rfl, g8⟩
                    have G8 := mkHid g8
                    have pc8 := g8.cell pcx (by simp)
                    clear g8
                    go_wp2_with fail
                    refine (UN.out _ G8.out).mono ?_
                    rintro e w9 ⟨rfl, g9⟩
                    have G9 := mkHid g9
                    clear g9
                    go_wp2_with fail
                    go_ret
                    exact ⟨rfl, G9.out⟩
                  | cons pk rest =>
                    rw [hfl] at FL
                    obtain ⟨fl2, hfl2⟩ : ∃ fl2, fl2 = (pk :: rest).length := ⟨_, rfl⟩
                    rw [← hfl2] at FL
                    have hpos : (0 : Int) < (fl2 : Int) := by rw [hfl2]; simp
                    have hw0 : 0 < wgt S2.fl := by rw [hfl]; simp only [wgt]; split <;> omega
                    have hj2 : j + 1 ≤ 8192 := by have := LJ.out.2.2.2.2; omega
                    have hj3 : ¬ (16384 : Int) < (j : Int) := by omega
                    have DL : Hid (∀ W, wx.grownBy W none → Calls Try.prog 23 #[.pointer (some ⟨n, 0, none⟩), .int .i64 0] W fun e w' => e = .returned (.int .i64 0) ∧ ∃ S', LF w1 i n d pr (k + 1) a b T (j + 1) S' w') := fun W g => LJ.out.step (by omega) haN hbN hfl g
                    clear LJ hfl hfl2 hw0
                    go_wp2_with fail
                    refine FL.out.mono ?_
                    rintro e w8 ⟨p, cap, rfl, g8⟩
                    have G8 := mkHid g8
                    have pc8 := g8.cell pcx (by simp)
                    clear g8
                    go_wp2_with fail
                    refine (DL.out _ G8.out).mono ?_
                    rintro e w9 ⟨rfl, S3, u9⟩
                    have U9 := mkHid u9
                    clear u9
                    go_wp2_with fail
                    go_roundw
                    case rel => exact ⟨j + 1, S3, by go_num, hj2, U9⟩
                    case measure => simp [intOf]; omega
end Go.Proofs.Ytbdlamlplfogjaa
