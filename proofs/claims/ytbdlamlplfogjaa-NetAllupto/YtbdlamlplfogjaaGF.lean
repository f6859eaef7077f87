/-
  Walks: the document's net: Send, whatever is handed in.
-/
import Derived.Test.YtbdlamlplfogjaaNwOx
import Derived.Deep.RegionHeld3
namespace Go.Proofs.Ytbdlamlplfogjaa
open Go.RowKit Go.Maps Go.Joins
variable {Q : Nat → Prop} {w w' : World} {d : Nat} {S : St} {T : Nat → Nat → List ByteArray} {R : Lr}

/-- what is told as sent behind a Send -/
def sendTT (S : St) (T : Nat → Nat → List ByteArray) (f t : Int) (l : List UInt8) : Nat → Nat → List ByteArray := if sendE S f t l.length = 0 then upd2 T f.toNat t.toNat (T f.toNat t.toNat ++ [⟨l.toArray⟩]) else T
theorem rSend_any (h : RL Q w d S T R) (f t : Int) {p : Option Addr} {l : List UInt8} {q B : Nat} (hby : byA w p l) (hnl : p = none → l.length = 0 ∧ q = 0) (ok : OkS S B) (hu : ∀ i j, i < S.N → j < S.N → (S.wy i j).us = (T i j).drop (S.wy i j).t ∧ (S.wy i j).t ≤ (T i j).length ∧ (T i j).length ≤ 5000000) :
    Calls Try.prog 31 #[.pointer (some ⟨d, 0, none⟩), .int .i64 f, .int .i64 t, .slice p l.length q] w (REQ Q w d (sendT S f t ⟨l.toArray⟩) (sendTT S T f t l) (sendE S f t l.length)) := by
  by_cases h1 : isS S f = true ∧ 0 ≤ t ∧ t < S.N
  · obtain ⟨i, rfl, hi, _⟩ := isS_in h1.1
    obtain ⟨j, rfl⟩ : ∃ j : Nat, t = (j : Int) := ⟨t.toNat, by omega⟩
    have hj : j < S.N := by omega
    obtain ⟨u1, u2, u3⟩ := hu i j hi hj
    have u4 : (S.wy i j).us.length = (T i j).length - (S.wy i j).t := by rw [u1, List.length_drop]
    by_cases h2 : 65536 < l.length ∨ (S.wy i j).us.length = 4096
    · have e1 : sendE S (i : Int) (j : Int) l.length = 2 := by unfold sendE; rw [if_pos h1, Int.toNat_natCast, Int.toNat_natCast, if_pos h2]
      have e2 : sendT S (i : Int) (j : Int) ⟨l.toArray⟩ = S := send_no (by rw [e1]; decide)
      have e3 : sendTT S T (i : Int) (j : Int) l = T := by unfold sendTT; rw [e1]; rfl
      rw [e1, e2, e3]
      exact rSend_long h h1.1 hj u2 u3 (by omega)
    · have e1 : sendE S (i : Int) (j : Int) l.length = 0 := by unfold sendE; rw [if_pos h1, Int.toNat_natCast, Int.toNat_natCast, if_neg h2]
      have e2 : sendT S (i : Int) (j : Int) ⟨l.toArray⟩ = sendS S i j ⟨l.toArray⟩ := by unfold sendT; rw [if_pos h1, Int.toNat_natCast, Int.toNat_natCast, if_neg h2]
      have e3 : sendTT S T (i : Int) (j : Int) l = upd2 T i j (T i j ++ [⟨l.toArray⟩]) := by unfold sendTT; rw [e1, if_pos rfl, Int.toNat_natCast, Int.toNat_natCast]
      rw [e1, e2, e3]
      have := ok.wu i j
      exact rSend_ok h h1.1 hj u2 u3 hby hnl (by omega) u1 (by omega)
  · have e1 : sendE S f t l.length = 60 := by unfold sendE; rw [if_neg h1]
    have e2 : sendT S f t ⟨l.toArray⟩ = S := send_no (by rw [e1]; decide)
    have e3 : sendTT S T f t l = T := by unfold sendTT; rw [e1]; rfl
    rw [e1, e2, e3]
    exact rSend_no h f t _ h1
end Go.Proofs.Ytbdlamlplfogjaa
namespace Go.Proofs.Ytbdlamlplfogjaa
open Go.RowKit Go.Maps Go.Joins
variable {Q : Nat → Prop} {w w' : World} {d : Nat} {S : St} {T : Nat → Nat → List ByteArray} {R : Lr}

set_option maxHeartbeats 4000000 in
set_option maxRecDepth 100000 in
theorem rTick_any (h : RL Q w d S T R) (k : Int) (hu : ∀ i j, i < S.N → j < S.N → (S.wy i j).us = (T i j).drop (S.wy i j).t ∧ (S.wy i j).t ≤ (T i j).length ∧ (T i j).length ≤ 5000000) : Calls Try.prog 38 #[.pointer (some ⟨d, 0, none⟩), .int .i64 k] w (REQ Q w d (tickS S k) T (isE S k)) := by
  have IS := mkHid (rIs_any h k)
  cases hs : isS S k with
  | false =>
    have e1 : tickS S k = S := by unfold tickS; rw [hs]; rfl
    have e2 : isE S k = 60 := by unfold isE; rw [hs]; rfl
    unfold REQ
    rw [e1, e2]
    rw [hs] at IS
    have U := mkHid (h.up (grown_refl _))
    clear h e1 e2 hs hu
    go_enter Try.func38, Try.ntmps38
    go_wp2_with fail
    refine IS.out.mono ?_
    rintro e w1 ⟨rfl, hwx⟩; have hwx2 := hwx.symm; subst hwx2; clear hwx
    go_wp2_with fail
    go_ret
    exact ⟨rfl, U.out⟩
  | true =>
    obtain ⟨i, rfl, hi, hd⟩ := isS_in hs
    have e1 : tickS S (i : Int) = tickK S i S.N := by unfold tickS; rw [hs, if_pos rfl, Int.toNat_natCast]
    have e2 : isE S (i : Int) = 0 := by unfold isE; rw [hs]; rfl
    unfold REQ
    rw [e1, e2]
    rw [hs] at IS
    have U0 : Hid (RU Q w d (tickK S i 0) T w) := h.up (grown_refl _)
    have HU := mkHid hu
    have PB := mkHid h.pb
    obtain ⟨N, hN⟩ : ∃ N, N = S.N := ⟨_, rfl⟩
    have HN := mkHid hN
    rw [← hN] at hi ⊢
    have h64 : N ≤ 64 := by rw [hN]; exact h.n64
    have hii : (i : Int) < (N : Int) := by omega
    clear h e1 e2 hs hu hN hd
    go_enter Try.func38, Try.ntmps38
    go_wp2_with fail
    refine IS.out.mono ?_
    rintro e w1 ⟨rfl, hwx⟩; have hwx2 := hwx.symm; subst hwx2; clear hwx
    go_wp2_with fail
    go_loopw [5] (fun s5 wr => ∃ jj : Nat, s5 = .int .i64 (jj : Int) ∧ jj ≤ N ∧ Hid (RU Q w d (tickK S i jj) T wr)) (fun s5 _ => N - (intOf s5).toNat)
    case atStart => exact ⟨0, rfl, Nat.zero_le _, U0⟩
    case round =>
      obtain ⟨jj, rfl, hto, U⟩ := hrel
      rename World => wo
      obtain ⟨R1, H, C⟩ := U.out
      obtain ⟨c0, c1, c2, c3, _⟩ := H.cs
      rw [tickK_N, ← show N = S.N from HN.out] at c0 c1
      by_cases hlt : jj < N
      · have hlti : (jj : Int) < (N : Int) := by omega
        obtain ⟨y0, y1, y2, y3, y4, _⟩ := H.ycell (i := i) (j := jj) (by rw [tickK_N, ← show N = S.N from HN.out]; exact hi) (by rw [tickK_N, ← show N = S.N from HN.out]; exact hlt)
        rw [tickK_N, ← show N = S.N from HN.out] at y0
        rw [tickK_wy] at y1 y3 y4
        obtain ⟨ps, cs, he, _⟩ := (H.sr i jj (by rw [tickK_N, ← show N = S.N from HN.out]; exact hi) (by rw [tickK_N, ← show N = S.N from HN.out]; exact hlt)).form
        rw [he] at y2
        obtain ⟨u1, u2, u3⟩ := HU.out i jj (by rw [← show N = S.N from HN.out]; exact hi) (by rw [← show N = S.N from HN.out]; exact hlt)
        obtain ⟨TL, hTL⟩ : ∃ TL, TL = (T i jj).length := ⟨_, rfl⟩
        obtain ⟨tt, htt⟩ : ∃ tt, tt = (S.wy i jj).t := ⟨_, rfl⟩
        rw [← hTL] at y2 u2 u3
        rw [← htt] at y3 u2
        obtain ⟨w2, hw2⟩ : ∃ w2, w2 = wo.alloc (.cells #[.int .u64 (((S.wy i jj).b + 1 : Nat) : Int), .slice ps TL cs, .int .i64 (tt : Int), .int .i64 ((S.wy i jj).c : Int)] 108) := ⟨_, rfl⟩
        have g2 : wo.grownBy w2 none := by rw [hw2]; exact grown_al (grown_refl _) _
        have x2 : w2.heap[wo.heap.size]? = some (.cells #[.int .u64 (((S.wy i jj).b + 1 : Nat) : Int), .slice ps TL cs, .int .i64 (tt : Int), .int .i64 ((S.wy i jj).c : Int)] 108 (0, 0)) := by rw [hw2]; exact heap_alloc_new _ _
        have V0 : Hid (RU (ext Q w wo) w2 d (tickM (tickK S i jj) i jj 0) T w2) := (H.kept g2).up (grown_refl _)
        have BX : Hid (∀ wq, RU (ext Q w wo) w2 d (tickM (tickK S i jj) i jj 0) T wq ∨ (∃ m, RU (ext Q w wo) w2 d (tickM (tickK S i jj) i jj m) T wq) → wq.heap[wo.heap.size]? = some (.cells #[.int .u64 (((S.wy i jj).b + 1 : Nat) : Int), .slice ps TL cs, .int .i64 (tt : Int), .int .i64 ((S.wy i jj).c : Int)] 108 (0, 0))) := fun wq hq => by
          have key : ∀ m, RU (ext Q w wo) w2 d (tickM (tickK S i jj) i jj m) T wq → wq.heap[wo.heap.size]? = some (.cells #[.int .u64 (((S.wy i jj).b + 1 : Nat) : Int), .slice ps TL cs, .int .i64 (tt : Int), .int .i64 ((S.wy i jj).c : Int)] 108 (0, 0)) := fun m hm => by
            obtain ⟨_, _, Cm⟩ := hm
            exact Cm.at_ x2 (fun e => by have := H.pb _ e.1; omega)
          rcases hq with hq | ⟨m, hq⟩
          · exact key 0 hq
          · exact key m hq
        have HH := mkHid H
        have HC := mkHid C
        have G2 := mkHid g2
        have hE : Hid ((S.wy i jj).us.length = TL - tt ∧ (∀ m, m < TL - tt → (T i jj)[tt + m]? = some ((S.wy i jj).us.getD m ⟨#[]⟩)) ∧ tt = (S.wy i jj).t) := by
          have q1 : (S.wy i jj).us.length = TL - tt := by rw [u1, List.length_drop, ← hTL, ← htt]
          refine ⟨q1, fun m hm => ?_, htt⟩
          rw [List.getD_eq_getElem?_getD, u1, List.getElem?_drop, ← htt, List.getElem?_eq_getElem (show tt + m < (T i jj).length by omega)]; rfl
        clear H C g2 x2 U he u1 hTL htt
        subst hw2
        go_wp2_with fail
        go_loopw [7] (fun s7 wq => ∃ m : Nat, s7 = .int .i64 ((tt + m + 1 : Nat) : Int) ∧ m ≤ TL - tt ∧ Hid (RU (ext Q w wo) (wo.alloc (.cells #[.int .u64 (((S.wy i jj).b + 1 : Nat) : Int), .slice ps TL cs, .int .i64 (tt : Int), .int .i64 ((S.wy i jj).c : Int)] 108)) d (tickM (tickK S i jj) i jj m) T wq)) (fun s7 _ => TL + 1 - (intOf s7).toNat)
        case atStart => exact ⟨0, by go_num, Nat.zero_le _, V0⟩
        case round =>
          obtain ⟨m, rfl, hm, V⟩ := hrel
          obtain ⟨b0, b1, b2, b3, _⟩ := cells4 (BX.out _ (Or.inr ⟨m, V.out⟩))
          by_cases hlm : m < TL - tt
          · obtain ⟨Rm, Hm, Cm⟩ := V.out
            have hNm : (tickM (tickK S i jj) i jj m).N = N := by rw [tickM_N, tickK_N]; exact HN.out.symm
            have e1 : tickM (tickK S i jj) i jj (m + 1) = flyS (tickM (tickK S i jj) i jj m) ⟨i, jj, false, tt + m + 1, ((tickM (tickK S i jj) i jj m).wy i jj).b + 1, (S.wy i jj).us.getD m ⟨#[]⟩⟩ := by
              rw [tickM_wy, tickK_wy, tickM, tickK_wy, ← hE.out.2.2, show tt + 1 + m = tt + m + 1 by omega]
            have MS : Hid (Calls Try.prog 56 #[.pointer (some ⟨d, 0, none⟩), .int .i64 (i : Int), .int .i64 (jj : Int), .int .i64 ((tt + m + 1 : Nat) : Int)] wr fun e w' => e = .returned (.tuple #[]) ∧ RU (ext Q w wo) (wo.alloc (.cells #[.int .u64 (((S.wy i jj).b + 1 : Nat) : Int), .slice ps TL cs, .int .i64 (tt : Int), .int .i64 ((S.wy i jj).c : Int)] 108)) d (tickM (tickK S i jj) i jj (m + 1)) T w') := by
              refine (rMessage_any Hm (i := i) (j := jj) (k := tt + m) (by rw [hNm]; exact hi) (by rw [hNm]; exact hlt) (hE.out.2.1 m hlm) (by omega)).mono ?_
              rintro e w5 ⟨rfl, U5⟩
              rw [e1]
              exact ⟨rfl, U5.then (fun x hx => Nat.lt_of_lt_of_le (HH.out.pb x hx) G2.out.size) Cm (fun x hx => hx)⟩
            have j1 : ((tt + m + 1 : Nat) : Int) ≤ (TL : Int) := by omega
            have j2 : (tt : Int) + (m : Int) + 1 ≤ (TL : Int) := by omega
            clear Hm Cm V hNm e1
            go_wp2_with fail
            refine MS.out.mono ?_
            rintro e w5 ⟨rfl, u5⟩
            have V5 := mkHid u5
            clear u5
            go_wp2_with fail
            go_roundw
            case rel => exact ⟨m + 1, by go_num, hlm, V5⟩
            case measure => simp [intOf]; omega
          · obtain rfl : m = TL - tt := by omega
            have VF : Hid (RU Q w d (tickK S i (jj + 1)) T wr) := by
              have e1 : tickK S i (jj + 1) = tickM (tickK S i jj) i jj (TL - tt) := by rw [tickK, tickK_wy, hE.out.1]
              rw [e1]
              exact (V.out.base HH.out.pb G2.out).then PB.out HC.out (fun x hx => hx)
            have j1 : ¬ ((tt + (TL - tt) + 1 : Nat) : Int) ≤ (TL : Int) := by omega
            have j2 : ¬ (tt : Int) + ((TL - tt : Nat) : Int) + 1 ≤ (TL : Int) := by omega
            clear V
            go_wp2_with fail
            go_roundw
            case rel => exact ⟨jj + 1, by go_num, hlt, VF⟩
            case measure => simp [intOf]; omega
      · obtain rfl : jj = N := by omega
        clear H C
        go_wp2_with fail
        go_ret
        exact ⟨rfl, U.out⟩
end Go.Proofs.Ytbdlamlplfogjaa
namespace Go.Proofs.Ytbdlamlplfogjaa
open Go.RowKit Go.Maps Go.Joins
variable {Q : Nat → Prop} {w w' : World} {d : Nat} {S : St} {T : Nat → Nat → List ByteArray} {R : Lr}


/-- the net without the packet i -/
def erS (S : St) (i : Nat) : St := { S with fl := S.fl.eraseIdx i }
theorem rTake_at (h : RL Q w d S T R) {i : Nat} {p : Pk} (hp : S.fl[i]? = some p) (hl : S.fl.length ≤ 100000) : Calls Try.prog 57 #[.pointer (some ⟨d, 0, none⟩), .int .i64 (i : Int)] w fun e w1 => ∃ pb lb cb R1, e = .returned (.tuple #[.agg #[.int .i64 (pkFr p : Int), .int .i64 (pkTo p : Int), .bool p.ack, .int .u64 (p.s : Int), .int .u64 (p.e : Int), .slice pb lb cb], .int .i64 0]) ∧ lb = p.x.data.toList.length ∧ byV w1 (ext Q w w1) (.slice pb lb cb) p.x ∧ RL (ext Q w w1) w1 d (erS S i) T R1 ∧ Chg (hbq Q w) w w1 := by
  have hi := (List.getElem?_eq_some_iff.1 hp).1
  refine (rTake_any h (i : Int) hl).mono ?_
  rintro e w5 (⟨h1, rfl, U⟩ | ⟨i', p', pb, cb, hi', hp', rfl, hb, R1, h1, h2⟩)
  · exact absurd ⟨by omega, by omega⟩ h1
  · obtain rfl : i = i' := by omega
    have ep : p = p' := by rw [hp] at hp'; injection hp'
    subst ep
    exact ⟨pb, _, cb, R1, rfl, rfl, hb, h1, h2⟩
set_option maxHeartbeats 4000000 in
set_option maxRecDepth 100000 in
theorem rDel_down (h : RL Q w d S T R) {i : Nat} {p : Pk} (hp : S.fl[i]? = some p) (hl : S.fl.length ≤ 100000) (hf : p.f < S.N) (ht : p.t < S.N) (hdn : S.dn (pkTo p) = true) : Calls Try.prog 33 #[.pointer (some ⟨d, 0, none⟩), .int .i64 (i : Int)] w (REQ Q w d (erS S i) T 0) := by
  have TK := mkHid (rTake_at h hp hl)
  have hfr : pkFr p < S.N := by unfold pkFr; split <;> omega
  have hto : pkTo p < S.N := by unfold pkTo; split <;> omega
  have HB := mkHid h.pb
  clear h hp hl hf ht
  go_enter Try.func33, Try.ntmps33
  go_wp2_with fail
  refine TK.out.mono ?_
  rintro e w1 ⟨pb, lb, cb, R1, rfl, hlb, hb, H, C⟩
  have hd1 := H.pb _ H.qd
  have htg := H.pb _ H.qt
  have hyg := H.pb _ H.qy
  obtain ⟨c0, c1, c2, c3, _⟩ := H.cs
  obtain ⟨t0, _⟩ := H.tcell (i := pkTo p) hto
  rw [show (erS S i).dn (pkTo p) = true from hdn] at t0
  have U : Hid (∀ W, w1.grownBy W none → RU Q w d (erS S i) T W) := fun W g => RU.grow ⟨R1, H, C⟩ HB.out g
  have hN : (erS S i).N = S.N := rfl
  rw [hN] at c0 c1 c2
  have i1 : (pkTo p : Int) < (S.N : Int) := by omega
  clear H C hlb hb TK hN hdn
  go_wp2_with fail
  go_quiet (fail)
  go_wp2_with fail
  go_ret
  exact ⟨rfl, U.out _ (grown_drewN (grown_al (grown_refl _) _) nq)⟩
end Go.Proofs.Ytbdlamlplfogjaa
