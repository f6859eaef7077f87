/-
  Walks: how many messages wait, by from and to.
-/
import Derived.Test.YtpghkbbhcpcbdaaNuQ
namespace Go.Proofs.Ytpghkbbhcpcbdaa
open Go.RowKit Go.Maps Go.Joins
variable {P : Nat → Prop} {w w' : World} {n c : Nat} {S : St} {L : Ly}

/-- the clone, and the table's first rows -/
structure CtA (w : World) (S : St) (c cn g k : Nat) (hb : Nat → Nat) (w1 wr : World) : Prop where
  gr : w.grownBy wr none
  s1 : w.heap.size ≤ w1.heap.size ∧ w1.heap.size ≤ wr.heap.size
  ex : ∃ Lc, NetL (fun i => w.heap.size ≤ i ∧ i < w1.heap.size) wr cn c S Lc
  mt : MtI (fun b => w1.heap.size ≤ b ∧ b < wr.heap.size) wr g S.N k hb (fun _ _ => 0)
theorem CtA.next {cn g k : Nat} {hb : Nat → Nat} {w1 wr w2 : World} {r : Array Value} (h : CtA w S c cn g k hb w1 wr) (hk : k < S.N) (h64 : S.N ≤ 64) (hr : w2.heap[wr.heap.size]? = some (.cells r 3 (0, 0))) (hs : r.size = S.N * 1) (hz : ∀ j, j < S.N * 1 → r[j]? = (Value.int .i64 0).cells[j % 1]?) (g1 : wr.grownBy w2 none) :
    w2.cell? ⟨g, k, none⟩ ≠ none ∧ w2.frozen? ⟨g, k, none⟩ = false ∧ CtA w S c cn g (k + 1) (upd hb k wr.heap.size) w1 (w2.setCell ⟨g, k, none⟩ (.slice (some ⟨wr.heap.size, 0, none⟩) S.N S.N)) := by
  have lt2 := lt_of_heap hr
  obtain ⟨m1, m2, m3, C⟩ := (h.mt.wide (Q' := fun b => w1.heap.size ≤ b ∧ b < w2.heap.size) (fun b hb => ⟨hb.1, Nat.lt_of_lt_of_le hb.2 g1.size⟩)).more hk (by omega) hr hs hz g1 ⟨h.s1.2, lt2⟩
  obtain ⟨Lc, hN⟩ := h.ex
  have qg := h.mt.qg
  refine ⟨m2, m3, grown_set (grown_none_trans h.gr g1) _ _ (Nat.le_trans h.s1.1 qg.1), ⟨h.s1.1, ?_⟩, ⟨Lc, hN.away C (fun b hb e => ?_)⟩, m1.wide (fun b hb => ⟨hb.1, by simpa using hb.2⟩)⟩
  · have := g1.size
    have := h.s1.2
    show w1.heap.size ≤ (w2.setCell _ _).heap.size
    rw [World.size_setCell]; omega
  · have e : b = g := e
    have := qg.1
    have := hb.2
    omega
theorem CtA.done {cn g : Nat} {hb : Nat → Nat} {w1 wr : World} (h : CtA w S c cn g S.N hb w1 wr) : CtS w S c cn g 0 0 hb wr := by
  obtain ⟨Lc, hN⟩ := h.ex
  have e0 : ctF S 0 0 = fun _ _ => 0 := by
    funext a b
    unfold ctF
    rw [if_neg (Nat.not_lt_zero _)]
    split
    · rfl
    · rfl
  refine ⟨h.gr, _, Lc, S, hN, rfl, rfl, fun _ _ => rfl, by simp, fun b hb => hb.1, ?_⟩
  rw [e0]
  exact h.mt.wide (fun b hb => ⟨Nat.le_trans h.s1.1 hb.1, hb.2, fun e => by omega⟩)
theorem CtS.up {cn g i k : Nat} {hb : Nat → Nat} {wr : World} (h : CtS w S c cn g i k hb wr) (he : S.dn i = true ∧ k = 0 ∨ S.dn i = false ∧ k = (S.ms i).length) : CtS w S c cn g (i + 1) 0 hb wr := by
  obtain ⟨Pc, Lc, Sc, h1, h2, h3, h4, h5, h6, h7⟩ := h.ex
  rw [ctF_next S i k he] at h7
  exact ⟨h.gr, Pc, Lc, Sc, h1, h2, h3, fun b hb => h4 b (by omega), by rw [h4 (i + 1) (by omega)]; simp, h6, h7⟩
theorem CtS.fin {cn g : Nat} {hb : Nat → Nat} {wr : World} (h : CtS w S c cn g S.N 0 hb wr) : ∃ hb', MtI (fun b => w.heap.size ≤ b ∧ b < wr.heap.size) wr g S.N S.N hb' (fun a b => (cntF S a b : Int)) := by
  obtain ⟨Pc, Lc, Sc, h1, h2, h3, h4, h5, h6, h7⟩ := h.ex
  refine ⟨hb, h7.qg |> fun q => ⟨⟨q.1, q.2.1⟩, h7.at0, fun i hi => ?_, h7.dis⟩⟩
  obtain ⟨q1, r, r1, r2, r3⟩ := h7.row i hi
  refine ⟨⟨q1.1, q1.2.1⟩, r, r1, r2, fun j hj => ?_⟩
  rw [r3 j hj]
  unfold ctF
  rw [if_pos hj]
set_option maxHeartbeats 4000000 in
set_option maxRecDepth 100000 in
theorem count_any (h : NetL P w n c S L) {B : Nat} (ok : OkS S B) (hl : S.fl.length ≤ 100000) (hc : c ≤ 1000000000) (hfr : ∀ j, j < S.N → ∀ m ∈ S.ms j, m.1 < S.N) : Calls Try.prog 17 #[.pointer (some ⟨n, 0, none⟩), .int .i64 S.N] w (CtQ w S) := by
  have hB := ok.lt
  have CL := mkHid (Clone_any h hl (fun i => by have := ok.ml i; omega) (fun i j => by have := ok.wu i j; omega) hc)
  have h64 := h.n64
  have h1 := h.n1
  have hml : ∀ i, (S.ms i).length ≤ 3000000 := fun i => by have := ok.ml i; omega
  obtain ⟨N, hN⟩ : ∃ N, N = S.N := ⟨_, rfl⟩
  have HN := mkHid hN
  rw [← hN] at h64 h1 ⊢
  clear h ok hN hl
  go_enter Try.func17, Try.ntmps17
  go_wp2_with fail
  refine CL.out.mono ?_
  rintro e w1 ⟨cn, Lc, rfl, hLc, g1⟩
  obtain ⟨w2, cur, hr, hb2, hs2, _, g2⟩ := rwII.make w1 N (by omega)
  have A0 : Hid (CtA w S c cn w1.heap.size 0 (fun _ => 0) w1 w2) := by
    refine ⟨grown_none_trans g1 g2, ⟨g1.size, g2.size⟩, ⟨Lc, hLc.kept g2⟩, ⟨⟨Nat.le_refl _, lt_of_heap hb2⟩, ⟨cur, hb2, by rw [hs2, show N = S.N from HN.out]; omega, fun i hi => by omega⟩, fun i hi => by omega, fun i j hi => by omega⟩⟩
  obtain ⟨g, hg⟩ : ∃ g, g = w1.heap.size := ⟨_, rfl⟩
  rw [← hg] at A0 hr
  clear hLc g1 hb2 hs2 g2 hg CL
  go_wp2_with (first | (at_make; refine wp_make 40 rfl (.tmp 19) (.tmp 19) rfl rfl rfl hr ?_) | fail)
  clear hr
  go_loopw [7] (fun s7 wr => ∃ (k : Nat) (hb : Nat → Nat), s7 = .int .i64 (k : Int) ∧ k ≤ N ∧ Hid (CtA w S c cn g k hb w1 wr)) (fun s7 _ => N - (intOf s7).toNat)
  case atStart => exact ⟨0, _, rfl, Nat.zero_le _, A0⟩
  case round =>
    obtain ⟨k, hb, rfl, hk, CA⟩ := hrel
    by_cases hlt : k < N
    · have hlti : (k : Int) < (N : Int) := by omega
      obtain ⟨w3, r, hr3, b3, s3, z3, g3⟩ := rwI.make wr N (by omega)
      rw [show N = S.N from HN.out] at s3 z3
      obtain ⟨q1, q2, NX⟩ := CA.out.next (by rw [← show N = S.N from HN.out]; exact hlt) (by rw [← show N = S.N from HN.out]; exact h64) b3 s3 z3 g3
      rw [← show N = S.N from HN.out] at NX
      obtain ⟨u, hu⟩ : ∃ u, w3.cell? ⟨g, k, none⟩ = some u := by
        cases hq : w3.cell? ⟨g, k, none⟩ with
        | none => exact absurd hq q1
        | some u => exact ⟨u, rfl⟩
      have HNX := mkHid NX
      clear b3 s3 z3 g3 q1 NX
      go_wp2_with (first | (at_make; refine wp_make 42 rfl (.tmp 28) (.tmp 28) rfl rfl rfl hr3 ?_) | fail)
      go_roundw
      case rel => exact ⟨k + 1, _, by go_num, hlt, HNX⟩
      case measure => simp [intOf]; omega
    · obtain rfl : k = N := by omega
      have D0 : Hid (CtS w S c cn g 0 0 hb wr) := by
        have := CA.out
        rw [show k = S.N from HN.out] at this
        exact this.done
      clear CA
      go_wp2_with fail
      go_loopw [8] (fun s8 wr => ∃ (i : Nat), s8 = .int .i64 (i : Int) ∧ i ≤ k ∧ Hid (CtS w S c cn g i 0 hb wr)) (fun s8 _ => k - (intOf s8).toNat)
      case atStart => exact ⟨0, rfl, Nat.zero_le _, D0⟩
      case round =>
        obtain ⟨i, rfl, hi, CS⟩ := hrel
        by_cases hli : i < k
        · have hlii : (i : Int) < (k : Int) := by omega
          have hiN : i < S.N := by rw [← show k = S.N from HN.out]; exact hli
          obtain ⟨Pc, Lc2, Sc, n1, n2, n3, n4, n5, n6, n7⟩ := CS.out.ex
          have WT := mkHid (Waits_any n1 i)
          have eI : isS Sc (i : Int) = !S.dn i := by
            unfold isS
            rw [n2, n3, decide_eq_true (by omega), Bool.true_and]; rfl
          rw [eI, show ((i : Int)).toNat = i from rfl, n5, List.drop_zero] at WT
          clear n1 n2 n3 n4 n5 n6 n7 eI
          cases hd : S.dn i with
          | true =>
            rw [hd] at WT
            have C2 := mkHid (CS.out.up (Or.inl ⟨hd, rfl⟩))
            clear CS
            go_wp2_with fail
            refine WT.out.mono ?_
            rintro e w1 ⟨rfl, hwx⟩; have hwx2 := hwx.symm; subst hwx2; clear hwx
            go_wp2_with fail
            go_loopw [11] (fun s11 wr => s11 = .int .i64 0 ∧ Hid (CtS w S c cn g (i + 1) 0 hb wr)) (fun _ _ => 0)
            case atStart => exact ⟨rfl, C2⟩
            case round =>
              obtain ⟨rfl, C3⟩ := hrel
              go_wp2_with fail
              go_roundw
              case rel => exact ⟨i + 1, by go_num, hli, C3⟩
              case measure => simp [intOf]; omega
          | false =>
            rw [hd] at WT
            have hM := hml i
            obtain ⟨M, hMe⟩ : ∃ M, M = (S.ms i).length := ⟨_, rfl⟩
            have HM := mkHid hMe
            rw [← hMe] at hM
            have WT2 : Hid (Calls Try.prog 43 #[.pointer (some ⟨cn, 0, none⟩), .int .i64 i] wr fun e w' => e = .returned (.tuple #[.int .i64 M, .int .i64 0]) ∧ w' = wr) := by
              refine WT.out.mono ?_
              rintro e w1 ⟨rfl, h2⟩
              rw [hMe]
              exact ⟨rfl, h2⟩
            clear WT hMe
            go_wp2_with fail
            refine WT2.out.mono ?_
            rintro e w1 ⟨rfl, hwx⟩; have hwx2 := hwx.symm; subst hwx2; clear hwx
            clear WT2
            go_wp2_with fail
            go_loopw [11] (fun s11 wr => ∃ q : Nat, s11 = .int .i64 (q : Int) ∧ q ≤ M ∧ Hid (CtS w S c cn g i q hb wr)) (fun s11 _ => M - (intOf s11).toNat)
            case atStart => exact ⟨0, rfl, Nat.zero_le _, CS⟩
            case round =>
              obtain ⟨q, rfl, hq, CQ⟩ := hrel
              by_cases hlq : q < M
              · have hlqi : (q : Int) < (M : Int) := by omega
                obtain ⟨m, hm⟩ : ∃ m, (S.ms i)[q]? = some m := ⟨_, List.getElem?_eq_getElem (show q < (S.ms i).length by rw [← show M = _ from HM.out]; exact hlq)⟩
                have hf : m.1 < S.N := hfr i hiN m (List.mem_of_getElem? hm)
                obtain ⟨Pc, Lc2, Sc, n1, n2, n3, n4, n5, n6, n7⟩ := CQ.out.ex
                have gw := CQ.out.gr
                have ed : Sc.ms i = m :: (S.ms i).drop (q + 1) := by
                  have hl := (List.getElem?_eq_some_iff.1 hm).1
                  rw [n5, List.drop_eq_getElem_cons hl]
                  rw [List.getElem?_eq_getElem hl] at hm
                  cases hm; rfl
                have eI : isS Sc (i : Int) = true := by
                  unfold isS
                  rw [n2, n3, decide_eq_true (by omega), Bool.true_and, show ((i : Int)).toNat = i from rfl, hd]; rfl
                have RC : Hid (Calls Try.prog 16 #[.pointer (some ⟨cn, 0, none⟩), .int .i64 i] wr fun e w3 => ∃ gb cap, e = .returned (.tuple #[.agg #[.int .i64 m.1, .slice (some ⟨gb, 0, none⟩) m.2.data.toList.length cap], .bool true, .int .i64 0]) ∧ UpN Pc wr cn c { Sc with ms := upd Sc.ms i ((S.ms i).drop (q + 1)) } w3) := by
                  refine (Recv_any n1 i).mono ?_
                  rintro e w3 (⟨z, _⟩ | ⟨i', z, _, z2, _⟩ | ⟨i', m', rest, gb, cap, z, _, z2, rfl, _, _, U⟩)
                  · rw [eI] at z; cases z
                  · obtain rfl : i' = i := by omega
                    rw [ed] at z2; cases z2
                  · obtain rfl : i' = i := by omega
                    rw [ed] at z2
                    cases z2
                    exact ⟨gb, cap, rfl, U⟩
                have hf2 : (m.1 : Int) < (k : Int) := by rw [show k = S.N from HN.out]; omega
                have hf3 : ¬ (m.1 : Int) < 0 := by omega
                have NXT : Hid (∀ w4, UpN Pc wr cn c { Sc with ms := upd Sc.ms i ((S.ms i).drop (q + 1)) } w4 → MtI (fun b => w.heap.size ≤ b ∧ b < w4.heap.size ∧ ¬ ext Pc wr w4 b) w4 g S.N S.N hb (ctF S i q) ∧ CtS w S c cn g i (q + 1) hb (w4.setCell ⟨hb m.1, i, none⟩ (.int .i64 (ctF S i q m.1 i + 1)))) := fun w4 U => CtS.recv gw n2 n3 n4 hm rfl n6 n7 U hf
                have bd : ctF S i q m.1 i ≤ 3000000 ∧ 0 ≤ ctF S i q m.1 i := by
                  unfold ctF
                  rw [if_neg (Nat.lt_irrefl _), if_pos rfl]
                  have : ctK S m.1 i q ≤ (S.ms i).length := by
                    unfold ctK
                    exact Nat.le_trans (List.length_filter_le _ _) (by rw [List.length_take]; omega)
                  have := hml i
                  omega
                obtain ⟨V, hV⟩ : ∃ V, V = ctF S i q m.1 i := ⟨_, rfl⟩
                have HV := mkHid hV
                rw [← hV] at bd
                clear n1 n2 n3 n4 n5 n6 n7 gw ed eI CQ hV
                go_wp2_with fail
                refine RC.out.mono ?_
                rintro e w3 ⟨gb, cap, rfl, U3⟩
                obtain ⟨M4, C4⟩ := NXT.out _ (U3.grow (World.grownBy_alloc w3 (.cells #[.int .i64 m.1, .slice (some ⟨gb, 0, none⟩) m.2.size cap] 51) none))
                obtain ⟨x0, x1, x2, x3, x4⟩ := M4.cell hf hiN
                rw [← show V = _ from HV.out] at x1 C4
                rw [← show k = S.N from HN.out] at x0
                have HC4 := mkHid C4
                clear M4 C4 U3 RC NXT
                go_wp2_with fail
                go_roundw
                case rel => exact ⟨q + 1, by go_num, hlq, HC4⟩
                case measure => simp [intOf]; omega
              · obtain rfl : q = M := by omega
                have C3 := mkHid (CQ.out.up (Or.inr ⟨hd, HM.out⟩))
                clear CQ
                go_wp2_with fail
                go_roundw
                case rel => exact ⟨i + 1, by go_num, hli, C3⟩
                case measure => simp [intOf]; omega
        · obtain rfl : i = k := by omega
          have F : Hid (∃ hb', MtI (fun b => w.heap.size ≤ b ∧ b < wr.heap.size) wr g S.N S.N hb' (fun a b => (cntF S a b : Int))) := by
            have := CS.out
            rw [show i = S.N from HN.out] at this
            exact this.fin
          have G := mkHid CS.out.gr
          clear CS
          go_wp2_with fail
          go_ret
          obtain ⟨hb', F'⟩ := F.out
          exact ⟨g, hb', by rw [← show i = S.N from HN.out]; rfl, F', G.out⟩
end Go.Proofs.Ytpghkbbhcpcbdaa
