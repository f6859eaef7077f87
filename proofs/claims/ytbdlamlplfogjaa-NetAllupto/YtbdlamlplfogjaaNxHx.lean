/-
  Walks: one call of both nets: a message received, walked.
-/
import Derived.Test.YtbdlamlplfogjaaNxGx
import Derived.Deep.RegionHeld3
namespace Go.Proofs.Ytbdlamlplfogjaa
open Go.RowKit Go.Maps Go.Joins
variable {P Q : Nat → Prop} {w w' : World} {n c d B N : Nat} {S : St} {T : Nat → Nat → List ByteArray} {L : Ly} {R : Lr}

set_option maxHeartbeats 4000000 in
set_option maxRecDepth 100000 in
theorem does_1f (h : Bo P Q w n c d S S T L R) (G : Good S T B N) {pr : Nat} (hpr : w.heap[pr]? = some (.cells #[.pointer (some ⟨n, 0, none⟩), .pointer (some ⟨d, 0, none⟩)] 33 (0, 0))) (hP : ¬ P pr) (hQ : ¬ Q pr) (x : Ac) (hk : x.k = 1) (hh : x.h = false) {F ER : Int} {lm : List UInt8} {bb : Bool} {S' : St} (hlm : lm.length ≤ 10000000) (GS : Good S' T (B + 1) N)
    (RV0 : ∀ W, (w.alloc (.cells x.cells 29)).grownBy W none → Calls Try.prog 16 #[.pointer (some ⟨n, 0, none⟩), .int .i64 x.a] W fun e w' => ∃ pm cm, e = .returned (.tuple #[.agg #[.int .i64 F, .slice pm lm.length cm], .bool bb, .int .i64 ER]) ∧ RP P Q (w.alloc (.cells x.cells 29)) n (c + 128) d S' S T W pm lm cm w')
    (RD0 : ∀ W0 W pm cm mb, RM P Q (w.alloc (.cells x.cells 29)) n (c + 128) d S' S T F pm lm cm mb W0 → W0.grownBy W none → Calls Try.prog 32 #[.pointer (some ⟨d, 0, none⟩), .int .i64 x.a] W fun e w' => ∃ pk ck, e = .returned (.tuple #[.agg #[.int .i64 F, .slice pk lm.length ck], .bool bb, .int .i64 ER]) ∧ RD P Q (w.alloc (.cells x.cells 29)) n (c + 128) d S' S' T W0 W F pm lm cm mb pk w') : Calls Try.prog 9 #[.pointer (some ⟨pr, 0, none⟩), .agg x.cells] w (DoQ P Q w n c d B N) := by
  obtain ⟨w1, hw1⟩ : ∃ w1, w1 = w.alloc (.cells x.cells 29) := ⟨_, rfl⟩
  have g1 : w.grownBy w1 none := by rw [hw1]; exact grown_al (grown_refl _) _
  have s1 : w1.heap.size = w.heap.size + 1 := by rw [hw1]; simp
  have bx : w1.heap[w.heap.size]? = some (.cells x.cells 29 (0, 0)) := by rw [hw1]; exact heap_alloc_new _ _
  have pr1 := box_keep hpr g1 (by simp)
  have lpr := lt_of_heap hpr
  have h1 : Bo P Q w1 n c d S S T L R := ⟨h.p.kept g1, h.q.kept g1, h.x⟩
  have nbP : ¬ P w.heap.size := fun e => by have := h.p.pb _ e; omega
  have nbQ : ¬ Q w.heap.size := fun e => by have := h.q.pb _ e; omega
  obtain ⟨a0, a1, a2, a3, a4, a5, _⟩ := cells6 bx
  obtain ⟨p0, p1, _⟩ := cells2 pr1
  have K0 : Hid (∀ W, w1.grownBy W none → (fun w' : World => w'.cell? ⟨pr, 0, none⟩ = some (.pointer (some ⟨n, 0, none⟩)) ∧ w'.cell? ⟨pr, 1, none⟩ = some (.pointer (some ⟨d, 0, none⟩)) ∧ w'.cell? ⟨w.heap.size, 1, none⟩ = some (.int .i64 x.a) ∧ w'.cell? ⟨w.heap.size, 2, none⟩ = some (.int .i64 x.t) ∧ w'.cell? ⟨w.heap.size, 4, none⟩ = some (.slice x.p x.b.length x.q)) W) := fun W g => ⟨g.cell p0 (by simp), g.cell p1 (by simp), g.cell a1 (by simp), g.cell a2 (by simp), g.cell a4 (by simp)⟩
  have KB : Hid (∀ W S1 S2 T' c', BU P Q w1 n c' d S1 S2 T' W → (fun w' : World => w'.cell? ⟨pr, 0, none⟩ = some (.pointer (some ⟨n, 0, none⟩)) ∧ w'.cell? ⟨pr, 1, none⟩ = some (.pointer (some ⟨d, 0, none⟩)) ∧ w'.cell? ⟨w.heap.size, 1, none⟩ = some (.int .i64 x.a) ∧ w'.cell? ⟨w.heap.size, 2, none⟩ = some (.int .i64 x.t) ∧ w'.cell? ⟨w.heap.size, 4, none⟩ = some (.slice x.p x.b.length x.q)) W) := fun W S1 S2 T' c' U => by
    obtain ⟨b0, b1, b2, b3, b4, b5, _⟩ := cells6 (U.at_ bx nbP nbQ)
    obtain ⟨q0, q1, _⟩ := cells2 (U.at_ pr1 hP hQ)
    exact ⟨q0, q1, b1, b2, b4⟩
  obtain ⟨pa, ca, ha, _⟩ := h.q.ar.form
  have d3 := h.q.cs.2.2.2.1
  rw [ha] at d3
  have K3 : Hid (∀ W, w1.grownBy W none → (fun w' : World => w'.cell? ⟨pr, 1, none⟩ = some (.pointer (some ⟨d, 0, none⟩)) ∧ w'.cell? ⟨d, 3, none⟩ = some (.slice pa S.fl.length ca) ∧ w'.cell? ⟨w.heap.size, 3, none⟩ = some (.int .i64 x.i)) W) := fun W g => ⟨g.cell p1 (by simp), (grown_none_trans g1 g).cell d3 (by simp), g.cell a3 (by simp)⟩
  have PL : Hid (∀ W : World, Calls Try.prog 12 #[.int .i64 x.i, .int .i64 (S.fl.length : Int)] W fun e w' => (∃ I : Int, e = .returned (.int .i64 I)) ∧ w' = W) := fun W => place_any (w := W) x.i S.fl.length (by have := G.fb; omega)
  have RV := mkHid RV0
  have RDC := mkHid RD0
  have SPC : Hid (∀ W pm cm mb, RM P Q w1 n (c + 128) d S' S' T F pm lm cm mb W → Calls Try.prog 30 #[.slice pm lm.length cm] W fun e w' => e = .returned (.tuple #[]) ∧ DoQ P Q w n c d B N (.returned (.bool true)) w') := fun W pm cm mb U => by
    refine (spoil_any U.2.2.1 hlm).mono ?_
    rintro e w5 ⟨rfl, C⟩
    refine ⟨rfl, rfl, _, _, GS, ?_⟩
    exact BU.base (BS.bu (BS.off (G' := fun _ => False) U.1 (C.mono (fun b _ e => Or.inr (by
      cases pm with
      | none => simp [Value.ownBlock] at e
      | some a => cases e; exact ⟨a, rfl, rfl⟩))) (fun _ e => e.elim))) g1
  have lb1 : w.heap.size ≤ w1.heap.size := g1.size
  rw [← hw1] at RV RDC
  clear RV0 RD0
  unfold Ac.cells at hw1 bx ⊢
  rw [hk] at hw1 bx a0 ⊢
  rw [hh] at hw1 bx a5 ⊢
  subst hw1
  clear h h1 G hpr hP hQ g1 s1 bx pr1 nbP nbQ p0 p1 d3 ha hlm GS lb1 K3 PL
  go_enter Try.func9, Try.ntmps9
  go_wp2_with fail
  have GV0 : ∀ wv, wv = (w.alloc (.cells #[.int .i64 1, .int .i64 x.a, .int .i64 x.t, .int .i64 x.i, .slice x.p x.b.length x.q, .bool false] 29)) → (w.alloc (.cells #[.int .i64 1, .int .i64 x.a, .int .i64 x.t, .int .i64 x.i, .slice x.p x.b.length x.q, .bool false] 29)).grownBy wv none := fun wv e => by rw [e]; exact grown_refl _
  generalize hwv : (w.alloc (.cells #[.int .i64 1, .int .i64 x.a, .int .i64 x.t, .int .i64 x.i, .slice x.p x.b.length x.q, .bool false] 29)) = wv
  have GV := mkHid (GV0 wv hwv.symm)
  have KV : Hid (∀ W, wv.grownBy W none → (fun w' : World => w'.cell? ⟨pr, 0, none⟩ = some (.pointer (some ⟨n, 0, none⟩)) ∧ w'.cell? ⟨pr, 1, none⟩ = some (.pointer (some ⟨d, 0, none⟩)) ∧ w'.cell? ⟨w.heap.size, 1, none⟩ = some (.int .i64 x.a) ∧ w'.cell? ⟨w.heap.size, 2, none⟩ = some (.int .i64 x.t) ∧ w'.cell? ⟨w.heap.size, 4, none⟩ = some (.slice x.p x.b.length x.q)) W) := fun W g => K0.out W (grown_none_trans GV.out g)
  clear hwv GV0
  go_cut [8, 9, 10] from 72 to 307 (fun s8 s9 s10 wz => ∃ (mb : Nat) (pm : Option Addr) (cm : Nat), s8 = .pointer (some ⟨mb, 0, none⟩) ∧ s9 = .bool bb ∧ s10 = .int .i64 ER ∧ Hid (RM P Q (w.alloc (.cells #[.int .i64 1, .int .i64 x.a, .int .i64 x.t, .int .i64 x.i, .slice x.p x.b.length x.q, .bool false] 29)) n (c + 128) d S' S T F pm lm cm mb wz))
  case first =>
    go_region_held3 (fun w' : World => w'.cell? ⟨pr, 0, none⟩ = some (.pointer (some ⟨n, 0, none⟩)) ∧ w'.cell? ⟨pr, 1, none⟩ = some (.pointer (some ⟨d, 0, none⟩)) ∧ w'.cell? ⟨w.heap.size, 1, none⟩ = some (.int .i64 x.a) ∧ w'.cell? ⟨w.heap.size, 2, none⟩ = some (.int .i64 x.t) ∧ w'.cell? ⟨w.heap.size, 4, none⟩ = some (.slice x.p x.b.length x.q)) (first | exact KB.out _ _ _ _ _ R5.out.1.bu | exact KB.out _ _ _ _ _ (R5.out.1.bu.grow (grown_al (grown_refl _) _)) | exact KB.out _ _ _ _ _ (RP.box' (F := F) R5.out (GV.out.size)).1.bu | exact KV.out _ (by repeat (first | with_reducible exact grown_refl _ | with_reducible refine grown_drew ?_ | with_reducible refine grown_al ?_ _))) (first | (go_at_call 16; refine (RV.out _ (grown_none_trans GV.out (grown_drew (grown_al (grown_refl _) _)))).mono ?_; rintro e w5 ⟨pm, cm, rfl, r5⟩; have R5 := mkHid r5; obtain ⟨m0, m1, mf0, mf1⟩ := r5.inMb (GV.out.size); clear r5) | (go_at_call 16; refine (RV.out _ (grown_none_trans GV.out (by repeat (first | with_reducible exact grown_refl _ | with_reducible refine grown_drew ?_ | with_reducible refine grown_al ?_ _)))).mono ?_; rintro e w5 ⟨pm, cm, rfl, r5⟩; have R5 := mkHid r5; clear r5))
    all_goals (
      go_wp2_with fail
      go_meet
      case rel => first | exact ⟨_, _, _, rfl, rfl, rfl, RP.box R5.out⟩ | exact ⟨_, _, _, rfl, rfl, rfl, RP.box' R5.out (GV.out.size)⟩)
  case rest =>
    obtain ⟨mb, pm, cm, rfl, rfl, rfl, M1⟩ := hcut
    have KM : Hid (∀ W, wc.grownBy W none → (fun w' : World => w'.cell? ⟨pr, 0, none⟩ = some (.pointer (some ⟨n, 0, none⟩)) ∧ w'.cell? ⟨pr, 1, none⟩ = some (.pointer (some ⟨d, 0, none⟩)) ∧ w'.cell? ⟨w.heap.size, 1, none⟩ = some (.int .i64 x.a) ∧ w'.cell? ⟨w.heap.size, 2, none⟩ = some (.int .i64 x.t) ∧ w'.cell? ⟨w.heap.size, 4, none⟩ = some (.slice x.p x.b.length x.q)) W) := fun W g => KB.out _ _ _ _ _ (M1.out.1.bu.grow g)
    go_upto_region 12 with fail
    go_cut [11, 12, 13] from 83 to 307 (fun s11 s12 s13 wz => ∃ (kb : Nat) (pk : Option Addr) (ck : Nat), s11 = .pointer (some ⟨kb, 0, none⟩) ∧ s12 = .bool bb ∧ s13 = .int .i64 ER ∧ Hid (RB P Q (w.alloc (.cells #[.int .i64 1, .int .i64 x.a, .int .i64 x.t, .int .i64 x.i, .slice x.p x.b.length x.q, .bool false] 29)) n (c + 128) d S' S' T F pm lm cm mb pk ck kb wz))
    case first =>
      go_region_held3 (fun w' : World => w'.cell? ⟨pr, 0, none⟩ = some (.pointer (some ⟨n, 0, none⟩)) ∧ w'.cell? ⟨pr, 1, none⟩ = some (.pointer (some ⟨d, 0, none⟩)) ∧ w'.cell? ⟨w.heap.size, 1, none⟩ = some (.int .i64 x.a) ∧ w'.cell? ⟨w.heap.size, 2, none⟩ = some (.int .i64 x.t) ∧ w'.cell? ⟨w.heap.size, 4, none⟩ = some (.slice x.p x.b.length x.q)) (first | exact KB.out _ _ _ _ _ R6.out.1.bu | exact KB.out _ _ _ _ _ (R6.out.1.bu.grow (grown_al (grown_refl _) _)) | exact KB.out _ _ _ _ _ (RD.box' R6.out M1.out).1.1.bu | exact KM.out _ (by repeat (first | with_reducible exact grown_refl _ | with_reducible refine grown_drew ?_ | with_reducible refine grown_al ?_ _))) (first | (go_at_call 32; refine (RDC.out _ _ _ _ _ M1.out (grown_drew (grown_al (grown_refl _) _))).mono ?_; rintro e w6 ⟨pk, ck, rfl, r6⟩; have R6 := mkHid r6; obtain ⟨m0, m1, mf0, mf1⟩ := r6.inMb; clear r6) | (go_at_call 32; refine (RDC.out _ _ _ _ _ M1.out (by repeat (first | with_reducible exact grown_refl _ | with_reducible refine grown_drew ?_ | with_reducible refine grown_al ?_ _))).mono ?_; rintro e w6 ⟨pk, ck, rfl, r6⟩; have R6 := mkHid r6; clear r6))
      all_goals (
        go_wp2_with fail
        go_meet
        case rel => first | exact ⟨_, _, _, rfl, rfl, rfl, RD.box R6.out⟩ | exact ⟨_, _, _, rfl, rfl, rfl, RD.box' R6.out M1.out⟩)
    case rest =>
      rename World => wd
      obtain ⟨kb, pk, ck, rfl, rfl, rfl, M2⟩ := hcut
      obtain ⟨q0, q1, _⟩ := cells2 M2.out.1.2.2.2
      obtain ⟨r0, r1, _⟩ := cells2 M2.out.2.2
      have cv1 := bys.conv' M2.out.1.2.1 cm
      have cv2 := bys.conv' M2.out.2.1 ck
      clear M1 KM
      go_wp2_with fail
      refine (SPC.out _ _ _ _ M2.out.1).mono ?_
      rintro e w7 ⟨rfl, u7⟩
      have U7 := mkHid u7
      clear u7
      go_wp2_with fail
      go_ret
      exact U7.out
end Go.Proofs.Ytbdlamlplfogjaa
