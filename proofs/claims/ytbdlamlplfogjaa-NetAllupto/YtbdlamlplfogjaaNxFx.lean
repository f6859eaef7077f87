/-
  Walks: one call of both nets: a message sent.
-/
import Derived.Test.YtbdlamlplfogjaaGI
import Derived.Deep.RegionHeld3
namespace Go.Proofs.Ytbdlamlplfogjaa
open Go.RowKit Go.Maps Go.Joins
variable {P Q : Nat → Prop} {w w' : World} {n c d B N : Nat} {S : St} {T : Nat → Nat → List ByteArray} {L : Ly} {R : Lr}

theorem byA.chg {p : Option Addr} {l : List UInt8} {C : Nat → Prop} (h : byA w p l) (hc : Chg C w w') (hn : ∀ a, p = some a → l ≠ [] → ¬ C a.block) : byA w' p l := by
  rcases h with h | ⟨g, o, rfl, h⟩
  · exact Or.inl h
  · by_cases hl : l = []
    · exact Or.inl hl
    · refine Or.inr ⟨g, o, rfl, fun i x hx => ?_⟩
      have h1 := h i x hx
      have hlt := World.block_lt_of_cell? w _ h1
      have h2 := hc.block g hlt (hn _ rfl hl)
      unfold World.cell? at h1 ⊢
      simp only at h1 h2 ⊢
      rw [h2]; exact h1
theorem BU.chg {w1 : World} {S1 S2 : St} (h : BU P Q w n c d S1 S2 T w1) : Chg (bqs P Q w) w w1 := by
  obtain ⟨P', Q', L', R', _, _, _, h4⟩ := h
  exact h4
/-- both nets, a block g being of neither -/
def BG (P Q : Nat → Prop) (w : World) (n c d : Nat) (S1 S2 : St) (T : Nat → Nat → List ByteArray) (g : Nat) (w' : World) : Prop := ∃ P' Q' L R, Bo P' Q' w' n c d S1 S2 T L R ∧ (∀ i, P' i → P i ∨ w.heap.size ≤ i) ∧ (∀ i, Q' i → Q i ∨ w.heap.size ≤ i) ∧ Chg (bqs P Q w) w w' ∧ ¬ P' g ∧ ¬ Q' g
theorem BG.bu {S1 S2 : St} {g : Nat} (h : BG P Q w n c d S1 S2 T g w') : BU P Q w n c d S1 S2 T w' := by
  obtain ⟨P', Q', L', R', b1, h2, h3, h4, _⟩ := h
  exact ⟨P', Q', L', R', b1, h2, h3, h4⟩
/-- that block is written over -/
theorem BG.off {w1 w2 : World} {S1 S2 : St} {g : Nat} (h : BG P Q w n c d S1 S2 T g w1) (hg : w.heap.size ≤ g) (hc : Chg (fun x => x = g) w1 w2) : BU P Q w n c d S1 S2 T w2 := by
  obtain ⟨P', Q', L', R', b1, h2, h3, h4, n1, n2⟩ := h
  refine ⟨P', Q', L', R', ⟨b1.p.away hc (fun i hi e => n1 (by have e : i = g := e; rw [← e]; exact hi)), b1.q.away hc (fun i hi e => n2 (by have e : i = g := e; rw [← e]; exact hi)) (fun _ e => e) (fun i hi => Nat.lt_of_lt_of_le (b1.q.pb i hi) hc.size), b1.x⟩, h2, h3, ?_⟩
  exact Chg.then_new h4 (hc.mono (fun i _ e => by have e : i = g := e; show w.heap.size ≤ i; omega))
set_option maxHeartbeats 4000000 in
set_option maxRecDepth 100000 in
theorem does_0 (h : Bo P Q w n c d S S T L R) (G : Good S T B N) (hB : B + 1 ≤ 3000000) (hc : c ≤ 800000000) {pr : Nat} (hpr : w.heap[pr]? = some (.cells #[.pointer (some ⟨n, 0, none⟩), .pointer (some ⟨d, 0, none⟩)] 33 (0, 0))) (hP : ¬ P pr) (hQ : ¬ Q pr) (x : Ac) (hk : x.k = 0) (hby : byA w x.p x.b) (hnl : x.p = none → x.b.length = 0 ∧ x.q = 0) (hbl : x.b.length ≤ 10000000) (hpo : ∀ a, x.p = some a → x.b ≠ [] → ¬ P a.block ∧ ¬ Q a.block) : Calls Try.prog 9 #[.pointer (some ⟨pr, 0, none⟩), .agg x.cells] w (DoQ P Q w n c d B N) := by
  obtain ⟨w1, hw1⟩ : ∃ w1, w1 = w.alloc (.cells x.cells 29) := ⟨_, rfl⟩
  have g1 : w.grownBy w1 none := by rw [hw1]; exact grown_al (grown_refl _) _
  have s1 : w1.heap.size = w.heap.size + 1 := by rw [hw1]; simp
  have bx : w1.heap[w.heap.size]? = some (.cells x.cells 29 (0, 0)) := by rw [hw1]; exact heap_alloc_new _ _
  have pr1 := box_keep hpr g1 (by simp)
  have lpr := lt_of_heap hpr
  have h1 : Bo P Q w1 n c d S S T L R := ⟨h.p.kept g1, h.q.kept g1, h.x⟩
  have nbP : ¬ P w.heap.size := fun e => by have := h.p.pb _ e; omega
  have nbQ : ¬ Q w.heap.size := fun e => by have := h.q.pb _ e; omega
  obtain ⟨a0, a1, a2, a3, a4, a5, _⟩ := cells6 bx
  obtain ⟨p0, p1, _⟩ := cells2 pr1
  have K0 : Hid (∀ W, w1.grownBy W none → (fun w' : World => w'.cell? ⟨pr, 0, none⟩ = some (.pointer (some ⟨n, 0, none⟩)) ∧ w'.cell? ⟨pr, 1, none⟩ = some (.pointer (some ⟨d, 0, none⟩)) ∧ w'.cell? ⟨w.heap.size, 1, none⟩ = some (.int .i64 x.a) ∧ w'.cell? ⟨w.heap.size, 2, none⟩ = some (.int .i64 x.t) ∧ w'.cell? ⟨w.heap.size, 4, none⟩ = some (.slice x.p x.b.length x.q)) W) := fun W g => ⟨g.cell p0 (by simp), g.cell p1 (by simp), g.cell a1 (by simp), g.cell a2 (by simp), g.cell a4 (by simp)⟩
  have KB : Hid (∀ W S1 S2 T' c', BU P Q w1 n c' d S1 S2 T' W → (fun w' : World => w'.cell? ⟨pr, 0, none⟩ = some (.pointer (some ⟨n, 0, none⟩)) ∧ w'.cell? ⟨pr, 1, none⟩ = some (.pointer (some ⟨d, 0, none⟩)) ∧ w'.cell? ⟨w.heap.size, 1, none⟩ = some (.int .i64 x.a) ∧ w'.cell? ⟨w.heap.size, 2, none⟩ = some (.int .i64 x.t) ∧ w'.cell? ⟨w.heap.size, 4, none⟩ = some (.slice x.p x.b.length x.q)) W) := fun W S1 S2 T' c' U => by
    obtain ⟨b0, b1, b2, b3, b4, b5, _⟩ := cells6 (U.at_ bx nbP nbQ)
    obtain ⟨q0, q1, _⟩ := cells2 (U.at_ pr1 hP hQ)
    exact ⟨q0, q1, b1, b2, b4⟩
  obtain ⟨pa, ca, ha, _⟩ := h.q.ar.form
  have d3 := h.q.cs.2.2.2.1
  rw [ha] at d3
  have K3 : Hid (∀ W, w1.grownBy W none → (fun w' : World => w'.cell? ⟨pr, 1, none⟩ = some (.pointer (some ⟨d, 0, none⟩)) ∧ w'.cell? ⟨d, 3, none⟩ = some (.slice pa S.fl.length ca) ∧ w'.cell? ⟨w.heap.size, 3, none⟩ = some (.int .i64 x.i)) W) := fun W g => ⟨g.cell p1 (by simp), (grown_none_trans g1 g).cell d3 (by simp), g.cell a3 (by simp)⟩
  have PL : Hid (∀ W : World, Calls Try.prog 12 #[.int .i64 x.i, .int .i64 (S.fl.length : Int)] W fun e w' => (∃ I : Int, e = .returned (.int .i64 I)) ∧ w' = W) := fun W => place_any (w := W) x.i S.fl.length (by have := G.fb; omega)
  have OW : Hid (∀ W, w1.grownBy W none → Calls Try.prog 15 #[.slice x.p x.b.length x.q] W fun e w' => ∃ g cap, e = .returned (.slice (some ⟨g, 0, none⟩) x.b.length cap) ∧ bys w' (some ⟨g, 0, none⟩) x.b ∧ byB w' (.slice (some ⟨g, 0, none⟩) x.b.length cap) x.b.length ∧ w1.heap.size ≤ g ∧ g < w'.heap.size ∧ w1.grownBy w' none) := fun W gW => by
    refine (own_row x.p x.q x.b W (hby.kept (grown_none_trans g1 gW)) hnl hbl).mono ?_
    rintro e w5 ⟨g, cap, rfl, hy, hb, hg, g5⟩
    exact ⟨g, cap, rfl, hy, hb, Nat.le_trans gW.size hg, (hb.kd g rfl).2, grown_none_trans gW g5⟩
  have SD : Hid (∀ W g cap, w1.grownBy W none → bys W (some ⟨g, 0, none⟩) x.b → byB W (.slice (some ⟨g, 0, none⟩) x.b.length cap) x.b.length → w1.heap.size ≤ g → g < W.heap.size → Calls Try.prog 14 #[.pointer (some ⟨n, 0, none⟩), .int .i64 x.a, .int .i64 x.t, .slice (some ⟨g, 0, none⟩) x.b.length cap] W fun e w' => e = .returned (.int .i64 (sendE S x.a x.t x.b.length)) ∧ BG P Q w1 n (c + 128) d (sendT S x.a x.t ⟨x.b.toArray⟩) S T g w' ∧ byB w' (.slice (some ⟨g, 0, none⟩) x.b.length cap) x.b.length) := fun W g cap gW hy hb hg hgl => by
    have ok := G.ok
    have hlt := ok.lt
    have nP : ¬ P g := fun e => by have := h1.p.pb g e; omega
    have nQ : ¬ Q g := fun e => by have := h1.q.pb g e; omega
    refine (Send_any (h1.p.kept gW) x.a x.t (some ⟨g, 0, none⟩) x.b cap hy (fun e => by cases e) (fun a b => ⟨by have := ok.wb a b; omega, by have := ok.wt a b; omega, ok.wu a b⟩) (by omega)).mono ?_
    rintro e w5 ⟨rfl, U⟩
    obtain ⟨L2, N2, C2⟩ := U.le (c2 := c + 128) (by omega)
    refine ⟨rfl, ⟨ext P W w5, Q, L2, R, ⟨N2, (h1.q.kept gW).away C2 (fun b hb e => h1.x b e hb) (fun _ e => e) (fun b hb => Nat.lt_of_lt_of_le (h1.q.pb b hb) (Nat.le_trans gW.size C2.size)), fun i hi hq => ?_⟩, fun i hi => ?_, fun _ e => Or.inl e, (Chg.of_none gW _).trans (C2.mono (fun i _ e => Or.inl e)), fun e => ?_, nQ⟩, hb.kept C2 (fun g' e => by cases e; exact nP)⟩
    · rcases hi with e | e
      · exact h1.x i e hq
      · have := h1.q.pb i hq; have := gW.size; omega
    · rcases hi with e | e
      · exact Or.inl e
      · exact Or.inr (Nat.le_trans gW.size e.1)
    · rcases e with e | e
      · exact nP e
      · omega
  have SP : Hid (∀ W g cap, BG P Q w1 n (c + 128) d (sendT S x.a x.t ⟨x.b.toArray⟩) S T g W → byB W (.slice (some ⟨g, 0, none⟩) x.b.length cap) x.b.length → w1.heap.size ≤ g → Calls Try.prog 30 #[.slice (some ⟨g, 0, none⟩) x.b.length cap] W fun e w' => e = .returned (.tuple #[]) ∧ BU P Q w1 n (c + 128) d (sendT S x.a x.t ⟨x.b.toArray⟩) S T w') := fun W g cap U hb hg => by
    refine (spoil_any hb hbl).mono ?_
    rintro e w5 ⟨rfl, C⟩
    exact ⟨rfl, U.off hg (C.mono (fun i _ e => by cases e; rfl))⟩
  have CD : Hid (∀ W, BU P Q w1 n (c + 128) d (sendT S x.a x.t ⟨x.b.toArray⟩) S T W → Calls Try.prog 31 #[.pointer (some ⟨d, 0, none⟩), .int .i64 x.a, .int .i64 x.t, .slice x.p x.b.length x.q] W fun e w' => e = .returned (.int .i64 (sendE S x.a x.t x.b.length)) ∧ BU P Q w1 n (c + 128) d (sendT S x.a x.t ⟨x.b.toArray⟩) (sendT S x.a x.t ⟨x.b.toArray⟩) (sendTT S T x.a x.t x.b) w') := fun W U => by
    have hby2 : byA W x.p x.b := byA.chg (hby.kept g1) U.chg (fun a ha hne e => e.elim (hpo a ha hne).1 (fun e2 => (hpo a ha hne).2 e2.1))
    obtain ⟨P', Q', L', R', b1, h2, h3, h4⟩ := U
    refine (rSend_any b1.q x.a x.t hby2 hnl G.ok G.us).mono ?_
    rintro e w5 ⟨rfl, U5⟩
    exact ⟨rfl, BU.put b1 h2 h3 h4 U5⟩
  have FIN : Hid (∀ W, BU P Q w1 n (c + 128) d (sendT S x.a x.t ⟨x.b.toArray⟩) (sendT S x.a x.t ⟨x.b.toArray⟩) (sendTT S T x.a x.t x.b) W → DoQ P Q w n c d B N (.returned (.bool true)) W) := fun W U => ⟨rfl, _, _, G.send hB x.a x.t x.b, U.base g1⟩
  unfold Ac.cells at hw1 bx ⊢
  rw [hk] at hw1 bx a0 ⊢
  generalize x.h = hb at hw1 bx a5 ⊢
  subst hw1
  cases hb with
  | false =>
    clear h h1 G hB hc hpr hP hQ g1 s1 bx pr1 nbP nbQ p0 p1 d3 ha hby hnl hbl hpo K3 PL
    go_enter Try.func9, Try.ntmps9
    go_wp2_with fail
    refine (OW.out _ (by repeat (first | with_reducible exact grown_refl _ | with_reducible refine grown_drew ?_ | with_reducible refine grown_al ?_ _))).mono ?_
    rintro e w4 ⟨g, cap, rfl, hy, hbb, hgg, hgl, g4⟩
    have HY := mkHid hy
    have HBB := mkHid hbb
    have HGG := mkHid hgg
    have HGL := mkHid hgl
    have G4 := mkHid g4
    clear hy hbb hgg hgl g4
    go_wp2_with fail
    go_region_held3 (fun w' : World => w'.cell? ⟨pr, 0, none⟩ = some (.pointer (some ⟨n, 0, none⟩)) ∧ w'.cell? ⟨pr, 1, none⟩ = some (.pointer (some ⟨d, 0, none⟩)) ∧ w'.cell? ⟨w.heap.size, 1, none⟩ = some (.int .i64 x.a) ∧ w'.cell? ⟨w.heap.size, 2, none⟩ = some (.int .i64 x.t) ∧ w'.cell? ⟨w.heap.size, 4, none⟩ = some (.slice x.p x.b.length x.q)) (first | exact KB.out _ _ _ _ _ U1.out.bu | exact K0.out _ (grown_drew G4.out)) (first | (go_at_call 14; refine (SD.out _ _ _ (grown_drew G4.out) HY.out HBB.out HGG.out HGL.out).mono ?_; rintro e w5 ⟨rfl, u5, b5⟩; have U1 := mkHid u5; have B5 := mkHid b5; clear u5 b5) | fail)
    go_wp2_with fail
    refine (SP.out _ _ _ U1.out B5.out HGG.out).mono ?_
    rintro e w6 ⟨rfl, u6⟩
    have U2 := mkHid u6
    clear u6
    go_wp2_with fail
    go_region_held3 (fun w' : World => w'.cell? ⟨pr, 0, none⟩ = some (.pointer (some ⟨n, 0, none⟩)) ∧ w'.cell? ⟨pr, 1, none⟩ = some (.pointer (some ⟨d, 0, none⟩)) ∧ w'.cell? ⟨w.heap.size, 1, none⟩ = some (.int .i64 x.a) ∧ w'.cell? ⟨w.heap.size, 2, none⟩ = some (.int .i64 x.t) ∧ w'.cell? ⟨w.heap.size, 4, none⟩ = some (.slice x.p x.b.length x.q)) (first | exact KB.out _ _ _ _ _ U3.out | exact KB.out _ _ _ _ _ (U2.out.grow (grown_drew (grown_refl _)))) (first | (go_at_call 31; refine (CD.out _ (U2.out.grow (grown_drew (grown_refl _)))).mono ?_; rintro e w7 ⟨rfl, u7⟩; have U3 := mkHid u7; clear u7) | fail)
    go_wp2_with fail
    go_ret
    exact FIN.out _ U3.out
  | true =>
    clear h h1 G hB hc hpr hP hQ g1 s1 bx pr1 nbP nbQ p0 p1 d3 ha hby hnl hbl hpo
    go_enter Try.func9, Try.ntmps9
    go_wp2_with fail
    go_region_held3 (fun w' : World => w'.cell? ⟨pr, 1, none⟩ = some (.pointer (some ⟨d, 0, none⟩)) ∧ w'.cell? ⟨d, 3, none⟩ = some (.slice pa S.fl.length ca) ∧ w'.cell? ⟨w.heap.size, 3, none⟩ = some (.int .i64 x.i)) (exact K3.out _ (by repeat (first | with_reducible exact grown_refl _ | with_reducible refine grown_drew ?_ | with_reducible refine grown_al ?_ _))) (first | (go_at_call 12; refine (PL.out _).mono ?_; rintro e w5 ⟨⟨I, rfl⟩, hwx⟩; have hwx2 := hwx.symm; subst hwx2; clear hwx) | fail)
    go_wp2_with fail
    refine (OW.out _ (by repeat (first | with_reducible exact grown_refl _ | with_reducible refine grown_drew ?_ | with_reducible refine grown_al ?_ _))).mono ?_
    rintro e w4 ⟨g, cap, rfl, hy, hbb, hgg, hgl, g4⟩
    have HY := mkHid hy
    have HBB := mkHid hbb
    have HGG := mkHid hgg
    have HGL := mkHid hgl
    have G4 := mkHid g4
    clear hy hbb hgg hgl g4
    go_wp2_with fail
    go_region_held3 (fun w' : World => w'.cell? ⟨pr, 0, none⟩ = some (.pointer (some ⟨n, 0, none⟩)) ∧ w'.cell? ⟨pr, 1, none⟩ = some (.pointer (some ⟨d, 0, none⟩)) ∧ w'.cell? ⟨w.heap.size, 1, none⟩ = some (.int .i64 x.a) ∧ w'.cell? ⟨w.heap.size, 2, none⟩ = some (.int .i64 x.t) ∧ w'.cell? ⟨w.heap.size, 4, none⟩ = some (.slice x.p x.b.length x.q)) (first | exact KB.out _ _ _ _ _ U1.out.bu | exact K0.out _ (grown_drew G4.out)) (first | (go_at_call 14; refine (SD.out _ _ _ (grown_drew G4.out) HY.out HBB.out HGG.out HGL.out).mono ?_; rintro e w5 ⟨rfl, u5, b5⟩; have U1 := mkHid u5; have B5 := mkHid b5; clear u5 b5) | fail)
    go_wp2_with fail
    refine (SP.out _ _ _ U1.out B5.out HGG.out).mono ?_
    rintro e w6 ⟨rfl, u6⟩
    have U2 := mkHid u6
    clear u6
    go_wp2_with fail
    go_region_held3 (fun w' : World => w'.cell? ⟨pr, 0, none⟩ = some (.pointer (some ⟨n, 0, none⟩)) ∧ w'.cell? ⟨pr, 1, none⟩ = some (.pointer (some ⟨d, 0, none⟩)) ∧ w'.cell? ⟨w.heap.size, 1, none⟩ = some (.int .i64 x.a) ∧ w'.cell? ⟨w.heap.size, 2, none⟩ = some (.int .i64 x.t) ∧ w'.cell? ⟨w.heap.size, 4, none⟩ = some (.slice x.p x.b.length x.q)) (first | exact KB.out _ _ _ _ _ U3.out | exact KB.out _ _ _ _ _ (U2.out.grow (grown_drew (grown_refl _)))) (first | (go_at_call 31; refine (CD.out _ (U2.out.grow (grown_drew (grown_refl _)))).mono ?_; rintro e w7 ⟨rfl, u7⟩; have U3 := mkHid u7; clear u7) | fail)
    go_wp2_with fail
    go_ret
    exact FIN.out _ U3.out
end Go.Proofs.Ytbdlamlplfogjaa
