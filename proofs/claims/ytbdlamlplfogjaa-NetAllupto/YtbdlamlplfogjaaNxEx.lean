/-
  Walks: one call of both nets: nodes.
-/
import Derived.Test.YtbdlamlplfogjaaGI
import Derived.Deep.RegionHeld3
namespace Go.Proofs.Ytbdlamlplfogjaa
open Go.RowKit Go.Maps Go.Joins
variable {P Q : Nat → Prop} {w w' : World} {n c d B N : Nat} {S : St} {T : Nat → Nat → List ByteArray} {L : Ly} {R : Lr}

set_option maxHeartbeats 4000000 in
set_option maxRecDepth 100000 in
theorem does_5 (h : Bo P Q w n c d S S T L R) (G : Good S T B N) (hB : B + 1 ≤ 3000000) {pr : Nat} (hpr : w.heap[pr]? = some (.cells #[.pointer (some ⟨n, 0, none⟩), .pointer (some ⟨d, 0, none⟩)] 33 (0, 0))) (hP : ¬ P pr) (hQ : ¬ Q pr) (x : Ac) (hk : x.k = 5) : Calls Try.prog 9 #[.pointer (some ⟨pr, 0, none⟩), .agg x.cells] w (DoQ P Q w n c d B N) := by
  obtain ⟨w1, hw1⟩ : ∃ w1, w1 = w.alloc (.cells x.cells 29) := ⟨_, rfl⟩
  have g1 : w.grownBy w1 none := by rw [hw1]; exact grown_al (grown_refl _) _
  have s1 : w1.heap.size = w.heap.size + 1 := by rw [hw1]; simp
  have bx : w1.heap[w.heap.size]? = some (.cells x.cells 29 (0, 0)) := by rw [hw1]; exact heap_alloc_new _ _
  have pr1 := box_keep hpr g1 (by simp)
  have lpr := lt_of_heap hpr
  have h1 : Bo P Q w1 n c d S S T L R := ⟨h.p.kept g1, h.q.kept g1, h.x⟩
  have nbP : ¬ P w.heap.size := fun e => by have := h.p.pb _ e; omega
  have nbQ : ¬ Q w.heap.size := fun e => by have := h.q.pb _ e; omega
  obtain ⟨a0, a1, a2, a3, a4, a5, _⟩ := cells6 bx
  obtain ⟨p0, p1, _⟩ := cells2 pr1
  have K0 : Hid (∀ W, w1.grownBy W none → (fun w' : World => w'.cell? ⟨pr, 0, none⟩ = some (.pointer (some ⟨n, 0, none⟩)) ∧ w'.cell? ⟨pr, 1, none⟩ = some (.pointer (some ⟨d, 0, none⟩)) ∧ w'.cell? ⟨w.heap.size, 1, none⟩ = some (.int .i64 x.a) ∧ w'.cell? ⟨w.heap.size, 2, none⟩ = some (.int .i64 x.t) ∧ w'.cell? ⟨w.heap.size, 4, none⟩ = some (.slice x.p x.b.length x.q)) W) := fun W g => ⟨g.cell p0 (by simp), g.cell p1 (by simp), g.cell a1 (by simp), g.cell a2 (by simp), g.cell a4 (by simp)⟩
  have KB : Hid (∀ W S1 S2 T' c', BU P Q w1 n c' d S1 S2 T' W → (fun w' : World => w'.cell? ⟨pr, 0, none⟩ = some (.pointer (some ⟨n, 0, none⟩)) ∧ w'.cell? ⟨pr, 1, none⟩ = some (.pointer (some ⟨d, 0, none⟩)) ∧ w'.cell? ⟨w.heap.size, 1, none⟩ = some (.int .i64 x.a) ∧ w'.cell? ⟨w.heap.size, 2, none⟩ = some (.int .i64 x.t) ∧ w'.cell? ⟨w.heap.size, 4, none⟩ = some (.slice x.p x.b.length x.q)) W) := fun W S1 S2 T' c' U => by
    obtain ⟨b0, b1, b2, b3, b4, b5, _⟩ := cells6 (U.at_ bx nbP nbQ)
    obtain ⟨q0, q1, _⟩ := cells2 (U.at_ pr1 hP hQ)
    exact ⟨q0, q1, b1, b2, b4⟩
  obtain ⟨pa, ca, ha, _⟩ := h.q.ar.form
  have d3 := h.q.cs.2.2.2.1
  rw [ha] at d3
  have K3 : Hid (∀ W, w1.grownBy W none → (fun w' : World => w'.cell? ⟨pr, 1, none⟩ = some (.pointer (some ⟨d, 0, none⟩)) ∧ w'.cell? ⟨d, 3, none⟩ = some (.slice pa S.fl.length ca) ∧ w'.cell? ⟨w.heap.size, 3, none⟩ = some (.int .i64 x.i)) W) := fun W g => ⟨g.cell p1 (by simp), (grown_none_trans g1 g).cell d3 (by simp), g.cell a3 (by simp)⟩
  have PL : Hid (∀ W : World, Calls Try.prog 12 #[.int .i64 x.i, .int .i64 (S.fl.length : Int)] W fun e w' => (∃ I : Int, e = .returned (.int .i64 I)) ∧ w' = W) := fun W => place_any (w := W) x.i S.fl.length (by have := G.fb; omega)
  have CP : Hid (∀ W, w1.grownBy W none → ∀ I : Int, Calls Try.prog 22 #[.pointer (some ⟨n, 0, none⟩), .int .i64 I] W fun e w' => e = .returned (.int .i64 (isE S I)) ∧ BU P Q w1 n (c + 128) d (tickS S I) S T w') := fun W g I => by
    have ok := G.ok
    have hlt := ok.lt
    have U0 := h1.bu g
    have H0 := h1.p.kept g
    refine ((Tick_any H0 I (fun a b => by have := ok.wb a b; omega) (fun a b => by have := ok.wt a b; omega) (fun a b => ok.wu a b))).mono ?_
    rintro e w5 ⟨rfl, U⟩
    obtain ⟨L2, N2, C2⟩ := U.le (c2 := c + 128) (by omega)
    refine ⟨rfl, ext P W w5, Q, L2, R, ⟨N2, (h1.q.kept g).away C2 (fun b hb e => h1.x b e hb) (fun _ e => e) (fun b hb => Nat.lt_of_lt_of_le (h1.q.pb b hb) (Nat.le_trans g.size C2.size)), fun i hi hq => ?_⟩, fun i hi => ?_, fun _ e => Or.inl e, (Chg.of_none g _).trans (C2.mono (fun i _ e => Or.inl e))⟩
    · rcases hi with e | e
      · exact h1.x i e hq
      · have := h1.q.pb i hq; have := g.size; omega
    · rcases hi with e | e
      · exact Or.inl e
      · exact Or.inr (Nat.le_trans g.size e.1)
  have CD : Hid (∀ W (I : Int), BU P Q w1 n (c + 128) d (tickS S I) S T W → Calls Try.prog 38 #[.pointer (some ⟨d, 0, none⟩), .int .i64 I] W fun e w' => e = .returned (.int .i64 (isE S I)) ∧ BU P Q w1 n (c + 128) d (tickS S I) (tickS S I) (T) w') := fun W I U => by
    have ok := G.ok
    have hlt := ok.lt
    obtain ⟨P', Q', L', R', b1, h2, h3, h4⟩ := U
    have H0 := b1.q
    refine (rTick_any H0 I G.us).mono ?_
    rintro e w5 ⟨rfl, U5⟩
    exact ⟨rfl, BU.put b1 h2 h3 h4 U5⟩
  have FIN : Hid (∀ W (I : Int), BU P Q w1 n (c + 128) d (tickS S I) (tickS S I) (T) W → DoQ P Q w n c d B N (.returned (.bool true)) W) := fun W I U => ⟨rfl, _, _, (G.alone hB ⟨5, I, 0, 0, none, [], 0, false⟩), U.base g1⟩
  unfold Ac.cells at hw1 bx ⊢
  rw [hk] at hw1 bx a0 ⊢
  generalize x.h = hb at hw1 bx a5 ⊢
  subst hw1
  cases hb with
  | false =>
    clear h h1 G hB hpr hP hQ g1 s1 bx pr1 nbP nbQ p0 p1 d3 ha  K3 PL
    go_enter Try.func9, Try.ntmps9
    go_wp2_with fail
    go_region_held3 (fun w' : World => w'.cell? ⟨pr, 0, none⟩ = some (.pointer (some ⟨n, 0, none⟩)) ∧ w'.cell? ⟨pr, 1, none⟩ = some (.pointer (some ⟨d, 0, none⟩)) ∧ w'.cell? ⟨w.heap.size, 1, none⟩ = some (.int .i64 x.a) ∧ w'.cell? ⟨w.heap.size, 2, none⟩ = some (.int .i64 x.t) ∧ w'.cell? ⟨w.heap.size, 4, none⟩ = some (.slice x.p x.b.length x.q)) (first | exact KB.out _ _ _ _ _ U2.out | exact KB.out _ _ _ _ _ U1.out | exact K0.out _ (by repeat (first | with_reducible exact grown_refl _ | with_reducible refine grown_drew ?_ | with_reducible refine grown_al ?_ _))) (first | (go_at_call 22; refine (CP.out _ (by repeat (first | with_reducible exact grown_refl _ | with_reducible refine grown_drew ?_ | with_reducible refine grown_al ?_ _)) _).mono ?_; rintro e w5 ⟨rfl, u5⟩; have U1 := mkHid u5; clear u5) | (go_at_call 38; refine (CD.out _ _ U1.out).mono ?_; rintro e w6 ⟨rfl, u6⟩; have U2 := mkHid u6; clear u6))
    go_wp2_with fail
    go_ret
    exact FIN.out _ _ U2.out
  | true =>
    clear h h1 G hB hpr hP hQ g1 s1 bx pr1 nbP nbQ p0 p1 d3 ha 
    go_enter Try.func9, Try.ntmps9
    go_wp2_with fail
    go_region_held3 (fun w' : World => w'.cell? ⟨pr, 1, none⟩ = some (.pointer (some ⟨d, 0, none⟩)) ∧ w'.cell? ⟨d, 3, none⟩ = some (.slice pa S.fl.length ca) ∧ w'.cell? ⟨w.heap.size, 3, none⟩ = some (.int .i64 x.i)) (exact K3.out _ (by repeat (first | with_reducible exact grown_refl _ | with_reducible refine grown_drew ?_ | with_reducible refine grown_al ?_ _))) (first | (go_at_call 12; refine (PL.out _).mono ?_; rintro e w5 ⟨⟨I, rfl⟩, hwx⟩; have hwx2 := hwx.symm; subst hwx2; clear hwx) | fail)
    go_wp2_with fail
    go_region_held3 (fun w' : World => w'.cell? ⟨pr, 0, none⟩ = some (.pointer (some ⟨n, 0, none⟩)) ∧ w'.cell? ⟨pr, 1, none⟩ = some (.pointer (some ⟨d, 0, none⟩)) ∧ w'.cell? ⟨w.heap.size, 1, none⟩ = some (.int .i64 x.a) ∧ w'.cell? ⟨w.heap.size, 2, none⟩ = some (.int .i64 x.t) ∧ w'.cell? ⟨w.heap.size, 4, none⟩ = some (.slice x.p x.b.length x.q)) (first | exact KB.out _ _ _ _ _ U2.out | exact KB.out _ _ _ _ _ U1.out | exact K0.out _ (by repeat (first | with_reducible exact grown_refl _ | with_reducible refine grown_drew ?_ | with_reducible refine grown_al ?_ _))) (first | (go_at_call 22; refine (CP.out _ (by repeat (first | with_reducible exact grown_refl _ | with_reducible refine grown_drew ?_ | with_reducible refine grown_al ?_ _)) _).mono ?_; rintro e w5 ⟨rfl, u5⟩; have U1 := mkHid u5; clear u5) | (go_at_call 38; refine (CD.out _ _ U1.out).mono ?_; rintro e w6 ⟨rfl, u6⟩; have U2 := mkHid u6; clear u6))
    go_wp2_with fail
    go_ret
    exact FIN.out _ _ U2.out
set_option maxHeartbeats 4000000 in
set_option maxRecDepth 100000 in
theorem does_6 (h : Bo P Q w n c d S S T L R) (G : Good S T B N) (hB : B + 1 ≤ 3000000) {pr : Nat} (hpr : w.heap[pr]? = some (.cells #[.pointer (some ⟨n, 0, none⟩), .pointer (some ⟨d, 0, none⟩)] 33 (0, 0))) (hP : ¬ P pr) (hQ : ¬ Q pr) (x : Ac) (hk : x.k = 6) : Calls Try.prog 9 #[.pointer (some ⟨pr, 0, none⟩), .agg x.cells] w (DoQ P Q w n c d B N) := by
  obtain ⟨w1, hw1⟩ : ∃ w1, w1 = w.alloc (.cells x.cells 29) := ⟨_, rfl⟩
  have g1 : w.grownBy w1 none := by rw [hw1]; exact grown_al (grown_refl _) _
  have s1 : w1.heap.size = w.heap.size + 1 := by rw [hw1]; simp
  have bx : w1.heap[w.heap.size]? = some (.cells x.cells 29 (0, 0)) := by rw [hw1]; exact heap_alloc_new _ _
  have pr1 := box_keep hpr g1 (by simp)
  have lpr := lt_of_heap hpr
  have h1 : Bo P Q w1 n c d S S T L R := ⟨h.p.kept g1, h.q.kept g1, h.x⟩
  have nbP : ¬ P w.heap.size := fun e => by have := h.p.pb _ e; omega
  have nbQ : ¬ Q w.heap.size := fun e => by have := h.q.pb _ e; omega
  obtain ⟨a0, a1, a2, a3, a4, a5, _⟩ := cells6 bx
  obtain ⟨p0, p1, _⟩ := cells2 pr1
  have K0 : Hid (∀ W, w1.grownBy W none → (fun w' : World => w'.cell? ⟨pr, 0, none⟩ = some (.pointer (some ⟨n, 0, none⟩)) ∧ w'.cell? ⟨pr, 1, none⟩ = some (.pointer (some ⟨d, 0, none⟩)) ∧ w'.cell? ⟨w.heap.size, 1, none⟩ = some (.int .i64 x.a) ∧ w'.cell? ⟨w.heap.size, 2, none⟩ = some (.int .i64 x.t) ∧ w'.cell? ⟨w.heap.size, 4, none⟩ = some (.slice x.p x.b.length x.q)) W) := fun W g => ⟨g.cell p0 (by simp), g.cell p1 (by simp), g.cell a1 (by simp), g.cell a2 (by simp), g.cell a4 (by simp)⟩
  have KB : Hid (∀ W S1 S2 T' c', BU P Q w1 n c' d S1 S2 T' W → (fun w' : World => w'.cell? ⟨pr, 0, none⟩ = some (.pointer (some ⟨n, 0, none⟩)) ∧ w'.cell? ⟨pr, 1, none⟩ = some (.pointer (some ⟨d, 0, none⟩)) ∧ w'.cell? ⟨w.heap.size, 1, none⟩ = some (.int .i64 x.a) ∧ w'.cell? ⟨w.heap.size, 2, none⟩ = some (.int .i64 x.t) ∧ w'.cell? ⟨w.heap.size, 4, none⟩ = some (.slice x.p x.b.length x.q)) W) := fun W S1 S2 T' c' U => by
    obtain ⟨b0, b1, b2, b3, b4, b5, _⟩ := cells6 (U.at_ bx nbP nbQ)
    obtain ⟨q0, q1, _⟩ := cells2 (U.at_ pr1 hP hQ)
    exact ⟨q0, q1, b1, b2, b4⟩
  obtain ⟨pa, ca, ha, _⟩ := h.q.ar.form
  have d3 := h.q.cs.2.2.2.1
  rw [ha] at d3
  have K3 : Hid (∀ W, w1.grownBy W none → (fun w' : World => w'.cell? ⟨pr, 1, none⟩ = some (.pointer (some ⟨d, 0, none⟩)) ∧ w'.cell? ⟨d, 3, none⟩ = some (.slice pa S.fl.length ca) ∧ w'.cell? ⟨w.heap.size, 3, none⟩ = some (.int .i64 x.i)) W) := fun W g => ⟨g.cell p1 (by simp), (grown_none_trans g1 g).cell d3 (by simp), g.cell a3 (by simp)⟩
  have PL : Hid (∀ W : World, Calls Try.prog 12 #[.int .i64 x.i, .int .i64 (S.fl.length : Int)] W fun e w' => (∃ I : Int, e = .returned (.int .i64 I)) ∧ w' = W) := fun W => place_any (w := W) x.i S.fl.length (by have := G.fb; omega)
  have CP : Hid (∀ W, w1.grownBy W none → ∀ I : Int, Calls Try.prog 39 #[.pointer (some ⟨n, 0, none⟩), .int .i64 I] W fun e w' => e = .returned (.int .i64 (isE S I)) ∧ BU P Q w1 n (c + 128) d (downT S I) S T w') := fun W g I => by
    have ok := G.ok
    have hlt := ok.lt
    have U0 := h1.bu g
    have H0 := h1.p.kept g
    refine ((Down_er H0 I)).mono ?_
    rintro e w5 ⟨rfl, U⟩
    obtain ⟨L2, N2, C2⟩ := U.le (c2 := c + 128) (by omega)
    refine ⟨rfl, ext P W w5, Q, L2, R, ⟨N2, (h1.q.kept g).away C2 (fun b hb e => h1.x b e hb) (fun _ e => e) (fun b hb => Nat.lt_of_lt_of_le (h1.q.pb b hb) (Nat.le_trans g.size C2.size)), fun i hi hq => ?_⟩, fun i hi => ?_, fun _ e => Or.inl e, (Chg.of_none g _).trans (C2.mono (fun i _ e => Or.inl e))⟩
    · rcases hi with e | e
      · exact h1.x i e hq
      · have := h1.q.pb i hq; have := g.size; omega
    · rcases hi with e | e
      · exact Or.inl e
      · exact Or.inr (Nat.le_trans g.size e.1)
  have CD : Hid (∀ W (I : Int), BU P Q w1 n (c + 128) d (downT S I) S T W → Calls Try.prog 40 #[.pointer (some ⟨d, 0, none⟩), .int .i64 I] W fun e w' => e = .returned (.int .i64 (isE S I)) ∧ BU P Q w1 n (c + 128) d (downT S I) (downT S I) (T) w') := fun W I U => by
    have ok := G.ok
    have hlt := ok.lt
    obtain ⟨P', Q', L', R', b1, h2, h3, h4⟩ := U
    have H0 := b1.q
    refine (rDown_any H0 I).mono ?_
    rintro e w5 ⟨rfl, U5⟩
    exact ⟨rfl, BU.put b1 h2 h3 h4 U5⟩
  have FIN : Hid (∀ W (I : Int), BU P Q w1 n (c + 128) d (downT S I) (downT S I) (T) W → DoQ P Q w n c d B N (.returned (.bool true)) W) := fun W I U => ⟨rfl, _, _, (G.alone hB ⟨6, I, 0, 0, none, [], 0, false⟩), U.base g1⟩
  unfold Ac.cells at hw1 bx ⊢
  rw [hk] at hw1 bx a0 ⊢
  generalize x.h = hb at hw1 bx a5 ⊢
  subst hw1
  cases hb with
  | false =>
    clear h h1 G hB hpr hP hQ g1 s1 bx pr1 nbP nbQ p0 p1 d3 ha  K3 PL
    go_enter Try.func9, Try.ntmps9
    go_wp2_with fail
    go_region_held3 (fun w' : World => w'.cell? ⟨pr, 0, none⟩ = some (.pointer (some ⟨n, 0, none⟩)) ∧ w'.cell? ⟨pr, 1, none⟩ = some (.pointer (some ⟨d, 0, none⟩)) ∧ w'.cell? ⟨w.heap.size, 1, none⟩ = some (.int .i64 x.a) ∧ w'.cell? ⟨w.heap.size, 2, none⟩ = some (.int .i64 x.t) ∧ w'.cell? ⟨w.heap.size, 4, none⟩ = some (.slice x.p x.b.length x.q)) (first | exact KB.out _ _ _ _ _ U2.out | exact KB.out _ _ _ _ _ U1.out | exact K0.out _ (by repeat (first | with_reducible exact grown_refl _ | with_reducible refine grown_drew ?_ | with_reducible refine grown_al ?_ _))) (first | (go_at_call 39; refine (CP.out _ (by repeat (first | with_reducible exact grown_refl _ | with_reducible refine grown_drew ?_ | with_reducible refine grown_al ?_ _)) _).mono ?_; rintro e w5 ⟨rfl, u5⟩; have U1 := mkHid u5; clear u5) | (go_at_call 40; refine (CD.out _ _ U1.out).mono ?_; rintro e w6 ⟨rfl, u6⟩; have U2 := mkHid u6; clear u6))
    go_wp2_with fail
    go_ret
    exact FIN.out _ _ U2.out
  | true =>
    clear h h1 G hB hpr hP hQ g1 s1 bx pr1 nbP nbQ p0 p1 d3 ha 
    go_enter Try.func9, Try.ntmps9
    go_wp2_with fail
    go_region_held3 (fun w' : World => w'.cell? ⟨pr, 1, none⟩ = some (.pointer (some ⟨d, 0, none⟩)) ∧ w'.cell? ⟨d, 3, none⟩ = some (.slice pa S.fl.length ca) ∧ w'.cell? ⟨w.heap.size, 3, none⟩ = some (.int .i64 x.i)) (exact K3.out _ (by repeat (first | with_reducible exact grown_refl _ | with_reducible refine grown_drew ?_ | with_reducible refine grown_al ?_ _))) (first | (go_at_call 12; refine (PL.out _).mono ?_; rintro e w5 ⟨⟨I, rfl⟩, hwx⟩; have hwx2 := hwx.symm; subst hwx2; clear hwx) | fail)
    go_wp2_with fail
    go_region_held3 (fun w' : World => w'.cell? ⟨pr, 0, none⟩ = some (.pointer (some ⟨n, 0, none⟩)) ∧ w'.cell? ⟨pr, 1, none⟩ = some (.pointer (some ⟨d, 0, none⟩)) ∧ w'.cell? ⟨w.heap.size, 1, none⟩ = some (.int .i64 x.a) ∧ w'.cell? ⟨w.heap.size, 2, none⟩ = some (.int .i64 x.t) ∧ w'.cell? ⟨w.heap.size, 4, none⟩ = some (.slice x.p x.b.length x.q)) (first | exact KB.out _ _ _ _ _ U2.out | exact KB.out _ _ _ _ _ U1.out | exact K0.out _ (by repeat (first | with_reducible exact grown_refl _ | with_reducible refine grown_drew ?_ | with_reducible refine grown_al ?_ _))) (first | (go_at_call 39; refine (CP.out _ (by repeat (first | with_reducible exact grown_refl _ | with_reducible refine grown_drew ?_ | with_reducible refine grown_al ?_ _)) _).mono ?_; rintro e w5 ⟨rfl, u5⟩; have U1 := mkHid u5; clear u5) | (go_at_call 40; refine (CD.out _ _ U1.out).mono ?_; rintro e w6 ⟨rfl, u6⟩; have U2 := mkHid u6; clear u6))
    go_wp2_with fail
    go_ret
    exact FIN.out _ _ U2.out
set_option maxHeartbeats 4000000 in
set_option maxRecDepth 100000 in
theorem does_7 (h : Bo P Q w n c d S S T L R) (G : Good S T B N) (hB : B + 1 ≤ 3000000) (hc : c ≤ 800000000) {pr : Nat} (hpr : w.heap[pr]? = some (.cells #[.pointer (some ⟨n, 0, none⟩), .pointer (some ⟨d, 0, none⟩)] 33 (0, 0))) (hP : ¬ P pr) (hQ : ¬ Q pr) (x : Ac) (hk : x.k = 7) : Calls Try.prog 9 #[.pointer (some ⟨pr, 0, none⟩), .agg x.cells] w (DoQ P Q w n c d B N) := by
  obtain ⟨w1, hw1⟩ : ∃ w1, w1 = w.alloc (.cells x.cells 29) := ⟨_, rfl⟩
  have g1 : w.grownBy w1 none := by rw [hw1]; exact grown_al (grown_refl _) _
  have s1 : w1.heap.size = w.heap.size + 1 := by rw [hw1]; simp
  have bx : w1.heap[w.heap.size]? = some (.cells x.cells 29 (0, 0)) := by rw [hw1]; exact heap_alloc_new _ _
  have pr1 := box_keep hpr g1 (by simp)
  have lpr := lt_of_heap hpr
  have h1 : Bo P Q w1 n c d S S T L R := ⟨h.p.kept g1, h.q.kept g1, h.x⟩
  have nbP : ¬ P w.heap.size := fun e => by have := h.p.pb _ e; omega
  have nbQ : ¬ Q w.heap.size := fun e => by have := h.q.pb _ e; omega
  obtain ⟨a0, a1, a2, a3, a4, a5, _⟩ := cells6 bx
  obtain ⟨p0, p1, _⟩ := cells2 pr1
  have K0 : Hid (∀ W, w1.grownBy W none → (fun w' : World => w'.cell? ⟨pr, 0, none⟩ = some (.pointer (some ⟨n, 0, none⟩)) ∧ w'.cell? ⟨pr, 1, none⟩ = some (.pointer (some ⟨d, 0, none⟩)) ∧ w'.cell? ⟨w.heap.size, 1, none⟩ = some (.int .i64 x.a) ∧ w'.cell? ⟨w.heap.size, 2, none⟩ = some (.int .i64 x.t) ∧ w'.cell? ⟨w.heap.size, 4, none⟩ = some (.slice x.p x.b.length x.q)) W) := fun W g => ⟨g.cell p0 (by simp), g.cell p1 (by simp), g.cell a1 (by simp), g.cell a2 (by simp), g.cell a4 (by simp)⟩
  have KB : Hid (∀ W S1 S2 T' c', BU P Q w1 n c' d S1 S2 T' W → (fun w' : World => w'.cell? ⟨pr, 0, none⟩ = some (.pointer (some ⟨n, 0, none⟩)) ∧ w'.cell? ⟨pr, 1, none⟩ = some (.pointer (some ⟨d, 0, none⟩)) ∧ w'.cell? ⟨w.heap.size, 1, none⟩ = some (.int .i64 x.a) ∧ w'.cell? ⟨w.heap.size, 2, none⟩ = some (.int .i64 x.t) ∧ w'.cell? ⟨w.heap.size, 4, none⟩ = some (.slice x.p x.b.length x.q)) W) := fun W S1 S2 T' c' U => by
    obtain ⟨b0, b1, b2, b3, b4, b5, _⟩ := cells6 (U.at_ bx nbP nbQ)
    obtain ⟨q0, q1, _⟩ := cells2 (U.at_ pr1 hP hQ)
    exact ⟨q0, q1, b1, b2, b4⟩
  obtain ⟨pa, ca, ha, _⟩ := h.q.ar.form
  have d3 := h.q.cs.2.2.2.1
  rw [ha] at d3
  have K3 : Hid (∀ W, w1.grownBy W none → (fun w' : World => w'.cell? ⟨pr, 1, none⟩ = some (.pointer (some ⟨d, 0, none⟩)) ∧ w'.cell? ⟨d, 3, none⟩ = some (.slice pa S.fl.length ca) ∧ w'.cell? ⟨w.heap.size, 3, none⟩ = some (.int .i64 x.i)) W) := fun W g => ⟨g.cell p1 (by simp), (grown_none_trans g1 g).cell d3 (by simp), g.cell a3 (by simp)⟩
  have PL : Hid (∀ W : World, Calls Try.prog 12 #[.int .i64 x.i, .int .i64 (S.fl.length : Int)] W fun e w' => (∃ I : Int, e = .returned (.int .i64 I)) ∧ w' = W) := fun W => place_any (w := W) x.i S.fl.length (by have := G.fb; omega)
  have CP : Hid (∀ W, w1.grownBy W none → ∀ I : Int, Calls Try.prog 18 #[.pointer (some ⟨n, 0, none⟩), .int .i64 I] W fun e w' => e = .returned (.int .i64 (upK S I)) ∧ BU P Q w1 n (c + 128) d (upT S I) S T w') := fun W g I => by
    have ok := G.ok
    have hlt := ok.lt
    have U0 := h1.bu g
    have H0 := h1.p.kept g
    refine ((Up_any H0 I (fun a b => by have := ok.wb a b; omega) (by omega))).mono ?_
    rintro e w5 ⟨rfl, U⟩
    obtain ⟨L2, N2, C2⟩ := U.le (c2 := c + 128) (by omega)
    refine ⟨rfl, ext P W w5, Q, L2, R, ⟨N2, (h1.q.kept g).away C2 (fun b hb e => h1.x b e hb) (fun _ e => e) (fun b hb => Nat.lt_of_lt_of_le (h1.q.pb b hb) (Nat.le_trans g.size C2.size)), fun i hi hq => ?_⟩, fun i hi => ?_, fun _ e => Or.inl e, (Chg.of_none g _).trans (C2.mono (fun i _ e => Or.inl e))⟩
    · rcases hi with e | e
      · exact h1.x i e hq
      · have := h1.q.pb i hq; have := g.size; omega
    · rcases hi with e | e
      · exact Or.inl e
      · exact Or.inr (Nat.le_trans g.size e.1)
  have CD : Hid (∀ W (I : Int), BU P Q w1 n (c + 128) d (upT S I) S T W → Calls Try.prog 41 #[.pointer (some ⟨d, 0, none⟩), .int .i64 I] W fun e w' => e = .returned (.int .i64 (upK S I)) ∧ BU P Q w1 n (c + 128) d (upT S I) (upT S I) (upTT S T I) w') := fun W I U => by
    have ok := G.ok
    have hlt := ok.lt
    obtain ⟨P', Q', L', R', b1, h2, h3, h4⟩ := U
    have H0 := b1.q
    refine (rUp_any H0 I (fun a b => by have := ok.wb a b; omega)).mono ?_
    rintro e w5 ⟨rfl, U5⟩
    exact ⟨rfl, BU.put b1 h2 h3 h4 U5⟩
  have FIN : Hid (∀ W (I : Int), BU P Q w1 n (c + 128) d (upT S I) (upT S I) (upTT S T I) W → DoQ P Q w n c d B N (.returned (.bool true)) W) := fun W I U => ⟨rfl, _, _, (G.up hB I), U.base g1⟩
  unfold Ac.cells at hw1 bx ⊢
  rw [hk] at hw1 bx a0 ⊢
  generalize x.h = hb at hw1 bx a5 ⊢
  subst hw1
  cases hb with
  | false =>
    clear h h1 G hB hc hpr hP hQ g1 s1 bx pr1 nbP nbQ p0 p1 d3 ha  K3 PL
    go_enter Try.func9, Try.ntmps9
    go_wp2_with fail
    go_region_held3 (fun w' : World => w'.cell? ⟨pr, 0, none⟩ = some (.pointer (some ⟨n, 0, none⟩)) ∧ w'.cell? ⟨pr, 1, none⟩ = some (.pointer (some ⟨d, 0, none⟩)) ∧ w'.cell? ⟨w.heap.size, 1, none⟩ = some (.int .i64 x.a) ∧ w'.cell? ⟨w.heap.size, 2, none⟩ = some (.int .i64 x.t) ∧ w'.cell? ⟨w.heap.size, 4, none⟩ = some (.slice x.p x.b.length x.q)) (first | exact KB.out _ _ _ _ _ U2.out | exact KB.out _ _ _ _ _ U1.out | exact K0.out _ (by repeat (first | with_reducible exact grown_refl _ | with_reducible refine grown_drew ?_ | with_reducible refine grown_al ?_ _))) (first | (go_at_call 18; refine (CP.out _ (by repeat (first | with_reducible exact grown_refl _ | with_reducible refine grown_drew ?_ | with_reducible refine grown_al ?_ _)) _).mono ?_; rintro e w5 ⟨rfl, u5⟩; have U1 := mkHid u5; clear u5) | (go_at_call 41; refine (CD.out _ _ U1.out).mono ?_; rintro e w6 ⟨rfl, u6⟩; have U2 := mkHid u6; clear u6))
    go_wp2_with fail
    go_ret
    exact FIN.out _ _ U2.out
  | true =>
    clear h h1 G hB hc hpr hP hQ g1 s1 bx pr1 nbP nbQ p0 p1 d3 ha 
    go_enter Try.func9, Try.ntmps9
    go_wp2_with fail
    go_region_held3 (fun w' : World => w'.cell? ⟨pr, 1, none⟩ = some (.pointer (some ⟨d, 0, none⟩)) ∧ w'.cell? ⟨d, 3, none⟩ = some (.slice pa S.fl.length ca) ∧ w'.cell? ⟨w.heap.size, 3, none⟩ = some (.int .i64 x.i)) (exact K3.out _ (by repeat (first | with_reducible exact grown_refl _ | with_reducible refine grown_drew ?_ | with_reducible refine grown_al ?_ _))) (first | (go_at_call 12; refine (PL.out _).mono ?_; rintro e w5 ⟨⟨I, rfl⟩, hwx⟩; have hwx2 := hwx.symm; subst hwx2; clear hwx) | fail)
    go_wp2_with fail
    go_region_held3 (fun w' : World => w'.cell? ⟨pr, 0, none⟩ = some (.pointer (some ⟨n, 0, none⟩)) ∧ w'.cell? ⟨pr, 1, none⟩ = some (.pointer (some ⟨d, 0, none⟩)) ∧ w'.cell? ⟨w.heap.size, 1, none⟩ = some (.int .i64 x.a) ∧ w'.cell? ⟨w.heap.size, 2, none⟩ = some (.int .i64 x.t) ∧ w'.cell? ⟨w.heap.size, 4, none⟩ = some (.slice x.p x.b.length x.q)) (first | exact KB.out _ _ _ _ _ U2.out | exact KB.out _ _ _ _ _ U1.out | exact K0.out _ (by repeat (first | with_reducible exact grown_refl _ | with_reducible refine grown_drew ?_ | with_reducible refine grown_al ?_ _))) (first | (go_at_call 18; refine (CP.out _ (by repeat (first | with_reducible exact grown_refl _ | with_reducible refine grown_drew ?_ | with_reducible refine grown_al ?_ _)) _).mono ?_; rintro e w5 ⟨rfl, u5⟩; have U1 := mkHid u5; clear u5) | (go_at_call 41; refine (CD.out _ _ U1.out).mono ?_; rintro e w6 ⟨rfl, u6⟩; have U2 := mkHid u6; clear u6))
    go_wp2_with fail
    go_ret
    exact FIN.out _ _ U2.out
end Go.Proofs.Ytbdlamlplfogjaa
