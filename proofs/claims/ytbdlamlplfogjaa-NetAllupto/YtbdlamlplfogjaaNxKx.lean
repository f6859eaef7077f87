/-
  Walks: one call of both nets: what is asked; none.
-/
import Derived.Test.YtbdlamlplfogjaaGI
import Derived.Deep.RegionHeld3
namespace Go.Proofs.Ytbdlamlplfogjaa
open Go.RowKit Go.Maps Go.Joins
variable {P Q : Nat → Prop} {w w' : World} {n c d B N : Nat} {S : St} {T : Nat → Nat → List ByteArray} {L : Ly} {R : Lr}

set_option maxHeartbeats 4000000 in
set_option maxRecDepth 100000 in
theorem does_8n (h : Bo P Q w n c d S S T L R) (G : Good S T B N) (hB : B + 1 ≤ 3000000) {pr : Nat} (hpr : w.heap[pr]? = some (.cells #[.pointer (some ⟨n, 0, none⟩), .pointer (some ⟨d, 0, none⟩)] 33 (0, 0))) (hP : ¬ P pr) (hQ : ¬ Q pr) (x : Ac) (hk : x.k = 8) (hs : isS S x.a = false) : Calls Try.prog 9 #[.pointer (some ⟨pr, 0, none⟩), .agg x.cells] w (DoQ P Q w n c d B N) := by
  obtain ⟨w1, hw1⟩ : ∃ w1, w1 = w.alloc (.cells x.cells 29) := ⟨_, rfl⟩
  have g1 : w.grownBy w1 none := by rw [hw1]; exact grown_al (grown_refl _) _
  have s1 : w1.heap.size = w.heap.size + 1 := by rw [hw1]; simp
  have bx : w1.heap[w.heap.size]? = some (.cells x.cells 29 (0, 0)) := by rw [hw1]; exact heap_alloc_new _ _
  have pr1 := box_keep hpr g1 (by simp)
  have lpr := lt_of_heap hpr
  have h1 : Bo P Q w1 n c d S S T L R := ⟨h.p.kept g1, h.q.kept g1, h.x⟩
  have nbP : ¬ P w.heap.size := fun e => by have := h.p.pb _ e; omega
  have nbQ : ¬ Q w.heap.size := fun e => by have := h.q.pb _ e; omega
  obtain ⟨a0, a1, a2, a3, a4, a5, _⟩ := cells6 bx
  obtain ⟨p0, p1, _⟩ := cells2 pr1
  have K0 : Hid (∀ W, w1.grownBy W none → (fun w' : World => w'.cell? ⟨pr, 0, none⟩ = some (.pointer (some ⟨n, 0, none⟩)) ∧ w'.cell? ⟨pr, 1, none⟩ = some (.pointer (some ⟨d, 0, none⟩)) ∧ w'.cell? ⟨w.heap.size, 1, none⟩ = some (.int .i64 x.a) ∧ w'.cell? ⟨w.heap.size, 2, none⟩ = some (.int .i64 x.t) ∧ w'.cell? ⟨w.heap.size, 4, none⟩ = some (.slice x.p x.b.length x.q)) W) := fun W g => ⟨g.cell p0 (by simp), g.cell p1 (by simp), g.cell a1 (by simp), g.cell a2 (by simp), g.cell a4 (by simp)⟩
  have KB : Hid (∀ W S1 S2 T' c', BU P Q w1 n c' d S1 S2 T' W → (fun w' : World => w'.cell? ⟨pr, 0, none⟩ = some (.pointer (some ⟨n, 0, none⟩)) ∧ w'.cell? ⟨pr, 1, none⟩ = some (.pointer (some ⟨d, 0, none⟩)) ∧ w'.cell? ⟨w.heap.size, 1, none⟩ = some (.int .i64 x.a) ∧ w'.cell? ⟨w.heap.size, 2, none⟩ = some (.int .i64 x.t) ∧ w'.cell? ⟨w.heap.size, 4, none⟩ = some (.slice x.p x.b.length x.q)) W) := fun W S1 S2 T' c' U => by
    obtain ⟨b0, b1, b2, b3, b4, b5, _⟩ := cells6 (U.at_ bx nbP nbQ)
    obtain ⟨q0, q1, _⟩ := cells2 (U.at_ pr1 hP hQ)
    exact ⟨q0, q1, b1, b2, b4⟩
  obtain ⟨pa, ca, ha, _⟩ := h.q.ar.form
  have d3 := h.q.cs.2.2.2.1
  rw [ha] at d3
  have K3 : Hid (∀ W, w1.grownBy W none → (fun w' : World => w'.cell? ⟨pr, 1, none⟩ = some (.pointer (some ⟨d, 0, none⟩)) ∧ w'.cell? ⟨d, 3, none⟩ = some (.slice pa S.fl.length ca) ∧ w'.cell? ⟨w.heap.size, 3, none⟩ = some (.int .i64 x.i)) W) := fun W g => ⟨g.cell p1 (by simp), (grown_none_trans g1 g).cell d3 (by simp), g.cell a3 (by simp)⟩
  have PL : Hid (∀ W : World, Calls Try.prog 12 #[.int .i64 x.i, .int .i64 (S.fl.length : Int)] W fun e w' => (∃ I : Int, e = .returned (.int .i64 I)) ∧ w' = W) := fun W => place_any (w := W) x.i S.fl.length (by have := G.fb; omega)
  have UP : Hid (∀ W, w1.grownBy W none → Calls Try.prog 21 #[.pointer (some ⟨n, 0, none⟩), .int .i64 x.a, .int .i64 x.t] W fun e w' => e = .returned (.tuple #[.int .i64 (unK S x.a x.t), .int .i64 (unE S x.a x.t)]) ∧ w1.grownBy w' none) := fun W g => by
    refine (Unsure_any (h1.p.kept g) x.a x.t).mono ?_
    rintro e w5 ⟨rfl, g5⟩
    exact ⟨rfl, grown_none_trans g g5⟩
  have UD : Hid (∀ W, w1.grownBy W none → Calls Try.prog 42 #[.pointer (some ⟨d, 0, none⟩), .int .i64 x.a, .int .i64 x.t] W fun e w' => e = .returned (.tuple #[.int .i64 (unK S x.a x.t), .int .i64 (unE S x.a x.t)]) ∧ w1.grownBy w' none) := fun W g => by
    refine (rUnsure_any (h1.q.kept g) x.a x.t (fun i j hi hj => by obtain ⟨u1, u2, u3⟩ := G.us i j hi hj; exact ⟨u1, u2, by omega⟩)).mono ?_
    rintro e w5 ⟨rfl, g5⟩
    exact ⟨rfl, grown_none_trans g g5⟩
  have WT : Hid (∀ W, w1.grownBy W none → Calls Try.prog 43 #[.pointer (some ⟨n, 0, none⟩), .int .i64 x.a] W fun e w' => e = .returned (.tuple #[.int .i64 0, .int .i64 60]) ∧ w' = W) := fun W g => by
    have := Waits_any (h1.p.kept g) x.a
    rw [hs] at this
    exact this
  have IP : Hid (∀ W, w1.grownBy W none → Calls Try.prog 20 #[.pointer (some ⟨n, 0, none⟩), .int .i64 x.a] W fun e w' => e = .returned (.bool false) ∧ w' = W) := fun W g => by
    have := Is_any (h1.p.kept g) x.a
    rw [hs] at this
    exact this
  have ID : Hid (∀ W, w1.grownBy W none → Calls Try.prog 44 #[.pointer (some ⟨d, 0, none⟩), .int .i64 x.a] W fun e w' => e = .returned (.bool false) ∧ w' = W) := fun W g => by
    have := rIs_any (h1.q.kept g) x.a
    rw [hs] at this
    exact this
  have FIN : Hid (∀ W, w1.grownBy W none → DoQ P Q w n c d B N (.returned (.bool true)) W) := fun W g => ⟨rfl, S, T, G.more hB, ((h1.bu g).base g1).le (by omega)⟩
  unfold Ac.cells at hw1 bx ⊢
  rw [hk] at hw1 bx a0 ⊢
  generalize x.h = hb at hw1 bx a5 ⊢
  subst hw1
  cases hb with
  | false =>
    clear h h1 G hB hpr hP hQ g1 s1 bx pr1 nbP nbQ p0 p1 d3 ha hs K3 PL
    go_enter Try.func9, Try.ntmps9
    go_wp2_with fail
    go_region_held3 (fun w' : World => w'.cell? ⟨pr, 0, none⟩ = some (.pointer (some ⟨n, 0, none⟩)) ∧ w'.cell? ⟨pr, 1, none⟩ = some (.pointer (some ⟨d, 0, none⟩)) ∧ w'.cell? ⟨w.heap.size, 1, none⟩ = some (.int .i64 x.a) ∧ w'.cell? ⟨w.heap.size, 2, none⟩ = some (.int .i64 x.t) ∧ w'.cell? ⟨w.heap.size, 4, none⟩ = some (.slice x.p x.b.length x.q)) (first | exact K0.out _ G5.out | exact K0.out _ (by repeat (first | with_reducible exact grown_refl _ | with_reducible refine grown_drew ?_ | with_reducible refine grown_al ?_ _))) (first | (go_at_call 21; refine (UP.out _ (by repeat (first | with_reducible exact grown_refl _ | with_reducible refine grown_drew ?_ | with_reducible refine grown_al ?_ _))).mono ?_; rintro e w5 ⟨rfl, g5⟩; have G5 := mkHid g5; clear g5) | fail)
    go_wp2_with fail
    go_region_held3 (fun w' : World => w'.cell? ⟨pr, 0, none⟩ = some (.pointer (some ⟨n, 0, none⟩)) ∧ w'.cell? ⟨pr, 1, none⟩ = some (.pointer (some ⟨d, 0, none⟩)) ∧ w'.cell? ⟨w.heap.size, 1, none⟩ = some (.int .i64 x.a) ∧ w'.cell? ⟨w.heap.size, 2, none⟩ = some (.int .i64 x.t) ∧ w'.cell? ⟨w.heap.size, 4, none⟩ = some (.slice x.p x.b.length x.q)) (first | exact K0.out _ G6.out | exact K0.out _ (grown_drew G5.out)) (first | (go_at_call 42; refine (UD.out _ (grown_drew G5.out)).mono ?_; rintro e w6 ⟨rfl, g6⟩; have G6 := mkHid g6; clear g6) | fail)
    go_wp2_with fail
    go_region_held3 (fun w' : World => w'.cell? ⟨pr, 0, none⟩ = some (.pointer (some ⟨n, 0, none⟩)) ∧ w'.cell? ⟨pr, 1, none⟩ = some (.pointer (some ⟨d, 0, none⟩)) ∧ w'.cell? ⟨w.heap.size, 1, none⟩ = some (.int .i64 x.a) ∧ w'.cell? ⟨w.heap.size, 2, none⟩ = some (.int .i64 x.t) ∧ w'.cell? ⟨w.heap.size, 4, none⟩ = some (.slice x.p x.b.length x.q)) (exact K0.out _ (grown_drew G6.out)) (first | (go_at_call 43; refine (WT.out _ (grown_drew G6.out)).mono ?_; rintro e w7 ⟨rfl, hwx⟩; have hwx2 := hwx.symm; subst hwx2; clear hwx) | fail)
    go_wp2_with fail
    go_region_held3 (fun w' : World => w'.cell? ⟨pr, 0, none⟩ = some (.pointer (some ⟨n, 0, none⟩)) ∧ w'.cell? ⟨pr, 1, none⟩ = some (.pointer (some ⟨d, 0, none⟩)) ∧ w'.cell? ⟨w.heap.size, 1, none⟩ = some (.int .i64 x.a) ∧ w'.cell? ⟨w.heap.size, 2, none⟩ = some (.int .i64 x.t) ∧ w'.cell? ⟨w.heap.size, 4, none⟩ = some (.slice x.p x.b.length x.q)) (exact K0.out _ (grown_drew (grown_drew G6.out))) (first | (go_at_call 44; refine (ID.out _ (grown_drew (grown_drew G6.out))).mono ?_; rintro e w7 ⟨rfl, hwx⟩; have hwx2 := hwx.symm; subst hwx2; clear hwx) | fail)
    go_wp2_with fail
    go_region_held3 (fun w' : World => w'.cell? ⟨pr, 0, none⟩ = some (.pointer (some ⟨n, 0, none⟩)) ∧ w'.cell? ⟨pr, 1, none⟩ = some (.pointer (some ⟨d, 0, none⟩)) ∧ w'.cell? ⟨w.heap.size, 1, none⟩ = some (.int .i64 x.a) ∧ w'.cell? ⟨w.heap.size, 2, none⟩ = some (.int .i64 x.t) ∧ w'.cell? ⟨w.heap.size, 4, none⟩ = some (.slice x.p x.b.length x.q)) (exact K0.out _ (grown_drew (grown_drew (grown_drew G6.out)))) (first | (go_at_call 20; refine (IP.out _ (grown_drew (grown_drew (grown_drew G6.out)))).mono ?_; rintro e w7 ⟨rfl, hwx⟩; have hwx2 := hwx.symm; subst hwx2; clear hwx) | (go_at_call 44; refine (ID.out _ (grown_drew (grown_drew (grown_drew G6.out)))).mono ?_; rintro e w7 ⟨rfl, hwx⟩; have hwx2 := hwx.symm; subst hwx2; clear hwx))
    go_wp2_with fail
    go_ret
    exact FIN.out _ (grown_drew (grown_drew (grown_drew G6.out)))
  | true =>
    clear h h1 G hB hpr hP hQ g1 s1 bx pr1 nbP nbQ p0 p1 d3 ha hs
    go_enter Try.func9, Try.ntmps9
    go_wp2_with fail
    go_region_held3 (fun w' : World => w'.cell? ⟨pr, 1, none⟩ = some (.pointer (some ⟨d, 0, none⟩)) ∧ w'.cell? ⟨d, 3, none⟩ = some (.slice pa S.fl.length ca) ∧ w'.cell? ⟨w.heap.size, 3, none⟩ = some (.int .i64 x.i)) (exact K3.out _ (by repeat (first | with_reducible exact grown_refl _ | with_reducible refine grown_drew ?_ | with_reducible refine grown_al ?_ _))) (first | (go_at_call 12; refine (PL.out _).mono ?_; rintro e w5 ⟨⟨I, rfl⟩, hwx⟩; have hwx2 := hwx.symm; subst hwx2; clear hwx) | fail)
    go_wp2_with fail
    go_region_held3 (fun w' : World => w'.cell? ⟨pr, 0, none⟩ = some (.pointer (some ⟨n, 0, none⟩)) ∧ w'.cell? ⟨pr, 1, none⟩ = some (.pointer (some ⟨d, 0, none⟩)) ∧ w'.cell? ⟨w.heap.size, 1, none⟩ = some (.int .i64 x.a) ∧ w'.cell? ⟨w.heap.size, 2, none⟩ = some (.int .i64 x.t) ∧ w'.cell? ⟨w.heap.size, 4, none⟩ = some (.slice x.p x.b.length x.q)) (first | exact K0.out _ G5.out | exact K0.out _ (by repeat (first | with_reducible exact grown_refl _ | with_reducible refine grown_drew ?_ | with_reducible refine grown_al ?_ _))) (first | (go_at_call 21; refine (UP.out _ (by repeat (first | with_reducible exact grown_refl _ | with_reducible refine grown_drew ?_ | with_reducible refine grown_al ?_ _))).mono ?_; rintro e w5 ⟨rfl, g5⟩; have G5 := mkHid g5; clear g5) | fail)
    go_wp2_with fail
    go_region_held3 (fun w' : World => w'.cell? ⟨pr, 0, none⟩ = some (.pointer (some ⟨n, 0, none⟩)) ∧ w'.cell? ⟨pr, 1, none⟩ = some (.pointer (some ⟨d, 0, none⟩)) ∧ w'.cell? ⟨w.heap.size, 1, none⟩ = some (.int .i64 x.a) ∧ w'.cell? ⟨w.heap.size, 2, none⟩ = some (.int .i64 x.t) ∧ w'.cell? ⟨w.heap.size, 4, none⟩ = some (.slice x.p x.b.length x.q)) (first | exact K0.out _ G6.out | exact K0.out _ (grown_drew G5.out)) (first | (go_at_call 42; refine (UD.out _ (grown_drew G5.out)).mono ?_; rintro e w6 ⟨rfl, g6⟩; have G6 := mkHid g6; clear g6) | fail)
    go_wp2_with fail
    go_region_held3 (fun w' : World => w'.cell? ⟨pr, 0, none⟩ = some (.pointer (some ⟨n, 0, none⟩)) ∧ w'.cell? ⟨pr, 1, none⟩ = some (.pointer (some ⟨d, 0, none⟩)) ∧ w'.cell? ⟨w.heap.size, 1, none⟩ = some (.int .i64 x.a) ∧ w'.cell? ⟨w.heap.size, 2, none⟩ = some (.int .i64 x.t) ∧ w'.cell? ⟨w.heap.size, 4, none⟩ = some (.slice x.p x.b.length x.q)) (exact K0.out _ (grown_drew G6.out)) (first | (go_at_call 43; refine (WT.out _ (grown_drew G6.out)).mono ?_; rintro e w7 ⟨rfl, hwx⟩; have hwx2 := hwx.symm; subst hwx2; clear hwx) | fail)
    go_wp2_with fail
    go_region_held3 (fun w' : World => w'.cell? ⟨pr, 0, none⟩ = some (.pointer (some ⟨n, 0, none⟩)) ∧ w'.cell? ⟨pr, 1, none⟩ = some (.pointer (some ⟨d, 0, none⟩)) ∧ w'.cell? ⟨w.heap.size, 1, none⟩ = some (.int .i64 x.a) ∧ w'.cell? ⟨w.heap.size, 2, none⟩ = some (.int .i64 x.t) ∧ w'.cell? ⟨w.heap.size, 4, none⟩ = some (.slice x.p x.b.length x.q)) (exact K0.out _ (grown_drew (grown_drew G6.out))) (first | (go_at_call 44; refine (ID.out _ (grown_drew (grown_drew G6.out))).mono ?_; rintro e w7 ⟨rfl, hwx⟩; have hwx2 := hwx.symm; subst hwx2; clear hwx) | fail)
    go_wp2_with fail
    go_region_held3 (fun w' : World => w'.cell? ⟨pr, 0, none⟩ = some (.pointer (some ⟨n, 0, none⟩)) ∧ w'.cell? ⟨pr, 1, none⟩ = some (.pointer (some ⟨d, 0, none⟩)) ∧ w'.cell? ⟨w.heap.size, 1, none⟩ = some (.int .i64 x.a) ∧ w'.cell? ⟨w.heap.size, 2, none⟩ = some (.int .i64 x.t) ∧ w'.cell? ⟨w.heap.size, 4, none⟩ = some (.slice x.p x.b.length x.q)) (exact K0.out _ (grown_drew (grown_drew (grown_drew G6.out)))) (first | (go_at_call 20; refine (IP.out _ (grown_drew (grown_drew (grown_drew G6.out)))).mono ?_; rintro e w7 ⟨rfl, hwx⟩; have hwx2 := hwx.symm; subst hwx2; clear hwx) | (go_at_call 44; refine (ID.out _ (grown_drew (grown_drew (grown_drew G6.out)))).mono ?_; rintro e w7 ⟨rfl, hwx⟩; have hwx2 := hwx.symm; subst hwx2; clear hwx))
    go_wp2_with fail
    go_ret
    exact FIN.out _ (grown_drew (grown_drew (grown_drew G6.out)))
set_option maxHeartbeats 4000000 in
set_option maxRecDepth 100000 in
theorem does_no (h : Bo P Q w n c d S S T L R) (G : Good S T B N) (hB : B + 1 ≤ 3000000) {pr : Nat} (hpr : w.heap[pr]? = some (.cells #[.pointer (some ⟨n, 0, none⟩), .pointer (some ⟨d, 0, none⟩)] 33 (0, 0))) (hP : ¬ P pr) (hQ : ¬ Q pr) (x : Ac) (k0 : x.k ≠ 0) (k1 : x.k ≠ 1) (k2 : x.k ≠ 2) (k3 : x.k ≠ 3) (k4 : x.k ≠ 4) (k5 : x.k ≠ 5) (k6 : x.k ≠ 6) (k7 : x.k ≠ 7) (k8 : x.k ≠ 8) : Calls Try.prog 9 #[.pointer (some ⟨pr, 0, none⟩), .agg x.cells] w (DoQ P Q w n c d B N) := by
  obtain ⟨w1, hw1⟩ : ∃ w1, w1 = w.alloc (.cells x.cells 29) := ⟨_, rfl⟩
  have g1 : w.grownBy w1 none := by rw [hw1]; exact grown_al (grown_refl _) _
  have s1 : w1.heap.size = w.heap.size + 1 := by rw [hw1]; simp
  have bx : w1.heap[w.heap.size]? = some (.cells x.cells 29 (0, 0)) := by rw [hw1]; exact heap_alloc_new _ _
  have pr1 := box_keep hpr g1 (by simp)
  have lpr := lt_of_heap hpr
  have h1 : Bo P Q w1 n c d S S T L R := ⟨h.p.kept g1, h.q.kept g1, h.x⟩
  have nbP : ¬ P w.heap.size := fun e => by have := h.p.pb _ e; omega
  have nbQ : ¬ Q w.heap.size := fun e => by have := h.q.pb _ e; omega
  obtain ⟨a0, a1, a2, a3, a4, a5, _⟩ := cells6 bx
  obtain ⟨p0, p1, _⟩ := cells2 pr1
  have K0 : Hid (∀ W, w1.grownBy W none → (fun w' : World => w'.cell? ⟨pr, 0, none⟩ = some (.pointer (some ⟨n, 0, none⟩)) ∧ w'.cell? ⟨pr, 1, none⟩ = some (.pointer (some ⟨d, 0, none⟩)) ∧ w'.cell? ⟨w.heap.size, 1, none⟩ = some (.int .i64 x.a) ∧ w'.cell? ⟨w.heap.size, 2, none⟩ = some (.int .i64 x.t) ∧ w'.cell? ⟨w.heap.size, 4, none⟩ = some (.slice x.p x.b.length x.q)) W) := fun W g => ⟨g.cell p0 (by simp), g.cell p1 (by simp), g.cell a1 (by simp), g.cell a2 (by simp), g.cell a4 (by simp)⟩
  have KBX : Hid (∀ W S1 S2 T' c', BU P Q w1 n c' d S1 S2 T' W → (fun w' : World => w'.cell? ⟨pr, 0, none⟩ = some (.pointer (some ⟨n, 0, none⟩)) ∧ w'.cell? ⟨pr, 1, none⟩ = some (.pointer (some ⟨d, 0, none⟩)) ∧ w'.cell? ⟨w.heap.size, 1, none⟩ = some (.int .i64 x.a) ∧ w'.cell? ⟨w.heap.size, 2, none⟩ = some (.int .i64 x.t) ∧ w'.cell? ⟨w.heap.size, 4, none⟩ = some (.slice x.p x.b.length x.q)) W) := fun W S1 S2 T' c' U => by
    obtain ⟨b0, b1, b2, b3, b4, b5, _⟩ := cells6 (U.at_ bx nbP nbQ)
    obtain ⟨q0, q1, _⟩ := cells2 (U.at_ pr1 hP hQ)
    exact ⟨q0, q1, b1, b2, b4⟩
  obtain ⟨pa, ca, ha, _⟩ := h.q.ar.form
  have d3 := h.q.cs.2.2.2.1
  rw [ha] at d3
  have K3 : Hid (∀ W, w1.grownBy W none → (fun w' : World => w'.cell? ⟨pr, 1, none⟩ = some (.pointer (some ⟨d, 0, none⟩)) ∧ w'.cell? ⟨d, 3, none⟩ = some (.slice pa S.fl.length ca) ∧ w'.cell? ⟨w.heap.size, 3, none⟩ = some (.int .i64 x.i)) W) := fun W g => ⟨g.cell p1 (by simp), (grown_none_trans g1 g).cell d3 (by simp), g.cell a3 (by simp)⟩
  have PL : Hid (∀ W : World, Calls Try.prog 12 #[.int .i64 x.i, .int .i64 (S.fl.length : Int)] W fun e w' => (∃ I : Int, e = .returned (.int .i64 I)) ∧ w' = W) := fun W => place_any (w := W) x.i S.fl.length (by have := G.fb; omega)
  have FIN : Hid (∀ W, w1.grownBy W none → DoQ P Q w n c d B N (.returned (.bool true)) W) := fun W g => ⟨rfl, S, T, G.more hB, ((h1.bu g).base g1).le (by omega)⟩
  have b0 : (x.k == 0) = false := by rw [beq_eq_false_iff_ne]; exact k0
  have b1 : (x.k == 1) = false := by rw [beq_eq_false_iff_ne]; exact k1
  have b2 : (x.k == 2) = false := by rw [beq_eq_false_iff_ne]; exact k2
  have b3 : (x.k == 3) = false := by rw [beq_eq_false_iff_ne]; exact k3
  have b4 : (x.k == 4) = false := by rw [beq_eq_false_iff_ne]; exact k4
  have b5 : (x.k == 5) = false := by rw [beq_eq_false_iff_ne]; exact k5
  have b6 : (x.k == 6) = false := by rw [beq_eq_false_iff_ne]; exact k6
  have b7 : (x.k == 7) = false := by rw [beq_eq_false_iff_ne]; exact k7
  have b8 : (x.k == 8) = false := by rw [beq_eq_false_iff_ne]; exact k8
  unfold Ac.cells at hw1 bx ⊢
  generalize x.h = hb at hw1 bx a5 ⊢
  subst hw1
  cases hb with
  | false =>
    clear h h1 G hB hpr hP hQ g1 s1 bx pr1 nbP nbQ p0 p1 d3 ha k0 k1 k2 k3 k4 k5 k6 k7 k8 K3 PL
    go_enter Try.func9, Try.ntmps9
    go_wp2_with fail
    go_ret
    exact FIN.out _ (by repeat (first | with_reducible exact grown_refl _ | with_reducible refine grown_drew ?_ | with_reducible refine grown_al ?_ _))
  | true =>
    clear h h1 G hB hpr hP hQ g1 s1 bx pr1 nbP nbQ p0 p1 d3 ha k0 k1 k2 k3 k4 k5 k6 k7 k8
    go_enter Try.func9, Try.ntmps9
    go_wp2_with fail
    go_region_held3 (fun w' : World => w'.cell? ⟨pr, 1, none⟩ = some (.pointer (some ⟨d, 0, none⟩)) ∧ w'.cell? ⟨d, 3, none⟩ = some (.slice pa S.fl.length ca) ∧ w'.cell? ⟨w.heap.size, 3, none⟩ = some (.int .i64 x.i)) (exact K3.out _ (by repeat (first | with_reducible exact grown_refl _ | with_reducible refine grown_drew ?_ | with_reducible refine grown_al ?_ _))) (first | (go_at_call 12; refine (PL.out _).mono ?_; rintro e w5 ⟨⟨I, rfl⟩, hwx⟩; have hwx2 := hwx.symm; subst hwx2; clear hwx) | fail)
    go_wp2_with fail
    go_ret
    exact FIN.out _ (by repeat (first | with_reducible exact grown_refl _ | with_reducible refine grown_drew ?_ | with_reducible refine grown_al ?_ _))
end Go.Proofs.Ytbdlamlplfogjaa
