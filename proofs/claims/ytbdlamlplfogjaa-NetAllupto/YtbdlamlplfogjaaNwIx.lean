/-
  Walks: the document's net: a packet taken out of the air, walked.
-/
import Derived.Test.YtbdlamlplfogjaaGC
namespace Go.Proofs.Ytbdlamlplfogjaa
open Go.RowKit Go.Maps Go.Joins
variable {Q : Nat → Prop} {w w' : World} {d : Nat} {S : St} {T : Nat → Nat → List ByteArray} {R : Lr}

set_option maxHeartbeats 4000000 in
set_option maxRecDepth 100000 in
theorem rTake_any (h : RL Q w d S T R) (k : Int) (hl : S.fl.length ≤ 100000) : Calls Try.prog 57 #[.pointer (some ⟨d, 0, none⟩), .int .i64 k] w (RtQ Q w d S T k) := by
  obtain ⟨c0, c1, c2, c3, _⟩ := h.cs
  have hd := h.pb _ h.qd
  by_cases h1 : 0 ≤ k ∧ k < S.fl.length
  · obtain ⟨i, rfl⟩ : ∃ i : Nat, k = (i : Int) := ⟨k.toNat, by omega⟩
    have hi : i < S.fl.length := by omega
    obtain ⟨p, hp⟩ : ∃ p, S.fl[i]? = some p := ⟨_, List.getElem?_eq_getElem hi⟩
    obtain ⟨g, o, c, ys, hv, hnc, hR, hc, hg, hQg⟩ := h.ar.cells hi
    obtain ⟨bv, hy, hb⟩ := hR p hp
    subst hy
    have HB := hb
    obtain ⟨pb, cb, rfl, _⟩ := hb
    obtain ⟨lb, hlb⟩ : ∃ lb, lb = p.x.data.toList.length := ⟨_, rfl⟩
    rw [← hlb] at hc HB
    have q0 := hc 0 _ rfl
    have q1 := hc 1 _ rfl
    have q2 := hc 2 _ rfl
    have q3 := hc 3 _ rfl
    have q4 := hc 4 _ rfl
    have q5 := hc 5 _ rfl
    rw [Nat.add_zero] at q0
    obtain ⟨w2, hw2⟩ : ∃ w2, w2 = (w.alloc (.cells #[.int .i64 0, .int .i64 0, .bool false, .int .u64 0, .int .u64 0, .slice none 0 0] 97)).alloc (.cells #[.int .i64 (pkFr p : Int), .int .i64 (pkTo p : Int), .bool p.ack, .int .u64 (p.s : Int), .int .u64 (p.e : Int), .slice pb lb cb] 97) := ⟨_, rfl⟩
    have g2 : w.grownBy w2 none := by rw [hw2]; exact grown_al (grown_al (grown_refl _) _) _
    have s2 : w2.heap.size = w.heap.size + 2 := by rw [hw2]; simp
    have x1 : w2.heap[w.heap.size]? = some (.cells #[.int .i64 0, .int .i64 0, .bool false, .int .u64 0, .int .u64 0, .slice none 0 0] 97 (0, 0)) := by rw [hw2]; exact al2_fst w _ _
    have x2 : w2.heap[w.heap.size + 1]? = some (.cells #[.int .i64 (pkFr p : Int), .int .i64 (pkTo p : Int), .bool p.ack, .int .u64 (p.s : Int), .int .u64 (p.e : Int), .slice pb lb cb] 97 (0, 0)) := by rw [hw2]; exact al2_snd w _ _
    obtain ⟨p4, c4, W4, p5, c5, W5, r4, r5, gA, gB, kb, U⟩ := (h.kept g2).take_lay hi hl hv (W := w2.alloc (.cells #[] 97)) (grown_al (grown_refl _) _) (B := w2.heap.size) (heap_alloc_new _ _) (Nat.le_refl _)
    have sz3 : (w2.alloc (.cells #[] 97)).heap.size = w.heap.size + 3 := by simp [s2]
    obtain ⟨m1, _⟩ := kb w.heap.size (by omega) (by omega)
    obtain ⟨m2, _⟩ := kb (w.heap.size + 1) (by omega) (by omega)
    have m1' := m1.trans ((heap_alloc_old w2 _ (by omega)).trans x1)
    have m2' := m2.trans ((heap_alloc_old w2 _ (by omega)).trans x2)
    obtain ⟨a0, a1, a2, a3, a4, a5, af⟩ := cells6 ((heap_setCell_other W5 ⟨d, 3, none⟩ w.heap.size (.slice p5 (S.fl.length - 1) c5) (show w.heap.size ≠ d by omega)).trans m1')
    obtain ⟨b0, b1, b2, b3, b4, b5, _⟩ := cells6 ((heap_setCell_other W5 ⟨d, 3, none⟩ (w.heap.size + 1) (.slice p5 (S.fl.length - 1) c5) (show w.heap.size + 1 ≠ d by omega)).trans m2')
    have af0 := af 0
    have af1 := af 1
    have af2 := af 2
    have af3 := af 3
    have af4 := af 4
    have af5 := af 5
    have n4 : W4.cell? ⟨d, 3, none⟩ = some R.av := gA.cell (g2.cell c3 (by simp)) (by simp)
    have n5 : W5.cell? ⟨d, 3, none⟩ = some R.av := gB.cell (g2.cell c3 (by simp)) (by simp)
    have f5 := unfrozen_of_block (box_keep (h.kept g2).net gB (by simp)) 3
    have c3' : (w2.alloc (.cells #[] 97)).cell? ⟨d, 3, none⟩ = some R.av := (grown_al g2 _).cell c3 (by simp)
    have YY : Hid (∀ W7, Chg (fun x => x = w.heap.size) (W5.setCell ⟨d, 3, none⟩ (.slice p5 (S.fl.length - 1) c5)) W7 → RtQ Q w d S T (i : Int) (.returned (.tuple #[.agg #[.int .i64 (pkFr p : Int), .int .i64 (pkTo p : Int), .bool p.ack, .int .u64 (p.s : Int), .int .u64 (p.e : Int), .slice pb lb cb], .int .i64 0])) W7) := fun W7 C => by
      have C0 : Chg (fun x => x = d ∨ x = w.heap.size) w W7 := ((Chg.of_none (grown_none_trans g2 gB) _).set ⟨d, 3, none⟩ (.slice p5 (S.fl.length - 1) c5) (Or.inl rfl)).trans (C.mono (fun x _ e => Or.inr e))
      have HB7 : byV W7 (ext Q w W7) (.slice pb lb cb) p.x := HB.mv C0 (fun b hk hQ e => by
        rcases e with e | e
        · rw [e, h.kb.1] at hk; simp at hk
        · have := h.pb b hQ; omega) h.pb (fun _ => ext_le)
      refine Or.inr ⟨i, p, pb, cb, rfl, hp, by rw [← hlb]; rfl, by rw [← hlb]; exact HB7, U.box h.pb g2 C (Nat.le_refl _) (by omega)⟩
    obtain ⟨M, hM⟩ : ∃ M, M = S.fl.length := ⟨_, rfl⟩
    rw [hv] at c3 n4 n5 c3'
    rw [← hM] at c3 hi n4 n5 c3' r5 YY a0 a1 a2 a3 a4 a5 af0 af1 af2 af3 af4 af5 b0 b1 b2 b3 b4 b5 hnc
    rw [s2] at r4
    have i1 : (i : Int) < (M : Int) := by omega
    have i2 : ¬ (M : Int) ≤ (i : Int) := by omega
    have i3 : ¬ (i : Int) < 0 := by omega
    have i4 : (i : Int) ≤ (c : Int) := by omega
    have i5 : (0 : Int) ≤ (i : Int) + 1 := by omega
    have i6 : (i : Int) + 1 ≤ (M : Int) := by omega
    have i7 : (M : Int) ≤ (c : Int) := by omega
    have i8 : i + 1 ≤ M := by omega
    have i9 : IntKind.i64.wrap ((i : Int) + 1) = (i : Int) + 1 := by rw [IntKind.wrap_i64]; omega
    subst hw2
    clear h h1 hR hc hlb hM hv hp HB kb U m1 m2 m1' m2' x1 x2 g2 gA gB sz3 s2 af hl
    by_cases hcc : c = i + 1
    · rw [if_pos hcc] at r5
      go_enter Try.func57, Try.ntmps57
      go_wp2_with (first | (at_builtin; refine wp_app 44 rfl (.tmp 27) (.tmp 33) rfl rfl rfl r4 ?_) | (at_builtin; refine wp_app 44 rfl (.tmp 36) (.tmp 43) rfl rfl rfl r5 ?_) | fail)
      refine bodyPost_ret (v := .tuple #[.agg #[.int .i64 (pkFr p : Int), .int .i64 (pkTo p : Int), .bool p.ack, .int .u64 (p.s : Int), .int .u64 (p.e : Int), .slice pb lb cb], .int .i64 0]) (by unfold results; rw [Try.results57]; go_simp) rfl ?_
      exact YY.out _ (((((((Chg.refl (fun x => x = w.heap.size) (W5.setCell ⟨d, 3, none⟩ (.slice p5 (M - 1) c5))).set ⟨w.heap.size, 0, none⟩ (.int .i64 (pkFr p : Int)) rfl).set ⟨w.heap.size, 1, none⟩ (.int .i64 (pkTo p : Int)) rfl).set ⟨w.heap.size, 2, none⟩ (.bool p.ack) rfl).set ⟨w.heap.size, 3, none⟩ (.int .u64 (p.s : Int)) rfl).set ⟨w.heap.size, 4, none⟩ (.int .u64 (p.e : Int)) rfl).set ⟨w.heap.size, 5, none⟩ (.slice pb lb cb) rfl)
    · rw [if_neg hcc] at r5
      go_enter Try.func57, Try.ntmps57
      go_wp2_with (first | (at_builtin; refine wp_app 44 rfl (.tmp 27) (.tmp 33) rfl rfl rfl r4 ?_) | (at_builtin; refine wp_app 44 rfl (.tmp 36) (.tmp 43) rfl rfl rfl r5 ?_) | fail)
      refine bodyPost_ret (v := .tuple #[.agg #[.int .i64 (pkFr p : Int), .int .i64 (pkTo p : Int), .bool p.ack, .int .u64 (p.s : Int), .int .u64 (p.e : Int), .slice pb lb cb], .int .i64 0]) (by unfold results; rw [Try.results57]; go_simp) rfl ?_
      exact YY.out _ (((((((Chg.refl (fun x => x = w.heap.size) (W5.setCell ⟨d, 3, none⟩ (.slice p5 (M - 1) c5))).set ⟨w.heap.size, 0, none⟩ (.int .i64 (pkFr p : Int)) rfl).set ⟨w.heap.size, 1, none⟩ (.int .i64 (pkTo p : Int)) rfl).set ⟨w.heap.size, 2, none⟩ (.bool p.ack) rfl).set ⟨w.heap.size, 3, none⟩ (.int .u64 (p.s : Int)) rfl).set ⟨w.heap.size, 4, none⟩ (.int .u64 (p.e : Int)) rfl).set ⟨w.heap.size, 5, none⟩ (.slice pb lb cb) rfl)
  · have U : Hid (∀ o, RU Q w d S T (w.alloc o)) := fun o => h.up (grown_al (grown_refl _) _)
    obtain ⟨pa, ca, ha, _⟩ := h.ar.form
    rw [ha] at c3
    have HH1 := mkHid h1
    by_cases h2 : k < 0
    · clear h ha h1
      go_enter Try.func57, Try.ntmps57
      go_wp2_with fail
      refine bodyPost_ret (v := .tuple #[.agg #[.int .i64 0, .int .i64 0, .bool false, .int .u64 0, .int .u64 0, .slice none 0 0], .int .i64 61]) (by unfold results; rw [Try.results57]; go_simp) rfl ?_
      exact Or.inl ⟨HH1.out, rfl, U.out _⟩
    · have h3 : (S.fl.length : Int) ≤ k := by omega
      clear h ha h1
      go_enter Try.func57, Try.ntmps57
      go_wp2_with fail
      refine bodyPost_ret (v := .tuple #[.agg #[.int .i64 0, .int .i64 0, .bool false, .int .u64 0, .int .u64 0, .slice none 0 0], .int .i64 61]) (by unfold results; rw [Try.results57]; go_simp) rfl ?_
      exact Or.inl ⟨HH1.out, rfl, U.out _⟩
end Go.Proofs.Ytbdlamlplfogjaa
