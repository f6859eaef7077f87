/-
  Walks: a packet that is taken off the way, lost, doubled.
-/
import Derived.Test.YtbdlamlplfogjaaNtH
namespace Go.Proofs.Ytbdlamlplfogjaa
open Go.RowKit Go.Maps Go.Joins
variable {P : Nat → Prop} {w w' : World} {n c : Nat} {S : St} {L : Ly}

theorem pkC_get : ∀ (l : List Pk) (i : Nat) (p : Pk), l[i]? = some p → ∀ j u, (pkL p)[j]? = some u → (pkC l)[i * 6 + j]? = some u
  | [], i, p, h => by simp at h
  | q :: l, 0, p, h => by
    simp at h; subst h
    intro j u hj
    show (pkL q ++ pkC l)[0 * 6 + j]? = some u
    rw [Nat.zero_mul, Nat.zero_add, List.getElem?_append_left (List.getElem?_eq_some_iff.1 hj).1]; exact hj
  | q :: l, i + 1, p, h => by
    simp at h
    intro j u hj
    have := pkC_get l i p h j u hj
    show (pkL q ++ pkC l)[(i + 1) * 6 + j]? = some u
    have h6 : (pkL q).length = 6 := rfl
    rw [List.getElem?_append_right (by omega), h6, show (i + 1) * 6 + j - 6 = i * 6 + j by omega]; exact this
/-- the cells of a packet in a row -/
theorem shr.pk {v : Value} {l : List Pk} (h : shr w 79 6 v l.length (pkC l)) {i : Nat} {p : Pk} (hp : l[i]? = some p) : ∃ g off cap, v = .slice (some ⟨g, off, none⟩) l.length cap ∧ g < w.heap.size ∧ i < l.length ∧ w.cell? ⟨g, off + i * 6, none⟩ = some (.int .i64 p.f) ∧ w.cell? ⟨g, off + i * 6 + 1, none⟩ = some (.int .i64 p.t) ∧ w.cell? ⟨g, off + i * 6 + 2, none⟩ = some (.bool p.ack) ∧ w.cell? ⟨g, off + i * 6 + 3, none⟩ = some (.int .u64 p.s) ∧ w.cell? ⟨g, off + i * 6 + 4, none⟩ = some (.int .u64 p.e) ∧ w.cell? ⟨g, off + i * 6 + 5, none⟩ = some (.string p.x) := by
  have hi := (List.getElem?_eq_some_iff.1 hp).1
  rcases h.2 with ⟨rfl, h0⟩ | ⟨g, off, cap, cur, rfl, hb, _, _, _, hc⟩
  · omega
  · have k : ∀ j u, (pkL p)[j]? = some u → w.cell? ⟨g, off + i * 6 + j, none⟩ = some u := fun j u hj => by
      have := (cell_of_block hb (off + (i * 6 + j))).trans (hc _ u (pkC_get l i p hp j u hj))
      rw [← Nat.add_assoc] at this; exact this
    exact ⟨g, off, cap, rfl, lt_of_heap hb, hi, k 0 _ rfl, k 1 _ rfl, k 2 _ rfl, k 3 _ rfl, k 4 _ rfl, k 5 _ rfl⟩
/-- what 'take' answers and leaves -/
def TkQ (P : Nat → Prop) (w : World) (n c : Nat) (S : St) (L : Ly) (k : Int) (r : Ending) (w' : World) : Prop :=
  (∃ (i : Nat) (p : Pk), k = (i : Int) ∧ S.fl[i]? = some p ∧ r = .returned (.tuple #[pkV p, .int .i64 0]) ∧ UpF P w n c { S with fl := S.fl.eraseIdx i } L w') ∨
  (¬ (0 ≤ k ∧ k < S.fl.length) ∧ (∃ v, r = .returned (.tuple #[v, .int .i64 61]) ∧ ∃ p, v = pkV p) ∧ w.grownBy w' none)
def pk0 : Pk := ⟨0, 0, false, 0, 0, ⟨#[]⟩⟩
theorem pk0V : pkV pk0 = .agg #[.int .i64 0, .int .i64 0, .bool false, .int .u64 0, .int .u64 0, .string ⟨#[]⟩] := rfl
theorem cells6 {w : World} {b : Nat} {t : TypeId} {a0 a1 a2 a3 a4 a5 : Value} (h : w.heap[b]? = some (.cells #[a0, a1, a2, a3, a4, a5] t (0, 0))) : w.cell? ⟨b, 0, none⟩ = some a0 ∧ w.cell? ⟨b, 1, none⟩ = some a1 ∧ w.cell? ⟨b, 2, none⟩ = some a2 ∧ w.cell? ⟨b, 3, none⟩ = some a3 ∧ w.cell? ⟨b, 4, none⟩ = some a4 ∧ w.cell? ⟨b, 5, none⟩ = some a5 ∧ (∀ i, w.frozen? ⟨b, i, none⟩ = false) :=
  ⟨(cell_of_block h 0).trans rfl, (cell_of_block h 1).trans rfl, (cell_of_block h 2).trans rfl, (cell_of_block h 3).trans rfl, (cell_of_block h 4).trans rfl, (cell_of_block h 5).trans rfl, fun i => unfrozen_of_block h i⟩
theorem NetL.take_fin (h : NetL P w n c S L) {fl : List Pk} {w1 w3 : World} (g1 : w.grownBy w1 none) (g3 : w1.grownBy w3 L.fv.ownBlock) {v3 : Value}
    (s3 : shr w3 79 6 v3 fl.length (pkC fl)) (o3 : v3.ownBlock = L.fv.ownBlock) {W : World} (C : Chg (fun k => w.heap.size ≤ k) (w3.setCell ⟨n, 2, none⟩ v3) W) :
    UpF P w n c { S with fl := fl } L W := by
  have hn : n < w.heap.size := h.pb _ h.pn
  have kne : some n ≠ L.fv.ownBlock := fun e => by
    have := (h.fly.kd _ e.symm).1
    rw [h.kn] at this; simp at this
  have b3 := box_keep (h.kept g1).net g3 kne
  have b4 : (w3.setCell ⟨n, 2, none⟩ v3).heap[n]? = some (.cells #[.slice (some ⟨L.nb, 0, none⟩) S.N L.ncap, .map (some L.m), v3] 73 (0, 0)) := (block_setCell b3 _).trans rfl
  have CC : Chg (fun k => k = n ∨ L.fv.ownBlock = some k) w W := by
    have c1 : Chg (fun k => k = n ∨ L.fv.ownBlock = some k) w w3 := (Chg.of_none g1 _).trans ((Chg.of_grown g3).mono (fun k _ hk => Or.inr hk))
    exact (c1.set ⟨n, 2, none⟩ v3 (Or.inl rfl)).then_new C
  have hlt3 : ∀ g, v3.ownBlock = some g → g < w.heap.size := fun g hg => (h.fly.kd g (by rw [← o3]; exact hg)).2
  have hs5 : shr W 79 6 v3 fl.length (pkC fl) := by
    refine ((s3.kept (Chg.of_cell w3 ⟨n, 2, none⟩ v3) (fun g hg e => ?_))).kept C (fun g hg => by have := hlt3 g hg; omega)
    have e : g = n := e
    have := (s3.kd g hg).1
    rw [e, kd_cells b3] at this; simp at this
  exact ⟨v3, h.flights CC (fun k hk => hk) (C.at_ b4 (by omega)) hs5 (fun g hg => Or.inl (by rw [← o3]; exact hg))⟩
set_option maxHeartbeats 1000000 in
set_option maxRecDepth 100000 in
theorem take_any (h : NetL P w n c S L) (k : Int) : Calls Try.prog 53 #[.pointer (some ⟨n, 0, none⟩), .int .i64 k] w (TkQ P w n c S L k) := by
  have hn := lt_of_heap h.net
  by_cases h1 : 0 ≤ k ∧ k < S.fl.length
  · obtain ⟨i, rfl⟩ : ∃ i : Nat, k = (i : Int) := ⟨k.toNat, by omega⟩
    have hi : i < S.fl.length := by omega
    obtain ⟨p, hp⟩ : ∃ p, S.fl[i]? = some p := ⟨_, List.getElem?_eq_getElem hi⟩
    have FL := mkHid (fun (w5 : World) (g5 : w.grownBy w5 none) => by have := flies_any (h.kept g5) (i : Int); rw [decide_eq_true h1] at this; exact this)
    have DL := mkHid (fun (w5 : World) (g5 : w.grownBy w5 none) => Delete_any L.fv S.fl i (h.kept g5).fly hi)
    have HN := mkHid h
    obtain ⟨g, off, cap, hfv, hg, _, q0, q1, q2, q3, q4, q5⟩ := h.fly.pk hp
    obtain ⟨c0, c1, c2, cf⟩ := h.cs
    rw [hfv] at c2 DL
    obtain ⟨_, _, e, _, e2, _⟩ := h.fly.form
    rw [hfv] at e
    have hmax : S.fl.length ≤ maxLen := by cases e; omega
    have hmax2 : (i : Int) + 1 ≤ 9223372036854775807 := by unfold maxLen at hmax; omega
    have hlt : (i : Int) < (S.fl.length : Int) := by omega
    obtain ⟨N, hN⟩ : ∃ N, N = S.fl.length := ⟨_, rfl⟩
    have HNN := mkHid hN
    have HV := mkHid hfv
    have g1 := mkHid (grown_al (grown_refl w) (.cells #[.int .i64 0, .int .i64 0, .bool false, .int .u64 0, .int .u64 0, .string ⟨#[]⟩] 79))
    have g2 := mkHid (grown_al g1.out (.cells #[.int .i64 p.f, .int .i64 p.t, .bool p.ack, .int .u64 p.s, .int .u64 p.e, .string p.x] 79))
    have B1 := mkHid (al2_fst w (.cells #[.int .i64 0, .int .i64 0, .bool false, .int .u64 0, .int .u64 0, .string ⟨#[]⟩] 79) (.cells #[.int .i64 p.f, .int .i64 p.t, .bool p.ack, .int .u64 p.s, .int .u64 p.e, .string p.x] 79))
    have B2 := mkHid (al2_snd w (.cells #[.int .i64 0, .int .i64 0, .bool false, .int .u64 0, .int .u64 0, .string ⟨#[]⟩] 79) (.cells #[.int .i64 p.f, .int .i64 p.t, .bool p.ack, .int .u64 p.s, .int .u64 p.e, .string p.x] 79))
    clear cf h h1 hmax e e2 hfv
    go_enter Try.func53, Try.ntmps53
    go_wp2_with fail
    refine (FL.out _ g1.out).mono ?_
    rintro e w1 ⟨rfl, hwx⟩; have hwx2 := hwx.symm; subst hwx2; clear hwx
    go_wp2_with fail
    refine (DL.out _ g2.out).mono ?_
    rintro e w3 ⟨v3, rfl, s3, g3, o3⟩
    obtain ⟨p3, c3, rfl, _⟩ := s3.form
    have K1 := box_keep B1.out g3 (by simp [Value.ownBlock]; omega)
    have K2 := box_keep B2.out g3 (by simp [Value.ownBlock]; omega)
    have hgn : g ≠ n := fun e => by
      have h1 := HN.out.kn
      have h2 := (HN.out.fly.kd g (by rw [HV.out]; rfl)).1
      rw [e, h1] at h2; simp at h2
    have K3 := box_keep (HN.out.kept g2.out).net g3 (by simp [Value.ownBlock]; omega)
    have n2 : w3.cell? ⟨n, 2, none⟩ = some L.fv := (cell_of_block K3 2).trans rfl
    have nf : w3.frozen? ⟨n, 2, none⟩ = false := unfrozen_of_block K3 2
    obtain ⟨a0, a1, a2, a3, a4, a5, af⟩ := cells6 K1
    obtain ⟨b0, b1, b2, b3, b4, b5, _⟩ := cells6 K2
    have af0 := af 0
    have af1 := af 1
    have af2 := af 2
    have af3 := af 3
    have af4 := af 4
    have af5 := af 5
    have FN : Hid (∀ W, Chg (fun k => w.heap.size ≤ k) (w3.setCell ⟨n, 2, none⟩ (.slice p3 (S.fl.length - 1) c3)) W → UpF P w n c { S with fl := S.fl.eraseIdx i } L W) := fun W C => HN.out.take_fin g2.out (w3 := w3) (by rw [HV.out]; exact g3) (by rw [List.length_eraseIdx_of_lt hi]; exact s3) (by rw [HV.out]; exact o3) C
    clear s3 g3 o3 K1 K2 K3 af
    go_wp2_with fail
    refine bodyPost_ret (v := .tuple #[.agg #[.int .i64 p.f, .int .i64 p.t, .bool p.ack, .int .u64 p.s, .int .u64 p.e, .string p.x], .int .i64 0]) (by unfold results; rw [Try.results53]; go_simp) rfl ?_
    refine Or.inl ⟨i, p, rfl, hp, rfl, FN.out _ ?_⟩
    exact ((((((Chg.refl (fun k => w.heap.size ≤ k) _).set ⟨w.heap.size, 0, none⟩ (.int .i64 p.f) (Nat.le_refl _)).set ⟨w.heap.size, 1, none⟩ (.int .i64 p.t) (Nat.le_refl _)).set ⟨w.heap.size, 2, none⟩ (.bool p.ack) (Nat.le_refl _)).set ⟨w.heap.size, 3, none⟩ (.int .u64 p.s) (Nat.le_refl _)).set ⟨w.heap.size, 4, none⟩ (.int .u64 p.e) (Nat.le_refl _)).set ⟨w.heap.size, 5, none⟩ (.string p.x) (Nat.le_refl _)
  · have FL := mkHid (fun (w5 : World) (g5 : w.grownBy w5 none) => by have := flies_any (h.kept g5) k; rw [decide_eq_false h1] at this; exact this)
    have g1 := mkHid (grown_al (grown_refl w) (.cells #[.int .i64 0, .int .i64 0, .bool false, .int .u64 0, .int .u64 0, .string ⟨#[]⟩] 79))
    clear h
    go_enter Try.func53, Try.ntmps53
    go_wp2_with fail
    refine (FL.out _ g1.out).mono ?_
    rintro e w1 ⟨rfl, hwx⟩; have hwx2 := hwx.symm; subst hwx2; clear hwx
    go_wp2_with fail
    refine bodyPost_ret (v := .tuple #[.agg #[.int .i64 0, .int .i64 0, .bool false, .int .u64 0, .int .u64 0, .string ⟨#[]⟩], .int .i64 61]) (by unfold results; rw [Try.results53]; go_simp) rfl ?_
    exact Or.inr ⟨h1, ⟨_, rfl, pk0, rfl⟩, g1.out⟩
end Go.Proofs.Ytbdlamlplfogjaa
