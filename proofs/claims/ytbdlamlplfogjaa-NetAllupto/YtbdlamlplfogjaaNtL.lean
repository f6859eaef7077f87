/-
  Walks: a message that is received, and is there.
-/
import Derived.Test.YtbdlamlplfogjaaNtK
namespace Go.Proofs.Ytbdlamlplfogjaa
open Go.RowKit Go.Maps Go.Joins
variable {P : Nat → Prop} {w w' : World} {n c : Nat} {S : St} {L : Ly}

theorem cells2 {w : World} {b : Nat} {t : TypeId} {a0 a1 : Value} (h : w.heap[b]? = some (.cells #[a0, a1] t (0, 0))) : w.cell? ⟨b, 0, none⟩ = some a0 ∧ w.cell? ⟨b, 1, none⟩ = some a1 ∧ (∀ i, w.frozen? ⟨b, i, none⟩ = false) :=
  ⟨(cell_of_block h 0).trans rfl, (cell_of_block h 1).trans rfl, fun i => unfrozen_of_block h i⟩
theorem bys.chg {p : Option Addr} {l : List UInt8} {C : Nat → Prop} (h : bys w p l) (hc : Chg C w w') (hn : ∀ a, p = some a → ¬ C a.block) : bys w' p l := by
  rcases h with h | ⟨g, o, rfl, h⟩
  · exact Or.inl h
  · refine Or.inr ⟨g, o, rfl, fun i x hx => ?_⟩
    have h1 := h i x hx
    have hlt := World.block_lt_of_cell? w _ h1
    have := hc.block g hlt (hn _ rfl)
    unfold World.cell? at h1 ⊢
    simp only at h1 this ⊢
    rw [this]; exact h1
theorem Chg.al {C : Nat → Prop} {a b : World} (h : Chg C a b) (o : Obj) : Chg C a (b.alloc o) := h.trans (Chg.of_alloc b o C)
/-- the node's list without its first message, laid ahead -/
theorem NetL.recv_fin (h : NetL P w n c S L) {i : Nat} (hi : i < S.N) {rest : List (Nat × ByteArray)} {w1 w3 : World} (g1 : w.grownBy w1 none) (g3 : w1.grownBy w3 (L.vs i).ownBlock) {v3 : Value}
    (s3 : shr w3 82 2 v3 rest.length (msC rest)) (o3 : v3.ownBlock = (L.vs i).ownBlock) {W : World} (C : Chg (fun k => w.heap.size ≤ k) (w3.setCell ⟨L.nb, i * 2 + 1, none⟩ v3) W) :
    UpN P w n c { S with ms := upd S.ms i rest } W := by
  obtain ⟨cur, hb, r1, r2, r3, r4⟩ := (h.kept g1).nds
  have hnb : L.nb < w.heap.size := h.pb _ h.pnb
  have kne : some L.nb ≠ (L.vs i).ownBlock := fun e => by
    have := ((h.wts i hi).kd _ e.symm).1
    rw [h.knb] at this; simp at this
  have b3 : w3.heap[L.nb]? = some (.cells cur 69 (0, 0)) := (g3.block _ (lt_of_heap hb) kne).trans hb
  have b4 : (w3.setCell ⟨L.nb, i * 2 + 1, none⟩ v3).heap[L.nb]? = some (.cells (cur.setIfInBounds (i * 2 + 1) v3) 69 (0, 0)) := block_setCell b3 _
  have CC : Chg (fun k => k = L.nb ∨ (L.vs i).ownBlock = some k) w W := by
    have c1 : Chg (fun k => k = L.nb ∨ (L.vs i).ownBlock = some k) w w3 := (Chg.of_none g1 _).trans ((Chg.of_grown g3).mono (fun k _ hk => Or.inr hk))
    exact (c1.set ⟨L.nb, i * 2 + 1, none⟩ v3 (Or.inl rfl)).then_new C
  have hlt3 : ∀ g, v3.ownBlock = some g → g < w.heap.size := fun g hg => ((h.wts i hi).kd g (by rw [← o3]; exact hg)).2
  have hs5 : shr W 82 2 v3 rest.length (msC rest) := by
    refine ((s3.kept (Chg.of_cell w3 ⟨L.nb, i * 2 + 1, none⟩ v3) (fun g hg e => ?_))).kept C (fun g hg => by have := hlt3 g hg; omega)
    have e : g = L.nb := e
    have := (s3.kd g hg).1
    rw [e, kd_cells b3] at this; simp at this
  have fin := h.node CC hi (fun k hk => hk) (d := S.dn i) (ms := rest) (v := v3) (C.at_ b4 (by omega)) (by simp [r3]) (by
    rw [Array.getElem?_setIfInBounds, if_neg (by omega)]; exact (r4 i hi).1) (by
    rw [Array.getElem?_setIfInBounds, if_pos rfl, if_pos (by omega)]) (fun k hk hne => by
    rw [Array.getElem?_setIfInBounds, if_neg (by omega), Array.getElem?_setIfInBounds, if_neg (by omega)]; exact r4 k hk) hs5 (fun g hg => Or.inl (by rw [← o3]; exact hg))
  have e1 : upd S.dn i (S.dn i) = S.dn := by
    funext k
    by_cases e : k = i
    · rw [e, upd_same]
    · rw [upd_other _ _ e]
  rw [e1] at fin
  exact ⟨_, fin⟩
set_option maxHeartbeats 1000000 in
set_option maxRecDepth 100000 in
theorem Recv_some (h : NetL P w n c S L) (i : Nat) (hs : isS S (i : Int) = true) (m : Nat × ByteArray) (rest : List (Nat × ByteArray)) (hm : S.ms i = m :: rest) : Calls Try.prog 16 #[.pointer (some ⟨n, 0, none⟩), .int .i64 i] w (RcQ P w n c S i) := by
  have g1 := mkHid (grown_al (grown_refl w) (.cells #[.int .i64 0, .slice none 0 0] 51))
  have IS := mkHid (Is_any (h.kept g1.out) i)
  rw [hs] at IS
  have hi : i < S.N := by obtain ⟨j, h1, h2, _⟩ := isS_in hs; omega
  have hi2 : (i : Int) < (S.N : Int) := by omega
  obtain ⟨c0, _⟩ := h.cs
  obtain ⟨_, d1, _⟩ := h.cn hi
  have hw := h.wts i hi
  rw [hm] at hw
  rcases hw.2 with ⟨_, h0⟩ | ⟨g, off, cap, cur, hv, hg, hn1, hn2, _, hcs⟩
  · simp at h0
  have m0 : w.cell? ⟨g, off, none⟩ = some (.int .i64 m.1) := (cell_of_block hg (off + 0)).trans (hcs 0 _ rfl)
  have m1 : w.cell? ⟨g, off + 1, none⟩ = some (.string m.2) := (cell_of_block hg (off + 1)).trans (hcs 1 _ rfl)
  have hgl := lt_of_heap hg
  rw [hv] at d1
  have hn := lt_of_heap h.net
  have hnb : L.nb < w.heap.size := h.pb _ h.pnb
  have g2 := mkHid (grown_al g1.out (.cells #[.int .i64 m.1, .string m.2] 82))
  have B1 := mkHid (al2_fst w (.cells #[.int .i64 0, .slice none 0 0] 51) (.cells #[.int .i64 m.1, .string m.2] 82))
  have B2 := mkHid (al2_snd w (.cells #[.int .i64 0, .slice none 0 0] 51) (.cells #[.int .i64 m.1, .string m.2] 82))
  rw [hv] at hw
  rw [List.length_cons] at hw hv d1 hn1
  have BH := mkHid (fun (w5 : World) (g5 : w.grownBy w5 none) => behindM (w := w5) (.slice (some ⟨g, off, none⟩) (rest.length + 1) cap) (m :: rest) 1 rest.length (hw.kept (Chg.of_none g5 (fun _ => False)) (fun _ _ e => e)) (by omega))
  have hne : g ≠ L.nb := fun e => by
    have := h.knb
    rw [← e, kd_cells hg] at this; simp at this
  have hgn : g ≠ n := fun e => by
    have := h.kn
    rw [← e, kd_cells hg] at this; simp at this
  have HV := mkHid hv
  have H := mkHid h
  have ed : (msC (m :: rest)).drop (1 * 2) = msC rest := rfl
  rw [ed] at BH
  obtain ⟨r, hr⟩ : ∃ r, r = rest.length := ⟨_, rfl⟩
  have HR := mkHid hr
  rw [← hr] at BH d1 hn1
  have hmx : r + 1 ≤ maxLen := by omega
  unfold maxLen at hmx
  clear h hw hcs hg ed hr hv hn2
  go_enter Try.func16, Try.ntmps16
  go_wp2_with fail
  refine IS.out.mono ?_
  rintro e w1 ⟨rfl, hwx⟩; have hwx2 := hwx.symm; subst hwx2; clear hwx
  go_wp2_with fail
  refine (BH.out _ g2.out).mono ?_
  rintro e w3 ⟨v3, rfl, s3, g3, o3⟩
  obtain ⟨p3, c3, rfl, _⟩ := s3.form
  have K1 := box_keep B1.out g3 (by simp [Value.ownBlock]; omega)
  have K2 := box_keep B2.out g3 (by simp [Value.ownBlock]; omega)
  obtain ⟨cur, hb, _, _, _, r4⟩ := (H.out.kept g2.out).nds
  have K3 := box_keep hb g3 (by simp [Value.ownBlock]; omega)
  have n1 : w3.cell? ⟨L.nb, i * 2 + 1, none⟩ = some (L.vs i) := (cell_of_block K3 _).trans (r4 i hi).2
  have nf : w3.frozen? ⟨L.nb, i * 2 + 1, none⟩ = false := unfrozen_of_block K3 _
  have K1' := box_keep K1 (grown_setCell w3 ⟨L.nb, i * 2 + 1, none⟩ (.slice p3 r c3)) (by simp; omega)
  have K2' := box_keep K2 (grown_setCell w3 ⟨L.nb, i * 2 + 1, none⟩ (.slice p3 r c3)) (by simp; omega)
  have szs : w.heap.size + 2 ≤ (w3.setCell ⟨L.nb, i * 2 + 1, none⟩ (.slice p3 r c3)).heap.size := by
    have := g3.size; simpa using this
  obtain ⟨cc, w5, hcv, g5, sz5, by5⟩ := conv_str (w3.setCell ⟨L.nb, i * 2 + 1, none⟩ (.slice p3 r c3)) m.2
  have K1'' := box_keep K1' g5 (by simp)
  obtain ⟨e0, e1, ef⟩ := cells2 K1''
  obtain ⟨b0, b1, _⟩ := cells2 K2'
  have ef0 := ef 0
  have ef1 := ef 1
  have FN : Hid (∀ W, Chg (fun k => w.heap.size ≤ k) (w3.setCell ⟨L.nb, i * 2 + 1, none⟩ (.slice p3 r c3)) W → UpN P w n c { S with ms := upd S.ms i rest } W) := fun W C => H.out.recv_fin hi g2.out (w3 := w3) (by rw [HV.out]; exact g3) (by rw [← show r = rest.length from HR.out]; exact s3) (by rw [HV.out]; exact o3) C
  have G5 := mkHid g5
  have BY := mkHid by5
  have SZ := mkHid szs
  generalize hW4 : w3.setCell ⟨L.nb, i * 2 + 1, none⟩ (.slice p3 r c3) = w4 at *
  clear s3 g3 o3 K1 K2 K3 K1' K2' K1'' ef hb r4 g5 by5 szs
  go_wp2_with fail
  refine bodyPost_ret (v := .tuple #[.agg #[.int .i64 m.1, .slice (some ⟨w4.heap.size, 0, none⟩) m.2.data.toList.length cc], .bool true, .int .i64 0]) (by unfold results; rw [Try.results16]; go_simp) rfl ?_
  have hs4 := SZ.out
  have C5 := (((Chg.of_none G5.out (fun k => w.heap.size ≤ k)).set ⟨w.heap.size, 0, none⟩ (.int .i64 m.1) (Nat.le_refl _)).set ⟨w.heap.size, 1, none⟩ (.slice (some ⟨w4.heap.size, 0, none⟩) m.2.data.toList.length cc) (Nat.le_refl _))
  refine Or.inr (Or.inr ⟨i, m, rest, w4.heap.size, cc, rfl, hs, hm, rfl, by omega, ?_, FN.out _ C5⟩)
  exact BY.out.chg (((Chg.refl (fun k => k = w.heap.size) w5).set ⟨w.heap.size, 0, none⟩ (.int .i64 m.1) rfl).set ⟨w.heap.size, 1, none⟩ (.slice (some ⟨w4.heap.size, 0, none⟩) m.2.data.toList.length cc) rfl) (fun a e => by cases e; show ¬ w4.heap.size = w.heap.size; omega)
theorem Recv_any (h : NetL P w n c S L) (k : Int) : Calls Try.prog 16 #[.pointer (some ⟨n, 0, none⟩), .int .i64 k] w (RcQ P w n c S k) := by
  cases hs : isS S k with
  | false => exact Recv_no h k hs
  | true =>
    obtain ⟨i, rfl, hi, _⟩ := isS_in hs
    cases hm : S.ms i with
    | nil => exact Recv_none h i hs hm
    | cons m rest => exact Recv_some h i hs m rest hm
end Go.Proofs.Ytbdlamlplfogjaa
