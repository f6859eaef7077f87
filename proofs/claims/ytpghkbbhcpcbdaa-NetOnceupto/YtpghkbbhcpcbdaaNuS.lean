/-
  Walks: a message that is received, its bytes' kind besides; the words for 'lives'.
-/
import Derived.Test.YtpghkbbhcpcbdaaNuR
namespace Go.Proofs.Ytpghkbbhcpcbdaa
open Go.RowKit Go.Maps Go.Joins
variable {P : Nat → Prop} {w w' : World} {n c : Nat} {S : St} {L : Ly}

theorem kd_same {a b : World} {k : Nat} (h : a.heap[k]? = b.heap[k]?) : kd a k = kd b k := by unfold kd; rw [h]
theorem conv_str2 (w : World) (s : ByteArray) : ∃ cap w', (convert 9 27 (.string s)).run Try.prog w = .ok (.slice (some ⟨w.heap.size, 0, none⟩) s.data.toList.length cap) w' ∧ w.grownBy w' none ∧ w'.heap.size = w.heap.size + 1 ∧ bys w' (some ⟨w.heap.size, 0, none⟩) s.data.toList ∧ kd w' w.heap.size = 5 + 2 := by
  refine ⟨_, _, Lib.run_convert_string_bytes w 9 27 5 s strT u8Slice u8T, ⟨rfl, rfl, rfl, by rw [Lib.bytesWorld_size]; omega, fun k hk _ => Lib.bytesWorld_at_old w _ s k hk⟩, Lib.bytesWorld_size w _ s, Or.inr ⟨_, _, rfl, fun i x hx => ?_⟩, kd_cells (Lib.bytesWorld_at_new w _ s)⟩
  have hi := (List.getElem?_eq_some_iff.1 hx).1
  rw [Nat.zero_add, Lib.bytesWorld_cell w _ s i (by simpa using hi)]
  rw [List.getD_eq_getElem?_getD, hx]; rfl
/-- what 'Recv' answers where a message waits -/
def RsQ (P : Nat → Prop) (w : World) (n c : Nat) (S : St) (i : Nat) (m : Nat × ByteArray) (rest : List (Nat × ByteArray)) (r : Ending) (w' : World) : Prop :=
  ∃ (g cap : Nat), r = .returned (.tuple #[msV m.1 (some ⟨g, 0, none⟩) m.2.data.toList.length cap, .bool true, .int .i64 0]) ∧ w.heap.size ≤ g ∧ kd w' g = 5 + 2 ∧ bys w' (some ⟨g, 0, none⟩) m.2.data.toList ∧ UpN P w n c { S with ms := upd S.ms i rest } w'
set_option maxHeartbeats 1000000 in
set_option maxRecDepth 100000 in
theorem Recv_kd (h : NetL P w n c S L) (i : Nat) (hs : isS S (i : Int) = true) (m : Nat × ByteArray) (rest : List (Nat × ByteArray)) (hm : S.ms i = m :: rest) : Calls Try.prog 16 #[.pointer (some ⟨n, 0, none⟩), .int .i64 i] w (RsQ P w n c S i m rest) := by
  have g1 := mkHid (grown_al (grown_refl w) (.cells #[.int .i64 0, .slice none 0 0] 51))
  have IS := mkHid (Is_any (h.kept g1.out) i)
  rw [hs] at IS
  have hi : i < S.N := by obtain ⟨j, h1, h2, _⟩ := isS_in hs; omega
  have hi2 : (i : Int) < (S.N : Int) := by omega
  obtain ⟨c0, _⟩ := h.cs
  obtain ⟨_, d1, _⟩ := h.cn hi
  have hw := h.wts i hi
  rw [hm] at hw
  rcases hw.2 with ⟨_, h0⟩ | ⟨g, off, cap, cur, hv, hg, hn1, hn2, _, hcs⟩
  · simp at h0
  have m0 : w.cell? ⟨g, off, none⟩ = some (.int .i64 m.1) := (cell_of_block hg (off + 0)).trans (hcs 0 _ rfl)
  have m1 : w.cell? ⟨g, off + 1, none⟩ = some (.string m.2) := (cell_of_block hg (off + 1)).trans (hcs 1 _ rfl)
  have hgl := lt_of_heap hg
  rw [hv] at d1
  have hn := lt_of_heap h.net
  have hnb : L.nb < w.heap.size := h.pb _ h.pnb
  have g2 := mkHid (grown_al g1.out (.cells #[.int .i64 m.1, .string m.2] 82))
  have B1 := mkHid (al2_fst w (.cells #[.int .i64 0, .slice none 0 0] 51) (.cells #[.int .i64 m.1, .string m.2] 82))
  have B2 := mkHid (al2_snd w (.cells #[.int .i64 0, .slice none 0 0] 51) (.cells #[.int .i64 m.1, .string m.2] 82))
  rw [hv] at hw
  rw [List.length_cons] at hw hv d1 hn1
  have BH := mkHid (fun (w5 : World) (g5 : w.grownBy w5 none) => behindM (w := w5) (.slice (some ⟨g, off, none⟩) (rest.length + 1) cap) (m :: rest) 1 rest.length (hw.kept (Chg.of_none g5 (fun _ => False)) (fun _ _ e => e)) (by omega))
  have hne : g ≠ L.nb := fun e => by
    have := h.knb
    rw [← e, kd_cells hg] at this; simp at this
  have hgn : g ≠ n := fun e => by
    have := h.kn
    rw [← e, kd_cells hg] at this; simp at this
  have HV := mkHid hv
  have H := mkHid h
  have ed : (msC (m :: rest)).drop (1 * 2) = msC rest := rfl
  rw [ed] at BH
  obtain ⟨r, hr⟩ : ∃ r, r = rest.length := ⟨_, rfl⟩
  have HR := mkHid hr
  rw [← hr] at BH d1 hn1
  have hmx : r + 1 ≤ maxLen := by omega
  unfold maxLen at hmx
  clear h hw hcs hg ed hr hv hn2
  go_enter Try.func16, Try.ntmps16
  go_wp2_with fail
  refine IS.out.mono ?_
  rintro e w1 ⟨rfl, hwx⟩; have hwx2 := hwx.symm; subst hwx2; clear hwx
  go_wp2_with fail
  refine (BH.out _ g2.out).mono ?_
  rintro e w3 ⟨v3, rfl, s3, g3, o3⟩
  obtain ⟨p3, c3, rfl, _⟩ := s3.form
  have K1 := box_keep B1.out g3 (by simp [Value.ownBlock]; omega)
  have K2 := box_keep B2.out g3 (by simp [Value.ownBlock]; omega)
  obtain ⟨cur, hb, _, _, _, r4⟩ := (H.out.kept g2.out).nds
  have K3 := box_keep hb g3 (by simp [Value.ownBlock]; omega)
  have n1 : w3.cell? ⟨L.nb, i * 2 + 1, none⟩ = some (L.vs i) := (cell_of_block K3 _).trans (r4 i hi).2
  have nf : w3.frozen? ⟨L.nb, i * 2 + 1, none⟩ = false := unfrozen_of_block K3 _
  have K1' := box_keep K1 (grown_setCell w3 ⟨L.nb, i * 2 + 1, none⟩ (.slice p3 r c3)) (by simp; omega)
  have K2' := box_keep K2 (grown_setCell w3 ⟨L.nb, i * 2 + 1, none⟩ (.slice p3 r c3)) (by simp; omega)
  have szs : w.heap.size + 2 ≤ (w3.setCell ⟨L.nb, i * 2 + 1, none⟩ (.slice p3 r c3)).heap.size := by
    have := g3.size; simpa using this
  obtain ⟨cc, w5, hcv, g5, sz5, by5, kd5⟩ := conv_str2 (w3.setCell ⟨L.nb, i * 2 + 1, none⟩ (.slice p3 r c3)) m.2
  have K1'' := box_keep K1' g5 (by simp)
  obtain ⟨e0, e1, ef⟩ := cells2 K1''
  obtain ⟨b0, b1, _⟩ := cells2 K2'
  have ef0 := ef 0
  have ef1 := ef 1
  have FN : Hid (∀ W, Chg (fun k => w.heap.size ≤ k) (w3.setCell ⟨L.nb, i * 2 + 1, none⟩ (.slice p3 r c3)) W → UpN P w n c { S with ms := upd S.ms i rest } W) := fun W C => H.out.recv_fin hi g2.out (w3 := w3) (by rw [HV.out]; exact g3) (by rw [← show r = rest.length from HR.out]; exact s3) (by rw [HV.out]; exact o3) C
  have G5 := mkHid g5
  have BY := mkHid by5
  have KD := mkHid kd5
  have SZ := mkHid szs
  generalize hW4 : w3.setCell ⟨L.nb, i * 2 + 1, none⟩ (.slice p3 r c3) = w4 at *
  clear s3 g3 o3 K1 K2 K3 K1' K2' K1'' ef hb r4 g5 by5 szs kd5
  go_wp2_with fail
  refine bodyPost_ret (v := .tuple #[.agg #[.int .i64 m.1, .slice (some ⟨w4.heap.size, 0, none⟩) m.2.data.toList.length cc], .bool true, .int .i64 0]) (by unfold results; rw [Try.results16]; go_simp) rfl ?_
  have hs4 := SZ.out
  have C5 := (((Chg.of_none G5.out (fun k => w.heap.size ≤ k)).set ⟨w.heap.size, 0, none⟩ (.int .i64 m.1) (Nat.le_refl _)).set ⟨w.heap.size, 1, none⟩ (.slice (some ⟨w4.heap.size, 0, none⟩) m.2.data.toList.length cc) (Nat.le_refl _))
  refine ⟨w4.heap.size, cc, rfl, by omega, ?_, ?_, FN.out _ C5⟩
  · exact (kd_same ((((Chg.refl (fun k => k = w.heap.size) w5).set ⟨w.heap.size, 0, none⟩ (.int .i64 m.1) rfl).set ⟨w.heap.size, 1, none⟩ (.slice (some ⟨w4.heap.size, 0, none⟩) m.2.data.toList.length cc) rfl).block _ (by rw [sz5]; omega) (show ¬ w4.heap.size = w.heap.size by omega))).trans KD.out
  · exact BY.out.chg (((Chg.refl (fun k => k = w.heap.size) w5).set ⟨w.heap.size, 0, none⟩ (.int .i64 m.1) rfl).set ⟨w.heap.size, 1, none⟩ (.slice (some ⟨w4.heap.size, 0, none⟩) m.2.data.toList.length cc) rfl) (fun a e => by cases e; show ¬ w4.heap.size = w.heap.size; omega)

/-- a net of its own, made behind w0 -/
def LvN (w0 : World) (n c : Nat) (S : St) (w : World) : Prop := w0.grownBy w none ∧ ∃ L, NetL (blk n S.N L) w n c S L ∧ ∀ b, blk n S.N L b → w0.heap.size ≤ b
/-- blocks that no net holds are as they were -/
def Kp (w w' : World) : Prop := w.heap.size ≤ w'.heap.size ∧ ∀ b, (kd w b = 5 + 2 ∨ kd w b = 51 + 2) → w'.heap[b]? = w.heap[b]?
theorem Kp.of_grown (h : w.grownBy w' none) : Kp w w' := by
  refine ⟨h.size, fun b hb => h.block b ?_ (by simp)⟩
  rcases Nat.lt_or_ge b w.heap.size with hl | hl
  · exact hl
  · exfalso
    unfold kd at hb
    rw [Array.getElem?_eq_none hl] at hb
    revert hb
    decide
theorem Kp.trans {a b d : World} (h : Kp a b) (k : Kp b d) : Kp a d :=
  ⟨Nat.le_trans h.1 k.1, fun x hx => (k.2 x (by rw [kd_same (h.2 x hx)]; exact hx)).trans (h.2 x hx)⟩
theorem LvN.up {w0 : World} {c2 : Nat} {S2 : St} {L : Ly} (g : w0.grownBy w none) (h : NetL (blk n S.N L) w n c S L) (hb : ∀ b, blk n S.N L b → w0.heap.size ≤ b) (U : UpN (blk n S.N L) w n c2 S2 w') : LvN w0 n c2 S2 w' ∧ Kp w w' := by
  obtain ⟨L2, h2, C⟩ := U
  refine ⟨⟨⟨C.os.trans g.os, C.tape.trans g.tape, C.output.trans g.output, Nat.le_trans g.size C.size, fun x hx hn => (C.block x (Nat.lt_of_lt_of_le hx g.size) (fun e => by have := hb x e; omega)).trans (g.block x hx hn)⟩, L2, h2.tight, fun b hb2 => ?_⟩, C.size, fun b hk => ?_⟩
  · rcases h2.blkP b hb2 with e | e
    · exact hb b e
    · exact Nat.le_trans g.size e.1
  · refine C.block b ?_ ?_
    · rcases Nat.lt_or_ge b w.heap.size with hl | hl
      · exact hl
      · exfalso
        unfold kd at hk
        rw [Array.getElem?_eq_none hl] at hk
        revert hk
        decide
    · rcases hk with hk | hk
      · exact h.other hk (by decide) (by decide) (by decide) (by decide) (by decide)
      · exact h.other hk (by decide) (by decide) (by decide) (by decide) (by decide)
theorem LvN.kept {w0 : World} (h : LvN w0 n c S w) (g : w.grownBy w' none) : LvN w0 n c S w' := by
  obtain ⟨g0, L, h1, h2⟩ := h
  exact ⟨grown_none_trans g0 g, L, h1.kept g, h2⟩
/-- what a call upon it leaves -/
def LvQ (w0 w : World) (n c : Nat) (S : St) (er : Int) (r : Ending) (w' : World) : Prop := r = .returned (.int .i64 er) ∧ LvN w0 n c S w' ∧ Kp w w'
theorem LvN.call {w0 : World} {c2 : Nat} {S2 : St} {er : Int} {f : Nat} {args : Array Value} (h : LvN w0 n c S w) (k : ∀ P L, NetL P w n c S L → Calls Try.prog f args w (ErQ P w n c2 S2 er)) : Calls Try.prog f args w (LvQ w0 w n c2 S2 er) := by
  obtain ⟨g, L, h1, h2⟩ := h
  refine (k _ _ h1).mono ?_
  rintro e w1 ⟨rfl, U⟩
  exact ⟨rfl, LvN.up g h1 h2 U⟩
def LrQ (w0 w : World) (n c : Nat) (S : St) (m : Nat × ByteArray) (r : Ending) (w' : World) : Prop := ∃ (g cap : Nat), r = .returned (.tuple #[.agg #[.int .i64 m.1, .slice (some ⟨g, 0, none⟩) m.2.size cap], .bool true, .int .i64 0]) ∧ kd w' g = 5 + 2 ∧ bys w' (some ⟨g, 0, none⟩) m.2.data.toList ∧ LvN w0 n c S w' ∧ Kp w w'
theorem LvN.recv {w0 : World} (h : LvN w0 n c S w) (i : Nat) (hs : isS S (i : Int) = true) (m : Nat × ByteArray) (rest : List (Nat × ByteArray)) (hm : S.ms i = m :: rest) : Calls Try.prog 16 #[.pointer (some ⟨n, 0, none⟩), .int .i64 i] w (LrQ w0 w n c { S with ms := upd S.ms i rest } m) := by
  obtain ⟨g, L, h1, h2⟩ := h
  refine (Recv_kd h1 i hs m rest hm).mono ?_
  rintro e w1 ⟨b, cap, rfl, _, k, B, U⟩
  exact ⟨b, cap, rfl, k, B, LvN.up g h1 h2 U⟩
end Go.Proofs.Ytpghkbbhcpcbdaa
