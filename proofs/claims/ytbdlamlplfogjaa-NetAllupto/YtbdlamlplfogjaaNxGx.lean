/-
  Walks: one call of both nets: a message received.
-/
import Derived.Test.YtbdlamlplfogjaaGI
import Derived.Deep.RegionHeld3
namespace Go.Proofs.Ytbdlamlplfogjaa
open Go.RowKit Go.Maps Go.Joins
variable {P Q : Nat → Prop} {w w' : World} {n c d B N : Nat} {S : St} {T : Nat → Nat → List ByteArray} {L : Ly} {R : Lr}

theorem bys.conv' {p : Option Addr} {l : List UInt8} (h : bys w p l) (cap : Nat) : (convert 27 9 (.slice p l.length cap)).run Try.prog w = .ok (.string ⟨l.toArray⟩) w := by
  rcases h with ⟨rfl, rfl⟩ | ⟨g, o, rfl, h⟩
  · simp only [List.length_nil]
    rw [run_convert_bytes_string w 27 9 5 none 0 cap u8Slice u8T strT]
    rfl
  · refine run_convert_bytes_back (P := Try.prog) w 27 9 5 ⟨g, o, none⟩ cap l u8Slice u8T strT (fun j hj => ?_)
    rw [add_plain]
    exact h j _ (List.getElem?_eq_getElem hj)
/-- both nets, and blocks that are of neither -/
def BS (P Q : Nat → Prop) (w : World) (n c d : Nat) (S1 S2 : St) (T : Nat → Nat → List ByteArray) (G : Nat → Prop) (w' : World) : Prop := ∃ P' Q' L R, Bo P' Q' w' n c d S1 S2 T L R ∧ (∀ i, P' i → P i ∨ w.heap.size ≤ i) ∧ (∀ i, Q' i → Q i ∨ w.heap.size ≤ i) ∧ Chg (bqs P Q w) w w' ∧ ∀ b, G b → ¬ P' b ∧ ¬ Q' b ∧ w.heap.size ≤ b ∧ b < w'.heap.size
variable {S1 S2 S2' : St} {T' : Nat → Nat → List ByteArray} {G : Nat → Prop} {w1 w2 : World}
theorem BS.bu (h : BS P Q w n c d S1 S2 T G w1) : BU P Q w n c d S1 S2 T w1 := by
  obtain ⟨P', Q', L', R', b1, h2, h3, h4, _⟩ := h
  exact ⟨P', Q', L', R', b1, h2, h3, h4⟩
theorem BS.grow (h : BS P Q w n c d S1 S2 T G w1) (g : w1.grownBy w2 none) {G' : Nat → Prop} (hG : ∀ b, G' b → G b ∨ (w1.heap.size ≤ b ∧ b < w2.heap.size)) : BS P Q w n c d S1 S2 T G' w2 := by
  obtain ⟨P', Q', L', R', b1, h2, h3, h4, h5⟩ := h
  refine ⟨P', Q', L', R', ⟨b1.p.kept g, b1.q.kept g, b1.x⟩, h2, h3, h4.trans (Chg.of_none g _), fun b hb => ?_⟩
  rcases hG b hb with e | e
  · obtain ⟨k1, k2, k3, k4⟩ := h5 b e
    exact ⟨k1, k2, k3, Nat.lt_of_lt_of_le k4 g.size⟩
  · exact ⟨fun e1 => by have := b1.p.pb b e1; omega, fun e1 => by have := b1.q.pb b e1; omega, Nat.le_trans h4.size e.1, e.2⟩
theorem BS.off (h : BS P Q w n c d S1 S2 T G w1) (hc : Chg G w1 w2) {G' : Nat → Prop} (hG : ∀ b, G' b → G b) : BS P Q w n c d S1 S2 T G' w2 := by
  obtain ⟨P', Q', L', R', b1, h2, h3, h4, h5⟩ := h
  refine ⟨P', Q', L', R', ⟨b1.p.away hc (fun i hi e => (h5 i e).1 hi), b1.q.away hc (fun i hi e => (h5 i e).2.1 hi) (fun _ e => e) (fun i hi => Nat.lt_of_lt_of_le (b1.q.pb i hi) hc.size), b1.x⟩, h2, h3, Chg.then_new h4 (hc.mono (fun i _ e => (h5 i e).2.2.1)), fun b hb => ?_⟩
  obtain ⟨k1, k2, k3, k4⟩ := h5 b (hG b hb)
  exact ⟨k1, k2, k3, Nat.lt_of_lt_of_le k4 hc.size⟩
/-- what the program's Recv leaves, called in the world W -/
def RP (P Q : Nat → Prop) (w : World) (n c d : Nat) (S1 S2 : St) (T : Nat → Nat → List ByteArray) (W : World) (pm : Option Addr) (lm : List UInt8) (cm : Nat) (w' : World) : Prop := BS P Q w n c d S1 S2 T (fun b => (∃ a, pm = some a ∧ b = a.block) ∨ (w.heap.size ≤ b ∧ b < W.heap.size)) w' ∧ (∀ b, w.heap.size ≤ b → b < W.heap.size → w'.heap[b]? = W.heap[b]?) ∧ bys w' pm lm ∧ byB w' (.slice pm lm.length cm) lm.length ∧ ∀ a, pm = some a → W.heap.size ≤ a.block
/-- the same, the message in its box -/
def RM (P Q : Nat → Prop) (w : World) (n c d : Nat) (S1 S2 : St) (T : Nat → Nat → List ByteArray) (F : Int) (pm : Option Addr) (lm : List UInt8) (cm mb : Nat) (w' : World) : Prop := BS P Q w n c d S1 S2 T (fun b => b = mb ∨ ∃ a, pm = some a ∧ b = a.block) w' ∧ bys w' pm lm ∧ byB w' (.slice pm lm.length cm) lm.length ∧ w'.heap[mb]? = some (.cells #[.int .i64 F, .slice pm lm.length cm] 51 (0, 0))
/-- what the document's Recv leaves beside, called in the world W -/
def RD (P Q : Nat → Prop) (w : World) (n c d : Nat) (S1 S2 : St) (T : Nat → Nat → List ByteArray) (W0 W : World) (F : Int) (pm : Option Addr) (lm : List UInt8) (cm mb : Nat) (pk : Option Addr) (w' : World) : Prop := BS P Q w n c d S1 S2 T (fun b => (b = mb ∨ ∃ a, pm = some a ∧ b = a.block) ∨ (W0.heap.size ≤ b ∧ b < W.heap.size)) w' ∧ bys w' pm lm ∧ byB w' (.slice pm lm.length cm) lm.length ∧ w'.heap[mb]? = some (.cells #[.int .i64 F, .slice pm lm.length cm] 51 (0, 0)) ∧ (∀ b, W0.heap.size ≤ b → b < W.heap.size → w'.heap[b]? = W.heap[b]?) ∧ bys w' pk lm ∧ ∀ a, pk = some a → ¬ (W0.heap.size ≤ a.block ∧ a.block < W.heap.size)
/-- both in their boxes -/
def RB (P Q : Nat → Prop) (w : World) (n c d : Nat) (S1 S2 : St) (T : Nat → Nat → List ByteArray) (F : Int) (pm : Option Addr) (lm : List UInt8) (cm mb : Nat) (pk : Option Addr) (ck kb : Nat) (w' : World) : Prop := RM P Q w n c d S1 S2 T F pm lm cm mb w' ∧ bys w' pk lm ∧ w'.heap[kb]? = some (.cells #[.int .i64 F, .slice pk lm.length ck] 51 (0, 0))
variable {F : Int} {pm pk : Option Addr} {lm : List UInt8} {cm mb ck kb : Nat} {W W0 : World}
theorem byB.inb (h : byB w (.slice pm lm.length cm) lm.length) : ∀ a, pm = some a → a.block < w.heap.size := fun a ha => by
  subst ha
  exact (h.kd a.block rfl).2
theorem bys.grown {p : Option Addr} {l : List UInt8} (h : bys w p l) (g : w.grownBy w' none) : bys w' p l := h.chg (Chg.of_none g (fun _ => False)) (fun _ _ e => e)
theorem byB.grown {v : Value} {k : Nat} (h : byB w v k) (g : w.grownBy w' none) : byB w' v k := h.kept (Chg.of_none g (fun _ => False)) (fun _ _ e => e)
theorem byB.off (h : byB w (.slice pm lm.length cm) lm.length) {C : Nat → Prop} (hc : Chg C w w') (hn : ∀ a, pm = some a → ¬ C a.block) : byB w' (.slice pm lm.length cm) lm.length := h.kept hc (fun g hg e => by
  cases pm with
  | none => simp [Value.ownBlock] at hg
  | some a => cases hg; exact hn a rfl e)
/-- the box made behind the call -/
theorem RP.box (h : RP P Q w n c d S1 S2 T W pm lm cm w1) : RM P Q w n c d S1 S2 T F pm lm cm w1.heap.size (w1.alloc (.cells #[.int .i64 F, .slice pm lm.length cm] 51)) := by
  obtain ⟨h1, _, h2, h3, _⟩ := h
  have g := grown_al (grown_refl w1) (.cells #[.int .i64 F, .slice pm lm.length cm] 51)
  exact ⟨h1.grow g (fun b hb => by
    rcases hb with e | e
    · exact Or.inr (by simp [e])
    · exact Or.inl (Or.inl e)), h2.grown g, h3.grown g, heap_alloc_new _ _⟩
/-- the box made ahead of the call -/
theorem RP.box' {v0 v1 : Value} (h : RP P Q w n c d S1 S2 T (w2.alloc (.cells #[v0, v1] 51)).drew pm lm cm w1) (hw : w.heap.size ≤ w2.heap.size) : RM P Q w n c d S1 S2 T F pm lm cm w2.heap.size ((w1.setCell ⟨w2.heap.size, 0, none⟩ (.int .i64 F)).setCell ⟨w2.heap.size, 1, none⟩ (.slice pm lm.length cm)) := by
  obtain ⟨h1, hk, h2, h3, h5⟩ := h
  have hl : w2.heap.size < (w2.alloc (.cells #[v0, v1] 51)).drew.heap.size := by simp
  have hmb : w1.heap[w2.heap.size]? = some (.cells #[v0, v1] 51 (0, 0)) := (hk _ hw hl).trans (heap_alloc_new w2 _)
  have C : Chg (fun b => b = w2.heap.size) w1 ((w1.setCell ⟨w2.heap.size, 0, none⟩ (.int .i64 F)).setCell ⟨w2.heap.size, 1, none⟩ (.slice pm lm.length cm)) := (Chg.of_cell w1 ⟨w2.heap.size, 0, none⟩ _).trans (Chg.of_cell _ ⟨w2.heap.size, 1, none⟩ _)
  have ne : ∀ a, pm = some a → ¬ a.block = w2.heap.size := fun a ha e => by have := h5 a ha; omega
  exact ⟨h1.off (C.mono (fun b _ e => Or.inr (by have e : b = w2.heap.size := e; rw [e]; exact ⟨hw, hl⟩))) (fun b hb => by
    rcases hb with e | e
    · exact Or.inr (by rw [e]; exact ⟨hw, hl⟩)
    · exact Or.inl e), h2.chg C (fun a ha e => ne a ha e), h3.off C (fun a ha e => ne a ha e), (block_setCell (block_setCell hmb _) _).trans rfl⟩
theorem RP.inMb (h : RP P Q w n c d S1 S2 T (w2.alloc (.cells #[.int .i64 0, .slice none 0 0] 51)).drew pm lm cm w1) (hw : w.heap.size ≤ w2.heap.size) : w1.cell? ⟨w2.heap.size, 0, none⟩ = some (.int .i64 0) ∧ w1.cell? ⟨w2.heap.size, 1, none⟩ = some (.slice none 0 0) ∧ w1.frozen? ⟨w2.heap.size, 0, none⟩ = false ∧ w1.frozen? ⟨w2.heap.size, 1, none⟩ = false := by
  obtain ⟨h1, hk, h2, h3, h5⟩ := h
  obtain ⟨m0, m1, mf⟩ := cells2 ((hk _ hw (by simp)).trans (heap_alloc_new w2 _))
  exact ⟨m0, m1, mf 0, mf 1⟩
theorem RD.box (h : RD P Q w n c d S1 S2 T W0 W F pm lm cm mb pk w1) : RB P Q w n c d S1 S2 T F pm lm cm mb pk ck w1.heap.size (w1.alloc (.cells #[.int .i64 F, .slice pk lm.length ck] 51)) := by
  obtain ⟨h1, h2, h3, h4, _, h5, _⟩ := h
  have g := grown_al (grown_refl w1) (.cells #[.int .i64 F, .slice pk lm.length ck] 51)
  exact ⟨⟨h1.grow g (fun b hb => Or.inl (Or.inl hb)), h2.grown g, h3.grown g, box_keep h4 g (by simp)⟩, h5.grown g, heap_alloc_new _ _⟩
theorem RD.box' {v0 v1 : Value} (h : RD P Q w n c d S1 S2 T w2 (w2.alloc (.cells #[v0, v1] 51)).drew F pm lm cm mb pk w1) (h0 : RM P Q w n c d S1 S2' T' F pm lm cm mb w2) : RB P Q w n c d S1 S2 T F pm lm cm mb pk ck w2.heap.size ((w1.setCell ⟨w2.heap.size, 0, none⟩ (.int .i64 F)).setCell ⟨w2.heap.size, 1, none⟩ (.slice pk lm.length ck)) := by
  obtain ⟨h1, h2, h3, h4, hk, h5, h6⟩ := h
  have hl : w2.heap.size < (w2.alloc (.cells #[v0, v1] 51)).drew.heap.size := by simp
  have hkb : w1.heap[w2.heap.size]? = some (.cells #[v0, v1] 51 (0, 0)) := (hk _ (Nat.le_refl _) hl).trans (heap_alloc_new w2 _)
  have C : Chg (fun b => b = w2.heap.size) w1 ((w1.setCell ⟨w2.heap.size, 0, none⟩ (.int .i64 F)).setCell ⟨w2.heap.size, 1, none⟩ (.slice pk lm.length ck)) := (Chg.of_cell w1 ⟨w2.heap.size, 0, none⟩ _).trans (Chg.of_cell _ ⟨w2.heap.size, 1, none⟩ _)
  have hmb := lt_of_heap h0.2.2.2
  have hpm := h0.2.2.1.inb
  exact ⟨⟨h1.off (C.mono (fun b _ e => Or.inr (by have e : b = w2.heap.size := e; rw [e]; exact ⟨Nat.le_refl _, hl⟩))) (fun b hb => Or.inl hb), h2.chg C (fun a ha e => by have e : a.block = w2.heap.size := e; have := hpm a ha; omega), h3.off C (fun a ha e => by have e : a.block = w2.heap.size := e; have := hpm a ha; omega), C.at_ h4 (fun e => by have e : mb = w2.heap.size := e; omega)⟩, h5.chg C (fun a ha e => by have e : a.block = w2.heap.size := e; exact h6 a ha (by rw [e]; exact ⟨Nat.le_refl _, hl⟩)), (block_setCell (block_setCell hkb _) _).trans rfl⟩
theorem RD.inMb (h : RD P Q w n c d S1 S2 T w2 (w2.alloc (.cells #[.int .i64 0, .slice none 0 0] 51)).drew F pm lm cm mb pk w1) : w1.cell? ⟨w2.heap.size, 0, none⟩ = some (.int .i64 0) ∧ w1.cell? ⟨w2.heap.size, 1, none⟩ = some (.slice none 0 0) ∧ w1.frozen? ⟨w2.heap.size, 0, none⟩ = false ∧ w1.frozen? ⟨w2.heap.size, 1, none⟩ = false := by
  obtain ⟨h1, h2, h3, h4, hk, h5, h6⟩ := h
  obtain ⟨m0, m1, mf⟩ := cells2 ((hk _ (Nat.le_refl _) (by simp)).trans (heap_alloc_new w2 _))
  exact ⟨m0, m1, mf 0, mf 1⟩
end Go.Proofs.Ytbdlamlplfogjaa
