/-
 A range over a function whose function ranges over another one: what such an iterator is told of its rounds; the loop over it.
-/
import Derived.Test.YtclcajnodoifjaaGreatDoorIAN
import Derived.Test.YtclcajnodoifjaaGreatDoorIAO
namespace Go.Proofs.YtclcajnodoifjaaGreatDoor
open Go.RowKit Go.Shelf Go.Joins Go.Maps
set_option maxRecDepth 100000

/-- what comes back of a round: it goes on, or it has ended the loop; what is no cells and lay from B on lies as it lay -/
def RdQ {α : Type} (B : Nat) (Kp : World → World → Prop) (J Jx : List α → World → Prop) (xs : List α) (W : World) (e : Ending) (W' : World) : Prop :=
 (e = .returned (.bool true) ∧ J xs W' ∧ Kp W W' ∧ KeepsFrom B W W') ∨ (e = .returned (.bool false) ∧ Jx xs W' ∧ KeepsFrom B W W')
/-- an iterator -/
def SeqX {α : Type} (P : Program) (g : Nat) (lb : Array Value) (encs : α → Array Value) (Kp : α → World → World → Prop) (Px : Nat → α → World → Prop) (S Sp : List α → Prop) (N : Nat) (w : World) : Prop :=
 ∀ (l : Nat) (J Jx : List α → World → Prop) (W : World), Below w.heap.size w W → l < W.heap.size → OwnFrom W.heap.size J → OwnFrom W.heap.size Jx →
  (∀ pre x W1, J pre W1 → Px W.heap.size x W1 → pre.length < N → YieldAt Fence.wide 0 P l (encs x) W1 fun e W' => RdQ W.heap.size (Kp x) J Jx (pre ++ [x]) W1 e W') → J [] W →
  ∀ m, CallsIn Fence.wide m P g (#[.func (.yield l) #[] #[]] ++ lb) W fun e W' => (∃ v, e = .returned v) ∧ ((∃ xs, S xs ∧ J xs W') ∨ (∃ pre, Sp pre ∧ Jx pre W'))
/-- a loop's record -/
def lRec (fn : FuncId) (tm : Array Value) (ps : Array Tmp) (as_ bo : Code) (D : Nat) (st : LoopState) (pe : Option Code) : Loop := { state := st, pending := pe, fn := fn, tmps := tm, params := ps, assign := as_, body := bo, defers := D }
/-- how a round's body may be left -/
def rdPost {α : Type} (B : Nat) (Kp : World → World → Prop) (I : List α → World → Prop) (Ix : Code → List α → World → Prop) (xs : List α) (W : World) : Exit → Act → World → Prop
 | .normal, _, W' => KeepsFrom B W W' ∧ Kp W W' ∧ I xs W'
 | .ret, _, W' => KeepsFrom B W W' ∧ Ix .ret xs W'
 | .exit id, _, W' => KeepsFrom B W W' ∧ Ix (.exit id) xs W'
 | .goto t, _, W' => KeepsFrom B W W' ∧ Ix (.goto t) xs W'
 | .panic _, _, _ => False
 | .outgrown, _, _ => False
/-- a record that is turned lies below what was laid behind it -/
theorem keepsFrom_put {B l : Nat} (W : World) (o : Obj) (hl : l < B) : KeepsFrom B W (W.putObj l o) := KeepsFrom.of_grownBy (grownBy_putObj' W l o) (fun _ e => by cases e; exact hl)
theorem kf_mono {B B' : Nat} {W W' : World} (h : KeepsFrom B W W') (hb : B ≤ B') : KeepsFrom B' W W' := ⟨h.size, fun k o hk => h.same k o (Nat.le_trans hb hk)⟩
theorem own_below {β : Type} {B : Nat} {K : β → World → Prop} (hK : OwnFrom B K) {s : β} {A A' : World} (h : K s A) (hb : Below A.heap.size A A') : K s A' := hK s A A' none h ⟨hb.os, hb.tape, hb.output, hb.size, fun k hk _ => hb.block k hk⟩ (fun r e => by cases e)
set_option maxHeartbeats 2000000 in
/-- one round of it -/
theorem round_x {α : Type} {B : Nat} {P : Program} {fn : FuncId} {tm : Array Value} {ps : Array Tmp} {as_ bo : Code} {D l m : Nat} {encs : α → Array Value} {Kp : World → World → Prop} {I : List α → World → Prop} {Ix : Code → List α → World → Prop} {pre : List α} {x : α} {W : World} {a₁ : Act}
  (hl : W.heap[l]? = some (.loop (lRec fn tm ps as_ bo D .ready none))) (hD : W.heap[D]? = some (.deferred (some []))) (hlD : l ≠ D) (hDB : B ≤ D) (hlB : B ≤ l)
  (hKt : ∀ {X Y Z : World}, Kp X Y → Kp Y Z → Kp X Z) (hKb : ∀ (W : World) (l : Nat) (o o' : Obj), B ≤ l → W.heap[l]? = some o → o.isCells = false → o.isWalk = false → Kp W (W.putObj l o')) (hps : (encs x).size = ps.size) (hI : OwnFrom B I) (hIx : ∀ c, OwnFrom B (Ix c))
  (hassign : ∀ (K : Act → World → Prop), K a₁ W → as_.wpIn (Fence.wide.inRound l) m P (Exit.then K (fun _ _ _ => False)) { tmps := (ps.zip (encs x)).foldl (fun t (p, v) => t.setIfInBounds p v) tm, defers := [] } W)
  (hbody : ∀ W2, W2 = W.putObj l (.loop (lRec fn tm ps as_ bo D .busy none)) → bo.wpIn (Fence.wide.inRound l) m P (rdPost B Kp I Ix (pre ++ [x]) W2) a₁ W2) :
  YieldAt Fence.wide m P l (encs x) W fun e W' =>
   (e = .returned (.bool true) ∧ (I (pre ++ [x]) W' ∧ W'.heap[l]? = some (.loop (lRec fn tm ps as_ bo D .ready none)) ∧ W'.heap[D]? = some (.deferred (some []))) ∧ Kp W W' ∧ KeepsFrom (l + 1) W W') ∨
   (e = .returned (.bool false) ∧ (∃ c, Ix c (pre ++ [x]) W' ∧ W'.heap[l]? = some (.loop (lRec fn tm ps as_ bo D .done (some c))) ∧ W'.heap[D]? = some (.deferred (some []))) ∧ KeepsFrom (l + 1) W W') := by
 have lt : l < W.heap.size := lt_of_heap hl
 obtain ⟨W2, hW2⟩ : ∃ W2, W2 = W.putObj l (.loop (lRec fn tm ps as_ bo D .busy none)) := ⟨_, rfl⟩
 have l2 : W2.heap[l]? = some (.loop (lRec fn tm ps as_ bo D .busy none)) := by rw [hW2]; exact World.putObj_heap_same lt
 have D2 : W2.heap[D]? = some (.deferred (some [])) := by rw [hW2]; exact (World.putObj_heap_other (fun e => hlD e.symm)).trans hD
 have kp2 : Kp W W2 := by rw [hW2]; exact hKb _ _ _ _ hlB hl rfl rfl
 have kf2 : KeepsFrom (l + 1) W W2 := by rw [hW2]; exact keepsFrom_put _ _ (Nat.lt_succ_self l)
 refine ⟨fn, _, as_, bo, run_yield (r := lRec fn tm ps as_ bo D .ready none) hl hps, roundIn_of_wpIn trivial (hassign _ ⟨W2, ?_, wpIn_mono (hbody W2 hW2) ?_⟩)⟩
 ·rw [hW2]; exact run_beginRound hl rfl
 -- behind the body: the record is turned once more
 have back : ∀ (W3 : World) (j : Option Code), KeepsFrom B W2 W3 → ∃ W4, (Instr.endRound l j).run P W3 = .ok (.bool j.isNone) W4 ∧ W4.heap[l]? = some (.loop (lRec fn tm ps as_ bo D (if j.isNone then .ready else .done) j)) ∧ W4.heap[D]? = some (.deferred (some [])) ∧ KeepsFrom (l + 1) W W4 ∧ (Kp W W3 → Kp W W4) ∧ (∀ s, I s W3 → I s W4) ∧ (∀ c s, Ix c s W3 → Ix c s W4) := fun W3 j h3 => by
  have l3 := h3.same l _ hlB l2 rfl
  have D3 := h3.same D _ hDB D2 rfl
  exact ⟨_, run_endRound (P := P) j l3, World.putObj_heap_same (lt_of_heap l3), (World.putObj_heap_other (fun e => hlD e.symm)).trans D3, (kf2.trans (kf_mono h3 (by omega))).trans (keepsFrom_put _ _ (Nat.lt_succ_self l)), fun k => hKt k (hKb _ _ _ _ hlB l3 rfl rfl), fun s hs => hI.putObj _ hs hlB l3 rfl, fun c s hs => (hIx c).putObj _ hs hlB l3 rfl⟩
 rintro e a3 W3 hp
 cases e with
 | normal =>
  obtain ⟨h3, hk, hi⟩ := hp
  obtain ⟨W4, g1, g2, g3, g4, g5, g6, _⟩ := back W3 none h3
  exact ⟨_, W4, g1, Or.inl ⟨rfl, ⟨g6 _ hi, g2, g3⟩, g5 (hKt kp2 hk), g4⟩⟩
 | ret =>
  obtain ⟨h3, hi⟩ := hp
  obtain ⟨W4, g1, g2, g3, g4, _, _, g7⟩ := back W3 (some .ret) h3
  exact ⟨_, W4, g1, Or.inr ⟨rfl, ⟨_, g7 _ _ hi, g2, g3⟩, g4⟩⟩
 | exit id =>
  obtain ⟨h3, hi⟩ := hp
  obtain ⟨W4, g1, g2, g3, g4, _, _, g7⟩ := back W3 (some (.exit id)) h3
  exact ⟨_, W4, g1, Or.inr ⟨rfl, ⟨_, g7 _ _ hi, g2, g3⟩, g4⟩⟩
 | goto t =>
  obtain ⟨h3, hi⟩ := hp
  obtain ⟨W4, g1, g2, g3, g4, _, _, g7⟩ := back W3 (some (.goto t)) h3
  exact ⟨_, W4, g1, Or.inr ⟨rfl, ⟨_, g7 _ _ hi, g2, g3⟩, g4⟩⟩
 | panic _ => exact hp.elim
 | outgrown => exact hp.elim
set_option maxHeartbeats 2000000 in
/-- the loop over it -/
theorem loop_x {α : Type} {P : Program} {n : Nat} {g : Operand} {ps : Array Tmp} {as_ bo : Code} {Q : Exit → Act → World → Prop} {a : Act} {w w0 : World} {gf : Nat} {lb : Array Value} (hg : a.eval g = .func (.func gf) #[] lb) (eg : ∀ args w, (callFunc gf args).run P w = .ok (.enter gf args) w)
  {encs : α → Array Value} {Kp : α → World → World → Prop} {Px : Nat → α → World → Prop} {S Sp : List α → Prop} {N : Nat} (hseq : SeqX P gf lb encs Kp Px S Sp N w0)
  (hKt : ∀ (x : α) {X Y Z : World}, Kp x X Y → Kp x Y Z → Kp x X Z) (hKb : ∀ (x : α) (W : World) (l : Nat) (o o' : Obj), w.heap.size ≤ l → W.heap[l]? = some o → o.isCells = false → o.isWalk = false → Kp x W (W.putObj l o')) (hb0 : Below w0.heap.size w0 w) (hps : ∀ x, (encs x).size = ps.size)
  (hPx : ∀ x, OwnFrom w.heap.size (fun (_ : Unit) W => Px (w.heap.size + 2) x W))
  (I : List α → World → Prop) (Ix : Code → List α → World → Prop) (hI : OwnFrom w.heap.size I) (hIx : ∀ c, OwnFrom w.heap.size (Ix c)) (h0 : I [] w) (a₁ : α → Act)
  (hassign : ∀ (l : Nat) (x : α) (W : World) (K : Act → World → Prop), K (a₁ x) W → as_.wpIn (Fence.wide.inRound l) 0 P (Exit.then K (fun _ _ _ => False)) { tmps := (ps.zip (encs x)).foldl (fun t (p, v) => t.setIfInBounds p v) a.tmps, defers := [] } W)
  (hbody : ∀ (l : Nat) (pre : List α) (x : α) (W : World), I pre W → Px (w.heap.size + 2) x W → pre.length < N → bo.wpIn (Fence.wide.inRound l) 0 P (rdPost w.heap.size (Kp x) I Ix (pre ++ [x]) W) (a₁ x) W)
  (hdone : ∀ (D : Nat) (xs : List α) (W : World), w.heap.size ≤ D → S xs → I xs W → W.heap[D]? = some (.deferred (some [])) → Q .normal { a with defers := { target := .collected D, args := #[] } :: a.defers } W)
  (hstop : ∀ (D : Nat) (c : Code) (pre : List α) (W : World), w.heap.size ≤ D → Sp pre → Ix c pre W → W.heap[D]? = some (.deferred (some [])) → c.wpIn Fence.wide n P Q { a with defers := { target := .collected D, args := #[] } :: a.defers } W) :
  (Code.rangeFunc g ps as_ bo).wpIn Fence.wide n P Q a w := by
 refine wpIn_rangeFunc (fun fn hfn => ?_)
 obtain ⟨A, hA⟩ : ∃ A, A = w.alloc (.deferred (some [])) := ⟨_, rfl⟩
 obtain ⟨W1, hW1⟩ : ∃ W1, W1 = A.alloc (.loop (lRec fn a.tmps ps as_ bo w.heap.size .ready none)) := ⟨_, rfl⟩
 have sA : A.heap.size = w.heap.size + 1 := by rw [hA]; exact World.size_alloc _ _
 have s1 : W1.heap.size = w.heap.size + 2 := by rw [hW1, World.size_alloc, sA]
 have bA : Below A.heap.size A W1 := by rw [hW1]; exact (Below.refl _ A).alloc (Nat.le_refl _) _
 have b1 : Below w.heap.size w W1 := ((show Below w.heap.size w A by rw [hA]; exact (Below.refl _ w).alloc (Nat.le_refl _) _)).trans (bA.mono (by omega))
 have l1 : W1.heap[w.heap.size + 1]? = some (.loop (lRec fn a.tmps ps as_ bo w.heap.size .ready none)) := by rw [hW1, ← sA]; exact World.alloc_heap_new _ _
 have D1 : W1.heap[w.heap.size]? = some (.deferred (some [])) := (bA.block _ (by omega)).trans (by rw [hA]; exact World.alloc_heap_new _ _)
 have keep : ∀ {X Y : World} {row : Option Nat} {k : Nat} {o : Obj}, X.grownBy Y row → (∀ r, row = some r → W1.heap.size ≤ r ∧ ∃ o : Obj, X.heap[r]? = some o ∧ o.isCells = false) → k < w.heap.size + 2 → X.heap[k]? = some o → Y.heap[k]? = some o := fun hgr hr hk ho =>
  (hgr.block _ (lt_of_heap ho) (fun e => by have := (hr _ e.symm).1; omega)).trans ho
 have down : ∀ {X : World} {row : Option Nat}, (∀ r, row = some r → W1.heap.size ≤ r ∧ ∃ o : Obj, X.heap[r]? = some o ∧ o.isCells = false) → (∀ r, row = some r → w.heap.size ≤ r ∧ ∃ o : Obj, X.heap[r]? = some o ∧ o.isCells = false) := fun hr r e => ⟨by have := (hr r e).1; omega, (hr r e).2⟩
 refine ⟨w.heap.size + 1, [{ target := .collected w.heap.size, args := #[] }], W1, { target := .fn (.func gf) lb, args := #[.func (.yield (w.heap.size + 1)) #[] #[]] }, W1, gf, #[.func (.yield (w.heap.size + 1)) #[] #[]] ++ lb, W1, ?_, ?_, fun _ _ => trivial, ?_, (fun h => by cases h), ?_⟩
 ·rw [hW1, hA]; exact run_enterLoop_outer _ _ _ _ _
 ·simp only [resolve, hg]
  simp [go_sem]
 ·simp [invoke, go_sem, eg]
 refine (hseq (w.heap.size + 1)
  (fun pre W => I pre W ∧ W.heap[w.heap.size + 1]? = some (.loop (lRec fn a.tmps ps as_ bo w.heap.size .ready none)) ∧ W.heap[w.heap.size]? = some (.deferred (some [])))
  (fun pre W => ∃ c, Ix c pre W ∧ W.heap[w.heap.size + 1]? = some (.loop (lRec fn a.tmps ps as_ bo w.heap.size .done (some c))) ∧ W.heap[w.heap.size]? = some (.deferred (some [])))
  W1 (hb0.trans (b1.mono hb0.size)) (by omega)
  (fun s X Y row hs hgr hr => ⟨hI s X Y row hs.1 hgr (down hr), keep hgr hr (by omega) hs.2.1, keep hgr hr (by omega) hs.2.2⟩)
  (fun s X Y row hs hgr hr => by
   obtain ⟨c, hc, hl, hk⟩ := hs
   exact ⟨c, hIx c s X Y row hc hgr (down hr), keep hgr hr (by omega) hl, keep hgr hr (by omega) hk⟩)
  (fun pre x W ⟨hi, hl, hk⟩ hp hlen => ?_) ⟨own_below hI h0 b1, l1, D1⟩ (n - 1)).mono ?_
 ·refine (round_x (B := w.heap.size) (m := 0) (encs := encs) (Kp := Kp x) (I := I) (Ix := Ix) (pre := pre) (x := x) (a₁ := a₁ x) hl hk (by omega) (Nat.le_refl _) (by omega) (hKt x) (hKb x) (hps x) hI hIx (hassign _ x W) ?_).mono (fun e W' h => ?_)
  ·rintro W2 rfl
   rw [s1] at hp
   exact hbody _ pre x _ (hI.putObj _ hi (by omega) hl rfl) ((hPx x).putObj (s := ()) _ hp (by omega) hl rfl) hlen
  ·rcases h with ⟨e1, e2, e3, e4⟩ | ⟨e1, e2, e3⟩
   ·exact Or.inl ⟨e1, e2, e3, kf_mono e4 (by omega)⟩
   ·exact Or.inr ⟨e1, e2, kf_mono e3 (by omega)⟩
 ·rintro e W2 ⟨⟨v, rfl⟩, (⟨xs, hS, hi, hl, hk⟩ | ⟨pre, hSp, c, hi, hl, hk⟩)⟩
  ·exact ⟨none, _, run_endLoop (P := P) hl (by simp [lRec]), hdone _ xs _ (Nat.le_refl _) hS (hI.putObj _ hi (by omega) hl rfl) ((World.putObj_heap_other (by omega)).trans hk)⟩
  ·exact ⟨some c, _, run_endLoop (P := P) hl (by simp [lRec]), hstop _ c pre _ (Nat.le_refl _) hSp ((hIx c).putObj _ hi (by omega) hl rfl) ((World.putObj_heap_other (by omega)).trans hk)⟩
end Go.Proofs.YtclcajnodoifjaaGreatDoor

namespace Go.Proofs.YtclcajnodoifjaaGreatDoor
open Go.RowKit Go.Shelf Go.Joins Go.Maps
set_option maxRecDepth 100000

theorem il_mem {α : Type} {q : α} : ∀ {es : List α} {fs : List (List α)}, q ∈ il es fs → q ∈ es ∨ ∃ f ∈ fs, q ∈ f
 | es, [], h => Or.inl h
 | es, f :: fs, h => by
  have pm : ∀ (es : List α) (fs : List (List α)), q ∈ post es fs → q ∈ es ∨ ∃ f ∈ fs, q ∈ f := by
   intro es
   induction es with
   | nil => intro fs h; cases fs <;> simp [post] at h
   | cons e es ih =>
    intro fs h
    cases fs with
    | nil => simp [post] at h
    | cons f fs =>
     simp only [post, List.mem_cons, List.mem_append] at h
     rcases h with h | h | h
     ·exact Or.inl (by simp [h])
     ·exact Or.inr ⟨f, by simp, h⟩
     ·rcases ih fs h with h | ⟨f', h1, h2⟩
      ·exact Or.inl (by simp [h])
      ·exact Or.inr ⟨f', by simp [h1], h2⟩
  simp only [il, List.mem_append] at h
  rcases h with h | h
  ·exact Or.inr ⟨f, by simp, h⟩
  ·rcases pm es fs h with h | ⟨f', h1, h2⟩
   ·exact Or.inl h
   ·exact Or.inr ⟨f', by simp [h1], h2⟩
theorem fl_mem {α : Type} {n : Nd α} {q : α} (h : q ∈ n.fl) : q ∈ n.es ∨ ∃ k ∈ n.ks, q ∈ k.fl := by
 cases n with
 | mk es ks =>
  rw [Nd.fl_eq] at h
  rcases il_mem h with h | ⟨f, h1, h2⟩
  ·exact Or.inl h
  ·obtain ⟨k, hk, rfl⟩ := List.mem_map.1 h1
   exact Or.inr ⟨k, hk, h2⟩
theorem ndIn.keys {T : Nat → Prop} {w : World} : ∀ {d : Nat} {n : Nd Em} {v1 v2 : Value}, ndIn T w d n v1 v2 → ∀ q ∈ n.fl, KeyOk T w q
 | 0, n, v1, v2, h, q, hq => by
  rcases fl_mem hq with hq | ⟨k, hk, _⟩
  ·exact h.ent.2 q hq
  ·rw [h.2.1] at hk; cases hk
 | d + 1, n, v1, v2, h, q, hq => by
  rcases fl_mem hq with hq | ⟨k, hk, hq⟩
  ·exact h.ent.2 q hq
  ·obtain ⟨_, hs, h2, _, h4⟩ := h
   obtain ⟨i, hi⟩ := List.getElem?_of_mem hk
   have lt : i < hs.length := by rw [h2]; exact (List.getElem?_eq_some_iff.1 hi).1
   exact ndIn.keys (h4 i k hs[i] hi (List.getElem?_eq_getElem lt)) q hq
/-- cells lie as they lay where a block that is none is turned -/
theorem cells_own {X Y : World} {row : Option Nat} {b : Nat} {cs : Array Value} {t : TypeId} {z : Nat × Nat} (hg : X.grownBy Y row) (hr : ∀ r, row = some r → ∃ o : Obj, X.heap[r]? = some o ∧ o.isCells = false) (h : X.heap[b]? = some (.cells cs t z)) : Y.heap[b]? = some (.cells cs t z) := by
 refine (hg.block b (lt_of_heap h) (fun e => ?_)).trans h
 obtain ⟨o, ho, hc⟩ := hr b e.symm
 rw [h] at ho
 cases ho
 cases hc
theorem keeps_own {X Y : World} {row : Option Nat} (hg : X.grownBy Y row) (hr : ∀ r, row = some r → ∃ o : Obj, X.heap[r]? = some o ∧ o.isCells = false) : Keeps (fun _ => True) X Y := ⟨hg.size, fun _ _ _ _ _ h => cells_own hg hr h⟩
theorem Keeps.mono {T U : Nat → Prop} {w w' : World} (h : Keeps T w w') (hu : ∀ b, U b → T b) : Keeps U w w' := ⟨h.1, fun b cs t z hb => h.2 b cs t z (hu b hb)⟩
/-- what is handed over of an entry: its key's values in a new block, its number -/
abbrev Hd (Tot : List Em) := { q : Em // q.e ∈ Tot.map (fun x => x.e) }
def hdV {Tot : List Em} (x : Hd Tot) : Array Value := #[.slice (some ⟨x.1.g, 0, none⟩) x.1.e.key.length x.1.c, .int .u64 x.1.e.id]
def hdP {Tot : List Em} (B : Nat) (x : Hd Tot) (W : World) : Prop := KeyOk (fun b => B ≤ b) W x.1 ∧ ∃ cs, W.heap[x.1.g]? = some (.cells cs 40 (0, 0))
def hdK (Y : Nat → Prop) {Tot : List Em} (x : Hd Tot) (W W' : World) : Prop := Keeps (fun b => ¬ Y b ∧ b ≠ x.1.g) W W'
def hdE_ {Tot : List Em} (s : List (Hd Tot)) : List En := s.map (fun x => x.1.e)
def hdS {Tot : List Em} (s : List (Hd Tot)) : Prop := hdE_ s = Tot.map (fun x => x.e)
def hdSp {Tot : List Em} (s : List (Hd Tot)) : Prop := ∃ rest, Tot.map (fun x => x.e) = hdE_ s ++ rest
theorem hdP_own {Tot : List Em} {B B' : Nat} (x : Hd Tot) : OwnFrom B (fun (_ : Unit) W => hdP B' x W) := fun _ _ _ _ hs hg hr => ⟨KeyOk.keeps (T := fun b => B' ≤ b) hs.1 ((keeps_own hg (fun r e => (hr r e).2)).mono (fun _ _ => trivial)), by obtain ⟨cs, h⟩ := hs.2; exact ⟨cs, cells_own hg (fun r e => (hr r e).2) h⟩⟩
theorem below_keepsFrom {B : Nat} {W W' : World} (h : Below W.heap.size W W') : KeepsFrom B W W' := ⟨h.size, fun k _ _ hk _ => (h.block k (lt_of_heap hk)).trans hk⟩
end Go.Proofs.YtclcajnodoifjaaGreatDoor

