/-
  The walks of lockstepref04's List and Image.
-/
import Derived.Test.YtdiehlioemmakaaGgCpx
namespace Go.Proofs.Ytdiehlioemmakaa
open Go.RowKit Go.Maps Go.Joins
variable {F : Nat → Prop}

theorem rd1.by_ {w : World} {f N C : Nat} {P : Option Addr} {l : List UInt8} (h : rd1 F w f (.slice P N C) (by8 l)) : N = l.length ∧ (P = none → C = 0) ∧ byIn w P l ∧ ∀ a, P = some a → l ≠ [] → a.block < w.heap.size := by
  obtain ⟨p, c, e, h1, h2, h3, h4⟩ := h
  simp only [Value.slice.injEq] at e
  obtain ⟨rfl, e2, rfl⟩ := e
  rw [by8_len] at e2
  refine ⟨e2, h3, ?_, fun a ea hne => ?_⟩
  · rcases h4 with h4 | ⟨g, o, e, hg, hc⟩
    · have : l = [] := by
        have := congrArg List.length h4
        rw [by8_len] at this
        exact List.eq_nil_of_length_eq_zero this
      subst this
      cases P with
      | none => exact Or.inl ⟨rfl, rfl⟩
      | some a => exact Or.inr ⟨a, rfl, fun i x hx => by simp at hx⟩
    · refine Or.inr ⟨_, e, fun i x hx => ?_⟩
      rw [add_plain]
      exact hc i _ (by simp [by8, hx])
  · rcases h4 with h4 | ⟨g, o, e, hg, hc⟩
    · have := congrArg List.length h4
      rw [by8_len] at this
      exact absurd (List.eq_nil_of_length_eq_zero this) hne
    · rw [e] at ea; cases ea
      obtain ⟨x, hx⟩ : ∃ x, l[0]? = some x := by
        cases l with
        | nil => exact absurd rfl hne
        | cons x r => exact ⟨x, rfl⟩
      exact World.block_lt_of_cell? w _ (hc 0 (.int .u8 (x.toNat : Int)) (by simp [by8, hx]))
theorem ent_app {w : World} {base : Nat} {v : Value} {zs : List (List UInt8 × Fl)} (h : w.ownsRow base 50 3 v zs.length (entsV zs)) {n : List UInt8} {Pz : Option Addr} {Nz Cz : Nat} {Z : Fl} (hv : Z.v = .slice Pz Nz Cz) (hl : zs.length ≤ 1000) (hb : base ≤ w.heap.size) {W : World} (hW : W = w.alloc (.cells #[.string ⟨n.toArray⟩, .slice Pz Nz Cz, .int .i64 (Z.k : Int)] 50)) :
    ∃ v' w', (∀ ty, (Builtin.append_ #[45, 45] ty #[v, .slice (some ⟨w.heap.size, 0, none⟩) 1 1]).run Try.prog W = .ok v' w') ∧ w'.ownsRow base 50 3 v' (zs ++ [(n, Z)]).length (entsV (zs ++ [(n, Z)])) ∧ W.grownBy w' v.ownBlock := by
  obtain ⟨i0, hi, hz0, hz1, hz2⟩ := info_parts entInfo
  have g0 : w.grownBy W none := by rw [hW]; exact World.grownBy_alloc w _ none
  have h1 : W.ownsRow base 50 3 v zs.length (entsV zs) := World.ownsRow.kept h g0 (by cases v.ownBlock <;> simp)
  have hblk : W.heap[w.heap.size]? = some (.cells #[.string ⟨n.toArray⟩, .slice Pz Nz Cz, .int .i64 (Z.k : Int)] 50 (0, 0)) := by rw [hW]; exact heap_alloc_new _ _
  have key : ∀ ty, ∃ v' w', (Builtin.append_ #[45, 45] ty #[v, .slice (some ⟨w.heap.size, 0, none⟩) 1 1]).run Try.prog W = .ok v' w' ∧ w'.ownsRow base 50 3 v' (zs.length + 1) (entsV zs ++ [.string ⟨n.toArray⟩, .slice Pz Nz Cz, .int .i64 (Z.k : Int)]) ∧ W.grownBy w' v.ownBlock ∧ (v' = .slice none 0 0 ↔ v = .slice none 0 0 ∧ 1 = 0) ∧ (v'.ownBlock = v.ownBlock ∨ v'.ownBlock = some W.heap.size) := fun ty =>
    run_append_own_at (P := Try.prog) W base 45 ty 50 i0 _ 3 48 entSlice hi hz0 hz1 hz2 rfl (by decide) v zs.length (entsV zs) h1 ⟨w.heap.size, 0, none⟩ 1 1 [.string ⟨n.toArray⟩, .slice Pz Nz Cz, .int .i64 (Z.k : Int)] rfl (fun j u hj => by
      rw [add_plain, Nat.zero_add]
      rcases j with _ | _ | _ | j
      · simp at hj; subst hj; exact (cell_of_block hblk 0).trans rfl
      · simp at hj; subst hj; exact (cell_of_block hblk 1).trans rfl
      · simp at hj; subst hj; exact (cell_of_block hblk 2).trans rfl
      · simp at hj) (by intro u hu; simp at hu; rcases hu with rfl | rfl | rfl <;> rfl) (by unfold maxLen; omega) (by omega) (Nat.le_trans hb g0.size)
  obtain ⟨v', w', h2, h3, h4, _, _⟩ := key 0
  refine ⟨v', w', fun ty => h2, ?_, h4⟩
  rw [entsV_app, List.length_append, hv]; exact h3
/-- an image of the document's under way -/
structure EiQ (w wr : World) (P : Option Addr) (k C : Nat) (B : Ab') : Prop where
  h : ∃ zs : List (List UInt8 × Fl), wr.ownsRow w.heap.size 50 3 (.slice P k C) zs.length (entsV zs) ∧ zs.length = k ∧ absX zs = B ∧ ∀ z ∈ zs, ∃ Pz Cz, z.2.v = .slice Pz z.2.l.length Cz ∧ (Pz = none → Cz = 0) ∧ byIn wr Pz z.2.l ∧ ∀ a, Pz = some a → z.2.l ≠ [] → a.block < w.heap.size
theorem EiQ.grow {w wr w' : World} {P : Option Addr} {k C : Nat} {B : Ab'} (h : EiQ w wr P k C B) (hg : wr.grownBy w' none) : EiQ w w' P k C B := by
  obtain ⟨zs, h1, h2, h3, h4⟩ := h.h
  refine ⟨zs, World.ownsRow.kept h1 hg (by cases (Value.slice P k C).ownBlock <;> simp), h2, h3, fun z hz => ?_⟩
  obtain ⟨Pz, Cz, a, b, c, d⟩ := h4 z hz
  exact ⟨Pz, Cz, a, b, c.kept hg, d⟩
theorem EiQ.en {w wr : World} {P : Option Addr} {k C : Nat} {B : Ab'} (h : EiQ w wr P k C B) : enIn wr P B ∧ B.length = k := by
  obtain ⟨zs, h1, h2, h3, h4⟩ := h.h
  subst h3
  refine ⟨fun i z hz => ?_, by rw [abs_len]; exact h2⟩
  obtain ⟨y, hy⟩ : ∃ y, zs[i]? = some y := by
    have hi := (List.getElem?_eq_some_iff.1 hz).1
    rw [abs_len] at hi
    exact ⟨zs[i], List.getElem?_eq_getElem hi⟩
  have hi := (List.getElem?_eq_some_iff.1 hy).1
  have hz2 : z = (y.1, (y.2.l, y.2.k)) := by
    have : (absX zs)[i]? = some (y.1, (y.2.l, y.2.k)) := by simp [absX, hy]
    rw [this] at hz; exact (Option.some.inj hz).symm
  subst hz2
  obtain ⟨Pz, Cz, a, b, c, d⟩ := h4 y (List.mem_of_getElem? hy)
  rcases h1.2 with ⟨e, h0⟩ | ⟨g, cap, cur, e5, _, hb, _, _, hs, ht⟩
  · exfalso; omega
  · injection e5 with e1 e2 e3
    subst e1
    have hc : ∀ j, j < 3 → wr.cell? ⟨g, i * 3 + j, none⟩ = ([.string ⟨y.1.toArray⟩, y.2.v, .int .i64 (y.2.k : Int)] : List Value)[j]? := fun j hj => by
      rw [← entsV_at zs i y hy j hj]
      have hlt : i * 3 + j < zs.length * 3 := by omega
      rw [← ht, List.getElem?_take_of_lt hlt]
      exact (cell_of_block hb (i * 3 + j)).trans (by simp)
    refine ⟨g, Pz, Cz, rfl, ?_, ?_, ?_, c, b⟩
    · exact (hc 0 (by omega)).trans rfl
    · have := hc 1 (by omega); rw [a] at this; exact this.trans rfl
    · exact (hc 2 (by omega)).trans rfl
theorem EiQ.step {w wr W : World} {P3 : Option Addr} {k C3 : Nat} {fs : List (List UInt8 × Nat)} {now : Ws} {p : List UInt8 × Nat} {Pz : Option Addr} {L Cz : Nat} {l : List UInt8} {kk : Nat} (h : EiQ w wr P3 k C3 (absW fs (now.take k))) (hp : now[k]? = some p) (hx : fs.getD p.2 ([], 0) = (l, kk)) (hL : L = l.length) (hn : Pz = none → Cz = 0) (hby : byIn wr Pz l) (hbb : ∀ a, Pz = some a → l ≠ [] → a.block < w.heap.size) (hk : k ≤ 1000) (hw : w.grownBy wr none) (hW : W = wr.alloc (.cells #[.string ⟨p.1.toArray⟩, .slice Pz L Cz, .int .i64 (kk : Int)] 50)) :
    ∃ P5 C5 w', (∀ ty, (Builtin.append_ #[45, 45] ty #[.slice P3 k C3, .slice (some ⟨wr.heap.size, 0, none⟩) 1 1]).run Try.prog W = .ok (.slice P5 (k + 1) C5) w') ∧ EiQ w w' P5 (k + 1) C5 (absW fs (now.take (k + 1))) ∧ w.grownBy w' none ∧ W.grownBy w' (Value.slice P3 k C3).ownBlock ∧ ∀ g, (Value.slice P3 k C3).ownBlock = some g → w.heap.size ≤ g ∧ ∃ cs, wr.heap[g]? = some (.cells cs 50 (0, 0)) := by
  obtain ⟨zs, h1, h2, h3, h4⟩ := h.h
  subst hL
  obtain ⟨v', w', run, row, g5⟩ := ent_app (w := wr) (base := w.heap.size) h1 (n := p.1) (Z := ⟨0, .slice Pz l.length Cz, l, kk⟩) rfl (by omega) hw.size hW
  have og : ∀ g, (Value.slice P3 k C3).ownBlock = some g → w.heap.size ≤ g ∧ ∃ cs, wr.heap[g]? = some (.cells cs 50 (0, 0)) := fun g hg => by
    refine ⟨?_, own_kind h1 g hg⟩
    rcases h1.2 with ⟨e, _⟩ | ⟨g', _, _, e, hge, _⟩
    · rw [e] at hg; cases hg
    · rw [e] at hg; cases hg; exact hge
  have gW : wr.grownBy W none := by rw [hW]; exact World.grownBy_alloc wr _ none
  have hlen : (zs ++ [(p.1, (⟨0, .slice Pz l.length Cz, l, kk⟩ : Fl))]).length = k + 1 := by rw [List.length_append, h2]; rfl
  rw [hlen] at row
  obtain ⟨P5, C5, hv⟩ := row_formS row
  subst hv
  have hby' : ∀ {Q : Option Addr} {m : List UInt8}, byIn wr Q m → (∀ a, Q = some a → m ≠ [] → a.block < w.heap.size) → byIn w' Q m := fun hq hb => by
    refine (hq.kept gW).chg0 (Chg.of_grown g5) (fun ne a e hs => ?_)
    have := hb a e ne
    have := (og _ hs).1
    omega
  refine ⟨P5, C5, w', run, ⟨_, by rw [hlen]; exact row, hlen, ?_, fun z hz => ?_⟩, ?_, g5, og⟩
  · have e7 : now.take (k + 1) = now.take k ++ [p] := by rw [List.take_add_one, hp]; rfl
    rw [abs_app, h3, e7, show absW fs (now.take k ++ [p]) = absW fs (now.take k) ++ [(p.1, fs.getD p.2 ([], 0))] from by unfold absW; rw [List.map_append]; rfl, hx]
  · rcases List.mem_append.1 hz with hz | hz
    · obtain ⟨Pq, Cq, a, b, c, d⟩ := h4 z hz
      exact ⟨Pq, Cq, a, b, hby' c d, d⟩
    · simp at hz; subst hz
      exact ⟨Pz, Cz, rfl, hn, hby' hby hbb, hbb⟩
  · have gw := grTrans hw gW
    exact ⟨g5.os.trans gw.os, g5.tape.trans gw.tape, g5.output.trans gw.output, Nat.le_trans gw.size g5.size, fun i hi _ => (g5.block i (Nat.lt_of_lt_of_le hi gw.size) (fun e => by have := (og i e.symm).1; omega)).trans (gw.block i hi (by simp))⟩
def RiQ (w : World) (N : Nat) (B : Ab') (e : Ending) (w' : World) : Prop := ∃ P C, e = .returned (.slice P N C) ∧ enIn w' P B ∧ w.grownBy w' none
set_option maxHeartbeats 8000000 in
set_option maxRecDepth 1000000 in
theorem refImage_any (f : Nat) (s : St) (w : World) (h : Rf F w f s) (hb : s.ways.length ≤ 9000000) (hn : s.now.length ≤ 64) (hm : s.fs.length ≤ 9000000) (hok : StOk s) :
    Calls Try.prog 52 #[.pointer (some ⟨f, 0, none⟩)] w fun e w' => RiQ w s.now.length (absW s.fs s.now) e w' := by
  obtain ⟨pN, cN, pI, cI, hway, _, hnow⟩ := now_rf h hb (by omega)
  have NW := mkHid (hnow w (grRefl w))
  obtain ⟨N, hN⟩ : ∃ N, N = s.now.length := ⟨_, rfl⟩
  obtain ⟨M, hM⟩ : ∃ M, M = s.fs.length := ⟨_, rfl⟩
  have HC : Hid (∀ W, w.grownBy W none → ∀ (k : Nat) p, s.now[k]? = some p → ∃ (g1 o1 g2 o2 g o c : Nat) (pB : Option Addr) (cB : Nat) (l : List UInt8) (x2 : Nat), pN = some ⟨g1, o1, none⟩ ∧ W.cell? ⟨g1, o1 + k, none⟩ = some (.string ⟨p.1.toArray⟩) ∧ pI = some ⟨g2, o2, none⟩ ∧ W.cell? ⟨g2, o2 + k, none⟩ = some (.int .i64 (p.2 : Int)) ∧ W.cell? ⟨f, 1, none⟩ = some (.slice (some ⟨g, o, none⟩) M c) ∧ W.cell? ⟨g, o + p.2 * 2, none⟩ = some (.slice pB l.length cB) ∧ W.cell? ⟨g, o + p.2 * 2 + 1, none⟩ = some (.int .i64 (x2 : Int)) ∧ p.2 < M ∧ s.fs.getD p.2 ([], 0) = (l, x2) ∧ (pB = none → cB = 0) ∧ byIn W pB l ∧ ∀ a, pB = some a → l ≠ [] → a.block < w.heap.size) := by
    intro W g0 k p hp
    obtain ⟨⟨q1, d1, e1, _, _, _, h1⟩, ⟨q2, d2, e2, _, _, _, h2⟩⟩ := hway
    simp only [Value.slice.injEq] at e1 e2
    obtain ⟨rfl, _, rfl⟩ := e1
    obtain ⟨rfl, _, rfl⟩ := e2
    have hps : p.2 < s.fs.length := hok p (List.mem_of_getElem? hp)
    have hx : s.fs[p.2]? = some (s.fs.getD p.2 ([], 0)) := by rw [List.getD_eq_getElem?_getD, List.getElem?_eq_getElem hps]; rfl
    rcases h1 with h1 | ⟨g1, o1, rfl, _, h1⟩
    · rw [List.map_eq_nil_iff.1 h1] at hp; simp at hp
    rcases h2 with h2 | ⟨g2, o2, rfl, _, h2⟩
    · rw [List.map_eq_nil_iff.1 h2] at hp; simp at hp
    obtain ⟨g, o, c, vW, pB, cB, hR, y1, y2, yr⟩ := file_at h hx
    have yb := yr.by_
    obtain ⟨_, z1, _, _, _, _⟩ := RB.c hR
    refine ⟨g1, o1, g2, o2, g, o, c, pB, cB, _, _, rfl, g0.cell (h1 k _ (by rw [List.getElem?_map, hp]; rfl)) (by simp), rfl, g0.cell (h2 k _ (by rw [List.getElem?_map, hp]; rfl)) (by simp), by rw [hM]; exact g0.cell z1 (by simp), g0.cell y1 (by simp), g0.cell y2 (by simp), by rw [hM]; exact hps, rfl, yb.2.1, yb.2.2.1.kept g0, yb.2.2.2⟩
  have HNL : Hid (s.now.length = N) := hN.symm
  rw [← hN] at NW ⊢
  have hNb : (N : Int) ≤ 64 := by omega
  have hMi : (M : Int) ≤ 9000000 := by omega
  have hfw : f < w.heap.size := by obtain ⟨_, _, hh, _⟩ := h.fs; exact lt_of_heap hh
  clear h hb hn hm hok hway hnow hN hM
  go_enter Try.func52, Try.ntmps52
  go_wp2_with fail
  refine NW.out.mono ?_
  rintro e w1 ⟨rfl, g1⟩
  have G2 := mkHid (grTrans g1 (World.grownBy_alloc w1 (.cells #[.slice pN N cN, .slice pI N cI] 95) none))
  have hB := mkHid (heap_alloc_new w1 (.cells #[.slice pN N cN, .slice pI N cI] 95))
  obtain ⟨B, hBe⟩ : ∃ B, B = w1.heap.size := ⟨_, rfl⟩
  have hBw : w.heap.size ≤ B := by rw [hBe]; exact g1.size
  rw [← hBe] at hB
  clear g1
  go_wp2_with fail
  rw [← hBe]
  generalize w1.alloc (.cells #[.slice pN N cN, .slice pI N cI] 95) = w2 at *
  clear hBe
  have E0 : Hid (EiQ w2 w2 none 0 0 (absW s.fs (s.now.take 0))) := ⟨[], ⟨rfl, Or.inl ⟨rfl, rfl⟩⟩, rfl, rfl, fun z hz => by simp at hz⟩
  have hB := mkHid hB.out
  go_loopw [3, 5, 6] (fun s3 s5 _ wr => ∃ (k : Nat) (P3 : Option Addr) (C3 : Nat), s5 = .int .i64 (k : Int) ∧ k ≤ N ∧ s3 = .slice P3 k C3 ∧ Hid (EiQ w2 wr P3 k C3 (absW s.fs (s.now.take k))) ∧ Hid (w2.grownBy wr none ∧ wr.heap[B]? = some (.cells #[.slice pN N cN, .slice pI N cI] 95 (0, 0)))) (fun _ s5 _ _ => N - (intOf s5).toNat)
  case atStart => exact ⟨0, none, 0, rfl, Nat.zero_le _, rfl, E0, ⟨grRefl _, hB.out⟩⟩
  case round =>
    obtain ⟨k, P3, C3, rfl, hk, rfl, EQ, GR⟩ := hrel
    have b0 : wr.cell? ⟨B, 0, none⟩ = some (.slice pN N cN) := (cell_of_block GR.out.2 0).trans rfl
    have hwB := lt_of_heap GR.out.2
    by_cases hlt : k < N
    · obtain ⟨p, hx⟩ : ∃ p, s.now[k]? = some p := ⟨s.now[k]'(by rw [HNL.out]; exact hlt), List.getElem?_eq_getElem _⟩
      have hlti : (k : Int) < (N : Int) := by omega
      obtain ⟨g1, o1, g2, o2, g, o, c, pB, cB, l, x2, rfl, yn, rfl, y1, z0, z1, z2, hj, hgd, hno, hby, hbb⟩ := HC.out _ (grTrans G2.out GR.out.1) k p hx
      have b1 : wr.cell? ⟨B, 1, none⟩ = some (.slice (some ⟨g2, o2, none⟩) N cI) := (cell_of_block GR.out.2 1).trans rfl
      obtain ⟨n, hn5⟩ : ∃ n, n = p.1 := ⟨_, rfl⟩
      obtain ⟨j, hj5⟩ : ∃ j, j = p.2 := ⟨_, rfl⟩
      obtain ⟨L, hL⟩ : ∃ L, L = l.length := ⟨_, rfl⟩
      have gB : ∀ u v : Value, wr.grownBy (wr.alloc (.cells #[u, v] 98)).drew none := fun u v => by
        have h := World.grownBy_alloc wr (.cells #[u, v] 98) none
        exact ⟨h.os, h.tape, h.output, h.size, h.block⟩
      rw [← hj5] at y1 z1 z2 hj
      rw [← hL] at z1
      rw [← hn5] at yn
      have hji : (j : Int) < (M : Int) := by omega
      obtain ⟨X, hXe⟩ : ∃ X, X = wr.heap.size := ⟨_, rfl⟩
      obtain ⟨wa, hwa⟩ : ∃ wa, wa = (wr.alloc (.cells #[.slice pB L cB, .int .i64 (x2 : Int)] 98)).drew := ⟨_, rfl⟩
      have ga : wr.grownBy wa none := by rw [hwa]; exact gB _ _
      have gwa : w.grownBy wa none := grTrans (grTrans G2.out GR.out.1) ga
      have bX : wa.heap[X]? = some (.cells #[.slice pB L cB, .int .i64 (x2 : Int)] 98 (0, 0)) := by rw [hwa, hXe]; exact heap_alloc_new _ _
      have bBa : wa.heap[B]? = some (.cells #[.slice (some ⟨g1, o1, none⟩) N cN, .slice (some ⟨g2, o2, none⟩) N cI] 95 (0, 0)) := (ga.block B hwB (by simp)).trans GR.out.2
      have H7 : Hid (wa.drew.cell? ⟨B, 0, none⟩ = some (.slice (some ⟨g1, o1, none⟩) N cN) ∧ wa.drew.cell? ⟨g1, o1 + k, none⟩ = some (.string ⟨n.toArray⟩) ∧ wa.drew.cell? ⟨X, 0, none⟩ = some (.slice pB L cB) ∧ wa.drew.cell? ⟨X, 1, none⟩ = some (.int .i64 (x2 : Int))) := ⟨(gr_drew wa).cell ((cell_of_block bBa 0).trans rfl) (by simp), (gr_drew wa).cell (ga.cell yn (by simp)) (by simp), (gr_drew wa).cell ((cell_of_block bX 0).trans rfl) (by simp), (gr_drew wa).cell ((cell_of_block bX 1).trans rfl) (by simp)⟩
      obtain ⟨W5, hW5⟩ : ∃ W5, W5 = wa.drew.alloc (.cells #[.string ⟨n.toArray⟩, .slice pB L cB, .int .i64 (x2 : Int)] 50) := ⟨_, rfl⟩
      obtain ⟨P5, C5, w5, run5, eq5, gw5, g5, og⟩ := EiQ.step (w := w2) (wr := wa.drew) (W := W5) (p := p) (l := l) (L := L) (kk := x2) (EQ.out.grow (grTrans ga (gr_drew wa))) hx hgd hL hno (hby.kept (grTrans ga (gr_drew wa))) (fun a e ne => Nat.lt_of_lt_of_le (hbb a e ne) G2.out.size) (by omega) (grTrans (grTrans GR.out.1 ga) (gr_drew wa)) (by rw [hW5, hn5])
      have g5W : wa.drew.grownBy W5 none := by rw [hW5]; exact World.grownBy_alloc _ _ none
      have HXW : Hid (W5.cell? ⟨B, 0, none⟩ = some (.slice (some ⟨g1, o1, none⟩) N cN) ∧ W5.cell? ⟨g1, o1 + k, none⟩ = some (.string ⟨n.toArray⟩) ∧ W5.cell? ⟨X, 0, none⟩ = some (.slice pB L cB) ∧ W5.cell? ⟨X, 1, none⟩ = some (.int .i64 (x2 : Int))) := ⟨g5W.cell H7.out.1 (by simp), g5W.cell H7.out.2.1 (by simp), g5W.cell H7.out.2.2.1 (by simp), g5W.cell H7.out.2.2.2 (by simp)⟩
      have keep : ∀ {b off : Nat} {u : Value} {cs : Array Value} {t : TypeId}, W5.cell? ⟨b, off, none⟩ = some u → (b < w2.heap.size ∨ (wa.drew.heap[b]? = some (.cells cs t (0, 0)) ∧ t ≠ 50)) → w5.cell? ⟨b, off, none⟩ = some u := fun hc hor => by
        refine g5.cell hc (fun e => ?_)
        have o5 := og _ e.symm
        rcases hor with hor | ⟨hk, ht⟩
        · have := o5.1; simp only at this; omega
        · obtain ⟨cs, hk2⟩ := o5.2
          simp only at hk2
          rw [hk] at hk2; cases hk2; exact ht rfl
      have g1lt : g1 < w2.heap.size := by
        obtain ⟨g1', o1', _, _, _, _, _, _, _, _, _, e, yn', _⟩ := HC.out w (grRefl w) k p hx
        cases e
        have := World.block_lt_of_cell? w _ yn'
        exact Nat.lt_of_lt_of_le this G2.out.size
      have HX5 : Hid (w5.cell? ⟨B, 0, none⟩ = some (.slice (some ⟨g1, o1, none⟩) N cN) ∧ w5.cell? ⟨g1, o1 + k, none⟩ = some (.string ⟨n.toArray⟩) ∧ w5.cell? ⟨X, 0, none⟩ = some (.slice pB L cB) ∧ w5.cell? ⟨X, 1, none⟩ = some (.int .i64 (x2 : Int))) := ⟨keep HXW.out.1 (Or.inr ⟨bBa, by decide⟩), keep (cs := #[]) (t := 0) HXW.out.2.1 (Or.inl g1lt), keep HXW.out.2.2.1 (Or.inr ⟨bX, by decide⟩), keep HXW.out.2.2.2 (Or.inr ⟨bX, by decide⟩)⟩
      have FIN : Hid (EiQ w2 w5 P5 (k + 1) C5 (absW s.fs (s.now.take (k + 1))) ∧ w2.grownBy w5 none ∧ w5.heap[B]? = some (.cells #[.slice (some ⟨g1, o1, none⟩) N cN, .slice (some ⟨g2, o2, none⟩) N cI] 95 (0, 0))) := by
        refine ⟨eq5, ?_, ?_⟩
        · have gg := grTrans (grTrans (grTrans GR.out.1 ga) (gr_drew wa)) g5W
          exact ⟨g5.os.trans gg.os, g5.tape.trans gg.tape, g5.output.trans gg.output, Nat.le_trans gg.size g5.size, fun i hi _ => (g5.block i (Nat.lt_of_lt_of_le hi gg.size) (fun e => by
            obtain ⟨hge, cs, hk2⟩ := og i e.symm
            omega)).trans (gg.block i hi (by simp))⟩
        · refine (g5.block B (Nat.lt_of_lt_of_le hwB (Nat.le_trans (Nat.le_trans ga.size (gr_drew wa).size) g5W.size)) (fun e => ?_)).trans ((g5W.block B (Nat.lt_of_lt_of_le hwB (Nat.le_trans ga.size (gr_drew wa).size)) (by simp)).trans bBa)
          obtain ⟨_, cs, hk2⟩ := og B e.symm
          have hk3 : wa.heap[B]? = _ := hk2
          rw [bBa] at hk3; simp at hk3
      have hS7 : ∀ u v : Value, (fun w' : World => w'.cell? ⟨f, 1, none⟩ = some (.slice (some ⟨g, o, none⟩) M c) ∧ w'.cell? ⟨B, 1, none⟩ = some (.slice (some ⟨g2, o2, none⟩) N cI) ∧ w'.cell? ⟨g2, o2 + k, none⟩ = some (.int .i64 (j : Int)) ∧ w'.cell? ⟨g, o + j * 2, none⟩ = some (.slice pB L cB) ∧ w'.cell? ⟨g, o + j * 2 + 1, none⟩ = some (.int .i64 (x2 : Int))) (wr.alloc (.cells #[u, v] 98)).drew := fun u v => ⟨(gB u v).cell z0 (by simp), (gB u v).cell b1 (by simp), (gB u v).cell y1 (by simp), (gB u v).cell z1 (by simp), (gB u v).cell z2 (by simp)⟩
      have HS7 := mkHid hS7
      have HXe := mkHid hXe
      have Hwa := mkHid hwa
      have HW5 := mkHid hW5
      clear hXe hwa hW5 hj5 hn5
      clear HC gB hS7 EQ GR hgd hno hby hbb hx eq5 gw5 g5 og g5W keep bX bBa gwa ga NW E0 hB G2 yn hL
      go_wp2_with fail
      refine wp_region_noPanic ?_
      refine wp_region_held_drew (S := fun w' : World => w'.cell? ⟨f, 1, none⟩ = some (.slice (some ⟨g, o, none⟩) M c) ∧ w'.cell? ⟨B, 1, none⟩ = some (.slice (some ⟨g2, o2, none⟩) N cI) ∧ w'.cell? ⟨g2, o2 + k, none⟩ = some (.int .i64 (j : Int)) ∧ w'.cell? ⟨g, o + j * 2, none⟩ = some (.slice pB L cB) ∧ w'.cell? ⟨g, o + j * 2 + 1, none⟩ = some (.int .i64 (x2 : Int))) (by kernel_rfl) (⟨z0, b1, y1, z1, z2⟩) (fun hH => ?_)
      refine tKx (i := 0) (v := .pointer (some ⟨f, 0, none⟩)) rfl rfl (by kernel_rfl) (fun _ _ _ h => h) ?_ hH ?_
      · intro w5 hSw; obtain ⟨hv1, hv2, hv3, hv4, hv5⟩ := hSw; go_simp
      simp only [zA9, zB9, zC9]
      refine tKx (i := 1) (v := .pointer (some ⟨f, 0, none⟩)) rfl rfl (by kernel_rfl) (fun _ _ _ h => h) ?_ hH ?_
      · intro w5 hSw; obtain ⟨hv1, hv2, hv3, hv4, hv5⟩ := hSw; go_simp
      simp only [zA9, zB9, zC9]
      refine tKx (i := 2) (v := .pointer (some ⟨f, 1, none⟩)) rfl rfl (by kernel_rfl) (fun _ _ _ h => h) ?_ hH ?_
      · intro w5 hSw; obtain ⟨hv1, hv2, hv3, hv4, hv5⟩ := hSw; go_simp
      simp only [zA9, zB9, zC9]
      refine tKx (i := 3) (v := .slice (some ⟨g, o, none⟩) M c) rfl rfl (by kernel_rfl) (fun _ _ _ h => h) ?_ hH ?_
      · intro w5 hSw; obtain ⟨hv1, hv2, hv3, hv4, hv5⟩ := hSw; go_simp
      simp only [zA9, zB9, zC9]
      refine tKx (i := 4) (v := .pointer (some ⟨B, 1, none⟩)) rfl rfl (by kernel_rfl) (fun _ _ _ h => h) ?_ hH ?_
      · intro w5 hSw; obtain ⟨hv1, hv2, hv3, hv4, hv5⟩ := hSw; go_simp
      simp only [zA9, zB9, zC9]
      refine tKx (i := 5) (v := .slice (some ⟨g2, o2, none⟩) N cI) rfl rfl (by kernel_rfl) (fun _ _ _ h => h) ?_ hH ?_
      · intro w5 hSw; obtain ⟨hv1, hv2, hv3, hv4, hv5⟩ := hSw; go_simp
      simp only [zA9, zB9, zC9]
      refine tKx (i := 6) (v := .int .i64 (k : Int)) rfl rfl (by kernel_rfl) (fun _ _ _ h => h) ?_ hH ?_
      · intro w5 hSw; obtain ⟨hv1, hv2, hv3, hv4, hv5⟩ := hSw; go_simp
      simp only [zA9, zB9, zC9]
      refine tKx (i := 7) (v := .pointer (some ⟨g2, o2 + k, none⟩)) rfl rfl (by kernel_rfl) (fun _ _ _ h => h) ?_ hH ?_
      · intro w5 hSw; obtain ⟨hv1, hv2, hv3, hv4, hv5⟩ := hSw; go_simp
      simp only [zA9, zB9, zC9]
      refine tKx (i := 8) (v := .int .i64 (j : Int)) rfl rfl (by kernel_rfl) (fun _ _ _ h => h) ?_ hH ?_
      · intro w5 hSw; obtain ⟨hv1, hv2, hv3, hv4, hv5⟩ := hSw; go_simp
      simp only [zA9, zB9, zC9]
      refine tKx (i := 9) (v := .pointer (some ⟨g, o + j * 2, none⟩)) rfl rfl (by kernel_rfl) (fun _ _ _ h => h) ?_ hH ?_
      · intro w5 hSw; obtain ⟨hv1, hv2, hv3, hv4, hv5⟩ := hSw; go_simp
      simp only [zA9, zB9, zC9]
      refine tKx (i := 10) (v := .agg #[.slice pB L cB, .int .i64 (x2 : Int)]) rfl rfl (by kernel_rfl) (fun _ _ _ h => h) ?_ hH ?_
      · intro w5 hSw; obtain ⟨hv1, hv2, hv3, hv4, hv5⟩ := hSw; go_simp
      simp only [zA9, zB9, zC9]
      refine wpAnyH_ready (rs := [11]) (by kernel_rfl) (by simp) ?_
      refine AllReadyH.cons rfl (fun K hK => ?_) AllReadyH.nil
      go_simp
      refine hK.out _ _ (HS7.out _ _) (fun _ => ?_)
      clear hK K hH
      refine wpAnyH_ready (rs := [12]) (by kernel_rfl) (by simp) ?_
      refine AllReadyH.cons rfl (fun K hK => ?_) AllReadyH.nil
      go_simp
      refine hK.out _ _ (HS7.out _ _) (fun _ => ?_)
      clear hK K
      refine wpAnyH_done (by kernel_rfl) ?_ _
      refine NoPanic.normal ?_
      clear HS7 z0 z1 z2 b1 y1 b0
      rw [← show X = wr.heap.size from HXe.out, ← show wa = _ from Hwa.out]
      clear Hwa HXe
      go_wp2_with fail
      refine wp_region_noPanic ?_
      refine wp_region_held_drew (S := fun w' : World => w'.cell? ⟨B, 0, none⟩ = some (.slice (some ⟨g1, o1, none⟩) N cN) ∧ w'.cell? ⟨g1, o1 + k, none⟩ = some (.string ⟨n.toArray⟩) ∧ w'.cell? ⟨X, 0, none⟩ = some (.slice pB L cB) ∧ w'.cell? ⟨X, 1, none⟩ = some (.int .i64 (x2 : Int))) (by kernel_rfl) (H7.out) (fun hH => ?_)
      refine tKx (i := 0) (v := .slice P3 k C3) rfl rfl (by kernel_rfl) (fun _ _ _ h => h) ?_ hH ?_
      · intro w5 hSw; obtain ⟨hv1, hv2, hv3, hv4⟩ := hSw; go_simp
      simp only [zA9, zB9, zC9]
      refine tKx (i := 1) (v := .pointer (some ⟨B, 0, none⟩)) rfl rfl (by kernel_rfl) (fun _ _ _ h => h) ?_ hH ?_
      · intro w5 hSw; obtain ⟨hv1, hv2, hv3, hv4⟩ := hSw; go_simp
      simp only [zA9, zB9, zC9]
      refine tKx (i := 2) (v := .slice (some ⟨g1, o1, none⟩) N cN) rfl rfl (by kernel_rfl) (fun _ _ _ h => h) ?_ hH ?_
      · intro w5 hSw; obtain ⟨hv1, hv2, hv3, hv4⟩ := hSw; go_simp
      simp only [zA9, zB9, zC9]
      refine tKx (i := 3) (v := .int .i64 (k : Int)) rfl rfl (by kernel_rfl) (fun _ _ _ h => h) ?_ hH ?_
      · intro w5 hSw; obtain ⟨hv1, hv2, hv3, hv4⟩ := hSw; go_simp
      simp only [zA9, zB9, zC9]
      refine tKx (i := 4) (v := .pointer (some ⟨g1, o1 + k, none⟩)) rfl rfl (by kernel_rfl) (fun _ _ _ h => h) ?_ hH ?_
      · intro w5 hSw; obtain ⟨hv1, hv2, hv3, hv4⟩ := hSw; go_simp
      simp only [zA9, zB9, zC9]
      refine tKx (i := 5) (v := .string ⟨n.toArray⟩) rfl rfl (by kernel_rfl) (fun _ _ _ h => h) ?_ hH ?_
      · intro w5 hSw; obtain ⟨hv1, hv2, hv3, hv4⟩ := hSw; go_simp
      simp only [zA9, zB9, zC9]
      refine tKx (i := 6) (v := .pointer (some ⟨X, 0, none⟩)) rfl rfl (by kernel_rfl) (fun _ _ _ h => h) ?_ hH ?_
      · intro w5 hSw; obtain ⟨hv1, hv2, hv3, hv4⟩ := hSw; go_simp
      simp only [zA9, zB9, zC9]
      refine tKx (i := 7) (v := .slice pB L cB) rfl rfl (by kernel_rfl) (fun _ _ _ h => h) ?_ hH ?_
      · intro w5 hSw; obtain ⟨hv1, hv2, hv3, hv4⟩ := hSw; go_simp
      simp only [zA9, zB9, zC9]
      refine tKx (i := 8) (v := .pointer (some ⟨X, 1, none⟩)) rfl rfl (by kernel_rfl) (fun _ _ _ h => h) ?_ hH ?_
      · intro w5 hSw; obtain ⟨hv1, hv2, hv3, hv4⟩ := hSw; go_simp
      simp only [zA9, zB9, zC9]
      refine tKx (i := 9) (v := .int .i64 (x2 : Int)) rfl rfl (by kernel_rfl) (fun _ _ _ h => h) ?_ hH ?_
      · intro w5 hSw; obtain ⟨hv1, hv2, hv3, hv4⟩ := hSw; go_simp
      simp only [zA9, zB9, zC9]
      refine tKx (i := 10) (v := .agg #[.string ⟨n.toArray⟩, .slice pB L cB, .int .i64 (x2 : Int)]) rfl rfl (by kernel_rfl) (fun _ _ _ h => h) ?_ hH ?_
      · intro w5 hSw; obtain ⟨hv1, hv2, hv3, hv4⟩ := hSw; go_simp
      simp only [zA9, zB9, zC9]
      refine wpAnyH_ready (rs := [11]) (by kernel_rfl) (by simp) ?_
      refine AllReadyH.cons rfl (fun K hK => ?_) AllReadyH.nil
      refine step_lit3 rfl (.tmp 37) rfl rfl ?_
      rw [← show W5 = _ from HW5.out]
      refine hK.out _ _ HXW.out (fun hH => ?_)
      clear hK K
      simp only [Act.put, List.setIfInBounds_toArray]
      refine wpAnyH_ready (rs := [12]) (by kernel_rfl) (by simp) ?_
      refine AllReadyH.cons rfl (fun K hK => ?_) AllReadyH.nil
      refine step_app 45 rfl (.tmp 27) (.tmp 38) rfl rfl rfl run5 ?_
      refine hK.out _ _ HX5.out (fun hH => ?_)
      clear hK K
      simp only [Act.put]
      refine wpAnyH_ready (rs := [13]) (by kernel_rfl) (by simp) ?_
      refine AllReadyH.cons rfl (fun K hK => ?_) AllReadyH.nil
      go_simp
      refine hK.out _ _ HX5.out (fun hH => ?_)
      clear hK K
      refine wpAnyH_done (by kernel_rfl) ?_ _
      refine NoPanic.normal ?_
      clear hH HW5 run5
      go_wp2_with fail
      go_roundw
      case rel => exact ⟨k + 1, P5, C5, by go_num, hlt, rfl, FIN.out.1, FIN.out.2⟩
      case measure => simp [intOf]; omega
    · have hlti : ¬ (k : Int) < (N : Int) := by omega
      obtain rfl : N = k := by omega
      have FIN : Hid (enIn wr P3 (absW s.fs s.now) ∧ w.grownBy wr none) := by
        have h5 := EQ.out.en.1
        rw [List.take_of_length_le (by rw [HNL.out]; exact Nat.le_refl _)] at h5
        exact ⟨h5, grTrans G2.out GR.out.1⟩
      clear HC NW
      go_wp2_with fail
      go_ret
      exact ⟨P3, C3, rfl, FIN.out.1, FIN.out.2⟩
end Go.Proofs.Ytdiehlioemmakaa

