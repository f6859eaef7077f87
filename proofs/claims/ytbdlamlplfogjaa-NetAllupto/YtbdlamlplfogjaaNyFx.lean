/-
  Pairs of nets: the one that is called, and those that were cloned.
-/
import Derived.Test.YtbdlamlplfogjaaNyEx
import Derived.Test.YtbdlamlplfogjaaGL
namespace Go.Proofs.Ytbdlamlplfogjaa
open Go.RowKit Go.Maps Go.Joins
variable {P Q P' Q' : Nat → Prop} {w w' w1 wr : World} {n c d N k pr : Nat} {S : St} {T : Nat → Nat → List ByteArray} {L : Ly} {R : Lr}

theorem RL.cold {Q1 : Nat → Prop} (h : RL Q w d S T R) (hc : ∀ b, Q b → (kd w b = 51 + 2 ∨ kd w b = 27 + 2 ∨ kd w b = 5 + 2) → Q1 b) (hd : Q1 d) (ht : Q1 R.tg) (hy : Q1 R.yg) (hm : Q1 R.mg) (hr : ∀ i, i < S.N → Q1 (R.yb i)) (ha : ∀ g, R.av.ownBlock = some g → Q1 g) (hb : ∀ b, Q1 b → b < w.heap.size) : RL Q1 w d S T R := by
  have by' : ∀ v x, byV w Q v x → byV w Q1 v x := fun v x hv => by
    obtain ⟨p, cap, e, h1, h2⟩ := hv
    exact ⟨p, cap, e, h1, fun a ea => ⟨hc _ (h2 a ea).1 (Or.inr (Or.inr (h2 a ea).2)), (h2 a ea).2⟩⟩
  refine ⟨hb, hd, ht, hy, hm, hr, h.n1, h.n64, h.cp, h.net, h.th, h.yo, h.yr, h.yd, h.mo, fun i hi => ?_, fun i j hi hj => ?_, ?_⟩
  · obtain ⟨xs, k1, k2, k3, k4⟩ := h.mr i hi
    exact ⟨xs, k1, fun g hg => hc g (k2 g hg) (Or.inl (k1.kd g hg).1), k3, fun k hk m hm => by obtain ⟨bv, e, hv⟩ := k4 k hk m hm; exact ⟨bv, e, by' _ _ hv⟩⟩
  · obtain ⟨xs, k1, k2, k3, k4⟩ := h.sr i j hi hj
    exact ⟨xs, k1, fun g hg => hc g (k2 g hg) (Or.inr (Or.inl (k1.kd g hg).1)), k3, fun k hk m hm => by obtain ⟨bv, e, hv⟩ := k4 k hk m hm; exact ⟨bv, e, by' _ _ hv⟩⟩
  · obtain ⟨xs, k1, k2, k3, k4⟩ := h.ar
    exact ⟨xs, k1, ha, k3, fun k hk m hm => by obtain ⟨bv, e, hv⟩ := k4 k hk m hm; exact ⟨bv, e, by' _ _ hv⟩⟩
/-- what is on the way, in blocks of A -/
def ADk (w : World) (d : Nat) (l : List Pk) (A : Nat → Prop) : Prop := ∃ v, w.cell? ⟨d, 3, none⟩ = some v ∧ rwR w A 97 6 v l.length (aiR w A l) ∧ A d ∧ kd w d ≠ 5 + 2 ∧ ∀ b, A b → b < w.heap.size
theorem ADk.ad {A : Nat → Prop} {l : List Pk} (h : ADk w d l A) : AD w d l := by
  obtain ⟨v, h1, h2, _, _, h3⟩ := h
  exact ⟨A, v, h1, h2, h3⟩
theorem ADk.pb {A : Nat → Prop} {l : List Pk} (h : ADk w d l A) : ∀ b, A b → b < w.heap.size := by
  obtain ⟨v, h1, h2, _, _, h3⟩ := h
  exact h3
theorem ADk.mv {A C : Nat → Prop} {l : List Pk} (h : ADk w d l A) (hc : Chg C w w') (hn : ∀ b, A b → ¬ C b) : ADk w' d l A := by
  obtain ⟨v, h1, h2, h3, h4, h5⟩ := h
  have ks : ∀ b, A b → w'.heap[b]? = w.heap[b]? := fun b hb => hc.block b (h5 b hb) (hn b hb)
  refine ⟨v, ?_, h2.mv hc (fun b _ hb => hn b hb) (fun _ e => e) (fun k ys _ hr m hm => by obtain ⟨bv, e, hv⟩ := hr m hm; exact ⟨bv, e, hv.mv hc (fun b _ hb => hn b hb) h5 (fun _ e => e)⟩), h3, by rw [kd_of (ks d h3)]; exact h4, fun b hb => Nat.lt_of_lt_of_le (h5 b hb) hc.size⟩
  have := ks d h3
  unfold World.cell? at h1 ⊢
  simp only at h1 this ⊢
  rw [this]; exact h1
/-- a pair that was cloned, beside the nets in P and Q -/
def OP (P Q : Nat → Prop) (pr : Nat) (wr : World) : Prop := ∃ Pi ci Li ni di Si A, NetL Pi wr ni ci Si Li ∧ ADk wr di Si.fl A ∧ wr.heap[pr]? = some (.cells #[.pointer (some ⟨ni, 0, none⟩), .pointer (some ⟨di, 0, none⟩)] 33 (0, 0)) ∧ Si.fl.length ≤ 4096 ∧ (∀ p ∈ Si.fl, szB p.x) ∧ (∀ b, Pi b → ¬ P b ∧ ¬ Q b) ∧ (∀ b, A b → ¬ P b ∧ (kd wr b ≠ 5 + 2 → ¬ Q b)) ∧ ¬ P pr ∧ ¬ Q pr
theorem OP.step (h : OP P Q pr wr) (hc : Chg (bqs P Q wr) wr w') (h1 : ∀ i, P' i → P i ∨ wr.heap.size ≤ i) (h2 : ∀ i, Q' i → Q i ∨ wr.heap.size ≤ i) : OP P' Q' pr w' := by
  obtain ⟨Pi, ci, Li, ni, di, Si, A, a1, a2, a3, a4, a5, a6, a7, a8, a9⟩ := h
  have nA : ∀ b, A b → ¬ bqs P Q wr b := fun b hb e => e.elim (a7 b hb).1 (fun e2 => (a7 b hb).2 e2.2 e2.1)
  have hA := a2.pb
  have lpr := lt_of_heap a3
  refine ⟨Pi, ci, Li, ni, di, Si, A, a1.away hc (fun b hb e => e.elim (a6 b hb).1 (fun e2 => (a6 b hb).2 e2.1)), a2.mv hc nA, hc.at_ a3 (fun e => e.elim a8 (fun e2 => a9 e2.1)), a4, a5, fun b hb => ⟨fun e => ?_, fun e => ?_⟩, fun b hb => ⟨fun e => ?_, fun hk e => ?_⟩, fun e => ?_, fun e => ?_⟩
  · rcases h1 b e with e1 | e1
    · exact (a6 b hb).1 e1
    · have := a1.pb b hb; omega
  · rcases h2 b e with e1 | e1
    · exact (a6 b hb).2 e1
    · have := a1.pb b hb; omega
  · rcases h1 b e with e1 | e1
    · exact (a7 b hb).1 e1
    · have := hA b hb; omega
  · rcases h2 b e with e1 | e1
    · exact (a7 b hb).2 (by rw [← kd_of (hc.block b (hA b hb) (nA b hb))]; exact hk) e1
    · have := hA b hb; omega
  · rcases h1 pr e with e1 | e1
    · exact a8 e1
    · omega
  · rcases h2 pr e with e1 | e1
    · exact a9 e1
    · omega
theorem OP.grow (h : OP P Q pr wr) (g : wr.grownBy w' none) : OP P Q pr w' := h.step (Chg.of_none g _) (fun _ e => Or.inl e) (fun _ e => Or.inl e)
theorem OP.air (h : OP P Q pr wr) (g : wr.grownBy w' none) : Calls Try.prog 10 #[.pointer (some ⟨pr, 0, none⟩)] w' fun e w2 => e = .returned (.bool true) ∧ wr.grownBy w2 none := by
  obtain ⟨Pi, ci, Li, ni, di, Si, A, a1, a2, a3, a4, a5, _⟩ := h
  refine (air_any (a1.kept g) (a2.ad.kept g) (box_keep a3 g (by simp)) a4 a5).mono ?_
  rintro e w2 ⟨rfl, g2⟩
  exact ⟨rfl, grown_none_trans g g2⟩
theorem rwPp : Rw 26 23 (.pointer none) 1 8 := ⟨by kernel_rfl, by kernel_rfl, rfl, by decide, by decide⟩
def ptrs (ps : List Nat) : List Value := ps.map fun q => .pointer (some ⟨q, 0, none⟩)
/-- all pairs of the law -/
def LA (w1 : World) (N k pr : Nat) (v : Value) (ps : List Nat) (wr : World) : Prop := ∃ n d P Q S T c L R, Bo P Q wr n c d S S T L R ∧ Good S T k N ∧ c ≤ 128 * k ∧ wr.heap[pr]? = some (.cells #[.pointer (some ⟨n, 0, none⟩), .pointer (some ⟨d, 0, none⟩)] 33 (0, 0)) ∧ ¬ P pr ∧ ¬ Q pr ∧ (∀ i, P i → w1.heap.size ≤ i) ∧ (∀ i, Q i → w1.heap.size ≤ i) ∧ w1.heap.size ≤ pr ∧ w1.grownBy wr none ∧ xRow w1 23 1 (ps.length + 1) v (ptrs (ps ++ [pr])) wr ∧ (∀ g, v.ownBlock = some g → ¬ P g ∧ ¬ Q g) ∧ ∀ q ∈ ps, OP (fun b => P b ∨ v.ownBlock = some b) Q q wr
variable {v : Value} {ps : List Nat}
theorem LA.gr (h : LA w1 N k pr v ps wr) : w1.grownBy wr none := by
  obtain ⟨n, d, P, Q, S, T, c, L, R, b, G, hc, hpr, nP, nQ, sP, sQ, sp, gr, _⟩ := h
  exact gr
theorem LA.grow (h : LA w1 N k pr v ps wr) (g : wr.grownBy w' none) : LA w1 N k pr v ps w' := by
  obtain ⟨n, d, P, Q, S, T, c, L, R, b, G, hc, hpr, nP, nQ, sP, sQ, sp, gr, xr, xn, op⟩ := h
  exact ⟨n, d, P, Q, S, T, c, L, R, ⟨b.p.kept g, b.q.kept g, b.x⟩, G, hc, box_keep hpr g (by simp), nP, nQ, sP, sQ, sp, grown_none_trans gr g, xr.kept (Chg.of_none g (fun _ => False)) (fun _ _ e => e), xn, fun q hq => (op q hq).grow g⟩
theorem LA.does {w0 : World} {i : Nat} {x : Ac} {l : List Ac} {Pa : Option Addr} (h : LA w1 N k pr v ps wr) (hk : k + 1 ≤ 2000000) (g1 : w0.grownBy w1 none) (ha : nacs w0 Pa l) (hx : l[i]? = some x) : Calls Try.prog 9 #[.pointer (some ⟨pr, 0, none⟩), .agg x.cells] wr fun e w' => e = .returned (.bool true) ∧ LA w1 N (k + 1) pr v ps w' := by
  obtain ⟨n, d, P, Q, S, T, c, L, R, b, G, hc, hpr, nP, nQ, sP, sQ, sp, gr, xr, xn, op⟩ := h
  have gw := grown_none_trans g1 gr
  obtain ⟨g, o, _, _, _, _, _, _, _, hby, hnl, hbl⟩ := ha.at hx gw
  have hb0 : byA w0 x.p x.b := by
    rcases ha with e | ⟨g, o, _, e⟩
    · rw [e] at hx; simp at hx
    · exact (e i x hx).2.1
  refine (does_any b G (by omega) (by omega) hpr nP nQ x hby hnl hbl (fun a ha hne => ?_)).mono ?_
  · have hlt : a.block < w1.heap.size := by
      rcases hb0 with e | ⟨g', o', e, hcs⟩
      · exact absurd e hne
      · rw [e] at ha; cases ha
        cases hl : x.b with
        | nil => exact absurd hl hne
        | cons y ys =>
          have := hcs 0 y (by rw [hl]; rfl)
          exact Nat.lt_of_lt_of_le (World.block_lt_of_cell? w0 _ this) g1.size
    exact ⟨fun e => by have := sP _ e; omega, fun e => by have := sQ _ e; omega⟩
  · rintro e w5 ⟨rfl, S', T', G', U⟩
    refine ⟨rfl, ?_⟩
    have hpr5 := U.at_ hpr nP nQ
    have lpr := lt_of_heap hpr
    obtain ⟨P', Q', L', R', b', s1, s2, C⟩ := U
    have gs := gr.size
    refine ⟨n, d, P', Q', S', T', c + 128, L', R', b', G', by omega, hpr5, fun e => ?_, fun e => ?_, fun i hi => ?_, fun i hi => ?_, sp, grown_chg gr C (fun i e => e.elim (sP i) (fun e2 => sQ i e2.1)), xr.kept C (fun g hg e => e.elim (xn g hg).1 (fun e2 => (xn g hg).2 e2.1)), fun g hg => ⟨fun e => ?_, fun e => ?_⟩, fun q hq => (op q hq).step (C.mono (fun b _ e => e.elim (fun e2 => Or.inl (Or.inl e2)) Or.inr)) (fun i hi => hi.elim (fun e => (s1 i e).imp Or.inl id) (fun e => Or.inl (Or.inr e))) s2⟩
    · rcases s1 pr e with e | e
      · exact nP e
      · omega
    · rcases s2 pr e with e | e
      · exact nQ e
      · omega
    · rcases s1 i hi with e | e
      · exact sP i e
      · omega
    · rcases s2 i hi with e | e
      · exact sQ i e
      · omega
    · rcases s1 g e with e | e
      · exact (xn g hg).1 e
      · have := (xr.kd g hg).2; omega
    · rcases s2 g e with e | e
      · exact (xn g hg).2 e
      · have := (xr.kd g hg).2; omega
theorem LA.air (h : LA w1 N k pr v ps wr) (g : wr.grownBy w' none) : Calls Try.prog 10 #[.pointer (some ⟨pr, 0, none⟩)] w' fun e w2 => e = .returned (.bool true) ∧ wr.grownBy w2 none := by
  obtain ⟨n, d, P, Q, S, T, c, L, R, b, G, hc, hpr, _⟩ := h
  refine (air_any (b.p.kept g) (b.q.ad.kept g) (box_keep hpr g (by simp)) G.fb G.sz.f).mono ?_
  rintro e w2 ⟨rfl, g2⟩
  exact ⟨rfl, grown_none_trans g g2⟩
/-- the pair that is called, cloned -/
theorem LA.clone (h : LA w1 N k pr v ps wr) (hk : k ≤ 2000000) : ∃ n d S T, wr.cell? ⟨pr, 0, none⟩ = some (.pointer (some ⟨n, 0, none⟩)) ∧ wr.cell? ⟨pr, 1, none⟩ = some (.pointer (some ⟨d, 0, none⟩)) ∧ Calls Try.prog 7 #[.pointer (some ⟨n, 0, none⟩)] wr (ClQ wr (128 * k) S) ∧
    ∀ wa n2 L2, NetL (fun i => wr.heap.size ≤ i ∧ i < wa.heap.size) wa n2 (128 * k) S L2 → wr.grownBy wa none → ∀ Wa, wa.grownBy Wa none → ∃ Q0, Calls Try.prog 8 #[.pointer (some ⟨d, 0, none⟩)] Wa (CyQ Q0 Wa S T) ∧
      ∀ wb cb R2, RL (ext Q0 Wa wb) wb cb S T R2 → Wa.grownBy wb none → Wa.heap.size ≤ cb → NewR Wa S.N R2 → ps.length ≤ 900 →
        ∃ p' c' w4, (∀ ty, (Builtin.append_ #[26, 26] ty #[v, .slice (some ⟨wb.heap.size + 1, 0, none⟩) 1 1]).run Try.prog ((wb.alloc (.cells #[.pointer (some ⟨n2, 0, none⟩), .pointer (some ⟨cb, 0, none⟩)] 33)).alloc (.cells #[.pointer (some ⟨wb.heap.size, 0, none⟩)] 23)) = .ok (.slice p' (ps.length + 2) c') w4) ∧ LA w1 N k wb.heap.size (.slice p' (ps.length + 2) c') (ps ++ [pr]) w4 := by
  obtain ⟨n, d, P, Q, S, T, c, L, R, b, G, hc, hpr, nP, nQ, sP, sQ, sp, gr, xr, xn, op⟩ := h
  obtain ⟨q0, q1, _⟩ := cells2 hpr
  have ok := G.ok
  have hlt := ok.lt
  have lpr := lt_of_heap hpr
  refine ⟨n, d, S, T, q0, q1, Clone_any (b.p.le hc) (by have := G.fb; omega) (fun i => by have := ok.ml i; omega) (fun i j => by have := ok.wu i j; omega) (by omega), fun wa n2 L2 hN ga Wa gWa => ⟨Q, rCopy_any (b.q.kept (grown_none_trans ga gWa)) G.fb, fun wb cb R2 hR gb hcb hnew hps => ?_⟩⟩
  have g1 := grown_none_trans ga gWa
  have g2 := grown_none_trans g1 gb
  have sa := ga.size
  have sWa := gWa.size
  have sb := gb.size
  obtain ⟨t1, t2, t3, t4, t5⟩ := hnew
  have gp := grown_al (grown_refl wb) (.cells #[.pointer (some ⟨n2, 0, none⟩), .pointer (some ⟨cb, 0, none⟩)] 33)
  have szp : (wb.alloc (.cells #[.pointer (some ⟨n2, 0, none⟩), .pointer (some ⟨cb, 0, none⟩)] 33)).heap.size = wb.heap.size + 1 := by simp
  obtain ⟨wc, hwc⟩ : ∃ wc, wc = wb.alloc (.cells #[.pointer (some ⟨n2, 0, none⟩), .pointer (some ⟨cb, 0, none⟩)] 33) := ⟨_, rfl⟩
  rw [← hwc] at gp szp
  have hbx : wc.heap[wb.heap.size]? = some (.cells #[.pointer (some ⟨n2, 0, none⟩), .pointer (some ⟨cb, 0, none⟩)] 33 (0, 0)) := by rw [hwc]; exact heap_alloc_new _ _
  have g3 := grown_none_trans g2 gp
  have hx3 := xr.kept (Chg.of_none g3 (fun _ => False)) (fun _ _ e => e)
  obtain ⟨p', c', w4, hr, a4, g4, C4, o4⟩ := rwPp.xpush (grown_none_trans gr g3) hx3 [.pointer (some ⟨wb.heap.size, 0, none⟩)] rfl (by intro u hu; simp at hu; rw [hu]; rfl) (by omega)
  rw [szp] at hr
  have lenp : ps.length + 1 + 1 = ps.length + 2 := rfl
  refine ⟨p', c', w4, by rw [← hwc]; exact hr, ?_⟩
  -- the copy's blocks: what is shared, and what is new
  obtain ⟨Qn, hQn⟩ : ∃ Qn : Nat → Prop, Qn = fun b => (Q b ∧ (kd wb b = 51 + 2 ∨ kd wb b = 27 + 2 ∨ kd wb b = 5 + 2)) ∨ (Wa.heap.size ≤ b ∧ b < wb.heap.size) := ⟨_, rfl⟩
  have inQ : ∀ b, Q b → b < wr.heap.size := b.q.pb
  have hb2 := lt_of_heap hR.net
  have kb := hR.kb
  have RLn : RL Qn wb cb S T R2 := by
    rw [hQn]
    obtain ⟨z1, y1, _⟩ := hR.th
    obtain ⟨z2, y2, _⟩ := hR.yo
    obtain ⟨z3, y3, _⟩ := hR.mo
    refine hR.cold (fun x hx hk => ?_) (Or.inr ⟨hcb, hb2⟩) (Or.inr ⟨t1, lt_of_heap y1⟩) (Or.inr ⟨t2, lt_of_heap y2⟩) (Or.inr ⟨t3, lt_of_heap y3⟩) (fun i hi => Or.inr ⟨t4 i hi, hR.pb _ (hR.qr i hi)⟩) (fun g hg => ?_) (fun x hx => ?_)
    · rcases hx with e | e
      · exact Or.inl ⟨e, hk⟩
      · exact Or.inr e
    · obtain ⟨xs, k1, _⟩ := hR.ar
      exact Or.inr ⟨t5 g hg, (k1.kd g hg).2⟩
    · rcases hx with e | e
      · have := inQ x e.1; omega
      · exact e.2
  have subQ : ∀ x, Qn x → Q x ∨ Wa.heap.size ≤ x := fun x hx => by
    rw [hQn] at hx
    rcases hx with e | e
    · exact Or.inl e.1
    · exact Or.inr e.1
  have nQc : ∀ x, Qn x → x < wb.heap.size := RLn.pb
  have vb : ∀ g, v.ownBlock = some g → g < wr.heap.size ∧ ¬ P g ∧ ¬ Q g := fun g hg => ⟨(xr.kd g hg).2, xn g hg⟩
  have nC4 : ∀ x, x < wb.heap.size → (wr.heap.size ≤ x ∨ P x ∨ Q x) → ¬ v.ownBlock = some x := fun x _ hx e => by
    obtain ⟨e1, e2, e3⟩ := vb x e
    rcases hx with h | h | h
    · omega
    · exact e2 h
    · exact e3 h
  have gw4 : w1.grownBy w4 none := g4
  have G4c : Chg (fun x => v.ownBlock = some x) wb w4 := (Chg.of_none gp _).trans C4
  have NL : NetL (fun i => wr.heap.size ≤ i ∧ i < wa.heap.size) w4 n2 (128 * k) S L2 := (hN.kept (grown_none_trans gWa gb)).away G4c (fun x hx => nC4 x (by omega) (Or.inl hx.1))
  have RL4 : RL Qn w4 cb S T R2 := RLn.away G4c (fun x hx => nC4 x (nQc x hx) (by
    rcases subQ x hx with e | e
    · exact Or.inr (Or.inr e)
    · exact Or.inl (by omega))) (fun _ e => e) (fun x hx => Nat.lt_of_lt_of_le (nQc x hx) G4c.size)
  have kdeq : ∀ x, x < wr.heap.size → ¬ v.ownBlock = some x → kd w4 x = kd wr x := fun x hx hne => by
    rw [kd_of (G4c.block x (by omega) hne)]
    exact kd_of (g2.block x hx (by simp))
  have kdw : ∀ x, x < wr.heap.size → kd wb x = kd wr x := fun x hx => kd_of (g2.block x hx (by simp))
  have stay : Chg (fun x => v.ownBlock = some x) wr w4 := (Chg.of_none g2 _).trans G4c
  refine ⟨n2, cb, (fun i => wr.heap.size ≤ i ∧ i < wa.heap.size), Qn, S, T, 128 * k, L2, R2, ⟨NL, RL4, fun i h1 h2 => ?_⟩, G, by omega, ?_, fun e => ?_, fun e => ?_, fun i hi => ?_, fun i hi => ?_, ?_, gw4, ?_, fun g hg => ?_, fun q hq => ?_⟩
  · rcases subQ i h2 with e | e
    · have := inQ i e; omega
    · omega
  · exact C4.at_ hbx (fun e => by have := (vb _ e).1; omega)
  · have := e.2; omega
  · have := nQc _ e; omega
  · have := gr.size; omega
  · rcases subQ i hi with e | e
    · exact sQ i e
    · have := gr.size; omega
  · have := gr.size; omega
  · have e1 : (ps ++ [pr]).length + 1 = ps.length + 1 + 1 := by simp
    have e2 : ptrs (ps ++ [pr] ++ [wb.heap.size]) = ptrs (ps ++ [pr]) ++ [.pointer (some ⟨wb.heap.size, 0, none⟩)] := by simp [ptrs]
    rw [e1, e2]; exact a4
  · rcases o4 g hg with e | e
    · obtain ⟨e1, e2, e3⟩ := vb g e
      refine ⟨fun e4 => by omega, fun e4 => ?_⟩
      rcases subQ g e4 with e5 | e5
      · exact e3 e5
      · omega
    · refine ⟨fun e4 => by omega, fun e4 => ?_⟩
      have := nQc g e4
      omega
  · have sP' : ∀ i, ((wr.heap.size ≤ i ∧ i < wa.heap.size) ∨ (Value.slice p' (ps.length + 1 + 1) c').ownBlock = some i) → (P i ∨ v.ownBlock = some i) ∨ wr.heap.size ≤ i := fun i hi => by
      rcases hi with e | e
      · exact Or.inr e.1
      · rcases o4 i e with e1 | e1
        · exact Or.inl (Or.inr e1)
        · exact Or.inr (by omega)
    have sQ' : ∀ i, Qn i → Q i ∨ wr.heap.size ≤ i := fun i hi => (subQ i hi).imp id (fun e => by omega)
    rcases List.mem_append.1 hq with e | e
    · exact (op q e).step (stay.mono (fun x _ e => Or.inl (Or.inr e))) sP' sQ'
    · have eq' : q = pr := by simpa using e
      subst eq'
      have nv : ∀ x, v.ownBlock = some x → ¬ P x ∧ ¬ Q x := fun x hx => xn x hx
      have npr : ¬ v.ownBlock = some q := fun e => by
        have k1 := (xr.kd q e).1
        rw [kd_cells hpr] at k1; simp at k1
      have adk : ADk wr d S.fl (fun x => Q x ∧ (x = d ∨ R.av.ownBlock = some x ∨ kd wr x = 5 + 2)) := by
        obtain ⟨xs, k1, k2, k3, k4⟩ := b.q.ar
        refine ⟨R.av, b.q.cs.2.2.2.1, ⟨xs, k1, fun g hg => ⟨k2 g hg, Or.inr (Or.inl hg)⟩, k3, fun k hk m hm => ?_⟩, ⟨b.q.qd, Or.inl rfl⟩, by rw [b.q.kb.1]; decide, fun x hx => inQ x hx.1⟩
        obtain ⟨bv, e, pp, cc, e1, e2, e3⟩ := k4 k hk m hm
        exact ⟨bv, e, pp, cc, e1, e2, fun a ha => ⟨⟨(e3 a ha).1, Or.inr (Or.inr (e3 a ha).2)⟩, (e3 a ha).2⟩⟩
      refine ⟨P, c, L, n, d, S, _, b.p.away stay (fun x hx e => (nv x e).1 hx), adk.mv stay (fun x hx e => (nv x e).2 hx.1), stay.at_ hpr npr, G.fb, G.sz.f, fun x hx => ⟨fun e => ?_, fun e => ?_⟩, fun x hx => ⟨fun e => ?_, fun hk e => ?_⟩, fun e => ?_, fun e => ?_⟩
      · have lx := b.p.pb x hx
        rcases sP' x e with e1 | e1
        · rcases e with e2 | e2
          · omega
          · rcases o4 x e2 with e3 | e3
            · exact (nv x e3).1 hx
            · omega
        · omega
      · have lx := b.p.pb x hx
        rcases sQ' x e with e1 | e1
        · exact b.x x hx e1
        · omega
      · have lx := inQ x hx.1
        rcases e with e2 | e2
        · omega
        · rcases o4 x e2 with e3 | e3
          · exact (nv x e3).2 hx.1
          · omega
      · have lx := inQ x hx.1
        have nx : ¬ v.ownBlock = some x := fun e => (nv x e).2 hx.1
        rw [kdeq x lx nx] at hk
        rw [hQn] at e
        rcases e with e1 | e1
        · have k2 := e1.2
          rw [kdw x lx] at k2
          rcases hx.2 with e2 | e2 | e2
          · rw [e2, b.q.kb.1] at k2; simp at k2
          · obtain ⟨xs, k1, _⟩ := b.q.ar
            rw [(k1.kd x e2).1] at k2; simp at k2
          · exact hk e2
        · omega
      · rcases e with e2 | e2
        · omega
        · rcases o4 q e2 with e3 | e3
          · exact npr e3
          · omega
      · rcases sQ' q e with e1 | e1
        · exact nQ e1
        · omega
end Go.Proofs.Ytbdlamlplfogjaa
