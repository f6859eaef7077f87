/-
  What the document's list and the tree's have in common stays so when an entry goes in or out.
-/
import Derived.Test.YtclcajnodoifjaaGreatDoorHAO
namespace Go.Proofs.YtclcajnodoifjaaGreatDoor
open Go.RowKit Go.Shelf Go.Joins Go.Maps
set_option maxRecDepth 100000

theorem ordV_self (v : Va) : ordV v v = 0 := by have := od_ordV.turn v v; omega
/-- a value that is kept stands where it stood -/
theorem kep_ord {v : Va} (h : v.chk = 0) : ordV (kepV v) v = 0 := by
  have hs := ordV_self v
  unfold Va.chk chk at h
  by_cases h0 : v.ty < 0 ∨ 4 < v.ty ∨ (v.ty = 4 ∧ v.n ≠ 0 ∧ v.n ≠ 1)
  · rw [if_pos h0] at h; cases h
  · have hc : v.ty = 0 ∨ v.ty = 1 ∨ v.ty = 2 ∨ v.ty = 3 ∨ v.ty = 4 := by omega
    rcases hc with e | e | e | e | e <;> simp [ordV, kepV, numC, grp, e] at hs ⊢ <;> exact hs
theorem kep_row : ∀ {k : List Va}, errs k = 0 → rowsV (k.map kepV) k = 0
  | [], _ => rfl
  | v :: k, h => by
    have hv : v.chk = 0 := by
      by_cases hh : v.chk = 0
      · exact hh
      · rw [errs_stop hh] at h; exact h
    rw [errs_pass hv] at h
    show (if ordV (kepV v) v = 0 then rowsV (k.map kepV) k else ordV (kepV v) v) = 0
    rw [if_pos (kep_ord hv)]
    exact kep_row h
theorem ordE_zero {a b : En} : ordE a b = 0 ↔ rowsV a.key b.key = 0 ∧ a.id = b.id := by
  unfold ordE
  split
  · rename_i h
    rw [cmpI_zero]
    exact ⟨fun e => ⟨h, e⟩, fun e => e.2⟩
  · rename_i h
    exact ⟨fun e => absurd e h, fun e => absurd e.1 h⟩
theorem Agr.ord {a b : En} (h : Agr a b) : ordE a b = 0 := ordE_zero.2 ⟨h.2.1, h.1⟩
theorem ord_like {a b x : En} (h : ordE a b = 0) : (ordE a x ≤ 0 ↔ ordE b x ≤ 0) ∧ (ordE x a ≤ 0 ↔ ordE x b ≤ 0) := by
  have t := od_ordE.turn a b
  have h1 : ordE a b ≤ 0 := by omega
  have h2 : ordE b a ≤ 0 := by omega
  exact ⟨⟨fun e => od_ordE.trans _ _ _ h2 e, fun e => od_ordE.trans _ _ _ h1 e⟩, ⟨fun e => od_ordE.trans _ _ _ e h1, fun e => od_ordE.trans _ _ _ e h2⟩⟩
theorem ltE_like {a b x y : En} (h : ordE a b = 0) (g : ordE x y = 0) : ltE a x = ltE b y := by
  have e1 := (ord_like (x := x) h).2
  have e2 := (ord_like (x := b) g).1
  have t1 := od_ordE.turn a x
  have t2 := od_ordE.turn b x
  have t3 := od_ordE.turn b y
  unfold ltE
  congr 1
  apply propext
  omega
theorem zero_like {a b x : En} (h : ordE a b = 0) : ordE a x = 0 ↔ ordE b x = 0 := by
  have e1 := (ord_like (x := x) h).2
  have e2 := (ord_like (x := x) h).1
  have t1 := od_ordE.turn a x
  have t2 := od_ordE.turn b x
  omega
theorem agl_nil : AgL [] [] := ⟨rfl, fun i e d h => by simp at h⟩
theorem agl_cons {e d : Em} {L D : List Em} : AgL (e :: L) (d :: D) ↔ Agr e.e d.e ∧ AgL L D := by
  constructor
  · intro h
    exact ⟨h.2 0 e d rfl rfl, by have := h.1; simpa using this, fun i x y hx hy => h.2 (i + 1) x y (by simpa using hx) (by simpa using hy)⟩
  · rintro ⟨h1, h2⟩
    refine ⟨by simp [h2.1], fun i x y hx hy => ?_⟩
    cases i with
    | zero => simp at hx hy; subst hx; subst hy; exact h1
    | succ i => exact h2.2 i x y (by simpa using hx) (by simpa using hy)
theorem agl_ins {m x : Em} (hm : Agr m.e x.e) : ∀ {L D : List Em}, AgL L D → AgL (ins ltM m L) (ins ltM x D)
  | [], [], _ => agl_cons.2 ⟨hm, agl_nil⟩
  | [], d :: D, h => by have := h.1; simp at this
  | e :: L, [], h => by have := h.1; simp at this
  | e :: L, d :: D, h => by
    obtain ⟨h1, h2⟩ := agl_cons.1 h
    have hl : ltM e m = ltM d x := ltE_like h1.ord hm.ord
    unfold ins
    cases hc : ltM d x with
    | true =>
      rw [hc] at hl
      simp only [List.takeWhile_cons, List.dropWhile_cons, hl, hc, if_true, List.cons_append]
      exact agl_cons.2 ⟨h1, agl_ins hm h2⟩
    | false =>
      rw [hc] at hl
      simp only [List.takeWhile_cons, List.dropWhile_cons, hl, hc]
      exact agl_cons.2 ⟨hm, agl_cons.2 ⟨h1, h2⟩⟩
theorem agl_del {m x : Em} (hm : ordE m.e x.e = 0) : ∀ {L D : List Em}, AgL L D → AgL (del ltM m L) (del ltM x D)
  | [], [], _ => agl_nil
  | [], d :: D, h => by have := h.1; simp at this
  | e :: L, [], h => by have := h.1; simp at this
  | e :: L, d :: D, h => by
    obtain ⟨h1, h2⟩ := agl_cons.1 h
    have hl : ltM e m = ltM d x := ltE_like h1.ord hm
    have hr : ltM m e = ltM x d := ltE_like hm h1.ord
    have ih := agl_del hm h2
    unfold del at ih ⊢
    rw [List.filter_cons, List.filter_cons, hl, hr]
    split
    · exact agl_cons.2 ⟨h1, ih⟩
    · exact ih
theorem agl_rise : ∀ {L D : List Em}, AgL L D → Rise ltM L → Rise ltM D
  | [], [], _, _ => List.Pairwise.nil
  | [], d :: D, h, _ => by have := h.1; simp at this
  | e :: L, [], h, _ => by have := h.1; simp at this
  | e :: L, d :: D, h, hr => by
    obtain ⟨h1, h2⟩ := agl_cons.1 h
    obtain ⟨r1, r2⟩ := List.pairwise_cons.1 hr
    refine List.pairwise_cons.2 ⟨fun z hz => ?_, agl_rise h2 r2⟩
    obtain ⟨i, hi, hzi⟩ := List.mem_iff_getElem.1 hz
    have hiL : i < L.length := by rw [h2.1]; exact hi
    have ha := h2.2 i L[i] z (List.getElem?_eq_getElem hiL) (by rw [List.getElem?_eq_getElem hi, hzi])
    have := r1 L[i] (List.getElem_mem hiL)
    rw [show ltM e L[i] = ltM d z from ltE_like h1.ord ha.ord] at this
    exact this
/-- an entry is in the one as in the other -/
theorem agl_of {x : En} : ∀ {L D : List Em}, AgL L D → (ofEn x L = [] ↔ ofEn x D = [])
  | [], [], _ => Iff.rfl
  | [], d :: D, h => by have := h.1; simp at this
  | e :: L, [], h => by have := h.1; simp at this
  | e :: L, d :: D, h => by
    obtain ⟨h1, h2⟩ := agl_cons.1 h
    have ih := agl_of (x := x) h2
    have hz := zero_like (x := x) h1.ord
    rw [List.eq_nil_iff_forall_not_mem, List.eq_nil_iff_forall_not_mem] at ih ⊢
    simp only [ofEn_mem, List.mem_cons] at ih ⊢
    constructor
    · intro g z hz2
      rcases hz2 with ⟨rfl | hz1, h0⟩
      · exact g e ⟨Or.inl rfl, hz.2 h0⟩
      · exact ih.1 (fun y hy => g y ⟨Or.inr hy.1, hy.2⟩) z ⟨hz1, h0⟩
    · intro g z hz2
      rcases hz2 with ⟨rfl | hz1, h0⟩
      · exact g d ⟨Or.inl rfl, hz.1 h0⟩
      · exact ih.2 (fun y hy => g y ⟨Or.inr hy.1, hy.2⟩) z ⟨hz1, h0⟩
/-- an entry is there by the one test as by the other -/
theorem dup_of {k : List Va} {id : Int} {D : List Em} : dupB k id D = !(ofEn ⟨k, id⟩ D).isEmpty := by
  rw [Bool.eq_iff_iff]
  unfold dupB
  rw [List.any_eq_true, Bool.not_eq_true', ← Bool.not_eq_true, List.isEmpty_iff]
  constructor
  · rintro ⟨z, h1, h2⟩ h3
    rw [Bool.and_eq_true, decide_eq_true_eq, decide_eq_true_eq] at h2
    have : z ∈ ofEn ⟨k, id⟩ D := ofEn_mem.2 ⟨h1, ordE_zero.2 h2⟩
    rw [h3] at this
    cases this
  · intro h
    obtain ⟨z, hz⟩ := List.exists_mem_of_ne_nil _ h
    obtain ⟨h1, h2⟩ := ofEn_mem.1 hz
    have := ordE_zero.1 h2
    exact ⟨z, h1, by rw [Bool.and_eq_true, decide_eq_true_eq, decide_eq_true_eq]; exact this⟩
theorem of_like {x y : En} (h : ordE x y = 0) {D : List Em} : ofEn x D = [] ↔ ofEn y D = [] := by
  rw [List.eq_nil_iff_forall_not_mem, List.eq_nil_iff_forall_not_mem]
  simp only [ofEn_mem]
  have hz : ∀ z, ordE z x = 0 ↔ ordE z y = 0 := fun z => by
    have a1 := od_ordE.turn z x
    have a2 := od_ordE.turn z y
    have := zero_like (x := z) h
    omega
  exact ⟨fun g z hh => g z ⟨hh.1, (hz z.e).2 hh.2⟩, fun g z hh => g z ⟨hh.1, (hz z.e).1 hh.2⟩⟩
/-- the tree's Put sees a double where the document's does -/
theorem clash_dup {k : List Va} {id : Int} {L D : List Em} (hE : errs k = 0) (h : AgL L D) : clB false ⟨k.map kepV, id⟩ L = dupB k id D := by
  have e1 : clB false ⟨k.map kepV, id⟩ L = !(ofEn ⟨k.map kepV, id⟩ L).isEmpty := by unfold clB; rw [if_neg (by simp)]
  rw [e1, dup_of, Bool.eq_iff_iff]
  simp only [Bool.not_eq_true', ← Bool.not_eq_true, List.isEmpty_iff]
  have a : ordE (⟨k.map kepV, id⟩ : En) ⟨k, id⟩ = 0 := ordE_zero.2 ⟨kep_row hE, rfl⟩
  rw [of_like a, agl_of h]
theorem clash_none {y : En} {L : List Em} (h : clB false y L = false) : ∀ x ∈ L, ∀ m : Em, m.e = y → (ltM x m || ltM m x) = true := by
  intro x hx m hm
  have e1 : clB false y L = !(ofEn y L).isEmpty := by unfold clB; rw [if_neg (by simp)]
  rw [e1] at h
  simp only [Bool.not_eq_false', List.isEmpty_iff] at h
  have hz : ¬ ordE x.e y = 0 := fun e => by
    have : x ∈ ofEn y L := ofEn_mem.2 ⟨hx, e⟩
    rw [h] at this
    cases this
  subst hm
  have t := od_ordE.turn x.e m.e
  show (ltE x.e m.e || ltE m.e x.e) = true
  unfold ltE
  rw [Bool.or_eq_true, decide_eq_true_eq, decide_eq_true_eq]
  omega
/-- the document's Drop finds an entry where there is one -/
theorem at_of {x : En} {D : List Em} (hr : Rise ltM D) : atB x D = !(ofEn x D).isEmpty := by
  cases hy : D[place ltM (tgt x) D]? with
  | none =>
    have e : atB x D = false := by unfold atB; rw [hy]
    rw [e]
    have : ofEn x D = [] := by
      rw [List.eq_nil_iff_forall_not_mem]
      intro z hz
      obtain ⟨h1, h2⟩ := ofEn_mem.1 hz
      obtain ⟨i, hi, hzi⟩ := List.mem_iff_getElem.1 h1
      have hl := List.getElem?_eq_none_iff.1 hy
      have := place_ahead (lt := ltM) (e := tgt x) (l := D) (i := i) (y := z) (by omega) (by rw [List.getElem?_eq_getElem hi, hzi])
      have h3 : ltE z.e x = true := this
      unfold ltE at h3
      rw [decide_eq_true_eq] at h3
      omega
    rw [this]; rfl
  | some y =>
    have e : atB x D = decide (ordE y.e x = 0) := by unfold atB; rw [hy]
    rw [e]
    have hp : 0 ≤ ordE y.e x := ltE_not.1 (show ltM y (tgt x) = false from place_at hy)
    by_cases h0 : ordE y.e x = 0
    · have : ofEn x D ≠ [] := fun hn => by
        have hm : y ∈ ofEn x D := ofEn_mem.2 ⟨List.mem_of_getElem? hy, h0⟩
        rw [hn] at hm
        cases hm
      rw [decide_eq_true h0]
      cases hh : ofEn x D with
      | nil => exact absurd hh this
      | cons => rfl
    · rw [decide_eq_false h0]
      have : ofEn x D = [] := by
        rw [List.eq_nil_iff_forall_not_mem]
        intro z hz
        obtain ⟨h1, h2⟩ := ofEn_mem.1 hz
        obtain ⟨i, hi, hzi⟩ := List.mem_iff_getElem.1 h1
        by_cases hlt : i < place ltM (tgt x) D
        · have h3 : ltE z.e x = true := place_ahead (lt := ltM) (e := tgt x) (l := D) (i := i) (y := z) hlt (by rw [List.getElem?_eq_getElem hi, hzi])
          unfold ltE at h3
          rw [decide_eq_true_eq] at h3
          omega
        · obtain ⟨hA, hyA⟩ := List.getElem?_eq_some_iff.1 hy
          rcases Nat.lt_or_eq_of_le (Nat.le_of_not_lt hlt) with hgt | heq
          · have hyz : ltM D[place ltM (tgt x) D] D[i] = true := List.pairwise_iff_getElem.1 hr _ _ hA hi hgt
            rw [hyA, hzi] at hyz
            have h4 : ltE y.e z.e = true := hyz
            have e5 : ltE y.e z.e = ltE y.e x := ltE_like (by have := od_ordE.turn y.e y.e; omega) h2
            rw [e5, ltE_not.2 hp] at h4
            cases h4
          · subst heq
            rw [hyA] at hzi
            subst hzi
            exact h0 h2
      rw [this]; rfl
/-- and leaves out what the tree's leaves out -/
theorem cut_del {x : En} {D : List Em} (hr : Rise ltM D) (h : atB x D = true) : D.take (place ltM (tgt x) D) ++ D.drop (place ltM (tgt x) D + 1) = del ltM (tgt x) D := by
  cases hy : D[place ltM (tgt x) D]? with
  | none => unfold atB at h; rw [hy] at h; cases h
  | some y =>
    have h0 : ordE y.e x = 0 := by unfold atB at h; rw [hy] at h; exact of_decide_eq_true h
    obtain ⟨hA, hyA⟩ := List.getElem?_eq_some_iff.1 hy
    have e : D = D.take (place ltM (tgt x) D) ++ y :: D.drop (place ltM (tgt x) D + 1) := by
      rw [← drop_at hy, List.take_append_drop]
    have t := od_ordE.turn y.e x
    have hd := del_like (lt := ltM) (e := tgt x) (y := y) (a := D.take (place ltM (tgt x) D)) (b := D.drop (place ltM (tgt x) D + 1))
      (fun z hz => by
        obtain ⟨i, hi, hzi⟩ := List.mem_iff_getElem.1 hz
        rw [List.length_take] at hi
        rw [List.getElem_take] at hzi
        exact place_ahead (lt := ltM) (e := tgt x) (l := D) (i := i) (y := z) (by omega) (by rw [List.getElem?_eq_getElem (by omega), hzi]))
      (fun z hz => by
        obtain ⟨i, hi, hzi⟩ := List.mem_iff_getElem.1 hz
        rw [List.length_drop] at hi
        rw [List.getElem_drop] at hzi
        have hyz : ltM D[place ltM (tgt x) D] D[place ltM (tgt x) D + 1 + i] = true := List.pairwise_iff_getElem.1 hr _ _ hA (by omega) (by omega)
        rw [hyA, hzi] at hyz
        have h4 : ltE y.e z.e = true := hyz
        have e5 : ltE y.e z.e = ltE x z.e := ltE_like h0 (by have := od_ordE.turn z.e z.e; omega)
        rw [e5] at h4
        exact h4)
      (ltE_not.2 (by show 0 ≤ ordE y.e x; omega)) (ltE_not.2 (by show 0 ≤ ordE x y.e; omega))
    rw [← e] at hd
    exact hd.symm
theorem del_rise {m : Em} {L : List Em} (h : Rise ltM L) : Rise ltM (del ltM m L) := List.Pairwise.filter _ h
end Go.Proofs.YtclcajnodoifjaaGreatDoor

namespace Go.Proofs.YtclcajnodoifjaaGreatDoor
open Go.RowKit Go.Shelf Go.Joins Go.Maps
set_option maxRecDepth 100000

theorem ins_len {α : Type} {lt : α → α → Bool} {e : α} {l : List α} : (ins lt e l).length = l.length + 1 := by
  unfold ins
  have := congrArg List.length (List.takeWhile_append_dropWhile (p := fun x => lt x e) (l := l))
  rw [List.length_append] at this
  rw [List.length_append, List.length_cons]
  omega
theorem chg_keepT {T Y : Nat → Prop} {w w' : World} (h : Chg Y w w') (ho : ∀ b, Y b → ¬ T b) : Keeps T w w' := Keeps.of_chg h (fun b hb _ hy => ho b hy hb)
/-- the tree and the document's, side by side -/
structure PrIn (T : Nat → Prop) (w : World) (bt dd : Nat) (L D : List Em) : Prop where
  tr : ∃ d n p1 n1 c1 p2 n2 c2, RtIn T w d (min d 1) n (.slice p1 n1 c1) (.slice p2 n2 c2) ∧ w.heap[bt]? = some (trO false (.slice p1 n1 c1) (.slice p2 n2 c2) (L.length : Int)) ∧ n.fl = L
  dc : ∃ PD CD, DocIn T w dd false D (.slice PD D.length CD)
  ag : AgL L D
  few : L.length ≤ 4096
  ne : dd ≠ bt
theorem DocIn.chg {T S : Nat → Prop} {w w' : World} {d : Nat} {u : Bool} {l : List Em} {v : Value} (h : DocIn T w d u l v) (hc : Chg S w w') (hs : ∀ b, S b → ¬ T b) (hd : ¬ S d) : DocIn T w' d u l v :=
  ⟨hc.at_ h.box hd, h.row.keeps (chg_keepT hc hs), fun q hq => (h.keys q hq).keeps (chg_keepT hc hs)⟩
theorem DocIn.mono {T U : Nat → Prop} {w : World} {d : Nat} {u : Bool} {l : List Em} {v : Value} (h : DocIn T w d u l v) (hu : ∀ b, b < w.heap.size → T b → U b) : DocIn U w d u l v :=
  ⟨h.box, h.row.mono hu, fun q hq => (h.keys q hq).mono hu⟩
theorem PrIn.chg {T S : Nat → Prop} {w w' : World} {bt dd : Nat} {L D : List Em} (h : PrIn T w bt dd L D) (hc : Chg S w w') (hs : ∀ b, S b → ¬ T b) (h1 : ¬ S bt) (h2 : ¬ S dd) : PrIn T w' bt dd L D := by
  obtain ⟨d, n, p1, n1, c1, p2, n2, c2, a1, a2, a3⟩ := h.tr
  obtain ⟨PD, CD, hd⟩ := h.dc
  exact ⟨⟨d, n, p1, n1, c1, p2, n2, c2, a1.keeps (chg_keepT hc hs), hc.at_ a2 h1, a3⟩, ⟨PD, CD, hd.chg hc hs h2⟩, h.ag, h.few, h.ne⟩
theorem PrIn.mono {T U : Nat → Prop} {w : World} {bt dd : Nat} {L D : List Em} (h : PrIn T w bt dd L D) (hu : ∀ b, b < w.heap.size → T b → U b) : PrIn U w bt dd L D := by
  obtain ⟨d, n, p1, n1, c1, p2, n2, c2, a1, a2, a3⟩ := h.tr
  obtain ⟨PD, CD, hd⟩ := h.dc
  exact ⟨⟨d, n, p1, n1, c1, p2, n2, c2, ⟨a1.nd.mono hu, a1.wf, a1.ne, a1.up⟩, a2, a3⟩, ⟨PD, CD, hd.mono hu⟩, h.ag, h.few, h.ne⟩
theorem PrIn.riseL {T : Nat → Prop} {w : World} {bt dd : Nat} {L D : List Em} (h : PrIn T w bt dd L D) : Rise ltM L := by
  obtain ⟨d, n, p1, n1, c1, p2, n2, c2, a1, a2, rfl⟩ := h.tr
  exact a1.up
theorem trq_rt {T : Nat → Prop} {w w' : World} {bt : Nat} {u : Bool} {sz : Int} {L : List Em} (h : TrQ T w bt u sz L w') (hr : Rise ltM L) : ∃ d n p1 n1 c1 p2 n2 c2, RtIn T w' d (min d 1) n (.slice p1 n1 c1) (.slice p2 n2 c2) ∧ w'.heap[bt]? = some (trO u (.slice p1 n1 c1) (.slice p2 n2 c2) sz) ∧ n.fl = L := by
  obtain ⟨d, n, p1, n1, c1, p2, n2, c2, a1, a2, a3, a4, _⟩ := h
  refine ⟨d, n, p1, n1, c1, p2, n2, c2, ⟨a2, a3, fun hd => ?_, by rw [a4]; exact hr⟩, a1, a4⟩
  have := wf_len a3
  omega
/-- a row of values is none of the tree's box -/
theorem row_chg {S : Nat → Prop} {w w' : World} {q : Option Addr} {k : List Va} (h : rowAt w q k) (hc : Chg S w w') (hs : ∀ g, q = some ⟨g, 0, none⟩ → valsAt w g k → ¬ S g) : rowAt w' q k := by
  rcases h with h | ⟨g, e, hv⟩
  · exact Or.inl h
  · refine Or.inr ⟨g, e, Nat.lt_of_lt_of_le hv.1 hc.size, fun i v hi => ?_⟩
    have hb := hc.block g hv.1 (hs g e hv)
    have := hv.2 i v hi
    unfold World.cell? at this ⊢
    rw [hb]
    exact this
end Go.Proofs.YtclcajnodoifjaaGreatDoor

namespace Go.Proofs.YtclcajnodoifjaaGreatDoor
open Go.RowKit Go.Shelf Go.Joins Go.Maps
set_option maxRecDepth 100000

theorem blk_of_shr {w : World} {b n cap : Nat} {e : TypeId} {xs : List Value} (s : shr w e 3 (.slice (some ⟨b, 0, none⟩) n cap) n xs) : ∃ cs, w.heap[b]? = some (.cells cs e (0, 0)) := by
  rcases s.2 with ⟨h, _⟩ | ⟨g, off, cap', cur, h, hg, _⟩
  · cases h
  · cases h
    exact ⟨cur, hg⟩
set_option maxHeartbeats 4000000 in
set_option maxRecDepth 1000000 in
theorem copied_blk0 (p : Option Addr) (c : Nat) (w : World) :
    Calls Tryz.prog 15 #[.slice p 0 c] w fun e w' => e = .returned (.slice (some ⟨w.heap.size, 0, none⟩) 0 0) ∧ w.heap.size < w'.heap.size ∧ (∃ cs, w'.heap[w.heap.size]? = some (.cells cs 40 (0, 0))) ∧ Below w.heap.size w w' := by
  have HB : Hid (∀ cs, w.heap.size < (w.alloc (.cells cs 40)).heap.size ∧ (∃ cs', (w.alloc (.cells cs 40)).heap[w.heap.size]? = some (.cells cs' 40 (0, 0))) ∧ Below w.heap.size w (w.alloc (.cells cs 40))) := fun cs => ⟨by rw [World.size_alloc]; omega, ⟨cs, heap_alloc_new _ _⟩, (Below.refl _ w).alloc (Nat.le_refl _) _⟩
  go_enter Tryz.func15, Tryz.ntmps15
  go_wp2_with (at_builtin; refine wp_app 30 rfl (.tmp 3) (.tmp 4) rfl rfl rfl (fun ty => app_nothing _ _ _ _ ty) ?_)
  go_ret
  exact ⟨rfl, HB.out _⟩
theorem chg_new {A : Nat → Prop} {a b d : World} {g : Nat} (h : Chg A a b) (k : Chg (fun i => i = g) b d) (hg : a.heap.size ≤ g) : Chg A a d :=
  ⟨k.os.trans h.os, k.tape.trans h.tape, k.output.trans h.output, Nat.le_trans h.size k.size, fun i hi hn => (k.block i (Nat.lt_of_lt_of_le hi h.size) (fun e => by omega)).trans (h.block i hi hn)⟩
/-- what does leaves -/
def DoQ (T : Nat → Prop) (w : World) (bt dd : Nat) (e : Ending) (w' : World) : Prop := e = .returned (.bool true) ∧ Chg (fun b => b = bt ∨ b = dd) w w' ∧ ∃ L' D', PrIn T w' bt dd L' D'
end Go.Proofs.YtclcajnodoifjaaGreatDoor

namespace Go.Proofs.YtclcajnodoifjaaGreatDoor
open Go.RowKit Go.Shelf Go.Joins Go.Maps
set_option maxRecDepth 100000

end Go.Proofs.YtclcajnodoifjaaGreatDoor

namespace Go.Proofs.YtclcajnodoifjaaGreatDoor
open Go.RowKit Go.Shelf Go.Joins Go.Maps
set_option maxRecDepth 100000

/-- both are empty -/
theorem PrIn.empty {T : Nat → Prop} {w : World} {bt dd : Nat} (h1 : w.heap[bt]? = some (trO false (.slice none 0 0) (.slice none 0 0) 0)) (h2 : w.heap[dd]? = some (.cells #[.bool false, .slice none 0 0] 28 (0, 0))) (hne : dd ≠ bt) : PrIn T w bt dd [] [] := by
  refine ⟨⟨0, .mk [] [], none, 0, 0, none, 0, 0, ⟨⟨⟨⟨shr_nil _ _ _, fun g h => by cases h⟩, fun q h => by cases h⟩, rfl, rfl⟩, ?_, fun h => absurd rfl h, List.Pairwise.nil⟩, h1, ?_⟩, ⟨none, 0, h2, ⟨shr_nil _ _ _, fun g h => by cases h⟩, fun q h => by cases h⟩, agl_nil, by simp, hne⟩
  · simp [Nd.wf]
  · simp [Nd.fl, flK, il]
theorem PrIn.below {T : Nat → Prop} {w w' : World} {bt dd : Nat} {L D : List Em} (h : PrIn T w bt dd L D) (hb : Below w.heap.size w w') : PrIn T w' bt dd L D := h.chg (S := fun _ => False) (chg_bl hb) (fun _ e => e.elim) (fun e => e) (fun e => e)
theorem pr_goes {T : Nat → Prop} {w : World} {bt dd : Nat} {L D : List Em} (h : PrIn T w bt dd L D) (back : Bool) (P1 P2 : Option Addr) (C1 C2 : Nat) (low high : List Va) (li hi : Bool) (E : List Em) (PE : Option Addr) (CE : Nat) (stop : Int) (h1 : rowAt w P1 low) (h2 : rowAt w P2 high) (z1 : low.length ≤ 1000000000) (z2 : high.length ≤ 1000000000) (y1 : ∀ v ∈ low, fit v.n) (y2 : ∀ v ∈ high, fit v.n)
    (hE : rowT T w 54 2 (.slice PE E.length CE) E.length (fl emE E)) (hS : ∀ q ∈ E, q ∈ D) (zE : E.length ≤ D.length) (ag : AgL (btw low high li hi L) E) :
    Calls Tryz.prog 13 #[.pointer (some ⟨bt, 0, none⟩), .agg #[.slice P1 low.length C1, .slice P2 high.length C2, .bool li, .bool hi], .bool back, .slice PE E.length CE, .int .i64 stop] w fun e w' => e = .returned (.bool true) ∧ Below w.heap.size w w' := by
  obtain ⟨d, n, p1, n1, c1, p2, n2, c2, a1, a2, rfl⟩ := h.tr
  obtain ⟨PD, CD, hd⟩ := h.dc
  have hl := h.ag.1
  have := h.few
  have hk : ∀ q ∈ E, KeyOk T w q := fun q hq => hd.keys q (hS q hq)
  cases back with
  | false => exact goes_on T d (min d 1) bt n p1 n1 c1 p2 n2 c2 P1 P2 C1 C2 low high li hi PE CE E stop w a1 (trO_cells a2).1 (trO_cells a2).2 h1 h2 z1 z2 y1 y2 hE hk (by omega) ag
  | true => exact goes_back T d (min d 1) bt n p1 n1 c1 p2 n2 c2 P1 P2 C1 C2 low high li hi PE CE E stop w a1 (trO_cells a2).1 (trO_cells a2).2 h1 h2 z1 z2 y1 y2 hE hk (by omega) ag
theorem pr_ends {T : Nat → Prop} {w : World} {bt dd : Nat} {L D : List Em} (h : PrIn T w bt dd L D) :
    Calls Tryz.prog 11 #[.pointer (some ⟨bt, 0, none⟩), .pointer (some ⟨dd, 0, none⟩)] w fun e w' => e = .returned (.bool true) ∧ Below w.heap.size w w' := by
  obtain ⟨d, n, p1, n1, c1, p2, n2, c2, a1, a2, rfl⟩ := h.tr
  obtain ⟨PD, CD, hd⟩ := h.dc
  have hl := h.ag.1
  have := h.few
  exact ends_any T d (min d 1) bt n p1 n1 c1 p2 n2 c2 false false _ dd D PD D.length CD w a1 a2 rfl hd rfl (by omega) h.ag
theorem btw_nil (L : List Em) : btw [] [] false false L = L := by
  unfold btw within
  exact List.filter_eq_self.2 (fun x _ => by simp [loB, hiB])
/-- an act -/
structure Ac where
  kd : Int
  stop : Int
  k : List Va
  q : Option Addr
  c : Nat
  id : Int
  P1 : Option Addr
  n1 : Nat
  C1 : Nat
  P2 : Option Addr
  n2 : Nat
  C2 : Nat
  li : Bool
  hi : Bool
def Ac.en (a : Ac) : List Value := [.int .i64 a.kd, .int .i64 a.stop, .slice a.q a.k.length a.c, .int .u64 a.id, .slice a.P1 a.n1 a.C1, .slice a.P2 a.n2 a.C2, .bool a.li, .bool a.hi]
structure Ac.ok (w : World) (a : Ac) : Prop where
  row : rowAt w a.q a.k
  fits : ∀ v ∈ a.k, fit v.n
  txt : ∀ v ∈ a.k, v.s.size ≤ 9223372036854775807
  few : a.k.length ≤ 1000000000
theorem Ac.ok.below {w w' : World} {a : Ac} (h : a.ok w) (hb : Below w.heap.size w w') : a.ok w' := ⟨h.row.below hb, h.fits, h.txt, h.few⟩
def actsAt (w : World) (P : Option Addr) (l : List Ac) : Prop := l = [] ∨ ∃ g o, P = some ⟨g, o, none⟩ ∧ g < w.heap.size ∧ ∀ i a, l[i]? = some a → ∀ j u, a.en[j]? = some u → w.cell? ⟨g, o + i * 8 + j, none⟩ = some u
/-- between two acts: w the first world, w1 that with both boxes -/
structure Mid (w : World) (bt dd : Nat) (wr : World) : Prop where
  bl : Below w.heap.size w wr
  pr : ∃ L D, PrIn (fun b => w.heap.size ≤ b ∧ b ≠ bt ∧ b ≠ dd) wr bt dd L D
  lo : w.heap.size ≤ bt ∧ w.heap.size ≤ dd
theorem Mid.lt {w wr : World} {bt dd : Nat} (h : Mid w bt dd wr) : bt < wr.heap.size ∧ dd < wr.heap.size := by
  obtain ⟨L, D, hp⟩ := h.pr
  obtain ⟨_, _, _, _, _, _, _, _, _, a, _⟩ := hp.tr
  obtain ⟨_, _, hd⟩ := hp.dc
  exact ⟨lt_of_heap a, lt_of_heap hd.box⟩
theorem Mid.below {w wr W : World} {bt dd : Nat} (h : Mid w bt dd wr) (hb : Below wr.heap.size wr W) : Mid w bt dd W := by
  obtain ⟨L, D, hp⟩ := h.pr
  exact ⟨h.bl.trans (hb.mono h.bl.size), ⟨L, D, hp.below hb⟩, h.lo⟩
end Go.Proofs.YtclcajnodoifjaaGreatDoor

namespace Go.Proofs.YtclcajnodoifjaaGreatDoor
open Go.RowKit Go.Shelf Go.Joins Go.Maps
set_option maxRecDepth 100000

end Go.Proofs.YtclcajnodoifjaaGreatDoor

namespace Go.Proofs.YtclcajnodoifjaaGreatDoor
open Go.RowKit Go.Shelf Go.Joins Go.Maps
set_option maxRecDepth 100000

theorem wrap_small {x : Int} (h0 : 0 ≤ x) (h1 : x ≤ 1000000000) : IntKind.i64.wrap x = x := by simp [IntKind.wrap, IntKind.bits, IntKind.signed]; omega
end Go.Proofs.YtclcajnodoifjaaGreatDoor

namespace Go.Proofs.YtclcajnodoifjaaGreatDoor
open Go.RowKit Go.Shelf Go.Joins Go.Maps
set_option maxRecDepth 100000

/-- a row that came in: at any place of its block -/
def rowOff (w : World) (p : Option Addr) (l : List Va) : Prop := l = [] ∨ ∃ g off, p = some ⟨g, off, none⟩ ∧ g < w.heap.size ∧ ∀ j u, (fl vaE l)[j]? = some u → w.cell? ⟨g, off + j, none⟩ = some u
theorem rowOff.below {w w' : World} {p : Option Addr} {l : List Va} (h : rowOff w p l) (hb : Below w.heap.size w w') : rowOff w' p l := by
  rcases h with h | ⟨g, off, h1, h2, h3⟩
  · exact Or.inl h
  · exact Or.inr ⟨g, off, h1, Nat.lt_of_lt_of_le h2 hb.size, fun j u hj => (hb.cell (p := ⟨g, off + j, none⟩) h2).trans (h3 j u hj)⟩
theorem rowAt.off {w : World} {p : Option Addr} {l : List Va} (h : rowAt w p l) : rowOff w p l := by
  rcases h with h | ⟨g, h1, h2⟩
  · exact Or.inl h
  · exact Or.inr ⟨g, 0, h1, h2.1, fun j u hj => by rw [Nat.zero_add]; exact h2.cells j u hj⟩
/-- a value of it -/
theorem rowOff.get {w : World} {p : Option Addr} {l : List Va} (h : rowOff w p l) {i : Nat} {v : Va} (hi : l[i]? = some v) : ∃ g off, p = some ⟨g, off, none⟩ ∧ g < w.heap.size ∧ w.cell? ⟨g, off + i * 3, none⟩ = some (.int .i64 v.ty) ∧ w.cell? ⟨g, off + i * 3 + 1, none⟩ = some (.int .i64 v.n) ∧ w.cell? ⟨g, off + i * 3 + 2, none⟩ = some (.string v.s) := by
  rcases h with h | ⟨g, off, h1, h2, h3⟩
  · rw [h] at hi; cases hi
  · have q := fun r (hr : r < 3) => fl_get (enc := vaE) (s := 3) (fun _ => rfl) l i v r hi hr
    exact ⟨g, off, h1, h2, h3 _ _ (q 0 (by omega)), by rw [Nat.add_assoc]; exact h3 _ _ (q 1 (by omega)), by rw [Nat.add_assoc]; exact h3 _ _ (q 2 (by omega))⟩
set_option maxHeartbeats 4000000 in
set_option maxRecDepth 1000000 in
theorem copied_off1 (ad : Addr) (k : List Va) (c : Nat) (w : World) (hk : ∀ j u, (fl vaE k)[j]? = some u → w.cell? (ad.add j) = some u) (h0 : 0 < k.length) (hl : k.length ≤ 1000000000) :
    Calls Tryz.prog 15 #[.slice (some ad) k.length c] w fun e w' => ∃ cap, e = .returned (.slice (some ⟨w.heap.size + 1, 0, none⟩) k.length cap) ∧ valsAt w' (w.heap.size + 1) k ∧ (∃ cs, w'.heap[w.heap.size + 1]? = some (.cells cs 40 (0, 0))) ∧ Below w.heap.size w w' := by
  obtain ⟨cap, w2, r, s, g, z⟩ := rwVa.clone w ad k.length c (fl vaE k) (fl_len (enc := vaE) (s := 3) (fun _ => rfl) k) hk h0 hl
  have HR : Hid (valsAt w2 (w.heap.size + 1) k ∧ (∃ cs, w2.heap[w.heap.size + 1]? = some (.cells cs 40 (0, 0))) ∧ Below w.heap.size w w2) := ⟨(clone_vals s (by omega)).1, blk_of_shr s, below_none g (Nat.le_refl _)⟩
  obtain ⟨n, hn⟩ : ∃ n, n = k.length := ⟨_, rfl⟩
  rw [← hn] at r ⊢
  clear s g z hk h0 hl hn
  go_enter Tryz.func15, Tryz.ntmps15
  go_wp2_with (at_builtin; refine wp_app 30 rfl (.tmp 3) (.tmp 4) rfl rfl rfl r ?_)
  go_ret
  exact ⟨cap, rfl, HR.out⟩
/-- a copy of any row that came in, with its block -/
theorem copied_off (P : Option Addr) (C : Nat) (k : List Va) (w : World) (hk : rowOff w P k) (hl : k.length ≤ 1000000000) :
    Calls Tryz.prog 15 #[.slice P k.length C] w fun e w' => ∃ g d, e = .returned (.slice (some ⟨g, 0, none⟩) k.length d) ∧ w.heap.size ≤ g ∧ rowAt w' (some ⟨g, 0, none⟩) k ∧ (∃ cs, w'.heap[g]? = some (.cells cs 40 (0, 0)) ∧ 3 * k.length ≤ cs.size) ∧ Below w.heap.size w w' := by
  cases k with
  | nil => exact (copied_blk0 P C w).mono (fun e w' h => by
      obtain ⟨h1, h2, ⟨cs, h3⟩, h4⟩ := h
      exact ⟨_, _, h1, Nat.le_refl _, Or.inl rfl, ⟨cs, h3, Nat.zero_le _⟩, h4⟩)
  | cons v k =>
    obtain ⟨g, off, rfl, hg, hv⟩ : ∃ g off, P = some ⟨g, off, none⟩ ∧ g < w.heap.size ∧ ∀ j u, (fl vaE (v :: k))[j]? = some u → w.cell? ⟨g, off + j, none⟩ = some u := by
      rcases hk with h | h
      · cases h
      · exact h
    refine (copied_off1 ⟨g, off, none⟩ (v :: k) C w (fun j u hj => by rw [add_plain]; exact hv j u hj) (by simp) hl).mono (fun e w' h => ?_)
    obtain ⟨cap, h1, h2, ⟨cs, h3⟩, h4⟩ := h
    exact ⟨_, _, h1, by omega, Or.inr ⟨_, rfl, h2⟩, ⟨cs, h3, blk_size h2 h3⟩, h4⟩
set_option maxHeartbeats 4000000 in
set_option maxRecDepth 1000000 in
theorem refRows_off (p q : Option Addr) (cp cq : Nat) (la lb : List Va) (w : World) (hla : la.length ≤ 1000) (hp : rowAt w p la) (hq : rowOff w q lb) (fa : ∀ v ∈ la, fit v.n) (fb : ∀ v ∈ lb, fit v.n) :
    Calls Tryz.prog 18 #[.slice p la.length cp, .slice q lb.length cq] w fun e w' => e = .returned (.int .i64 (rowsV la lb)) ∧ Below w.heap.size w w' := by
  obtain ⟨E, hE⟩ : ∃ E, E = rowsV la lb := ⟨_, rfl⟩
  rw [← hE]
  have HE : Hid (E = rowsV la lb) := hE
  clear hE
  have CI : Hid (∀ x y w, Calls Tryz.prog 43 #[.int .i64 x, .int .i64 y] w fun e w' => e = .returned (.int .i64 (cmpI x y)) ∧ w' = w) := ints_any
  go_enter Tryz.func18, Tryz.ntmps18
  go_wp2_with fail
  go_loopw [5] (fun sk wr => ∃ k : Nat, sk = .int .i64 k ∧ k ≤ la.length ∧ k ≤ lb.length ∧ Hid (E = rowsV (la.drop k) (lb.drop k)) ∧ Below w.heap.size w wr) (fun sk _ => la.length - (intOf sk).toNat)
  case atStart => exact ⟨0, rfl, Nat.zero_le _, Nat.zero_le _, HE, Below.refl _ _⟩
  case round =>
    obtain ⟨k, rfl, hk, hk2, hd, hb⟩ := hrel
    clear HE
    by_cases hlt : k < la.length ∧ k < lb.length
    · obtain ⟨hl1, hl2⟩ := hlt
      obtain ⟨a, hak⟩ : ∃ v, la[k]? = some v := ⟨la[k], List.getElem?_eq_getElem hl1⟩
      obtain ⟨b, hbk⟩ : ∃ v, lb[k]? = some v := ⟨lb[k], List.getElem?_eq_getElem hl2⟩
      obtain ⟨g, rfl, hvg⟩ := hp.get hak
      obtain ⟨h, oh, rfl, hvh, m1, m2, m3⟩ := hq.get hbk
      obtain ⟨c1, c2, c3⟩ := hvg.2 k a hak
      have d1 := (hb.cell (p := ⟨g, k * 3, none⟩) hvg.1).trans c1
      have d2 := (hb.cell (p := ⟨g, k * 3 + 1, none⟩) hvg.1).trans c2
      have d3 := (hb.cell (p := ⟨g, k * 3 + 2, none⟩) hvg.1).trans c3
      have e1 := (hb.cell (p := ⟨h, oh + k * 3, none⟩) hvh).trans m1
      have e2 := (hb.cell (p := ⟨h, oh + k * 3 + 1, none⟩) hvh).trans m2
      have e3 := (hb.cell (p := ⟨h, oh + k * 3 + 2, none⟩) hvh).trans m3
      have hgw : g < wr.heap.size := Nat.lt_of_lt_of_le hvg.1 hb.size
      have hhw : h < wr.heap.size := Nat.lt_of_lt_of_le hvh hb.size
      have OO : Hid (∀ w, Calls Tryz.prog 42 #[.agg #[.int .i64 a.ty, .int .i64 a.n, .string a.s], .agg #[.int .i64 b.ty, .int .i64 b.n, .string b.s]] w fun e w' => e = .returned (.int .i64 (ordV a b)) ∧ Below w.heap.size w w') := fun w => refOrder_any a b w (fa a (List.mem_of_getElem? hak)) (fb b (List.mem_of_getElem? hbk))
      rw [drop_at hak, drop_at hbk] at hd
      clear c1 c2 c3 m1 m2 m3 hak hbk hvg hvh hp hq fa fb
      by_cases h0 : ordV a b = 0
      · have hd2 : Hid (E = rowsV (la.drop (k + 1)) (lb.drop (k + 1))) := by show _ = _; rw [hd.out, rowsV, if_pos h0]
        rw [h0] at OO
        clear hd h0
        go_wp2_with fail
        go_region_held3 (fun w' => w'.cell? ⟨g, k * 3, none⟩ = some (.int .i64 a.ty) ∧ w'.cell? ⟨g, k * 3 + 1, none⟩ = some (.int .i64 a.n) ∧ w'.cell? ⟨g, k * 3 + 2, none⟩ = some (.string a.s) ∧ w'.cell? ⟨h, oh + k * 3, none⟩ = some (.int .i64 b.ty) ∧ w'.cell? ⟨h, oh + k * 3 + 1, none⟩ = some (.int .i64 b.n) ∧ w'.cell? ⟨h, oh + k * 3 + 2, none⟩ = some (.string b.s)) (first | go_keep | exact ⟨(hb2.cell (p := ⟨g, k * 3, none⟩) hgw).trans d1, (hb2.cell (p := ⟨g, k * 3 + 1, none⟩) hgw).trans d2, (hb2.cell (p := ⟨g, k * 3 + 2, none⟩) hgw).trans d3, (hb2.cell (p := ⟨h, oh + k * 3, none⟩) hhw).trans e1, (hb2.cell (p := ⟨h, oh + k * 3 + 1, none⟩) hhw).trans e2, (hb2.cell (p := ⟨h, oh + k * 3 + 2, none⟩) hhw).trans e3⟩) ((go_at_call 42; refine (OO.out _).mono ?_; rintro e w1 ⟨rfl, hb2⟩))
        go_wp2_with fail
        go_roundw
        case rel => exact ⟨k + 1, by go_num, hl1, hl2, hd2, hb.drew.trans (hb2.mono (by simpa using hb.size))⟩
        case measure => simp [intOf]; omega
      · have hd2 : E = ordV a b := by rw [hd.out, rowsV, if_neg h0]
        have h1 : (ordV a b != 0) = true := by rw [bne_iff_ne]; exact h0
        subst hd2
        clear hd h0
        go_wp2_with fail
        go_region_held3 (fun w' => w'.cell? ⟨g, k * 3, none⟩ = some (.int .i64 a.ty) ∧ w'.cell? ⟨g, k * 3 + 1, none⟩ = some (.int .i64 a.n) ∧ w'.cell? ⟨g, k * 3 + 2, none⟩ = some (.string a.s) ∧ w'.cell? ⟨h, oh + k * 3, none⟩ = some (.int .i64 b.ty) ∧ w'.cell? ⟨h, oh + k * 3 + 1, none⟩ = some (.int .i64 b.n) ∧ w'.cell? ⟨h, oh + k * 3 + 2, none⟩ = some (.string b.s)) (first | go_keep | exact ⟨(hb2.cell (p := ⟨g, k * 3, none⟩) hgw).trans d1, (hb2.cell (p := ⟨g, k * 3 + 1, none⟩) hgw).trans d2, (hb2.cell (p := ⟨g, k * 3 + 2, none⟩) hgw).trans d3, (hb2.cell (p := ⟨h, oh + k * 3, none⟩) hhw).trans e1, (hb2.cell (p := ⟨h, oh + k * 3 + 1, none⟩) hhw).trans e2, (hb2.cell (p := ⟨h, oh + k * 3 + 2, none⟩) hhw).trans e3⟩) ((go_at_call 42; refine (OO.out _).mono ?_; rintro e w1 ⟨rfl, hb2⟩))
        go_wp2_with fail
        go_ret
        exact ⟨rfl, hb.drew.trans (hb2.mono (by simpa using hb.size))⟩
    · have hE : E = cmpI la.length lb.length := by rw [hd.out]; exact rows_out hk hk2 hlt
      subst hE
      clear hd
      have hcs : ¬ k < la.length ∨ (k < la.length ∧ ¬ k < lb.length) := by omega
      clear hlt
      rcases hcs with hx | ⟨hx, hy⟩
      · go_wp2_with fail
        refine (CI.out _ _ _).mono ?_
        rintro e wx ⟨rfl, hwx⟩; have hwx2 := hwx.symm; subst hwx2; clear hwx
        go_wp2_with fail
        go_ret
        exact ⟨rfl, hb⟩
      · go_wp2_with fail
        refine (CI.out _ _ _).mono ?_
        rintro e wx ⟨rfl, hwx⟩; have hwx2 := hwx.symm; subst hwx2; clear hwx
        go_wp2_with fail
        go_ret
        exact ⟨rfl, hb⟩

set_option maxHeartbeats 4000000 in
set_option maxRecDepth 1000000 in
theorem docOrder_off (p q : Option Addr) (cp cq : Nat) (a b : En) (w : World) (hla : a.key.length ≤ 1000) (ha : EnAt w p a) (hb : rowOff w q b.key) (fb : ∀ v ∈ b.key, fit v.n) :
    Calls Tryz.prog 44 #[enV p cp a, enV q cq b] w fun e w' => e = .returned (.int .i64 (ordE a b)) ∧ Below w.heap.size w w' := by
  have RO : Hid (∀ W', Below w.heap.size w W' → Calls Tryz.prog 18 #[.slice p a.key.length cp, .slice q b.key.length cq] W' fun e w' => e = .returned (.int .i64 (rowsV a.key b.key)) ∧ Below W'.heap.size W' w') := fun W' h => refRows_off p q cp cq a.key b.key W' hla (ha.row.below h) (hb.below h) ha.fits fb
  have B0 : Hid (∀ o o', Below w.heap.size w ((w.alloc o).alloc o')) := fun o o' => ((Below.refl _ w).alloc (Nat.le_refl _) o).alloc (by simp) o'
  have F0 : Hid _ := Ee.new w (.slice p a.key.length cp) (.int .u64 a.id) (.slice q b.key.length cq) (.int .u64 b.id) 54 54
  unfold enV
  unfold ordE
  clear ha hb
  generalize rowsV a.key b.key = R at *
  generalize a.key.length = la at *
  generalize b.key.length = lb at *
  generalize a.id = ia at *
  generalize b.id = ib at *
  by_cases hR : R = 0
  · rw [if_pos hR]
    subst hR
    by_cases h1 : ia < ib
    · rw [cmpI_lt h1]
      go_enter Tryz.func44, Tryz.ntmps44
      go_wp2_with fail
      refine (RO.out _ (B0.out _ _)).mono ?_
      rintro e w1 ⟨rfl, hb2⟩
      have F1 := F0.out
      have B1 := B0.out (.cells #[.slice p la cp, .int .u64 ia] 54) (.cells #[.slice q lb cq, .int .u64 ib] 54)
      have B2 := B1.trans (hb2.mono B1.size)
      have a1 := (hb2.cell (p := ⟨w.heap.size, 1, none⟩) (show w.heap.size < _ from Nat.lt_trans (Nat.lt_succ_self _) F1.lt)).trans F1.a1
      have b1 := (hb2.cell (p := ⟨w.heap.size + 1, 1, none⟩) F1.lt).trans F1.b1
      clear F0 B0 F1 B1 hb2
      go_wp2_with fail
      go_ret
      exact ⟨rfl, B2⟩
    · by_cases h2 : ib < ia
      · rw [cmpI_gt h2]
        go_enter Tryz.func44, Tryz.ntmps44
        go_wp2_with fail
        refine (RO.out _ (B0.out _ _)).mono ?_
        rintro e w1 ⟨rfl, hb2⟩
        have F1 := F0.out
        have B1 := B0.out (.cells #[.slice p la cp, .int .u64 ia] 54) (.cells #[.slice q lb cq, .int .u64 ib] 54)
        have B2 := B1.trans (hb2.mono B1.size)
        have a1 := (hb2.cell (p := ⟨w.heap.size, 1, none⟩) (show w.heap.size < _ from Nat.lt_trans (Nat.lt_succ_self _) F1.lt)).trans F1.a1
        have b1 := (hb2.cell (p := ⟨w.heap.size + 1, 1, none⟩) F1.lt).trans F1.b1
        clear F0 B0 F1 B1 hb2
        go_wp2_with fail
        go_ret
        exact ⟨rfl, B2⟩
      · rw [cmpI_eq (by omega)]
        go_enter Tryz.func44, Tryz.ntmps44
        go_wp2_with fail
        refine (RO.out _ (B0.out _ _)).mono ?_
        rintro e w1 ⟨rfl, hb2⟩
        have F1 := F0.out
        have B1 := B0.out (.cells #[.slice p la cp, .int .u64 ia] 54) (.cells #[.slice q lb cq, .int .u64 ib] 54)
        have B2 := B1.trans (hb2.mono B1.size)
        have a1 := (hb2.cell (p := ⟨w.heap.size, 1, none⟩) (show w.heap.size < _ from Nat.lt_trans (Nat.lt_succ_self _) F1.lt)).trans F1.a1
        have b1 := (hb2.cell (p := ⟨w.heap.size + 1, 1, none⟩) F1.lt).trans F1.b1
        clear F0 B0 F1 B1 hb2
        go_wp2_with fail
        go_ret
        exact ⟨rfl, B2⟩
  · rw [if_neg hR]
    have hne : (R == 0) = false := by simp [hR]
    go_enter Tryz.func44, Tryz.ntmps44
    go_wp2_with fail
    refine (RO.out _ (B0.out _ _)).mono ?_
    rintro e w1 ⟨rfl, hb2⟩
    have B1 := B0.out (.cells #[.slice p la cp, .int .u64 ia] 54) (.cells #[.slice q lb cq, .int .u64 ib] 54)
    have B2 := B1.trans (hb2.mono B1.size)
    clear F0 B0 B1 hb2
    go_wp2_with fail
    go_ret
    exact ⟨rfl, B2⟩
end Go.Proofs.YtclcajnodoifjaaGreatDoor

namespace Go.Proofs.YtclcajnodoifjaaGreatDoor
open Go.RowKit Go.Shelf Go.Joins Go.Maps
set_option maxRecDepth 100000

end Go.Proofs.YtclcajnodoifjaaGreatDoor

namespace Go.Proofs.YtclcajnodoifjaaGreatDoor
open Go.RowKit Go.Shelf Go.Joins Go.Maps
attribute [local go_sem] Oper.semAt_some
set_option maxRecDepth 100000

end Go.Proofs.YtclcajnodoifjaaGreatDoor

namespace Go.Proofs.YtclcajnodoifjaaGreatDoor
open Go.RowKit Go.Shelf Go.Joins Go.Maps
attribute [local go_sem] Oper.semAt_some
set_option maxRecDepth 100000

end Go.Proofs.YtclcajnodoifjaaGreatDoor

