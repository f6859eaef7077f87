/-
  The tree and the document's list, each told on its own: an entry put in and taken out again; what stays when the law's loop goes on.
-/
import Derived.Test.YtclcajnodoifjaaGreatDoorHAR
import Derived.Test.YtclcajnodoifjaaGreatDoorHAP
namespace Go.Proofs.YtclcajnodoifjaaGreatDoor
open Go.RowKit Go.Shelf Go.Joins Go.Maps
set_option maxRecDepth 100000

/-- the tree alone -/
def TrIn (T : Nat → Prop) (w : World) (bt : Nat) (L : List Em) : Prop := ∃ d n p1 n1 c1 p2 n2 c2, RtIn T w d (min d 1) n (.slice p1 n1 c1) (.slice p2 n2 c2) ∧ w.heap[bt]? = some (trO false (.slice p1 n1 c1) (.slice p2 n2 c2) (L.length : Int)) ∧ n.fl = L
/-- the document's list alone -/
def DcIn (T : Nat → Prop) (w : World) (dd : Nat) (D : List Em) : Prop := ∃ PD CD, DocIn T w dd false D (.slice PD D.length CD)
theorem PrIn.of {T : Nat → Prop} {w : World} {bt dd : Nat} {L D : List Em} (h1 : TrIn T w bt L) (h2 : DcIn T w dd D) (h3 : AgL L D) (h4 : L.length ≤ 4096) (h5 : dd ≠ bt) : PrIn T w bt dd L D := ⟨h1, h2, h3, h4, h5⟩
theorem TrIn.chg {T S : Nat → Prop} {w w' : World} {bt : Nat} {L : List Em} (h : TrIn T w bt L) (hc : Chg S w w') (hs : ∀ b, S b → ¬ T b) (h1 : ¬ S bt) : TrIn T w' bt L := by
  obtain ⟨d, n, p1, n1, c1, p2, n2, c2, a1, a2, a3⟩ := h
  exact ⟨d, n, p1, n1, c1, p2, n2, c2, a1.keeps (chg_keepT hc hs), hc.at_ a2 h1, a3⟩
theorem TrIn.below {T : Nat → Prop} {w w' : World} {bt : Nat} {L : List Em} (h : TrIn T w bt L) (hb : Below w.heap.size w w') : TrIn T w' bt L := h.chg (S := fun _ => False) (chg_bl hb) (fun _ e => e.elim) (fun e => e)
theorem DcIn.chg {T S : Nat → Prop} {w w' : World} {dd : Nat} {D : List Em} (h : DcIn T w dd D) (hc : Chg S w w') (hs : ∀ b, S b → ¬ T b) (h1 : ¬ S dd) : DcIn T w' dd D := by
  obtain ⟨PD, CD, hd⟩ := h
  exact ⟨PD, CD, hd.chg hc hs h1⟩
theorem TrIn.rise {T : Nat → Prop} {w : World} {bt : Nat} {L : List Em} (h : TrIn T w bt L) : Rise ltM L := by
  obtain ⟨d, n, p1, n1, c1, p2, n2, c2, a1, a2, rfl⟩ := h
  exact a1.up
theorem trin_of {T : Nat → Prop} {w w' : World} {bt : Nat} {sz : Int} {L : List Em} (h : TrQ T w bt false sz L w') (hr : Rise ltM L) (hs : sz = (L.length : Int)) : TrIn T w' bt L ∧ Chg (fun b => b = bt) w w' := by
  subst hs
  have hc : Chg (fun b => b = bt) w w' := by obtain ⟨_, _, _, _, _, _, _, _, _, _, _, _, hc⟩ := h; exact hc
  exact ⟨trq_rt h hr, hc⟩
theorem tr_put (T : Nat → Prop) (bt : Nat) (L : List Em) (k : List Va) (id : Int) (q : Option Addr) (c : Nat) (w : World) (h : TrIn T w bt L) (few : L.length ≤ 4096) (hT : ∀ b, w.heap.size ≤ b → T b) (h1 : ¬ T bt) (hk : rowAt w q k) (fk : ∀ v ∈ k, fit v.n) (hs : ∀ v ∈ k, v.s.size ≤ 9223372036854775807) (hTb : Tabs w) (hE : keyE k = 0) :
    Calls Tryz.prog 8 #[.pointer (some ⟨bt, 0, none⟩), .slice q k.length c, .int .u64 id] w fun e W =>
      (clB false ⟨k.map kepV, id⟩ L = true ∧ e = .returned (.int .i64 50) ∧ Below w.heap.size w W) ∨ (clB false ⟨k.map kepV, id⟩ L = false ∧ 4096 ≤ L.length ∧ e = .returned (.int .i64 2) ∧ Below w.heap.size w W) ∨ (clB false ⟨k.map kepV, id⟩ L = false ∧ L.length < 4096 ∧ e = .returned (.int .i64 0) ∧ ∃ m : Em, m.e = ⟨k.map kepV, id⟩ ∧ TrIn T W bt (ins ltM m L) ∧ Chg (fun b => b = bt) w W) := by
  have hup := h.rise
  obtain ⟨d, n, p1, n1, d1, p2, n2, d2, a1, a2, a3⟩ := h
  refine (Put_ok T k id q c d bt n p1 n1 d1 p2 n2 d2 false L.length w a1 a2 hk fk hs hTb hE hT h1 (by omega) (by omega)).mono (fun e W hq => ?_)
  rw [a3] at hq
  rcases hq with ⟨x1, x2, x3⟩ | ⟨x1, x2, x3, x4⟩ | ⟨x1, x2, x3, m, x4, x5⟩
  · exact Or.inl ⟨x1, x2, x3⟩
  · exact Or.inr (Or.inl ⟨x1, by omega, x3, x4⟩)
  · obtain ⟨y1, y2⟩ := trin_of x5 (ins_rise (e := m) ord3M hup (fun x hx => clash_none x1 x hx m x4)) (by rw [ins_len]; omega)
    exact Or.inr (Or.inr ⟨x1, by omega, x3, m, x4, y1, y2⟩)
theorem tr_drop (T : Nat → Prop) (bt : Nat) (L : List Em) (k : List Va) (id : Int) (q : Option Addr) (c : Nat) (w : World) (h : TrIn T w bt L) (few : L.length ≤ 4097) (hT : ∀ b, w.heap.size ≤ b → T b) (h1 : ¬ T bt) (hk : rowAt w q k) (fk : ∀ v ∈ k, fit v.n) (hx : ofEn ⟨k, id⟩ L ≠ []) (hl : (del ltM (tgt ⟨k, id⟩) L).length = L.length - 1) :
    Calls Tryz.prog 9 #[.pointer (some ⟨bt, 0, none⟩), .slice q k.length c, .int .u64 id] w fun e W => e = .returned (.bool true) ∧ TrIn T W bt (del ltM (tgt ⟨k, id⟩) L) ∧ Chg (fun b => b = bt) w W := by
  have hup := h.rise
  have hpos : 1 ≤ L.length := by
    cases hL : L with
    | nil => rw [hL] at hx; exact absurd rfl hx
    | cons => simp
  obtain ⟨d, n, p1, n1, d1, p2, n2, d2, a1, a2, a3⟩ := h
  refine (Drop_yes T ⟨k, id⟩ q c d bt n p1 n1 d1 p2 n2 d2 false L.length w a1 a2 ⟨hk, fk⟩ (tgt ⟨k, id⟩) rfl hT h1 (by rw [a3]; exact hx) (by omega) (by omega)).mono (fun e W hq => ?_)
  obtain ⟨q1, x5⟩ := hq
  rw [a3] at x5
  exact ⟨q1, trin_of x5 (del_rise hup) (by rw [hl]; omega)⟩
theorem tr_none (T : Nat → Prop) (bt : Nat) (L : List Em) (k : List Va) (id : Int) (q : Option Addr) (c : Nat) (w : World) (h : TrIn T w bt L) (hk : rowAt w q k) (fk : ∀ v ∈ k, fit v.n) (hx : ofEn ⟨k, id⟩ L = []) :
    Calls Tryz.prog 9 #[.pointer (some ⟨bt, 0, none⟩), .slice q k.length c, .int .u64 id] w fun e W => e = .returned (.bool false) ∧ Below w.heap.size w W := by
  obtain ⟨d, n, p1, n1, d1, p2, n2, d2, a1, a2, a3⟩ := h
  exact Drop_no T ⟨k, id⟩ q c d bt n p1 n1 d1 p2 n2 d2 false L.length w a1 a2 ⟨hk, fk⟩ (by rw [a3]; exact hx)
theorem dc_put (T : Nat → Prop) (dd : Nat) (D : List Em) (k : List Va) (id : Int) (q : Option Addr) (c : Nat) (w : World) (h : DcIn T w dd D) (few : D.length ≤ 4096) (hT : ∀ b, w.heap.size ≤ b → T b) (h2 : ¬ T dd) (hk : rowAt w q k) (fk : ∀ v ∈ k, fit v.n) (hE : keyE k = 0) :
    Calls Tryz.prog 12 #[.pointer (some ⟨dd, 0, none⟩), .slice q k.length c, .int .u64 id] w fun e W =>
      (dupB k id D = true ∧ e = .returned (.int .i64 50) ∧ Below w.heap.size w W) ∨ (dupB k id D = false ∧ 4096 ≤ D.length ∧ e = .returned (.int .i64 2) ∧ Below w.heap.size w W) ∨ (dupB k id D = false ∧ D.length < 4096 ∧ e = .returned (.int .i64 0) ∧ ∃ m : Em, m.e = ⟨k, id⟩ ∧ DcIn T W dd (ins ltM m D) ∧ Chg (fun b => b = dd) w W) := by
  obtain ⟨PD, CD, hd⟩ := h
  refine (docPut_ok_off T k id q c dd D PD D.length CD w hd (by omega) hk.off fk hE hT h2).mono (fun e W hq => ?_)
  rcases hq with x | x | ⟨y1, y2, y3, m', p', c', y4, y5, y6⟩
  · exact Or.inl x
  · exact Or.inr (Or.inl x)
  · refine Or.inr (Or.inr ⟨y1, y2, y3, m', y4, ⟨p', c', ?_⟩, y6⟩)
    rw [ins_len]; exact y5
theorem dc_drop (T : Nat → Prop) (dd : Nat) (D : List Em) (k : List Va) (id : Int) (q : Option Addr) (c : Nat) (w : World) (h : DcIn T w dd D) (few : D.length ≤ 4097) (hT : ∀ b, w.heap.size ≤ b → T b) (h2 : ¬ T dd) (hk : rowAt w q k) (fk : ∀ v ∈ k, fit v.n) (hr : Rise ltM D) (hx : ofEn ⟨k, id⟩ D ≠ []) :
    Calls Tryz.prog 19 #[.pointer (some ⟨dd, 0, none⟩), .slice q k.length c, .int .u64 id] w fun e W => e = .returned (.bool true) ∧ DcIn T W dd (del ltM (tgt ⟨k, id⟩) D) ∧ Chg (fun b => b = dd) w W := by
  obtain ⟨PD, CD, hd⟩ := h
  have hat : atB ⟨k, id⟩ D = true := by
    rw [at_of hr]
    cases hh : ofEn ⟨k, id⟩ D with
    | nil => exact absurd hh hx
    | cons => rfl
  refine (docDrop_off T ⟨k, id⟩ q c dd false D PD D.length CD w hd (by omega) ⟨hk.off, fk⟩ hT h2).mono (fun e W hq => ?_)
  rcases hq with ⟨y1, _⟩ | ⟨y1, y2, p', c', y5, y6⟩
  · rw [hat] at y1; cases y1
  · have hcut := cut_del hr hat
    have hA : place ltM (tgt ⟨k, id⟩) D < D.length := by
      cases hy : D[place ltM (tgt ⟨k, id⟩) D]? with
      | none => unfold atB at hat; rw [hy] at hat; cases hat
      | some y => exact (List.getElem?_eq_some_iff.1 hy).1
    have hdl : (del ltM (tgt ⟨k, id⟩) D).length = D.length - 1 := by
      rw [← hcut, List.length_append, List.length_take, List.length_drop]; omega
    rw [hcut] at y5
    exact ⟨y2, ⟨p', c', by rw [hdl]; exact y5⟩, y6⟩
theorem del_len {x : En} {D : List Em} (hr : Rise ltM D) (hx : ofEn x D ≠ []) : (del ltM (tgt x) D).length = D.length - 1 := by
  have hat : atB x D = true := by
    rw [at_of hr]
    cases hh : ofEn x D with
    | nil => exact absurd hh hx
    | cons => rfl
  have hcut := cut_del hr hat
  have hA : place ltM (tgt x) D < D.length := by
    cases hy : D[place ltM (tgt x) D]? with
    | none => unfold atB at hat; rw [hy] at hat; cases hat
    | some y => exact (List.getElem?_eq_some_iff.1 hy).1
  rw [← hcut, List.length_append, List.length_take, List.length_drop]; omega
theorem of_ins {x : En} {m : Em} {L : List Em} (h : ordE m.e x = 0) : ofEn x (ins ltM m L) ≠ [] := fun e => by
  have : m ∈ ofEn x (ins ltM m L) := ofEn_mem.2 ⟨by unfold ins; simp, h⟩
  rw [e] at this
  cases this
theorem of_del {x : En} {L : List Em} : ofEn x (del ltM (tgt x) L) = [] := by
  rw [List.eq_nil_iff_forall_not_mem]
  intro z hz
  obtain ⟨h1, h2⟩ := ofEn_mem.1 hz
  unfold del at h1
  have h3 := (List.mem_filter.1 h1).2
  have h4 : (ltE z.e x || ltE x z.e) = true := h3
  have t := od_ordE.turn z.e x
  unfold ltE at h4
  rw [Bool.or_eq_true, decide_eq_true_eq, decide_eq_true_eq] at h4
  omega
/-- within the law's loop: what may change besides the tree's box and the list's is Z -/
structure MdZ (w : World) (bt dd : Nat) (Z : Nat → Prop) (wr : World) : Prop where
  bl : Below w.heap.size w wr
  pr : ∃ L D, PrIn (fun b => w.heap.size ≤ b ∧ b ≠ bt ∧ b ≠ dd ∧ ¬ Z b) wr bt dd L D
  lo : w.heap.size ≤ bt ∧ w.heap.size ≤ dd
  zl : ∀ b, Z b → w.heap.size ≤ b ∧ b < wr.heap.size ∧ b ≠ bt ∧ b ≠ dd
theorem MdZ.lt {w wr : World} {bt dd : Nat} {Z : Nat → Prop} (h : MdZ w bt dd Z wr) : bt < wr.heap.size ∧ dd < wr.heap.size := by
  obtain ⟨L, D, hp⟩ := h.pr
  obtain ⟨_, _, _, _, _, _, _, _, _, a, _⟩ := hp.tr
  obtain ⟨_, _, hd⟩ := hp.dc
  exact ⟨lt_of_heap a, lt_of_heap hd.box⟩
theorem MdZ.chg {w wr W : World} {bt dd : Nat} {Z : Nat → Prop} (h : MdZ w bt dd Z wr) (hc : Chg Z wr W) : MdZ w bt dd Z W := by
  obtain ⟨L, D, hp⟩ := h.pr
  exact ⟨h.bl.trans (hc.below h.bl.size (fun b hb => (h.zl b hb).1)), ⟨L, D, hp.chg hc (fun b hz ht => ht.2.2.2 hz) (fun e => (h.zl _ e).2.2.1 rfl) (fun e => (h.zl _ e).2.2.2 rfl)⟩, h.lo, fun b hb => by have := h.zl b hb; exact ⟨this.1, Nat.lt_of_lt_of_le this.2.1 hc.size, this.2.2⟩⟩
theorem MdZ.of {w wr : World} {bt dd : Nat} {Z : Nat → Prop} (h : Mid w bt dd wr) {W : World} (hb : Below wr.heap.size wr W) (hz : ∀ b, Z b → wr.heap.size ≤ b ∧ b < W.heap.size) : MdZ w bt dd Z W := by
  obtain ⟨l1, l2⟩ := h.lt
  obtain ⟨L, D, hp⟩ := h.pr
  exact ⟨h.bl.trans (hb.mono h.bl.size), ⟨L, D, (hp.mono (U := fun b => w.heap.size ≤ b ∧ b ≠ bt ∧ b ≠ dd ∧ ¬ Z b) (fun b hb ht => ⟨ht.1, ht.2.1, ht.2.2, fun e => by have := (hz b e).1; omega⟩)).below hb⟩, h.lo, fun b e => by have := hz b e; have := h.bl.size; refine ⟨by omega, by omega, by omega, by omega⟩⟩
theorem MdZ.mid {w wr : World} {bt dd : Nat} {Z : Nat → Prop} (h : MdZ w bt dd Z wr) : Mid w bt dd wr := by
  obtain ⟨L, D, hp⟩ := h.pr
  exact ⟨h.bl, ⟨L, D, hp.mono (fun b _ ht => ⟨ht.1, ht.2.1, ht.2.2.1⟩)⟩, h.lo⟩
theorem PrIn.own {T : Nat → Prop} {bt dd : Nat} {L D : List Em} {X Y : World} {row : Option Nat} (h : PrIn T X bt dd L D) (hg : X.grownBy Y row) (hr : ∀ r, row = some r → ∃ o : Obj, X.heap[r]? = some o ∧ o.isCells = false) : PrIn T Y bt dd L D := by
  obtain ⟨d, n, p1, n1, c1, p2, n2, c2, a1, a2, a3⟩ := h.tr
  obtain ⟨PD, CD, hd⟩ := h.dc
  have kp : Keeps T X Y := (keeps_own hg hr).mono (fun _ _ => trivial)
  exact ⟨⟨d, n, p1, n1, c1, p2, n2, c2, a1.keeps kp, cells_own hg hr a2, a3⟩, ⟨PD, CD, ⟨cells_own hg hr hd.box, hd.row.keeps kp, fun q hq => (hd.keys q hq).keeps kp⟩⟩, h.ag, h.few, h.ne⟩
theorem MdZ.own {w : World} {bt dd : Nat} {Z : Nat → Prop} {B : Nat} (hB : w.heap.size ≤ B) : OwnFrom B (fun (_ : Unit) A => MdZ w bt dd Z A) := fun s X Y row hs hg hr => by
  obtain ⟨L, D, hp⟩ := hs.pr
  exact ⟨ownFrom_below (β := Unit) (Nat.le_refl _) hB s X Y row hs.bl hg hr, ⟨L, D, hp.own hg (fun r e => (hr r e).2)⟩, hs.lo, fun b e => by have := hs.zl b e; exact ⟨this.1, Nat.lt_of_lt_of_le this.2.1 hg.size, this.2.2⟩⟩
theorem does_le_z {w wr : World} {bt dd : Nat} {Z : Nat → Prop} (h : MdZ w bt dd Z wr) (a : Ac) (ha : a.came w) (hk : a.kd ≤ 1) (hTb : Tabs w) :
    Calls Tryz.prog 10 #[.pointer (some ⟨bt, 0, none⟩), .pointer (some ⟨dd, 0, none⟩), .agg #[.int .i64 a.kd, .int .i64 a.stop, .slice a.q a.k.length a.c, .int .u64 a.id, .slice a.P1 a.n1 a.C1, .slice a.P2 a.n2 a.C2, .bool a.li, .bool a.hi]] wr fun e w' => e = .returned (.bool true) ∧ MdZ w bt dd Z w' ∧ Chg (fun b => b = bt ∨ b = dd) wr w' := by
  obtain ⟨L, D, hp⟩ := h.pr
  obtain ⟨l1, l2⟩ := h.lt
  have hT : ∀ b, wr.heap.size ≤ b → w.heap.size ≤ b ∧ b ≠ bt ∧ b ≠ dd ∧ ¬ Z b := fun b hb => ⟨Nat.le_trans h.bl.size hb, by omega, by omega, fun e => by have := (h.zl b e).2.1; omega⟩
  have ha2 := ha.below h.bl
  have zl : ∀ w' : World, wr.heap.size ≤ w'.heap.size → ∀ b, Z b → w.heap.size ≤ b ∧ b < w'.heap.size ∧ b ≠ bt ∧ b ≠ dd := fun w' hs b e => by have := h.zl b e; exact ⟨this.1, Nat.lt_of_lt_of_le this.2.1 hs, this.2.2⟩
  have fin : ∀ e w', DoQ (fun b => w.heap.size ≤ b ∧ b ≠ bt ∧ b ≠ dd ∧ ¬ Z b) wr bt dd e w' → e = .returned (.bool true) ∧ MdZ w bt dd Z w' ∧ Chg (fun b => b = bt ∨ b = dd) wr w' := fun e w' hq => by
    obtain ⟨q1, q2, q3⟩ := hq
    exact ⟨q1, ⟨h.bl.trans (q2.below h.bl.size (fun i hi => by rcases hi with rfl | rfl; exact h.lo.1; exact h.lo.2)), q3, h.lo, zl w' q2.size⟩, q2⟩
  by_cases k0 : a.kd = 0
  · rw [k0]
    exact (does_put_off _ bt dd L D a.k a.id a.stop a.q a.P1 a.P2 a.c a.n1 a.C1 a.n2 a.C2 a.li a.hi wr hp hT (fun e => e.2.1 rfl) (fun e => e.2.2.1 rfl) ha2.row ha2.fits ha2.txt ha2.few (hTb.below h.bl)).mono fin
  by_cases k1 : a.kd = 1
  · rw [k1]
    exact (does_drop_off _ bt dd L D a.k a.id a.stop a.q a.P1 a.P2 a.c a.n1 a.C1 a.n2 a.C2 a.li a.hi wr hp hT (fun e => e.2.1 rfl) (fun e => e.2.2.1 rfl) ha2.row ha2.fits ha2.few).mono fin
  · refine (does_none_off a.kd a.k a.id a.stop a.q a.P1 a.P2 _ _ a.c a.n1 a.C1 a.n2 a.C2 a.li a.hi wr ha2.row ha2.few (by omega)).mono (fun e w' hq => ⟨hq.1, h.chg (chg_bl hq.2), chg_bl hq.2⟩)
/-- cells alone have changed -/
theorem chg_keepsFrom {S : Nat → Prop} {B : Nat} {w w' : World} (h : Chg S w w') (hs : ∀ b, S b → ∃ cs t z, w.heap[b]? = some (.cells cs t z)) : KeepsFrom B w w' := ⟨h.size, fun k o _ hk ho => (h.at_ hk (fun e => by obtain ⟨cs, t, z, hc⟩ := hs k e; rw [hc] at hk; cases hk; cases ho))⟩
/-- what an entry put in, taken out, asked for again, and then the same by the document, leave -/
def NewQ (T : Nat → Prop) (bt dd : Nat) (L D : List Em) (k : List Va) (n : Nat) (id : Int) (w : World) (e : Ending) (W : World) : Prop :=
  (∃ x : Int, (x == 0) = false ∧ e = .returned (.int .i64 x) ∧ Below w.heap.size w W ∧ PrIn T W bt dd L D ∧ ∀ W', Below W.heap.size W W' → ∀ q c, rowAt W' q k → Calls Tryz.prog 12 #[.pointer (some ⟨dd, 0, none⟩), .slice q n c, .int .u64 id] W' fun e2 W2 => e2 = .returned (.int .i64 x) ∧ Below W'.heap.size W' W2) ∨
  (e = .returned (.int .i64 0) ∧ Chg (fun b => b = bt) w W ∧ ∀ W1, Below W.heap.size W W1 → ∀ q c, rowAt W1 q k → Calls Tryz.prog 9 #[.pointer (some ⟨bt, 0, none⟩), .slice q n c, .int .u64 id] W1 fun e W2 => e = .returned (.bool true) ∧ Chg (fun b => b = bt) W1 W2 ∧
    ∀ W3, Below W2.heap.size W2 W3 → ∀ q c, rowAt W3 q k → Calls Tryz.prog 9 #[.pointer (some ⟨bt, 0, none⟩), .slice q n c, .int .u64 id] W3 fun e W4 => e = .returned (.bool false) ∧ Below W3.heap.size W3 W4 ∧
      ∀ W5, Below W4.heap.size W4 W5 → ∀ q c, rowAt W5 q k → Calls Tryz.prog 12 #[.pointer (some ⟨dd, 0, none⟩), .slice q n c, .int .u64 id] W5 fun e W6 => e = .returned (.int .i64 0) ∧ Chg (fun b => b = dd) W5 W6 ∧
        ∀ W7, Below W6.heap.size W6 W7 → ∀ q c, rowAt W7 q k → Calls Tryz.prog 19 #[.pointer (some ⟨dd, 0, none⟩), .slice q n c, .int .u64 id] W7 fun e W8 => e = .returned (.bool true) ∧ Chg (fun b => b = dd) W7 W8 ∧ ∃ L' D', PrIn T W8 bt dd L' D')
theorem new_any (T : Nat → Prop) (bt dd : Nat) (L D : List Em) (k : List Va) (n : Nat) (hn : n = k.length) (id : Int) (q : Option Addr) (c : Nat) (w : World) (h : PrIn T w bt dd L D) (hT : ∀ b, w.heap.size ≤ b → T b) (h1 : ¬ T bt) (h2 : ¬ T dd) (hk : rowAt w q k) (fk : ∀ v ∈ k, fit v.n) (hs : ∀ v ∈ k, v.s.size ≤ 9223372036854775807) (hl : k.length ≤ 1000000000) (hTb : Tabs w) :
    Calls Tryz.prog 8 #[.pointer (some ⟨bt, 0, none⟩), .slice q n c, .int .u64 id] w (NewQ T bt dd L D k n id w) := by
  subst hn
  have hlen := h.ag.1
  have few := h.few
  by_cases hE : keyE k = 0
  · obtain ⟨l1, l2, l3⟩ := keyE_zero hE
    have hcd := clash_dup (id := id) l3 h.ag
    have up : ∀ {W : World}, w.heap.size ≤ W.heap.size → ∀ b, W.heap.size ≤ b → T b := fun hs b hb => hT b (Nat.le_trans hs hb)
    refine (tr_put T bt L k id q c w h.tr few hT h1 hk fk hs hTb hE).mono (fun e W hq => ?_)
    rcases hq with ⟨x1, x2, x3⟩ | ⟨x1, x2, x3, x4⟩ | ⟨x1, x2, x3, m, x4, x5, x6⟩
    · refine Or.inl ⟨50, by decide, x2, x3, h.below x3, fun W' hW q2 c2 hk2 => ?_⟩
      have hb := x3.trans (hW.mono x3.size)
      refine (dc_put T dd D k id q2 c2 W' (h.below hb).dc (by omega) (up hb.size) h2 hk2 fk hE).mono (fun e2 W2 hq2 => ?_)
      rcases hq2 with ⟨y1, y2, y3⟩ | ⟨y1, _⟩ | ⟨y1, _⟩
      · exact ⟨y2, y3⟩
      · rw [← hcd, x1] at y1; cases y1
      · rw [← hcd, x1] at y1; cases y1
    · refine Or.inl ⟨2, by decide, x3, x4, h.below x4, fun W' hW q2 c2 hk2 => ?_⟩
      have hb := x4.trans (hW.mono x4.size)
      refine (dc_put T dd D k id q2 c2 W' (h.below hb).dc (by omega) (up hb.size) h2 hk2 fk hE).mono (fun e2 W2 hq2 => ?_)
      rcases hq2 with ⟨y1, y2, y3⟩ | ⟨y1, y2, y3, y4⟩ | ⟨y1, y2, _⟩
      · rw [← hcd, x1] at y1; cases y1
      · exact ⟨y3, y4⟩
      · omega
    · have hup := h.riseL
      have r1 : Rise ltM (ins ltM m L) := x5.rise
      have o1 : ofEn ⟨k, id⟩ (ins ltM m L) ≠ [] := of_ins (by rw [x4]; exact ordE_zero.2 ⟨kep_row l3, rfl⟩)
      refine Or.inr ⟨x3, x6, fun W1 b1 q1 c1 hk1 => ?_⟩
      have s1 : w.heap.size ≤ W1.heap.size := Nat.le_trans x6.size b1.size
      refine (tr_drop T bt (ins ltM m L) k id q1 c1 W1 (x5.below b1) (by rw [ins_len]; omega) (up s1) h1 hk1 fk o1 (del_len r1 o1)).mono (fun e2 W2 hq2 => ?_)
      obtain ⟨y1, y2, y3⟩ := hq2
      refine ⟨y1, y3, fun W3 b3 q3 c3 hk3 => ?_⟩
      have s3 : w.heap.size ≤ W3.heap.size := Nat.le_trans s1 (Nat.le_trans y3.size b3.size)
      refine (tr_none T bt _ k id q3 c3 W3 (y2.below b3) hk3 fk of_del).mono (fun e4 W4 hq4 => ⟨hq4.1, hq4.2, fun W5 b5 q5 c5 hk5 => ?_⟩)
      have s5 : w.heap.size ≤ W5.heap.size := Nat.le_trans s3 (Nat.le_trans hq4.2.size b5.size)
      have dc5 : DcIn T W5 dd D := by
        have c15 : Chg (fun b => b = bt) w W5 := ((x6.trans (chg_bl b1)).trans (y3.trans (chg_bl b3))).trans ((chg_bl hq4.2).trans (chg_bl b5))
        exact DcIn.chg h.dc c15 (fun b e ht => h1 (e ▸ ht)) h.ne
      have tr5 := ((y2.below b3).below hq4.2).below b5
      refine (dc_put T dd D k id q5 c5 W5 dc5 (by omega) (up s5) h2 hk5 fk hE).mono (fun e6 W6 hq6 => ?_)
      rcases hq6 with ⟨z1, _⟩ | ⟨_, z2, _⟩ | ⟨z1, z2, z3, m', z4, z5, z6⟩
      · rw [← hcd, x1] at z1; cases z1
      · omega
      · refine ⟨z3, z6, fun W7 b7 q7 c7 hk7 => ?_⟩
        have s7 : w.heap.size ≤ W7.heap.size := Nat.le_trans s5 (Nat.le_trans z6.size b7.size)
        have ag1 : AgL (ins ltM m L) (ins ltM m' D) := agl_ins (by rw [x4, z4]; exact ⟨rfl, kep_row l3, by simp⟩) h.ag
        have rD : Rise ltM (ins ltM m' D) := agl_rise ag1 r1
        have oD : ofEn ⟨k, id⟩ (ins ltM m' D) ≠ [] := fun e => o1 ((agl_of ag1).2 e)
        have tr7 : TrIn T W7 bt (del ltM (tgt ⟨k, id⟩) (ins ltM m L)) := (tr5.chg z6 (fun b e ht => h2 (e ▸ ht)) (fun e => h.ne e.symm)).below b7
        refine (dc_drop T dd (ins ltM m' D) k id q7 c7 W7 (DcIn.chg z5 (S := fun _ => False) (chg_bl b7) (fun _ e => e.elim) (fun e => e)) (by rw [ins_len]; omega) (up s7) h2 hk7 fk rD oD).mono (fun e8 W8 hq8 => ?_)
        obtain ⟨v1, v2, v3⟩ := hq8
        have ag2 := agl_del (m := tgt ⟨k, id⟩) (x := tgt ⟨k, id⟩) (by have := od_ordE.turn (tgt ⟨k, id⟩).e (tgt ⟨k, id⟩).e; omega) ag1
        exact ⟨v1, v3, _, _, PrIn.of (tr7.chg v3 (fun b e ht => h2 (e ▸ ht)) (fun e => h.ne e.symm)) v2 ag2 (by rw [del_len r1 o1, ins_len]; omega) h.ne⟩
  · refine (Put_bad k id q c bt w hl hk hs hTb hE).mono (fun e W hq => ?_)
    refine Or.inl ⟨keyE k, by rw [beq_eq_false_iff_ne]; exact hE, hq.1, hq.2, h.below hq.2, fun W' hW q2 c2 hk2 => ?_⟩
    exact docPut_bad_off k id q2 c2 dd W' hl hk2.off hE
end Go.Proofs.YtclcajnodoifjaaGreatDoor

namespace Go.Proofs.YtclcajnodoifjaaGreatDoor
open Go.RowKit Go.Shelf Go.Joins Go.Maps
attribute [local go_sem] Oper.semAt_some
set_option maxRecDepth 100000

theorem bxt (w : World) (a b c : Obj) : (((w.alloc a).alloc b).alloc c).heap[w.heap.size]? = some a ∧ (((w.alloc a).alloc b).alloc c).heap[w.heap.size + 1]? = some b ∧ (((w.alloc a).alloc b).alloc c).heap[w.heap.size + 1 + 1]? = some c ∧ Below w.heap.size w (((w.alloc a).alloc b).alloc c) ∧ (((w.alloc a).alloc b).alloc c).heap.size = w.heap.size + 1 + 1 + 1 := by
  obtain ⟨a0, a1, ab, as_⟩ := bx2 w a b
  obtain ⟨w2, h2⟩ : ∃ w2, w2 = (w.alloc a).alloc b := ⟨_, rfl⟩
  rw [← h2] at a0 a1 ab as_ ⊢
  have eb := (Below.refl _ w2).alloc (Nat.le_refl _) c
  have e0 := heap_alloc_new w2 c
  rw [as_] at e0
  exact ⟨(eb.block _ (lt_of_heap a0)).trans a0, (eb.block _ (lt_of_heap a1)).trans a1, e0, ab.trans (eb.mono ab.size), by rw [World.size_alloc, as_]⟩
/-- what the acts are, at any later world -/
theorem acts_at {w : World} {P : Option Addr} {l : List Ac} (hA : actsAt w P l) {W : World} (hW : Below w.heap.size w W) {i : Nat} (hi : i < l.length) : ∃ a g o, l[i]? = some a ∧ P = some ⟨g, o, none⟩ ∧ g < w.heap.size ∧ ∀ j u, a.en[j]? = some u → W.cell? ⟨g, o + i * 8 + j, none⟩ = some u := by
  obtain ⟨a, ha⟩ : ∃ a, l[i]? = some a := ⟨_, List.getElem?_eq_getElem hi⟩
  rcases hA with h | ⟨g, o, e, hg, hc⟩
  · rw [h] at ha; cases ha
  · exact ⟨a, g, o, ha, e, hg, fun j u hu => (hW.cell (p := ⟨g, o + i * 8 + j, none⟩) hg).trans (hc i a ha j u hu)⟩
/-- region_round: a drawn region of a round, under a held condition -/
theorem op_wide {n : Nat} {P : Program} {ops : Array Oper} {Q : Exit → Act → World → Prop} {i : Nat} {K : Act → World → Prop} {a : Act} {w : World} (hq : ¬ LetsOut Q) (h : wpOp P ops Q i K a w) : wpOpIn Fence.wide n P ops Q i K a w := by
  unfold wpOp at h
  unfold wpOpIn
  cases ho : ops[i]? with
  | none => simpa [ho] using h
  | some o =>
    simp only [ho] at h ⊢
    split
    · rename_i hw
      simp only [hw, if_true] at h
      replace h := h.resolve_right (fun e => hq e.2)
      unfold Oper.wp at h
      unfold Oper.wpIn
      refine ⟨fun _ _ => trivial, ?_⟩
      rw [Fence.wide_round, Oper.semAt_none]
      generalize (execOp a.eval o).run P w = r at h ⊢
      cases r with
      | ok nx w' =>
        cases nx with
        | value v => exact h
        | skip => exact h
        | defer d => exact h
        | enter f args => exact ⟨(fun e => by cases e), callsIn_wide.2 h⟩
        | row r args => exact ⟨(fun e => by cases e), fun c cs _ => let ⟨v, w', r, s⟩ := h c cs; ⟨v, w', r, stepsIn_wide.2 s⟩⟩
        | _ => exact h.elim
      | halt x w' => cases x <;> first | exact h | exact h.elim
    · rename_i hw
      simp only [hw] at h
      exact ⟨fun _ _ => trivial, h⟩
theorem any_wide {n : Nat} {P : Program} {md : Region.Mode} {ops : Array Oper} {Q : Exit → Act → World → Prop} (hq : ¬ LetsOut Q) : ∀ (fuel : Nat) (listed : Array Bool) (a : Act) (w : World), wpAny P md ops Q fuel listed a w → wpAnyIn Fence.wide n P md ops Q fuel listed a w
  | 0, _, _, _, h => h
  | fuel + 1, _, _, _, h => ⟨h.1, fun i hi => wpOpIn_mono (fun a w => any_wide hq fuel _ a w) (op_wide hq (h.2 i hi))⟩
theorem region_round {n l id : Nat} {P : Program} {ops : Array Oper} {Q : Exit → Act → World → Prop} {S : World → Prop} {a : Act} {w : World} (hm : P.follows .mixedOrders = true) (hd : noDefer ops = true) (hS : S w.drew) (h : S w.drew → wpAnyH P .any ops (fun e a w => e = .normal ∧ Q .normal a w) S ops.size (Array.replicate ops.size false) a w.drew) : (Code.region id ops true).wpIn (Fence.wide.inRound l) n P Q a w :=
  wpIn_mono (wpIn_region_any hm (any_inRound rfl hd _ _ _ _ (any_wide (Q := fun e a w => e = .normal ∧ Q .normal a w) (fun h => by obtain ⟨_, _, h⟩ := h; cases h.1) _ _ _ _ (wpAny_of_held _ _ _ _ (h hS))))) (fun e a w h => by obtain ⟨rfl, h⟩ := h; exact h)
/-- between two rounds of the law's loop -/
structure WhI (w0 w5 : World) (bt dd nb kb : Nat) (Y Z : Nat → Prop) (k : Nat) (A : World) : Prop where
  n : A.heap[nb]? = some (.cells #[.int .i64 (k : Int)] 3 (0, 0))
  k : A.heap[kb]? = some (.cells #[.int .i64 (k : Int)] 3 (0, 0))
  kp : Keeps (fun b => ¬ Y b) w5 A
  md : MdZ w0 bt dd Z A
theorem WhI.own {w0 w5 : World} {bt dd nb kb : Nat} {Y Z : Nat → Prop} {k : Nat} {B : Nat} (hB : w0.heap.size ≤ B) : OwnFrom B (fun (_ : Unit) A => WhI w0 w5 bt dd nb kb Y Z k A) := fun _ X V row hs hg hr =>
  ⟨cells_own hg (fun r e => (hr r e).2) hs.n, cells_own hg (fun r e => (hr r e).2) hs.k, hs.kp.trans ((keeps_own hg (fun r e => (hr r e).2)).mono (fun _ _ => trivial)), MdZ.own hB () X V row hs.md hg hr⟩
def WhX (Tot DL : List Em) (c : Code) (pre : List (Hd Tot)) (_ : World) : Prop := c = .ret ∧ ∃ pre0 x d, pre = pre0 ++ [x] ∧ DL[pre0.length]? = some d ∧ ¬ Agr x.1.e d.e
theorem chg_cell {S : Nat → Prop} {w w' : World} {b o : Nat} {v : Value} (h : Chg S w w') (hn : ¬ S b) (hc : w.cell? ⟨b, o, none⟩ = some v) : w'.cell? ⟨b, o, none⟩ = some v :=
  Keeps.cell (Keeps.of_chg (T := fun i => i = b) h (fun _ e _ => e ▸ hn)) rfl hc
/-- n has been told on -/
theorem wh_n {w0 w5 A W1 : World} {bt dd nb kb k : Nat} {Y Z : Nat → Prop} (hi : WhI w0 w5 bt dd nb kb Y Z k A) (hZ : Z nb) (hY : Y nb) (hne : nb ≠ kb) (b1 : Below A.heap.size A W1) :
    MdZ w0 bt dd Z (W1.setCell ⟨nb, 0, none⟩ (.int .i64 ((k : Int) + 1))) ∧ Chg Y A (W1.setCell ⟨nb, 0, none⟩ (.int .i64 ((k : Int) + 1))) ∧ (W1.setCell ⟨nb, 0, none⟩ (.int .i64 ((k : Int) + 1))).heap[nb]? = some (.cells #[.int .i64 ((k : Int) + 1)] 3 (0, 0)) ∧ (W1.setCell ⟨nb, 0, none⟩ (.int .i64 ((k : Int) + 1))).heap[kb]? = some (.cells #[.int .i64 (k : Int)] 3 (0, 0)) := by
  have n1 := (b1.block _ (lt_of_heap hi.n)).trans hi.n
  have k1 := (b1.block _ (lt_of_heap hi.k)).trans hi.k
  refine ⟨hi.md.chg (chg_set (chg_bl b1) ⟨nb, 0, none⟩ _ hZ), chg_set (chg_bl b1) ⟨nb, 0, none⟩ _ hY, ?_, (heap_setCell_other W1 ⟨nb, 0, none⟩ _ _ (by show kb ≠ nb; omega)).trans k1⟩
  rw [heap_set_in (o := 0) (v := .int .i64 ((k : Int) + 1)) n1]
  rfl
/-- and k -/
theorem wh_k {w0 w5 A W3 : World} {bt dd nb kb k g B : Nat} {Y Z : Nat → Prop} (hi : WhI w0 w5 bt dd nb kb Y Z k A) (hm : MdZ w0 bt dd Z W3) (hc : Chg Y A W3) (hn : W3.heap[nb]? = some (.cells #[.int .i64 ((k : Int) + 1)] 3 (0, 0))) (hk : W3.heap[kb]? = some (.cells #[.int .i64 (k : Int)] 3 (0, 0))) (hZ : Z kb) (hY : Y kb) (hne : nb ≠ kb) (hs : ∀ b, Y b → ∃ cs t z, A.heap[b]? = some (.cells cs t z)) :
    WhI w0 w5 bt dd nb kb Y Z (k + 1) (W3.setCell ⟨kb, 0, none⟩ (.int .i64 ((k : Int) + 1))) ∧ KeepsFrom B A (W3.setCell ⟨kb, 0, none⟩ (.int .i64 ((k : Int) + 1))) ∧ Keeps (fun b => ¬ Y b ∧ b ≠ g) A (W3.setCell ⟨kb, 0, none⟩ (.int .i64 ((k : Int) + 1))) := by
  have hc4 := chg_set hc ⟨kb, 0, none⟩ (.int .i64 ((k : Int) + 1)) hY
  have kp : Keeps (fun b => ¬ Y b) A (W3.setCell ⟨kb, 0, none⟩ (.int .i64 ((k : Int) + 1))) := Keeps.of_chg hc4 (fun b hb _ => hb)
  refine ⟨⟨(heap_setCell_other W3 ⟨kb, 0, none⟩ _ _ (by show nb ≠ kb; omega)).trans hn, ?_, hi.kp.trans kp, hm.chg (chg_set (Chg.refl _ _) ⟨kb, 0, none⟩ _ hZ)⟩, chg_keepsFrom hc4 hs, kp.mono (fun b h => h.1)⟩
  rw [heap_set_in (o := 0) (v := .int .i64 ((k : Int) + 1)) hk]
  rfl
end Go.Proofs.YtclcajnodoifjaaGreatDoor

