/-
  The walk of the law's does: told to put, told to drop.
-/
import Derived.Test.YtclcajnodoifjaaGreatDoorGAP
namespace Go.Proofs.YtclcajnodoifjaaGreatDoor
open Go.RowKit Go.Shelf Go.Joins Go.Maps
set_option maxRecDepth 100000

theorem blk_of_shr {w : World} {b n cap : Nat} {e : TypeId} {xs : List Value} (s : shr w e 3 (.slice (some ⟨b, 0, none⟩) n cap) n xs) : ∃ cs, w.heap[b]? = some (.cells cs e (0, 0)) := by
  rcases s.2 with ⟨h, _⟩ | ⟨g, off, cap', cur, h, hg, _⟩
  · cases h
  · cases h
    exact ⟨cur, hg⟩
set_option maxHeartbeats 4000000 in
set_option maxRecDepth 1000000 in
theorem copied_blk0 (p : Option Addr) (c : Nat) (w : World) :
    Calls Tryz.prog 15 #[.slice p 0 c] w fun e w' => e = .returned (.slice (some ⟨w.heap.size, 0, none⟩) 0 0) ∧ w.heap.size < w'.heap.size ∧ (∃ cs, w'.heap[w.heap.size]? = some (.cells cs 40 (0, 0))) ∧ Below w.heap.size w w' := by
  have HB : Hid (∀ cs, w.heap.size < (w.alloc (.cells cs 40)).heap.size ∧ (∃ cs', (w.alloc (.cells cs 40)).heap[w.heap.size]? = some (.cells cs' 40 (0, 0))) ∧ Below w.heap.size w (w.alloc (.cells cs 40))) := fun cs => ⟨by rw [World.size_alloc]; omega, ⟨cs, heap_alloc_new _ _⟩, (Below.refl _ w).alloc (Nat.le_refl _) _⟩
  go_enter Tryz.func15, Tryz.ntmps15
  go_wp2_with (at_builtin; refine wp_app 30 rfl (.tmp 3) (.tmp 4) rfl rfl rfl (fun ty => app_nothing _ _ _ _ ty) ?_)
  go_ret
  exact ⟨rfl, HB.out _⟩
theorem chg_new {A : Nat → Prop} {a b d : World} {g : Nat} (h : Chg A a b) (k : Chg (fun i => i = g) b d) (hg : a.heap.size ≤ g) : Chg A a d :=
  ⟨k.os.trans h.os, k.tape.trans h.tape, k.output.trans h.output, Nat.le_trans h.size k.size, fun i hi hn => (k.block i (Nat.lt_of_lt_of_le hi h.size) (fun e => by omega)).trans (h.block i hi hn)⟩
/-- what does leaves -/
def DoQ (T : Nat → Prop) (w : World) (bt dd : Nat) (e : Ending) (w' : World) : Prop := e = .returned (.bool true) ∧ Chg (fun b => b = bt ∨ b = dd) w w' ∧ ∃ L' D', PrIn T w' bt dd L' D'
end Go.Proofs.YtclcajnodoifjaaGreatDoor

namespace Go.Proofs.YtclcajnodoifjaaGreatDoor
open Go.RowKit Go.Shelf Go.Joins Go.Maps
set_option maxRecDepth 100000

theorem three_parts {α : Type} (s : α → Int) : ∀ (L : List α), L.Pairwise (fun x y => (0 ≤ s x → 0 ≤ s y) ∧ (0 < s x → 0 < s y)) → L = L.filter (fun x => decide (s x < 0)) ++ (L.filter (fun x => decide (s x = 0)) ++ L.filter (fun x => decide (0 < s x)))
  | [], _ => rfl
  | x :: L, h => by
    obtain ⟨h1, h2⟩ := List.pairwise_cons.1 h
    have ih := three_parts s L h2
    have none_ : ∀ p : α → Bool, (∀ y ∈ L, p y = false) → L.filter p = [] := fun p hp => List.filter_eq_nil_iff.2 (fun y hy => by rw [hp y hy]; simp)
    rcases Int.lt_trichotomy (s x) 0 with hx | hx | hx
    · simp only [List.filter_cons, hx, show ¬ s x = 0 by omega, show ¬ 0 < s x by omega, decide_true, decide_false, if_true, List.cons_append]
      exact congrArg (x :: ·) ih
    · have e1 := none_ (fun y => decide (s y < 0)) (fun y hy => decide_eq_false (by have := (h1 y hy).1 (by omega); omega))
      rw [e1, List.nil_append] at ih
      simp only [List.filter_cons, hx, e1, show ¬ (0 : Int) < 0 by omega, decide_true, decide_false, if_true, List.cons_append]
      exact congrArg (x :: ·) ih
    · have e1 := none_ (fun y => decide (s y < 0)) (fun y hy => decide_eq_false (by have := (h1 y hy).2 hx; omega))
      have e2 := none_ (fun y => decide (s y = 0)) (fun y hy => decide_eq_false (by have := (h1 y hy).2 hx; omega))
      rw [e1, e2, List.nil_append, List.nil_append] at ih
      simp only [List.filter_cons, hx, e1, e2, show ¬ s x < 0 by omega, show ¬ s x = 0 by omega, decide_true, decide_false, if_true]
      exact congrArg (x :: ·) ih
theorem agl_take {L D : List Em} (h : AgL L D) (a : Nat) : AgL (L.take a) (D.take a) := by
  refine ⟨by rw [List.length_take, List.length_take, h.1], fun i e d he hd => ?_⟩
  rw [List.getElem?_take] at he hd
  by_cases hi : i < a
  · rw [if_pos hi] at he hd
    exact h.2 i e d he hd
  · rw [if_neg hi] at he
    cases he
theorem agl_drop {L D : List Em} (h : AgL L D) (a : Nat) : AgL (L.drop a) (D.drop a) := by
  refine ⟨by rw [List.length_drop, List.length_drop, h.1], fun i e d he hd => ?_⟩
  rw [List.getElem?_drop] at he hd
  exact h.2 _ e d he hd
theorem btw_low {k : List Va} (h0 : 0 < k.length) (L : List Em) : btw [] k false false L = L.filter (fun x => decide (begV x.e.key k < 0)) := by
  unfold btw within
  congr 1
  funext x
  simp [loB, hiB, show k ≠ [] from fun e => by rw [e] at h0; cases h0]
theorem btw_at {k : List Va} (h0 : 0 < k.length) (L : List Em) : btw k k true true L = L.filter (fun x => decide (begV x.e.key k = 0)) := by
  unfold btw within
  congr 1
  funext x
  rw [Bool.eq_iff_iff]
  simp [loB, hiB, show k ≠ [] from fun e => by rw [e] at h0; cases h0]
  omega
theorem btw_up {k : List Va} (h0 : 0 < k.length) (L : List Em) : btw k [] false false L = L.filter (fun x => decide (0 < begV x.e.key k)) := by
  unfold btw within
  congr 1
  funext x
  simp [loB, hiB, show k ≠ [] from fun e => by rw [e] at h0; cases h0]
/-- the parts, and what the document's list has of each -/
theorem btw_parts {k : List Va} (h0 : 0 < k.length) {L D : List Em} (hr : Rise ltM L) (ag : AgL L D) : ∃ a b c, a = (btw [] k false false L).length ∧ b = (btw k k true true L).length ∧ c = (btw k [] false false L).length ∧ a + b + c = D.length ∧ AgL (btw [] k false false L) (D.take a) ∧ AgL (btw k k true true L) ((D.drop a).take b) ∧ AgL (btw k [] false false L) (D.drop (a + b)) := by
  have h3 := three_parts (fun x : Em => begV x.e.key k) L (List.Pairwise.imp (fun {x y} h => beg_mono (a := x.e) (b := y.e) h k) hr)
  rw [btw_low h0, btw_at h0, btw_up h0]
  obtain ⟨A, hA⟩ : ∃ A, A = L.filter (fun x => decide (begV x.e.key k < 0)) := ⟨_, rfl⟩
  obtain ⟨B, hB⟩ : ∃ B, B = L.filter (fun x => decide (begV x.e.key k = 0)) := ⟨_, rfl⟩
  obtain ⟨C, hC⟩ : ∃ C, C = L.filter (fun x => decide (0 < begV x.e.key k)) := ⟨_, rfl⟩
  rw [← hA, ← hB, ← hC] at h3 ⊢
  have hl := ag.1
  rw [h3] at ag hl
  rw [List.length_append, List.length_append] at hl
  refine ⟨A.length, B.length, C.length, rfl, rfl, rfl, by omega, ?_, ?_, ?_⟩
  · have := agl_take ag A.length
    rwa [List.take_left] at this
  · have := agl_take (agl_drop ag A.length) B.length
    rwa [List.drop_left, List.take_left] at this
  · have := agl_drop (agl_drop ag A.length) B.length
    rwa [List.drop_left, List.drop_left, List.drop_drop] at this
end Go.Proofs.YtclcajnodoifjaaGreatDoor

namespace Go.Proofs.YtclcajnodoifjaaGreatDoor
open Go.RowKit Go.Shelf Go.Joins Go.Maps
set_option maxRecDepth 100000

/-- both are empty -/
theorem PrIn.empty {T : Nat → Prop} {w : World} {bt dd : Nat} (h1 : w.heap[bt]? = some (trO false (.slice none 0 0) (.slice none 0 0) 0)) (h2 : w.heap[dd]? = some (.cells #[.bool false, .slice none 0 0] 28 (0, 0))) (hne : dd ≠ bt) : PrIn T w bt dd [] [] := by
  refine ⟨⟨0, .mk [] [], none, 0, 0, none, 0, 0, ⟨⟨⟨⟨shr_nil _ _ _, fun g h => by cases h⟩, fun q h => by cases h⟩, rfl, rfl⟩, ?_, fun h => absurd rfl h, List.Pairwise.nil⟩, h1, ?_⟩, ⟨none, 0, h2, ⟨shr_nil _ _ _, fun g h => by cases h⟩, fun q h => by cases h⟩, agl_nil, by simp, hne⟩
  · simp [Nd.wf]
  · simp [Nd.fl, flK, il]
/-- a part of a row -/
theorem shr_sub {w : World} {e : TypeId} {sz n cap g off a m : Nat} {xs : List Value} {V : Option Addr} (h : shr w e sz (.slice (some ⟨g, off, none⟩) n cap) n xs) (ha : a + m ≤ n) (hV : V = if cap = a then some ⟨g, off, none⟩ else some ⟨g, off + a * sz, none⟩) : shr w e sz (.slice V m (cap - a)) m ((xs.drop (a * sz)).take (m * sz)) := by
  obtain ⟨h1, h2⟩ := h
  rcases h2 with ⟨h2, _⟩ | ⟨g', off', cap', cur, h2, hg, hn, hc, hz, hx⟩
  · cases h2
  · cases h2
    have hm : (a + m) * sz ≤ n * sz := Nat.mul_le_mul_right _ ha
    rw [Nat.add_mul] at hm
    refine ⟨by rw [List.length_take, List.length_drop, h1]; omega, Or.inr ?_⟩
    by_cases hca : cap = a
    · rw [if_pos hca] at hV
      refine ⟨g, off, cap - a, cur, by rw [hV], hg, by omega, by omega, Or.inl (by omega), fun j u hj => ?_⟩
      have : m = 0 := by omega
      subst this
      simp at hj
    · rw [if_neg hca] at hV
      refine ⟨g, off + a * sz, cap - a, cur, by rw [hV], hg, by omega, by omega, ?_, fun j u hj => ?_⟩
      · rcases hz with hz | hz
        · omega
        · right
          have : (cap - a) * sz = cap * sz - a * sz := Nat.sub_mul _ _ _
          have h5 : a * sz ≤ cap * sz := Nat.mul_le_mul_right _ (by omega)
          omega
      · rw [List.getElem?_take] at hj
        split at hj
        · rw [List.getElem?_drop] at hj
          rw [Nat.add_assoc]
          exact hx _ _ hj
        · cases hj
theorem fl_sub (D : List Em) (a m : Nat) : ((fl emE D).drop (a * 2)).take (m * 2) = fl emE ((D.drop a).take m) := by
  rw [fl_drop emE_len, fl_take emE_len]
/-- a part of the document's list -/
theorem doc_sub {T : Nat → Prop} {w : World} {dd : Nat} {u : Bool} {D : List Em} {g off CD : Nat} {V : Option Addr} {a m : Nat} (h : DocIn T w dd u D (.slice (some ⟨g, off, none⟩) D.length CD)) (ha : a + m ≤ D.length) (hV : V = if CD = a then some ⟨g, off, none⟩ else some ⟨g, off + a * 2, none⟩) : rowT T w 54 2 (.slice V m (CD - a)) m (fl emE ((D.drop a).take m)) := by
  refine ⟨?_, fun b hb => h.row.2 b ?_⟩
  · rw [← fl_sub]
    exact shr_sub h.row.1 ha hV
  · rw [hV] at hb
    split at hb <;> exact hb
theorem PrIn.below {T : Nat → Prop} {w w' : World} {bt dd : Nat} {L D : List Em} (h : PrIn T w bt dd L D) (hb : Below w.heap.size w w') : PrIn T w' bt dd L D := h.chg (S := fun _ => False) (chg_bl hb) (fun _ e => e.elim) (fun e => e) (fun e => e)
theorem pr_count {T : Nat → Prop} {w : World} {bt dd : Nat} {L D : List Em} (h : PrIn T w bt dd L D) (P1 P2 : Option Addr) (C1 C2 : Nat) (low high : List Va) (li hi : Bool) (h1 : rowAt w P1 low) (h2 : rowAt w P2 high) (hP1 : P1 = none → C1 = 0) (hP2 : P2 = none → C2 = 0) (z1 : low.length ≤ 1000000000) (z2 : high.length ≤ 1000000000) (y1 : ∀ v ∈ low, fit v.n) (y2 : ∀ v ∈ high, fit v.n) :
    Calls Tryz.prog 14 #[.pointer (some ⟨bt, 0, none⟩), .agg #[.slice P1 low.length C1, .slice P2 high.length C2, .bool li, .bool hi]] w fun e w' => e = .returned (.int .i64 ((btw low high li hi L).length : Int)) ∧ Below w.heap.size w w' := by
  obtain ⟨d, n, p1, n1, c1, p2, n2, c2, a1, a2, rfl⟩ := h.tr
  have hf : (btw low high li hi n.fl).length ≤ n.fl.length := List.length_filter_le _ _
  have := h.few
  exact Count_any T d (min d 1) bt n p1 n1 c1 p2 n2 c2 P1 P2 C1 C2 low high li hi w a1 (trO_cells a2).1 (trO_cells a2).2 h1 h2 hP1 hP2 z1 z2 y1 y2 (by omega)
theorem pr_ends {T : Nat → Prop} {w : World} {bt dd : Nat} {L D : List Em} (h : PrIn T w bt dd L D) :
    Calls Tryz.prog 11 #[.pointer (some ⟨bt, 0, none⟩), .pointer (some ⟨dd, 0, none⟩)] w fun e w' => e = .returned (.bool true) ∧ Below w.heap.size w w' := by
  obtain ⟨d, n, p1, n1, c1, p2, n2, c2, a1, a2, rfl⟩ := h.tr
  obtain ⟨PD, CD, hd⟩ := h.dc
  have hl := h.ag.1
  have := h.few
  exact ends_any T d (min d 1) bt n p1 n1 c1 p2 n2 c2 false false _ dd D PD D.length CD w a1 a2 rfl hd rfl (by omega) h.ag
theorem pr_len {T : Nat → Prop} {w : World} {bt dd : Nat} {L D : List Em} (h : PrIn T w bt dd L D) :
    Calls Tryz.prog 16 #[.pointer (some ⟨bt, 0, none⟩)] w fun e w' => e = .returned (.int .i64 (D.length : Int)) ∧ w' = w := by
  obtain ⟨d, n, p1, n1, c1, p2, n2, c2, a1, a2, rfl⟩ := h.tr
  have := Len_any bt false _ _ _ w a2
  rwa [h.ag.1] at this
theorem btw_nil (L : List Em) : btw [] [] false false L = L := by
  unfold btw within
  exact List.filter_eq_self.2 (fun x _ => by simp [loB, hiB])
/-- an act -/
structure Ac where
  kd : Int
  stop : Int
  k : List Va
  q : Option Addr
  c : Nat
  id : Int
  P1 : Option Addr
  n1 : Nat
  C1 : Nat
  P2 : Option Addr
  n2 : Nat
  C2 : Nat
  li : Bool
  hi : Bool
def Ac.en (a : Ac) : List Value := [.int .i64 a.kd, .int .i64 a.stop, .slice a.q a.k.length a.c, .int .u64 a.id, .slice a.P1 a.n1 a.C1, .slice a.P2 a.n2 a.C2, .bool a.li, .bool a.hi]
structure Ac.ok (w : World) (a : Ac) : Prop where
  row : rowAt w a.q a.k
  fits : ∀ v ∈ a.k, fit v.n
  txt : ∀ v ∈ a.k, v.s.size ≤ 9223372036854775807
  few : a.k.length ≤ 1000000000
theorem Ac.ok.below {w w' : World} {a : Ac} (h : a.ok w) (hb : Below w.heap.size w w') : a.ok w' := ⟨h.row.below hb, h.fits, h.txt, h.few⟩
def actsAt (w : World) (P : Option Addr) (l : List Ac) : Prop := l = [] ∨ ∃ g o, P = some ⟨g, o, none⟩ ∧ g < w.heap.size ∧ ∀ i a, l[i]? = some a → ∀ j u, a.en[j]? = some u → w.cell? ⟨g, o + i * 8 + j, none⟩ = some u
/-- between two acts: w the first world, w1 that with both boxes -/
structure Mid (w : World) (bt dd : Nat) (wr : World) : Prop where
  bl : Below w.heap.size w wr
  pr : ∃ L D, PrIn (fun b => w.heap.size ≤ b ∧ b ≠ bt ∧ b ≠ dd) wr bt dd L D
  lo : w.heap.size ≤ bt ∧ w.heap.size ≤ dd
theorem Mid.lt {w wr : World} {bt dd : Nat} (h : Mid w bt dd wr) : bt < wr.heap.size ∧ dd < wr.heap.size := by
  obtain ⟨L, D, hp⟩ := h.pr
  obtain ⟨_, _, _, _, _, _, _, _, _, a, _⟩ := hp.tr
  obtain ⟨_, _, hd⟩ := hp.dc
  exact ⟨lt_of_heap a, lt_of_heap hd.box⟩
theorem Mid.below {w wr W : World} {bt dd : Nat} (h : Mid w bt dd wr) (hb : Below wr.heap.size wr W) : Mid w bt dd W := by
  obtain ⟨L, D, hp⟩ := h.pr
  exact ⟨h.bl.trans (hb.mono h.bl.size), ⟨L, D, hp.below hb⟩, h.lo⟩
end Go.Proofs.YtclcajnodoifjaaGreatDoor

namespace Go.Proofs.YtclcajnodoifjaaGreatDoor
open Go.RowKit Go.Shelf Go.Joins Go.Maps
set_option maxRecDepth 100000

set_option maxHeartbeats 2000000 in
theorem both_put2 (T : Nat → Prop) (bt dd : Nat) (L D : List Em) (k : List Va) (id : Int) (q1 : Option Addr) (c1 : Nat) (w : World) (h : PrIn T w bt dd L D) (hT : ∀ b, w.heap.size ≤ b → T b) (h1 : ¬ T bt) (h2 : ¬ T dd) (hk1 : rowAt w q1 k) (fk : ∀ v ∈ k, fit v.n) (hs : ∀ v ∈ k, v.s.size ≤ 9223372036854775807) (hl : k.length ≤ 1000000000) (hTb : Tabs w) :
    Calls Tryz.prog 8 #[.pointer (some ⟨bt, 0, none⟩), .slice q1 k.length c1, .int .u64 id] w fun e W => ∃ x, e = .returned (.int .i64 x) ∧ Chg (fun b => b = bt) w W ∧ ∀ W' q2 c2, Below W.heap.size W W' → rowAt W' q2 k → Calls Tryz.prog 12 #[.pointer (some ⟨dd, 0, none⟩), .slice q2 k.length c2, .int .u64 id] W' fun e2 W2 => e2 = .returned (.int .i64 x) ∧ Chg (fun b => b = dd) W' W2 := by
  obtain ⟨d, n, p1, n1, d1, p2, n2, d2, a1, a2, a3⟩ := h.tr
  obtain ⟨PD, CD, hd⟩ := h.dc
  have hlen := h.ag.1
  have hfew := h.few
  have hdW : ∀ W, Chg (fun b => b = bt) w W → DocIn T W dd false D (.slice PD D.length CD) := fun W hW => hd.chg hW (fun b e ht => h1 (e ▸ ht)) h.ne
  by_cases hE : keyE k = 0
  · obtain ⟨l1, l2, l3⟩ := keyE_zero hE
    have hcd := clash_dup (id := id) l3 h.ag
    have dp : ∀ W q2 c2, Chg (fun b => b = bt) w W → rowAt W q2 k → Calls Tryz.prog 12 #[.pointer (some ⟨dd, 0, none⟩), .slice q2 k.length c2, .int .u64 id] W fun e w' => DuQ T W dd D k id e w' := fun W q2 c2 hW hk2 => docPut_ok T k id q2 c2 dd D PD D.length CD W (hdW W hW) (by omega) hk2 fk hE (fun b hb => hT b (Nat.le_trans hW.size hb)) h2
    refine (Put_ok T k id q1 c1 d bt n p1 n1 d1 p2 n2 d2 false L.length w a1 a2 hk1 fk hs hTb hE hT h1 (by omega) (by omega)).mono (fun e W hq => ?_)
    rw [a3] at hq
    rcases hq with ⟨x1, x2, x3⟩ | ⟨x1, x2, x3, x4⟩ | ⟨x1, x2, x3, m, x4, x5⟩
    · have hc : Chg (fun b => b = bt) w W := chg_bl x3
      refine ⟨50, x2, hc, fun W' q2 c2 hb hk2 => (dp W' q2 c2 (hc.trans (chg_bl hb)) hk2).mono (fun e2 W2 hq2 => ?_)⟩
      rw [hcd] at x1
      rcases hq2 with ⟨y1, y2, y3⟩ | ⟨y1, _⟩ | ⟨y1, _⟩
      · exact ⟨y2, chg_bl y3⟩
      · rw [x1] at y1; cases y1
      · rw [x1] at y1; cases y1
    · have hc : Chg (fun b => b = bt) w W := chg_bl x4
      refine ⟨2, x3, hc, fun W' q2 c2 hb hk2 => (dp W' q2 c2 (hc.trans (chg_bl hb)) hk2).mono (fun e2 W2 hq2 => ?_)⟩
      rw [hcd] at x1
      rcases hq2 with ⟨y1, y2, y3⟩ | ⟨y1, y2, y3, y4⟩ | ⟨y1, y2, y3⟩
      · rw [x1] at y1; cases y1
      · exact ⟨y3, chg_bl y4⟩
      · omega
    · have hr := ins_rise (e := m) ord3M h.riseL (fun x hx => clash_none x1 x hx m x4)
      obtain ⟨_, _, _, _, _, _, _, _, _, _, _, _, hc⟩ := x5
      refine ⟨0, x3, hc, fun W' q2 c2 hb hk2 => (dp W' q2 c2 (hc.trans (chg_bl hb)) hk2).mono (fun e2 W2 hq2 => ?_)⟩
      rw [hcd] at x1
      rcases hq2 with ⟨y1, y2, y3⟩ | ⟨y1, y2, y3, y4⟩ | ⟨y1, y2, y3, m', p', c', y4, y5, y6⟩
      · rw [x1] at y1; cases y1
      · omega
      · exact ⟨y3, y6⟩
  · refine (Put_bad k id q1 c1 bt w hl hk1 hs hTb hE).mono (fun e W hq => ?_)
    have hc : Chg (fun b => b = bt) w W := chg_bl hq.2
    refine ⟨keyE k, hq.1, hc, fun W' q2 c2 hb hk2 => (docPut_bad k id q2 c2 dd W' hl hk2 hE).mono (fun e2 W2 hq2 => ?_)⟩
    exact ⟨hq2.1, chg_bl hq2.2⟩
end Go.Proofs.YtclcajnodoifjaaGreatDoor

namespace Go.Proofs.YtclcajnodoifjaaGreatDoor
open Go.RowKit Go.Shelf Go.Joins Go.Maps
set_option maxRecDepth 100000

theorem wrap_small {x : Int} (h0 : 0 ≤ x) (h1 : x ≤ 1000000000) : IntKind.i64.wrap x = x := by simp [IntKind.wrap, IntKind.bits, IntKind.signed]; omega
end Go.Proofs.YtclcajnodoifjaaGreatDoor

namespace Go.Proofs.YtclcajnodoifjaaGreatDoor
open Go.RowKit Go.Shelf Go.Joins Go.Maps
set_option maxRecDepth 100000

/-- a row that came in: at any place of its block -/
def rowOff (w : World) (p : Option Addr) (l : List Va) : Prop := l = [] ∨ ∃ g off, p = some ⟨g, off, none⟩ ∧ g < w.heap.size ∧ ∀ j u, (fl vaE l)[j]? = some u → w.cell? ⟨g, off + j, none⟩ = some u
theorem rowOff.below {w w' : World} {p : Option Addr} {l : List Va} (h : rowOff w p l) (hb : Below w.heap.size w w') : rowOff w' p l := by
  rcases h with h | ⟨g, off, h1, h2, h3⟩
  · exact Or.inl h
  · exact Or.inr ⟨g, off, h1, Nat.lt_of_lt_of_le h2 hb.size, fun j u hj => (hb.cell (p := ⟨g, off + j, none⟩) h2).trans (h3 j u hj)⟩
theorem rowAt.off {w : World} {p : Option Addr} {l : List Va} (h : rowAt w p l) : rowOff w p l := by
  rcases h with h | ⟨g, h1, h2⟩
  · exact Or.inl h
  · exact Or.inr ⟨g, 0, h1, h2.1, fun j u hj => by rw [Nat.zero_add]; exact h2.cells j u hj⟩
/-- a value of it -/
theorem rowOff.get {w : World} {p : Option Addr} {l : List Va} (h : rowOff w p l) {i : Nat} {v : Va} (hi : l[i]? = some v) : ∃ g off, p = some ⟨g, off, none⟩ ∧ g < w.heap.size ∧ w.cell? ⟨g, off + i * 3, none⟩ = some (.int .i64 v.ty) ∧ w.cell? ⟨g, off + i * 3 + 1, none⟩ = some (.int .i64 v.n) ∧ w.cell? ⟨g, off + i * 3 + 2, none⟩ = some (.string v.s) := by
  rcases h with h | ⟨g, off, h1, h2, h3⟩
  · rw [h] at hi; cases hi
  · have q := fun r (hr : r < 3) => fl_get (enc := vaE) (s := 3) (fun _ => rfl) l i v r hi hr
    exact ⟨g, off, h1, h2, h3 _ _ (q 0 (by omega)), by rw [Nat.add_assoc]; exact h3 _ _ (q 1 (by omega)), by rw [Nat.add_assoc]; exact h3 _ _ (q 2 (by omega))⟩
set_option maxHeartbeats 4000000 in
set_option maxRecDepth 1000000 in
theorem copied_off1 (ad : Addr) (k : List Va) (c : Nat) (w : World) (hk : ∀ j u, (fl vaE k)[j]? = some u → w.cell? (ad.add j) = some u) (h0 : 0 < k.length) (hl : k.length ≤ 1000000000) :
    Calls Tryz.prog 15 #[.slice (some ad) k.length c] w fun e w' => ∃ cap, e = .returned (.slice (some ⟨w.heap.size + 1, 0, none⟩) k.length cap) ∧ valsAt w' (w.heap.size + 1) k ∧ (∃ cs, w'.heap[w.heap.size + 1]? = some (.cells cs 40 (0, 0))) ∧ Below w.heap.size w w' := by
  obtain ⟨cap, w2, r, s, g, z⟩ := rwVa.clone w ad k.length c (fl vaE k) (fl_len (enc := vaE) (s := 3) (fun _ => rfl) k) hk h0 hl
  have HR : Hid (valsAt w2 (w.heap.size + 1) k ∧ (∃ cs, w2.heap[w.heap.size + 1]? = some (.cells cs 40 (0, 0))) ∧ Below w.heap.size w w2) := ⟨(clone_vals s (by omega)).1, blk_of_shr s, below_none g (Nat.le_refl _)⟩
  obtain ⟨n, hn⟩ : ∃ n, n = k.length := ⟨_, rfl⟩
  rw [← hn] at r ⊢
  clear s g z hk h0 hl hn
  go_enter Tryz.func15, Tryz.ntmps15
  go_wp2_with (at_builtin; refine wp_app 30 rfl (.tmp 3) (.tmp 4) rfl rfl rfl r ?_)
  go_ret
  exact ⟨cap, rfl, HR.out⟩
/-- a copy of any row that came in, with its block -/
theorem copied_off (P : Option Addr) (C : Nat) (k : List Va) (w : World) (hk : rowOff w P k) (hl : k.length ≤ 1000000000) :
    Calls Tryz.prog 15 #[.slice P k.length C] w fun e w' => ∃ g d, e = .returned (.slice (some ⟨g, 0, none⟩) k.length d) ∧ w.heap.size ≤ g ∧ rowAt w' (some ⟨g, 0, none⟩) k ∧ (∃ cs, w'.heap[g]? = some (.cells cs 40 (0, 0)) ∧ 3 * k.length ≤ cs.size) ∧ Below w.heap.size w w' := by
  cases k with
  | nil => exact (copied_blk0 P C w).mono (fun e w' h => by
      obtain ⟨h1, h2, ⟨cs, h3⟩, h4⟩ := h
      exact ⟨_, _, h1, Nat.le_refl _, Or.inl rfl, ⟨cs, h3, Nat.zero_le _⟩, h4⟩)
  | cons v k =>
    obtain ⟨g, off, rfl, hg, hv⟩ : ∃ g off, P = some ⟨g, off, none⟩ ∧ g < w.heap.size ∧ ∀ j u, (fl vaE (v :: k))[j]? = some u → w.cell? ⟨g, off + j, none⟩ = some u := by
      rcases hk with h | h
      · cases h
      · exact h
    refine (copied_off1 ⟨g, off, none⟩ (v :: k) C w (fun j u hj => by rw [add_plain]; exact hv j u hj) (by simp) hl).mono (fun e w' h => ?_)
    obtain ⟨cap, h1, h2, ⟨cs, h3⟩, h4⟩ := h
    exact ⟨_, _, h1, by omega, Or.inr ⟨_, rfl, h2⟩, ⟨cs, h3, blk_size h2 h3⟩, h4⟩
set_option maxHeartbeats 4000000 in
set_option maxRecDepth 1000000 in
theorem refRows_off (p q : Option Addr) (cp cq : Nat) (la lb : List Va) (w : World) (hla : la.length ≤ 1000) (hp : rowAt w p la) (hq : rowOff w q lb) (fa : ∀ v ∈ la, fit v.n) (fb : ∀ v ∈ lb, fit v.n) :
    Calls Tryz.prog 18 #[.slice p la.length cp, .slice q lb.length cq] w fun e w' => e = .returned (.int .i64 (rowsV la lb)) ∧ Below w.heap.size w w' := by
  obtain ⟨E, hE⟩ : ∃ E, E = rowsV la lb := ⟨_, rfl⟩
  rw [← hE]
  have HE : Hid (E = rowsV la lb) := hE
  clear hE
  have CI : Hid (∀ x y w, Calls Tryz.prog 43 #[.int .i64 x, .int .i64 y] w fun e w' => e = .returned (.int .i64 (cmpI x y)) ∧ w' = w) := ints_any
  go_enter Tryz.func18, Tryz.ntmps18
  go_wp2_with fail
  go_loopw [5] (fun sk wr => ∃ k : Nat, sk = .int .i64 k ∧ k ≤ la.length ∧ k ≤ lb.length ∧ Hid (E = rowsV (la.drop k) (lb.drop k)) ∧ Below w.heap.size w wr) (fun sk _ => la.length - (intOf sk).toNat)
  case atStart => exact ⟨0, rfl, Nat.zero_le _, Nat.zero_le _, HE, Below.refl _ _⟩
  case round =>
    obtain ⟨k, rfl, hk, hk2, hd, hb⟩ := hrel
    clear HE
    by_cases hlt : k < la.length ∧ k < lb.length
    · obtain ⟨hl1, hl2⟩ := hlt
      obtain ⟨a, hak⟩ : ∃ v, la[k]? = some v := ⟨la[k], List.getElem?_eq_getElem hl1⟩
      obtain ⟨b, hbk⟩ : ∃ v, lb[k]? = some v := ⟨lb[k], List.getElem?_eq_getElem hl2⟩
      obtain ⟨g, rfl, hvg⟩ := hp.get hak
      obtain ⟨h, oh, rfl, hvh, m1, m2, m3⟩ := hq.get hbk
      obtain ⟨c1, c2, c3⟩ := hvg.2 k a hak
      have d1 := (hb.cell (p := ⟨g, k * 3, none⟩) hvg.1).trans c1
      have d2 := (hb.cell (p := ⟨g, k * 3 + 1, none⟩) hvg.1).trans c2
      have d3 := (hb.cell (p := ⟨g, k * 3 + 2, none⟩) hvg.1).trans c3
      have e1 := (hb.cell (p := ⟨h, oh + k * 3, none⟩) hvh).trans m1
      have e2 := (hb.cell (p := ⟨h, oh + k * 3 + 1, none⟩) hvh).trans m2
      have e3 := (hb.cell (p := ⟨h, oh + k * 3 + 2, none⟩) hvh).trans m3
      have hgw : g < wr.heap.size := Nat.lt_of_lt_of_le hvg.1 hb.size
      have hhw : h < wr.heap.size := Nat.lt_of_lt_of_le hvh hb.size
      have OO : Hid (∀ w, Calls Tryz.prog 42 #[.agg #[.int .i64 a.ty, .int .i64 a.n, .string a.s], .agg #[.int .i64 b.ty, .int .i64 b.n, .string b.s]] w fun e w' => e = .returned (.int .i64 (ordV a b)) ∧ Below w.heap.size w w') := fun w => refOrder_any a b w (fa a (List.mem_of_getElem? hak)) (fb b (List.mem_of_getElem? hbk))
      rw [drop_at hak, drop_at hbk] at hd
      clear c1 c2 c3 m1 m2 m3 hak hbk hvg hvh hp hq fa fb
      by_cases h0 : ordV a b = 0
      · have hd2 : Hid (E = rowsV (la.drop (k + 1)) (lb.drop (k + 1))) := by show _ = _; rw [hd.out, rowsV, if_pos h0]
        rw [h0] at OO
        clear hd h0
        go_wp2_with fail
        go_region_held3 (fun w' => w'.cell? ⟨g, k * 3, none⟩ = some (.int .i64 a.ty) ∧ w'.cell? ⟨g, k * 3 + 1, none⟩ = some (.int .i64 a.n) ∧ w'.cell? ⟨g, k * 3 + 2, none⟩ = some (.string a.s) ∧ w'.cell? ⟨h, oh + k * 3, none⟩ = some (.int .i64 b.ty) ∧ w'.cell? ⟨h, oh + k * 3 + 1, none⟩ = some (.int .i64 b.n) ∧ w'.cell? ⟨h, oh + k * 3 + 2, none⟩ = some (.string b.s)) (first | go_keep | exact ⟨(hb2.cell (p := ⟨g, k * 3, none⟩) hgw).trans d1, (hb2.cell (p := ⟨g, k * 3 + 1, none⟩) hgw).trans d2, (hb2.cell (p := ⟨g, k * 3 + 2, none⟩) hgw).trans d3, (hb2.cell (p := ⟨h, oh + k * 3, none⟩) hhw).trans e1, (hb2.cell (p := ⟨h, oh + k * 3 + 1, none⟩) hhw).trans e2, (hb2.cell (p := ⟨h, oh + k * 3 + 2, none⟩) hhw).trans e3⟩) ((go_at_call 42; refine (OO.out _).mono ?_; rintro e w1 ⟨rfl, hb2⟩))
        go_wp2_with fail
        go_roundw
        case rel => exact ⟨k + 1, by go_num, hl1, hl2, hd2, hb.drew.trans (hb2.mono (by simpa using hb.size))⟩
        case measure => simp [intOf]; omega
      · have hd2 : E = ordV a b := by rw [hd.out, rowsV, if_neg h0]
        have h1 : (ordV a b != 0) = true := by rw [bne_iff_ne]; exact h0
        subst hd2
        clear hd h0
        go_wp2_with fail
        go_region_held3 (fun w' => w'.cell? ⟨g, k * 3, none⟩ = some (.int .i64 a.ty) ∧ w'.cell? ⟨g, k * 3 + 1, none⟩ = some (.int .i64 a.n) ∧ w'.cell? ⟨g, k * 3 + 2, none⟩ = some (.string a.s) ∧ w'.cell? ⟨h, oh + k * 3, none⟩ = some (.int .i64 b.ty) ∧ w'.cell? ⟨h, oh + k * 3 + 1, none⟩ = some (.int .i64 b.n) ∧ w'.cell? ⟨h, oh + k * 3 + 2, none⟩ = some (.string b.s)) (first | go_keep | exact ⟨(hb2.cell (p := ⟨g, k * 3, none⟩) hgw).trans d1, (hb2.cell (p := ⟨g, k * 3 + 1, none⟩) hgw).trans d2, (hb2.cell (p := ⟨g, k * 3 + 2, none⟩) hgw).trans d3, (hb2.cell (p := ⟨h, oh + k * 3, none⟩) hhw).trans e1, (hb2.cell (p := ⟨h, oh + k * 3 + 1, none⟩) hhw).trans e2, (hb2.cell (p := ⟨h, oh + k * 3 + 2, none⟩) hhw).trans e3⟩) ((go_at_call 42; refine (OO.out _).mono ?_; rintro e w1 ⟨rfl, hb2⟩))
        go_wp2_with fail
        go_ret
        exact ⟨rfl, hb.drew.trans (hb2.mono (by simpa using hb.size))⟩
    · have hE : E = cmpI la.length lb.length := by rw [hd.out]; exact rows_out hk hk2 hlt
      subst hE
      clear hd
      have hcs : ¬ k < la.length ∨ (k < la.length ∧ ¬ k < lb.length) := by omega
      clear hlt
      rcases hcs with hx | ⟨hx, hy⟩
      · go_wp2_with fail
        refine (CI.out _ _ _).mono ?_
        rintro e wx ⟨rfl, hwx⟩; have hwx2 := hwx.symm; subst hwx2; clear hwx
        go_wp2_with fail
        go_ret
        exact ⟨rfl, hb⟩
      · go_wp2_with fail
        refine (CI.out _ _ _).mono ?_
        rintro e wx ⟨rfl, hwx⟩; have hwx2 := hwx.symm; subst hwx2; clear hwx
        go_wp2_with fail
        go_ret
        exact ⟨rfl, hb⟩

set_option maxHeartbeats 4000000 in
set_option maxRecDepth 1000000 in
theorem docOrder_off (p q : Option Addr) (cp cq : Nat) (a b : En) (w : World) (hla : a.key.length ≤ 1000) (ha : EnAt w p a) (hb : rowOff w q b.key) (fb : ∀ v ∈ b.key, fit v.n) :
    Calls Tryz.prog 44 #[enV p cp a, enV q cq b] w fun e w' => e = .returned (.int .i64 (ordE a b)) ∧ Below w.heap.size w w' := by
  have RO : Hid (∀ W', Below w.heap.size w W' → Calls Tryz.prog 18 #[.slice p a.key.length cp, .slice q b.key.length cq] W' fun e w' => e = .returned (.int .i64 (rowsV a.key b.key)) ∧ Below W'.heap.size W' w') := fun W' h => refRows_off p q cp cq a.key b.key W' hla (ha.row.below h) (hb.below h) ha.fits fb
  have B0 : Hid (∀ o o', Below w.heap.size w ((w.alloc o).alloc o')) := fun o o' => ((Below.refl _ w).alloc (Nat.le_refl _) o).alloc (by simp) o'
  have F0 : Hid _ := Ee.new w (.slice p a.key.length cp) (.int .u64 a.id) (.slice q b.key.length cq) (.int .u64 b.id) 54 54
  unfold enV
  unfold ordE
  clear ha hb
  generalize rowsV a.key b.key = R at *
  generalize a.key.length = la at *
  generalize b.key.length = lb at *
  generalize a.id = ia at *
  generalize b.id = ib at *
  by_cases hR : R = 0
  · rw [if_pos hR]
    subst hR
    by_cases h1 : ia < ib
    · rw [cmpI_lt h1]
      go_enter Tryz.func44, Tryz.ntmps44
      go_wp2_with fail
      refine (RO.out _ (B0.out _ _)).mono ?_
      rintro e w1 ⟨rfl, hb2⟩
      have F1 := F0.out
      have B1 := B0.out (.cells #[.slice p la cp, .int .u64 ia] 54) (.cells #[.slice q lb cq, .int .u64 ib] 54)
      have B2 := B1.trans (hb2.mono B1.size)
      have a1 := (hb2.cell (p := ⟨w.heap.size, 1, none⟩) (show w.heap.size < _ from Nat.lt_trans (Nat.lt_succ_self _) F1.lt)).trans F1.a1
      have b1 := (hb2.cell (p := ⟨w.heap.size + 1, 1, none⟩) F1.lt).trans F1.b1
      clear F0 B0 F1 B1 hb2
      go_wp2_with fail
      go_ret
      exact ⟨rfl, B2⟩
    · by_cases h2 : ib < ia
      · rw [cmpI_gt h2]
        go_enter Tryz.func44, Tryz.ntmps44
        go_wp2_with fail
        refine (RO.out _ (B0.out _ _)).mono ?_
        rintro e w1 ⟨rfl, hb2⟩
        have F1 := F0.out
        have B1 := B0.out (.cells #[.slice p la cp, .int .u64 ia] 54) (.cells #[.slice q lb cq, .int .u64 ib] 54)
        have B2 := B1.trans (hb2.mono B1.size)
        have a1 := (hb2.cell (p := ⟨w.heap.size, 1, none⟩) (show w.heap.size < _ from Nat.lt_trans (Nat.lt_succ_self _) F1.lt)).trans F1.a1
        have b1 := (hb2.cell (p := ⟨w.heap.size + 1, 1, none⟩) F1.lt).trans F1.b1
        clear F0 B0 F1 B1 hb2
        go_wp2_with fail
        go_ret
        exact ⟨rfl, B2⟩
      · rw [cmpI_eq (by omega)]
        go_enter Tryz.func44, Tryz.ntmps44
        go_wp2_with fail
        refine (RO.out _ (B0.out _ _)).mono ?_
        rintro e w1 ⟨rfl, hb2⟩
        have F1 := F0.out
        have B1 := B0.out (.cells #[.slice p la cp, .int .u64 ia] 54) (.cells #[.slice q lb cq, .int .u64 ib] 54)
        have B2 := B1.trans (hb2.mono B1.size)
        have a1 := (hb2.cell (p := ⟨w.heap.size, 1, none⟩) (show w.heap.size < _ from Nat.lt_trans (Nat.lt_succ_self _) F1.lt)).trans F1.a1
        have b1 := (hb2.cell (p := ⟨w.heap.size + 1, 1, none⟩) F1.lt).trans F1.b1
        clear F0 B0 F1 B1 hb2
        go_wp2_with fail
        go_ret
        exact ⟨rfl, B2⟩
  · rw [if_neg hR]
    have hne : (R == 0) = false := by simp [hR]
    go_enter Tryz.func44, Tryz.ntmps44
    go_wp2_with fail
    refine (RO.out _ (B0.out _ _)).mono ?_
    rintro e w1 ⟨rfl, hb2⟩
    have B1 := B0.out (.cells #[.slice p la cp, .int .u64 ia] 54) (.cells #[.slice q lb cq, .int .u64 ib] 54)
    have B2 := B1.trans (hb2.mono B1.size)
    clear F0 B0 B1 hb2
    go_wp2_with fail
    go_ret
    exact ⟨rfl, B2⟩
end Go.Proofs.YtclcajnodoifjaaGreatDoor

