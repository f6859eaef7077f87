/-
 Old trees and clones; between two acts.
-/
import Derived.Test.YtclcajnodoifjaaGreatDoorIAY
import Derived.Test.YtclcajnodoifjaaGreatDoorCeCSx
import Derived.Test.YtclcajnodoifjaaGreatDoorCaDSx
import Derived.Test.YtclcajnodoifjaaGreatDoorIAU
namespace Go.Proofs.YtclcajnodoifjaaGreatDoor
open Go.RowKit Go.Shelf Go.Joins Go.Maps
set_option maxRecDepth 100000

/-- a tree alone -/
def TrU (u : Bool) (T : Nat → Prop) (w : World) (bt : Nat) (L : List Em) : Prop := ∃ d n p1 n1 c1 p2 n2 c2, RtIn T w d (min d 1) n (.slice p1 n1 c1) (.slice p2 n2 c2) ∧ w.heap[bt]? = some (trO u (.slice p1 n1 c1) (.slice p2 n2 c2) (L.length : Int)) ∧ n.fl = L
theorem TrU.keeps {u : Bool} {T : Nat → Prop} {w w' : World} {bt : Nat} {L : List Em} (h : TrU u T w bt L) (hb : Below w.heap.size w w') : TrU u T w' bt L := by
 obtain ⟨d, n, p1, n1, d1, p2, n2, d2, a1, a2, a3⟩ := h
 exact ⟨d, n, p1, n1, d1, p2, n2, d2, a1.keeps (Keeps.of_below hb), (hb.block _ (lt_of_heap a2)).trans a2, a3⟩
theorem old_put (u : Bool) (T : Nat → Prop) (bt : Nat) (L : List Em) (k : List Va) (id : Int) (q1 : Option Addr) (c1 : Nat) (w : World) (h : TrU u T w bt L) (few : L.length ≤ 4096) (hT : ∀ b, w.heap.size ≤ b → T b) (h1 : ¬ T bt) (hk1 : rowAt w q1 k) (fk : ∀ v ∈ k, fit v.n) (hs : ∀ v ∈ k, v.s.size ≤ 9223372036854775807) (hl : k.length ≤ 1000000000) (hTb : Tabs w) :
  Calls Tryz.prog 8 #[.pointer (some ⟨bt, 0, none⟩), .slice q1 k.length c1, .int .u64 id] w fun e W => (∃ x, e = .returned (.int .i64 x)) ∧ Chg (fun b => b = bt) w W ∧ ∃ L', TrU u T W bt L' ∧ L'.length ≤ 4096 := by
 have same : ∀ W, Below w.heap.size w W → ∃ L', TrU u T W bt L' ∧ L'.length ≤ 4096 := fun W hW => ⟨L, h.keeps hW, few⟩
 obtain ⟨d, n, p1, n1, d1, p2, n2, d2, a1, a2, a3⟩ := h
 have hri : Rise ltM L := by rw [← a3]; exact a1.up
 by_cases hE : keyE k = 0
 ·refine (Put_ok T k id q1 c1 d bt n p1 n1 d1 p2 n2 d2 u L.length w a1 a2 hk1 fk hs hTb hE hT h1 (by omega) (by omega)).mono (fun e W hq => ?_)
  rw [a3] at hq
  rcases hq with ⟨x1, x2, x3⟩ | ⟨x1, x2, x3, x4⟩ | ⟨x1, x2, x3, m, x4, x5⟩
  ·exact ⟨⟨50, x2⟩, chg_bl x3, same W x3⟩
  ·exact ⟨⟨2, x3⟩, chg_bl x4, same W x4⟩
  ·have hr := ins_rise (e := m) ord3M hri (fun x hx => clash_none (clB_less x1) x hx m x4)
   obtain ⟨d', n', p1', n1', d1', p2', n2', d2', b1, b2, b3⟩ := trq_rt x5 hr
   obtain ⟨_, _, _, _, _, _, _, _, _, _, _, _, hc⟩ := x5
   refine ⟨⟨0, x3⟩, hc, ins ltM m L, ⟨d', n', p1', n1', d1', p2', n2', d2', b1, ?_, b3⟩, ?_⟩
   ·rw [ins_len]; exact b2
   ·rw [ins_len]; omega
 ·refine (Put_bad k id q1 c1 bt w hl hk1 hs hTb hE).mono (fun e W hq => ?_)
  exact ⟨⟨keyE k, hq.1⟩, chg_bl hq.2, same W hq.2⟩
theorem old_drop (u : Bool) (T : Nat → Prop) (bt : Nat) (L : List Em) (k : List Va) (id : Int) (q1 : Option Addr) (c1 : Nat) (w : World) (h : TrU u T w bt L) (few : L.length ≤ 4096) (hT : ∀ b, w.heap.size ≤ b → T b) (h1 : ¬ T bt) (hk : rowOff w q1 k) (fk : ∀ v ∈ k, fit v.n) :
  Calls Tryz.prog 9 #[.pointer (some ⟨bt, 0, none⟩), .slice q1 k.length c1, .int .u64 id] w fun e W => (∃ x, e = .returned (.bool x)) ∧ Chg (fun b => b = bt) w W := by
 obtain ⟨d, n, p1, n1, d1, p2, n2, d2, a1, a2, a3⟩ := h
 have hri : Rise ltM L := by rw [← a3]; exact a1.up
 by_cases hx : ofEn ⟨k, id⟩ L = []
 ·exact (Drop_no_off T ⟨k, id⟩ q1 c1 d bt n p1 n1 d1 p2 n2 d2 u L.length w a1 a2 ⟨hk, fk⟩ (by rw [a3]; exact hx)).mono (fun e W hq => ⟨⟨false, hq.1⟩, chg_bl hq.2⟩)
 ·have hpos : 1 ≤ L.length := by
   cases hL : L with
   | nil => rw [hL] at hx; exact absurd rfl hx
   | cons => simp
  refine (Drop_yes_off T ⟨k, id⟩ q1 c1 d bt n p1 n1 d1 p2 n2 d2 u L.length w a1 a2 ⟨hk, fk⟩ (tgt ⟨k, id⟩) rfl hT h1 (by rw [a3]; exact hx) (by omega) (by omega)).mono (fun e W hq => ?_)
  obtain ⟨q1', x5⟩ := hq
  obtain ⟨_, _, _, _, _, _, _, _, _, _, _, _, hc⟩ := x5
  exact ⟨⟨true, q1'⟩, hc⟩
set_option maxHeartbeats 2000000 in
theorem both_put3_u (u : Bool) (T : Nat → Prop) (bt dd : Nat) (L D : List Em) (k : List Va) (id : Int) (q1 : Option Addr) (c1 : Nat) (w : World) (h : PrU u T w bt dd L D) (hT : ∀ b, w.heap.size ≤ b → T b) (h1 : ¬ T bt) (h2 : ¬ T dd) (hk1 : rowAt w q1 k) (fk : ∀ v ∈ k, fit v.n) (hs : ∀ v ∈ k, v.s.size ≤ 9223372036854775807) (hl : k.length ≤ 1000000000) (hTb : Tabs w) :
  Calls Tryz.prog 8 #[.pointer (some ⟨bt, 0, none⟩), .slice q1 k.length c1, .int .u64 id] w fun e W => ∃ x, e = .returned (.int .i64 x) ∧ Chg (fun b => b = bt) w W ∧ ∀ W' q2 c2, Below W.heap.size W W' → rowAt W' q2 k → Calls Tryz.prog 12 #[.pointer (some ⟨dd, 0, none⟩), .slice q2 k.length c2, .int .u64 id] W' fun e2 W2 => e2 = .returned (.int .i64 x) ∧ Chg (fun b => b = dd) W' W2 ∧ ∃ L' D', PrU u T W2 bt dd L' D' := by
 obtain ⟨d, n, p1, n1, d1, p2, n2, d2, a1, a2, a3⟩ := h.tr
 obtain ⟨PD, CD, hd⟩ := h.dc
 have hlen := h.ag.1
 have hfew := h.few
 have hdW : ∀ W, Chg (fun b => b = bt) w W → DocIn T W dd u D (.slice PD D.length CD) := fun W hW => hd.chg hW (fun b e ht => h1 (e ▸ ht)) h.ne
 have same : ∀ W, Below w.heap.size w W → PrU u T W bt dd L D := fun W hW => h.chg (S := fun _ => False) (chg_bl hW) (fun _ e => e.elim) (fun e => e) (fun e => e)
 by_cases hE : keyE k = 0
 ·obtain ⟨l1, l2, l3⟩ := keyE_zero hE
  have hcd := clash_dup_u (u := u) (id := id) l3 h.ag
  have dp : ∀ W q2 c2, Chg (fun b => b = bt) w W → rowOff W q2 k → Calls Tryz.prog 12 #[.pointer (some ⟨dd, 0, none⟩), .slice q2 k.length c2, .int .u64 id] W fun e w' => DuU u T W dd D k id e w' := fun W q2 c2 hW hk2 => docPut_u u T k id q2 c2 dd D PD D.length CD W (hdW W hW) (by omega) hk2 fk hE (fun b hb => hT b (Nat.le_trans hW.size hb)) h2
  refine (Put_ok T k id q1 c1 d bt n p1 n1 d1 p2 n2 d2 u L.length w a1 a2 hk1 fk hs hTb hE hT h1 (by omega) (by omega)).mono (fun e W hq => ?_)
  rw [a3] at hq
  rcases hq with ⟨x1, x2, x3⟩ | ⟨x1, x2, x3, x4⟩ | ⟨x1, x2, x3, m, x4, x5⟩
  ·have hc : Chg (fun b => b = bt) w W := chg_bl x3
   refine ⟨50, x2, hc, fun W' q2 c2 hb hk2 => (dp W' q2 c2 (hc.trans (chg_bl hb)) hk2.off).mono (fun e2 W2 hq2 => ?_)⟩
   rw [hcd] at x1
   rcases hq2 with ⟨y1, y2, y3⟩ | ⟨y1, _⟩ | ⟨y1, _⟩
   ·exact ⟨y2, chg_bl y3, L, D, same W2 ((x3.trans (hb.mono x3.size)).trans (y3.mono (x3.trans (hb.mono x3.size)).size))⟩
   ·rw [x1] at y1; cases y1
   ·rw [x1] at y1; cases y1
  ·have hc : Chg (fun b => b = bt) w W := chg_bl x4
   refine ⟨2, x3, hc, fun W' q2 c2 hb hk2 => (dp W' q2 c2 (hc.trans (chg_bl hb)) hk2.off).mono (fun e2 W2 hq2 => ?_)⟩
   rw [hcd] at x1
   rcases hq2 with ⟨y1, y2, y3⟩ | ⟨y1, y2, y3, y4⟩ | ⟨y1, y2, y3⟩
   ·rw [x1] at y1; cases y1
   ·exact ⟨y3, chg_bl y4, L, D, same W2 ((x4.trans (hb.mono x4.size)).trans (y4.mono (x4.trans (hb.mono x4.size)).size))⟩
   ·omega
  ·have hr := ins_rise (e := m) ord3M h.riseL (fun x hx => clash_none (clB_less x1) x hx m x4)
   obtain ⟨d', n', p1', n1', d1', p2', n2', d2', b1, b2, b3⟩ := trq_rt x5 hr
   obtain ⟨_, _, _, _, _, _, _, _, _, _, _, _, hc⟩ := x5
   refine ⟨0, x3, hc, fun W' q2 c2 hb hk2 => (dp W' q2 c2 (hc.trans (chg_bl hb)) hk2.off).mono (fun e2 W2 hq2 => ?_)⟩
   rw [hcd] at x1
   rcases hq2 with ⟨y1, y2, y3⟩ | ⟨y1, y2, y3, y4⟩ | ⟨y1, y2, y3, m', p', c', y4, y5, y6⟩
   ·rw [x1] at y1; cases y1
   ·omega
   ·refine ⟨y3, y6, ins ltM m L, ins ltM m' D, ⟨⟨d', n', p1', n1', d1', p2', n2', d2', (b1.keeps (Keeps.of_below hb)).keeps (chg_keepT y6 (fun b e ht => h2 (e ▸ ht))), ?_, b3⟩, ⟨p', c', ?_⟩, agl_ins ?_ h.ag, ?_, h.ne⟩⟩
    ·rw [ins_len]
     exact y6.at_ ((hb.block _ (lt_of_heap b2)).trans b2) (fun e => h.ne e.symm)
    ·rw [ins_len]; exact y5
    ·rw [x4, y4]
     exact ⟨rfl, kep_row l3, by simp⟩
    ·rw [ins_len]; omega
 ·refine (Put_bad k id q1 c1 bt w hl hk1 hs hTb hE).mono (fun e W hq => ?_)
  have hc : Chg (fun b => b = bt) w W := chg_bl hq.2
  refine ⟨keyE k, hq.1, hc, fun W' q2 c2 hb hk2 => (docPut_bad_off k id q2 c2 dd W' hl hk2.off hE).mono (fun e2 W2 hq2 => ?_)⟩
  exact ⟨hq2.1, chg_bl hq2.2, L, D, same W2 ((hq.2.trans (hb.mono hq.2.size)).trans (hq2.2.mono (hq.2.trans (hb.mono hq.2.size)).size))⟩
/-- both are empty -/
theorem PrU.empty {u : Bool} {T : Nat → Prop} {w : World} {bt dd : Nat} (h1 : w.heap[bt]? = some (trO u (.slice none 0 0) (.slice none 0 0) 0)) (h2 : w.heap[dd]? = some (.cells #[.bool u, .slice none 0 0] 28 (0, 0))) (hne : dd ≠ bt) : PrU u T w bt dd [] [] := by
 refine ⟨⟨0, .mk [] [], none, 0, 0, none, 0, 0, ⟨⟨⟨⟨shr_nil _ _ _, fun g h => by cases h⟩, fun q h => by cases h⟩, rfl, rfl⟩, ?_, fun h => absurd rfl h, List.Pairwise.nil⟩, h1, ?_⟩, ⟨none, 0, h2, ⟨shr_nil _ _ _, fun g h => by cases h⟩, fun q h => by cases h⟩, agl_nil, by simp, hne⟩
 ·simp [Nd.wf]
 ·simp [Nd.fl, flK, il]
/-- between two acts -/
structure MidU (u : Bool) (w : World) (bt dd : Nat) (wr : World) : Prop where
 bl : Below w.heap.size w wr
 pr : ∃ T L D, PrU u T wr bt dd L D ∧ (∀ b, wr.heap.size ≤ b → T b) ∧ ¬ T bt ∧ ¬ T dd
 lo : w.heap.size ≤ bt ∧ w.heap.size ≤ dd
theorem MidU.below {u : Bool} {w wr W : World} {bt dd : Nat} (h : MidU u w bt dd wr) (hb : Below wr.heap.size wr W) : MidU u w bt dd W := by
 obtain ⟨T, L, D, h1, h2, h3⟩ := h.pr
 exact ⟨h.bl.trans (hb.mono h.bl.size), ⟨T, L, D, h1.below hb, fun b hh => h2 b (Nat.le_trans hb.size hh), h3⟩, h.lo⟩
/-- an act that came in, with its bounds -/
structure Ac.cameU (w : World) (a : Ac) : Prop where
 key : a.came w
 ends : ∃ low high, a.n1 = low.length ∧ a.n2 = high.length ∧ rowOff w a.P1 low ∧ rowOff w a.P2 high ∧ low.length ≤ 1000000000 ∧ high.length ≤ 1000000000 ∧ (∀ v ∈ low, fit v.n) ∧ ∀ v ∈ high, fit v.n
theorem does_all_u {u : Bool} {w wr : World} {bt dd : Nat} (h : MidU u w bt dd wr) (a : Ac) (ha : a.cameU w) (hTb : Tabs w) :
  Calls Tryz.prog 10 #[.pointer (some ⟨bt, 0, none⟩), .pointer (some ⟨dd, 0, none⟩), .agg #[.int .i64 a.kd, .int .i64 a.stop, .slice a.q a.k.length a.c, .int .u64 a.id, .slice a.P1 a.n1 a.C1, .slice a.P2 a.n2 a.C2, .bool a.li, .bool a.hi]] wr fun e w' => e = .returned (.bool true) ∧ MidU u w bt dd w' := by
 obtain ⟨T, L, D, hp, hT, t1, t2⟩ := h.pr
 have ha2 := ha.key.below h.bl
 have fin : ∀ e w', DoU u T wr bt dd e w' → e = .returned (.bool true) ∧ MidU u w bt dd w' := fun e w' hq => by
  obtain ⟨q1, q2, L', D', q3⟩ := hq
  exact ⟨q1, h.bl.trans (q2.below h.bl.size (fun i hi => by rcases hi with rfl | rfl; exact h.lo.1; exact h.lo.2)), ⟨T, L', D', q3, fun b hb => hT b (Nat.le_trans q2.size hb), t1, t2⟩, h.lo⟩
 by_cases k0 : a.kd = 0
 ·rw [k0]
  exact (does_put_u u T bt dd L D a.k a.id a.stop a.q a.P1 a.P2 a.c a.n1 a.C1 a.n2 a.C2 a.li a.hi wr hp hT t1 t2 ha2.row ha2.fits ha2.txt ha2.few (hTb.below h.bl)).mono fin
 by_cases k1 : a.kd = 1
 ·rw [k1]
  exact (does_drop_u u T bt dd L D a.k a.id a.stop a.q a.P1 a.P2 a.c a.n1 a.C1 a.n2 a.C2 a.li a.hi wr hp hT t1 t2 ha2.row ha2.fits ha2.few).mono fin
 by_cases k2 : a.kd = 2
 ·rw [k2]
  exact (does_get_u u T bt dd L D a.k a.id a.stop a.q a.P1 a.P2 a.c a.n1 a.C1 a.n2 a.C2 a.li a.hi wr hp ha2.row ha2.fits ha2.few).mono (fun e w' hq => ⟨hq.1, h.below hq.2⟩)
 by_cases k3 : a.kd = 3
 ·obtain ⟨low, high, e1, e2, g1, g2, z1, z2, y1, y2⟩ := ha.ends
  rw [k3, e1, e2]
  exact (does_range_u u T bt dd L D a.k low high a.id a.stop a.q a.P1 a.P2 a.c a.C1 a.C2 a.li a.hi wr hp hT ha2.row ha2.few (g1.below h.bl) (g2.below h.bl) z1 z2 y1 y2).mono (fun e w' hq => ⟨hq.1, h.below hq.2⟩)
 ·exact (does_none_u a.kd a.k a.id a.stop a.q a.P1 a.P2 _ _ a.c a.n1 a.C1 a.n2 a.C2 a.li a.hi wr ha2.row ha2.few ⟨k0, k1, k2, k3⟩).mono (fun e w' hq => ⟨hq.1, h.below hq.2⟩)
/-- a tree and its clone -/
structure Two (u : Bool) (w : World) (bt ct dd : Nat) (W : World) : Prop where
 bl : Below w.heap.size w W
 pr : ∃ T L D L0, PrU u (fun b => T b ∧ b ≠ ct) W ct dd L D ∧ TrU u T W bt L0 ∧ L0.length ≤ 4096 ∧ (∀ b, W.heap.size ≤ b → T b) ∧ ¬ T bt ∧ ¬ T dd
 ne : ct ≠ bt ∧ dd ≠ bt ∧ ct < W.heap.size
 lo : w.heap.size ≤ bt ∧ w.heap.size ≤ ct ∧ w.heap.size ≤ dd
theorem Two.below {u : Bool} {w wr W : World} {bt ct dd : Nat} (h : Two u w bt ct dd wr) (hb : Below wr.heap.size wr W) : Two u w bt ct dd W := by
 obtain ⟨T, L, D, L0, h1, h2, h3, h4, h5⟩ := h.pr
 exact ⟨h.bl.trans (hb.mono h.bl.size), ⟨T, L, D, L0, h1.below hb, h2.keeps hb, h3, fun b hh => h4 b (Nat.le_trans hb.size hh), h5⟩, ⟨h.ne.1, h.ne.2.1, Nat.lt_of_lt_of_le h.ne.2.2 hb.size⟩, h.lo⟩
theorem clone_u {u : Bool} {w wr : World} {bt dd : Nat} (h : MidU u w bt dd wr) :
  Calls Tryz.prog 7 #[.pointer (some ⟨bt, 0, none⟩)] wr fun e w' => e = .returned (.pointer (some ⟨wr.heap.size, 0, none⟩)) ∧ Two u w bt wr.heap.size dd w' := by
 obtain ⟨T, L, D, hp, hT, t1, t2⟩ := h.pr
 have hdl : dd < wr.heap.size := by
  obtain ⟨_, _, hd⟩ := hp.dc
  exact lt_of_heap hd.box
 have hn := hp.ne
 obtain ⟨d, n, p1, n1, d1, p2, n2, d2, a1, a2, a3⟩ := hp.tr
 have hbl := lt_of_heap a2
 refine (Clone_any bt u p1 n1 d1 p2 n2 d2 L.length wr a2).mono (fun e w' hq => ?_)
 obtain ⟨q1, q2, q3⟩ := hq
 have hp2 := (hp.mono (U := fun b => T b ∧ b ≠ wr.heap.size) (fun b hb ht => ⟨ht, by omega⟩)).below q3
 obtain ⟨d', n', p1', n1', d1', p2', n2', d2', b1, b2, b3⟩ := hp2.tr
 have b1' := (show RtIn (fun b => T b ∧ b ≠ wr.heap.size) wr d (min d 1) n (.slice p1 n1 d1) (.slice p2 n2 d2) from ⟨a1.nd.mono (fun b hb ht => ⟨ht, by omega⟩), a1.wf, a1.ne, a1.up⟩).keeps (Keeps.of_below q3)
 refine ⟨q1, ⟨h.bl.trans (q3.mono h.bl.size), ⟨T, L, D, L, ⟨⟨d, n, p1, n1, d1, p2, n2, d2, b1', q2, a3⟩, hp2.dc, hp.ag, hp.few, by omega⟩, ⟨d, n, p1, n1, d1, p2, n2, d2, a1.keeps (Keeps.of_below q3), (q3.block _ hbl).trans a2, a3⟩, hp.few, fun b hb => hT b (Nat.le_trans q3.size hb), t1, t2⟩, ⟨by omega, hn, lt_of_heap q2⟩, ⟨h.lo.1, h.bl.size, h.lo.2⟩⟩⟩
theorem Two.put {u : Bool} {w W : World} {bt ct dd : Nat} (h : Two u w bt ct dd W) (k : List Va) (id : Int) (q1 : Option Addr) (c1 : Nat) (hk1 : rowAt W q1 k) (fk : ∀ v ∈ k, fit v.n) (hs : ∀ v ∈ k, v.s.size ≤ 9223372036854775807) (hl : k.length ≤ 1000000000) (hTb : Tabs w) :
  Calls Tryz.prog 8 #[.pointer (some ⟨bt, 0, none⟩), .slice q1 k.length c1, .int .u64 id] W fun e W' => (∃ x, e = .returned (.int .i64 x)) ∧ Two u w bt ct dd W' := by
 obtain ⟨T, L, D, L0, h1, h2, h3, h4, h5, h6⟩ := h.pr
 refine (old_put u T bt L0 k id q1 c1 W h2 h3 h4 h5 hk1 fk hs hl (hTb.below h.bl)).mono (fun e W' hq => ?_)
 obtain ⟨q1, q2, L', q3, q4⟩ := hq
 exact ⟨q1, ⟨h.bl.trans (q2.below h.bl.size (fun i hi => by rw [hi]; exact h.lo.1)), ⟨T, L, D, L', h1.chg q2 (fun b hb ht => h5 (hb ▸ ht.1)) h.ne.1 h.ne.2.1, q3, q4, fun b hb => h4 b (Nat.le_trans q2.size hb), h5, h6⟩, ⟨h.ne.1, h.ne.2.1, Nat.lt_of_lt_of_le h.ne.2.2 q2.size⟩, h.lo⟩⟩
theorem Two.drop {u : Bool} {w W : World} {bt ct dd : Nat} (h : Two u w bt ct dd W) (k : List Va) (id : Int) (q1 : Option Addr) (c1 : Nat) (hk : rowOff W q1 k) (fk : ∀ v ∈ k, fit v.n) :
  Calls Tryz.prog 9 #[.pointer (some ⟨bt, 0, none⟩), .slice q1 k.length c1, .int .u64 id] W fun e W' => (∃ x, e = .returned (.bool x)) ∧ MidU u w ct dd W' := by
 obtain ⟨T, L, D, L0, h1, h2, h3, h4, h5, h6⟩ := h.pr
 refine (old_drop u T bt L0 k id q1 c1 W h2 h3 h4 h5 hk fk).mono (fun e W' hq => ?_)
 obtain ⟨q1, q2⟩ := hq
 exact ⟨q1, ⟨h.bl.trans (q2.below h.bl.size (fun i hi => by rw [hi]; exact h.lo.1)), ⟨_, L, D, h1.chg q2 (fun b hb ht => h5 (hb ▸ ht.1)) h.ne.1 h.ne.2.1, fun b hb => ⟨h4 b (Nat.le_trans q2.size hb), by have := h.ne.2.2; have := q2.size; omega⟩, fun hh => hh.2 rfl, fun hh => h6 hh.1⟩, ⟨h.lo.2.1, h.lo.2.2⟩⟩⟩

end Go.Proofs.YtclcajnodoifjaaGreatDoor

namespace Go.Proofs.YtclcajnodoifjaaGreatDoor
open Go.ChangeShapes Go.WideShapes Go.ChangeAt Go.RowKit Go.Lib Go.Shelf Go.Joins Go.Deep
set_option maxRecDepth 100000

/-- what is known of an act that came in -/
def Gu (W : World) (b : Nat) (a : Ac) : Prop := (rowOff W a.q a.k ∧ (∀ v ∈ a.k, fit v.n ∧ v.s.size ≤ 9223372036854775807) ∧ a.k.length ≤ b) ∧ ∃ low high, a.n1 = low.length ∧ a.n2 = high.length ∧ rowOff W a.P1 low ∧ rowOff W a.P2 high ∧ low.length ≤ b ∧ high.length ≤ b ∧ (∀ v ∈ low, fit v.n) ∧ ∀ v ∈ high, fit v.n
/-- an act that came in -/
theorem el_acU {H : Type} {enc : TypeId × Value → H} {W : World} {n : Nat} {cs : List Value} {y : DataW H × List MemPlace} (h : DataW.trod enc Tryz.prog W 0 (fun _ => true) true n 35 cs = some y) :
  ∃ a : Ac, cs = a.en ∧ Gu W (Rows.uptoBulk y.1) a := by
 obtain ⟨y0, y1, y2, y3, y4, m, hx, hl, t0, t1, t2, t3, t4⟩ := trod_st5 Tryz.underlying35 h
 rw [cellsAc] at hl
 match cs, hl with
 | [c0, c1, c2, c3, c4, c5, c6, c7], _ =>
  have u0 : DataW.trod enc Tryz.prog W 0 (fun _ => true) true m 3 [c0] = some y0 := by simpa [cellsI] using t0
  have u1 : DataW.trod enc Tryz.prog W 0 (fun _ => true) true m 3 [c1] = some y1 := by simpa [cellsI] using t1
  have u2 : DataW.trod enc Tryz.prog W 0 (fun _ => true) true m 30 [c2] = some y2 := by simpa [cellsRw] using t2
  have u3 : DataW.trod enc Tryz.prog W 0 (fun _ => true) true m 31 [c3] = some y3 := by simpa [cellsU6] using t3
  have u4 : DataW.trod enc Tryz.prog W 0 (fun _ => true) true m 33 [c4, c5, c6, c7] = some y4 := by simpa [cellsBd] using t4
  obtain ⟨z0, z1, z2, z3, m2, hz, _, b0, b1, b2, b3⟩ := trod_st4 Tryz.underlying33 u4
  have v0 : DataW.trod enc Tryz.prog W 0 (fun _ => true) true m2 30 [c4] = some z0 := by simpa [cellsRw] using b0
  have v1 : DataW.trod enc Tryz.prog W 0 (fun _ => true) true m2 30 [c5] = some z1 := by simpa [cellsRw] using b1
  have v2 : DataW.trod enc Tryz.prog W 0 (fun _ => true) true m2 4 [c6] = some z2 := by simpa [cellsB] using b2
  have v3 : DataW.trod enc Tryz.prog W 0 (fun _ => true) true m2 4 [c7] = some z3 := by simpa [cellsB] using b3
  obtain ⟨kd, e0, _, _⟩ := DataW.trod_int Tryz.underlying3 u0
  obtain ⟨st, e1, _, _⟩ := DataW.trod_int Tryz.underlying3 u1
  obtain ⟨P, C, l, e2, h2, h3, h4⟩ := open_row u2
  obtain ⟨id, e3, _, _⟩ := DataW.trod_int Tryz.underlying31 u3
  obtain ⟨P1, C1, l1, e4, g2, g3, g4⟩ := open_row v0
  obtain ⟨P2, C2, l2, e5, j2, j3, j4⟩ := open_row v1
  obtain ⟨li, e6, _⟩ := DataW.trod_bool Tryz.underlying4 v2
  obtain ⟨hi, e7, _⟩ := DataW.trod_bool Tryz.underlying4 v3
  simp only [List.cons.injEq, and_true] at e0 e1 e2 e3 e4 e5 e6 e7
  subst e0 e1 e2 e3 e4 e5 e6 e7
  have hb : Rows.uptoBulk y4.1 ≤ Rows.uptoBulk y.1 := by
   rw [hx]
   simp only [Rows.uptoBulk, Rows.uptoBulkAll]
   omega
  have hl1 : l1.length ≤ Rows.uptoBulk y4.1 ∧ l2.length ≤ Rows.uptoBulk y4.1 := by
   rw [hz]
   simp only [Rows.uptoBulk, Rows.uptoBulkAll]
   omega
  have hk : l.length ≤ Rows.uptoBulk y.1 := by
   rw [hx]
   simp only [Rows.uptoBulk, Rows.uptoBulkAll]
   omega
  exact ⟨⟨kd, st, l, P, C, id, P1, l1.length, C1, P2, l2.length, C2, li, hi⟩, rfl, ⟨h4, h3, hk⟩, l1, l2, rfl, rfl, g4, j4, by omega, by omega, fun v hv => (g3 v hv).1, fun v hv => (j3 v hv).1⟩
/-- acts that came in -/
theorem arg_actsU {H : Type} {enc : TypeId × Value → H} {W : World} {base : Nat} {v : Value} {d : DataW H} {p : List MemPlace} (hv : Value.okWide Tryz.prog W .any base 22 v) (h : DataW.Trod enc Tryz.prog W 0 (fun _ => true) true 22 v d p) :
  ∃ (l : List Ac) (P : Option Addr) (C : Nat), v = .slice P l.length C ∧ actsAt W P l ∧ l.length ≤ Rows.uptoBulk d ∧ (Rows.uptoBulk d ≤ 1048576 → ∀ a ∈ l, a.cameU W) := by
 obtain ⟨a, len, cap, rfl⟩ := okWide_slice Tryz.underlying22 hv
 obtain ⟨n, hn⟩ := h
 obtain ⟨P, C, l, e, h1, h2, h3, hg, h4⟩ := open_list (⟨0, 0, [], none, 0, 0, none, 0, 0, none, 0, 0, false, false⟩ : Ac) Tryz.underlying22 cellsAc (by decide) Ac.en (fun d a => Gu W (Rows.uptoBulk d) a) (fun n cs y h => el_acU h) (fun _ => rfl) hn
 refine ⟨l, P, C, by simpa [Value.cells] using e, h4, h3, fun hb a ha => ?_⟩
 obtain ⟨d', hd, ⟨g1, g2, g3⟩, low, high, f1, f2, f3, f4, f5, f6, f7⟩ := hg a ha
 have hd2 : Rows.uptoBulk d' ≤ Rows.uptoBulk d := hd
 exact ⟨⟨g1, fun v hv => (g2 v hv).1, fun v hv => (g2 v hv).2, by omega⟩, low, high, f1, f2, f3, f4, by omega, by omega, f7⟩
end Go.Proofs.YtclcajnodoifjaaGreatDoor

