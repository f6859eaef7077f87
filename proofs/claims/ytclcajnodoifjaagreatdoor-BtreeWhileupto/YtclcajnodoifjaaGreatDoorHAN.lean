/-
  The ends of a span between bounds; the makers Range and Back.
-/
import Derived.Test.YtclcajnodoifjaaGreatDoorBxGRx
import Derived.Test.YtclcajnodoifjaaGreatDoorBxDRx
namespace Go.Proofs.YtclcajnodoifjaaGreatDoor
open Go.RowKit Go.Shelf Go.Joins Go.Maps
set_option maxRecDepth 100000

theorem btw_end1 {T : Nat → Prop} {w : World} {b3 b5 : Nat} {q : Option Addr} {f : List Va} {cq : Nat} {inn : Bool} (h3 : w.heap[b3]? = some (.cells #[.slice q f.length cq] 30 (0, 0))) (t3 : T b3) (h5 : w.heap[b5]? = some (.cells #[.bool inn] 4 (0, 0))) (t5 : T b5) (hq : ∀ W, Keeps T w W → rowAt W q f) (hf : f.length ≤ 1000000000) (ff : ∀ v ∈ f, fit v.n) :
    EndOk T w 65 #[.pointer (some ⟨b3, 0, none⟩), .pointer (some ⟨b5, 0, none⟩)] (loB f inn) := by
  refine ⟨enters_of Tryz.func65 (by kernel_rfl) rfl, fun W x hW hx => ?_⟩
  have g3 := hW.2 b3 _ _ _ t3 h3
  have g5 := hW.2 b5 _ _ _ t5 h5
  exact between1_any x.g q x.c cq b3 b5 x.e f inn W hx.vals (by have := hx.few; omega) hx.cap (hq W hW) hf hx.fits ff (lt_of_heap g3) ((cell_of_block g3 0).trans rfl) (lt_of_heap g5) ((cell_of_block g5 0).trans rfl)
theorem btw_end2 {T : Nat → Prop} {w : World} {b4 b6 : Nat} {q : Option Addr} {f : List Va} {cq : Nat} {inn : Bool} (h4 : w.heap[b4]? = some (.cells #[.slice q f.length cq] 30 (0, 0))) (t4 : T b4) (h6 : w.heap[b6]? = some (.cells #[.bool inn] 4 (0, 0))) (t6 : T b6) (hq : ∀ W, Keeps T w W → rowAt W q f) (hf : f.length ≤ 1000000000) (ff : ∀ v ∈ f, fit v.n) :
    EndOk T w 67 #[.pointer (some ⟨b4, 0, none⟩), .pointer (some ⟨b6, 0, none⟩)] (hiB f inn) := by
  refine ⟨enters_of Tryz.func67 (by kernel_rfl) rfl, fun W x hW hx => ?_⟩
  have g4 := hW.2 b4 _ _ _ t4 h4
  have g6 := hW.2 b6 _ _ _ t6 h6
  exact between2_any x.g q x.c cq b4 b6 x.e f inn W hx.vals (by have := hx.few; omega) hx.cap (hq W hW) hf hx.fits ff (lt_of_heap g4) ((cell_of_block g4 0).trans rfl) (lt_of_heap g6) ((cell_of_block g6 0).trans rfl)
/-- a span between bounds, that lies in new memory -/
def SpnAt (w0 w : World) (low high : List Va) (li hi : Bool) (f1 f2 : Value) : Prop := ∃ b3 b4 b5 b6 q1 d1 q2 d2, f1 = .func (.func 65) #[] #[.pointer (some ⟨b3, 0, none⟩), .pointer (some ⟨b5, 0, none⟩)] ∧ f2 = .func (.func 67) #[] #[.pointer (some ⟨b4, 0, none⟩), .pointer (some ⟨b6, 0, none⟩)] ∧ BoxAt w0 w b3 (.cells #[.slice q1 low.length d1] 30 (0, 0)) ∧ BoxAt w0 w b4 (.cells #[.slice q2 high.length d2] 30 (0, 0)) ∧ BoxAt w0 w b5 (.cells #[.bool li] 4 (0, 0)) ∧ BoxAt w0 w b6 (.cells #[.bool hi] 4 (0, 0)) ∧ RowF w0 w q1 low ∧ RowF w0 w q2 high
theorem RowF.kp {T : Nat → Prop} {w0 w : World} {q : Option Addr} {l : List Va} (h : RowF w0 w q l) (hT : ∀ b, w0.heap.size ≤ b → b < w.heap.size → T b) : ∀ W, Keeps T w W → rowAt W q l := fun W hW => by
  rcases h.1 with h1 | ⟨g, h1, h2⟩
  · exact Or.inl h1
  · exact Or.inr ⟨g, h1, h2.keeps (hT g (h.2 g h1) h2.1) hW⟩
theorem SpnAt.below {w0 w w' : World} {low high : List Va} {li hi : Bool} {f1 f2 : Value} (h : SpnAt w0 w low high li hi f1 f2) (hb : Below w.heap.size w w') : SpnAt w0 w' low high li hi f1 f2 := by
  obtain ⟨b3, b4, b5, b6, q1, d1, q2, d2, e1, e2, x3, x4, x5, x6, r1, r2⟩ := h
  exact ⟨b3, b4, b5, b6, q1, d1, q2, d2, e1, e2, x3.below hb, x4.below hb, x5.below hb, x6.below hb, r1.below hb, r2.below hb⟩
theorem SpnAt.down {w w0 W : World} {low high : List Va} {li hi : Bool} {f1 f2 : Value} (h : SpnAt w0 W low high li hi f1 f2) (hw : w.heap.size ≤ w0.heap.size) : SpnAt w W low high li hi f1 f2 := by
  obtain ⟨b3, b4, b5, b6, q1, d1, q2, d2, e1, e2, x3, x4, x5, x6, r1, r2⟩ := h
  exact ⟨b3, b4, b5, b6, q1, d1, q2, d2, e1, e2, x3.down hw, x4.down hw, x5.down hw, x6.down hw, r1.down hw, r2.down hw⟩
theorem spanM (low high : List Va) (li hi : Bool) : Span ltM (fun q => loB low li q.e) (fun q => hiB high hi q.e) := ⟨fun {_ _} h1 h2 => (span_between low high li hi).1 h1 h2, fun {_ _} h1 h2 => (span_between low high li hi).2 h1 h2⟩
/-- it is one -/
theorem SpnAt.ok {T : Nat → Prop} {w0 w : World} {low high : List Va} {li hi : Bool} {f1 f2 : Value} (h : SpnAt w0 w low high li hi f1 f2) (hT : ∀ b, w0.heap.size ≤ b → b < w.heap.size → T b) (z1 : low.length ≤ 1000000000) (z2 : high.length ≤ 1000000000) (g1 : ∀ v ∈ low, fit v.n) (g2 : ∀ v ∈ high, fit v.n) : ∃ fl_ fh ll lh, f1 = .func (.func fl_) #[] ll ∧ f2 = .func (.func fh) #[] lh ∧ SpOk T w fl_ fh ll lh (loB low li) (hiB high hi) := by
  obtain ⟨b3, b4, b5, b6, q1, d1, q2, d2, e1, e2, x3, x4, x5, x6, r1, r2⟩ := h
  exact ⟨_, _, _, _, e1, e2, ⟨btw_end1 x3.2 (hT _ x3.1 (lt_of_heap x3.2)) x5.2 (hT _ x5.1 (lt_of_heap x5.2)) (r1.kp hT) z1 g1, btw_end2 x4.2 (hT _ x4.1 (lt_of_heap x4.2)) x6.2 (hT _ x6.1 (lt_of_heap x6.2)) (r2.kp hT) z2 g2, spanM low high li hi⟩⟩
/-- what Range and Back make -/
def RngQ (g : Nat) (w : World) (bt : Nat) (low high : List Va) (li hi : Bool) (e : Ending) (w' : World) : Prop := ∃ B1 B2 f1 f2, e = .returned (.func (.func g) #[] #[.pointer (some ⟨B1, 0, none⟩), .pointer (some ⟨B2, 0, none⟩)]) ∧ BoxAt w w' B1 (.cells #[.pointer (some ⟨bt, 0, none⟩)] 23 (0, 0)) ∧ BoxAt w w' B2 (.cells #[f1, f2] 72 (0, 0)) ∧ SpnAt w w' low high li hi f1 f2 ∧ Below w.heap.size w w'
set_option maxHeartbeats 4000000 in
set_option maxRecDepth 1000000 in
theorem Range_any (bt : Nat) (P1 P2 : Option Addr) (C1 C2 : Nat) (low high : List Va) (li hi : Bool) (w : World) (h1 : rowAt w P1 low) (h2 : rowAt w P2 high) (hP1 : P1 = none → C1 = 0) (hP2 : P2 = none → C2 = 0) (z1 : low.length ≤ 1000000000) (z2 : high.length ≤ 1000000000) :
    Calls Tryz.prog 17 #[.pointer (some ⟨bt, 0, none⟩), .agg #[.slice P1 low.length C1, .slice P2 high.length C2, .bool li, .bool hi]] w fun e w' => RngQ 40 w bt low high li hi e w' := by
  obtain ⟨w0, hw0⟩ : ∃ w0, w0 = (w.alloc (.cells #[.pointer (some ⟨bt, 0, none⟩)] 23)).alloc (.cells #[.slice P1 low.length C1, .slice P2 high.length C2, .bool li, .bool hi] 33) := ⟨_, rfl⟩
  obtain ⟨d0, d1, bb, bs⟩ := bx2 w (.cells #[.pointer (some ⟨bt, 0, none⟩)] 23) (.cells #[.slice P1 low.length C1, .slice P2 high.length C2, .bool li, .bool hi] 33)
  rw [← hw0] at d0 d1 bb bs
  have BT : Hid (Calls Tryz.prog 39 #[.agg #[.slice P1 low.length C1, .slice P2 high.length C2, .bool li, .bool hi]] w0 fun e w' => BtwQ w0 low high li hi e w') := between_any P1 P2 C1 C2 low high li hi w0 (h1.below bb) (h2.below bb) hP1 hP2 z1 z2
  have D0 := mkHid d0
  have BB := mkHid bb
  clear h1 h2 hP1 hP2 z1 z2 d0 d1 bb bs
  have sf : ∀ (a : Addr) (f : Fn) (x y : Array Value) (w : World) (m : Mode), (store a (.func f x y) m).run Tryz.prog w = stored Tryz.prog w a (.func f x y) m := fun a f x y w m => run_store _ _ _ _ _ rfl
  generalize hn1 : low.length = n1 at *
  generalize hn2 : high.length = n2 at *
  go_enter Tryz.func17, Tryz.ntmps17
  go_wp2_with fail
  rw [← hw0]
  clear hw0
  refine BT.out.mono ?_
  rintro e w1 ⟨b3, b4, b5, b6, q1, d1, q2, d2, rfl, x3, x4, x5, x6, r1, r2, b1⟩
  have FN : Hid (∀ B1 w2 o, o = (.cells #[.func (.func 65) #[] #[.pointer (some ⟨b3, 0, none⟩), .pointer (some ⟨b5, 0, none⟩)], .func (.func 67) #[] #[.pointer (some ⟨b4, 0, none⟩), .pointer (some ⟨b6, 0, none⟩)]] 72) → B1 = w.heap.size → w2 = w1.alloc o → RngQ 40 w bt low high li hi (.returned (.func (.func 40) #[] #[.pointer (some ⟨B1, 0, none⟩), .pointer (some ⟨w1.heap.size, 0, none⟩)])) w2) := fun B1 w2 o ho hB hw => by
    subst hB hw ho
    have ba := (Below.refl w1.heap.size w1).alloc (Nat.le_refl _) (.cells #[.func (.func 65) #[] #[.pointer (some ⟨b3, 0, none⟩), .pointer (some ⟨b5, 0, none⟩)], .func (.func 67) #[] #[.pointer (some ⟨b4, 0, none⟩), .pointer (some ⟨b6, 0, none⟩)]] 72)
    have sp : SpnAt w0 w1 low high li hi (.func (.func 65) #[] #[.pointer (some ⟨b3, 0, none⟩), .pointer (some ⟨b5, 0, none⟩)]) (.func (.func 67) #[] #[.pointer (some ⟨b4, 0, none⟩), .pointer (some ⟨b6, 0, none⟩)]) := ⟨b3, b4, b5, b6, q1, d1, q2, d2, rfl, rfl, x3, x4, x5, x6, r1, r2⟩
    exact ⟨_, _, _, _, rfl, ⟨Nat.le_refl _, (ba.block _ (Nat.lt_of_lt_of_le (lt_of_heap D0.out) b1.size)).trans ((b1.block _ (lt_of_heap D0.out)).trans D0.out)⟩, ⟨Nat.le_trans BB.out.size b1.size, heap_alloc_new _ _⟩, (sp.below ba).down BB.out.size, (BB.out.trans (b1.mono BB.out.size)).trans (ba.mono (Nat.le_trans BB.out.size b1.size))⟩
  clear x3 x4 x5 x6 r1 r2 b1 BT D0 BB hn1 hn2
  go_wp2_with fail
  go_ret
  exact FN.out _ _ _ rfl rfl rfl
set_option maxHeartbeats 4000000 in
set_option maxRecDepth 1000000 in
theorem Back_any (bt : Nat) (P1 P2 : Option Addr) (C1 C2 : Nat) (low high : List Va) (li hi : Bool) (w : World) (h1 : rowAt w P1 low) (h2 : rowAt w P2 high) (hP1 : P1 = none → C1 = 0) (hP2 : P2 = none → C2 = 0) (z1 : low.length ≤ 1000000000) (z2 : high.length ≤ 1000000000) :
    Calls Tryz.prog 37 #[.pointer (some ⟨bt, 0, none⟩), .agg #[.slice P1 low.length C1, .slice P2 high.length C2, .bool li, .bool hi]] w fun e w' => RngQ 61 w bt low high li hi e w' := by
  obtain ⟨w0, hw0⟩ : ∃ w0, w0 = (w.alloc (.cells #[.pointer (some ⟨bt, 0, none⟩)] 23)).alloc (.cells #[.slice P1 low.length C1, .slice P2 high.length C2, .bool li, .bool hi] 33) := ⟨_, rfl⟩
  obtain ⟨d0, d1, bb, bs⟩ := bx2 w (.cells #[.pointer (some ⟨bt, 0, none⟩)] 23) (.cells #[.slice P1 low.length C1, .slice P2 high.length C2, .bool li, .bool hi] 33)
  rw [← hw0] at d0 d1 bb bs
  have BT : Hid (Calls Tryz.prog 39 #[.agg #[.slice P1 low.length C1, .slice P2 high.length C2, .bool li, .bool hi]] w0 fun e w' => BtwQ w0 low high li hi e w') := between_any P1 P2 C1 C2 low high li hi w0 (h1.below bb) (h2.below bb) hP1 hP2 z1 z2
  have D0 := mkHid d0
  have BB := mkHid bb
  clear h1 h2 hP1 hP2 z1 z2 d0 d1 bb bs
  have sf : ∀ (a : Addr) (f : Fn) (x y : Array Value) (w : World) (m : Mode), (store a (.func f x y) m).run Tryz.prog w = stored Tryz.prog w a (.func f x y) m := fun a f x y w m => run_store _ _ _ _ _ rfl
  generalize hn1 : low.length = n1 at *
  generalize hn2 : high.length = n2 at *
  go_enter Tryz.func37, Tryz.ntmps37
  go_wp2_with fail
  rw [← hw0]
  clear hw0
  refine BT.out.mono ?_
  rintro e w1 ⟨b3, b4, b5, b6, q1, d1, q2, d2, rfl, x3, x4, x5, x6, r1, r2, b1⟩
  have FN : Hid (∀ B1 w2 o, o = (.cells #[.func (.func 65) #[] #[.pointer (some ⟨b3, 0, none⟩), .pointer (some ⟨b5, 0, none⟩)], .func (.func 67) #[] #[.pointer (some ⟨b4, 0, none⟩), .pointer (some ⟨b6, 0, none⟩)]] 72) → B1 = w.heap.size → w2 = w1.alloc o → RngQ 61 w bt low high li hi (.returned (.func (.func 61) #[] #[.pointer (some ⟨B1, 0, none⟩), .pointer (some ⟨w1.heap.size, 0, none⟩)])) w2) := fun B1 w2 o ho hB hw => by
    subst hB hw ho
    have ba := (Below.refl w1.heap.size w1).alloc (Nat.le_refl _) (.cells #[.func (.func 65) #[] #[.pointer (some ⟨b3, 0, none⟩), .pointer (some ⟨b5, 0, none⟩)], .func (.func 67) #[] #[.pointer (some ⟨b4, 0, none⟩), .pointer (some ⟨b6, 0, none⟩)]] 72)
    have sp : SpnAt w0 w1 low high li hi (.func (.func 65) #[] #[.pointer (some ⟨b3, 0, none⟩), .pointer (some ⟨b5, 0, none⟩)]) (.func (.func 67) #[] #[.pointer (some ⟨b4, 0, none⟩), .pointer (some ⟨b6, 0, none⟩)]) := ⟨b3, b4, b5, b6, q1, d1, q2, d2, rfl, rfl, x3, x4, x5, x6, r1, r2⟩
    exact ⟨_, _, _, _, rfl, ⟨Nat.le_refl _, (ba.block _ (Nat.lt_of_lt_of_le (lt_of_heap D0.out) b1.size)).trans ((b1.block _ (lt_of_heap D0.out)).trans D0.out)⟩, ⟨Nat.le_trans BB.out.size b1.size, heap_alloc_new _ _⟩, (sp.below ba).down BB.out.size, (BB.out.trans (b1.mono BB.out.size)).trans (ba.mono (Nat.le_trans BB.out.size b1.size))⟩
  clear x3 x4 x5 x6 r1 r2 b1 BT D0 BB hn1 hn2
  go_wp2_with fail
  go_ret
  exact FN.out _ _ _ rfl rfl rfl
end Go.Proofs.YtclcajnodoifjaaGreatDoor

namespace Go.Proofs.YtclcajnodoifjaaGreatDoor
open Go.RowKit Go.Shelf Go.Joins Go.Maps
attribute [local go_sem] Oper.semAt_some
set_option maxRecDepth 100000

theorem RtIn.mono {T U : Nat → Prop} {w : World} {d l : Nat} {n : Nd Em} {v1 v2 : Value} (h : RtIn T w d l n v1 v2) (hu : ∀ b, b < w.heap.size → T b → U b) : RtIn U w d l n v1 v2 := ⟨h.nd.mono hu, h.wf, h.ne, h.up⟩
/-- the entries between bounds -/
def btw (low high : List Va) (li hi : Bool) (L : List Em) : List Em := within (fun q : Em => loB low li q.e) (fun q : Em => hiB high hi q.e) L
end Go.Proofs.YtclcajnodoifjaaGreatDoor

namespace Go.Proofs.YtclcajnodoifjaaGreatDoor
open Go.RowKit Go.Shelf Go.Joins Go.Maps
set_option maxRecDepth 100000

set_option maxHeartbeats 4000000 in
set_option maxRecDepth 1000000 in
theorem copied_some (g0 : Nat) (k : List Va) (c : Nat) (w : World) (hk : valsAt w g0 k) (h0 : 0 < k.length) (hl : k.length ≤ 1000000000) :
    Calls Tryz.prog 15 #[.slice (some ⟨g0, 0, none⟩) k.length c] w fun e w' => ∃ cap, e = .returned (.slice (some ⟨w.heap.size + 1, 0, none⟩) k.length cap) ∧ valsAt w' (w.heap.size + 1) k ∧ k.length ≤ cap ∧ Below w.heap.size w w' := by
  obtain ⟨cap, w2, r, s, g, z⟩ := rwVa.clone w ⟨g0, 0, none⟩ k.length c (fl vaE k) (fl_len (enc := vaE) (s := 3) (fun _ => rfl) k) (fun j u hj => by rw [add_plain, Nat.zero_add]; exact hk.cells j u hj) h0 hl
  have HR : Hid (valsAt w2 (w.heap.size + 1) k ∧ k.length ≤ cap ∧ Below w.heap.size w w2) := by
    obtain ⟨p, c', e1, e2, _⟩ := s.form
    cases e1
    obtain ⟨g', off, e3, e4⟩ := s.cell
    cases e3
    exact ⟨valsAt.mk (by omega) (fun j u hj => by have := e4 j u hj; rwa [Nat.zero_add] at this), e2, below_none g (Nat.le_refl _)⟩
  obtain ⟨n, hn⟩ : ∃ n, n = k.length := ⟨_, rfl⟩
  rw [← hn] at r HR ⊢
  clear s g z hk h0 hl hn
  go_enter Tryz.func15, Tryz.ntmps15
  go_wp2_with (at_builtin; refine wp_app 30 rfl (.tmp 3) (.tmp 4) rfl rfl rfl r ?_)
  go_ret
  exact ⟨cap, rfl, HR.out⟩
set_option maxHeartbeats 4000000 in
set_option maxRecDepth 1000000 in
theorem copied_none (p : Option Addr) (c : Nat) (w : World) :
    Calls Tryz.prog 15 #[.slice p 0 c] w fun e w' => e = .returned (.slice (some ⟨w.heap.size, 0, none⟩) 0 0) ∧ Below w.heap.size w w' := by
  have HB := mkHid (fun o => (Below.refl _ w).alloc (Nat.le_refl _) o)
  go_enter Tryz.func15, Tryz.ntmps15
  go_wp2_with (at_builtin; refine wp_app 30 rfl (.tmp 3) (.tmp 4) rfl rfl rfl (fun ty => app_nothing _ _ _ _ ty) ?_)
  go_ret
  exact ⟨rfl, HB.out _⟩
/-- a copy of any row -/
theorem copied_any (P : Option Addr) (C : Nat) (k : List Va) (w : World) (hk : rowAt w P k) (hl : k.length ≤ 1000000000) :
    Calls Tryz.prog 15 #[.slice P k.length C] w fun e w' => ∃ p d, e = .returned (.slice (some p) k.length d) ∧ RowF w w' (some p) k ∧ Below w.heap.size w w' := by
  cases k with
  | nil => exact (copied_none P C w).mono (fun e w' h => ⟨_, _, h.1, ⟨Or.inl rfl, fun g h => by cases h; exact Nat.le_refl _⟩, h.2⟩)
  | cons v k =>
    obtain ⟨g, rfl, hv⟩ : ∃ g, P = some ⟨g, 0, none⟩ ∧ valsAt w g (v :: k) := by
      rcases hk with h | h
      · cases h
      · exact h
    refine (copied_some g (v :: k) C w hv (by simp) hl).mono (fun e w' h => ?_)
    obtain ⟨cap, h1, h2, h3, h4⟩ := h
    exact ⟨_, _, h1, ⟨Or.inr ⟨_, rfl, h2⟩, fun g h => by cases h; omega⟩, h4⟩
set_option maxHeartbeats 8000000 in
set_option maxRecDepth 1000000 in
theorem bounds_any (P1 P2 : Option Addr) (C1 C2 : Nat) (low high : List Va) (li hi : Bool) (w : World) (h1 : rowAt w P1 low) (h2 : rowAt w P2 high) (z1 : low.length ≤ 1000000000) (z2 : high.length ≤ 1000000000) :
    Calls Tryz.prog 31 #[.agg #[.slice P1 low.length C1, .slice P2 high.length C2, .bool li, .bool hi]] w fun e w' => ∃ q1 d1 q2 d2, e = .returned (.agg #[.slice (some q1) low.length d1, .slice (some q2) high.length d2, .bool li, .bool hi]) ∧ RowF w w' (some q1) low ∧ RowF w w' (some q2) high ∧ Below w.heap.size w w' := by
  obtain ⟨w0, hw0⟩ : ∃ w0, w0 = (w.alloc (.cells #[.slice P1 low.length C1, .slice P2 high.length C2, .bool li, .bool hi] 33)).alloc (.cells #[.slice none 0 0, .slice none 0 0, .bool false, .bool false] 33) := ⟨_, rfl⟩
  obtain ⟨d0, d1, bb, bs⟩ := bx2 w (.cells #[.slice P1 low.length C1, .slice P2 high.length C2, .bool li, .bool hi] 33) (.cells #[.slice none 0 0, .slice none 0 0, .bool false, .bool false] 33)
  rw [← hw0] at d0 d1 bb bs
  have CL1 : Hid (∀ W, Below w0.heap.size w0 W → Calls Tryz.prog 15 #[.slice P1 low.length C1] W fun e w' => ∃ p d, e = .returned (.slice (some p) low.length d) ∧ RowF w0 w' (some p) low ∧ Below W.heap.size W w') := fun W hW => (copied_any P1 C1 low W ((h1.below bb).below hW) z1).mono (fun e w' h => by obtain ⟨p, d, e1, e2, e3⟩ := h; exact ⟨p, d, e1, ⟨e2.1, fun g hg => Nat.le_trans hW.size (e2.2 g hg)⟩, e3⟩)
  have CL2 : Hid (∀ W, Below w0.heap.size w0 W → Calls Tryz.prog 15 #[.slice P2 high.length C2] W fun e w' => ∃ p d, e = .returned (.slice (some p) high.length d) ∧ RowF w0 w' (some p) high ∧ Below W.heap.size W w') := fun W hW => (copied_any P2 C2 high W ((h2.below bb).below hW) z2).mono (fun e w' h => by obtain ⟨p, d, e1, e2, e3⟩ := h; exact ⟨p, d, e1, ⟨e2.1, fun g hg => Nat.le_trans hW.size (e2.2 g hg)⟩, e3⟩)
  generalize hn1 : low.length = n1 at *
  generalize hn2 : high.length = n2 at *
  have MW : Hid (w.heap.size < w0.heap.size) := by rw [bs]; exact Nat.lt_succ_of_lt (Nat.lt_succ_self _)
  have M2 : Hid (w.heap.size + 1 < w0.heap.size) := by rw [bs]; exact Nat.lt_succ_self _
  have D0 := mkHid d0
  have D1 := mkHid d1
  have BB := mkHid bb
  clear h1 h2 z1 z2 hn1 hn2 d0 d1 bb bs
  go_enter Tryz.func31, Tryz.ntmps31
  go_wp2_with fail
  rw [← hw0]
  clear hw0
  refine wp_mono (Q := fun e a' w' => e = .normal ∧ ∃ q1 d1 q2 d2, a' = { tmps := #[.agg #[.slice P1 n1 C1, .slice P2 n2 C2, .bool li, .bool hi], .pointer (some ⟨w.heap.size, 0, none⟩), .pointer (some ⟨w.heap.size + 1, 0, none⟩), .pointer (some ⟨w.heap.size, 0, none⟩), .slice P1 n1 C1, .slice (some q1) n1 d1, .pointer (some ⟨w.heap.size, 1, none⟩), .slice P2 n2 C2, .slice (some q2) n2 d2, .pointer (some ⟨w.heap.size, 0, none⟩), .pointer (some ⟨w.heap.size, 1, none⟩), undef], defers := [] } ∧ w'.heap[w.heap.size]? = some (.cells #[.slice (some q1) n1 d1, .slice (some q2) n2 d2, .bool li, .bool hi] 33 (0, 0)) ∧ RowF w0 w' (some q1) low ∧ RowF w0 w' (some q2) high ∧ (Below w.heap.size w w' ∧ w'.heap[w.heap.size + 1]? = some (.cells #[.slice none 0 0, .slice none 0 0, .bool false, .bool false] 33 (0, 0)))) ?_ ?_
  · have KB := mkHid ((Below.refl w0.heap.size w0).drew)
    have RC : Hid (w0.drew.heap[w.heap.size]? = some (.cells #[.slice P1 n1 C1, .slice P2 n2 C2, .bool li, .bool hi] 33 (0, 0))) := D0.out
    refine wp_region_noPanic ?_
    refine wp_region_held_drew (S := fun _ : World => True) (by kernel_rfl) trivial (fun hH => ?_)
    refine tKx (i := 0) (v := .pointer (some ⟨w.heap.size, 0, none⟩)) rfl rfl (by kernel_rfl) (fun _ _ _ h => h) ?_ hH ?_
    · intro w5 hSw; go_simp
    simp only [zA9, zB9, zC9]
    refine tKx (i := 3) (v := .pointer (some ⟨w.heap.size, 1, none⟩)) rfl rfl (by kernel_rfl) (fun _ _ _ h => h) ?_ hH ?_
    · intro w5 hSw; go_simp
    simp only [zA9, zB9, zC9]
    replace D1 : Hid (w0.drew.heap[w.heap.size + 1]? = some (.cells #[.slice none 0 0, .slice none 0 0, .bool false, .bool false] 33 (0, 0))) := D1.out
    generalize hW0 : w0.drew = W0 at KB RC D1 hH ⊢
    refine wpAnyH_ready (rs := [1, 4]) (by kernel_rfl) (by simp) ?_
    refine AllReadyH.cons rfl (fun K hK => ?_) (AllReadyH.cons rfl (fun K hK => ?_) AllReadyH.nil)
    · have q0 : W0.cell? ⟨w.heap.size, 0, none⟩ = some (.slice P1 n1 C1) := (cell_of_block RC.out 0).trans rfl
      go_simp
      refine hK.out _ _ trivial (fun hH => ?_)
      clear hK K q0
      refine wpAnyH_ready (rs := [2, 4]) (by kernel_rfl) (by simp) ?_
      refine AllReadyH.cons rfl (fun K hK => ?_) (AllReadyH.cons rfl (fun K hK => ?_) AllReadyH.nil)
      · go_simp
        go_at_call 15
        refine (CL1.out W0 KB.out).mono ?_
        rintro e W1 ⟨q1, d1, rfl, h0, hb⟩
        go_wp2_with fail
        refine hK.out _ _ trivial (fun hH => ?_)
        clear hK K
        replace RC := mkHid ((hb.block _ (lt_of_heap RC.out)).trans RC.out)
        replace D1 := mkHid ((hb.block _ (lt_of_heap D1.out)).trans D1.out)
        have F1 := mkHid h0
        clear h0
        replace KB := mkHid (KB.out.trans (hb.mono KB.out.size))
        clear hb
        refine wpAnyH_ready (rs := [4]) (by kernel_rfl) (by simp) ?_
        refine AllReadyH.cons rfl (fun K hK => ?_) AllReadyH.nil
        · have q0 : W1.cell? ⟨w.heap.size, 1, none⟩ = some (.slice P2 n2 C2) := (cell_of_block RC.out 1).trans rfl
          go_simp
          refine hK.out _ _ trivial (fun hH => ?_)
          clear hK K q0
          refine tKx (i := 6) (v := .pointer (some ⟨w.heap.size, 0, none⟩)) rfl rfl (by kernel_rfl) (fun _ _ _ h => h) ?_ hH ?_
          · intro w5 hSw; go_simp
          simp only [zA9, zB9, zC9]
          refine wpAnyH_ready (rs := [5]) (by kernel_rfl) (by simp) ?_
          refine AllReadyH.cons rfl (fun K hK => ?_) AllReadyH.nil
          · go_simp
            go_at_call 15
            refine (CL2.out W1 KB.out).mono ?_
            rintro e W2 ⟨q2, d2, rfl, h0, hb⟩
            go_wp2_with fail
            refine hK.out _ _ trivial (fun hH => ?_)
            clear hK K
            replace F1 := mkHid (F1.out.below hb)
            replace RC := mkHid ((hb.block _ (lt_of_heap RC.out)).trans RC.out)
            replace D1 := mkHid ((hb.block _ (lt_of_heap D1.out)).trans D1.out)
            have F2 := mkHid h0
            clear h0
            replace KB := mkHid (KB.out.trans (hb.mono KB.out.size))
            clear hb
            refine wpAnyH_ready (rs := [7]) (by kernel_rfl) (by simp) ?_
            refine AllReadyH.cons rfl (fun K hK => ?_) AllReadyH.nil
            · have KW : Hid (Below w.heap.size w W2) := mkHid (BB.out.trans (KB.out.mono BB.out.size))
              clear KB
              have q0 : W2.cell? ⟨w.heap.size, 0, none⟩ = some (.slice P1 n1 C1) := (cell_of_block RC.out 0).trans rfl
              have y0 := unfrozen_of_block RC.out 0
              go_simp
              refine hK.out _ _ trivial (fun hH => ?_)
              clear hK K q0 y0
              replace F1 := mkHid (F1.out.far (o := 0) (v := .slice (some q1) n1 d1) MW.out)
              replace F2 := mkHid (F2.out.far (o := 0) (v := .slice (some q1) n1 d1) MW.out)
              replace RC : Hid ((W2.setCell ⟨w.heap.size, 0, none⟩ (.slice (some q1) n1 d1)).heap[w.heap.size]? = some (.cells #[.slice (some q1) n1 d1, .slice P2 n2 C2, .bool li, .bool hi] 33 (0, 0))) := mkHid (heap_set_in RC.out)
              replace D1 := mkHid ((heap_setCell_other W2 ⟨w.heap.size, 0, none⟩ (w.heap.size + 1) (.slice (some q1) n1 d1) (by show w.heap.size + 1 ≠ w.heap.size; omega)).trans D1.out)
              replace KW := mkHid (below_set KW.out ⟨w.heap.size, 0, none⟩ (.slice (some q1) n1 d1) (Nat.le_refl _))
              generalize W2.setCell ⟨w.heap.size, 0, none⟩ (.slice (some q1) n1 d1) = W3 at KW RC D1 F1 F2 hH ⊢
              refine tKx (i := 8) (v := .pointer (some ⟨w.heap.size, 1, none⟩)) rfl rfl (by kernel_rfl) (fun _ _ _ h => h) ?_ hH ?_
              · intro w5 hSw; go_simp
              simp only [zA9, zB9, zC9]
              refine wpAnyH_ready (rs := [9]) (by kernel_rfl) (by simp) ?_
              refine AllReadyH.cons rfl (fun K hK => ?_) AllReadyH.nil
              · have q0 : W3.cell? ⟨w.heap.size, 1, none⟩ = some (.slice P2 n2 C2) := (cell_of_block RC.out 1).trans rfl
                have y0 := unfrozen_of_block RC.out 1
                go_simp
                refine hK.out _ _ trivial (fun hH => ?_)
                clear hK K q0 y0
                replace F1 := mkHid (F1.out.far (o := 1) (v := .slice (some q2) n2 d2) MW.out)
                replace F2 := mkHid (F2.out.far (o := 1) (v := .slice (some q2) n2 d2) MW.out)
                replace RC : Hid ((W3.setCell ⟨w.heap.size, 1, none⟩ (.slice (some q2) n2 d2)).heap[w.heap.size]? = some (.cells #[.slice (some q1) n1 d1, .slice (some q2) n2 d2, .bool li, .bool hi] 33 (0, 0))) := mkHid (heap_set_in RC.out)
                replace D1 := mkHid ((heap_setCell_other W3 ⟨w.heap.size, 1, none⟩ (w.heap.size + 1) (.slice (some q2) n2 d2) (by show w.heap.size + 1 ≠ w.heap.size; omega)).trans D1.out)
                replace KW := mkHid (below_set KW.out ⟨w.heap.size, 1, none⟩ (.slice (some q2) n2 d2) (Nat.le_refl _))
                generalize W3.setCell ⟨w.heap.size, 1, none⟩ (.slice (some q2) n2 d2) = W4 at KW RC D1 F1 F2 hH ⊢
                refine wpAnyH_done (by kernel_rfl) ?_ _
                refine NoPanic.normal ?_
                exact ⟨rfl, q1, d1, q2, d2, rfl, RC.out, F1.out, F2.out, KW.out, D1.out⟩
      · have q0 : W0.cell? ⟨w.heap.size, 1, none⟩ = some (.slice P2 n2 C2) := (cell_of_block RC.out 1).trans rfl
        go_simp
        refine hK.out _ _ trivial (fun hH => ?_)
        clear hK K q0
        refine wpAnyH_ready (rs := [2]) (by kernel_rfl) (by simp) ?_
        refine AllReadyH.cons rfl (fun K hK => ?_) AllReadyH.nil
        · go_simp
          go_at_call 15
          refine (CL1.out W0 KB.out).mono ?_
          rintro e W1 ⟨q1, d1, rfl, h0, hb⟩
          go_wp2_with fail
          refine hK.out _ _ trivial (fun hH => ?_)
          clear hK K
          replace RC := mkHid ((hb.block _ (lt_of_heap RC.out)).trans RC.out)
          replace D1 := mkHid ((hb.block _ (lt_of_heap D1.out)).trans D1.out)
          have F1 := mkHid h0
          clear h0
          replace KB := mkHid (KB.out.trans (hb.mono KB.out.size))
          clear hb
          refine tKx (i := 6) (v := .pointer (some ⟨w.heap.size, 0, none⟩)) rfl rfl (by kernel_rfl) (fun _ _ _ h => h) ?_ hH ?_
          · intro w5 hSw; go_simp
          simp only [zA9, zB9, zC9]
          refine wpAnyH_ready (rs := [5]) (by kernel_rfl) (by simp) ?_
          refine AllReadyH.cons rfl (fun K hK => ?_) AllReadyH.nil
          · go_simp
            go_at_call 15
            refine (CL2.out W1 KB.out).mono ?_
            rintro e W2 ⟨q2, d2, rfl, h0, hb⟩
            go_wp2_with fail
            refine hK.out _ _ trivial (fun hH => ?_)
            clear hK K
            replace F1 := mkHid (F1.out.below hb)
            replace RC := mkHid ((hb.block _ (lt_of_heap RC.out)).trans RC.out)
            replace D1 := mkHid ((hb.block _ (lt_of_heap D1.out)).trans D1.out)
            have F2 := mkHid h0
            clear h0
            replace KB := mkHid (KB.out.trans (hb.mono KB.out.size))
            clear hb
            refine wpAnyH_ready (rs := [7]) (by kernel_rfl) (by simp) ?_
            refine AllReadyH.cons rfl (fun K hK => ?_) AllReadyH.nil
            · have KW : Hid (Below w.heap.size w W2) := mkHid (BB.out.trans (KB.out.mono BB.out.size))
              clear KB
              have q0 : W2.cell? ⟨w.heap.size, 0, none⟩ = some (.slice P1 n1 C1) := (cell_of_block RC.out 0).trans rfl
              have y0 := unfrozen_of_block RC.out 0
              go_simp
              refine hK.out _ _ trivial (fun hH => ?_)
              clear hK K q0 y0
              replace F1 := mkHid (F1.out.far (o := 0) (v := .slice (some q1) n1 d1) MW.out)
              replace F2 := mkHid (F2.out.far (o := 0) (v := .slice (some q1) n1 d1) MW.out)
              replace RC : Hid ((W2.setCell ⟨w.heap.size, 0, none⟩ (.slice (some q1) n1 d1)).heap[w.heap.size]? = some (.cells #[.slice (some q1) n1 d1, .slice P2 n2 C2, .bool li, .bool hi] 33 (0, 0))) := mkHid (heap_set_in RC.out)
              replace D1 := mkHid ((heap_setCell_other W2 ⟨w.heap.size, 0, none⟩ (w.heap.size + 1) (.slice (some q1) n1 d1) (by show w.heap.size + 1 ≠ w.heap.size; omega)).trans D1.out)
              replace KW := mkHid (below_set KW.out ⟨w.heap.size, 0, none⟩ (.slice (some q1) n1 d1) (Nat.le_refl _))
              generalize W2.setCell ⟨w.heap.size, 0, none⟩ (.slice (some q1) n1 d1) = W3 at KW RC D1 F1 F2 hH ⊢
              refine tKx (i := 8) (v := .pointer (some ⟨w.heap.size, 1, none⟩)) rfl rfl (by kernel_rfl) (fun _ _ _ h => h) ?_ hH ?_
              · intro w5 hSw; go_simp
              simp only [zA9, zB9, zC9]
              refine wpAnyH_ready (rs := [9]) (by kernel_rfl) (by simp) ?_
              refine AllReadyH.cons rfl (fun K hK => ?_) AllReadyH.nil
              · have q0 : W3.cell? ⟨w.heap.size, 1, none⟩ = some (.slice P2 n2 C2) := (cell_of_block RC.out 1).trans rfl
                have y0 := unfrozen_of_block RC.out 1
                go_simp
                refine hK.out _ _ trivial (fun hH => ?_)
                clear hK K q0 y0
                replace F1 := mkHid (F1.out.far (o := 1) (v := .slice (some q2) n2 d2) MW.out)
                replace F2 := mkHid (F2.out.far (o := 1) (v := .slice (some q2) n2 d2) MW.out)
                replace RC : Hid ((W3.setCell ⟨w.heap.size, 1, none⟩ (.slice (some q2) n2 d2)).heap[w.heap.size]? = some (.cells #[.slice (some q1) n1 d1, .slice (some q2) n2 d2, .bool li, .bool hi] 33 (0, 0))) := mkHid (heap_set_in RC.out)
                replace D1 := mkHid ((heap_setCell_other W3 ⟨w.heap.size, 1, none⟩ (w.heap.size + 1) (.slice (some q2) n2 d2) (by show w.heap.size + 1 ≠ w.heap.size; omega)).trans D1.out)
                replace KW := mkHid (below_set KW.out ⟨w.heap.size, 1, none⟩ (.slice (some q2) n2 d2) (Nat.le_refl _))
                generalize W3.setCell ⟨w.heap.size, 1, none⟩ (.slice (some q2) n2 d2) = W4 at KW RC D1 F1 F2 hH ⊢
                refine wpAnyH_done (by kernel_rfl) ?_ _
                refine NoPanic.normal ?_
                exact ⟨rfl, q1, d1, q2, d2, rfl, RC.out, F1.out, F2.out, KW.out, D1.out⟩
    · have q0 : W0.cell? ⟨w.heap.size, 1, none⟩ = some (.slice P2 n2 C2) := (cell_of_block RC.out 1).trans rfl
      go_simp
      refine hK.out _ _ trivial (fun hH => ?_)
      clear hK K q0
      refine wpAnyH_ready (rs := [1]) (by kernel_rfl) (by simp) ?_
      refine AllReadyH.cons rfl (fun K hK => ?_) AllReadyH.nil
      · have q0 : W0.cell? ⟨w.heap.size, 0, none⟩ = some (.slice P1 n1 C1) := (cell_of_block RC.out 0).trans rfl
        go_simp
        refine hK.out _ _ trivial (fun hH => ?_)
        clear hK K q0
        refine wpAnyH_ready (rs := [2]) (by kernel_rfl) (by simp) ?_
        refine AllReadyH.cons rfl (fun K hK => ?_) AllReadyH.nil
        · go_simp
          go_at_call 15
          refine (CL1.out W0 KB.out).mono ?_
          rintro e W1 ⟨q1, d1, rfl, h0, hb⟩
          go_wp2_with fail
          refine hK.out _ _ trivial (fun hH => ?_)
          clear hK K
          replace RC := mkHid ((hb.block _ (lt_of_heap RC.out)).trans RC.out)
          replace D1 := mkHid ((hb.block _ (lt_of_heap D1.out)).trans D1.out)
          have F1 := mkHid h0
          clear h0
          replace KB := mkHid (KB.out.trans (hb.mono KB.out.size))
          clear hb
          refine tKx (i := 6) (v := .pointer (some ⟨w.heap.size, 0, none⟩)) rfl rfl (by kernel_rfl) (fun _ _ _ h => h) ?_ hH ?_
          · intro w5 hSw; go_simp
          simp only [zA9, zB9, zC9]
          refine wpAnyH_ready (rs := [5]) (by kernel_rfl) (by simp) ?_
          refine AllReadyH.cons rfl (fun K hK => ?_) AllReadyH.nil
          · go_simp
            go_at_call 15
            refine (CL2.out W1 KB.out).mono ?_
            rintro e W2 ⟨q2, d2, rfl, h0, hb⟩
            go_wp2_with fail
            refine hK.out _ _ trivial (fun hH => ?_)
            clear hK K
            replace F1 := mkHid (F1.out.below hb)
            replace RC := mkHid ((hb.block _ (lt_of_heap RC.out)).trans RC.out)
            replace D1 := mkHid ((hb.block _ (lt_of_heap D1.out)).trans D1.out)
            have F2 := mkHid h0
            clear h0
            replace KB := mkHid (KB.out.trans (hb.mono KB.out.size))
            clear hb
            refine wpAnyH_ready (rs := [7]) (by kernel_rfl) (by simp) ?_
            refine AllReadyH.cons rfl (fun K hK => ?_) AllReadyH.nil
            · have KW : Hid (Below w.heap.size w W2) := mkHid (BB.out.trans (KB.out.mono BB.out.size))
              clear KB
              have q0 : W2.cell? ⟨w.heap.size, 0, none⟩ = some (.slice P1 n1 C1) := (cell_of_block RC.out 0).trans rfl
              have y0 := unfrozen_of_block RC.out 0
              go_simp
              refine hK.out _ _ trivial (fun hH => ?_)
              clear hK K q0 y0
              replace F1 := mkHid (F1.out.far (o := 0) (v := .slice (some q1) n1 d1) MW.out)
              replace F2 := mkHid (F2.out.far (o := 0) (v := .slice (some q1) n1 d1) MW.out)
              replace RC : Hid ((W2.setCell ⟨w.heap.size, 0, none⟩ (.slice (some q1) n1 d1)).heap[w.heap.size]? = some (.cells #[.slice (some q1) n1 d1, .slice P2 n2 C2, .bool li, .bool hi] 33 (0, 0))) := mkHid (heap_set_in RC.out)
              replace D1 := mkHid ((heap_setCell_other W2 ⟨w.heap.size, 0, none⟩ (w.heap.size + 1) (.slice (some q1) n1 d1) (by show w.heap.size + 1 ≠ w.heap.size; omega)).trans D1.out)
              replace KW := mkHid (below_set KW.out ⟨w.heap.size, 0, none⟩ (.slice (some q1) n1 d1) (Nat.le_refl _))
              generalize W2.setCell ⟨w.heap.size, 0, none⟩ (.slice (some q1) n1 d1) = W3 at KW RC D1 F1 F2 hH ⊢
              refine tKx (i := 8) (v := .pointer (some ⟨w.heap.size, 1, none⟩)) rfl rfl (by kernel_rfl) (fun _ _ _ h => h) ?_ hH ?_
              · intro w5 hSw; go_simp
              simp only [zA9, zB9, zC9]
              refine wpAnyH_ready (rs := [9]) (by kernel_rfl) (by simp) ?_
              refine AllReadyH.cons rfl (fun K hK => ?_) AllReadyH.nil
              · have q0 : W3.cell? ⟨w.heap.size, 1, none⟩ = some (.slice P2 n2 C2) := (cell_of_block RC.out 1).trans rfl
                have y0 := unfrozen_of_block RC.out 1
                go_simp
                refine hK.out _ _ trivial (fun hH => ?_)
                clear hK K q0 y0
                replace F1 := mkHid (F1.out.far (o := 1) (v := .slice (some q2) n2 d2) MW.out)
                replace F2 := mkHid (F2.out.far (o := 1) (v := .slice (some q2) n2 d2) MW.out)
                replace RC : Hid ((W3.setCell ⟨w.heap.size, 1, none⟩ (.slice (some q2) n2 d2)).heap[w.heap.size]? = some (.cells #[.slice (some q1) n1 d1, .slice (some q2) n2 d2, .bool li, .bool hi] 33 (0, 0))) := mkHid (heap_set_in RC.out)
                replace D1 := mkHid ((heap_setCell_other W3 ⟨w.heap.size, 1, none⟩ (w.heap.size + 1) (.slice (some q2) n2 d2) (by show w.heap.size + 1 ≠ w.heap.size; omega)).trans D1.out)
                replace KW := mkHid (below_set KW.out ⟨w.heap.size, 1, none⟩ (.slice (some q2) n2 d2) (Nat.le_refl _))
                generalize W3.setCell ⟨w.heap.size, 1, none⟩ (.slice (some q2) n2 d2) = W4 at KW RC D1 F1 F2 hH ⊢
                refine wpAnyH_done (by kernel_rfl) ?_ _
                refine NoPanic.normal ?_
                exact ⟨rfl, q1, d1, q2, d2, rfl, RC.out, F1.out, F2.out, KW.out, D1.out⟩
  rintro e a' w1 ⟨rfl, q1, d1, q2, d2, rfl, rc, f1, f2, kb, dd⟩
  have u0 : w1.cell? ⟨w.heap.size, 0, none⟩ = some (.slice (some q1) n1 d1) := (cell_of_block rc 0).trans rfl
  have u1 : w1.cell? ⟨w.heap.size, 1, none⟩ = some (.slice (some q2) n2 d2) := (cell_of_block rc 1).trans rfl
  have u2 : w1.cell? ⟨w.heap.size, 2, none⟩ = some (.bool li) := (cell_of_block rc 2).trans rfl
  have u3 : w1.cell? ⟨w.heap.size, 3, none⟩ = some (.bool hi) := (cell_of_block rc 3).trans rfl
  have g0 : w1.cell? ⟨w.heap.size + 1, 0, none⟩ = some (.slice none 0 0) := (cell_of_block dd 0).trans rfl
  have g1 : w1.cell? ⟨w.heap.size + 1, 1, none⟩ = some (.slice none 0 0) := (cell_of_block dd 1).trans rfl
  have g2 : w1.cell? ⟨w.heap.size + 1, 2, none⟩ = some (.bool false) := (cell_of_block dd 2).trans rfl
  have g3 : w1.cell? ⟨w.heap.size + 1, 3, none⟩ = some (.bool false) := (cell_of_block dd 3).trans rfl
  have y0 := unfrozen_of_block dd 0
  have y1 := unfrozen_of_block dd 1
  have y2 := unfrozen_of_block dd 2
  have y3 := unfrozen_of_block dd 3
  have FN : Hid (∀ a b c d, RowF w ((((w1.setCell ⟨w.heap.size + 1, 0, none⟩ a).setCell ⟨w.heap.size + 1, 1, none⟩ b).setCell ⟨w.heap.size + 1, 2, none⟩ c).setCell ⟨w.heap.size + 1, 3, none⟩ d) (some q1) low ∧ RowF w ((((w1.setCell ⟨w.heap.size + 1, 0, none⟩ a).setCell ⟨w.heap.size + 1, 1, none⟩ b).setCell ⟨w.heap.size + 1, 2, none⟩ c).setCell ⟨w.heap.size + 1, 3, none⟩ d) (some q2) high ∧ Below w.heap.size w ((((w1.setCell ⟨w.heap.size + 1, 0, none⟩ a).setCell ⟨w.heap.size + 1, 1, none⟩ b).setCell ⟨w.heap.size + 1, 2, none⟩ c).setCell ⟨w.heap.size + 1, 3, none⟩ d)) := fun a b c d => by
    have l2 := M2.out
    have ls : w.heap.size ≤ w.heap.size + 1 := by omega
    exact ⟨((((f1.far l2).far l2).far l2).far l2).down BB.out.size, ((((f2.far l2).far l2).far l2).far l2).down BB.out.size, below_set (below_set (below_set (below_set kb _ _ ls) _ _ ls) _ _ ls) _ _ ls⟩
  clear rc f1 f2 kb dd CL1 CL2 BB D0 D1 MW M2
  go_wp2_with fail
  refine bodyPost_ret (v := .agg #[.slice (some q1) n1 d1, .slice (some q2) n2 d2, .bool li, .bool hi]) (by simp [results, Tryz.results31, go_sem, g0, g1, g2, g3]) rfl ?_
  exact ⟨_, _, _, _, rfl, FN.out _ _ _ _⟩
end Go.Proofs.YtclcajnodoifjaaGreatDoor

