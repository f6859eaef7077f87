/-
 The ends of a span between bounds; the makers Range and Back.
-/
import Derived.Test.YtclcajnodoifjaaGreatDoorBxGSx
import Derived.Test.YtclcajnodoifjaaGreatDoorBxDSx
namespace Go.Proofs.YtclcajnodoifjaaGreatDoor
open Go.RowKit Go.Shelf Go.Joins Go.Maps
set_option maxRecDepth 100000

theorem btw_end1 {T : Nat → Prop} {w : World} {b3 b5 : Nat} {q : Option Addr} {f : List Va} {cq : Nat} {inn : Bool} (h3 : w.heap[b3]? = some (.cells #[.slice q f.length cq] 30 (0, 0))) (t3 : T b3) (h5 : w.heap[b5]? = some (.cells #[.bool inn] 4 (0, 0))) (t5 : T b5) (hq : ∀ W, Keeps T w W → rowAt W q f) (hf : f.length ≤ 1000000000) (ff : ∀ v ∈ f, fit v.n) :
  EndOk T w 65 #[.pointer (some ⟨b3, 0, none⟩), .pointer (some ⟨b5, 0, none⟩)] (loB f inn) := by
 refine ⟨enters_of Tryz.func65 (by kernel_rfl) rfl, fun W x hW hx => ?_⟩
 have g3 := hW.2 b3 _ _ _ t3 h3
 have g5 := hW.2 b5 _ _ _ t5 h5
 exact between1_any x.g q x.c cq b3 b5 x.e f inn W hx.vals (by have := hx.few; omega) hx.cap (hq W hW) hf hx.fits ff (lt_of_heap g3) ((cell_of_block g3 0).trans rfl) (lt_of_heap g5) ((cell_of_block g5 0).trans rfl)
theorem btw_end2 {T : Nat → Prop} {w : World} {b4 b6 : Nat} {q : Option Addr} {f : List Va} {cq : Nat} {inn : Bool} (h4 : w.heap[b4]? = some (.cells #[.slice q f.length cq] 30 (0, 0))) (t4 : T b4) (h6 : w.heap[b6]? = some (.cells #[.bool inn] 4 (0, 0))) (t6 : T b6) (hq : ∀ W, Keeps T w W → rowAt W q f) (hf : f.length ≤ 1000000000) (ff : ∀ v ∈ f, fit v.n) :
  EndOk T w 67 #[.pointer (some ⟨b4, 0, none⟩), .pointer (some ⟨b6, 0, none⟩)] (hiB f inn) := by
 refine ⟨enters_of Tryz.func67 (by kernel_rfl) rfl, fun W x hW hx => ?_⟩
 have g4 := hW.2 b4 _ _ _ t4 h4
 have g6 := hW.2 b6 _ _ _ t6 h6
 exact between2_any x.g q x.c cq b4 b6 x.e f inn W hx.vals (by have := hx.few; omega) hx.cap (hq W hW) hf hx.fits ff (lt_of_heap g4) ((cell_of_block g4 0).trans rfl) (lt_of_heap g6) ((cell_of_block g6 0).trans rfl)
/-- a span between bounds, that lies in new memory -/
def SpnAt (w0 w : World) (low high : List Va) (li hi : Bool) (f1 f2 : Value) : Prop := ∃ b3 b4 b5 b6 q1 d1 q2 d2, f1 = .func (.func 65) #[] #[.pointer (some ⟨b3, 0, none⟩), .pointer (some ⟨b5, 0, none⟩)] ∧ f2 = .func (.func 67) #[] #[.pointer (some ⟨b4, 0, none⟩), .pointer (some ⟨b6, 0, none⟩)] ∧ BoxAt w0 w b3 (.cells #[.slice q1 low.length d1] 30 (0, 0)) ∧ BoxAt w0 w b4 (.cells #[.slice q2 high.length d2] 30 (0, 0)) ∧ BoxAt w0 w b5 (.cells #[.bool li] 4 (0, 0)) ∧ BoxAt w0 w b6 (.cells #[.bool hi] 4 (0, 0)) ∧ RowF w0 w q1 low ∧ RowF w0 w q2 high
theorem RowF.kp {T : Nat → Prop} {w0 w : World} {q : Option Addr} {l : List Va} (h : RowF w0 w q l) (hT : ∀ b, w0.heap.size ≤ b → b < w.heap.size → T b) : ∀ W, Keeps T w W → rowAt W q l := fun W hW => by
 rcases h.1 with h1 | ⟨g, h1, h2⟩
 ·exact Or.inl h1
 ·exact Or.inr ⟨g, h1, h2.keeps (hT g (h.2 g h1) h2.1) hW⟩
theorem SpnAt.below {w0 w w' : World} {low high : List Va} {li hi : Bool} {f1 f2 : Value} (h : SpnAt w0 w low high li hi f1 f2) (hb : Below w.heap.size w w') : SpnAt w0 w' low high li hi f1 f2 := by
 obtain ⟨b3, b4, b5, b6, q1, d1, q2, d2, e1, e2, x3, x4, x5, x6, r1, r2⟩ := h
 exact ⟨b3, b4, b5, b6, q1, d1, q2, d2, e1, e2, x3.below hb, x4.below hb, x5.below hb, x6.below hb, r1.below hb, r2.below hb⟩
theorem SpnAt.down {w w0 W : World} {low high : List Va} {li hi : Bool} {f1 f2 : Value} (h : SpnAt w0 W low high li hi f1 f2) (hw : w.heap.size ≤ w0.heap.size) : SpnAt w W low high li hi f1 f2 := by
 obtain ⟨b3, b4, b5, b6, q1, d1, q2, d2, e1, e2, x3, x4, x5, x6, r1, r2⟩ := h
 exact ⟨b3, b4, b5, b6, q1, d1, q2, d2, e1, e2, x3.down hw, x4.down hw, x5.down hw, x6.down hw, r1.down hw, r2.down hw⟩
theorem spanM (low high : List Va) (li hi : Bool) : Span ltM (fun q => loB low li q.e) (fun q => hiB high hi q.e) := ⟨fun {_ _} h1 h2 => (span_between low high li hi).1 h1 h2, fun {_ _} h1 h2 => (span_between low high li hi).2 h1 h2⟩
/-- it is one -/
theorem SpnAt.ok {T : Nat → Prop} {w0 w : World} {low high : List Va} {li hi : Bool} {f1 f2 : Value} (h : SpnAt w0 w low high li hi f1 f2) (hT : ∀ b, w0.heap.size ≤ b → b < w.heap.size → T b) (z1 : low.length ≤ 1000000000) (z2 : high.length ≤ 1000000000) (g1 : ∀ v ∈ low, fit v.n) (g2 : ∀ v ∈ high, fit v.n) : ∃ fl_ fh ll lh, f1 = .func (.func fl_) #[] ll ∧ f2 = .func (.func fh) #[] lh ∧ SpOk T w fl_ fh ll lh (loB low li) (hiB high hi) := by
 obtain ⟨b3, b4, b5, b6, q1, d1, q2, d2, e1, e2, x3, x4, x5, x6, r1, r2⟩ := h
 exact ⟨_, _, _, _, e1, e2, ⟨btw_end1 x3.2 (hT _ x3.1 (lt_of_heap x3.2)) x5.2 (hT _ x5.1 (lt_of_heap x5.2)) (r1.kp hT) z1 g1, btw_end2 x4.2 (hT _ x4.1 (lt_of_heap x4.2)) x6.2 (hT _ x6.1 (lt_of_heap x6.2)) (r2.kp hT) z2 g2, spanM low high li hi⟩⟩
/-- what Range and Back make -/
def RngQ (g : Nat) (w : World) (bt : Nat) (low high : List Va) (li hi : Bool) (e : Ending) (w' : World) : Prop := ∃ B1 B2 f1 f2, e = .returned (.func (.func g) #[] #[.pointer (some ⟨B1, 0, none⟩), .pointer (some ⟨B2, 0, none⟩)]) ∧ BoxAt w w' B1 (.cells #[.pointer (some ⟨bt, 0, none⟩)] 23 (0, 0)) ∧ BoxAt w w' B2 (.cells #[f1, f2] 72 (0, 0)) ∧ SpnAt w w' low high li hi f1 f2 ∧ Below w.heap.size w w'
set_option maxHeartbeats 4000000 in
set_option maxRecDepth 1000000 in
theorem Range_any (bt : Nat) (P1 P2 : Option Addr) (C1 C2 : Nat) (low high : List Va) (li hi : Bool) (w : World) (h1 : rowAt w P1 low) (h2 : rowAt w P2 high) (hP1 : P1 = none → C1 = 0) (hP2 : P2 = none → C2 = 0) (z1 : low.length ≤ 1000000000) (z2 : high.length ≤ 1000000000) :
  Calls Tryz.prog 17 #[.pointer (some ⟨bt, 0, none⟩), .agg #[.slice P1 low.length C1, .slice P2 high.length C2, .bool li, .bool hi]] w fun e w' => RngQ 40 w bt low high li hi e w' := by
 obtain ⟨w0, hw0⟩ : ∃ w0, w0 = (w.alloc (.cells #[.pointer (some ⟨bt, 0, none⟩)] 23)).alloc (.cells #[.slice P1 low.length C1, .slice P2 high.length C2, .bool li, .bool hi] 33) := ⟨_, rfl⟩
 obtain ⟨d0, d1, bb, bs⟩ := bx2 w (.cells #[.pointer (some ⟨bt, 0, none⟩)] 23) (.cells #[.slice P1 low.length C1, .slice P2 high.length C2, .bool li, .bool hi] 33)
 rw [← hw0] at d0 d1 bb bs
 have BT : Hid (Calls Tryz.prog 39 #[.agg #[.slice P1 low.length C1, .slice P2 high.length C2, .bool li, .bool hi]] w0 fun e w' => BtwQ w0 low high li hi e w') := between_any P1 P2 C1 C2 low high li hi w0 (h1.below bb) (h2.below bb) hP1 hP2 z1 z2
 have D0 := mkHid d0
 have BB := mkHid bb
 clear h1 h2 hP1 hP2 z1 z2 d0 d1 bb bs
 have sf : ∀ (a : Addr) (f : Fn) (x y : Array Value) (w : World) (m : Mode), (store a (.func f x y) m).run Tryz.prog w = stored Tryz.prog w a (.func f x y) m := fun a f x y w m => run_store _ _ _ _ _ rfl
 generalize hn1 : low.length = n1 at *
 generalize hn2 : high.length = n2 at *
 go_enter Tryz.func17, Tryz.ntmps17
 go_wp2_with fail
 rw [← hw0]
 clear hw0
 refine BT.out.mono ?_
 rintro e w1 ⟨b3, b4, b5, b6, q1, d1, q2, d2, rfl, x3, x4, x5, x6, r1, r2, b1⟩
 have FN : Hid (∀ B1 w2 o, o = (.cells #[.func (.func 65) #[] #[.pointer (some ⟨b3, 0, none⟩), .pointer (some ⟨b5, 0, none⟩)], .func (.func 67) #[] #[.pointer (some ⟨b4, 0, none⟩), .pointer (some ⟨b6, 0, none⟩)]] 72) → B1 = w.heap.size → w2 = w1.alloc o → RngQ 40 w bt low high li hi (.returned (.func (.func 40) #[] #[.pointer (some ⟨B1, 0, none⟩), .pointer (some ⟨w1.heap.size, 0, none⟩)])) w2) := fun B1 w2 o ho hB hw => by
  subst hB hw ho
  have ba := (Below.refl w1.heap.size w1).alloc (Nat.le_refl _) (.cells #[.func (.func 65) #[] #[.pointer (some ⟨b3, 0, none⟩), .pointer (some ⟨b5, 0, none⟩)], .func (.func 67) #[] #[.pointer (some ⟨b4, 0, none⟩), .pointer (some ⟨b6, 0, none⟩)]] 72)
  have sp : SpnAt w0 w1 low high li hi (.func (.func 65) #[] #[.pointer (some ⟨b3, 0, none⟩), .pointer (some ⟨b5, 0, none⟩)]) (.func (.func 67) #[] #[.pointer (some ⟨b4, 0, none⟩), .pointer (some ⟨b6, 0, none⟩)]) := ⟨b3, b4, b5, b6, q1, d1, q2, d2, rfl, rfl, x3, x4, x5, x6, r1, r2⟩
  exact ⟨_, _, _, _, rfl, ⟨Nat.le_refl _, (ba.block _ (Nat.lt_of_lt_of_le (lt_of_heap D0.out) b1.size)).trans ((b1.block _ (lt_of_heap D0.out)).trans D0.out)⟩, ⟨Nat.le_trans BB.out.size b1.size, heap_alloc_new _ _⟩, (sp.below ba).down BB.out.size, (BB.out.trans (b1.mono BB.out.size)).trans (ba.mono (Nat.le_trans BB.out.size b1.size))⟩
 clear x3 x4 x5 x6 r1 r2 b1 BT D0 BB hn1 hn2
 go_wp2_with fail
 go_ret
 exact FN.out _ _ _ rfl rfl rfl
set_option maxHeartbeats 4000000 in
set_option maxRecDepth 1000000 in
theorem Back_any (bt : Nat) (P1 P2 : Option Addr) (C1 C2 : Nat) (low high : List Va) (li hi : Bool) (w : World) (h1 : rowAt w P1 low) (h2 : rowAt w P2 high) (hP1 : P1 = none → C1 = 0) (hP2 : P2 = none → C2 = 0) (z1 : low.length ≤ 1000000000) (z2 : high.length ≤ 1000000000) :
  Calls Tryz.prog 37 #[.pointer (some ⟨bt, 0, none⟩), .agg #[.slice P1 low.length C1, .slice P2 high.length C2, .bool li, .bool hi]] w fun e w' => RngQ 61 w bt low high li hi e w' := by
 obtain ⟨w0, hw0⟩ : ∃ w0, w0 = (w.alloc (.cells #[.pointer (some ⟨bt, 0, none⟩)] 23)).alloc (.cells #[.slice P1 low.length C1, .slice P2 high.length C2, .bool li, .bool hi] 33) := ⟨_, rfl⟩
 obtain ⟨d0, d1, bb, bs⟩ := bx2 w (.cells #[.pointer (some ⟨bt, 0, none⟩)] 23) (.cells #[.slice P1 low.length C1, .slice P2 high.length C2, .bool li, .bool hi] 33)
 rw [← hw0] at d0 d1 bb bs
 have BT : Hid (Calls Tryz.prog 39 #[.agg #[.slice P1 low.length C1, .slice P2 high.length C2, .bool li, .bool hi]] w0 fun e w' => BtwQ w0 low high li hi e w') := between_any P1 P2 C1 C2 low high li hi w0 (h1.below bb) (h2.below bb) hP1 hP2 z1 z2
 have D0 := mkHid d0
 have BB := mkHid bb
 clear h1 h2 hP1 hP2 z1 z2 d0 d1 bb bs
 have sf : ∀ (a : Addr) (f : Fn) (x y : Array Value) (w : World) (m : Mode), (store a (.func f x y) m).run Tryz.prog w = stored Tryz.prog w a (.func f x y) m := fun a f x y w m => run_store _ _ _ _ _ rfl
 generalize hn1 : low.length = n1 at *
 generalize hn2 : high.length = n2 at *
 go_enter Tryz.func37, Tryz.ntmps37
 go_wp2_with fail
 rw [← hw0]
 clear hw0
 refine BT.out.mono ?_
 rintro e w1 ⟨b3, b4, b5, b6, q1, d1, q2, d2, rfl, x3, x4, x5, x6, r1, r2, b1⟩
 have FN : Hid (∀ B1 w2 o, o = (.cells #[.func (.func 65) #[] #[.pointer (some ⟨b3, 0, none⟩), .pointer (some ⟨b5, 0, none⟩)], .func (.func 67) #[] #[.pointer (some ⟨b4, 0, none⟩), .pointer (some ⟨b6, 0, none⟩)]] 72) → B1 = w.heap.size → w2 = w1.alloc o → RngQ 61 w bt low high li hi (.returned (.func (.func 61) #[] #[.pointer (some ⟨B1, 0, none⟩), .pointer (some ⟨w1.heap.size, 0, none⟩)])) w2) := fun B1 w2 o ho hB hw => by
  subst hB hw ho
  have ba := (Below.refl w1.heap.size w1).alloc (Nat.le_refl _) (.cells #[.func (.func 65) #[] #[.pointer (some ⟨b3, 0, none⟩), .pointer (some ⟨b5, 0, none⟩)], .func (.func 67) #[] #[.pointer (some ⟨b4, 0, none⟩), .pointer (some ⟨b6, 0, none⟩)]] 72)
  have sp : SpnAt w0 w1 low high li hi (.func (.func 65) #[] #[.pointer (some ⟨b3, 0, none⟩), .pointer (some ⟨b5, 0, none⟩)]) (.func (.func 67) #[] #[.pointer (some ⟨b4, 0, none⟩), .pointer (some ⟨b6, 0, none⟩)]) := ⟨b3, b4, b5, b6, q1, d1, q2, d2, rfl, rfl, x3, x4, x5, x6, r1, r2⟩
  exact ⟨_, _, _, _, rfl, ⟨Nat.le_refl _, (ba.block _ (Nat.lt_of_lt_of_le (lt_of_heap D0.out) b1.size)).trans ((b1.block _ (lt_of_heap D0.out)).trans D0.out)⟩, ⟨Nat.le_trans BB.out.size b1.size, heap_alloc_new _ _⟩, (sp.below ba).down BB.out.size, (BB.out.trans (b1.mono BB.out.size)).trans (ba.mono (Nat.le_trans BB.out.size b1.size))⟩
 clear x3 x4 x5 x6 r1 r2 b1 BT D0 BB hn1 hn2
 go_wp2_with fail
 go_ret
 exact FN.out _ _ _ rfl rfl rfl
end Go.Proofs.YtclcajnodoifjaaGreatDoor

namespace Go.Proofs.YtclcajnodoifjaaGreatDoor
open Go.RowKit Go.Shelf Go.Joins Go.Maps
attribute [local go_sem] Oper.semAt_some
set_option maxRecDepth 100000

theorem RtIn.mono {T U : Nat → Prop} {w : World} {d l : Nat} {n : Nd Em} {v1 v2 : Value} (h : RtIn T w d l n v1 v2) (hu : ∀ b, b < w.heap.size → T b → U b) : RtIn U w d l n v1 v2 := ⟨h.nd.mono hu, h.wf, h.ne, h.up⟩
/-- the entries between bounds -/
def btw (low high : List Va) (li hi : Bool) (L : List Em) : List Em := within (fun q : Em => loB low li q.e) (fun q : Em => hiB high hi q.e) L
set_option maxHeartbeats 8000000 in
set_option maxRecDepth 1000000 in
theorem Count_any (T : Nat → Prop) (d l bt : Nat) (n : Nd Em) (p1 : Option Addr) (n1 c1 : Nat) (p2 : Option Addr) (n2 c2 : Nat) (P1 P2 : Option Addr) (C1 C2 : Nat) (low high : List Va) (li hi : Bool) (w : World) (hn : RtIn T w d l n (.slice p1 n1 c1) (.slice p2 n2 c2)) (k1 : w.cell? ⟨bt, 1, none⟩ = some (.slice p1 n1 c1)) (k2 : w.cell? ⟨bt, 2, none⟩ = some (.slice p2 n2 c2))
  (h1 : rowAt w P1 low) (h2 : rowAt w P2 high) (hP1 : P1 = none → C1 = 0) (hP2 : P2 = none → C2 = 0) (z1 : low.length ≤ 1000000000) (z2 : high.length ≤ 1000000000) (y1 : ∀ v ∈ low, fit v.n) (y2 : ∀ v ∈ high, fit v.n) (zT : (btw low high li hi n.fl).length ≤ 4611686018427387904) :
  Calls Tryz.prog 14 #[.pointer (some ⟨bt, 0, none⟩), .agg #[.slice P1 low.length C1, .slice P2 high.length C2, .bool li, .bool hi]] w fun e w' => e = .returned (.int .i64 ((btw low high li hi n.fl).length : Int)) ∧ Below w.heap.size w w' := by
 refine callsIn_wide (n := 3) |>.1 ?_
 obtain ⟨L1, hL1⟩ : ∃ L1, L1 = low.length := ⟨_, rfl⟩
 obtain ⟨L2, hL2⟩ : ∃ L2, L2 = high.length := ⟨_, rfl⟩
 rw [← hL1, ← hL2]
 obtain ⟨w0, hw0⟩ : ∃ w0, w0 = (w.alloc (.cells #[.slice P1 L1 C1, .slice P2 L2 C2, .bool li, .bool hi] 33)).alloc (.cells #[.int .i64 0] 3) := ⟨_, rfl⟩
 obtain ⟨d0, d1, bb, bs⟩ := bx2 w (.cells #[.slice P1 L1 C1, .slice P2 L2 C2, .bool li, .bool hi] 33) (.cells #[.int .i64 0] 3)
 rw [← hw0] at d0 d1 bb bs
 have BT : Hid (Calls Tryz.prog 39 #[.agg #[.slice P1 L1 C1, .slice P2 L2 C2, .bool li, .bool hi]] w0.drew fun e w' => BtwQ w0.drew low high li hi e w') := by
  rw [hL1, hL2]
  exact between_any P1 P2 C1 C2 low high li hi w0.drew ((h1.below bb).below (Below.refl _ w0).drew) ((h2.below bb).below (Below.refl _ w0).drew) hP1 hP2 z1 z2
 have e1 : w0.cell? ⟨bt, 1, none⟩ = some (.slice p1 n1 c1) := (Keeps.of_below (T := fun _ => True) bb).cell trivial k1
 have e2 : w0.cell? ⟨bt, 2, none⟩ = some (.slice p2 n2 c2) := (Keeps.of_below (T := fun _ => True) bb).cell trivial k2
 have a0 : w0.cell? ⟨w.heap.size, 0, none⟩ = some (.slice P1 L1 C1) := (cell_of_block d0 0).trans rfl
 have a1 : w0.cell? ⟨w.heap.size, 1, none⟩ = some (.slice P2 L2 C2) := (cell_of_block d0 1).trans rfl
 have a2 : w0.cell? ⟨w.heap.size, 2, none⟩ = some (.bool li) := (cell_of_block d0 2).trans rfl
 have a3 : w0.cell? ⟨w.heap.size, 3, none⟩ = some (.bool hi) := (cell_of_block d0 3).trans rfl
 obtain ⟨Tot, hTot⟩ : ∃ Tot, Tot = btw low high li hi n.fl := ⟨_, rfl⟩
 rw [← hTot] at zT ⊢
 have RS : Hid (∀ w3 b3 b4 b5 b6 B, Below w0.heap.size w0 w3 → SpnAt w0 w3 low high li hi (.func (.func 65) #[] #[.pointer (some ⟨b3, 0, none⟩), .pointer (some ⟨b5, 0, none⟩)]) (.func (.func 67) #[] #[.pointer (some ⟨b4, 0, none⟩), .pointer (some ⟨b6, 0, none⟩)]) → w3.heap[B]? = some (.cells #[.slice p1 n1 c1, .slice p2 n2 c2] 60 (0, 0)) → w3.heap[B + 1]? = some (.cells #[.func (.func 65) #[] #[.pointer (some ⟨b3, 0, none⟩), .pointer (some ⟨b5, 0, none⟩)], .func (.func 67) #[] #[.pointer (some ⟨b4, 0, none⟩), .pointer (some ⟨b6, 0, none⟩)]] 72 (0, 0)) → SeqStopsK Fence.wide (3 - 1) Tryz.prog 63 #[.pointer (some ⟨B, 0, none⟩), .pointer (some ⟨B + 1, 0, none⟩)] (fun x : { q : Em // q ∈ Tot } => #[emV x.1]) (Keeps (fun b => ¬ b = w.heap.size + 1)) (fun xs => xs.map (fun x => x.1) = Tot) (fun pre => ∃ rest, Tot = pre.map (fun x => x.1) ++ rest) Tot.length w3) := fun w3 b3 b4 b5 b6 B hb hs g2 g3 => by
  obtain ⟨fl_, fh, ll, lh, e1, e2, so⟩ := hs.ok (T := fun b => b ≠ w.heap.size + 1) (fun b hb _ => by omega) z1 z2 y1 y2
  cases e1
  cases e2
  have hn3 : RtIn (fun b => b ≠ w.heap.size + 1) w3 d l n (.slice p1 n1 c1) (.slice p2 n2 c2) := ((hn.all).mono (U := fun b => b ≠ w.heap.size + 1) (fun b hb _ => by omega)).keeps ((Keeps.of_below bb).trans (Keeps.of_below hb))
  exact rising1_stops (fun b => b ≠ w.heap.size + 1) (fun b => b = w.heap.size + 1) _ _ _ _ (loB low li) (hiB high hi) _ d l _ _ n p1 n1 c1 p2 n2 c2 Tot w3 hTot hn3.nd hn3.wf hn3.ne hn3.up so.low so.high so.span (fun b h => by have := hb.size; omega) (fun _ h k => k h) g2 g3
 have D1 := mkHid d1
 clear hn k1 k2 h1 h2 hP1 hP2 z1 z2 y1 y2 d0 d1 hL1 hL2 hTot
 refine callsIn_of_wp_marks Tryz.func14 rfl trivial ?_ rfl
 simp only [Tryz.ntmps14, List.size_toArray, List.length_cons, List.length_nil, Nat.reduceAdd, Nat.reduceSub, Array.replicate_succ, Array.replicate_zero, List.push_toArray, List.append_toArray, List.nil_append, List.cons_append]
 gi_wp2_with fail
 rw [← hw0]
 clear hw0
 refine wpIn_mono (Q := fun e a' w' => e = .normal ∧ ∃ b3 b4 b5 b6 B, a' = { tmps := #[.pointer (some ⟨bt, 0, none⟩), .agg #[.slice P1 L1 C1, .slice P2 L2 C2, .bool li, .bool hi], undef, .pointer (some ⟨w.heap.size, 0, none⟩), .int .i64 0, .pointer (some ⟨w.heap.size + 1, 0, none⟩), .pointer (some ⟨bt, 0, none⟩), .pointer (some ⟨bt, 0, none⟩), .pointer (some ⟨bt, 1, none⟩), .agg #[.slice p1 n1 c1, .slice p2 n2 c2], .agg #[.slice P1 L1 C1, .slice P2 L2 C2, .bool li, .bool hi], .agg #[.func (.func 65) #[] #[.pointer (some ⟨b3, 0, none⟩), .pointer (some ⟨b5, 0, none⟩)], .func (.func 67) #[] #[.pointer (some ⟨b4, 0, none⟩), .pointer (some ⟨b6, 0, none⟩)]], .func (.func 63) #[] #[.pointer (some ⟨B, 0, none⟩), .pointer (some ⟨B + 1, 0, none⟩)], undef, undef, undef, undef], defers := [] } ∧ w'.heap[B]? = some (.cells #[.slice p1 n1 c1, .slice p2 n2 c2] 60 (0, 0)) ∧ w'.heap[B + 1]? = some (.cells #[.func (.func 65) #[] #[.pointer (some ⟨b3, 0, none⟩), .pointer (some ⟨b5, 0, none⟩)], .func (.func 67) #[] #[.pointer (some ⟨b4, 0, none⟩), .pointer (some ⟨b6, 0, none⟩)]] 72 (0, 0)) ∧ SpnAt w0 w' low high li hi (.func (.func 65) #[] #[.pointer (some ⟨b3, 0, none⟩), .pointer (some ⟨b5, 0, none⟩)]) (.func (.func 67) #[] #[.pointer (some ⟨b4, 0, none⟩), .pointer (some ⟨b6, 0, none⟩)]) ∧ Below w0.heap.size w0 w' ∧ w0.heap.size ≤ B) ?_ ?_
 ·refine wpIn_region_any (by kernel_rfl) ?_
  refine takeF_at (i := 0) (v := .pointer (some ⟨bt, 0, none⟩)) rfl rfl rfl (by kernel_rfl) (by kernel_rfl) (by kernel_rfl) (fun _ _ _ h => by cases h.1) ⟨Or.inl ⟨by rfl, ?_⟩, fun _ => rfl⟩ ?_
  ·intro w5; go_simp
  simp only [zA9, zB9, zC9]
  refine takeF_at (i := 1) (v := .pointer (some ⟨bt, 0, none⟩)) rfl rfl rfl (by kernel_rfl) (by kernel_rfl) (by kernel_rfl) (fun _ _ _ h => by cases h.1) ⟨Or.inl ⟨by rfl, ?_⟩, fun _ => rfl⟩ ?_
  ·intro w5; go_simp
  simp only [zA9, zB9, zC9]
  refine takeF_at (i := 2) (v := .pointer (some ⟨bt, 1, none⟩)) rfl rfl rfl (by kernel_rfl) (by kernel_rfl) (by kernel_rfl) (fun _ _ _ h => by cases h.1) ⟨Or.inl ⟨by rfl, ?_⟩, fun _ => rfl⟩ ?_
  ·intro w5; go_simp
  simp only [zA9, zB9, zC9]
  refine wpAnyIn_ready (rs := [3, 4]) (by kernel_rfl) (by simp) ?_
  refine AllReadyIn.cons rfl (fun K hK => ?_) (AllReadyIn.cons rfl (fun K hK => ?_) AllReadyIn.nil)
  ·have HK := mkHid hK
   clear hK
   go_simp
   refine HK.out _ _ ?_
   clear HK K
   refine wpAnyIn_ready (rs := [4]) (by kernel_rfl) (by simp) ?_
   refine AllReadyIn.cons rfl (fun K hK => ?_) AllReadyIn.nil
   ·have HK := mkHid hK
    clear hK
    go_simp
    refine HK.out _ _ ?_
    clear HK K
    refine wpAnyIn_ready (rs := [5]) (by kernel_rfl) (by simp) ?_
    refine AllReadyIn.cons rfl (fun K hK => ?_) AllReadyIn.nil
    ·have HK := mkHid hK
     clear hK
     go_simp
     refine ⟨trivial, (callsIn_wide.2 BT.out).mono ?_⟩
     rintro en w1 ⟨b3, b4, b5, b6, q1, d1, q2, d2, rfl, x3, x4, x5, x6, r1, r2, bb1⟩
     have SPN : Hid (SpnAt w0 w1 low high li hi (.func (.func 65) #[] #[.pointer (some ⟨b3, 0, none⟩), .pointer (some ⟨b5, 0, none⟩)]) (.func (.func 67) #[] #[.pointer (some ⟨b4, 0, none⟩), .pointer (some ⟨b6, 0, none⟩)])) := ⟨b3, b4, b5, b6, q1, d1, q2, d2, rfl, rfl, x3, x4, x5, x6, r1, r2⟩
     clear x3 x4 x5 x6 r1 r2
     have B01 := (Below.refl _ w0).drew.trans bb1
     clear bb1
     have g1 := ((Keeps.of_below (T := fun _ => True) B01).cell trivial e1)
     have g2 := ((Keeps.of_below (T := fun _ => True) B01).cell trivial e2)
     gi_wp2_with fail
     refine HK.out _ _ ?_
     clear HK K
     refine wpAnyIn_ready (rs := [6]) (by kernel_rfl) (by simp) ?_
     refine AllReadyIn.cons rfl (fun K hK => ?_) AllReadyIn.nil
     ·have HK := mkHid hK
      clear hK
      go_simp
      refine ⟨trivial, (callsIn_wide.2 (rising_any _ _ _ _ p1 n1 c1 p2 n2 c2 _ _ _ _ rfl rfl rfl rfl w1)).mono ?_⟩
      rintro en w3 ⟨rfl, r1, r2, r3⟩
      gi_wp2_with fail
      refine HK.out _ _ ?_
      clear HK K
      refine wpAnyIn_done (by kernel_rfl) ?_ _
      exact ⟨rfl, b3, b4, b5, b6, w1.heap.size, rfl, r1, r2, SPN.out.below r3, B01.trans (r3.mono B01.size), B01.size⟩
  ·have HK := mkHid hK
   clear hK
   go_simp
   refine HK.out _ _ ?_
   clear HK K
   refine wpAnyIn_ready (rs := [3, 5]) (by kernel_rfl) (by simp) ?_
   refine AllReadyIn.cons rfl (fun K hK => ?_) (AllReadyIn.cons rfl (fun K hK => ?_) AllReadyIn.nil)
   ·have HK := mkHid hK
    clear hK
    go_simp
    refine HK.out _ _ ?_
    clear HK K
    refine wpAnyIn_ready (rs := [5]) (by kernel_rfl) (by simp) ?_
    refine AllReadyIn.cons rfl (fun K hK => ?_) AllReadyIn.nil
    ·have HK := mkHid hK
     clear hK
     go_simp
     refine ⟨trivial, (callsIn_wide.2 BT.out).mono ?_⟩
     rintro en w1 ⟨b3, b4, b5, b6, q1, d1, q2, d2, rfl, x3, x4, x5, x6, r1, r2, bb1⟩
     have SPN : Hid (SpnAt w0 w1 low high li hi (.func (.func 65) #[] #[.pointer (some ⟨b3, 0, none⟩), .pointer (some ⟨b5, 0, none⟩)]) (.func (.func 67) #[] #[.pointer (some ⟨b4, 0, none⟩), .pointer (some ⟨b6, 0, none⟩)])) := ⟨b3, b4, b5, b6, q1, d1, q2, d2, rfl, rfl, x3, x4, x5, x6, r1, r2⟩
     clear x3 x4 x5 x6 r1 r2
     have B01 := (Below.refl _ w0).drew.trans bb1
     clear bb1
     have g1 := ((Keeps.of_below (T := fun _ => True) B01).cell trivial e1)
     have g2 := ((Keeps.of_below (T := fun _ => True) B01).cell trivial e2)
     gi_wp2_with fail
     refine HK.out _ _ ?_
     clear HK K
     refine wpAnyIn_ready (rs := [6]) (by kernel_rfl) (by simp) ?_
     refine AllReadyIn.cons rfl (fun K hK => ?_) AllReadyIn.nil
     ·have HK := mkHid hK
      clear hK
      go_simp
      refine ⟨trivial, (callsIn_wide.2 (rising_any _ _ _ _ p1 n1 c1 p2 n2 c2 _ _ _ _ rfl rfl rfl rfl w1)).mono ?_⟩
      rintro en w3 ⟨rfl, r1, r2, r3⟩
      gi_wp2_with fail
      refine HK.out _ _ ?_
      clear HK K
      refine wpAnyIn_done (by kernel_rfl) ?_ _
      exact ⟨rfl, b3, b4, b5, b6, w1.heap.size, rfl, r1, r2, SPN.out.below r3, B01.trans (r3.mono B01.size), B01.size⟩
   ·have HK := mkHid hK
    clear hK
    go_simp
    refine ⟨trivial, (callsIn_wide.2 BT.out).mono ?_⟩
    rintro en w1 ⟨b3, b4, b5, b6, q1, d1, q2, d2, rfl, x3, x4, x5, x6, r1, r2, bb1⟩
    have SPN : Hid (SpnAt w0 w1 low high li hi (.func (.func 65) #[] #[.pointer (some ⟨b3, 0, none⟩), .pointer (some ⟨b5, 0, none⟩)]) (.func (.func 67) #[] #[.pointer (some ⟨b4, 0, none⟩), .pointer (some ⟨b6, 0, none⟩)])) := ⟨b3, b4, b5, b6, q1, d1, q2, d2, rfl, rfl, x3, x4, x5, x6, r1, r2⟩
    clear x3 x4 x5 x6 r1 r2
    have B01 := (Below.refl _ w0).drew.trans bb1
    clear bb1
    have g1 := ((Keeps.of_below (T := fun _ => True) B01).cell trivial e1)
    have g2 := ((Keeps.of_below (T := fun _ => True) B01).cell trivial e2)
    gi_wp2_with fail
    refine HK.out _ _ ?_
    clear HK K
    refine wpAnyIn_ready (rs := [3]) (by kernel_rfl) (by simp) ?_
    refine AllReadyIn.cons rfl (fun K hK => ?_) AllReadyIn.nil
    ·have HK := mkHid hK
     clear hK
     go_simp
     refine HK.out _ _ ?_
     clear HK K
     refine wpAnyIn_ready (rs := [6]) (by kernel_rfl) (by simp) ?_
     refine AllReadyIn.cons rfl (fun K hK => ?_) AllReadyIn.nil
     ·have HK := mkHid hK
      clear hK
      go_simp
      refine ⟨trivial, (callsIn_wide.2 (rising_any _ _ _ _ p1 n1 c1 p2 n2 c2 _ _ _ _ rfl rfl rfl rfl w1)).mono ?_⟩
      rintro en w3 ⟨rfl, r1, r2, r3⟩
      gi_wp2_with fail
      refine HK.out _ _ ?_
      clear HK K
      refine wpAnyIn_done (by kernel_rfl) ?_ _
      exact ⟨rfl, b3, b4, b5, b6, w1.heap.size, rfl, r1, r2, SPN.out.below r3, B01.trans (r3.mono B01.size), B01.size⟩
 ·rintro e a' w3 ⟨rfl, b3, b4, b5, b6, B, rfl, r1, r2, sp, r3, r4⟩
  have RSS := mkHid (RS.out w3 b3 b4 b5 b6 B r3 sp r1 r2)
  clear RS BT sp r1 r2
  gi_wp2_with fail
  have bB : Below w.heap.size w w3 := bb.trans (r3.mono bb.size)
  have m1 : w3.heap[w.heap.size + 1]? = some (.cells #[.int .i64 0] 3 (0, 0)) := (r3.block _ (lt_of_heap D1.out)).trans D1.out
  have q0 : w3.cell? ⟨w.heap.size + 1, 0, none⟩ = some (.int .i64 0) := (cell_of_block m1 0).trans rfl
  have q1 : w3.frozen? ⟨w.heap.size + 1, 0, none⟩ = false := by simp [World.frozen?, m1]
  have m3 : w.heap.size + 1 < w3.heap.size := lt_of_heap m1
  refine wpIn_rangeFunc_ownF rfl (by decide) (gf := 63) (lb := #[.pointer (some ⟨B, 0, none⟩), .pointer (some ⟨B + 1, 0, none⟩)]) rfl trivial (enters_of Tryz.func63 (by kernel_rfl) rfl) RSS.out (fun h k => Keeps.trans h k) (fun W l o o' _ h1 h2 _ => keepsK_b h1 h2) (Below.refl _ _) (fun _ => rfl)
   (fun pre W => (W.cell? ⟨w.heap.size + 1, 0, none⟩ = some (.int .i64 (pre.length : Int)) ∧ W.frozen? ⟨w.heap.size + 1, 0, none⟩ = false) ∧ Below w.heap.size w W)
   (fun _ _ _ => False)
   (OwnFrom.and (Own.from (fun s A B row hs hg hr => ⟨cell_kept hs.1 hg hr, (frozen_kept hs.1 hg hr).trans hs.2⟩) _) (ownFrom_below (Nat.le_refl _) (by omega)))
   (fun _ _ _ _ _ hs _ _ => hs)
   ⟨⟨q0, q1⟩, bB⟩
   (fun x => { tmps := #[.pointer (some ⟨bt, 0, none⟩), .agg #[.slice P1 L1 C1, .slice P2 L2 C2, .bool li, .bool hi], undef, .pointer (some ⟨w.heap.size, 0, none⟩), .int .i64 0, .pointer (some ⟨w.heap.size + 1, 0, none⟩), .pointer (some ⟨bt, 0, none⟩), .pointer (some ⟨bt, 0, none⟩), .pointer (some ⟨bt, 1, none⟩), .agg #[.slice p1 n1 c1, .slice p2 n2 c2], .agg #[.slice P1 L1 C1, .slice P2 L2 C2, .bool li, .bool hi], .agg #[.func (.func 65) #[] #[.pointer (some ⟨b3, 0, none⟩), .pointer (some ⟨b5, 0, none⟩)], .func (.func 67) #[] #[.pointer (some ⟨b4, 0, none⟩), .pointer (some ⟨b6, 0, none⟩)]], .func (.func 63) #[] #[.pointer (some ⟨B, 0, none⟩), .pointer (some ⟨B + 1, 0, none⟩)], emV x.1, undef, undef, undef], defers := [] }) ?assign ?body ?done ?stop
  case assign =>
   intro l x W K hK
   gi_wp2
   first | exact hK | (go_simp; exact hK) | (simp [Array.zip, Array.zipWith]; exact hK)
  case body =>
   rintro l pre x W ⟨⟨hcr, hfr⟩, hB⟩ hlt
   have wr : IntKind.i64.wrap ((pre.length : Int) + 1) = (pre.length : Int) + 1 := by rw [IntKind.wrap_i64]; omega
   have FN : Hid (W.frozen? ⟨w.heap.size + 1, 0, none⟩ = false) := hfr
   gi_wp2
   refine ⟨KeepsOthers.setCell _ _ _, ⟨by simp, fun b cs t z hb hc => (heap_setCell_other W ⟨w.heap.size + 1, 0, none⟩ b _ hb).trans hc⟩, ⟨?_, by rw [World.frozen?_setCell]; exact FN.out⟩, hB.setCell (p := ⟨w.heap.size + 1, 0, none⟩) (by simp) _⟩
   rw [List.length_append, List.length_singleton, Int.natCast_add]
   exact World.cell?_setCell_same' _ _ _ (by rw [hcr]; rfl)
  case done =>
   rintro D ys W hD hS ⟨⟨hcr, hfr⟩, hB⟩ hK
   have hl : ys.length = Tot.length := by have := congrArg List.length hS; rwa [List.length_map] at this
   have FB := mkHid (hB.trans (belowK_b (w := w) (Nat.le_refl _) W D _ (.deferred none) (by omega) hK rfl rfl))
   rw [hl] at hcr
   gi_wp2
   refine ⟨by simp, .inl ⟨_, _, rfl, run_takeDeferred hK, ?_⟩⟩
   exact ⟨_, results_tmp rfl _ _ _, rfl, FB.out⟩
  case stop =>
   rintro D c pre W hD _ h _
   exact h.elim
end Go.Proofs.YtclcajnodoifjaaGreatDoor

namespace Go.Proofs.YtclcajnodoifjaaGreatDoor
open Go.RowKit Go.Shelf Go.Joins Go.Maps
set_option maxRecDepth 100000

end Go.Proofs.YtclcajnodoifjaaGreatDoor

namespace Go.Proofs.YtclcajnodoifjaaGreatDoor
open Go.RowKit Go.Shelf Go.Joins Go.Maps
attribute [local go_sem] Oper.semAt_some
set_option maxRecDepth 100000

theorem bx5 (w : World) (a b c d e : Obj) : (((((w.alloc a).alloc b).alloc c).alloc d).alloc e).heap[w.heap.size]? = some a ∧ (((((w.alloc a).alloc b).alloc c).alloc d).alloc e).heap[w.heap.size + 1]? = some b ∧ (((((w.alloc a).alloc b).alloc c).alloc d).alloc e).heap[w.heap.size + 1 + 1]? = some c ∧ (((((w.alloc a).alloc b).alloc c).alloc d).alloc e).heap[w.heap.size + 1 + 1 + 1]? = some d ∧ (((((w.alloc a).alloc b).alloc c).alloc d).alloc e).heap[w.heap.size + 1 + 1 + 1 + 1]? = some e ∧ Below w.heap.size w (((((w.alloc a).alloc b).alloc c).alloc d).alloc e) ∧ (((((w.alloc a).alloc b).alloc c).alloc d).alloc e).heap.size = w.heap.size + 1 + 1 + 1 + 1 + 1 := by
 obtain ⟨a0, a1, ab, as_⟩ := bx2 w a b
 obtain ⟨w2, h2⟩ : ∃ w2, w2 = (w.alloc a).alloc b := ⟨_, rfl⟩
 rw [← h2] at a0 a1 ab as_ ⊢
 obtain ⟨c0, c1, cb, cs⟩ := bx2 w2 c d
 obtain ⟨w4, h4⟩ : ∃ w4, w4 = (w2.alloc c).alloc d := ⟨_, rfl⟩
 rw [← h4] at c0 c1 cb cs ⊢
 have eb := (Below.refl _ w4).alloc (Nat.le_refl _) e
 have e0 := heap_alloc_new w4 e
 rw [as_] at c0 c1 cs
 rw [cs] at e0
 have k : ∀ {i : Nat} {o : Obj}, w4.heap[i]? = some o → (w4.alloc e).heap[i]? = some o := fun h => (eb.block _ (lt_of_heap h)).trans h
 have k2 : ∀ {i : Nat} {o : Obj}, w2.heap[i]? = some o → (w4.alloc e).heap[i]? = some o := fun h => k ((cb.block _ (lt_of_heap h)).trans h)
 exact ⟨k2 a0, k2 a1, k c0, k c1, e0, (ab.trans (cb.mono ab.size)).trans (eb.mono (Nat.le_trans ab.size cb.size)), by rw [World.size_alloc, cs]⟩
/-- an entry told by the tree and one of the document's -/
def Agr (a b : En) : Prop := a.id = b.id ∧ rowsV a.key b.key = 0 ∧ a.key.length = b.key.length
def AgL (L D : List Em) : Prop := L.length = D.length ∧ ∀ (i : Nat) (e d : Em), L[i]? = some e → D[i]? = some d → Agr e.e d.e
/-- between two rounds -/
structure GsI (w w3 : World) (Y : Nat → Prop) (nb k : Nat) (A : World) : Prop where
 n : A.heap[nb]? = some (.cells #[.int .i64 (k : Int)] 3 (0, 0))
 res : A.heap[w.heap.size + 1 + 1 + 1 + 1]? = some (.cells #[.bool false] 4 (0, 0))
 kp : Keeps (fun b => ¬ Y b) w3 A
 bl : Below w.heap.size w A
theorem GsI.own {w w3 : World} {Y : Nat → Prop} {nb k : Nat} {B : Nat} (hB : w.heap.size ≤ B) : OwnFrom B (fun (_ : Unit) A => GsI w w3 Y nb k A) := fun s X Z row hs hg hr =>
 ⟨cells_own hg (fun r e => (hr r e).2) hs.n, cells_own hg (fun r e => (hr r e).2) hs.res, hs.kp.trans ((keeps_own hg (fun r e => (hr r e).2)).mono (fun _ _ => trivial)), ownFrom_below (β := Unit) (Nat.le_refl _) hB s X Z row hs.bl hg hr⟩
/-- a round has ended the loop -/
def GsX (w w3 : World) (Y : Nat → Prop) (nb : Nat) (Tot DL : List Em) (stop : Int) (c : Code) (pre : List (Hd Tot)) (A : World) : Prop :=
 (c = .ret ∧ ∃ pre0 x d, pre = pre0 ++ [x] ∧ DL[pre0.length]? = some d ∧ ¬ Agr x.1.e d.e) ∨ (c = .exit 0 ∧ GsI w w3 Y nb pre.length A ∧ (pre.length : Int) = stop)
theorem GsX.own {w w3 : World} {Y : Nat → Prop} {nb : Nat} {Tot DL : List Em} {stop : Int} {B : Nat} (hB : w.heap.size ≤ B) (c : Code) : OwnFrom B (GsX w w3 Y nb Tot DL stop c) := fun s X Z row hs hg hr => by
 rcases hs with ⟨h1, h2⟩ | ⟨h1, h2, h3⟩
 ·exact Or.inl ⟨h1, h2⟩
 ·exact Or.inr ⟨h1, GsI.own hB () X Z row h2 hg hr, h3⟩
theorem GsX.not_ret {Tot DL : List Em} {pre0 : List (Hd Tot)} {x : Hd Tot} {rest : List En} {d : Em} (h : Tot.map (fun x => x.e) = hdE_ (pre0 ++ [x]) ++ rest) (hd : DL[pre0.length]? = some d) (ag : AgL Tot DL) : Agr x.1.e d.e := by
 have h1 : (Tot.map (fun x => x.e))[pre0.length]? = some x.1.e := (congrArg (fun l => l[pre0.length]?) h).trans (by simp [hdE_])
 rw [List.getElem?_map] at h1
 obtain ⟨e, he, hx⟩ := Option.map_eq_some_iff.1 h1
 have := ag.2 _ _ _ he hd
 change e.e = x.1.e at hx
 rw [hx] at this
 exact this
/-- the handed key is spoilt -/
structure GoL (A : World) (g m : Nat) (wr : World) : Prop where
 chg : Chg (fun b => b = g) A wr
 blk : ∃ cs, wr.heap[g]? = some (.cells cs 40 (0, 0)) ∧ 3 * m ≤ cs.size
theorem GoL.cell {A wr : World} {g m i r : Nat} (h : GoL A g m wr) (hi : i < m) (hr : r < 3) : ∃ u, wr.cell? ⟨g, i * 3 + r, none⟩ = some u := by
 obtain ⟨cs, h1, h2⟩ := h.blk
 have : i * 3 + r < cs.size := by omega
 exact ⟨_, (cell_of_block h1 _).trans (Array.getElem?_eq_getElem this)⟩
theorem GoL.fro {A wr : World} {g m o : Nat} (h : GoL A g m wr) : wr.frozen? ⟨g, o, none⟩ = false := by
 obtain ⟨cs, h1, _⟩ := h.blk
 exact unfrozen_of_block h1 o
theorem GoL.set {A wr : World} {g m o : Nat} {v : Value} (h : GoL A g m wr) : GoL A g m (wr.setCell ⟨g, o, none⟩ v) := by
 obtain ⟨cs, h1, h2⟩ := h.blk
 exact ⟨chg_set h.chg ⟨g, o, none⟩ v rfl, _, heap_set_in h1, by simpa using h2⟩
theorem blk_size {A : World} {g : Nat} {k : List Va} {cs : Array Value} {t : TypeId} {z : Nat × Nat} (hv : valsAt A g k) (hb : A.heap[g]? = some (.cells cs t z)) : 3 * k.length ≤ cs.size := by
 rcases Nat.eq_zero_or_pos k.length with h | h
 ·omega
 ·obtain ⟨v, hv1⟩ : ∃ v, k[k.length - 1]? = some v := ⟨_, List.getElem?_eq_getElem (by omega)⟩
  have := (hv.2 _ v hv1).2.2
  rw [cell_of_block hb] at this
  have := (Array.getElem?_eq_some_iff.1 this).1
  omega
theorem gs_next {w w5 : World} {Y : Nat → Prop} {nb k g m B : Nat} {A W1 wr : World} {csx : Array Value} (hi : GsI w w5 Y nb k A) (b1 : Below A.heap.size A W1) (hG : GoL W1 g m wr) (hgA : A.heap[g]? = some (.cells csx 40 (0, 0))) (hg : w5.heap.size + 2 ≤ g) (h1 : nb < w5.heap.size) (h2 : w.heap.size + 1 + 1 + 1 + 1 < nb) (hy : Y nb) :
  GsI w w5 Y nb (k + 1) (wr.setCell ⟨nb, 0, none⟩ (.int .i64 ((k : Int) + 1))) ∧ KeepsFrom B A (wr.setCell ⟨nb, 0, none⟩ (.int .i64 ((k : Int) + 1))) ∧ Keeps (fun b => ¬ Y b ∧ b ≠ g) A (wr.setCell ⟨nb, 0, none⟩ (.int .i64 ((k : Int) + 1))) := by
 have k1 : ∀ {b : Nat} {o : Obj}, A.heap[b]? = some o → b ≠ g → wr.heap[b]? = some o := fun h hne => hG.chg.at_ ((b1.block _ (lt_of_heap h)).trans h) hne
 have k2 : ∀ {b : Nat} {o : Obj}, A.heap[b]? = some o → b ≠ g → b ≠ nb → (wr.setCell ⟨nb, 0, none⟩ (.int .i64 ((k : Int) + 1))).heap[b]? = some o := fun h hne hnb => (heap_setCell_other wr ⟨nb, 0, none⟩ _ _ hnb).trans (k1 h hne)
 have sz : A.heap.size ≤ (wr.setCell ⟨nb, 0, none⟩ (.int .i64 ((k : Int) + 1))).heap.size := by rw [World.size_setCell]; exact Nat.le_trans b1.size hG.chg.size
 refine ⟨⟨?_, k2 hi.res (by omega) (by omega), ⟨Nat.le_trans hi.kp.1 sz, fun b cs t z hb hc => k2 (hi.kp.2 b cs t z hb hc) (by have := lt_of_heap hc; omega) (fun e => hb (by rw [e]; exact hy))⟩, ?_⟩, ⟨sz, fun b o _ hb ho => k2 hb (fun e => by rw [e, hgA] at hb; cases hb; cases ho) (fun e => by rw [e, hi.n] at hb; cases hb; cases ho)⟩, ⟨sz, fun b cs t z hb hc => k2 hc hb.2 (fun e => hb.1 (by rw [e]; exact hy))⟩⟩
 ·have := heap_set_in (o := 0) (v := .int .i64 ((k : Int) + 1)) (k1 hi.n (by omega))
  rw [this]
  rfl
 ·have h3 : Below w.heap.size w wr := (hi.bl.trans (b1.mono hi.bl.size)).trans (hG.chg.below (Nat.le_trans hi.bl.size b1.size) (fun i e => by subst e; have := hi.kp.1; have := hi.bl.size; omega))
  exact below_set h3 _ _ (by show w.heap.size ≤ nb; omega)
end Go.Proofs.YtclcajnodoifjaaGreatDoor

namespace Go.Proofs.YtclcajnodoifjaaGreatDoor
open Go.RowKit Go.Shelf Go.Joins Go.Maps
attribute [local go_sem] Oper.semAt_some
set_option maxRecDepth 100000

theorem agl_rev {L D : List Em} (h : AgL L D) : AgL L.reverse D.reverse := by
 refine ⟨by rw [List.length_reverse, List.length_reverse]; exact h.1, fun i e d he hd => ?_⟩
 have h1 := (List.getElem?_eq_some_iff.1 he).1
 have h2 := (List.getElem?_eq_some_iff.1 hd).1
 rw [List.length_reverse] at h1 h2
 rw [List.getElem?_reverse h1] at he
 rw [List.getElem?_reverse h2, ← h.1] at hd
 exact h.2 _ _ _ he hd
end Go.Proofs.YtclcajnodoifjaaGreatDoor

