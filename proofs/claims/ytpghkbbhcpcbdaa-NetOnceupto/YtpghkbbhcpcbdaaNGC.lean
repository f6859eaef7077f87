/-
  The law's round: what a Send reads; what it leaves.
-/
import Derived.Test.YtpghkbbhcpcbdaaNGB
import Derived.Deep.RegionWith
import Derived.Deep.RegionHeld3
import Derived.Deep.RegionLawGrows
namespace Go.Proofs.Ytpghkbbhcpcbdaa
open Go.RowKit Go.Maps Go.Joins

/-- what a Send's operands are read of -/
def nCs (b pr n : Nat) (a t : Int) (p : Option Addr) (l : List UInt8) (q : Nat) (w' : World) : Prop := w'.cell? ⟨b, 1, none⟩ = some (.int .i64 a) ∧ w'.cell? ⟨b, 2, none⟩ = some (.int .i64 t) ∧ w'.cell? ⟨b, 4, none⟩ = some (.slice p l.length q) ∧ w'.cell? ⟨pr, 0, none⟩ = some (.pointer (some ⟨n, 0, none⟩))
theorem nCs.of {b pr n d : Nat} {k a t I : Int} {p : Option Addr} {l : List UInt8} {q : Nat} {hw : Bool} {w : World} {ty ty2 : TypeId} (hb : w.heap[b]? = some (.cells #[.int .i64 k, .int .i64 a, .int .i64 t, .int .i64 I, .slice p l.length q, .bool hw] ty (0, 0))) (hp : w.heap[pr]? = some (.cells #[.pointer (some ⟨n, 0, none⟩), .pointer (some ⟨d, 0, none⟩)] ty2 (0, 0))) : nCs b pr n a t p l q w := by
  obtain ⟨_, b1, b2, _, b4, _⟩ := cells6 hb
  obtain ⟨pp, _⟩ := cells2 hp
  exact ⟨b1, b2, b4, pp⟩
/-- what the list's append is read of -/
def nCt (b gs h : Nat) (N f t : Nat) (p : Option Addr) (l : List UInt8) (q : Nat) (w' : World) : Prop := w'.cell? ⟨b, 1, none⟩ = some (.int .i64 (f : Int)) ∧ w'.cell? ⟨b, 2, none⟩ = some (.int .i64 (t : Int)) ∧ w'.cell? ⟨b, 4, none⟩ = some (.slice p l.length q) ∧ w'.cell? ⟨gs, f, none⟩ = some (.slice (some ⟨h, 0, none⟩) N N)
theorem nCt.of {b gs h N f t : Nat} {k I : Int} {p : Option Addr} {l : List UInt8} {q : Nat} {hw : Bool} {w : World} {ty : TypeId} (hb : w.heap[b]? = some (.cells #[.int .i64 k, .int .i64 (f : Int), .int .i64 (t : Int), .int .i64 I, .slice p l.length q, .bool hw] ty (0, 0))) (hp : w.cell? ⟨gs, f, none⟩ = some (.slice (some ⟨h, 0, none⟩) N N)) : nCt b gs h N f t p l q w := by
  obtain ⟨_, b1, b2, _, b4, _⟩ := cells6 hb
  exact ⟨b1, b2, b4, hp⟩
theorem byA.conv {w : World} {p : Option Addr} {l : List UInt8} (h : byA w p l) (cap : Nat) (hc : p = none → l.length = 0 ∧ cap = 0) : (convert 27 9 (.slice p l.length cap)).run Try.prog w = .ok (.string ⟨l.toArray⟩) w := by
  rcases h with rfl | ⟨g, o, rfl, h⟩
  · cases p with
    | none => exact bys.conv (Or.inl ⟨rfl, rfl⟩) cap (fun e => (hc e).2)
    | some ad => exact run_convert_bytes_back (P := Try.prog) w 27 9 5 ad cap [] u8Slice u8T strT (fun j hj => by simp at hj)
  · exact bys.conv (Or.inr ⟨g, o, rfl, h⟩) cap (fun e => by cases e)
/-- what lies there behind a Send -/
def nK0 (w0 : World) (N n d pr gs gg go i : Nat) (own : Nat → Nat) (S S2 : St) (T : Nat → Nat → List ByteArray) (G O : Nat → Nat → Nat) (c : Nat) (L : Ly) (hs : Nat → Nat) (rv : Nat → Nat → Value) (hg ho : Nat → Nat) (b : Nat) (bx : Obj) (w3 : World) : Prop := ∃ W, LwF w0 N n d pr gs gg go i own S T G O c L hs rv hg ho W ∧ UpN (fun b => own b = 1) W n (c + 1) S2 w3 ∧ w3.heap[b]? = some bx

end Go.Proofs.Ytpghkbbhcpcbdaa
namespace Go.Proofs.Ytpghkbbhcpcbdaa
open Go.RowKit Go.Maps Go.Joins

/-- behind a Recv, the message in its box -/
def nK1 (wx : World) (n c : Nat) (own : Nat → Nat) (S2 : St) (b : Nat) (bx : Obj) (mb f : Nat) (pm : Option Addr) (lm : List UInt8) (cm : Nat) (wz : World) : Prop := UpN (fun b => own b = 1) wx n c S2 wz ∧ wz.heap[b]? = some bx ∧ wz.heap[mb]? = some (.cells #[.int .i64 (f : Int), .slice pm lm.length cm] 51 (0, 0)) ∧ bys wz pm lm
/-- what Recv leaves, whatever it answers -/
def nR1 (W : World) (n c : Nat) (own : Nat → Nat) (S2 : St) (b : Nat) (bx : Obj) (pr : Nat) (a : Int) (pm : Option Addr) (lm : List UInt8) (w3 : World) : Prop := UpN (fun b => own b = 1) W n c S2 w3 ∧ w3.heap[b]? = some bx ∧ bys w3 pm lm ∧ w3.cell? ⟨b, 1, none⟩ = some (.int .i64 a) ∧ w3.cell? ⟨pr, 0, none⟩ = some (.pointer (some ⟨n, 0, none⟩)) ∧ (∀ mb, mb < W.heap.size → own mb ≠ 1 → w3.heap[mb]? = W.heap[mb]?)
theorem nSet {w : World} {x y j k o : Nat} {u v t : Value} (hn : x ≠ y) (h : w.cell? ⟨x, o, none⟩ = some t) : ((w.setCell ⟨y, j, none⟩ u).setCell ⟨y, k, none⟩ v).cell? ⟨x, o, none⟩ = some t := by
  have e1 := heap_setCell_other w ⟨y, j, none⟩ x u hn
  have e2 := heap_setCell_other (w.setCell ⟨y, j, none⟩ u) ⟨y, k, none⟩ x v hn
  rw [← h]; unfold World.cell?; simp only; rw [e2, e1]
theorem bys.kept {w w' : World} {p : Option Addr} {l : List UInt8} (h : bys w p l) (g : w.grownBy w' none) : bys w' p l := h.chg (Chg.of_none g (fun _ => False)) (fun _ _ e => e)
theorem LwF.nK {w0 wx : World} {N n d pr gs gg go i c : Nat} {own : Nat → Nat} {S S2 : St} {L : Ly} {T : Nat → Nat → List ByteArray} {G O : Nat → Nat → Nat} {hs hg ho : Nat → Nat} {rv : Nat → Nat → Value} (h : LwF w0 N n d pr gs gg go i own S T G O c L hs rv hg ho wx) {b : Nat} {bx : Obj} {a : Int} {pm : Option Addr} {lm : List UInt8} {cm f : Nat} {W w3 : World} (gW : wx.grownBy W none) (R : nR1 W n c own S2 b bx pr a pm lm w3) :
    nK1 wx n c own S2 b bx w3.heap.size f pm lm cm (w3.alloc (.cells #[.int .i64 (f : Int), .slice pm lm.length cm] 51)) := by
  obtain ⟨U, hb, hy, _⟩ := R
  have g := grown_al (grown_refl w3) (.cells #[.int .i64 (f : Int), .slice pm lm.length cm] 51)
  obtain ⟨L2, N2, C2⟩ := U.grow g
  refine ⟨⟨L2, N2.more (fun k hk => ?_) (fun k hk => ?_), (Chg.of_none gW _).trans C2⟩, box_keep hb g (by simp), heap_alloc_new _ _, hy.kept g⟩
  · rcases hk with e | e
    · exact Or.inl e
    · exact Or.inr ⟨Nat.le_trans gW.size e.1, e.2⟩
  · rcases hk with e | e
    · exact Nat.lt_of_lt_of_le (h.lo k (by rw [show own k = 1 from e]; decide)).2 (Nat.le_trans gW.size (C2.size))
    · exact e.2
theorem LwF.nMb {w0 wx : World} {N n d pr gs gg go i c : Nat} {own : Nat → Nat} {S S2 : St} {L : Ly} {T : Nat → Nat → List ByteArray} {G O : Nat → Nat → Nat} {hs hg ho : Nat → Nat} {rv : Nat → Nat → Value} (h : LwF w0 N n d pr gs gg go i own S T G O c L hs rv hg ho wx) {b : Nat} {bx : Obj} {a : Int} {pm : Option Addr} {lm : List UInt8} {w3 : World} {v0 v1 : Value} (R : nR1 (wx.alloc (.cells #[v0, v1] 51)).drew n c own S2 b bx pr a pm lm w3) : w3.cell? ⟨wx.heap.size, 0, none⟩ = some v0 ∧ w3.cell? ⟨wx.heap.size, 1, none⟩ = some v1 ∧ w3.frozen? ⟨wx.heap.size, 0, none⟩ = false ∧ w3.frozen? ⟨wx.heap.size, 1, none⟩ = false := by
  obtain ⟨U, hb, hy, _, _, keep⟩ := R
  have o0 : own wx.heap.size ≠ 1 := fun e => by
    have := (h.lo wx.heap.size (by rw [e]; decide)).2
    omega
  have hm := (keep wx.heap.size (by simp) o0).trans (heap_alloc_new wx _)
  obtain ⟨m0, m1, mf⟩ := cells2 hm
  exact ⟨m0, m1, mf 0, mf 1⟩
theorem LwF.nK' {w0 wx : World} {N n d pr gs gg go i c : Nat} {own : Nat → Nat} {S S2 : St} {L : Ly} {T : Nat → Nat → List ByteArray} {G O : Nat → Nat → Nat} {hs hg ho : Nat → Nat} {rv : Nat → Nat → Value} (h : LwF w0 N n d pr gs gg go i own S T G O c L hs rv hg ho wx) {b : Nat} {bx : Obj} {a : Int} {pm : Option Addr} {lm : List UInt8} {cm f : Nat} {w3 : World} {v0 v1 : Value} (R : nR1 (wx.alloc (.cells #[v0, v1] 51)).drew n c own S2 b bx pr a pm lm w3) (hlb : b < wx.heap.size) (hpm : ∀ ad, pm = some ad → wx.heap.size < ad.block) :
    nK1 wx n c own S2 b bx wx.heap.size f pm lm cm ((w3.setCell ⟨wx.heap.size, 0, none⟩ (.int .i64 (f : Int))).setCell ⟨wx.heap.size, 1, none⟩ (.slice pm lm.length cm)) := by
  obtain ⟨U, hb, hy, _, _, keep⟩ := R
  have gW := grown_drew (grown_al (grown_refl wx) (.cells #[v0, v1] 51))
  have o0 : own wx.heap.size ≠ 1 := fun e => by
    have := (h.lo wx.heap.size (by rw [e]; decide)).2
    omega
  have hm := (keep wx.heap.size (by simp) o0).trans (heap_alloc_new wx _)
  obtain ⟨L2, N2, C2⟩ := U
  have CC : Chg (fun k => k = wx.heap.size) w3 ((w3.setCell ⟨wx.heap.size, 0, none⟩ (.int .i64 (f : Int))).setCell ⟨wx.heap.size, 1, none⟩ (.slice pm lm.length cm)) := (Chg.of_cell w3 ⟨wx.heap.size, 0, none⟩ _).trans (Chg.of_cell _ ⟨wx.heap.size, 1, none⟩ _)
  have N3 := N2.away CC (fun k hk e => ?_)
  · refine ⟨⟨L2, N3.more (fun k hk => ?_) (fun k hk => ?_), ?_⟩, CC.at_ hb (by omega), (block_setCell (block_setCell hm _) _).trans rfl, hy.chg CC (fun ad e e2 => by have := hpm ad e; omega)⟩
    · rcases hk with e | e
      · exact Or.inl e
      · exact Or.inr ⟨Nat.le_trans gW.size e.1, Nat.lt_of_lt_of_le e.2 CC.size⟩
    · rcases hk with e | e
      · exact Nat.lt_of_lt_of_le (h.lo k (by rw [show own k = 1 from e]; decide)).2 (Nat.le_trans gW.size (Nat.le_trans C2.size CC.size))
      · exact e.2
    · exact Chg.then_new ((Chg.of_none gW _).trans C2) (CC.mono (fun k _ e => by have e : k = wx.heap.size := e; show wx.heap.size ≤ k; omega))
  · have e : k = wx.heap.size := e
    rcases hk with e1 | e1
    · exact o0 (e ▸ e1)
    · have := e1.1
      simp at this
      omega

end Go.Proofs.Ytpghkbbhcpcbdaa
