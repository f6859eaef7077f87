/-
 The walks of the ends of spans: between bounds.
-/
import Derived.Test.YtclcajnodoifjaaGreatDoorIAE
import Derived.Test.YtclcajnodoifjaaGreatDoorIAB
import Derived.Test.YtclcajnodoifjaaGreatDoorProg
import Derived.WalkKit
import Derived.WalkSpells
import Derived.WalkLawsBesides
import Derived.Lib.OthersKept
import Derived.OwnWalk
import Derived.Maps.OwnOps
import Derived.Maps.OwnSet
import Derived.Maps.RangeWalk
import Derived.Lib.SmallJoins
import Derived.ArgAppend
import Derived.DeepKeys4
import Derived.Lib.SliceRun
namespace Go.Proofs.YtclcajnodoifjaaGreatDoor
open Go.RowKit Go.Shelf

theorem min_take (l : List Va) (n : Nat) : (l.take n).length = min l.length n := by rw [List.length_take, Nat.min_comm]
set_option maxHeartbeats 400000 in
set_option maxRecDepth 1000000 in
theorem orderBegin_any (g : Nat) (q : Option Addr) (cp cq : Nat) (k f : List Va) (w : World) (hk : valsAt w g k) (hl : k.length ≤ 1000) (hcp : k.length ≤ cp) (hq : rowAt w q f) (hf : f.length ≤ 1000000000) (fk : ∀ v ∈ k, fit v.n) (ff : ∀ v ∈ f, fit v.n) :
  Calls Tryz.prog 66 #[.slice (some ⟨g, 0, none⟩) k.length cp, .slice q f.length cq] w fun r w' => r = .returned (.int .i64 (begV k f)) ∧ Below w.heap.size w w' := by
 have RO : Hid (Calls Tryz.prog 74 #[.slice (some ⟨g, 0, none⟩) (k.take f.length).length cp, .slice q f.length cq] w fun r w' => r = .returned (.int .i64 (begV k f)) ∧ Below w.heap.size w w') := Rows_any _ q cp cq (k.take f.length) f w (by rw [min_take]; omega) (rowAt.take (Or.inr ⟨g, rfl, hk⟩) _) hq (fun v hv => fk v (List.mem_of_mem_take hv)) ff
 rw [min_take] at RO
 clear hk hq fk ff
 generalize begV k f = R at *
 generalize k.length = n at *
 generalize f.length = m at *
 have e : min n m = (min (n : Int) (m : Int)).toNat := by omega
 rw [e] at RO
 clear e
 go_enter Tryz.func66, Tryz.ntmps66
 go_wp2_with fail
 refine (RO.out).mono ?_
 rintro r w1 ⟨rfl, hb2⟩
 go_wp2_with fail
 go_ret
 exact ⟨rfl, hb2⟩

set_option maxHeartbeats 2000000 in
set_option maxRecDepth 1000000 in
theorem between1_any (h : Nat) (q : Option Addr) (cp cq g1 g2 : Nat) (e : En) (f : List Va) (inn : Bool) (w : World) (hk : valsAt w h e.key) (hl : e.key.length ≤ 1000) (hcp : e.key.length ≤ cp) (hq : rowAt w q f) (hf : f.length ≤ 1000000000) (fk : ∀ v ∈ e.key, fit v.n) (ff : ∀ v ∈ f, fit v.n) (hg1 : g1 < w.heap.size) (hc : w.cell? ⟨g1, 0, none⟩ = some (.slice q f.length cq)) (hg2 : g2 < w.heap.size) (hd : w.cell? ⟨g2, 0, none⟩ = some (.bool inn)) :
  Calls Tryz.prog 65 #[enV (some ⟨h, 0, none⟩) cp e, .pointer (some ⟨g1, 0, none⟩), .pointer (some ⟨g2, 0, none⟩)] w fun r w' => r = .returned (.bool (loB f inn e)) ∧ Below w.heap.size w w' := by
 have RO : Hid (∀ W', Below w.heap.size w W' → Calls Tryz.prog 66 #[.slice (some ⟨h, 0, none⟩) e.key.length cp, .slice q f.length cq] W' fun r w' => r = .returned (.int .i64 (begV e.key f)) ∧ Below W'.heap.size W' w') := fun W' hb => orderBegin_any h q cp cq e.key f W' (hk.below hb) hl hcp (hq.below hb) hf fk ff
 have B0 : Hid (∀ o, Below w.heap.size w (w.alloc o)) := fun o => (Below.refl _ w).alloc (Nat.le_refl _) o
 unfold enV loB
 clear hk hq
 generalize begV e.key f = R at *
 generalize e.key.length = la at *
 generalize f.length = lb at *
 generalize e.id = ie at *
 have hc1 : ∀ o, (w.alloc o).cell? ⟨g1, 0, none⟩ = some (.slice q lb cq) := fun o => ((B0.out o).cell (p := ⟨g1, 0, none⟩) hg1).trans hc
 go_enter Tryz.func65, Tryz.ntmps65
 go_wp2_with fail
 refine (RO.out _ (B0.out _)).mono ?_
 rintro r w1 ⟨rfl, hb2⟩
 have B2 := (B0.out (.cells #[.slice (some ⟨h, 0, none⟩) la cp, .int .u64 ie] 65)).trans (hb2.mono (B0.out _).size)
 have hc2 : w1.cell? ⟨g1, 0, none⟩ = some (.slice q lb cq) := (B2.cell (p := ⟨g1, 0, none⟩) hg1).trans hc
 have hd2 : w1.cell? ⟨g2, 0, none⟩ = some (.bool inn) := (B2.cell (p := ⟨g2, 0, none⟩) hg2).trans hd
 clear hc1 hc hd RO B0 hb2 fk ff
 go_wp2_with fail
 all_goals go_ret
 all_goals refine ⟨?_, B2⟩
 all_goals clear hc2 hd2 B2
 all_goals simp_all
 rename_i n0 _ _
 have z : ((lb : Int) == 0) = false := by rw [beq_eq_false_iff_ne]; omega
 have z2 : (R == 0) = decide (R = 0) := by by_cases hx : R = 0 <;> simp [hx]
 rw [z, z2, Bool.false_or]

set_option maxHeartbeats 2000000 in
set_option maxRecDepth 1000000 in
theorem between2_any (h : Nat) (q : Option Addr) (cp cq g1 g2 : Nat) (e : En) (f : List Va) (inn : Bool) (w : World) (hk : valsAt w h e.key) (hl : e.key.length ≤ 1000) (hcp : e.key.length ≤ cp) (hq : rowAt w q f) (hf : f.length ≤ 1000000000) (fk : ∀ v ∈ e.key, fit v.n) (ff : ∀ v ∈ f, fit v.n) (hg1 : g1 < w.heap.size) (hc : w.cell? ⟨g1, 0, none⟩ = some (.slice q f.length cq)) (hg2 : g2 < w.heap.size) (hd : w.cell? ⟨g2, 0, none⟩ = some (.bool inn)) :
  Calls Tryz.prog 67 #[enV (some ⟨h, 0, none⟩) cp e, .pointer (some ⟨g1, 0, none⟩), .pointer (some ⟨g2, 0, none⟩)] w fun r w' => r = .returned (.bool (hiB f inn e)) ∧ Below w.heap.size w w' := by
 have RO : Hid (∀ W', Below w.heap.size w W' → Calls Tryz.prog 66 #[.slice (some ⟨h, 0, none⟩) e.key.length cp, .slice q f.length cq] W' fun r w' => r = .returned (.int .i64 (begV e.key f)) ∧ Below W'.heap.size W' w') := fun W' hb => orderBegin_any h q cp cq e.key f W' (hk.below hb) hl hcp (hq.below hb) hf fk ff
 have B0 : Hid (∀ o, Below w.heap.size w (w.alloc o)) := fun o => (Below.refl _ w).alloc (Nat.le_refl _) o
 unfold enV hiB
 clear hk hq
 generalize begV e.key f = R at *
 generalize e.key.length = la at *
 generalize f.length = lb at *
 generalize e.id = ie at *
 have hc1 : ∀ o, (w.alloc o).cell? ⟨g1, 0, none⟩ = some (.slice q lb cq) := fun o => ((B0.out o).cell (p := ⟨g1, 0, none⟩) hg1).trans hc
 go_enter Tryz.func67, Tryz.ntmps67
 go_wp2_with fail
 refine (RO.out _ (B0.out _)).mono ?_
 rintro r w1 ⟨rfl, hb2⟩
 have B2 := (B0.out (.cells #[.slice (some ⟨h, 0, none⟩) la cp, .int .u64 ie] 65)).trans (hb2.mono (B0.out _).size)
 have hc2 : w1.cell? ⟨g1, 0, none⟩ = some (.slice q lb cq) := (B2.cell (p := ⟨g1, 0, none⟩) hg1).trans hc
 have hd2 : w1.cell? ⟨g2, 0, none⟩ = some (.bool inn) := (B2.cell (p := ⟨g2, 0, none⟩) hg2).trans hd
 clear hc1 hc hd RO B0 hb2 fk ff
 go_wp2_with fail
 all_goals go_ret
 all_goals refine ⟨?_, B2⟩
 all_goals clear hc2 hd2 B2
 all_goals simp_all
 rename_i n0 _ _
 have z : ((lb : Int) == 0) = false := by rw [beq_eq_false_iff_ne]; omega
 have z2 : (R == 0) = decide (R = 0) := by by_cases hx : R = 0 <;> simp [hx]
 rw [z, z2, Bool.false_or]
end Go.Proofs.YtclcajnodoifjaaGreatDoor

namespace Go.Proofs.YtclcajnodoifjaaGreatDoor
set_option maxRecDepth 100000

theorem place_is {α : Type} {lt : α → α → Bool} {e : α} {l : List α} {i : Nat} (h1 : i ≤ l.length) (h2 : ∀ j y, j < i → l[j]? = some y → lt y e = true) (h3 : ∀ y, l[i]? = some y → lt y e = false) : place lt e l = i := by
 have hp := place_le lt e l
 rcases Nat.lt_trichotomy (place lt e l) i with h | h | h
 ·have hy := List.getElem?_eq_getElem (l := l) (i := place lt e l) (by omega)
  have a := place_at hy
  have b := h2 _ _ h hy
  rw [a] at b
  cases b
 ·exact h
 ·have hy := List.getElem?_eq_getElem (l := l) (i := i) (by omega)
  have a := place_ahead h hy
  have b := h3 _ hy
  rw [a] at b
  cases b
theorem from_is {α : Type} {p : α → Bool} {l : List α} {i : Nat} (h1 : i ≤ l.length) (h2 : ∀ j y, j < i → l[j]? = some y → p y = false) (h3 : ∀ y, l[i]? = some y → p y = true) : from_ p l = i := by
 have hp := from_le p l
 rcases Nat.lt_trichotomy (from_ p l) i with h | h | h
 ·have hy := List.getElem?_eq_getElem (l := l) (i := from_ p l) (by omega)
  have a := from_at hy
  have b := h2 _ _ h hy
  rw [a] at b
  cases b
 ·exact h
 ·have hy := List.getElem?_eq_getElem (l := l) (i := i) (by omega)
  have a := from_ahead h hy
  have b := h3 _ hy
  rw [a] at b
  cases b
/-- halving: what lies ahead of an entry that is ahead is ahead -/
theorem ahead_all {α : Type} {lt : α → α → Bool} (o : Ord3 lt) {l : List α} (hr : Rise lt l) {e x : α} {m : Nat} (hx : l[m]? = some x) (h : lt x e = true) {j : Nat} {y : α} (hj : j ≤ m) (hy : l[j]? = some y) : lt y e = true := by
 by_cases q : j = m
 ·subst q
  rw [hx] at hy
  cases hy
  exact h
 ·obtain ⟨a1, a2⟩ := List.getElem?_eq_some_iff.1 hx
  obtain ⟨b1, b2⟩ := List.getElem?_eq_some_iff.1 hy
  have := List.pairwise_iff_getElem.1 hr j m b1 a1 (by omega)
  rw [a2, b2] at this
  exact o.trans this h
end Go.Proofs.YtclcajnodoifjaaGreatDoor

namespace Go.Proofs.YtclcajnodoifjaaGreatDoor
open Go.RowKit Go.Maps Go.Joins

theorem mkHid {P : Prop} (h : P) : Hid P := h
theorem lt_of_heap {w : World} {b : Nat} {o : Obj} (h : w.heap[b]? = some o) : b < w.heap.size := by
 rw [Array.getElem?_eq_some_iff] at h; exact h.1
theorem grown_setCell (w : World) (a : Addr) (u : Value) : w.grownBy (w.setCell a u) (some a.block) :=
 ⟨rfl, rfl, rfl, by simp, fun k _ hk => heap_setCell_other w a k u (fun e => hk (by rw [e]))⟩
/-- nothing but blocks of S, and new ones, has changed -/
structure Chg (S : Nat → Prop) (w w' : World) : Prop where
 os : w'.os = w.os
 tape : w'.tape = w.tape
 output : w'.output = w.output
 size : w.heap.size ≤ w'.heap.size
 block : ∀ k, k < w.heap.size → ¬ S k → w'.heap[k]? = w.heap[k]?
theorem Chg.refl (S : Nat → Prop) (w : World) : Chg S w w := ⟨rfl, rfl, rfl, Nat.le_refl _, fun _ _ _ => rfl⟩
theorem Chg.of_cell (w : World) (a : Addr) (u : Value) : Chg (fun i => i = a.block) w (w.setCell a u) := ⟨rfl, rfl, rfl, by simp, fun k _ hk => heap_setCell_other w a k u hk⟩
theorem Chg.mono {S T : Nat → Prop} {w w' : World} (h : Chg S w w') (hs : ∀ i, i < w.heap.size → S i → T i) : Chg T w w' := ⟨h.os, h.tape, h.output, h.size, fun k hk hn => h.block k hk (fun e => hn (hs k hk e))⟩
theorem Chg.trans {S : Nat → Prop} {a b c : World} (h : Chg S a b) (k : Chg S b c) : Chg S a c :=
 ⟨k.os.trans h.os, k.tape.trans h.tape, k.output.trans h.output, Nat.le_trans h.size k.size, fun i hi hn => (k.block i (Nat.lt_of_lt_of_le hi h.size) hn).trans (h.block i hi hn)⟩
theorem Chg.drew {P : Nat → Prop} {a b : World} (h : Chg P a b) : Chg P a b.drew := ⟨h.os, h.tape, h.output, h.size, h.block⟩
theorem Chg.below {S : Nat → Prop} {w w' : World} {base : Nat} (h : Chg S w w') (hb : base ≤ w.heap.size) (hs : ∀ i, S i → base ≤ i) : Below base w w' :=
 ⟨h.os, h.tape, h.output, h.size, fun k hk => h.block k (by omega) (fun e => by have := hs k e; omega)⟩
theorem chgBl {base : Nat} {w w' : World} (hb : Below base w w') : Chg (fun i => base ≤ i) w w' := ⟨hb.os, hb.tape, hb.output, hb.size, fun k _ hn => hb.block k (by omega)⟩
theorem Chg.at_ {S : Nat → Prop} {w w' : World} {b : Nat} {o : Obj} (h : Chg S w w') (hb : w.heap[b]? = some o) (hn : ¬ S b) : w'.heap[b]? = some o := (h.block b (lt_of_heap hb) hn).trans hb
theorem grown_none_trans {a b d : World} (h : a.grownBy b none) (k : b.grownBy d none) : a.grownBy d none := ⟨k.os.trans h.os, k.tape.trans h.tape, k.output.trans h.output, Nat.le_trans h.size k.size, fun i hi hn => (k.block i (Nat.lt_of_lt_of_le hi h.size) hn).trans (h.block i hi hn)⟩
theorem grown_drew {a b : World} (h : a.grownBy b none) : a.grownBy b.drew none := ⟨h.os, h.tape, h.output, h.size, h.block⟩
theorem grown_al {a b : World} (h : a.grownBy b none) (o : Obj) : a.grownBy (b.alloc o) none := grown_none_trans h (World.grownBy_alloc b o none)
/-- what kind of block it is -/
def kd (w : World) (b : Nat) : Nat := match w.heap[b]? with
 | some (.cells _ t _) => t + 2
 | some (.map _ _) => 1
 | _ => 0
theorem kd_cells {w : World} {b : Nat} {cs : Array Value} {t : TypeId} {z : Nat × Nat} (h : w.heap[b]? = some (.cells cs t z)) : kd w b = t + 2 := by unfold kd; rw [h]
/-- a slice of n elements of sz cells each, that begins somewhere in its block: its cells are xs -/
def shr (w : World) (e : TypeId) (sz : Nat) (v : Value) (n : Nat) (xs : List Value) : Prop :=
 xs.length = n * sz ∧ ((v = .slice none 0 0 ∧ n = 0) ∨ ∃ g off cap cur, v = .slice (some ⟨g, off, none⟩) n cap ∧ w.heap[g]? = some (.cells cur e (0, 0)) ∧ n ≤ cap ∧ cap ≤ maxLen ∧ (cap = 0 ∨ cur.size = off + cap * sz) ∧ ∀ j u, xs[j]? = some u → cur[off + j]? = some u)
theorem shr_nil (w : World) (e : TypeId) (sz : Nat) : shr w e sz (.slice none 0 0) 0 [] := ⟨by simp, Or.inl ⟨rfl, rfl⟩⟩
theorem shr.kept {w w' : World} {e : TypeId} {sz n : Nat} {v : Value} {xs : List Value} {S : Nat → Prop} (h : shr w e sz v n xs) (hc : Chg S w w') (hn : ∀ g, v.ownBlock = some g → ¬ S g) : shr w' e sz v n xs := by
 refine ⟨h.1, ?_⟩
 rcases h.2 with h | ⟨g, off, cap, cur, rfl, hg, r⟩
 ·exact Or.inl h
 ·exact Or.inr ⟨g, off, cap, cur, rfl, hc.at_ hg (hn g rfl), r⟩
theorem shr.kd {w : World} {e : TypeId} {sz n : Nat} {v : Value} {xs : List Value} (h : shr w e sz v n xs) : ∀ g, v.ownBlock = some g → kd w g = e + 2 ∧ g < w.heap.size := by
 intro g hg
 rcases h.2 with ⟨rfl, _⟩ | ⟨g', off, cap, cur, rfl, hb, _⟩
 ·simp [Value.ownBlock] at hg
 ·simp [Value.ownBlock] at hg; subst hg; exact ⟨kd_cells hb, lt_of_heap hb⟩
theorem shr.form {w : World} {e : TypeId} {sz n : Nat} {v : Value} {xs : List Value} (h : shr w e sz v n xs) : ∃ p c, v = .slice p n c ∧ n ≤ c ∧ c ≤ maxLen ∧ (p = none → n = 0 ∧ c = 0) ∧ v.oneCell' = true := by
 rcases h.2 with ⟨rfl, rfl⟩ | ⟨g, off, cap, cur, rfl, _, h1, h2, _⟩
 ·exact ⟨none, 0, rfl, Nat.le_refl _, by unfold maxLen; omega, fun _ => ⟨rfl, rfl⟩, rfl⟩
 ·exact ⟨_, _, rfl, h1, h2, (fun e => by cases e), rfl⟩
theorem shr.cell {w : World} {e : TypeId} {sz n cap : Nat} {a : Addr} {xs : List Value} (h : shr w e sz (.slice (some a) n cap) n xs) : ∃ g off, a = ⟨g, off, none⟩ ∧ ∀ j u, xs[j]? = some u → w.cell? ⟨g, off + j, none⟩ = some u := by
 rcases h.2 with ⟨h, _⟩ | ⟨g, off, cap', cur, h, hb, _, _, _, hc⟩
 ·cases h
 ·cases h
  exact ⟨g, off, rfl, fun j u hj => (cell_of_block hb (off + j)).trans (hc j u hj)⟩
theorem add_plain (g o j : Nat) : (⟨g, o, none⟩ : Addr).add j = ⟨g, o + j, none⟩ := by unfold Addr.add; split <;> simp_all
theorem setCells_get (b : Nat) : ∀ (vs : List Value) (o : Nat) (w : World) (cs : Array Value) (e : TypeId) (z : Nat × Nat), w.heap[b]? = some (.cells cs e z) → ∃ cs', (w.setCells b o vs).heap[b]? = some (.cells cs' e z) ∧ cs'.size = cs.size ∧ (∀ k, k < o ∨ o + vs.length ≤ k → cs'[k]? = cs[k]?) ∧ (∀ j u, vs[j]? = some u → o + j < cs.size → cs'[o + j]? = some u)
 | [], o, w, cs, e, z, h => ⟨cs, h, rfl, fun _ _ => rfl, fun j u hj => by simp at hj⟩
 | v :: r, o, w, cs, e, z, h => by
  have h1 : (w.setCell ⟨b, o, none⟩ v).heap[b]? = some (.cells (cs.setIfInBounds o v) e z) := block_setCell h v
  obtain ⟨cs', h2, h3, h4, h5⟩ := setCells_get b r (o + 1) _ _ e z h1
  refine ⟨cs', h2, by rw [h3]; simp, fun k hk => ?_, fun j u hj hl => ?_⟩
  ·rw [h4 k (by simp at hk; omega)]
   rw [Array.getElem?_setIfInBounds]
   rw [if_neg (by simp at hk; omega)]
  ·rcases j with _ | j
   ·simp at hj
    subst hj
    rw [Nat.add_zero, h4 o (by omega), Array.getElem?_setIfInBounds]
    simp at hl
    simp [hl]
   ·simp at hj
    have := h5 j u hj (by simp; omega)
    rw [show o + (j + 1) = o + 1 + j by omega]; exact this
theorem setCells_grown (b : Nat) : ∀ (vs : List Value) (o : Nat) (w : World), w.grownBy (w.setCells b o vs) (some b)
 | [], o, w => ⟨rfl, rfl, rfl, Nat.le_refl _, fun _ _ _ => rfl⟩
 | v :: r, o, w => by
  have h1 := grown_setCell w ⟨b, o, none⟩ v
  have h2 := setCells_grown b r (o + 1) (w.setCell ⟨b, o, none⟩ v)
  exact ⟨h2.os.trans h1.os, h2.tape.trans h1.tape, h2.output.trans h1.output, Nat.le_trans h1.size h2.size, fun k hk hn => (h2.block k (Nat.lt_of_lt_of_le hk h1.size) hn).trans (h1.block k hk hn)⟩
theorem info_parts {t : TypeId} {z : Value} {s b : Nat} (h : (Tryz.prog.info? t).map (fun i => (i.zero, i.size, i.bytes)) = some (some z, s, b)) : ∃ i, Tryz.prog.info? t = some i ∧ i.zero = some z ∧ i.size = s ∧ i.bytes = b := by
 cases hi : Tryz.prog.info? t with
 | none => rw [hi] at h; simp at h
 | some i => rw [hi] at h; simp at h; exact ⟨i, rfl, h.1, h.2.1, h.2.2⟩
/-- what a row of a type is: its slice type, its element type, an element's zero value, cells and bytes -/
structure Rw (t e : TypeId) (z : Value) (sz by' : Nat) : Prop where
 sl : Tryz.prog.underlying t = some (.slice e)
 inf : (Tryz.prog.info? e).map (fun i => (i.zero, i.size, i.bytes)) = some (some z, sz, by')
 zs : z.cells.size = sz
 pos : 0 < sz
 sm : by' ≤ 64
/-- elements at a row's end -/
theorem Rw.app {t e : TypeId} {z : Value} {sz by' : Nat} (R : Rw t e z sz by') {w : World} {v : Value} {n m c : Nat} {xs news : List Value} {ad : Addr} (h : shr w e sz v n xs)
  (hm : news.length = m * sz) (hnews : ∀ j u, news[j]? = some u → w.cell? (ad.add j) = some u) (h1 : ∀ u ∈ news, u.oneCell' = true) (hl : n + m ≤ 1000000000) (h0 : 0 < m) :
  ∃ v' w', (∀ ty, (Builtin.append_ #[t, t] ty #[v, .slice (some ad) m c]).run Tryz.prog w = .ok v' w') ∧ shr w' e sz v' (n + m) (xs ++ news) ∧ w.grownBy w' v.ownBlock ∧ (v'.ownBlock = v.ownBlock ∨ ∃ g, v'.ownBlock = some g ∧ w.heap.size ≤ g ∧ g < w'.heap.size) := by
 obtain ⟨i, hi, hz, hs, hb⟩ := info_parts R.inf
 have hsl := R.sl; have hzs := R.zs; have hpos := R.pos; have hsm := R.sm
 clear R
 subst hs hb
 have hby : (n + m) * i.bytes ≤ 140737488355328 := by
  have : (n + m) * i.bytes ≤ 1000000000 * 64 := Nat.mul_le_mul hl hsm
  omega
 have h63 : n + m ≤ maxLen := by unfold maxLen; omega
 have hlen : (xs ++ news).length = (n + m) * i.size := by rw [List.length_append, h.1, hm, Nat.add_mul]
 rcases h.2 with ⟨rfl, rfl⟩ | ⟨g, off, cap, cur, rfl, hg, hnc, hcm, hsz, hcs⟩
 ·obtain rfl : xs = [] := List.eq_nil_of_length_eq_zero (by simpa using h.1)
  rw [Nat.zero_add] at hby h63 hl
  have hr := fun ty => run_append_nil (P := Tryz.prog) w t ty e i z hsl hi hz ad m c news hm hnews h0 (by omega) (by omega)
  have hge := grownCap_ge w m 0 e
  have hcm := grownCap_le_maxLen w m 0 e h63
  refine ⟨_, _, hr, ⟨by simpa using hm, Or.inr ⟨w.heap.size, 0, grownCap w m 0 e, _, by rw [Nat.zero_add], heap_alloc_new _ _, by omega, hcm, Or.inr ?_, fun j u hj => ?_⟩⟩, ⟨rfl, rfl, rfl, by simp, fun k hk _ => heap_alloc_old _ _ (by simpa using hk)⟩, Or.inr ⟨_, rfl, Nat.le_refl _, by simp⟩⟩
  ·rw [Array.size_append, size_zeroCells, hzs, List.size_toArray, hm, ← Nat.add_mul, Nat.zero_add]
   exact congrArg (· * i.size) (by omega)
  ·rw [Nat.zero_add, Array.getElem?_append_left (by simpa using (List.getElem?_eq_some_iff.1 hj).1)]
   simpa using hj
 ·by_cases hroom : n + m ≤ cap
  ·have hcap : 0 < cap := by omega
   have hcur : cur.size = off + cap * i.size := by rcases hsz with h | h; omega; exact h
   have hfit : off + n * i.size + m * i.size ≤ cur.size := by
    have : (n + m) * i.size ≤ cap * i.size := Nat.mul_le_mul_right _ hroom
    rw [Nat.add_mul] at this; omega
   have hr := fun ty => run_append_room_cells (P := Tryz.prog) w t ty e i hsl hi g off n cap ad m c news hm hnews h1 hroom (fun j hj => by
    rw [cell_of_block hg]
    show (cur[off + n * i.size + j]?).isSome = true
    rw [Array.getElem?_eq_getElem (show off + n * i.size + j < cur.size by omega)]; rfl) (fun j _ => unfrozen_of_block hg _)
   obtain ⟨cs', k1, k2, k3, k4⟩ := setCells_get g news (off + n * i.size) w cur e (0, 0) hg
   refine ⟨_, _, hr, ⟨hlen, Or.inr ⟨g, off, cap, cs', rfl, k1, hroom, hcm, Or.inr (by rw [k2]; exact hcur), fun j u hj => ?_⟩⟩, setCells_grown _ _ _ _, Or.inl rfl⟩
   have hxl := h.1
   rcases Nat.lt_or_ge j xs.length with hlt | hge
   ·rw [List.getElem?_append_left hlt] at hj
    rw [k3 _ (Or.inl (by omega))]; exact hcs j u hj
   ·rw [List.getElem?_append_right hge] at hj
    have hjl := (List.getElem?_eq_some_iff.1 hj).1
    have := k4 _ u hj (by omega)
    rw [show off + j = off + n * i.size + (j - xs.length) by omega]; exact this
  ·have hr := fun ty => run_append_grow (P := Tryz.prog) w t ty e i z hsl hi hz ⟨g, off, none⟩ n cap xs h.1 (fun j u hj => by rw [add_plain]; exact (cell_of_block hg _).trans (hcs j u hj)) ad m c news hm hnews (by omega) (by omega) (growslice_fits (by omega) hby)
   have hge := grownCap_ge w (n + m) cap e
   have hcm := grownCap_le_maxLen w (n + m) cap e h63
   refine ⟨_, _, hr, ⟨hlen, Or.inr ⟨w.heap.size, 0, grownCap w (n + m) cap e, _, rfl, heap_alloc_new _ _, hge, hcm, Or.inr ?_, fun j u hj => ?_⟩⟩, ⟨rfl, rfl, rfl, by simp, fun k hk _ => heap_alloc_old _ _ (by simpa using hk)⟩, Or.inr ⟨_, rfl, Nat.le_refl _, by simp⟩⟩
   ·rw [Array.size_append, Array.size_append, size_zeroCells, hzs, List.size_toArray, List.size_toArray, h.1, hm, ← Nat.add_mul, ← Nat.add_mul, Nat.zero_add]
    exact congrArg (· * i.size) (by omega)
   ·have hjl := (List.getElem?_eq_some_iff.1 hj).1
    rw [Nat.zero_add, Array.getElem?_append_left (by simpa using hjl), List.append_toArray]
    simpa using hj
end Go.Proofs.YtclcajnodoifjaaGreatDoor

namespace Go.Proofs.YtclcajnodoifjaaGreatDoor
open Go.RowKit Go.Joins Go.Maps
set_option maxRecDepth 100000

/-- the cells of elements, one behind the other -/
def fl {α : Type} (enc : α → List Value) (l : List α) : List Value := l.flatMap enc
theorem fl_cons {α : Type} (enc : α → List Value) (x : α) (l : List α) : fl enc (x :: l) = enc x ++ fl enc l := rfl
theorem fl_app {α : Type} (enc : α → List Value) (a b : List α) : fl enc (a ++ b) = fl enc a ++ fl enc b := by simp [fl]
theorem fl_len {α : Type} {enc : α → List Value} {s : Nat} (hs : ∀ x, (enc x).length = s) : ∀ l : List α, (fl enc l).length = l.length * s
 | [] => by simp [fl]
 | v :: l => by rw [fl_cons, List.length_append, fl_len hs l, hs, List.length_cons, Nat.add_mul, Nat.one_mul, Nat.add_comm]
theorem fl_get {α : Type} {enc : α → List Value} {s : Nat} (hs : ∀ x, (enc x).length = s) : ∀ (l : List α) (i : Nat) (v : α) (r : Nat), l[i]? = some v → r < s → (fl enc l)[i * s + r]? = (enc v)[r]?
 | [], i, v, r, h, _ => by simp at h
 | x :: l, 0, v, r, h, hr => by
  simp at h; subst h
  rw [fl_cons, Nat.zero_mul, Nat.zero_add, List.getElem?_append_left (by rw [hs]; exact hr)]
 | x :: l, i + 1, v, r, h, hr => by
  simp at h
  have e : (i + 1) * s + r = s + (i * s + r) := by rw [Nat.add_mul, Nat.one_mul]; omega
  rw [fl_cons, List.getElem?_append_right (by rw [hs, e]; omega), ← fl_get hs l i v r h hr, hs, e, Nat.add_sub_cancel_left]
theorem fl_at {α : Type} {enc : α → List Value} {s : Nat} (hs : ∀ x, (enc x).length = s) (h0 : 0 < s) {l : List α} {j : Nat} {u : Value} (h : (fl enc l)[j]? = some u) : ∃ v, l[j / s]? = some v ∧ (enc v)[j % s]? = some u := by
 have hl := (List.getElem?_eq_some_iff.1 h).1
 rw [fl_len hs] at hl
 have hi : j / s < l.length := Nat.div_lt_of_lt_mul (by rw [Nat.mul_comm]; exact hl)
 have hv : l[j / s]? = some l[j / s] := List.getElem?_eq_getElem hi
 refine ⟨_, hv, ?_⟩
 have := fl_get hs l (j / s) _ (j % s) hv (Nat.mod_lt _ h0)
 rw [Nat.mul_comm, Nat.div_add_mod, h] at this
 exact this.symm
theorem fl_one {α : Type} {enc : α → List Value} (h : ∀ x, ∀ u ∈ enc x, u.oneCell' = true) (l : List α) : ∀ u ∈ fl enc l, u.oneCell' = true := by
 intro u hu
 obtain ⟨x, _, hx⟩ := List.mem_flatMap.1 hu
 exact h x u hx
/-- elements put into the room of a row, none too -/
theorem Rw.fits {t e : TypeId} {z : Value} {sz by' : Nat} (R : Rw t e z sz by') {w : World} {g cap n m c : Nat} {xs news : List Value} {P : Option Addr} (h : shr w e sz (.slice (some ⟨g, 0, none⟩) n cap) n xs)
  (hm : news.length = m * sz) (hP : P = none → m = 0 ∧ c = 0) (hnews : ∀ ad, P = some ad → ∀ j u, news[j]? = some u → w.cell? (ad.add j) = some u) (h1 : ∀ u ∈ news, u.oneCell' = true) (hroom : n + m ≤ cap) :
  ∃ w', (∀ ty, (Builtin.append_ #[t, t] ty #[.slice (some ⟨g, 0, none⟩) n cap, .slice P m c]).run Tryz.prog w = .ok (.slice (some ⟨g, 0, none⟩) (n + m) cap) w') ∧ shr w' e sz (.slice (some ⟨g, 0, none⟩) (n + m) cap) (n + m) (xs ++ news) ∧ w.grownBy w' (some g) ∧ w'.heap.size = w.heap.size := by
 obtain ⟨i, hi, hz, hs, hb⟩ := info_parts R.inf
 have hsl := R.sl
 have hlen : (xs ++ news).length = (n + m) * sz := by rw [List.length_append, h.1, hm, Nat.add_mul]
 rcases h.2 with ⟨e1, _⟩ | ⟨g', off, cap', cur, e1, hg, hnc, hcm, hsz, hcs⟩
 ·cases e1
 cases e1
 subst hs
 cases P with
 | none =>
  obtain ⟨rfl, rfl⟩ := hP rfl
  obtain rfl : news = [] := List.eq_nil_of_length_eq_zero (by simpa using hm)
  refine ⟨w, fun ty => ?_, ?_, ⟨rfl, rfl, rfl, Nat.le_refl _, fun _ _ _ => rfl⟩, rfl⟩
  ·simp [Builtin.append_, run_underlying hsl, sizeOf, typeInfo, hi, Builtin.lenOf, Builtin.firstCells, hnc, storeCells]
  ·rw [List.append_nil]; exact h
 | some ad =>
  by_cases hm0 : m = 0
  ·subst hm0
   obtain rfl : news = [] := List.eq_nil_of_length_eq_zero (by simpa using hm)
   have hr := fun ty => run_append_room_cells (P := Tryz.prog) w t ty e i hsl hi g 0 n cap ad 0 c [] (by simp) (fun j u hj => by simp at hj) (fun u hu => by simp at hu) hroom (fun j hj => by simp at hj) (fun j hj => by simp at hj)
   refine ⟨w, hr, ?_, ⟨rfl, rfl, rfl, Nat.le_refl _, fun _ _ _ => rfl⟩, rfl⟩
   rw [List.append_nil]; exact h
  ·have hcur : cur.size = 0 + cap * i.size := by rcases hsz with h | h; omega; exact h
   have hfit : 0 + n * i.size + m * i.size ≤ cur.size := by
    have : (n + m) * i.size ≤ cap * i.size := Nat.mul_le_mul_right _ hroom
    rw [Nat.add_mul] at this; omega
   have hr := fun ty => run_append_room_cells (P := Tryz.prog) w t ty e i hsl hi g 0 n cap ad m c news hm (hnews ad rfl) h1 hroom (fun j hj => by
    rw [cell_of_block hg]
    show (cur[0 + n * i.size + j]?).isSome = true
    rw [Array.getElem?_eq_getElem (show 0 + n * i.size + j < cur.size by omega)]; rfl) (fun j _ => unfrozen_of_block hg _)
   obtain ⟨cs', k1, k2, k3, k4⟩ := setCells_get g news (0 + n * i.size) w cur e (0, 0) hg
   refine ⟨_, hr, ⟨hlen, Or.inr ⟨g, 0, cap, cs', rfl, k1, hroom, hcm, Or.inr (by rw [k2]; exact hcur), fun j u hj => ?_⟩⟩, setCells_grown _ _ _ _, ?_⟩
   ·have hxl := h.1
    rcases Nat.lt_or_ge j xs.length with hlt | hge
    ·rw [List.getElem?_append_left hlt] at hj
     rw [k3 _ (Or.inl (by omega))]; exact hcs j u hj
    ·rw [List.getElem?_append_right hge] at hj
     have hjl := (List.getElem?_eq_some_iff.1 hj).1
     have := k4 _ u hj (by omega)
     rw [show 0 + j = 0 + n * i.size + (j - xs.length) by omega]; exact this
   ·have : ∀ (vs : List Value) (o : Nat) (w : World), (w.setCells g o vs).heap.size = w.heap.size := by
     intro vs
     induction vs with
     | nil => intro o w; rfl
     | cons v r ih => intro o w; show ((w.setCell ⟨g, o, none⟩ v).setCells g (o + 1) r).heap.size = _; rw [ih]; simp
    exact this _ _ _
theorem wp_make (t : TypeId) {ops : Array Oper} {rest : List Oper} {o : Oper} {a : Act} {w : World} {Q : Exit → Act → World → Prop} (hgd : o.guard = none) (l c : Operand) (ho : o.op = .makeSlice t l c)
  {v y v' : Value} {w' : World} (hs : a.eval l = v) (hx : a.eval c = y) (hr : (Instr.makeSlice t v y).run Tryz.prog w = .ok v' w') (h : wpList Tryz.prog ops Q rest (a.put o.dst v') w') : wpList Tryz.prog ops Q (o :: rest) a w := by
 refine wpList_plain hgd fun K hK => ?_
 unfold Oper.wp
 simp [execOp, ho, hs, hx, hr, Result.andThen]
 exact hK _ _ h
theorem wp_app (t : TypeId) {ops : Array Oper} {rest : List Oper} {o : Oper} {a : Act} {w : World} {Q : Exit → Act → World → Prop} (hgd : o.guard = none) (s x : Operand) (ho : o.op = .call { callee := .builtin .append, args := #[s, x], argTypes := #[t, t] })
  {v y v' : Value} {w' : World} (hs : a.eval s = v) (hx : a.eval x = y) (hr : ∀ ty, (Builtin.append_ #[t, t] ty #[v, y]).run Tryz.prog w = .ok v' w') (h : wpList Tryz.prog ops Q rest (a.put o.dst v') w') : wpList Tryz.prog ops Q (o :: rest) a w := by
 refine wpList_plain hgd fun K hK => ?_
 unfold Oper.wp execOp
 simp only [ho, resolve, invoke, builtin, Sem.run_bind, Sem.run_pure, Result.andThen_ok, List.map_toArray, List.map_cons, List.map_nil, hs, hx, hr]
 exact hK _ _ h
/-- a copy of a list that is not empty -/
theorem Rw.clone {t e : TypeId} {z : Value} {sz by' : Nat} (R : Rw t e z sz by') (w : World) (ad : Addr) (n c : Nat) (xs : List Value) (hx : xs.length = n * sz) (hc : ∀ j u, xs[j]? = some u → w.cell? (ad.add j) = some u) (h0 : 0 < n) (hl : n ≤ 1000000000) :
  ∃ cap w', (∀ ty, (Builtin.append_ #[t, t] ty #[.slice (some ⟨w.heap.size, 0, none⟩) 0 0, .slice (some ad) n c]).run Tryz.prog (w.alloc (.cells #[] e)) = .ok (.slice (some ⟨w.heap.size + 1, 0, none⟩) n cap) w') ∧ shr w' e sz (.slice (some ⟨w.heap.size + 1, 0, none⟩) n cap) n xs ∧ w.grownBy w' none ∧ w'.heap.size = w.heap.size + 1 + 1 := by
 obtain ⟨i, hi, hz, hs, hb⟩ := info_parts R.inf
 have hsm := R.sm
 have hby : n * i.bytes ≤ 140737488355328 := by
  have : n * i.bytes ≤ 1000000000 * 64 := Nat.mul_le_mul hl (by omega)
  omega
 have ga := World.grownBy_alloc w (.cells #[] e) none
 subst hs
 have hr := fun ty => run_append_grow (P := Tryz.prog) (w.alloc (.cells #[] e)) t ty e i z R.sl hi hz ⟨w.heap.size, 0, none⟩ 0 0 [] (by simp) (fun j u hj => by simp at hj) ad n c xs hx (fun j u hj => ga.cell (hc j u hj) (by simp)) (by omega) (by omega) (growslice_fits (by omega) (by rw [Nat.zero_add]; exact hby))
 have hsz : (w.alloc (.cells #[] e)).heap.size = w.heap.size + 1 := by simp
 have hge := grownCap_ge (w.alloc (.cells #[] e)) (0 + n) 0 e
 have hcm := grownCap_le_maxLen (w.alloc (.cells #[] e)) (0 + n) 0 e (by unfold maxLen; omega)
 rw [hsz] at hr
 rw [Nat.zero_add] at hr hge hcm
 have hg2 : w.grownBy ((w.alloc (.cells #[] e)).drew.alloc (.cells (([] : List Value).toArray ++ xs.toArray ++ Builtin.zeroCells z.cells (grownCap (w.alloc (.cells #[] e)) n 0 e - n)) e)) none := grown_al (grown_drew ga) _
 have hat : ((w.alloc (.cells #[] e)).drew.alloc (.cells (([] : List Value).toArray ++ xs.toArray ++ Builtin.zeroCells z.cells (grownCap (w.alloc (.cells #[] e)) n 0 e - n)) e)).heap[w.heap.size + 1]? = some (.cells (([] : List Value).toArray ++ xs.toArray ++ Builtin.zeroCells z.cells (grownCap (w.alloc (.cells #[] e)) n 0 e - n)) e (0, 0)) := by
  have := heap_alloc_new (w.alloc (.cells #[] e)).drew (.cells (([] : List Value).toArray ++ xs.toArray ++ Builtin.zeroCells z.cells (grownCap (w.alloc (.cells #[] e)) n 0 e - n)) e)
  rw [show (w.alloc (.cells #[] e)).drew.heap.size = w.heap.size + 1 from hsz] at this
  exact this
 refine ⟨_, _, hr, ⟨hx, Or.inr ⟨w.heap.size + 1, 0, _, _, rfl, hat, hge, hcm, Or.inr ?_, fun j u hj => ?_⟩⟩, hg2, by simp⟩
 ·rw [Array.size_append, Array.size_append, size_zeroCells, R.zs, List.size_toArray, List.size_toArray, hx, List.length_nil, Nat.zero_add, ← Nat.add_mul, Nat.zero_add]
  exact congrArg (· * i.size) (by omega)
 ·have hjl := (List.getElem?_eq_some_iff.1 hj).1
  rw [Nat.zero_add, Array.getElem?_append_left (by simpa using hjl), List.append_toArray]
  simpa using hj
end Go.Proofs.YtclcajnodoifjaaGreatDoor

