/-
  A disk in memory: its block, its map of names, its files, its open changes of names.
-/
import Derived.Test.YtlfcmhofpieacaaProg
import Derived.WalkKit
import Derived.WalkSpells
import Derived.WalkLawsBesides
import Derived.Lib.OthersKept
import Derived.OwnWalk
import Derived.Maps.OwnOps
import Derived.Maps.OwnSet
import Derived.Maps.RangeWalk
import Derived.Maps.AppendAt
import Derived.Lib.SmallJoins
namespace Go.Proofs.Ytlfcmhofpieacaa
open Go.RowKit Go.Maps Go.Joins

/-- bytes as cells -/
def by8 (l : List UInt8) : List Value := l.map fun x => Value.int .u8 (x.toNat : Int)
theorem by8_len (l : List UInt8) : (by8 l).length = l.length := by simp [by8]
theorem by8_app (l m : List UInt8) : by8 (l ++ m) = by8 l ++ by8 m := by simp [by8]
theorem by8_take (l : List UInt8) (n : Nat) : by8 (l.take n) = (by8 l).take n := by simp [by8, List.map_take]
theorem by8_one (l : List UInt8) : ∀ u ∈ by8 l, u.oneCell' = true := by
  intro u hu; simp only [by8, List.mem_map] at hu; obtain ⟨x, _, rfl⟩ := hu; rfl
/-- the slice holds these bytes, in memory of its own -/
def ownsB (w : World) (base : Nat) (v : Value) (l : List UInt8) : Prop := w.ownsRow base 5 1 v l.length (by8 l)
theorem ownsB_nil (w : World) (base : Nat) : ownsB w base (.slice none 0 0) [] := World.ownsRow_nil _ _ _ _
theorem own_ge {w : World} {base size n : Nat} {e : TypeId} {v : Value} {xs : List Value} (h : w.ownsRow base e size v n xs) : ∀ g, v.ownBlock = some g → base ≤ g := by
  intro g hg
  rcases h.2 with ⟨rfl, _⟩ | ⟨g', cap, cur, rfl, hb, _⟩
  · simp [Value.ownBlock] at hg
  · simp [Value.ownBlock] at hg; omega
theorem own_kind {w : World} {base size n : Nat} {e : TypeId} {v : Value} {xs : List Value} (h : w.ownsRow base e size v n xs) : ∀ g, v.ownBlock = some g → ∃ cs, w.heap[g]? = some (.cells cs e (0, 0)) := by
  intro g hg
  rcases h.2 with ⟨rfl, _⟩ | ⟨g', cap, cur, rfl, _, hc, _⟩
  · simp [Value.ownBlock] at hg
  · simp [Value.ownBlock] at hg; subst hg; exact ⟨_, hc⟩
theorem below_own {w w' : World} {base : Nat} {row : Option Nat} (h : w.grownBy w' row) (hb : base ≤ w.heap.size) (hr : ∀ g, row = some g → base ≤ g) : Below base w w' :=
  ⟨h.os, h.tape, h.output, h.size, fun k hk => h.block k (Nat.lt_of_lt_of_le hk hb) (fun e => by have := hr k e.symm; omega)⟩
theorem u8Info : (Try.prog.info? 5).map (fun i => (i.zero, i.size, i.bytes)) = some (some (.int .u8 0), 1, 1) := by kernel_rfl
theorem u8Slice : Try.prog.underlying 22 = some (.slice 5) := by kernel_rfl
theorem u8T : Try.prog.underlying 5 = some (.int .u8) := by kernel_rfl
theorem strT : Try.prog.underlying 9 = some .string := by kernel_rfl
theorem mapT : Try.prog.underlying 37 = some (.map 9 42) := by kernel_rfl
theorem zeroP (w : World) : (zeroValue 42).run Try.prog w = .ok (.pointer none) w := by kernel_rfl
theorem keyS : Keyed Try.prog 9 := string_keyed strT
theorem grown_setCell (w : World) (a : Addr) (u : Value) : w.grownBy (w.setCell a u) (some a.block) :=
  ⟨rfl, rfl, rfl, by simp, fun k _ hk => heap_setCell_other w a k u (fun e => hk (by rw [e]))⟩
theorem lt_of_heap {w : World} {b : Nat} {o : Obj} (h : w.heap[b]? = some o) : b < w.heap.size := by
  rw [Array.getElem?_eq_some_iff] at h; exact h.1

/-- what a pointer to a file reads as: the number of its block -/
def ptrR : Value → Option (DataW Unit × List MemPlace)
  | .pointer none => some (.nil, [])
  | .pointer (some ⟨b, 0, none⟩) => some (.lit (.int .i64 b), [])
  | _ => none
theorem ptrR_mk (b : Nat) : ptrR (.pointer (some ⟨b, 0, none⟩)) = some (.lit (.int .i64 b), []) := rfl
theorem ptrR_inv {v : Value} {y : DataW Unit × List MemPlace} (h : ptrR v = some y) : (v = .pointer none ∧ y = (.nil, [])) ∨ ∃ b : Nat, v = .pointer (some ⟨b, 0, none⟩) ∧ y = (.lit (.int .i64 b), []) := by
  unfold ptrR at h
  split at h
  · cases h; exact Or.inl ⟨rfl, rfl⟩
  · cases h; exact Or.inr ⟨_, rfl, rfl⟩
  · cases h

/-- a file: its block, its slice, its bytes, how many stand fast -/
structure Fl where
  b : Nat
  v : Value
  l : List UInt8
  k : Nat
structure FlOk (w : World) (base : Nat) (x : Fl) : Prop where
  ge : base ≤ x.b
  at_ : w.heap[x.b]? = some (.cells #[x.v, .int .i64 (x.k : Int)] 44 (0, 0))
  row : ownsB w base x.v x.l
  kl : x.k ≤ x.l.length
  ll : x.l.length ≤ 100000000
theorem FlOk.kept {w w' : World} {base : Nat} {x : Fl} {row : Option Nat} (h : FlOk w base x) (hg : w.grownBy w' row) (h1 : some x.b ≠ row) (h2 : x.v.ownBlock = none ∨ x.v.ownBlock ≠ row) : FlOk w' base x :=
  ⟨h.ge, (hg.block x.b (lt_of_heap h.at_) h1).trans h.at_, World.ownsRow.kept h.row hg h2, h.kl, h.ll⟩
/-- files, each in memory of its own -/
structure Fls (w : World) (base : Nat) (xs : List Fl) : Prop where
  ok : ∀ x ∈ xs, FlOk w base x
  nb : xs.Pairwise fun x y => x.b ≠ y.b
  nv : xs.Pairwise fun x y => ∀ g, x.v.ownBlock = some g → y.v.ownBlock ≠ some g
/-- a block that holds no file and no bytes -/
def other (o : Option Obj) : Prop := ∀ cs fr, o ≠ some (.cells cs 44 fr) ∧ o ≠ some (.cells cs 5 fr)
theorem Fls.kept {w w' : World} {base : Nat} {xs : List Fl} {row : Option Nat} (h : Fls w base xs) (hg : w.grownBy w' row) (hr : ∀ r, row = some r → other w.heap[r]?) : Fls w' base xs := by
  refine ⟨fun x hx => (h.ok x hx).kept hg (fun e => ?_) ?_, h.nb, h.nv⟩
  · exact (hr _ e.symm _ _).1 (h.ok x hx).at_
  · cases hv : x.v.ownBlock with
    | none => exact Or.inl rfl
    | some g =>
      refine Or.inr (fun e => ?_)
      obtain ⟨cs, hc⟩ := own_kind (h.ok x hx).row g hv
      exact (hr g e.symm _ _).2 hc
/-- the disk's own block -/
def FsAt (w : World) (f : Nat) (q : Int) (mo : Option Nat) (ov : Value) (st : Int) : Prop := w.heap[f]? = some (.cells #[.int .i64 q, .map mo, ov, .int .i64 st] 40 (0, 0))
/-- an entry of the map of names -/
def ent (p : List UInt8 × Fl) : Lit × DataW Unit := (.string p.1, .lit (.int .i64 (p.2.b : Int)))
def Mp (w : World) (m : Nat) (xs : List (List UInt8 × Fl)) : Prop := w.ownsMap Try.prog 9 ptrR m xs.length (.map (xs.map ent))
theorem own_tight {w : World} {P : Program} {k : TypeId} {R : Value → Option (DataW Unit × List MemPlace)} {b n : Nat} {es : List (Lit × DataW Unit)} (h : w.ownsMap P k R b n (.map es)) : w.ownsMap P k R b es.length (.map es) := by
  obtain ⟨es0, clock, hb, F, _, hD⟩ := h
  refine ⟨es0, clock, hb, F, ?_, hD⟩
  rw [DataW.map.injEq] at hD
  rw [hD, length_sorted]; simp
theorem Mp.kind {w : World} {m : Nat} {xs : List (List UInt8 × Fl)} (h : Mp w m xs) : ∃ es c, w.heap[m]? = some (.map es c) := by
  obtain ⟨es, c, hb, _⟩ := h; exact ⟨es, c, hb⟩
theorem other_map {o : Option Obj} {es : Array MapEntry} {c : Nat} (h : o = some (.map es c)) : other o := by subst h; intro cs fr; simp
theorem other_cells {o : Option Obj} {cs : Array Value} {t : TypeId} {fr : Nat × Nat} (h : o = some (.cells cs t fr)) (h1 : t ≠ 44) (h2 : t ≠ 5) : other o := by
  subst h; intro cs' fr'; simp only [ne_eq, Option.some.injEq, Obj.cells.injEq, not_and]; exact ⟨fun _ e => absurd e h1, fun _ e => absurd e h2⟩
end Go.Proofs.Ytlfcmhofpieacaa
