/-
  A disk in memory: its block, its map of names, its files, its open changes of names.
-/
import Derived.Test.YtdiehlioemmakaaProg
import Derived.WalkKit
import Derived.WalkSpells
import Derived.WalkLawsBesides
import Derived.Lib.OthersKept
import Derived.OwnWalk
import Derived.Maps.OwnOps
import Derived.Maps.OwnSet
import Derived.Maps.RangeWalk
import Derived.Maps.AppendAt
import Derived.Lib.SmallJoins
import Derived.BigQuiet
import Derived.Deep.QuietTactic
import Derived.Deep.RegionHeld3
import Derived.Laws.OwnMore
namespace Go.Proofs.Ytdiehlioemmakaa
open Go.RowKit Go.Maps Go.Joins
theorem zA9 {α : Type _} (l : List α) (i : Nat) (a : α) : l.toArray.setIfInBounds i a = (l.set i a).toArray := by simp
theorem zB9 {α : Type _} (x : α) (xs : List α) (a : α) : (x :: xs).set 0 a = a :: xs := rfl
theorem zC9 {α : Type _} (x : α) (xs : List α) (n : Nat) (a : α) : (x :: xs).set (n + 1) a = x :: xs.set n a := rfl

/-- bytes as cells -/
def by8 (l : List UInt8) : List Value := l.map fun x => Value.int .u8 (x.toNat : Int)
theorem by8_len (l : List UInt8) : (by8 l).length = l.length := by simp [by8]
theorem by8_app (l m : List UInt8) : by8 (l ++ m) = by8 l ++ by8 m := by simp [by8]
theorem by8_take (l : List UInt8) (n : Nat) : by8 (l.take n) = (by8 l).take n := by simp [by8, List.map_take]
theorem by8_one (l : List UInt8) : ∀ u ∈ by8 l, u.oneCell' = true := by
  intro u hu; simp only [by8, List.mem_map] at hu; obtain ⟨x, _, rfl⟩ := hu; rfl
/-- the slice holds these bytes, in memory of its own -/
def ownsB (w : World) (base : Nat) (v : Value) (l : List UInt8) : Prop := w.ownsRow base 5 1 v l.length (by8 l)
theorem ownsB_nil (w : World) (base : Nat) : ownsB w base (.slice none 0 0) [] := World.ownsRow_nil _ _ _ _
theorem own_ge {w : World} {base size n : Nat} {e : TypeId} {v : Value} {xs : List Value} (h : w.ownsRow base e size v n xs) : ∀ g, v.ownBlock = some g → base ≤ g := by
  intro g hg
  rcases h.2 with ⟨rfl, _⟩ | ⟨g', cap, cur, rfl, hb, _⟩
  · simp [Value.ownBlock] at hg
  · simp [Value.ownBlock] at hg; omega
theorem own_kind {w : World} {base size n : Nat} {e : TypeId} {v : Value} {xs : List Value} (h : w.ownsRow base e size v n xs) : ∀ g, v.ownBlock = some g → ∃ cs, w.heap[g]? = some (.cells cs e (0, 0)) := by
  intro g hg
  rcases h.2 with ⟨rfl, _⟩ | ⟨g', cap, cur, rfl, _, hc, _⟩
  · simp [Value.ownBlock] at hg
  · simp [Value.ownBlock] at hg; subst hg; exact ⟨_, hc⟩
theorem below_own {w w' : World} {base : Nat} {row : Option Nat} (h : w.grownBy w' row) (hb : base ≤ w.heap.size) (hr : ∀ g, row = some g → base ≤ g) : Below base w w' :=
  ⟨h.os, h.tape, h.output, h.size, fun k hk => h.block k (Nat.lt_of_lt_of_le hk hb) (fun e => by have := hr k e.symm; omega)⟩
theorem u8Info : (Try.prog.info? 5).map (fun i => (i.zero, i.size, i.bytes)) = some (some (.int .u8 0), 1, 1) := by kernel_rfl
theorem u8Slice : Try.prog.underlying 27 = some (.slice 5) := by kernel_rfl
theorem u8T : Try.prog.underlying 5 = some (.int .u8) := by kernel_rfl
theorem strT : Try.prog.underlying 9 = some .string := by kernel_rfl
theorem mapT : Try.prog.underlying 64 = some (.map 9 68) := by kernel_rfl
theorem zeroP (w : World) : (zeroValue 68).run Try.prog w = .ok (.pointer none) w := by kernel_rfl
theorem keyS : Keyed Try.prog 9 := string_keyed strT
theorem grown_setCell (w : World) (a : Addr) (u : Value) : w.grownBy (w.setCell a u) (some a.block) :=
  ⟨rfl, rfl, rfl, by simp, fun k _ hk => heap_setCell_other w a k u (fun e => hk (by rw [e]))⟩
theorem lt_of_heap {w : World} {b : Nat} {o : Obj} (h : w.heap[b]? = some o) : b < w.heap.size := by
  rw [Array.getElem?_eq_some_iff] at h; exact h.1

/-- what a pointer to a file reads as: the number of its block -/
def ptrR : Value → Option (DataW Unit × List MemPlace)
  | .pointer none => some (.nil, [])
  | .pointer (some ⟨b, 0, none⟩) => some (.lit (.int .i64 b), [])
  | _ => none
theorem ptrR_mk (b : Nat) : ptrR (.pointer (some ⟨b, 0, none⟩)) = some (.lit (.int .i64 b), []) := rfl
theorem ptrR_inv {v : Value} {y : DataW Unit × List MemPlace} (h : ptrR v = some y) : (v = .pointer none ∧ y = (.nil, [])) ∨ ∃ b : Nat, v = .pointer (some ⟨b, 0, none⟩) ∧ y = (.lit (.int .i64 b), []) := by
  unfold ptrR at h
  split at h
  · cases h; exact Or.inl ⟨rfl, rfl⟩
  · cases h; exact Or.inr ⟨_, rfl, rfl⟩
  · cases h

/-- a file: its block, its slice, its bytes, how many stand fast -/
structure Fl where
  b : Nat
  v : Value
  l : List UInt8
  k : Nat
structure FlOk (w : World) (base : Nat) (x : Fl) : Prop where
  ge : base ≤ x.b
  at_ : w.heap[x.b]? = some (.cells #[x.v, .int .i64 (x.k : Int)] 86 (0, 0))
  row : ownsB w base x.v x.l
  kl : x.k ≤ x.l.length
  ll : x.l.length ≤ 100000000
theorem FlOk.kept {w w' : World} {base : Nat} {x : Fl} {row : Option Nat} (h : FlOk w base x) (hg : w.grownBy w' row) (h1 : some x.b ≠ row) (h2 : x.v.ownBlock = none ∨ x.v.ownBlock ≠ row) : FlOk w' base x :=
  ⟨h.ge, (hg.block x.b (lt_of_heap h.at_) h1).trans h.at_, World.ownsRow.kept h.row hg h2, h.kl, h.ll⟩
/-- files, each in memory of its own -/
structure Fls (w : World) (base : Nat) (xs : List Fl) : Prop where
  ok : ∀ x ∈ xs, FlOk w base x
  nb : xs.Pairwise fun x y => x.b ≠ y.b
  nv : xs.Pairwise fun x y => ∀ g, x.v.ownBlock = some g → y.v.ownBlock ≠ some g
/-- a block that holds no file and no bytes -/
def other (o : Option Obj) : Prop := ∀ cs fr, o ≠ some (.cells cs 86 fr) ∧ o ≠ some (.cells cs 5 fr)
theorem Fls.kept {w w' : World} {base : Nat} {xs : List Fl} {row : Option Nat} (h : Fls w base xs) (hg : w.grownBy w' row) (hr : ∀ r, row = some r → other w.heap[r]?) : Fls w' base xs := by
  refine ⟨fun x hx => (h.ok x hx).kept hg (fun e => ?_) ?_, h.nb, h.nv⟩
  · exact (hr _ e.symm _ _).1 (h.ok x hx).at_
  · cases hv : x.v.ownBlock with
    | none => exact Or.inl rfl
    | some g =>
      refine Or.inr (fun e => ?_)
      obtain ⟨cs, hc⟩ := own_kind (h.ok x hx).row g hv
      exact (hr g e.symm _ _).2 hc
/-- the disk's own block -/
def FsAt (w : World) (f : Nat) (q : Int) (mo : Option Nat) (ov : Value) (st : Int) : Prop := w.heap[f]? = some (.cells #[.int .i64 q, .map mo, ov, .int .i64 st] 67 (0, 0))
/-- an entry of the map of names -/
def ent (p : List UInt8 × Fl) : Lit × DataW Unit := (.string p.1, .lit (.int .i64 (p.2.b : Int)))
def Mp (w : World) (m : Nat) (xs : List (List UInt8 × Fl)) : Prop := w.ownsMap Try.prog 9 ptrR m xs.length (.map (xs.map ent))
theorem own_tight {w : World} {P : Program} {k : TypeId} {R : Value → Option (DataW Unit × List MemPlace)} {b n : Nat} {es : List (Lit × DataW Unit)} (h : w.ownsMap P k R b n (.map es)) : w.ownsMap P k R b es.length (.map es) := by
  obtain ⟨es0, clock, hb, F, _, hD⟩ := h
  refine ⟨es0, clock, hb, F, ?_, hD⟩
  rw [DataW.map.injEq] at hD
  rw [hD, length_sorted]; simp
theorem Mp.kind {w : World} {m : Nat} {xs : List (List UInt8 × Fl)} (h : Mp w m xs) : ∃ es c, w.heap[m]? = some (.map es c) := by
  obtain ⟨es, c, hb, _⟩ := h; exact ⟨es, c, hb⟩
theorem other_map {o : Option Obj} {es : Array MapEntry} {c : Nat} (h : o = some (.map es c)) : other o := by subst h; intro cs fr; simp
theorem other_cells {o : Option Obj} {cs : Array Value} {t : TypeId} {fr : Nat × Nat} (h : o = some (.cells cs t fr)) (h1 : t ≠ 86) (h2 : t ≠ 5) : other o := by
  subst h; intro cs' fr'; simp only [ne_eq, Option.some.injEq, Obj.cells.injEq, not_and]; exact ⟨fun _ e => absurd e h1, fun _ e => absurd e h2⟩
end Go.Proofs.Ytdiehlioemmakaa

namespace Go.Proofs.Ytdiehlioemmakaa
open Go.RowKit Go.Maps Go.Joins

/-- a text that can be a name -/
def okN (s : ByteArray) : Prop := 1 ≤ s.size ∧ s.size ≤ 64 ∧ ∀ k (h : k < s.size), 33 ≤ (s[k]'h).toNat ∧ (s[k]'h).toNat ≤ 126
set_option maxHeartbeats 1000000 in
set_option maxRecDepth 100000 in
theorem canBe_ok (s : ByteArray) (w : World) (h : okN s) : Calls Try.prog 62 #[.string s] w fun e w' => e = .returned (.bool true) ∧ w' = w := by
  obtain ⟨h1, h2, hb⟩ := h
  have hne : (s.toList == []) = false := by
    rw [beq_eq_false_iff_ne]; intro e
    have := congrArg List.length e
    rw [Lib.toList_data, Array.length_toList, List.length_nil] at this
    have e2 : s.data.size = s.size := rfl
    omega
  have h3 : (s.size : Int) ≤ 64 := by omega
  go_enter Try.func62, Try.ntmps62
  go_wp2_with fail
  go_loop [6] (fun si => ∃ k : Nat, si = .int .i64 k ∧ k ≤ s.size) (fun si => s.size - (intOf si).toNat)
  case atStart => exact ⟨0, rfl, Nat.zero_le _⟩
  case round =>
    obtain ⟨k, rfl, hk⟩ := hrel
    by_cases hlt : k < s.size
    · obtain ⟨g1, g2⟩ := hb k hlt
      have c1 : ¬ ((s[k]'hlt).toNat : Int) ≤ 32 := by omega
      have c2 : ¬ (126 : Int) < ((s[k]'hlt).toNat : Int) := by omega
      go_wp2_with fail
      go_round
      case rel => exact ⟨k + 1, by go_num, hlt⟩
      case measure => simp [intOf]; omega
    · go_wp2_with fail
      go_ret
      exact ⟨rfl, rfl⟩

theorem FsAt.c {w : World} {f : Nat} {q st : Int} {mo : Option Nat} {ov : Value} (h : FsAt w f q mo ov st) : w.cell? ⟨f, 0, none⟩ = some (.int .i64 q) ∧ w.cell? ⟨f, 1, none⟩ = some (.map mo) ∧ w.cell? ⟨f, 2, none⟩ = some ov ∧ w.cell? ⟨f, 3, none⟩ = some (.int .i64 st) ∧ (∀ i, w.frozen? ⟨f, i, none⟩ = false) :=
  ⟨(cell_of_block h 0).trans rfl, (cell_of_block h 1).trans rfl, (cell_of_block h 2).trans rfl, (cell_of_block h 3).trans rfl, fun i => unfrozen_of_block h i⟩
theorem FsAt.kept {w w' : World} {f : Nat} {q st : Int} {mo : Option Nat} {ov : Value} {row : Option Nat} (h : FsAt w f q mo ov st) (hg : w.grownBy w' row) (h1 : some f ≠ row) : FsAt w' f q mo ov st :=
  (hg.block f (lt_of_heap h) h1).trans h
theorem FlOk.c {w : World} {base : Nat} {x : Fl} (h : FlOk w base x) : w.cell? ⟨x.b, 0, none⟩ = some x.v ∧ w.cell? ⟨x.b, 1, none⟩ = some (.int .i64 (x.k : Int)) ∧ (∀ i, w.frozen? ⟨x.b, i, none⟩ = false) :=
  ⟨(cell_of_block h.at_ 0).trans rfl, (cell_of_block h.at_ 1).trans rfl, fun i => unfrozen_of_block h.at_ i⟩

set_option maxHeartbeats 1000000 in
set_option maxRecDepth 100000 in
theorem refuses_no (f : Nat) (q : Int) (mo : Option Nat) (ov : Value) (w : World) (h : FsAt w f q mo ov 0) : Calls Try.prog 53 #[.pointer (some ⟨f, 0, none⟩)] w fun e w' => e = .returned (.bool false) ∧ w' = w := by
  obtain ⟨c0, c1, c2, c3, cf⟩ := h.c
  clear h c0 c1 c2
  go_enter Try.func53, Try.ntmps53
  go_wp2_with fail
  go_ret
  exact ⟨rfl, rfl⟩

set_option maxHeartbeats 1000000 in
set_option maxRecDepth 100000 in
theorem named_ok (f m : Nat) (q st : Int) (ov : Value) (s : ByteArray) (b : Nat) (xs : List (List UInt8 × Fl)) (w : World) (h : FsAt w f q (some m) ov st) (hm : Mp w m xs) (hn : okN s) (hat : (DataW.map (xs.map ent)).atKey (.string s.data.toList) .nil = .lit (.int .i64 (b : Int))) :
    Calls Try.prog 58 #[.pointer (some ⟨f, 0, none⟩), .string s] w fun e w' => e = .returned (.tuple #[.pointer (some ⟨b, 0, none⟩), .int .i64 0]) ∧ w' = w := by
  obtain ⟨c0, c1, c2, c3, cf⟩ := h.c
  have CB : Hid (∀ w, Calls Try.prog 62 #[.string s] w fun e w' => e = .returned (.bool true) ∧ w' = w) := fun w => canBe_ok s w hn
  have hs : s.size ≤ maxLen := by have := hn.2.1; unfold maxLen; omega
  obtain ⟨v, ps, hrun, hR⟩ := World.ownsMap.lookup hm keyS mapT (zeroP w) (zd := .nil) (zp := []) rfl (WideMaps.keyOf_string_mk strT hs)
  rw [hat] at hR
  obtain rfl : v = .pointer (some ⟨b, 0, none⟩) := by
    rcases ptrR_inv hR with ⟨_, e⟩ | ⟨b', rfl, e⟩
    · cases e
    · cases e; rfl
  clear hR h c0 c2 c3 hm hat
  go_enter Try.func58, Try.ntmps58
  go_wp2_with fail
  refine (CB.out _).mono ?_
  rintro e w1 ⟨rfl, rfl⟩
  go_wp2_with fail
  go_ret2
  exact ⟨rfl, rfl⟩

set_option maxHeartbeats 1000000 in
set_option maxRecDepth 100000 in
theorem New_ok (q : Int) (w : World) (h0 : 0 ≤ q) (h1 : q ≤ 16777216) : Calls Try.prog 25 #[.int .i64 q] w fun e w' => e = .returned (.tuple #[.pointer (some ⟨w.heap.size, 0, none⟩), .int .i64 0]) ∧ FsAt w' w.heap.size q none (.slice none 0 0) 0 ∧ Below w.heap.size w w' ∧ w'.heap.size = w.heap.size + 1 := by
  go_enter Try.func25, Try.ntmps25
  go_wp2_with fail
  go_ret2
  exact ⟨rfl, heap_alloc_new _ _, (Below.refl _ _).alloc (Nat.le_refl _) _, by simp⟩

/-- how many of so many stay -/
def kp (says : Int) (many : Nat) : Nat := (max 0 says).toNat % (many + 1)
set_option maxHeartbeats 1000000 in
set_option maxRecDepth 100000 in
theorem kept_any (says : Int) (many : Nat) (w : World) (hs : -9223372036854775808 ≤ says ∧ says ≤ 9223372036854775807) (hm : many ≤ 1000000000) : Calls Try.prog 74 #[.int .i64 says, .int .i64 (many : Int)] w fun e w' => e = .returned (.int .i64 (kp says many : Int)) ∧ w' = w := by
  by_cases h : says ≤ 0
  · have e2 : kp says many = 0 := by unfold kp; rw [show (max 0 says).toNat = 0 by omega]; exact Nat.zero_mod _
    rw [e2]
    have e6 : max 0 says = 0 := by omega
    have e5 : ((many : Int) + 1 == 0) = false := by rw [beq_eq_false_iff_ne]; omega
    clear e2
    go_enter Try.func74, Try.ntmps74
    go_wp2_with fail
    go_ret
    exact ⟨by first | rfl | simp, rfl⟩
  · obtain ⟨n, rfl⟩ : ∃ n : Nat, says = (n : Int) := ⟨says.toNat, by omega⟩
    have e2 : kp (n : Int) many = n % (many + 1) := by unfold kp; rw [show (max 0 (n : Int)).toNat = n by omega]
    rw [e2]
    obtain ⟨K, hK⟩ : ∃ K, K = n % (many + 1) := ⟨_, rfl⟩
    have hKl : K < many + 1 := by rw [hK]; exact Nat.mod_lt _ (by omega)
    have e3 : (n : Int).tmod ((many : Int) + 1) = (K : Int) := by rw [hK, Int.tmod_eq_emod_of_nonneg (by omega), Int.natCast_emod]; congr 1
    have e4 : (n : Int) % ((many : Int) + 1) = (K : Int) := by rw [hK, Int.natCast_emod]; congr 1
    have e5 : ((many : Int) + 1 == 0) = false := by rw [beq_eq_false_iff_ne]; omega
    have e6 : 0 < (n : Int) := by omega
    rw [← hK]
    clear hK e2 h
    go_enter Try.func74, Try.ntmps74
    go_wp2_with fail
    go_ret
    exact ⟨by first | rfl | simp, rfl⟩

set_option maxHeartbeats 1000000 in
set_option maxRecDepth 100000 in
theorem Stop_0 (f : Nat) (q st : Int) (mo : Option Nat) (ov : Value) (w : World) (h : FsAt w f q mo ov st) : Calls Try.prog 14 #[.pointer (some ⟨f, 0, none⟩), .int .i64 0] w fun e w' => e = .returned (.tuple #[]) ∧ FsAt w' f q mo ov 0 ∧ w.grownBy w' (some f) := by
  obtain ⟨c0, c1, c2, c3, cf⟩ := h.c
  have F : Hid (FsAt (w.setCell ⟨f, 3, none⟩ (.int .i64 0)) f q mo ov 0) := (block_setCell h _).trans rfl
  clear h
  go_enter Try.func14, Try.ntmps14
  go_wp2_with fail
  go_end0
  exact ⟨rfl, F.out, grown_setCell _ _ _⟩

set_option maxHeartbeats 1000000 in
set_option maxRecDepth 100000 in
theorem SyncNames_ok (f : Nat) (q : Int) (mo : Option Nat) (ov : Value) (w : World) (h : FsAt w f q mo ov 0) : Calls Try.prog 15 #[.pointer (some ⟨f, 0, none⟩)] w fun e w' => e = .returned (.int .i64 0) ∧ FsAt w' f q mo (.slice none 0 0) 0 ∧ w.grownBy w' (some f) := by
  have RF : Hid (Calls Try.prog 53 #[.pointer (some ⟨f, 0, none⟩)] w fun e w' => e = .returned (.bool false) ∧ w' = w) := refuses_no f q mo ov w h
  obtain ⟨c0, c1, c2, c3, cf⟩ := h.c
  have F : Hid (FsAt (w.setCell ⟨f, 2, none⟩ (.slice none 0 0)) f q mo (.slice none 0 0) 0) := (block_setCell h _).trans rfl
  clear h
  go_enter Try.func15, Try.ntmps15
  go_wp2_with fail
  refine RF.out.mono ?_
  rintro e w1 ⟨rfl, hwx⟩; have hwx2 := hwx.symm; subst hwx2; clear hwx
  go_wp2_with fail
  go_ret
  exact ⟨rfl, F.out, grown_setCell _ _ _⟩
end Go.Proofs.Ytdiehlioemmakaa

namespace Go.Proofs.Ytdiehlioemmakaa
open Go.RowKit Go.Maps Go.Joins

/-- how many bytes the files have together -/
def usedL : List (List UInt8 × Fl) → Nat
  | [] => 0
  | p :: t => p.2.l.length + usedL t
/-- .. those that are no longer to come -/
def met (left : Lit → Bool) : List (List UInt8 × Fl) → Nat
  | [] => 0
  | p :: t => (if left (.string p.1) = true then 0 else p.2.l.length) + met left t
theorem met_le (left : Lit → Bool) : ∀ xs, met left xs ≤ usedL xs
  | [] => Nat.le_refl _
  | p :: t => by
    have := met_le left t
    show (if left (.string p.1) = true then 0 else p.2.l.length) + met left t ≤ p.2.l.length + usedL t
    split <;> omega
theorem met_all {left : Lit → Bool} : ∀ {xs : List (List UInt8 × Fl)}, (∀ p ∈ xs, left (.string p.1) = true) → met left xs = 0
  | [], _ => rfl
  | p :: t, h => by
    show (if left (.string p.1) = true then 0 else p.2.l.length) + met left t = 0
    rw [if_pos (h p (by simp)), met_all (fun q hq => h q (by simp [hq]))]
theorem met_none {left : Lit → Bool} (h : ∀ z, left z = false) : ∀ xs : List (List UInt8 × Fl), met left xs = usedL xs
  | [] => rfl
  | p :: t => by
    show (if left (.string p.1) = true then 0 else p.2.l.length) + met left t = p.2.l.length + usedL t
    rw [if_neg (by rw [h]; simp), met_none h t]
theorem same_str (a b : List UInt8) : (Lit.string a).sameKey (.string b) = (a == b) := rfl
theorem met_out {left : Lit → Bool} {n : List UInt8} : ∀ {xs : List (List UInt8 × Fl)}, (∀ p ∈ xs, p.1 ≠ n) → met (fun z => left z && !z.sameKey (.string n)) xs = met left xs
  | [], _ => rfl
  | p :: t, h => by
    have e : (p.1 == n) = false := by rw [beq_eq_false_iff_ne]; exact h p (by simp)
    show (if (left (.string p.1) && !(Lit.string p.1).sameKey (.string n)) = true then 0 else p.2.l.length) + met _ t = (if left (.string p.1) = true then 0 else p.2.l.length) + met left t
    rw [met_out (fun q hq => h q (by simp [hq])), same_str, e, Bool.not_false, Bool.and_true]
theorem met_step {left : Lit → Bool} {p : List UInt8 × Fl} : ∀ {xs : List (List UInt8 × Fl)}, xs.Pairwise (fun p q => p.1 ≠ q.1) → p ∈ xs → left (.string p.1) = true → met (fun z => left z && !z.sameKey (.string p.1)) xs = met left xs + p.2.l.length
  | [], _, hp, _ => by simp at hp
  | q :: t, hx, hp, hl => by
    rw [List.pairwise_cons] at hx
    show (if (left (.string q.1) && !(Lit.string q.1).sameKey (.string p.1)) = true then 0 else q.2.l.length) + met _ t = (if left (.string q.1) = true then 0 else q.2.l.length) + met left t + p.2.l.length
    rcases List.mem_cons.1 hp with rfl | hp
    · rw [met_out (fun r hr => fun e => hx.1 r hr e.symm), same_str, beq_self_eq_true, Bool.not_true, Bool.and_false, if_neg (by simp), hl, if_pos rfl]; omega
    · have e : (q.1 == p.1) = false := by rw [beq_eq_false_iff_ne]; exact hx.1 p hp
      rw [met_step hx.2 hp hl, same_str, e, Bool.not_false, Bool.and_true]; omega
theorem found {xs : List (List UInt8 × Fl)} {kl : Lit} {y : DataW Unit} (h : ∀ zd, (DataW.map (xs.map ent)).atKey kl zd = y) : ∃ p ∈ xs, kl = .string p.1 ∧ y = .lit (.int .i64 (p.2.b : Int)) := by
  cases hf : (xs.map ent).find? (fun p => p.1.sameKey kl) with
  | none =>
    have h1 := h .nil
    have h2 := h (.lit (.bool true))
    simp only [DataW.atKey, hf] at h1 h2
    rw [← h1] at h2; cases h2
  | some e =>
    have h1 := h .nil
    simp only [DataW.atKey, hf] at h1
    have hm := List.mem_of_find?_eq_some hf
    have hs := List.find?_some hf
    rw [List.mem_map] at hm
    obtain ⟨p, hp, rfl⟩ := hm
    refine ⟨p, hp, ?_, h1.symm⟩
    cases kl with
    | string n =>
      have : (p.1 == n) = true := hs
      rw [beq_iff_eq] at this; rw [this]
    | bool _ => cases hs
    | int _ _ => cases hs
    | float _ _ => cases hs
    | nil => cases hs
theorem keyStr {key : Value} {kl : Lit} (h : keyOf Try.prog 9 key = some kl) : ∃ x, key = .string x := by
  cases key <;> simp [keyOf, mapKey] at h
  exact ⟨_, rfl⟩
theorem Mp.names {w : World} {m : Nat} {xs : List (List UInt8 × Fl)} (h : Mp w m xs) : xs.Pairwise (fun p q => p.1 ≠ q.1) := by
  obtain ⟨es, e, hp⟩ := World.ownsMap.tidy h keyS
  rw [DataW.map.injEq] at e
  rw [← e, List.pairwise_map] at hp
  refine hp.imp ?_
  intro a b hab e
  exact hab (by show Lit.string a.1 = Lit.string b.1; rw [e])
theorem has_ent {xs : List (List UInt8 × Fl)} {p : List UInt8 × Fl} (hp : p ∈ xs) : Maps.has (DataW.map (xs.map ent)) (.string p.1) = true := by
  rw [Maps.has_eq, List.any_eq_true]
  exact ⟨ent p, List.mem_map_of_mem hp, by show (p.1 == p.1) = true; exact beq_self_eq_true _⟩

set_option maxHeartbeats 2000000 in
set_option maxRecDepth 100000 in
theorem Used_any (f m base : Nat) (q st : Int) (ov : Value) (xs : List (List UInt8 × Fl)) (w : World) (h : FsAt w f q (some m) ov st) (hm : Mp w m xs) (hf : ∀ p ∈ xs, FlOk w base p.2) (hu : usedL xs ≤ 1000000000000) :
    Calls Try.prog 48 #[.pointer (some ⟨f, 0, none⟩)] w fun e w' => e = .returned (.int .i64 (usedL xs : Int)) ∧ w.grownBy w' none := by
  obtain ⟨c0, c1, c2, c3, cf⟩ := h.c
  have hnd := hm.names
  have hlt := World.ownsMap.lt hm
  clear h c0 c2 c3
  unfold Mp at hm
  go_enter Try.func48, Try.ntmps48
  go_wp2_with (first
    | (at_range; refine wpList_range_own _ rfl _ 64 rfl 9 68 keyS mapT ptrR m xs.length _ rfl hm ?_; intro w0 hrg0 hg0 hs0)
    | go_in)
  go_frame
  go_loopw [3] (fun s3 wr => ∃ (left : Lit → Bool) (cnt : Nat), s3 = .int .i64 (met left xs : Int) ∧ wr.ranges Try.prog 9 ptrR m w.heap.size xs.length (DataW.map (xs.map ent)) left cnt ∧ w.grownBy wr none)
    (fun _ wr => wr.rangeLeft m w.heap.size)
  case atStart => exact ⟨_, _, by rw [met_all (fun p hp => has_ent hp)]; rfl, hrg0, hg0⟩
  case round =>
    obtain ⟨left, cnt, rfl, hrg, hgw⟩ := hrel
    go_wp2_with (first
      | (at_next; refine wpList_next_ranges _ rfl _ rfl 9 keyS ptrR Value.string Value.pointer (fun key kl hk => keyStr hk) (fun v y hv => by rcases ptrR_inv hv with ⟨rfl, _⟩ | ⟨b, rfl, _⟩ <;> exact ⟨_, rfl⟩) m w.heap.size xs.length _ _ _ rfl hrg ?_ ?_)
      | go_in)
    · intro _ hl0
      have e := met_none hl0 xs
      rw [e]
      go_wp2
      go_ret
      exact ⟨rfl, hgw⟩
    · intro x c kl y yp w1 cnt1 hkey hlk hv hat hrg1 hlt1 hg1 hs1 hen
      obtain ⟨p, hp, rfl, hy⟩ := found hat
      have hc : c = some ⟨p.2.b, 0, none⟩ := by
        rcases ptrR_inv hv with ⟨_, e⟩ | ⟨b, e1, e2⟩
        · cases e; cases hy
        · cases e2
          have : (b : Int) = (p.2.b : Int) := by simpa using hy
          have : b = p.2.b := by omega
          cases e1; rw [this]
      subst hc
      have hgw1 := hgw.andThen hg1 (fun j hj => by cases hj; exact Or.inl (Nat.le_refl _))
      have ok := hf p hp
      have k0 : w1.cell? ⟨p.2.b, 0, none⟩ = some p.2.v := hgw1.cell ok.c.1 (by simp)
      have hst : Hid (met (fun z => left z && !z.sameKey (.string p.1)) xs = met left xs + p.2.l.length) := met_step hnd hp hlk
      have hle := met_le (fun z => left z && !z.sameKey (.string p.1)) xs
      rw [hst.out] at hle
      obtain ⟨P, C, hP⟩ : ∃ P C, p.2.v = .slice P p.2.l.length C := by
        rcases ok.row.2 with ⟨e, h0⟩ | ⟨g, cap, cur, e, _⟩
        · exact ⟨none, 0, by rw [e, h0]⟩
        · exact ⟨_, _, e⟩
      rw [hP] at k0
      have hsum : IntKind.i64.wrap ((met left xs : Int) + (p.2.l.length : Int)) = ((met left xs + p.2.l.length : Nat) : Int) := by rw [IntKind.wrap_i64]; omega
      have hsum2 : wrap64 ((met left xs : Int) + (p.2.l.length : Int)) = ((met left xs + p.2.l.length : Nat) : Int) := by unfold wrap64; omega
      clear hat hv hkey hy hP
      go_wp2
      go_roundw
      case rel => exact ⟨_, cnt1, by rw [hst.out]; first | rfl | (congr 1; omega), hrg1, hgw1⟩
      case measure => rw [hrg1.left_eq, hrg.left_eq]; exact hlt1
end Go.Proofs.Ytdiehlioemmakaa

namespace Go.Proofs.Ytdiehlioemmakaa
open Go.RowKit Go.Maps Go.Joins

/-- the blocks of S alone have changed; there may be new ones -/
structure Chg (S : Nat → Prop) (w w' : World) : Prop where
  os : w'.os = w.os
  tape : w'.tape = w.tape
  output : w'.output = w.output
  size : w.heap.size ≤ w'.heap.size
  block : ∀ k, k < w.heap.size → ¬ S k → w'.heap[k]? = w.heap[k]?
theorem Chg.refl (S : Nat → Prop) (w : World) : Chg S w w := ⟨rfl, rfl, rfl, Nat.le_refl _, fun _ _ _ => rfl⟩
theorem Chg.of_grown {w w' : World} {row : Option Nat} (h : w.grownBy w' row) : Chg (fun i => row = some i) w w' := ⟨h.os, h.tape, h.output, h.size, fun k hk hn => h.block k hk (fun e => hn e.symm)⟩
theorem Chg.of_none {w w' : World} (h : w.grownBy w' none) (S : Nat → Prop) : Chg S w w' := ⟨h.os, h.tape, h.output, h.size, fun k hk _ => h.block k hk (by simp)⟩
theorem Chg.of_cell (w : World) (a : Addr) (u : Value) : Chg (fun i => i = a.block) w (w.setCell a u) := ⟨rfl, rfl, rfl, by simp, fun k _ hk => heap_setCell_other w a k u hk⟩
theorem Chg.of_alloc (w : World) (o : Obj) (S : Nat → Prop) : Chg S w (w.alloc o) := Chg.of_none (World.grownBy_alloc w o none) S
theorem Chg.mono {S T : Nat → Prop} {w w' : World} (h : Chg S w w') (hs : ∀ i, i < w.heap.size → S i → T i) : Chg T w w' := ⟨h.os, h.tape, h.output, h.size, fun k hk hn => h.block k hk (fun e => hn (hs k hk e))⟩
theorem Chg.trans {S : Nat → Prop} {a b c : World} (h : Chg S a b) (k : Chg S b c) : Chg S a c :=
  ⟨k.os.trans h.os, k.tape.trans h.tape, k.output.trans h.output, Nat.le_trans h.size k.size, fun i hi hn => (k.block i (Nat.lt_of_lt_of_le hi h.size) hn).trans (h.block i hi hn)⟩
theorem Chg.below {S : Nat → Prop} {w w' : World} {base : Nat} (h : Chg S w w') (hb : base ≤ w.heap.size) (hs : ∀ i, S i → base ≤ i) : Below base w w' :=
  ⟨h.os, h.tape, h.output, h.size, fun k hk => h.block k (Nat.lt_of_lt_of_le hk hb) (fun e => by have := hs k e; omega)⟩
theorem Chg.at_ {S : Nat → Prop} {w w' : World} {b : Nat} {o : Obj} (h : Chg S w w') (hb : w.heap[b]? = some o) (hn : ¬ S b) : w'.heap[b]? = some o := (h.block b (lt_of_heap hb) hn).trans hb
theorem Chg.row {S : Nat → Prop} {w w' : World} {base size n : Nat} {e : TypeId} {v : Value} {xs : List Value} (h : Chg S w w') (ho : w.ownsRow base e size v n xs) (hn : ∀ g, v.ownBlock = some g → ¬ S g) : w'.ownsRow base e size v n xs := by
  obtain ⟨hl, ho⟩ := ho
  refine ⟨hl, ?_⟩
  rcases ho with ho | ⟨g, cap, cur, rfl, h1, h2, h3⟩
  · exact Or.inl ho
  · exact Or.inr ⟨g, cap, cur, rfl, h1, h.at_ h2 (hn g rfl), h3⟩
theorem Chg.map {S : Nat → Prop} {w w' : World} {m : Nat} {xs : List (List UInt8 × Fl)} (h : Chg S w w') (hm : Mp w m xs) (hn : ¬ S m) : Mp w' m xs := by
  obtain ⟨es, clock, hb, F, hs, hD⟩ := hm
  exact ⟨es, clock, h.at_ hb hn, F, hs, hD⟩
theorem Chg.file {S : Nat → Prop} {w w' : World} {base : Nat} {x : Fl} (h : Chg S w w') (ho : FlOk w base x) (h1 : ¬ S x.b) (h2 : ∀ g, x.v.ownBlock = some g → ¬ S g) : FlOk w' base x :=
  ⟨ho.ge, h.at_ ho.at_ h1, h.row ho.row h2, ho.kl, ho.ll⟩
theorem Chg.files {S : Nat → Prop} {w w' : World} {base : Nat} {xs : List Fl} (h : Chg S w w') (hf : Fls w base xs) (hs : ∀ r, S r → other w.heap[r]?) : Fls w' base xs := by
  refine ⟨fun x hx => h.file (hf.ok x hx) (fun e => ?_) (fun g hg e => ?_), hf.nb, hf.nv⟩
  · exact (hs _ e _ _).1 (hf.ok x hx).at_
  · obtain ⟨cs, hc⟩ := own_kind (hf.ok x hx).row g hg
    exact (hs g e _ _).2 hc
/-- one file has changed -/
theorem Fls.upd {w w' : World} {base : Nat} {A B : List Fl} {X X' : Fl} (h : Fls w base (A ++ X :: B)) (hc : Chg (fun i => i = X.b ∨ X.v.ownBlock = some i) w w') (hX : FlOk w' base X') (hb : X'.b = X.b) (hv : ∀ g, X'.v.ownBlock = some g → X.v.ownBlock = some g ∨ w.heap.size ≤ g) : Fls w' base (A ++ X' :: B) := by
  obtain ⟨ok, nb, nv⟩ := h
  rw [List.pairwise_append, List.pairwise_cons] at nb nv
  obtain ⟨nb1, ⟨nb2, nb3⟩, nb4⟩ := nb
  obtain ⟨nv1, ⟨nv2, nv3⟩, nv4⟩ := nv
  have okX := ok X (by simp)
  have hlt : ∀ x, FlOk w base x → ∀ g, x.v.ownBlock = some g → g < w.heap.size := fun x hx g hg => by
    obtain ⟨cs, hc⟩ := own_kind hx.row g hg; exact lt_of_heap hc
  have keep : ∀ x, FlOk w base x → x.b ≠ X.b → (∀ g, x.v.ownBlock = some g → X.v.ownBlock ≠ some g) → FlOk w' base x := fun x hx h1 h2 => by
    refine hc.file hx (fun e => ?_) (fun g hg e => ?_)
    · rcases e with e | e
      · exact h1 e
      · obtain ⟨cs, hk⟩ := own_kind okX.row _ e
        rw [hx.at_] at hk; simp at hk
    · rcases e with e | e
      · obtain ⟨cs, hk⟩ := own_kind hx.row _ hg
        rw [e, okX.at_] at hk; simp at hk
      · exact h2 g hg e
  refine ⟨fun x hx => ?_, ?_, ?_⟩
  · rw [List.mem_append, List.mem_cons] at hx
    rcases hx with hx | rfl | hx
    · exact keep x (ok x (by simp [hx])) (nb4 x hx X (by simp)) (nv4 x hx X (by simp))
    · exact hX
    · exact keep x (ok x (by simp [hx])) (fun e => nb2 x hx e.symm) (fun g hg e => nv2 x hx g e hg)
  · rw [List.pairwise_append, List.pairwise_cons]
    refine ⟨nb1, ⟨fun y hy => by rw [hb]; exact nb2 y hy, nb3⟩, fun x hx y hy => ?_⟩
    rw [List.mem_cons] at hy
    rcases hy with rfl | hy
    · rw [hb]; exact nb4 x hx X (by simp)
    · exact nb4 x hx y (by simp [hy])
  · rw [List.pairwise_append, List.pairwise_cons]
    refine ⟨nv1, ⟨fun y hy g hg e => ?_, nv3⟩, fun x hx y hy => ?_⟩
    · rcases hv g hg with h1 | h1
      · exact nv2 y hy g h1 e
      · have := hlt y (ok y (by simp [hy])) g e; omega
    · rw [List.mem_cons] at hy
      rcases hy with rfl | hy
      · intro g hg e
        rcases hv g e with h1 | h1
        · exact nv4 x hx X (by simp) g hg h1
        · have := hlt x (ok x (by simp [hx])) g hg; omega
      · exact nv4 x hx y (by simp [hy])
/-- one file more -/
theorem Fls.add {w w' : World} {base : Nat} {A B : List Fl} {Y : Fl} (h : Fls w' base (A ++ B)) (hY : FlOk w' base Y) (hb : ∀ x ∈ A ++ B, x.b ≠ Y.b) (hv : ∀ x ∈ A ++ B, ∀ g, x.v.ownBlock = some g → Y.v.ownBlock ≠ some g) (_ : w = w') : Fls w' base (A ++ Y :: B) := by
  obtain ⟨ok, nb, nv⟩ := h
  rw [List.pairwise_append] at nb nv
  obtain ⟨nb1, nb2, nb3⟩ := nb
  obtain ⟨nv1, nv2, nv3⟩ := nv
  refine ⟨fun x hx => ?_, ?_, ?_⟩
  · rw [List.mem_append, List.mem_cons] at hx
    rcases hx with hx | rfl | hx
    · exact ok x (by simp [hx])
    · exact hY
    · exact ok x (by simp [hx])
  · rw [List.pairwise_append, List.pairwise_cons]
    refine ⟨nb1, ⟨fun y hy e => hb y (by simp [hy]) e.symm, nb2⟩, fun x hx y hy => ?_⟩
    rw [List.mem_cons] at hy
    rcases hy with rfl | hy
    · exact hb x (by simp [hx])
    · exact nb3 x hx y hy
  · rw [List.pairwise_append, List.pairwise_cons]
    refine ⟨nv1, ⟨fun y hy g hg e => hv y (by simp [hy]) g e hg, nv2⟩, fun x hx y hy => ?_⟩
    rw [List.mem_cons] at hy
    rcases hy with rfl | hy
    · exact hv x (by simp [hx])
    · exact nv3 x hx y hy

/-- a change of names that is open: its closure's cells -/
structure Un where
  c : Nat
  n : ByteArray
  r : Option (Nat × Nat × ByteArray × Fl)
/-- a Create -/
def Un.cr (c : Nat) (n : ByteArray) : Un := ⟨c, n, none⟩
/-- a Rename -/
def Un.rn (ct cf cl : Nat) (t f : ByteArray) (lost : Fl) : Un := ⟨ct, t, some (cf, cl, f, lost)⟩
def Un.val (u : Un) : Value :=
  match u.r with
  | none => .func (.func 63) #[] #[.pointer (some ⟨u.c, 0, none⟩)]
  | some y => .func (.func 71) #[] #[.pointer (some ⟨u.c, 0, none⟩), .pointer (some ⟨y.1, 0, none⟩), .pointer (some ⟨y.2.1, 0, none⟩)]
def Un.ok (w : World) (base : Nat) (u : Un) : Prop :=
  match u.r with
  | none => base ≤ u.c ∧ w.heap[u.c]? = some (.cells #[.string u.n] 9 (0, 0))
  | some y => base ≤ u.c ∧ base ≤ y.1 ∧ base ≤ y.2.1 ∧ w.heap[u.c]? = some (.cells #[.string u.n] 9 (0, 0)) ∧ w.heap[y.1]? = some (.cells #[.string y.2.2.1] 9 (0, 0)) ∧ w.heap[y.2.1]? = some (.cells #[.pointer (some ⟨y.2.2.2.b, 0, none⟩)] 68 (0, 0))
def Un.lost (u : Un) : List Fl :=
  match u.r with
  | none => []
  | some y => [y.2.2.2]
/-- a block that holds no closure's cell -/
def plainB (o : Option Obj) : Prop := ∀ cs fr, o ≠ some (.cells cs 9 fr) ∧ o ≠ some (.cells cs 68 fr)
theorem plainB_map {o : Option Obj} {es : Array MapEntry} {c : Nat} (h : o = some (.map es c)) : plainB o := by subst h; intro cs fr; simp
theorem plainB_cells {o : Option Obj} {cs : Array Value} {t : TypeId} {fr : Nat × Nat} (h : o = some (.cells cs t fr)) (h1 : t ≠ 9) (h2 : t ≠ 68) : plainB o := by
  subst h; intro cs' fr'; simp only [ne_eq, Option.some.injEq, Obj.cells.injEq, not_and]; exact ⟨fun _ e => absurd e h1, fun _ e => absurd e h2⟩
theorem Chg.un {S : Nat → Prop} {w w' : World} {base : Nat} {u : Un} (h : Chg S w w') (hu : u.ok w base) (hs : ∀ r, S r → plainB w.heap[r]?) : u.ok w' base := by
  obtain ⟨c, n, r⟩ := u
  cases r with
  | none =>
    obtain ⟨h1, h2⟩ := hu
    exact ⟨h1, h.at_ h2 (fun e => (hs _ e _ _).1 h2)⟩
  | some y =>
    obtain ⟨h1, h2, h3, h4, h5, h6⟩ := hu
    exact ⟨h1, h2, h3, h.at_ h4 (fun e => (hs _ e _ _).1 h4), h.at_ h5 (fun e => (hs _ e _ _).1 h5), h.at_ h6 (fun e => (hs _ e _ _).2 h6)⟩
/-- a disk -/
structure Disk (w : World) (base f : Nat) (q : Int) (m : Nat) (xs : List (List UInt8 × Fl)) (us : List Un) : Prop where
  bs : base ≤ w.heap.size
  fge : base ≤ f
  mge : base ≤ m
  fs : ∃ ov, FsAt w f q (some m) ov 0 ∧ w.ownsRow base 72 1 ov us.length (us.map Un.val)
  mp : Mp w m xs
  fl : Fls w base (xs.map (·.2) ++ us.flatMap Un.lost)
  un : ∀ u ∈ us, u.ok w base
/-- nothing of the disk has changed -/
theorem Disk.kept {w w' : World} {base f m : Nat} {q : Int} {xs : List (List UInt8 × Fl)} {us : List Un} (h : Disk w base f q m xs us) (hg : w.grownBy w' none) : Disk w' base f q m xs us := by
  have hc : Chg (fun _ => False) w w' := Chg.of_none hg _
  obtain ⟨ov, h1, h2⟩ := h.fs
  exact ⟨Nat.le_trans h.bs hc.size, h.fge, h.mge, ⟨ov, hc.at_ h1 id, hc.row h2 (fun _ _ e => e)⟩, hc.map h.mp id, hc.files h.fl (fun _ e => e.elim), fun u hu => hc.un (h.un u hu) (fun _ e => e.elim)⟩
end Go.Proofs.Ytdiehlioemmakaa

namespace Go.Proofs.Ytdiehlioemmakaa
open Go.RowKit Go.Maps Go.Joins

theorem at_of {n : List UInt8} {X : Fl} {z : DataW Unit} : ∀ {xs : List (List UInt8 × Fl)}, xs.Pairwise (fun p q => p.1 ≠ q.1) → (n, X) ∈ xs → (DataW.map (xs.map ent)).atKey (.string n) z = .lit (.int .i64 (X.b : Int))
  | [], _, h => by simp at h
  | p :: t, hp, h => by
    rw [List.pairwise_cons] at hp
    rcases List.mem_cons.1 h with rfl | h
    · have e : (Lit.string n).sameKey (.string n) = true := beq_self_eq_true n
      simp only [DataW.atKey, List.map_cons, List.find?_cons, ent, e]
    · have e : (Lit.string p.1).sameKey (.string n) = false := by rw [same_str, beq_eq_false_iff_ne]; exact hp.1 _ h
      have := at_of (z := z) hp.2 h
      simp only [DataW.atKey, List.map_cons, List.find?_cons, ent, e] at this ⊢
      exact this
/-- a file of a disk has changed -/
theorem Disk.file {w w' : World} {base f m : Nat} {q : Int} {n : List UInt8} {X X' : Fl} {A B : List (List UInt8 × Fl)} {us : List Un} (h : Disk w base f q m (A ++ (n, X) :: B) us) (hc : Chg (fun i => i = X.b ∨ X.v.ownBlock = some i) w w') (hX : FlOk w' base X') (hb : X'.b = X.b) (hv : ∀ g, X'.v.ownBlock = some g → X.v.ownBlock = some g ∨ w.heap.size ≤ g) :
    Disk w' base f q m (A ++ (n, X') :: B) us ∧ Below base w w' := by
  have okX : FlOk w base X := h.fl.ok X (by simp)
  have kind : ∀ i, (i = X.b ∨ X.v.ownBlock = some i) → ∃ cs t, w.heap[i]? = some (.cells cs t (0, 0)) ∧ (t = 86 ∨ t = 5) := by
    rintro i (rfl | e)
    · exact ⟨_, _, okX.at_, Or.inl rfl⟩
    · obtain ⟨cs, hk⟩ := own_kind okX.row _ e
      exact ⟨_, _, hk, Or.inr rfl⟩
  obtain ⟨ov, h1, h2⟩ := h.fs
  refine ⟨⟨Nat.le_trans h.bs hc.size, h.fge, h.mge, ⟨ov, hc.at_ h1 (fun e => ?_), hc.row h2 (fun g hg e => ?_)⟩, ?_, ?_, fun u hu => hc.un (h.un u hu) (fun r e => ?_)⟩, hc.below h.bs ?_⟩
  · obtain ⟨cs, t, hk, ht⟩ := kind _ e
    unfold FsAt at h1; rw [h1] at hk; rcases ht with rfl | rfl <;> simp at hk
  · obtain ⟨cs, t, hk, ht⟩ := kind _ e
    obtain ⟨cs', hk'⟩ := own_kind h2 g hg
    rw [hk'] at hk; rcases ht with rfl | rfl <;> simp at hk
  · have hm : Mp w' m (A ++ (n, X) :: B) := hc.map h.mp (fun e => by
      obtain ⟨cs, t, hk, _⟩ := kind _ e
      obtain ⟨es, c, hk'⟩ := h.mp.kind
      rw [hk'] at hk; simp at hk)
    unfold Mp at hm ⊢
    have e1 : (A ++ (n, X') :: B).map ent = (A ++ (n, X) :: B).map ent := by simp [ent, hb]
    have e2 : (A ++ (n, X') :: B).length = (A ++ (n, X) :: B).length := by simp
    rw [e1, e2]; exact hm
  · have hf := h.fl
    have e1 : ∀ Y : Fl, (A ++ (n, Y) :: B).map (·.2) ++ us.flatMap Un.lost = A.map (·.2) ++ Y :: (B.map (·.2) ++ us.flatMap Un.lost) := fun Y => by simp
    rw [e1] at hf ⊢
    exact hf.upd hc hX hb hv
  · obtain ⟨cs, t, hk, ht⟩ := kind _ e
    refine plainB_cells hk ?_ ?_ <;> rcases ht with rfl | rfl <;> decide
  · rintro i (rfl | e)
    · exact okX.ge
    · exact own_ge okX.row _ e
theorem FlOk.form {w : World} {base : Nat} {x : Fl} (h : FlOk w base x) : ∃ P C, x.v = .slice P x.l.length C := by
  rcases h.row.2 with ⟨e, h0⟩ | ⟨g, cap, cur, e, _⟩
  · exact ⟨none, 0, by rw [e, h0]⟩
  · exact ⟨_, _, e⟩

set_option maxHeartbeats 1000000 in
set_option maxRecDepth 100000 in
theorem Sync_ok (base f m : Nat) (q : Int) (s : ByteArray) (X : Fl) (A B : List (List UInt8 × Fl)) (us : List Un) (w : World) (d : Disk w base f q m (A ++ (s.data.toList, X) :: B) us) (hs : okN s) :
    Calls Try.prog 23 #[.pointer (some ⟨f, 0, none⟩), .string s] w fun e w' => e = .returned (.int .i64 0) ∧ Disk w' base f q m (A ++ (s.data.toList, { X with k := X.l.length }) :: B) us ∧ Below base w w' := by
  obtain ⟨ov, h1, h2⟩ := d.fs
  have okX : FlOk w base X := d.fl.ok X (by simp)
  have NM : Hid (Calls Try.prog 58 #[.pointer (some ⟨f, 0, none⟩), .string s] w fun e w' => e = .returned (.tuple #[.pointer (some ⟨X.b, 0, none⟩), .int .i64 0]) ∧ w' = w) := named_ok f m q 0 ov s X.b _ w h1 d.mp hs (at_of d.mp.names (by simp))
  have RF : Hid (Calls Try.prog 53 #[.pointer (some ⟨f, 0, none⟩)] w fun e w' => e = .returned (.bool false) ∧ w' = w) := refuses_no f q (some m) ov w h1
  obtain ⟨c0, c1, cf⟩ := okX.c
  obtain ⟨P, C, hP⟩ := okX.form
  have E : Hid (Disk (w.setCell ⟨X.b, 1, none⟩ (.int .i64 (X.l.length : Int))) base f q m (A ++ (s.data.toList, { X with k := X.l.length }) :: B) us ∧ Below base w (w.setCell ⟨X.b, 1, none⟩ (.int .i64 (X.l.length : Int)))) := by
    have hc := (Chg.of_cell w ⟨X.b, 1, none⟩ (.int .i64 (X.l.length : Int))).mono (T := fun i => i = X.b ∨ X.v.ownBlock = some i) (fun i _ h => Or.inl h)
    refine d.file hc ⟨okX.ge, (block_setCell okX.at_ _).trans rfl, (Chg.of_cell w ⟨X.b, 1, none⟩ _).row okX.row (fun g hg e => ?_), Nat.le_refl _, okX.ll⟩ rfl (fun g hg => Or.inl hg)
    obtain ⟨cs, hk⟩ := own_kind okX.row _ hg
    have e : g = X.b := e
    rw [e, okX.at_] at hk; simp at hk
  rw [hP] at c0
  clear d h1 h2 okX hP
  go_enter Try.func23, Try.ntmps23
  go_wp2_with fail
  refine NM.out.mono ?_
  rintro e wx ⟨rfl, hwx⟩; have hwx2 := hwx.symm; subst hwx2; clear hwx
  go_wp2_with fail
  refine RF.out.mono ?_
  rintro e wx ⟨rfl, hwx⟩; have hwx2 := hwx.symm; subst hwx2; clear hwx
  go_wp2_with fail
  go_ret
  exact ⟨rfl, E.out⟩
end Go.Proofs.Ytdiehlioemmakaa

namespace Go.Proofs.Ytdiehlioemmakaa
open Go.RowKit Go.Maps Go.Joins

/-- a slice of bytes that was handed in -/
def byIn (w : World) (P : Option Addr) (l : List UInt8) : Prop := (P = none ∧ l = []) ∨ ∃ a : Addr, P = some a ∧ ∀ i x, l[i]? = some x → w.cell? (a.add i) = some (.int .u8 (x.toNat : Int))
theorem byIn.kept {w w' : World} {P : Option Addr} {l : List UInt8} (h : byIn w P l) (hg : w.grownBy w' none) : byIn w' P l := by
  rcases h with h | ⟨a, e, hc⟩
  · exact Or.inl h
  · exact Or.inr ⟨a, e, fun i x hx => hg.cell (hc i x hx) (by simp)⟩
theorem add_plain (g off j : Nat) : (⟨g, off, none⟩ : Addr).add j = ⟨g, off + j, none⟩ := by simp only [Addr.add]; split <;> simp_all
theorem app_in {ops : Array Oper} {rest : List Oper} {o : Oper} {a : Act} {w : World} {Q : Exit → Act → World → Prop} (hgd : o.guard = none) (s x : Operand)
    (ho : o.op = .call { callee := .builtin .append, args := #[s, x], argTypes := #[27, 27] })
    (base : Nat) (v : Value) (l bs : List UInt8) (P : Option Addr) (C : Nat) (hs : a.eval s = v) (hown : ownsB w base v l) (hin : byIn w P bs) (hC : P = none → C = 0)
    (hx : a.eval x = .slice P bs.length C) (hl : l.length + bs.length ≤ 200000000) (hb : base ≤ w.heap.size)
    (h : ∀ v' w', ownsB w' base v' (l ++ bs) → w.grownBy w' v.ownBlock → (∀ g, v'.ownBlock = some g → v.ownBlock = some g ∨ w.heap.size ≤ g) → wpList Try.prog ops Q rest (a.put o.dst v') w') :
    wpList Try.prog ops Q (o :: rest) a w := by
  obtain ⟨i0, hi, hz0, hz1, hz2⟩ := info_parts u8Info
  rcases hin with ⟨rfl, rfl⟩ | ⟨ad, rfl, hc⟩
  · obtain rfl := hC rfl
    refine wpList_plain hgd fun K hK => ?_
    have hr := run_append_owned_none (P := Try.prog) (w := w) base 27 o.type 5 i0 1 u8Slice hi v l.length (by8 l) hown
    unfold Oper.wp execOp
    simp only [List.length_nil] at hx
    simp only [ho, resolve, invoke, builtin, Sem.run_bind, Sem.run_pure, Result.andThen_ok, List.map_toArray, List.map_cons, List.map_nil, hs, hx, hr]
    exact hK _ _ (h v w (by rw [List.append_nil]; exact hown) ⟨rfl, rfl, rfl, Nat.le_refl _, fun _ _ _ => rfl⟩ (fun g hg => Or.inl hg))
  · refine wpList_append_own_at _ hgd s x 27 ho base 5 i0 (.int .u8 0) 1 1 u8Slice hi hz0 hz1 hz2 rfl (by decide) v l.length (by8 l) hs hown ad bs.length C (by8 bs) hx (by rw [by8_len]; omega) ?_ (by8_one _) (by unfold maxLen; omega) (by omega) hb ?_
    · intro j u hj
      simp only [by8, List.getElem?_map, Option.map_eq_some_iff] at hj
      obtain ⟨x, hx, rfl⟩ := hj
      exact hc j x hx
    · intro v' w' h1 h2 _ h4
      refine h v' w' ?_ h2 (fun g' hg => ?_)
      · show w'.ownsRow _ _ _ _ _ _
        rw [by8_app, List.length_append]; exact h1
      · rcases h4 with h4 | h4
        · exact Or.inl (h4.symm.trans hg)
        · rw [h4] at hg; cases hg; exact Or.inr (Nat.le_refl _)
theorem own_form {w : World} {base : Nat} {v : Value} {l : List UInt8} (h : ownsB w base v l) : ∃ P C, v = .slice P l.length C := by
  rcases h.2 with ⟨e, h0⟩ | ⟨g, cap, cur, e, _⟩
  · exact ⟨none, 0, by rw [e, h0]⟩
  · exact ⟨_, _, e⟩
theorem grown_drewN {w w' : World} {n : Nat} {row : Option Nat} (h : (w.drewN n).grownBy w' row) : w.grownBy w' row := ⟨h.os, h.tape, h.output, h.size, h.block⟩

set_option maxHeartbeats 4000000 in
set_option maxRecDepth 100000 in
theorem Append_ok (base f m : Nat) (q : Int) (s : ByteArray) (X : Fl) (A B : List (List UInt8 × Fl)) (us : List Un) (bs : List UInt8) (P : Option Addr) (C : Nat) (w : World) (d : Disk w base f q m (A ++ (s.data.toList, X) :: B) us) (hs : okN s)
    (hin : byIn w P bs) (hC : P = none → C = 0) (hu : (usedL (A ++ (s.data.toList, X) :: B) : Int) + (bs.length : Int) ≤ q) (hq : q ≤ 16777216) :
    Calls Try.prog 22 #[.pointer (some ⟨f, 0, none⟩), .string s, .slice P bs.length C] w fun e w' => e = .returned (.int .i64 0) ∧ ∃ v', Disk w' base f q m (A ++ (s.data.toList, { X with v := v', l := X.l ++ bs }) :: B) us ∧ Below base w w' := by
  obtain ⟨ov, h1, h2⟩ := d.fs
  have okX : FlOk w base X := d.fl.ok X (by simp)
  have hX : (s.data.toList, X) ∈ A ++ (s.data.toList, X) :: B := by simp
  have hXl : X.l.length ≤ usedL (A ++ (s.data.toList, X) :: B) := by
    clear d okX hu
    induction A with
    | nil => show X.l.length ≤ X.l.length + usedL B; omega
    | cons p t ih => have := ih (by simp); show X.l.length ≤ p.2.l.length + usedL (t ++ (s.data.toList, X) :: B); omega
  obtain ⟨U, hU⟩ : ∃ U, U = usedL (A ++ (s.data.toList, X) :: B) := ⟨_, rfl⟩
  rw [← hU] at hu hXl
  have NM : Hid (Calls Try.prog 58 #[.pointer (some ⟨f, 0, none⟩), .string s] w fun e w' => e = .returned (.tuple #[.pointer (some ⟨X.b, 0, none⟩), .int .i64 0]) ∧ w' = w) := named_ok f m q 0 ov s X.b _ w h1 d.mp hs (at_of d.mp.names hX)
  have US : Hid (∀ n, Calls Try.prog 48 #[.pointer (some ⟨f, 0, none⟩)] (w.drewN n) fun e w' => e = .returned (.int .i64 (U : Int)) ∧ w.grownBy w' none) := fun n => by
    refine (Used_any f m base q 0 ov (A ++ (s.data.toList, X) :: B) (w.drewN n) h1 d.mp (fun p hp => by have h := d.fl.ok p.2 (by rw [List.mem_append]; exact Or.inl (List.mem_map_of_mem hp)); exact ⟨h.ge, h.at_, h.row, h.kl, h.ll⟩) (by rw [← hU]; omega)).mono ?_
    rintro e w' ⟨rfl, hg⟩
    exact ⟨by rw [hU], grown_drewN hg⟩
  obtain ⟨c0, c1, c2, c3, cf⟩ := h1.c
  have t1 : IntKind.i64.wrap (q - (U : Int)) = q - (U : Int) := by rw [IntKind.wrap_i64]; omega
  have t2 : wrap64 (q - (U : Int)) = q - (U : Int) := by unfold wrap64; omega
  have t3 : ¬ q - (U : Int) < (bs.length : Int) := by omega
  have D : Hid (Disk w base f q m (A ++ (s.data.toList, X) :: B) us) := d
  have HI : Hid (byIn w P bs) := hin
  have F1 : Hid (FsAt w f q (some m) ov 0) := h1
  clear d h1 h2 okX hin c1 c2 c3 hU
  go_enter Try.func22, Try.ntmps22
  go_wp2_with fail
  refine NM.out.mono ?_
  rintro e wx ⟨rfl, hwx⟩; have hwx2 := hwx.symm; subst hwx2; clear hwx
  go_wp2_with fail
  go_region_with ((go_at_call 48; refine (US.out _).mono ?_; rintro e w2 ⟨rfl, hg2⟩; have d0 := hg2.cell c0 (by simp)))
  all_goals
    have D2 := D.out.kept hg2
    obtain ⟨ov2, h12, h22⟩ := D2.fs
    have okX := D2.fl.ok X (by simp)
    have HI2 := HI.out.kept hg2
    have B2 : Below base w w2 := below_own hg2 D.out.bs (fun g e => by cases e)
    have RF : Hid (Calls Try.prog 53 #[.pointer (some ⟨f, 0, none⟩)] w2 fun e w' => e = .returned (.bool false) ∧ w' = w2) := refuses_no f q (some m) ov2 w2 h12
    obtain ⟨_, _, _, e3, ef⟩ := h12.c
    obtain ⟨k0, k1, kf⟩ := okX.c
    go_wp2_with fail
    refine RF.out.mono ?_
    rintro e wx ⟨rfl, hwx⟩; have hwx2 := hwx.symm; subst hwx2; clear hwx
    go_wp2_with (at_builtin; refine app_in rfl (.tmp 54) (.tmp 55) rfl base X.v X.l bs P C rfl okX.row HI2 hC rfl (by omega) D2.bs ?_; intro v3 w3 ho3 hg3 hl3; obtain ⟨P3, C3, rfl⟩ := own_form ho3; have nb : some X.b ≠ X.v.ownBlock := (fun e => by obtain ⟨cs, hk⟩ := own_kind okX.row _ e.symm; rw [okX.at_] at hk; simp at hk); have m0 := hg3.cell k0 nb; have mf : ∀ i, w3.frozen? ⟨X.b, i, none⟩ = false := fun i => (World.frozen?_of_block (hg3.block X.b (lt_of_heap okX.at_) nb)).trans (kf i))
    go_ret
    rw [List.length_append] at ho3 hl3
    refine ⟨rfl, .slice P3 (X.l.length + bs.length) C3, ?_⟩
    obtain ⟨v3, hv3⟩ : ∃ v3, v3 = Value.slice P3 (X.l.length + bs.length) C3 := ⟨_, rfl⟩
    rw [← hv3] at ho3 hl3 ⊢
    clear hv3
    have hc3 : Chg (fun i => i = X.b ∨ X.v.ownBlock = some i) w2 (w3.setCell ⟨X.b, 0, none⟩ v3) := ((Chg.of_grown hg3).mono (fun i _ e => Or.inr e)).trans ((Chg.of_cell w3 ⟨X.b, 0, none⟩ v3).mono (fun i _ e => Or.inl e))
    have at3 : w3.heap[X.b]? = some (.cells #[X.v, .int .i64 (X.k : Int)] 86 (0, 0)) := (hg3.block X.b (lt_of_heap okX.at_) nb).trans okX.at_
    have ok3 : FlOk (w3.setCell ⟨X.b, 0, none⟩ v3) base { X with v := v3, l := X.l ++ bs } := ⟨okX.ge, (block_setCell at3 _).trans rfl, (Chg.of_cell w3 ⟨X.b, 0, none⟩ v3).row ho3 (fun g hg e => by
      have e : g = X.b := e
      obtain ⟨cs, hk⟩ := own_kind ho3 _ hg
      rw [e, at3] at hk; simp at hk), Nat.le_trans okX.kl (by simp), by simp; omega⟩
    have := D2.file hc3 ok3 rfl hl3
    exact ⟨this.1, B2.trans this.2⟩
end Go.Proofs.Ytdiehlioemmakaa

