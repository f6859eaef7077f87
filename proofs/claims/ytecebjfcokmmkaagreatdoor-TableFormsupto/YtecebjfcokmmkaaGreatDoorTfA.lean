/-
  Tables' forms as plain data, what is wrong with them, and how they lie in memory.
-/
import Derived.Test.YtecebjfcokmmkaaGreatDoorChkVal
import Derived.Deep.RegionHeld3
import Derived.OwnWalk
import Derived.BigQuiet
import Derived.Deep.QuietTactic
namespace Go.Proofs.YtecebjfcokmmkaaGreatDoor
open Go.RowKit Go.Shelf
set_option maxRecDepth 100000

theorem mkHid {P : Prop} (h : P) : Hid P := h
/-- a column: its name, its type, its Most, whether it is NotNull -/
structure Cl where
  nm : ByteArray
  ty : Int
  mo : Int
  nn : Bool
/-- a key: its name, its columns, whether it is Unique -/
structure Ky where
  nm : ByteArray
  cs : List Int
  uq : Bool
/-- a table's form -/
structure Tb where
  nm : ByteArray
  cs : List Cl
  ks : List Ky
  pa : Int
  mo : Int
/-- the first that is not 0 of f at places from k on, m many -/
def fe (f : Nat → Int) : Nat → Nat → Int
  | _, 0 => 0
  | k, m + 1 => if f k = 0 then fe f (k + 1) m else f k
theorem fe_end (f : Nat → Int) (k n : Nat) (h : n ≤ k) : fe f k (n - k) = 0 := by
  rw [show n - k = 0 by omega]; rfl
theorem fe_pass {f : Nat → Int} {k n : Nat} (h : k < n) (h0 : f k = 0) : fe f k (n - k) = fe f (k + 1) (n - (k + 1)) := by
  rw [show n - k = (n - (k + 1)) + 1 by omega, fe, if_pos h0]
theorem fe_stop {f : Nat → Int} {k n : Nat} (h : k < n) (h0 : ¬ f k = 0) : fe f k (n - k) = f k := by
  rw [show n - k = (n - (k + 1)) + 1 by omega, fe, if_neg h0]
theorem fe_zero {f : Nat → Int} : ∀ {m k : Nat}, fe f k m = 0 → ∀ i, k ≤ i → i < k + m → f i = 0
  | 0, k, _, i, h1, h2 => by omega
  | m + 1, k, h, i, h1, h2 => by
    rw [fe] at h
    by_cases h0 : f k = 0
    · rw [if_pos h0] at h
      by_cases hi : i = k
      · rw [hi]; exact h0
      · exact fe_zero h i (by omega) (by omega)
    · rw [if_neg h0] at h; exact absurd h h0
theorem fe_any {f : Nat → Int} : ∀ (m k : Nat), fe f k m = 0 ∨ ∃ i, k ≤ i ∧ i < k + m ∧ fe f k m = f i
  | 0, k => Or.inl rfl
  | m + 1, k => by
    rw [fe]
    by_cases h0 : f k = 0
    · rw [if_pos h0]
      rcases fe_any m (k + 1) with h | ⟨i, h1, h2, h3⟩
      · exact Or.inl h
      · exact Or.inr ⟨i, by omega, by omega, h3⟩
    · rw [if_neg h0]
      exact Or.inr ⟨k, by omega, by omega, rfl⟩
theorem fe_same {f g : Nat → Int} (h : ∀ i, f i = g i) : fe f = fe g := by
  have : f = g := funext h
  rw [this]

/-- can a text be a name -/
def nmK (s : ByteArray) : Bool := decide (1 ≤ s.size) && (decide (s.size ≤ 32) && (Lib.validD s.data.toList && decide (Lib.indexByte s.data.toList 0 < 0)))
/-- can a column's Most be -/
def moK (c : Cl) : Bool := if c.ty = 3 then decide (1 ≤ c.mo) && decide (c.mo ≤ 4096) else c.mo == 0
/-- is a column's name there -/
def cnB (nm : ByteArray) (a : Cl) : Bool := a.nm.toList == nm.toList
def knB (nm : ByteArray) (a : Ky) : Bool := a.nm.toList == nm.toList
/-- what is wrong with a column, by those ahead -/
def colK (ah : List Cl) (c : Cl) : Int :=
  if ah.any (cnB c.nm) = true ∨ nmK c.nm = false then 6 else if c.ty < 1 ∨ 4 < c.ty then 7 else if moK c = true then 0 else 1
def colI (l : List Cl) (i : Nat) : Int := match l[i]? with | some c => colK (l.take i) c | none => 0
def ckCols (t : Tb) : Int := if 16 < t.cs.length then 2 else if t.cs.length = 0 then 1 else fe (colI t.cs) 0 t.cs.length
/-- what is wrong with a key's column -/
def kcI (n : Nat) (l : List Int) (i : Nat) : Int := match l[i]? with | some c => if c < 0 ∨ (n : Int) ≤ c ∨ c ∈ l.take i then 1 else 0 | none => 0
def kcK (n : Nat) (l : List Int) : Bool := decide (1 ≤ l.length) && (decide (l.length ≤ 4) && decide (fe (kcI n l) 0 l.length = 0))
def keyK (n : Nat) (ah : List Ky) (k : Ky) : Int :=
  if ah.any (knB k.nm) = true ∨ nmK k.nm = false then 6 else if kcK n k.cs = true then 0 else 1
def keyI (n : Nat) (l : List Ky) (i : Nat) : Int := match l[i]? with | some c => keyK n (l.take i) c | none => 0
def ckKeys (t : Tb) : Int := if 16 < t.ks.length then 2 else if t.ks.length = 0 then 84 else fe (keyI t.cs.length t.ks) 0 t.ks.length
/-- may a column be NULL -/
def nuB (l : List Cl) (c : Int) : Bool := match l[c.toNat]? with | some x => !x.nn | none => true
def ckPrim (t : Tb) : Int := match t.ks with | [] => 84 | k :: _ => if k.uq = false ∨ k.cs.any (nuB t.cs) = true then 84 else 0
def ckNum (t : Tb) : Int := match t.ks with | [] => 1 | k :: _ => if (0 ≤ t.pa ∧ ¬ t.pa ∈ k.cs) ∨ t.mo < 1 ∨ 4096 < t.mo then 1 else 0
/-- what is wrong with a form -/
def tbK (t : Tb) : Int := if nmK t.nm = false then 6 else if ¬ ckCols t = 0 then ckCols t else if ¬ ckKeys t = 0 then ckKeys t else if ¬ ckPrim t = 0 then ckPrim t else ckNum t
/-- what is wrong with a value of a column -/
def fitC (c : Cl) (v : Va) : Int :=
  if ¬ v.chk = 0 then v.chk else if v.ty = 0 then (if c.nn = true then 81 else 0) else if ¬ v.ty = c.ty then 7 else if v.ty = 3 ∧ c.mo < (v.s.size : Int) then 2 else 0
def fitI (l : List Cl) (r : List Va) (i : Nat) : Int := match l[i]?, r[i]? with | some c, some v => fitC c v | _, _ => 0
def fitK (l : List Cl) (r : List Va) : Int := if ¬ r.length = l.length then 1 else fe (fitI l r) 0 r.length
def tfK (t : Tb) (r : List Va) : Int := if tbK t = 0 then fitK t.cs r else tbK t

theorem colI_some {l : List Cl} {i : Nat} {c : Cl} (h : l[i]? = some c) : colI l i = colK (l.take i) c := by unfold colI; rw [h]
theorem keyI_some {n : Nat} {l : List Ky} {i : Nat} {c : Ky} (h : l[i]? = some c) : keyI n l i = keyK n (l.take i) c := by unfold keyI; rw [h]
theorem kcI_some {n : Nat} {l : List Int} {i : Nat} {c : Int} (h : l[i]? = some c) : kcI n l i = if c < 0 ∨ (n : Int) ≤ c ∨ c ∈ l.take i then 1 else 0 := by unfold kcI; rw [h]
theorem fitI_some {l : List Cl} {r : List Va} {i : Nat} {c : Cl} {v : Va} (h : l[i]? = some c) (h2 : r[i]? = some v) : fitI l r i = fitC c v := by unfold fitI; rw [h, h2]

/-- whole numbers in memory -/
def inIn (w : World) (P : Option Addr) (l : List Int) : Prop := l = [] ∨ ∃ g o, P = some ⟨g, o, none⟩ ∧ g < w.heap.size ∧ ∀ (i : Nat) (x : Int), l[i]? = some x → w.cell? ⟨g, o + i, none⟩ = some (.int .i64 x)
/-- columns in memory -/
def clIn (w : World) (P : Option Addr) (l : List Cl) : Prop := l = [] ∨ ∃ g o, P = some ⟨g, o, none⟩ ∧ g < w.heap.size ∧ ∀ (i : Nat) (c : Cl), l[i]? = some c →
  w.cell? ⟨g, o + i * 4, none⟩ = some (.string c.nm) ∧ w.cell? ⟨g, o + i * 4 + 1, none⟩ = some (.int .i64 c.ty) ∧ w.cell? ⟨g, o + i * 4 + 2, none⟩ = some (.int .i64 c.mo) ∧ w.cell? ⟨g, o + i * 4 + 3, none⟩ = some (.bool c.nn)
/-- keys in memory -/
def kyIn (w : World) (P : Option Addr) (l : List Ky) : Prop := l = [] ∨ ∃ g o, P = some ⟨g, o, none⟩ ∧ g < w.heap.size ∧ ∀ (i : Nat) (k : Ky), l[i]? = some k →
  ∃ Q C, w.cell? ⟨g, o + i * 3, none⟩ = some (.string k.nm) ∧ w.cell? ⟨g, o + i * 3 + 1, none⟩ = some (.slice Q k.cs.length C) ∧ w.cell? ⟨g, o + i * 3 + 2, none⟩ = some (.bool k.uq) ∧ inIn w Q k.cs ∧ (Q = none → C = 0) ∧ k.cs.length ≤ C
theorem inIn.below {w w' : World} {P : Option Addr} {l : List Int} (h : inIn w P l) (hb : Below w.heap.size w w') : inIn w' P l := by
  rcases h with h | ⟨g, o, h1, h2, h3⟩
  · exact Or.inl h
  · exact Or.inr ⟨g, o, h1, Nat.lt_of_lt_of_le h2 hb.size, fun i x hx => (hb.cell (p := ⟨g, o + i, none⟩) h2).trans (h3 i x hx)⟩
theorem clIn.below {w w' : World} {P : Option Addr} {l : List Cl} (h : clIn w P l) (hb : Below w.heap.size w w') : clIn w' P l := by
  rcases h with h | ⟨g, o, h1, h2, h3⟩
  · exact Or.inl h
  · refine Or.inr ⟨g, o, h1, Nat.lt_of_lt_of_le h2 hb.size, fun i x hx => ?_⟩
    obtain ⟨a, b, c, d⟩ := h3 i x hx
    exact ⟨(hb.cell (p := ⟨g, o + i * 4, none⟩) h2).trans a, (hb.cell (p := ⟨g, o + i * 4 + 1, none⟩) h2).trans b, (hb.cell (p := ⟨g, o + i * 4 + 2, none⟩) h2).trans c, (hb.cell (p := ⟨g, o + i * 4 + 3, none⟩) h2).trans d⟩
theorem kyIn.below {w w' : World} {P : Option Addr} {l : List Ky} (h : kyIn w P l) (hb : Below w.heap.size w w') : kyIn w' P l := by
  rcases h with h | ⟨g, o, h1, h2, h3⟩
  · exact Or.inl h
  · refine Or.inr ⟨g, o, h1, Nat.lt_of_lt_of_le h2 hb.size, fun i x hx => ?_⟩
    obtain ⟨Q, C, a, b, c, d⟩ := h3 i x hx
    exact ⟨Q, C, (hb.cell (p := ⟨g, o + i * 3, none⟩) h2).trans a, (hb.cell (p := ⟨g, o + i * 3 + 1, none⟩) h2).trans b, (hb.cell (p := ⟨g, o + i * 3 + 2, none⟩) h2).trans c, d.1.below hb, d.2⟩
/-- a form in memory: its columns, its keys -/
def tbIn (w : World) (t : Tb) (P Q : Option Addr) : Prop := clIn w P t.cs ∧ kyIn w Q t.ks
theorem tbIn.below {w w' : World} {t : Tb} {P Q : Option Addr} (h : tbIn w t P Q) (hb : Below w.heap.size w w') : tbIn w' t P Q := ⟨h.1.below hb, h.2.below hb⟩
/-- a form as it is handed over -/
abbrev tbV (t : Tb) (P Q : Option Addr) (C D : Nat) : Value := .agg #[.string t.nm, .slice P t.cs.length C, .slice Q t.ks.length D, .int .i64 t.pa, .int .i64 t.mo]
abbrev clV (c : Cl) : Value := .agg #[.string c.nm, .int .i64 c.ty, .int .i64 c.mo, .bool c.nn]
abbrev kyV (k : Ky) (Q : Option Addr) (C : Nat) : Value := .agg #[.string k.nm, .slice Q k.cs.length C, .bool k.uq]
/-- its texts are no longer than they can be, its lists too -/
def tbG (t : Tb) : Prop := t.nm.size ≤ 9223372036854775807 ∧ t.cs.length ≤ 100000000 ∧ t.ks.length ≤ 100000000 ∧ (∀ c ∈ t.cs, c.nm.size ≤ 9223372036854775807) ∧ ∀ k ∈ t.ks, k.nm.size ≤ 9223372036854775807 ∧ k.cs.length ≤ 100000000
end Go.Proofs.YtecebjfcokmmkaaGreatDoor
