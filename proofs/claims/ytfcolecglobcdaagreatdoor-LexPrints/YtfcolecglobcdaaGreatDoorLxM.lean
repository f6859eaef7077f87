/-
  Tokens of a text, as functions: how far words, numbers, quotes, signs go; pieces; places.
-/
import Derived.Test.YtfcolecglobcdaaGreatDoorPaM
import Derived.Lib.TrimUEq
import Derived.Lib.MapLaws
import Derived.Lib.Case
namespace Go.Proofs.YtfcolecglobcdaaGreatDoor
open Go.RowKit Go.Shelf

/-! ### How far things go -/
def isL (x : UInt8) : Bool := decide ((97 ≤ x.toNat ∧ x.toNat ≤ 122) ∨ (65 ≤ x.toNat ∧ x.toNat ≤ 90) ∨ x.toNat = 95)
def wtl : List UInt8 → Nat
  | [] => 0
  | x :: r => if (isL x || isD x) = true then wtl r + 1 else 0
def wsz : List UInt8 → Nat
  | [] => 0
  | x :: r => if isL x = true then wtl r + 1 else 0
def dsz : List UInt8 → Nat
  | [] => 0
  | x :: r => if isD x = true then dsz r + 1 else 0
def fsz : List UInt8 → Nat
  | [] => 0
  | x :: r => if x = 46 then dsz r else 0
/-- how many bytes a quote has behind the sign that opens it, the one that closes it counted; 0: it is not closed -/
def qz (q : UInt8) : List UInt8 → Nat
  | [] => 0
  | [x] => if x = q then 1 else 0
  | x :: y :: r => if x = q then (if y = q then (if qz q r = 0 then 0 else qz q r + 2) else 1) else (if qz q (y :: r) = 0 then 0 else qz q (y :: r) + 1)
def qsz : List UInt8 → Nat
  | [] => 0
  | q :: r => if qz q r = 0 then 0 else qz q r + 1
def sgs : List (List UInt8) := [[60, 61], [62, 61], [60, 62], [124, 124], [40], [41], [44], [59], [46], [42], [43], [45], [47], [61], [60], [62]]
def ssF (l : List UInt8) : List (List UInt8) → Nat
  | [] => 0
  | g :: gs => if g.isPrefixOf l = true then g.length else ssF l gs
def ssz (l : List UInt8) : Nat := ssF l sgs
/-- where the first byte stands at which no character begins, or a character 0 -/
def badHere (l : List UInt8) : Bool := decide ((Lib.decodeL l).1 = 0) || (decide ((Lib.decodeL l).1 = 65533) && !([239, 191, 189] : List UInt8).isPrefixOf l)
def badF : Nat → Nat → List UInt8 → Int
  | 0, _, _ => -1
  | f + 1, k, l => if l = [] then -1 else if badHere l = true then (k : Int) else badF f (k + (Lib.decodeL l).2) (l.drop (Lib.decodeL l).2)
def badA (l : List UInt8) : Int := badF l.length 0 l
/-- line and column behind a text -/
def behF : Nat → Nat → Nat → List UInt8 → Nat × Nat
  | 0, a, b, _ => (a, b)
  | f + 1, a, b, l => if l = [] then (a, b) else if (Lib.decodeL l).1 = 10 then behF f (a + 1) 1 (l.drop (Lib.decodeL l).2) else behF f a (b + 1) (l.drop (Lib.decodeL l).2)
def beh (a b : Nat) (l : List UInt8) : Nat × Nat := behF l.length a b l
/-- digits without noughts ahead -/
def woN (l : List UInt8) : List UInt8 := if l.dropWhile (· == 48) = [] then [48] else l.dropWhile (· == 48)

/-! ### Pieces -/
structure Pc where
  size : Nat
  kind : Int
  text : List UInt8
  v : Va
  why : Int
  ahead : Int
def v0 : Va := ⟨0, 0, ⟨#[]⟩⟩
def pcE (why : Int) : Pc := ⟨0, 0, [], v0, why, 0⟩
def pcT (n : Nat) (k : Int) (t : List UInt8) : Pc := ⟨n, k, t, v0, 0, 0⟩
def rdA (l : List UInt8) (k : Int) (t : List UInt8) (v : Va) : Pc := if 0 ≤ badA l then ⟨0, 0, [], v0, 30, badA l⟩ else ⟨l.length, k, t, v, 0, 0⟩
def rdL (l : List UInt8) : Pc := rdA (Lib.cut l [10]).1 0 [] v0
def rdR (l : List UInt8) : Pc := if Lib.index (l.drop 2) [42, 47] < 0 then pcE 31 else rdA (l.take (2 + (Lib.index (l.drop 2) [42, 47]).toNat + 2)) 0 [] v0
def rdW (l : List UInt8) : Pc := if 32 < wsz l then pcE 6 else pcT (wsz l) 1 (Lib.toLowerA (l.take (wsz l)))
def rdM (l : List UInt8) : Pc := if wsz (l.drop 1) = 0 ∨ 32 < wsz (l.drop 1) then pcE 6 else pcT (1 + wsz (l.drop 1)) 4 (Lib.toLowerA ((l.drop 1).take (wsz (l.drop 1))))
def inner (l : List UInt8) : List UInt8 := (l.take (qsz l - 1)).drop 1
def rdQ (l : List UInt8) : Pc :=
  if qsz l = 0 then pcE 31
  else if Lib.replaceAll (inner l) [34, 34] [34] = [] ∨ 32 < (Lib.replaceAll (inner l) [34, 34] [34]).length then pcE 6
  else rdA (l.take (qsz l)) 2 (Lib.replaceAll (inner l) [34, 34] [34]) v0
def rdT (l : List UInt8) : Pc :=
  if qsz l = 0 then pcE 31
  else if 4096 < (Lib.replaceAll (inner l) [39, 39] [39]).length then pcE 2
  else rdA (l.take (qsz l)) 3 [] ⟨3, 0, ⟨(Lib.replaceAll (inner l) [39, 39] [39]).toArray⟩⟩
def nsz (l : List UInt8) : Nat := if fsz (l.drop (dsz l)) = 0 then dsz l else dsz l + (1 + fsz (l.drop (dsz l)))
def numT (l : List UInt8) : List UInt8 := woN (l.take (dsz l)) ++ (l.take (nsz l)).drop (dsz l)
def rdN (l : List UInt8) : Pc :=
  if 4 < fsz (l.drop (dsz l)) then pcE 3
  else if (prs (numT l)).2 = 0 then ⟨nsz l, 3, [], (prs (numT l)).1, 0, 0⟩ else pcE 10
def rdS (l : List UInt8) : Pc := if ssz l = 0 then pcE 30 else pcT (ssz l) 5 (l.take (ssz l))
def rdP (l : List UInt8) : Pc :=
  match l with
  | [] => pcT 0 6 []
  | x :: r =>
    if 0 ≤ Lib.indexByte [32, 9, 10, 13] x then pcT 1 0 []
    else if ([45, 45] : List UInt8).isPrefixOf (x :: r) = true then rdL (x :: r)
    else if ([47, 42] : List UInt8).isPrefixOf (x :: r) = true then rdR (x :: r)
    else if isL x = true then rdW (x :: r)
    else if isD x = true then rdN (x :: r)
    else if x = 34 then rdQ (x :: r)
    else if x = 39 then rdT (x :: r)
    else if x = 58 then rdM (x :: r)
    else rdS (x :: r)

/-! ### Tokens -/
structure Tk where
  kind : Int
  text : List UInt8
  v : Va
  pos : Nat
  line : Nat
  col : Nat
structure Ts where
  l : List Tk
  pos : Int
  why : Int
def Ts.cons (t : Tk) (x : Ts) : Ts := ⟨t :: x.l, x.pos, x.why⟩
def scn : Nat → Nat → Nat → Nat → List UInt8 → Ts
  | 0, _, _, _, _ => ⟨[], 0, 0⟩
  | f + 1, at', ln, cl, r =>
    if (rdP r).why ≠ 0 then ⟨[], at' + (rdP r).ahead, (rdP r).why⟩
    else if (rdP r).kind = 6 then ⟨[⟨6, (rdP r).text, (rdP r).v, at', ln, cl⟩], 0, 0⟩
    else if (rdP r).kind = 0 then scn f (at' + (rdP r).size) (beh ln cl (r.take (rdP r).size)).1 (beh ln cl (r.take (rdP r).size)).2 (r.drop (rdP r).size)
    else Ts.cons ⟨(rdP r).kind, (rdP r).text, (rdP r).v, at', ln, cl⟩ (scn f (at' + (rdP r).size) (beh ln cl (r.take (rdP r).size)).1 (beh ln cl (r.take (rdP r).size)).2 (r.drop (rdP r).size))
def tks (l : List UInt8) : Ts := if 65536 < l.length then ⟨[], 0, 2⟩ else scn (l.length + 1) 0 1 1 l
end Go.Proofs.YtfcolecglobcdaaGreatDoor
