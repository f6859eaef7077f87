/-
  The walk of the statement LexPlaces, of any text and any bytes.
-/
import Derived.Test.YtclekihmhicpaaaGreatDoorLqH
namespace Go.Proofs.YtclekihmhicpaaaGreatDoor
open Go.RowKit Go.Shelf

theorem LexPlaces_any (s : List UInt8) (P : Option Addr) (C : Nat) (bt : List UInt8) (w : World) (hs : s.length ≤ 2000000) (hb : byI w P bt) (hbl : bt.length ≤ 2000000) (hW : LxW w) :
    Calls Tryz.prog 5 #[.string ⟨s.toArray⟩, .slice P bt.length C] w fun e w' => e = .returned (.bool true) ∧ Below w.heap.size w w' := by
  by_cases he : (tks s).why = 0
  · by_cases h0 : bt = []
    · subst h0
      exact LexPlaces_none s P C w hs hW he
    · exact LexPlaces_some s P C bt w hs hb h0 hbl hW he
  · exact LexPlaces_bad s P C _ w hW he
theorem mk_toP (a : ByteArray) : (ByteArray.mk a.data.toList.toArray) = a := by cases a; simp
theorem LexPlaces_bytes (a : ByteArray) (P : Option Addr) (C : Nat) (bt : List UInt8) (w : World) (hs : a.data.toList.length ≤ 2000000) (hb : byI w P bt) (hbl : bt.length ≤ 2000000) (hW : LxW w) :
    Calls Tryz.prog 5 #[.string a, .slice P bt.length C] w fun e w' => e = .returned (.bool true) ∧ Below w.heap.size w w' := by
  have h := LexPlaces_any a.data.toList P C bt w hs hb hbl hW
  rw [mk_toP] at h
  exact h
end Go.Proofs.YtclekihmhicpaaaGreatDoor
