/-
  The library's contracts that tokens ask for, at this program.
-/
import Derived.Test.YtfcolecglobcdaaGreatDoorLxM
import Derived.Test.YtfcolecglobcdaaGreatDoorPaD
import Derived.Test.YtfcolecglobcdaaGreatDoorShelfL
import Derived.Shelf.Strings.Search3
import Derived.Shelf.Strings.Trim
import Derived.Shelf.Strings.OnBuilder
import Derived.Shelf.Small.Strs
namespace Go.Proofs.YtfcolecglobcdaaGreatDoor
open Go.RowKit Go.Shelf
set_option maxRecDepth 100000

theorem xLower : Builder.Extra Tryz.prog Tryz.laysLower_ren where
  sizeBuilder := by kernel_rfl
  liesBuilder := by kernel_rfl
  t5 := Tryz.underlying5
  a5 := Tryz.isAgg5
  z5 := Tryz.sizeOf5
  v5 := Tryz.zeroValue5
  infoByte := by kernel_rfl
  cellsByte := by kernel_rfl
  sizeByte := by kernel_rfl
  neB5 := by decide
theorem ToLower_any (l : List UInt8) (w : World) (hs : l.length ≤ 100000) (ha : ∀ b ∈ l, b.toNat < 128) :
    Calls Tryz.prog 29 #[.string ⟨l.toArray⟩] w fun e w' => e = .returned (.string ⟨(Lib.toLowerA l).toArray⟩) ∧ Below w.heap.size w w' := by
  have h := Any.strings_ToLower_ascii Tryz.laysLower xLower ⟨l.toArray⟩ w (by rw [size_mk]; omega) (by
    intro j b hb
    exact ha b (List.mem_of_getElem? hb))
  exact h
theorem IndexByte_any (l : List UInt8) (c : UInt8) (w : World) :
    Calls Tryz.prog 73 #[.string ⟨l.toArray⟩, .int .u8 (c.toNat : Int)] w fun e w' => e = .returned (.int .i64 (Lib.indexByte l c)) ∧ w' = w := by
  have h := Any.strings_IndexByte Tryz.laysIdxB ⟨l.toArray⟩ (c.toNat : Int) w
  have e : (c.toNat : Int).toNat.toUInt8 = c := by simp
  rw [e] at h
  exact h
theorem TrimLeft_any (l : List UInt8) (w : World) :
    Calls Tryz.prog 132 #[.string ⟨l.toArray⟩, .string ⟨#[48]⟩] w fun e w' => e = .returned (.string ⟨(l.dropWhile (· == 48)).toArray⟩) ∧ w' = w :=
  Any.strings_TrimLeft_one Tryz.laysTrimL ⟨l.toArray⟩ 48 (by decide) w
theorem Index_any (l sub : List UInt8) (w : World) (hM : Mx w) (hs : l.length ≤ 100000) :
    Calls Tryz.prog 41 #[.string ⟨l.toArray⟩, .string ⟨sub.toArray⟩] w fun e w' => e = .returned (.int .i64 (Lib.index l sub)) ∧ w' = w := by
  obtain ⟨m, hm⟩ := hM
  exact Any.strings_Index { Tryz.laysIndex with } ⟨l.toArray⟩ ⟨sub.toArray⟩ m w (by rw [size_mk]; omega) hm
end Go.Proofs.YtfcolecglobcdaaGreatDoor
