/-
  The walks of lex's wordSize, digitsSize, fractionSize, withoutNoughts, quoteSize, badCharacter, signSize.
-/
import Derived.Test.YtfcolecglobcdaaGreatDoorLnA
import Derived.Test.YtfcolecglobcdaaGreatDoorLxA
import Derived.BigQuiet
import Derived.Deep.QuietTactic
import Derived.Lib.OthersKept
import Derived.Laws.RangeAny
namespace Go.Proofs.YtfcolecglobcdaaGreatDoor
open Go.RowKit Go.Shelf

theorem get_mk {l : List UInt8} {k : Nat} {x : UInt8} (h : l[k]? = some x) : ∀ h', (ByteArray.mk l.toArray)[k]'h' = x := by
  intro h'
  obtain ⟨h1, rfl⟩ := List.getElem?_eq_some_iff.1 h
  rfl
theorem drop_of_get {l : List UInt8} {k : Nat} {x : UInt8} (h : l[k]? = some x) : l.drop k = x :: l.drop (k + 1) := by
  obtain ⟨h1, rfl⟩ := List.getElem?_eq_some_iff.1 h
  exact List.drop_eq_getElem_cons h1
/-- how far a word goes, read so far -/
def wAt (l : List UInt8) (k : Nat) : Prop := wsz l = if k = 0 then wsz (l.drop k) else k + wtl (l.drop k)
theorem wAt_zero (l : List UInt8) : wAt l 0 := rfl
theorem wAt_end {l : List UInt8} {k : Nat} (h : wAt l k) (hk : l.length ≤ k) : wsz l = k := by
  unfold wAt at h
  rw [List.drop_eq_nil_of_le hk] at h
  split at h
  · rename_i h0; rw [h, h0]; rfl
  · simpa [wtl] using h
theorem wAt_letter {l : List UInt8} {k : Nat} {x : UInt8} (h : wAt l k) (hx : l[k]? = some x) (hl : isL x = true) : wAt l (k + 1) := by
  unfold wAt at h ⊢
  rw [drop_of_get hx] at h
  rw [if_neg (by omega)]
  split at h
  · rename_i h0; rw [h, wsz, if_pos hl, h0]; omega
  · rw [h, wtl, if_pos (by rw [hl]; rfl)]; omega
theorem wAt_digit {l : List UInt8} {k : Nat} {x : UInt8} (h : wAt l k) (hx : l[k]? = some x) (h0 : 0 < k) (hd : isD x = true) : wAt l (k + 1) := by
  unfold wAt at h ⊢
  rw [drop_of_get hx, if_neg (by omega), wtl, if_pos (by rw [hd]; simp)] at h
  rw [if_neg (by omega)]; omega
theorem wAt_stop0 {l : List UInt8} {x : UInt8} (h : wAt l 0) (hx : l[0]? = some x) (hl : isL x = false) : wsz l = 0 := by
  unfold wAt at h
  rw [drop_of_get hx, if_pos rfl, wsz, if_neg (by rw [hl]; decide)] at h
  exact h
theorem wAt_stop {l : List UInt8} {k : Nat} {x : UInt8} (h : wAt l k) (hx : l[k]? = some x) (h0 : 0 < k) (hl : isL x = false) (hd : isD x = false) : wsz l = k := by
  unfold wAt at h
  rw [drop_of_get hx, if_neg (by omega), wtl, if_neg (by rw [hl, hd]; decide)] at h
  omega

set_option maxHeartbeats 2000000 in
set_option maxRecDepth 1000000 in
theorem wordSize_any (l : List UInt8) (w : World) (hs : l.length ≤ 100000) :
    Calls Tryz.prog 28 #[.string ⟨l.toArray⟩] w fun e w' => e = .returned (.int .i64 (wsz l : Nat)) ∧ Below w.heap.size w w' := by
  have IL : Hid (∀ (x : UInt8) (b : Bool) w, isL x = b → Calls Tryz.prog 45 #[.int .u8 (x.toNat : Int)] w fun e w' => e = .returned (.bool b) ∧ w' = w) := fun x b w h => h ▸ isLetter_any x w
  have ID : Hid (∀ (x : UInt8) (b : Bool) w, isD x = b → Calls Tryz.prog 46 #[.int .u8 (x.toNat : Int)] w fun e w' => e = .returned (.bool b) ∧ w' = w) := fun x b w h => h ▸ isDigit_any x w
  have hzl : (ByteArray.mk l.toArray).size = l.length := size_mk l
  go_enter Tryz.func28, Tryz.ntmps28
  go_wp2_with fail
  go_loopw [3] (fun s2 wr => ∃ (k : Nat), s2 = .int .i64 k ∧ k ≤ l.length ∧ Hid (wAt l k) ∧ Hid (Below w.heap.size w wr)) (fun s2 _ => l.length - (intOf s2).toNat)
  case atStart => exact ⟨0, rfl, Nat.zero_le _, wAt_zero l, Below.refl _ _⟩
  case round =>
    obtain ⟨k, rfl, hk, hg, hbr⟩ := hrel
    by_cases hlt : k < l.length
    · obtain ⟨x, hx⟩ : ∃ x, l[k]? = some x := ⟨l[k], List.getElem?_eq_getElem hlt⟩
      have hgt := get_mk hx
      have hlti : (k : Int) < (l.length : Int) := by omega
      cases h1 : isL x with
      | true =>
        have C1 : Hid (∀ w, Calls Tryz.prog 45 #[.int .u8 (x.toNat : Int)] w fun e w' => e = .returned (.bool true) ∧ w' = w) := fun w => IL.out x true w h1
        have hg2 : Hid (wAt l (k + 1)) := wAt_letter hg.out hx h1
        clear hx hg IL ID h1
        go_wp2_with fail
        refine (C1.out _).mono ?_
        rintro e w1 ⟨rfl, hwx⟩
        have hwy := hwx.symm
        subst hwy
        clear C1
        go_wp2_with fail
        go_roundw
        case rel => exact ⟨k + 1, by go_num, hlt, hg2, hbr⟩
        case measure => simp [intOf]; omega
      | false =>
        have C1 : Hid (∀ w, Calls Tryz.prog 45 #[.int .u8 (x.toNat : Int)] w fun e w' => e = .returned (.bool false) ∧ w' = w) := fun w => IL.out x false w h1
        by_cases h0 : k = 0
        · subst h0
          have hE := wAt_stop0 hg.out hx h1
          have hb := hbr.out
          clear hx hg IL ID h1 hbr
          go_wp2_with fail
          refine (C1.out _).mono ?_
          rintro e w1 ⟨rfl, hwx⟩
          have hwy := hwx.symm
          subst hwy
          clear C1
          go_wp2_with fail
          go_ret
          exact ⟨by first | rfl | (rw [hE]; rfl), hb⟩
        · have h0i : (0 : Int) < (k : Int) := by omega
          cases h2 : isD x with
          | true =>
            have C2 : Hid (∀ w, Calls Tryz.prog 46 #[.int .u8 (x.toNat : Int)] w fun e w' => e = .returned (.bool true) ∧ w' = w) := fun w => ID.out x true w h2
            have hg2 : Hid (wAt l (k + 1)) := wAt_digit hg.out hx (by omega) h2
            clear hx hg IL ID h1 h2
            go_wp2_with fail
            refine (C1.out _).mono ?_
            rintro e w1 ⟨rfl, hwx⟩
            have hwy := hwx.symm
            subst hwy
            clear C1
            go_wp2_with fail
            refine (C2.out _).mono ?_
            rintro e w1 ⟨rfl, hwx⟩
            have hwy := hwx.symm
            subst hwy
            clear C2
            go_wp2_with fail
            go_roundw
            case rel => exact ⟨k + 1, by go_num, hlt, hg2, hbr⟩
            case measure => simp [intOf]; omega
          | false =>
            have C2 : Hid (∀ w, Calls Tryz.prog 46 #[.int .u8 (x.toNat : Int)] w fun e w' => e = .returned (.bool false) ∧ w' = w) := fun w => ID.out x false w h2
            have hE := wAt_stop hg.out hx (by omega) h1 h2
            have hb := hbr.out
            clear hx hg IL ID h1 h2 hbr
            go_wp2_with fail
            refine (C1.out _).mono ?_
            rintro e w1 ⟨rfl, hwx⟩
            have hwy := hwx.symm
            subst hwy
            clear C1
            go_wp2_with fail
            refine (C2.out _).mono ?_
            rintro e w1 ⟨rfl, hwx⟩
            have hwy := hwx.symm
            subst hwy
            clear C2
            go_wp2_with fail
            go_ret
            exact ⟨by first | rfl | (rw [hE]; rfl), hb⟩
    · have hlti : ¬ (k : Int) < (l.length : Int) := by omega
      have hE := wAt_end hg.out (by omega)
      have hb := hbr.out
      clear hg IL ID hbr
      go_wp2_with fail
      go_ret
      exact ⟨by first | rfl | (rw [hE]; rfl), hb⟩

/-- how far digits go, read so far -/
def dAt (l : List UInt8) (k : Nat) : Prop := dsz l = k + dsz (l.drop k)
theorem dAt_zero (l : List UInt8) : dAt l 0 := by unfold dAt; simp
theorem dAt_end {l : List UInt8} {k : Nat} (h : dAt l k) (hk : l.length ≤ k) : dsz l = k := by
  unfold dAt at h
  rw [List.drop_eq_nil_of_le hk] at h
  simpa [dsz] using h
theorem dAt_digit {l : List UInt8} {k : Nat} {x : UInt8} (h : dAt l k) (hx : l[k]? = some x) (hd : isD x = true) : dAt l (k + 1) := by
  unfold dAt at h ⊢
  rw [drop_of_get hx, dsz, if_pos hd] at h
  omega
theorem dAt_stop {l : List UInt8} {k : Nat} {x : UInt8} (h : dAt l k) (hx : l[k]? = some x) (hd : isD x = false) : dsz l = k := by
  unfold dAt at h
  rw [drop_of_get hx, dsz, if_neg (by rw [hd]; decide)] at h
  omega
set_option maxHeartbeats 2000000 in
set_option maxRecDepth 1000000 in
theorem digitsSize_any (l : List UInt8) (w : World) (hs : l.length ≤ 100000) :
    Calls Tryz.prog 105 #[.string ⟨l.toArray⟩] w fun e w' => e = .returned (.int .i64 (dsz l : Nat)) ∧ Below w.heap.size w w' := by
  have ID : Hid (∀ (x : UInt8) (b : Bool) w, isD x = b → Calls Tryz.prog 46 #[.int .u8 (x.toNat : Int)] w fun e w' => e = .returned (.bool b) ∧ w' = w) := fun x b w h => h ▸ isDigit_any x w
  have hzl : (ByteArray.mk l.toArray).size = l.length := size_mk l
  go_enter Tryz.func105, Tryz.ntmps105
  go_wp2_with fail
  go_loopw [3] (fun s2 wr => ∃ (k : Nat), s2 = .int .i64 k ∧ k ≤ l.length ∧ Hid (dAt l k) ∧ Hid (Below w.heap.size w wr)) (fun s2 _ => l.length - (intOf s2).toNat)
  case atStart => exact ⟨0, rfl, Nat.zero_le _, dAt_zero l, Below.refl _ _⟩
  case round =>
    obtain ⟨k, rfl, hk, hg, hbr⟩ := hrel
    by_cases hlt : k < l.length
    · obtain ⟨x, hx⟩ : ∃ x, l[k]? = some x := ⟨l[k], List.getElem?_eq_getElem hlt⟩
      have hgt := get_mk hx
      have hlti : (k : Int) < (l.length : Int) := by omega
      cases h2 : isD x with
      | true =>
        have C2 : Hid (∀ w, Calls Tryz.prog 46 #[.int .u8 (x.toNat : Int)] w fun e w' => e = .returned (.bool true) ∧ w' = w) := fun w => ID.out x true w h2
        have hg2 : Hid (dAt l (k + 1)) := dAt_digit hg.out hx h2
        clear hx hg ID h2
        go_wp2_with fail
        refine (C2.out _).mono ?_
        rintro e w1 ⟨rfl, hwx⟩
        have hwy := hwx.symm
        subst hwy
        clear C2
        go_wp2_with fail
        go_roundw
        case rel => exact ⟨k + 1, by go_num, hlt, hg2, hbr⟩
        case measure => simp [intOf]; omega
      | false =>
        have C2 : Hid (∀ w, Calls Tryz.prog 46 #[.int .u8 (x.toNat : Int)] w fun e w' => e = .returned (.bool false) ∧ w' = w) := fun w => ID.out x false w h2
        have hE := dAt_stop hg.out hx h2
        have hb := hbr.out
        clear hx hg ID h2 hbr
        go_wp2_with fail
        refine (C2.out _).mono ?_
        rintro e w1 ⟨rfl, hwx⟩
        have hwy := hwx.symm
        subst hwy
        clear C2
        go_wp2_with fail
        go_ret
        exact ⟨by first | rfl | (rw [hE]; rfl), hb⟩
    · have hlti : ¬ (k : Int) < (l.length : Int) := by omega
      have hE := dAt_end hg.out (by omega)
      have hb := hbr.out
      clear hg ID hbr
      go_wp2_with fail
      go_ret
      exact ⟨by first | rfl | (rw [hE]; rfl), hb⟩
end Go.Proofs.YtfcolecglobcdaaGreatDoor
