/-
  The walks of the reference's Plain, Words and Own.
-/
import Derived.Test.YtclekihmhicpaaaGreatDoorLnH
import Derived.Test.YtclekihmhicpaaaGreatDoorLnA
import Derived.Lib.SmallJoins
namespace Go.Proofs.YtclekihmhicpaaaGreatDoor
open Go.RowKit Go.Shelf

def ownB (l : List UInt8) : Bool := wordsL.contains l
theorem all_next {l : List UInt8} {k : Nat} {x : UInt8} (h : l[k]? = some x) : (l.take (k + 1)).all okc = ((l.take k).all okc && okc x) := by
  rw [List.take_add_one, h, List.all_append]
  simp
theorem all_bad {l : List UInt8} {k : Nat} {x : UInt8} (h : l[k]? = some x) (hx : okc x = false) : l.all okc = false := by
  rw [List.all_eq_false]
  exact ⟨x, List.mem_of_getElem? h, by simp [hx]⟩
set_option maxHeartbeats 2000000 in
set_option maxRecDepth 1000000 in
theorem refPlain_any (l : List UInt8) (w : World) : Calls Tryz.prog 13 #[.string ⟨l.toArray⟩] w fun e w' => e = .returned (.bool (rpB l)) ∧ Below w.heap.size w w' := by
  have hzl : (ByteArray.mk l.toArray).size = l.length := size_mk l
  by_cases h0 : l.length < 1
  · have i0 : (l.length : Int) < 1 := by omega
    have HE : Hid (rpB l = false) := by show _ = _; unfold rpB; rw [decide_eq_false (by omega : ¬ 1 ≤ l.length)]; rfl
    clear h0
    go_enter Tryz.func13, Tryz.ntmps13
    go_wp2_with fail
    rw [HE.out]
    go_ret
    exact ⟨rfl, Below.refl _ _⟩
  have i0 : ¬ (l.length : Int) < 1 := by omega
  by_cases h1 : 32 < l.length
  · have i1 : (32 : Int) < (l.length : Int) := by omega
    have HE : Hid (rpB l = false) := by show _ = _; unfold rpB; rw [decide_eq_false (by omega : ¬ l.length ≤ 32)]; simp
    clear h0 h1
    go_enter Tryz.func13, Tryz.ntmps13
    go_wp2_with fail
    rw [HE.out]
    go_ret
    exact ⟨rfl, Below.refl _ _⟩
  have i1 : ¬ (32 : Int) < (l.length : Int) := by omega
  obtain ⟨y, hy⟩ : ∃ y, l[0]? = some y := ⟨l[0]'(by omega), List.getElem?_eq_getElem _⟩
  have hgy := get_mk hy
  have i2 : (0 : Int) < (l.length : Int) := by omega
  have hrp : rpB l = (!isD y && l.all okc) := by
    unfold rpB
    rw [decide_eq_true (by omega : 1 ≤ l.length), decide_eq_true (by omega : l.length ≤ 32)]
    rcases l with _ | ⟨z, r⟩
    · simp at hy
    · simp at hy; subst hy; simp
  cases hd : isD y with
  | true =>
    have HE : Hid (rpB l = false) := by show _ = _; rw [hrp, hd]; rfl
    have D0 : Hid (∀ w, Calls Tryz.prog 30 #[.int .u8 (y.toNat : Int)] w fun e w' => e = .returned (.bool true) ∧ w' = w) := fun w => hd ▸ refDigit_any y w
    clear h0 h1 hrp hd hy
    go_enter Tryz.func13, Tryz.ntmps13
    go_wp2_with fail
    refine (D0.out _).mono ?_
    rintro e w1 ⟨rfl, hwx⟩
    have hwy := hwx.symm
    subst hwy
    clear D0 hwx
    go_wp2_with fail
    rw [HE.out]
    go_ret
    exact ⟨rfl, Below.refl _ _⟩
  | false =>
    have HR : Hid (rpB l = l.all okc) := by show _ = _; rw [hrp, hd]; rfl
    have D0 : Hid (∀ w, Calls Tryz.prog 30 #[.int .u8 (y.toNat : Int)] w fun e w' => e = .returned (.bool false) ∧ w' = w) := fun w => hd ▸ refDigit_any y w
    have IL : Hid (∀ (x : UInt8) w, Calls Tryz.prog 31 #[.int .u8 (x.toNat : Int)] w fun e w' => e = .returned (.bool (isL x)) ∧ w' = w) := refLetter_any
    have ID : Hid (∀ (x : UInt8) w, Calls Tryz.prog 30 #[.int .u8 (x.toNat : Int)] w fun e w' => e = .returned (.bool (isD x)) ∧ w' = w) := refDigit_any
    clear h0 hrp hd hy
    go_enter Tryz.func13, Tryz.ntmps13
    go_wp2_with fail
    refine (D0.out _).mono ?_
    rintro e w1 ⟨rfl, hwx⟩
    have hwy := hwx.symm
    subst hwy
    clear D0 hwx
    go_wp2_with fail
    clear hgy
    go_loopw [3] (fun s3 wr => ∃ (k : Nat), s3 = .int .i64 (k : Nat) ∧ k ≤ l.length ∧ Hid ((l.take k).all okc = true) ∧ wr = w) (fun s3 _ => l.length - (intOf s3).toNat)
    case atStart => exact ⟨0, rfl, by omega, rfl, rfl⟩
    case round =>
      obtain ⟨k, rfl, hk, ha, rfl⟩ := hrel
      by_cases hlt : k < l.length
      · have hlti : (k : Int) < (l.length : Int) := by omega
        obtain ⟨x, hx⟩ : ∃ x, l[k]? = some x := ⟨l[k]'hlt, List.getElem?_eq_getElem _⟩
        have hgx := get_mk hx
        have nxt := all_next hx
        have bad := @all_bad l k x hx
        have hok : okc x = ((isL x || isD x) && !decide (65 ≤ x.toNat ∧ x.toNat ≤ 90)) := rfl
        have I1 : Hid (∀ w, Calls Tryz.prog 31 #[.int .u8 (x.toNat : Int)] w fun e w' => e = .returned (.bool (isL x)) ∧ w' = w) := IL.out x
        have I2 : Hid (∀ w, Calls Tryz.prog 30 #[.int .u8 (x.toNat : Int)] w fun e w' => e = .returned (.bool (isD x)) ∧ w' = w) := ID.out x
        by_cases hu : 65 ≤ x.toNat
        · have u1 : (65 : Int) ≤ (x.toNat : Int) := by omega
          by_cases hv : x.toNat ≤ 90
          · have u2 : (x.toNat : Int) ≤ 90 := by omega
            have HE : Hid (rpB l = false) := by show _ = _; rw [HR.out]; exact bad (by rw [hok, decide_eq_true ⟨hu, hv⟩]; simp)
            have hLx : isL x = true := by simp only [isL, decide_eq_true_eq]; omega
            rw [hLx] at I1
            clear nxt bad hok hx IL ID HR ha hLx I2
            go_wp2_with fail
            refine (I1.out _).mono ?_
            rintro e w1 ⟨rfl, hwx⟩
            have hwy := hwx.symm
            subst hwy
            clear I1 hwx
            go_wp2_with fail
            rw [HE.out]
            go_ret
            exact ⟨rfl, Below.refl _ _⟩
          · have u2 : ¬ (x.toNat : Int) ≤ 90 := by omega
            have hnu : decide (65 ≤ x.toNat ∧ x.toNat ≤ 90) = false := decide_eq_false (by omega)
            rw [hnu, Bool.not_false, Bool.and_true] at hok
            clear hnu
            cases hL : isL x with
            | true =>
              rw [hL, Bool.true_or] at hok
              rw [hL] at I1
              have ha2 : Hid ((l.take (k + 1)).all okc = true) := by show _ = _; rw [nxt, ha.out, hok]; rfl
              clear nxt bad hok hx IL ID HR ha hL I2
              go_wp2_with fail
              refine (I1.out _).mono ?_
              rintro e w1 ⟨rfl, hwx⟩
              have hwy := hwx.symm
              subst hwy
              clear I1 hwx
              go_wp2_with fail
              go_roundw
              case rel => exact ⟨k + 1, by go_num, hlt, ha2, by trivial⟩
              case measure => simp [intOf]; omega
            | false =>
              rw [hL, Bool.false_or] at hok
              rw [hL] at I1
              cases hD : isD x with
              | true =>
                rw [hD] at hok I2
                have ha2 : Hid ((l.take (k + 1)).all okc = true) := by show _ = _; rw [nxt, ha.out, hok]; rfl
                clear nxt bad hok hx IL ID HR ha hL hD
                go_wp2_with fail
                refine (I1.out _).mono ?_
                rintro e w1 ⟨rfl, hwx⟩
                have hwy := hwx.symm
                subst hwy
                clear I1 hwx
                go_wp2_with fail
                refine (I2.out _).mono ?_
                rintro e w2 ⟨rfl, hwx⟩
                have hwy := hwx.symm
                subst hwy
                clear I2 hwx
                go_wp2_with fail
                go_roundw
                case rel => exact ⟨k + 1, by go_num, hlt, ha2, by trivial⟩
                case measure => simp [intOf]; omega
              | false =>
                rw [hD] at hok I2
                have HE : Hid (rpB l = false) := by show _ = _; rw [HR.out]; exact bad hok
                clear nxt bad hok hx IL ID HR ha hL hD
                go_wp2_with fail
                refine (I1.out _).mono ?_
                rintro e w1 ⟨rfl, hwx⟩
                have hwy := hwx.symm
                subst hwy
                clear I1 hwx
                go_wp2_with fail
                refine (I2.out _).mono ?_
                rintro e w2 ⟨rfl, hwx⟩
                have hwy := hwx.symm
                subst hwy
                clear I2 hwx
                go_wp2_with fail
                rw [HE.out]
                go_ret
                exact ⟨rfl, Below.refl _ _⟩
        · have u1 : ¬ (65 : Int) ≤ (x.toNat : Int) := by omega
          have hnu : decide (65 ≤ x.toNat ∧ x.toNat ≤ 90) = false := decide_eq_false (by omega)
          rw [hnu, Bool.not_false, Bool.and_true] at hok
          clear hnu
          cases hL : isL x with
          | true =>
            rw [hL, Bool.true_or] at hok
            rw [hL] at I1
            have ha2 : Hid ((l.take (k + 1)).all okc = true) := by show _ = _; rw [nxt, ha.out, hok]; rfl
            clear nxt bad hok hx IL ID HR ha hL I2
            go_wp2_with fail
            refine (I1.out _).mono ?_
            rintro e w1 ⟨rfl, hwx⟩
            have hwy := hwx.symm
            subst hwy
            clear I1 hwx
            go_wp2_with fail
            go_roundw
            case rel => exact ⟨k + 1, by go_num, hlt, ha2, by trivial⟩
            case measure => simp [intOf]; omega
          | false =>
            rw [hL, Bool.false_or] at hok
            rw [hL] at I1
            cases hD : isD x with
            | true =>
              rw [hD] at hok I2
              have ha2 : Hid ((l.take (k + 1)).all okc = true) := by show _ = _; rw [nxt, ha.out, hok]; rfl
              clear nxt bad hok hx IL ID HR ha hL hD
              go_wp2_with fail
              refine (I1.out _).mono ?_
              rintro e w1 ⟨rfl, hwx⟩
              have hwy := hwx.symm
              subst hwy
              clear I1 hwx
              go_wp2_with fail
              refine (I2.out _).mono ?_
              rintro e w2 ⟨rfl, hwx⟩
              have hwy := hwx.symm
              subst hwy
              clear I2 hwx
              go_wp2_with fail
              go_roundw
              case rel => exact ⟨k + 1, by go_num, hlt, ha2, by trivial⟩
              case measure => simp [intOf]; omega
            | false =>
              rw [hD] at hok I2
              have HE : Hid (rpB l = false) := by show _ = _; rw [HR.out]; exact bad hok
              clear nxt bad hok hx IL ID HR ha hL hD
              go_wp2_with fail
              refine (I1.out _).mono ?_
              rintro e w1 ⟨rfl, hwx⟩
              have hwy := hwx.symm
              subst hwy
              clear I1 hwx
              go_wp2_with fail
              refine (I2.out _).mono ?_
              rintro e w2 ⟨rfl, hwx⟩
              have hwy := hwx.symm
              subst hwy
              clear I2 hwx
              go_wp2_with fail
              rw [HE.out]
              go_ret
              exact ⟨rfl, Below.refl _ _⟩
      · have hlti : ¬ (k : Int) < (l.length : Int) := by omega
        have HE : Hid (rpB l = true) := by
          show _ = _
          have h := ha.out
          rw [List.take_of_length_le (by omega)] at h
          rw [HR.out, h]
        clear IL ID HR ha
        go_wp2_with fail
        rw [HE.out]
        go_ret
        exact ⟨rfl, Below.refl _ _⟩
set_option maxHeartbeats 2000000 in
set_option maxRecDepth 1000000 in
theorem Words_any (w : World) : Calls Tryz.prog 43 #[] w fun e w' => e = .returned (.slice (some ⟨w.heap.size, 0, none⟩) 59 59) ∧ w' = w.alloc (.cells (wordsL.map fun v => Value.string ⟨v.toArray⟩).toArray 9) := by
  go_enter Tryz.func43, Tryz.ntmps43
  go_wp2_with fail
  go_ret
  exact ⟨rfl, rfl⟩
set_option maxHeartbeats 2000000 in
set_option maxRecDepth 1000000 in
theorem Own_any (l : List UInt8) (w : World) : Calls Tryz.prog 25 #[.string ⟨l.toArray⟩] w fun e w' => e = .returned (.bool (ownB l)) ∧ Below w.heap.size w w' := by
  have WO : Hid (∀ w, Calls Tryz.prog 43 #[] w fun e w' => e = .returned (.slice (some ⟨w.heap.size, 0, none⟩) 59 59) ∧ w' = w.alloc (.cells (wordsL.map fun v => Value.string ⟨v.toArray⟩).toArray 9)) := Words_any
  have hcell : ∀ (i : Nat) (v : List UInt8), wordsL[i]? = some v → (w.alloc (.cells (wordsL.map fun v => Value.string ⟨v.toArray⟩).toArray 9)).cell? ⟨w.heap.size, i, none⟩ = some (.string ⟨v.toArray⟩) := fun i v hv => by
    rw [Joins.cell_of_block (heap_alloc_new w _) i]
    simp [hv]
  have hlen : wordsL.length = 59 := by decide
  have b0 : Below w.heap.size w (w.alloc (.cells (wordsL.map fun v => Value.string ⟨v.toArray⟩).toArray 9)) := (Below.refl _ w).alloc (Nat.le_refl _) _
  go_enter Tryz.func25, Tryz.ntmps25
  go_wp2_with fail
  refine (WO.out _).mono ?_
  rintro e w1 ⟨rfl, hw1⟩
  rw [← hw1] at hcell b0
  clear WO hw1
  go_wp2_with fail
  go_loopw [4] (fun s4 wr => ∃ (k : Nat), s4 = .int .i64 (k : Nat) ∧ k ≤ 59 ∧ Hid (∀ j v, j < k → wordsL[j]? = some v → v ≠ l) ∧ wr = w1) (fun s4 _ => 59 - (intOf s4).toNat)
  case atStart => exact ⟨0, rfl, by omega, fun j v h => by omega, rfl⟩
  case round =>
    obtain ⟨k, rfl, hk, ha, rfl⟩ := hrel
    by_cases hlt : k < 59
    · have hlti : (k : Int) < 59 := by omega
      obtain ⟨v, hv⟩ : ∃ v, wordsL[k]? = some v := ⟨wordsL[k]'(by rw [hlen]; exact hlt), List.getElem?_eq_getElem _⟩
      have hc := hcell k v hv
      by_cases hvl : v = l
      · have hb : (v == l) = true := by rw [hvl]; simp
        have HE : Hid (ownB l = true) := by show wordsL.contains l = true; rw [List.contains_iff_mem, ← hvl]; exact List.mem_of_getElem? hv
        clear hcell hv ha hvl hlen
        go_wp2_with fail
        rw [HE.out]
        go_ret
        exact ⟨rfl, b0⟩
      · have hb : (v == l) = false := by rw [beq_eq_false_iff_ne]; exact hvl
        have ha2 : Hid (∀ j v, j < k + 1 → wordsL[j]? = some v → v ≠ l) := fun j u hj hu => by
          by_cases e : j = k
          · subst e; rw [hv] at hu; cases hu; exact hvl
          · exact ha.out j u (by omega) hu
        clear hcell hv ha hvl hlen
        go_wp2_with fail
        go_roundw
        case rel => exact ⟨k + 1, by go_num, hlt, ha2, by trivial⟩
        case measure => simp [intOf]; omega
    · have hlti : ¬ (k : Int) < 59 := by omega
      have HE : Hid (ownB l = false) := by
        show wordsL.contains l = false
        rw [Bool.eq_false_iff]
        intro h
        rw [List.contains_iff_mem] at h
        obtain ⟨j, hj⟩ := List.getElem?_of_mem h
        have hj2 := (List.getElem?_eq_some_iff.1 hj).1
        rw [hlen] at hj2
        exact ha.out j l (by omega) hj rfl
      clear hcell ha hlen
      go_wp2_with fail
      rw [HE.out]
      go_ret
      exact ⟨rfl, b0⟩
end Go.Proofs.YtclekihmhicpaaaGreatDoor
