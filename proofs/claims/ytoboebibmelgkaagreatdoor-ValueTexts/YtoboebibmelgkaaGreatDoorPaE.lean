/-
  The walks of lockstepref01.digits and split.
-/
import Derived.Test.YtoboebibmelgkaaGreatDoorPaC
import Derived.Test.YtoboebibmelgkaaGreatDoorReA
import Derived.Deep.RegionHeld3
import Derived.BigQuiet
import Derived.Deep.QuietTactic
namespace Go.Proofs.YtoboebibmelgkaaGreatDoor
open Go.RowKit Go.Shelf

theorem get_mk {l : List UInt8} {k : Nat} {x : UInt8} (h : l[k]? = some x) : ∀ h', (ByteArray.mk l.toArray)[k]'h' = x := by
  intro h'
  obtain ⟨h1, rfl⟩ := List.getElem?_eq_some_iff.1 h
  rfl
theorem allD_next {l : List UInt8} {k : Nat} {x : UInt8} (h : l[k]? = some x) : allD (l.take (k + 1)) = (allD (l.take k) && isD x) := by
  rw [List.take_add_one, h]
  unfold allD
  rw [List.all_append]
  simp
theorem allD_bad {l : List UInt8} {k : Nat} {x : UInt8} (h : l[k]? = some x) (hx : isD x = false) : allD l = false := by
  unfold allD
  rw [List.all_eq_false]
  exact ⟨x, List.mem_of_getElem? h, by simp [hx]⟩
/-- digits, read so far -/
def dgOk (l : List UInt8) (m : Nat) (f : Bool) : Prop := m < 18446744073709551616 ∧ f = decide (dval 0 l ≤ 18446744073709551615) ∧ (f = true → m = dval 0 l)
def dgP (l : List UInt8) (w : World) (e : Ending) (w' : World) : Prop := ∃ (m : Nat) (f ok : Bool), e = .returned (.tuple #[.int .u64 (m : Int), .bool f, .bool ok]) ∧ Below w.heap.size w w' ∧ ok = (allD l && !l.isEmpty) ∧ (ok = true → dgOk l m f)
theorem dgOk.next {l : List UInt8} {k m : Nat} {f : Bool} {x : UInt8} (h : dgOk (l.take k) m f) (hx : l[k]? = some x) (hd : isD x = true) :
    dgOk (l.take (k + 1)) ((m * 10 % 18446744073709551616 + (x.toNat - 48)) % 18446744073709551616) (f && (decide (m * 10 < 18446744073709551616) && decide (m * 10 % 18446744073709551616 + (x.toNat - 48) < 18446744073709551616))) := by
  obtain ⟨h1, h2, h3⟩ := h
  have hxd : 48 ≤ x.toNat ∧ x.toNat ≤ 57 := by simpa [isD] using hd
  refine ⟨Nat.mod_lt _ (by decide), ?_, ?_⟩
  · rw [dval_next hx]
    cases f
    · have : ¬ dval 0 (l.take k) ≤ 18446744073709551615 := by
        intro h; rw [decide_eq_true h] at h2; cases h2
      rw [Bool.false_and, eq_comm, decide_eq_false_iff_not]
      generalize dval 0 (l.take k) = D at *
      omega
    · have hm := h3 rfl
      rw [← hm, Bool.true_and]
      clear hm h2 h3
      by_cases a : m * 10 < 18446744073709551616
      · rw [decide_eq_true a, Nat.mod_eq_of_lt a, Bool.true_and]
        by_cases b : m * 10 + (x.toNat - 48) < 18446744073709551616
        · rw [decide_eq_true b, eq_comm, decide_eq_true_iff]; omega
        · rw [decide_eq_false b, eq_comm, decide_eq_false_iff_not]; omega
      · rw [decide_eq_false a, Bool.false_and, eq_comm, decide_eq_false_iff_not]; omega
  · intro hf
    simp only [Bool.and_eq_true, decide_eq_true_eq] at hf
    obtain ⟨f1, f2, f3⟩ := hf
    rw [dval_next hx, ← h3 f1, Nat.mod_eq_of_lt f3, Nat.mod_eq_of_lt f2]

set_option maxHeartbeats 4000000 in
set_option maxRecDepth 1000000 in
theorem digits_any (l : List UInt8) (w : World) (hs : l.length ≤ 100000) :
    Calls Tryz.prog 59 #[.string ⟨l.toArray⟩] w fun e w' => dgP l w e w' := by
  have TI : Hid (∀ m w, m < 18446744073709551616 → Calls Tryz.prog 60 #[.int .u64 (m : Nat), .int .u64 10] w fun e w' => e = .returned (.tuple #[.int .u64 ((m * 10 % 18446744073709551616 : Nat) : Int), .bool (decide (m * 10 < 18446744073709551616))]) ∧ Below w.heap.size w w') := fun m w h => times_any m 10 w h (by decide)
  have PL : Hid (∀ (a b : Nat) (ok : Bool) w, a < 18446744073709551616 → b < 18446744073709551616 → Calls Tryz.prog 61 #[.int .u64 (a : Int), .int .u64 (b : Int), .bool ok] w fun e w' => e = .returned (.tuple #[.int .u64 (((a + b) % 18446744073709551616 : Nat) : Int), .bool (ok && decide (a + b < 18446744073709551616))]) ∧ w' = w) := fun a b ok w ha hb => plus_any a b ok w ha hb
  have hzl : (ByteArray.mk l.toArray).size = l.length := size_mk l
  go_enter Tryz.func59, Tryz.ntmps59
  go_wp2_with fail
  go_loopw [5, 6, 7] (fun s5 s6 s7 wr => ∃ (k m : Nat) (f : Bool), s5 = .int .u64 (m : Int) ∧ s6 = .bool f ∧ s7 = .int .i64 k ∧ k ≤ l.length ∧ Hid (dgOk (l.take k) m f) ∧ Hid (allD (l.take k) = true) ∧ Hid (Below w.heap.size w wr)) (fun _ _ s7 _ => l.length - (intOf s7).toNat)
  case atStart => exact ⟨0, 0, true, rfl, rfl, rfl, Nat.zero_le _, (by show dgOk _ _ _; rw [List.take_zero]; exact ⟨by decide, rfl, fun _ => rfl⟩), rfl, Below.refl _ _⟩
  case round =>
    obtain ⟨k, m, f, rfl, rfl, rfl, hk, hg, ha, hbr⟩ := hrel
    by_cases hlt : k < l.length
    · obtain ⟨x, hx⟩ : ∃ x, l[k]? = some x := ⟨l[k], List.getElem?_eq_getElem hlt⟩
      have hgt := get_mk hx
      have hlti : (k : Int) < (l.length : Int) := by omega
      by_cases h1 : x.toNat < 48
      · have h1i : (x.toNat : Int) < 48 := by omega
        have hbad : allD l = false := allD_bad hx (by unfold isD; rw [decide_eq_false_iff_not]; omega)
        clear hx hg ha TI PL
        go_wp2_with fail
        refine bodyPost_ret (v := .tuple #[.int .u64 0, .bool false, .bool false]) (by simp [results, Tryz.results59, go_sem]) rfl ⟨0, false, false, rfl, hbr.out, by rw [hbad]; rfl, fun h => by cases h⟩
      · have h1i : ¬ (x.toNat : Int) < 48 := by omega
        by_cases h2 : 57 < x.toNat
        · have h2i : (57 : Int) < (x.toNat : Int) := by omega
          have hbad : allD l = false := allD_bad hx (by unfold isD; rw [decide_eq_false_iff_not]; omega)
          clear hx hg ha TI PL
          go_wp2_with fail
          refine bodyPost_ret (v := .tuple #[.int .u64 0, .bool false, .bool false]) (by simp [results, Tryz.results59, go_sem]) rfl ⟨0, false, false, rfl, hbr.out, by rw [hbad]; rfl, fun h => by cases h⟩
        · have h2i : ¬ (57 : Int) < (x.toNat : Int) := by omega
          have hd : isD x = true := by unfold isD; rw [decide_eq_true_iff]; omega
          have hg2 : Hid _ := hg.out.next hx hd
          have ha2 : Hid (allD (l.take (k + 1)) = true) := by show _ = _; rw [allD_next hx, ha.out, hd]; rfl
          have T1 : Hid (∀ w, Calls Tryz.prog 60 #[.int .u64 (m : Nat), .int .u64 10] w fun e w' => e = .returned (.tuple #[.int .u64 ((m * 10 % 18446744073709551616 : Nat) : Int), .bool (decide (m * 10 < 18446744073709551616))]) ∧ Below w.heap.size w w') := fun w => TI.out m w hg.out.1
          have P1 : Hid (∀ w, Calls Tryz.prog 61 #[.int .u64 ((m * 10 % 18446744073709551616 : Nat) : Int), .int .u64 ((x.toNat - 48 : Nat) : Int), .bool (decide (m * 10 < 18446744073709551616))] w fun e w' => e = .returned (.tuple #[.int .u64 (((m * 10 % 18446744073709551616 + (x.toNat - 48)) % 18446744073709551616 : Nat) : Int), .bool (decide (m * 10 < 18446744073709551616) && decide (m * 10 % 18446744073709551616 + (x.toNat - 48) < 18446744073709551616))]) ∧ w' = w) := fun w => PL.out _ _ _ w (Nat.mod_lt _ (by decide)) (by omega)
          have hsub : (x.toNat : Int) - 48 = ((x.toNat - 48 : Nat) : Int) := by omega
          have hx57 : (x.toNat : Int) ≤ 57 := by omega
          have hx48 : (48 : Int) ≤ (x.toNat : Int) := by omega
          generalize decide (m * 10 % 18446744073709551616 + (x.toNat - 48) < 18446744073709551616) = O2 at *
          generalize decide (m * 10 < 18446744073709551616) = O1 at *
          generalize (m * 10 % 18446744073709551616 + (x.toNat - 48)) % 18446744073709551616 = M2 at *
          generalize m * 10 % 18446744073709551616 = M1 at *
          clear hx hg ha TI PL hd h1 h2
          go_wp2_with fail
          refine (T1.out _).mono ?_
          rintro e w1 ⟨rfl, hb1⟩
          have B1 := hbr.out.trans (hb1.mono hbr.out.size)
          clear T1 hb1
          go_wp2_with fail
          refine (P1.out _).mono ?_
          rintro e w2 ⟨rfl, rfl⟩
          clear P1
          rcases f with _ | _
          · go_wp2_with fail
            go_roundw
            case rel => exact ⟨k + 1, M2, false, rfl, rfl, by go_num, hlt, hg2, ha2, B1⟩
            case measure => simp [intOf]; omega
          · go_wp2_with fail
            go_roundw
            case rel => exact ⟨k + 1, M2, (O1 && O2), rfl, rfl, by go_num, hlt, (by have := hg2.out; rw [Bool.true_and] at this; exact this), ha2, B1⟩
            case measure => simp [intOf]; omega
    · have hk0 : k = l.length := by omega
      have hlti : ¬ (k : Int) < (l.length : Int) := by omega
      have hg1 := hg.out
      have ha1 := ha.out
      rw [hk0, List.take_length] at hg1 ha1
      have hb := hbr.out
      clear hg ha TI PL hbr
      by_cases h0 : l = []
      · have hp : ¬ (0 : Int) < (l.length : Int) := by rw [h0]; decide
        have hE : (allD l && !l.isEmpty) = false := by rw [h0]; rfl
        have H0 : Hid (l = []) := h0
        clear h0 hk0
        go_wp2_with fail
        refine bodyPost_ret (v := .tuple #[.int .u64 m, .bool f, .bool false]) (by simp [results, Tryz.results59, go_sem]; exact H0.out) rfl ⟨m, f, false, rfl, hb, hE.symm, fun h => by cases h⟩
      · have hp : (0 : Int) < (l.length : Int) := by have := List.length_pos_iff.2 h0; omega
        have hE : (allD l && !l.isEmpty) = true := by
          rw [ha1]
          rcases l with _ | ⟨y, r⟩
          · exact absurd rfl h0
          · rfl
        have H0 : Hid (0 < l.length) := List.length_pos_iff.2 h0
        clear h0 hk0
        go_wp2_with fail
        refine bodyPost_ret (v := .tuple #[.int .u64 m, .bool f, .bool true]) (by simp [results, Tryz.results59, go_sem]; exact H0.out) rfl ⟨m, f, true, rfl, hb, hE.symm, fun _ => hg1⟩

theorem cutP_hit {l : List UInt8} {k : Nat} (h : l[k]? = some 46) (hno : ∀ j, j < k → l[j]? ≠ some 46) : cutP l = (l.take k, l.drop (k + 1), true) := by
  induction l generalizing k with
  | nil => simp at h
  | cons x r ih =>
    rcases k with _ | k
    · simp at h; subst h; simp [cutP]
    · have h0 := hno 0 (by omega)
      have hx : ¬ x = 46 := fun e => h0 (by simp [e])
      rw [cutP, if_neg hx, ih (k := k) (by simpa using h) (fun j hj => by have := hno (j + 1) (by omega); simpa using this)]
      simp
theorem cutP_none {l : List UInt8} (hno : ∀ j, j < l.length → l[j]? ≠ some 46) : cutP l = (l, [], false) := by
  induction l with
  | nil => rfl
  | cons x r ih =>
    have hx : ¬ x = 46 := fun e => hno 0 (by simp) (by simp [e])
    rw [cutP, if_neg hx, ih (fun j hj => by have := hno (j + 1) (by simp; omega); simpa using this)]

set_option maxHeartbeats 4000000 in
set_option maxRecDepth 1000000 in
theorem split_any (l : List UInt8) (w : World) (hs : l.length ≤ 100000) :
    Calls Tryz.prog 33 #[.string ⟨l.toArray⟩] w fun e w' => e = .returned (.tuple #[.string ⟨(cutP l).1.toArray⟩, .string ⟨(cutP l).2.1.toArray⟩, .bool (cutP l).2.2]) ∧ Below w.heap.size w w' := by
  have hzl : (ByteArray.mk l.toArray).size = l.length := size_mk l
  obtain ⟨Z, hZ⟩ : ∃ Z, Z = cutP l := ⟨_, rfl⟩
  rw [← hZ]
  have HZ : Hid (Z = cutP l) := hZ
  clear hZ
  go_enter Tryz.func33, Tryz.ntmps33
  go_wp2_with fail
  go_loopw [5] (fun s5 wr => ∃ k : Nat, s5 = .int .i64 k ∧ k ≤ l.length ∧ Hid (∀ j, j < k → l[j]? ≠ some 46) ∧ Hid (Below w.heap.size w wr)) (fun s5 _ => l.length - (intOf s5).toNat)
  case atStart => exact ⟨0, rfl, Nat.zero_le _, (fun j hj => by omega), Below.refl _ _⟩
  case round =>
    obtain ⟨k, rfl, hk, hno, hbr⟩ := hrel
    by_cases hlt : k < l.length
    · obtain ⟨x, hx⟩ : ∃ x, l[k]? = some x := ⟨l[k], List.getElem?_eq_getElem hlt⟩
      have hgt := get_mk hx
      have hlti : (k : Int) < (l.length : Int) := by omega
      by_cases h46 : x = 46
      · have hz := HZ.out.trans (cutP_hit (h46 ▸ hx) hno.out)
        subst hz
        have hxi : ((x.toNat : Int) == 46) = true := by rw [h46]; rfl
        have e1 : (ByteArray.mk l.toArray).extract 0 k = ByteArray.mk (l.take k).toArray := by
          apply ByteArray.ext
          rw [ByteArray.data_extract]
          show l.toArray.extract 0 k = _
          rw [List.extract_toArray]; simp
        have e2 : (ByteArray.mk l.toArray).extract (k + 1) l.length = ByteArray.mk (l.drop (k + 1)).toArray := by
          apply ByteArray.ext
          rw [ByteArray.data_extract]
          show l.toArray.extract (k + 1) l.length = _
          rw [List.extract_toArray]
          congr 1
          exact List.take_of_length_le (by rw [List.length_drop]; exact Nat.le_refl _)
        have hk1 : (k : Int) ≤ (l.length : Int) := by omega
        have hk2 : (k : Int) + 1 ≤ (l.length : Int) := by omega
        have hk3 : (0 : Int) ≤ (k : Int) + 1 := by omega
        have hk4 : ((k : Int) + 1).toNat = k + 1 := by omega
        have hb := hbr.out
        clear hx h46 HZ hno hbr
        go_wp2_with fail
        go_quiet (fail)
        go_wp2_with fail
        refine bodyPost_ret (v := .tuple #[.string ⟨(l.take k).toArray⟩, .string ⟨(l.drop (k + 1)).toArray⟩, .bool true]) (by simp [results, Tryz.results33, go_sem]) rfl ⟨rfl, below_drewN hb _⟩
      · have hxi : ((x.toNat : Int) == 46) = false := by
          rw [beq_eq_false_iff_ne]; intro e; exact h46 (UInt8.toNat_inj.1 (by show x.toNat = 46; omega))
        have hno2 : Hid (∀ j, j < k + 1 → l[j]? ≠ some 46) := fun j hj => by
          rcases Nat.lt_or_ge j k with h | h
          · exact hno.out j h
          · obtain rfl : j = k := by omega
            rw [hx]; intro e; exact h46 (Option.some.inj e)
        clear hx h46 hno
        go_wp2_with fail
        go_roundw
        case rel => exact ⟨k + 1, by go_num, hlt, hno2, hbr⟩
        case measure => simp [intOf]; omega
    · have hk0 : k = l.length := by omega
      have hlti : ¬ (k : Int) < (l.length : Int) := by omega
      have hz := HZ.out.trans (cutP_none (by rw [← hk0]; exact hno.out))
      subst hz
      have hb := hbr.out
      clear HZ hno hbr
      go_wp2_with fail
      refine bodyPost_ret (v := .tuple #[.string ⟨l.toArray⟩, .string ⟨#[]⟩, .bool false]) (by simp [results, Tryz.results33, go_sem]) rfl ⟨rfl, hb⟩
end Go.Proofs.YtoboebibmelgkaaGreatDoor
