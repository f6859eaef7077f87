/-
  The walks of value.checkTruths, lockstepref01.three, the two And, Or and Not: three truths.
-/
import Derived.Test.YtmgmpkdnepomgaaDoorTruthsA
namespace Go.Proofs.YtmgmpkdnepomgaaDoor
open Go.RowKit Go.Shelf

/-- the first of some values that is neither NULL nor a truth: 7 -/
def badTruth : List Va → Int
  | [] => 0
  | v :: l => if v.ty = 0 ∨ v.ty = 4 then badTruth l else 7
theorem badTruth_pass {v : Va} {l : List Va} (h : v.ty = 0 ∨ v.ty = 4) : badTruth (v :: l) = badTruth l := by rw [badTruth, if_pos h]
theorem badTruth_stop {v : Va} {l : List Va} (h : ¬ (v.ty = 0 ∨ v.ty = 4)) : badTruth (v :: l) = 7 := by rw [badTruth, if_neg h]
def truthsE (l : List Va) : Int := chk2 (errs l) (badTruth l)

set_option maxHeartbeats 1000000 in
set_option maxRecDepth 1000000 in
theorem checkTruths_any (g c : Nat) (l : List Va) (w : World) (hl : l.length ≤ 1000) (hv : valsAt w g l) (hs : ∀ v ∈ l, v.s.size ≤ 9223372036854775807) (hT : Tabs w) :
    Calls Tryd.prog 11 #[.slice (some ⟨g, 0, none⟩) l.length c] w fun e w' => e = .returned (.int .i64 (truthsE l)) ∧ Below w.heap.size w w' := by
  have CE : Hid (Calls Tryd.prog 21 #[.slice (some ⟨g, 0, none⟩) l.length c] w fun e w' => e = .returned (.int .i64 (errs l)) ∧ Below w.heap.size w w') := checkEach_any g c l w hl hv hs hT
  by_cases he : errs l = 0
  · have hn : truthsE l = badTruth l := by rw [truthsE, chk2, if_pos he]
    rw [hn]
    rw [he] at CE
    obtain ⟨E, hE⟩ : ∃ E, E = badTruth l := ⟨_, rfl⟩
    rw [← hE]
    have HE : Hid (E = badTruth l) := hE
    clear hE hn he
    go_enter Tryd.func11, Tryd.ntmps11
    go_wp2_with fail
    refine CE.out.mono ?_
    rintro e w1 ⟨rfl, hb1⟩
    go_wp2_with fail
    go_loopw [13] (fun sk wr => ∃ k : Nat, sk = .int .i64 k ∧ k ≤ l.length ∧ Hid (E = badTruth (l.drop k)) ∧ Below w.heap.size w wr) (fun sk _ => l.length - (intOf sk).toNat)
    case atStart => exact ⟨0, rfl, Nat.zero_le _, HE, hb1⟩
    case round =>
      obtain ⟨k, rfl, hk, hd, hb⟩ := hrel
      clear HE CE hb1
      by_cases hlt : k < l.length
      · obtain ⟨v, hvk⟩ : ∃ v, l[k]? = some v := ⟨l[k], List.getElem?_eq_getElem hlt⟩
        obtain ⟨c1, c2, c3⟩ := hv.2 k v hvk
        have d1 := (hb.cell (p := ⟨g, k * 3, none⟩) hv.1).trans c1
        have d2 := (hb.cell (p := ⟨g, k * 3 + 1, none⟩) hv.1).trans c2
        have d3 := (hb.cell (p := ⟨g, k * 3 + 2, none⟩) hv.1).trans c3
        rw [drop_at hvk] at hd
        have HB1 : Hid (∀ o, Below w.heap.size w (wr.alloc o)) := fun o => hb.alloc hb.size o
        clear c1 c2 c3
        by_cases h0 : v.ty = 0
        · have hd2 : Hid (E = badTruth (l.drop (k + 1))) := hd.out.trans (badTruth_pass (Or.inl h0))
          have hne : (v.ty != 0) = false := by simp [h0]
          clear hd h0
          go_wp2_with fail
          go_roundw
          case rel => exact ⟨k + 1, by go_num, hlt, hd2, HB1.out _⟩
          case measure => simp [intOf]; omega
        · have hne : (v.ty != 0) = true := by rw [bne_iff_ne]; exact h0
          by_cases h4 : v.ty = 4
          · have hd2 : Hid (E = badTruth (l.drop (k + 1))) := hd.out.trans (badTruth_pass (Or.inr h4))
            have hne4 : (v.ty != 4) = false := by simp [h4]
            clear hd h0 h4
            go_wp2_with fail
            go_roundw
            case rel => exact ⟨k + 1, by go_num, hlt, hd2, HB1.out _⟩
            case measure => simp [intOf]; omega
          · have hd2 : E = 7 := hd.out.trans (badTruth_stop (by omega))
            subst hd2
            have hne4 : (v.ty != 4) = true := by rw [bne_iff_ne]; exact h4
            clear hd h0 h4
            go_wp2_with fail
            go_ret
            exact ⟨rfl, HB1.out _⟩
      · have hE : E = 0 := by have := hd.out; rw [List.drop_eq_nil_of_le (by omega)] at this; exact this
        subst hE
        go_wp2_with fail
        go_ret
        exact ⟨rfl, hb⟩
  · have hn : truthsE l = errs l := by rw [truthsE, chk2, if_neg he]
    rw [hn]
    have hne : (errs l != 0) = true := by rw [bne_iff_ne]; exact he
    go_enter Tryd.func11, Tryd.ntmps11
    go_wp2_with fail
    refine CE.out.mono ?_
    rintro e w1 ⟨rfl, hb1⟩
    go_wp2_with fail
    go_ret
    exact ⟨rfl, hb1⟩

set_option maxHeartbeats 2000000 in
set_option maxRecDepth 1000000 in
theorem three_any (g c : Nat) (l : List Va) (w : World) (hl : l.length ≤ 1000) (hv : valsAt w g l) :
    Calls Tryd.prog 16 #[.slice (some ⟨g, 0, none⟩) l.length c] w fun e w' => e = .returned (.int .i64 (truthsE l)) ∧ Below w.heap.size w w' := by
  have CK : Hid (∀ (v : Va) w, Calls Tryd.prog 22 #[.agg #[.int .i64 v.ty, .int .i64 v.n, .string v.s]] w fun e w' => e = .returned (.int .i64 v.chk) ∧ Below w.heap.size w w') := fun v w => refCheck_any v.ty v.n v.s w
  have D : ∀ (k : Nat) (v : Va), l[k]? = some v → errs (l.drop k) = if v.chk = 0 then errs (l.drop (k + 1)) else v.chk := fun k v h => by rw [drop_at h]; rfl
  have HD : Hid _ := D
  clear D
  obtain ⟨E, hE⟩ : ∃ E, E = truthsE l := ⟨_, rfl⟩
  rw [← hE]
  have HE : Hid (E = truthsE l) := hE
  clear hE
  go_enter Tryd.func16, Tryd.ntmps16
  go_wp2_with fail
  go_loopw [3] (fun sk wr => ∃ k : Nat, sk = .int .i64 k ∧ k ≤ l.length ∧ Hid (errs l = errs (l.drop k)) ∧ Below w.heap.size w wr) (fun sk _ => l.length - (intOf sk).toNat)
  case atStart => exact ⟨0, rfl, Nat.zero_le _, rfl, Below.refl _ _⟩
  case round =>
    obtain ⟨k, rfl, hk, hd, hb⟩ := hrel
    by_cases hlt : k < l.length
    · obtain ⟨v, hvk⟩ : ∃ v, l[k]? = some v := ⟨l[k], List.getElem?_eq_getElem hlt⟩
      obtain ⟨c1, c2, c3⟩ := hv.2 k v hvk
      have d1 := (hb.cell (p := ⟨g, k * 3, none⟩) hv.1).trans c1
      have d2 := (hb.cell (p := ⟨g, k * 3 + 1, none⟩) hv.1).trans c2
      have d3 := (hb.cell (p := ⟨g, k * 3 + 2, none⟩) hv.1).trans c3
      have hx := hd.out.trans (HD.out k v hvk)
      have C1 : Hid (∀ w, Calls Tryd.prog 22 #[.agg #[.int .i64 v.ty, .int .i64 v.n, .string v.s]] w fun e w' => e = .returned (.int .i64 v.chk) ∧ Below w.heap.size w w') := CK.out v
      clear c1 c2 c3 hd
      by_cases h0 : v.chk = 0
      · rw [if_pos h0] at hx
        rw [h0] at C1
        have hx2 : Hid _ := hx
        clear hx h0
        go_wp2_with fail
        refine (C1.out _).mono ?_
        rintro e w1 ⟨rfl, hb2⟩
        have hb3 := hb.trans (hb2.mono hb.size)
        go_wp2_with fail
        go_roundw
        case rel => exact ⟨k + 1, by go_num, hlt, hx2, hb3⟩
        case measure => simp [intOf]; omega
      · rw [if_neg h0] at hx
        have hE : E = v.chk := by rw [HE.out, truthsE, chk2, hx, if_neg h0]
        subst hE
        have hne : (v.chk != 0) = true := by rw [bne_iff_ne]; exact h0
        clear hx HE
        go_wp2_with fail
        refine (C1.out _).mono ?_
        rintro e w1 ⟨rfl, hb2⟩
        have hb3 := hb.trans (hb2.mono hb.size)
        go_wp2_with fail
        go_ret
        exact ⟨rfl, hb3⟩
    · have h0 : errs l = 0 := by have := hd.out; rw [List.drop_eq_nil_of_le (by omega)] at this; exact this
      have HE2 : Hid (E = badTruth l) := by show _ = _; rw [HE.out, truthsE, chk2, if_pos h0]
      clear h0 HE hd CK HD
      go_wp2_with fail
      go_loopw [5] (fun sk wq => ∃ k : Nat, sk = .int .i64 k ∧ k ≤ l.length ∧ Hid (E = badTruth (l.drop k)) ∧ Below w.heap.size w wq) (fun sk _ => l.length - (intOf sk).toNat)
      case atStart => exact ⟨0, rfl, Nat.zero_le _, HE2, hb⟩
      case round =>
        obtain ⟨k, rfl, hk, hd, hb⟩ := hrel
        clear HE2
        by_cases hlt : k < l.length
        · obtain ⟨v, hvk⟩ : ∃ v, l[k]? = some v := ⟨l[k], List.getElem?_eq_getElem hlt⟩
          obtain ⟨c1, c2, c3⟩ := hv.2 k v hvk
          have d1 := (hb.cell (p := ⟨g, k * 3, none⟩) hv.1).trans c1
          rw [drop_at hvk] at hd
          clear c1 c2 c3
          by_cases h0 : v.ty = 0
          · have hd2 : Hid (E = badTruth (l.drop (k + 1))) := hd.out.trans (badTruth_pass (Or.inl h0))
            have hne : (v.ty != 0) = false := by simp [h0]
            clear hd h0
            go_wp2_with fail
            go_roundw
            case rel => exact ⟨k + 1, by go_num, hlt, hd2, hb⟩
            case measure => simp [intOf]; omega
          · have hne : (v.ty != 0) = true := by rw [bne_iff_ne]; exact h0
            by_cases h4 : v.ty = 4
            · have hd2 : Hid (E = badTruth (l.drop (k + 1))) := hd.out.trans (badTruth_pass (Or.inr h4))
              have hne4 : (v.ty != 4) = false := by simp [h4]
              clear hd h0 h4
              go_wp2_with fail
              go_roundw
              case rel => exact ⟨k + 1, by go_num, hlt, hd2, hb⟩
              case measure => simp [intOf]; omega
            · have hd2 : E = 7 := hd.out.trans (badTruth_stop (by omega))
              subst hd2
              have hne4 : (v.ty != 4) = true := by rw [bne_iff_ne]; exact h4
              clear hd h0 h4
              go_wp2_with fail
              go_ret
              exact ⟨rfl, hb⟩
        · have hE : E = 0 := by have := hd.out; rw [List.drop_eq_nil_of_le (by omega)] at this; exact this
          subst hE
          go_wp2_with fail
          go_ret
          exact ⟨rfl, hb⟩

set_option maxHeartbeats 1000000 in
theorem isTruth_any (ty n : Int) (s : ByteArray) (m : Int) (w : World) :
    Calls Tryd.prog 12 #[.agg #[.int .i64 ty, .int .i64 n, .string s], .int .i64 m] w fun e w' => e = .returned (.bool (ty == 4 && n == m)) ∧ Below w.heap.size w w' := by
  by_cases h : ty = 4
  · subst h
    go_enter Tryd.func12, Tryd.ntmps12
    go_wp2
    go_ret
    exact ⟨rfl, (Below.refl _ w).alloc (Nat.le_refl _) _⟩
  · have h4 : (ty == 4) = false := by rw [beq_eq_false_iff_ne]; exact h
    rw [h4, Bool.false_and]
    go_enter Tryd.func12, Tryd.ntmps12
    go_wp2
    go_ret
    exact ⟨rfl, (Below.refl _ w).alloc (Nat.le_refl _) _⟩

end Go.Proofs.YtmgmpkdnepomgaaDoor
