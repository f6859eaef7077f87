/-
  The walks of value.groupOf, value.checkNumbers and value.oneNull.
-/
import Derived.Test.YtokppkinhlcafaaGreatDoorChkVal
namespace Go.Proofs.YtokppkinhlcafaaGreatDoor
open Go.RowKit Go.Shelf

/-- the group of a type -/
def grp (ty : Int) : Int := if ty = 0 then 0 else if ty = 1 ∨ ty = 2 then 1 else if ty = 3 then 2 else if ty = 4 then 3 else 4
theorem ty_cases (ty : Int) : ty = 0 ∨ ty = 1 ∨ ty = 2 ∨ ty = 3 ∨ ty = 4 ∨ (ty ≠ 0 ∧ ty ≠ 1 ∧ ty ≠ 2 ∧ ty ≠ 3 ∧ ty ≠ 4) := by omega

set_option maxHeartbeats 1000000 in
theorem groupOf_any (ty : Int) (w : World) :
    Calls Tryz.prog 34 #[.int .i64 ty] w fun e w' => e = .returned (.int .i64 (grp ty)) ∧ w' = w := by
  rcases ty_cases ty with rfl | rfl | rfl | rfl | rfl | ⟨h0, h1, h2, h3, h4⟩
  · go_enter Tryz.func34, Tryz.ntmps34
    go_wp2
    go_ret
    exact ⟨rfl, rfl⟩
  · go_enter Tryz.func34, Tryz.ntmps34
    go_wp2
    go_ret
    exact ⟨rfl, rfl⟩
  · go_enter Tryz.func34, Tryz.ntmps34
    go_wp2
    go_ret
    exact ⟨rfl, rfl⟩
  · go_enter Tryz.func34, Tryz.ntmps34
    go_wp2
    go_ret
    exact ⟨rfl, rfl⟩
  · go_enter Tryz.func34, Tryz.ntmps34
    go_wp2
    go_ret
    exact ⟨rfl, rfl⟩
  · have hg : grp ty = 4 := by unfold grp; rw [if_neg h0, if_neg (by omega), if_neg h3, if_neg h4]
    rw [hg]
    have b0 : (ty == 0) = false := by rw [beq_eq_false_iff_ne]; exact h0
    have b1 : (ty == 1) = false := by rw [beq_eq_false_iff_ne]; exact h1
    have b2 : (ty == 2) = false := by rw [beq_eq_false_iff_ne]; exact h2
    have b3 : (ty == 3) = false := by rw [beq_eq_false_iff_ne]; exact h3
    have b4 : (ty == 4) = false := by rw [beq_eq_false_iff_ne]; exact h4
    clear h0 h1 h2 h3 h4
    go_enter Tryz.func34, Tryz.ntmps34
    go_wp2
    go_ret
    exact ⟨rfl, rfl⟩

/-- the first of some values that is neither NULL nor a number: 7 -/
def badNum : List Va → Int
  | [] => 0
  | v :: l => if v.ty = 0 ∨ grp v.ty = 1 then badNum l else 7
theorem badNum_pass {v : Va} {l : List Va} (h : v.ty = 0 ∨ grp v.ty = 1) : badNum (v :: l) = badNum l := by rw [badNum, if_pos h]
theorem badNum_stop {v : Va} {l : List Va} (h : ¬ (v.ty = 0 ∨ grp v.ty = 1)) : badNum (v :: l) = 7 := by rw [badNum, if_neg h]
def nums (l : List Va) : Int := chk2 (errs l) (badNum l)

set_option maxHeartbeats 1000000 in
set_option maxRecDepth 1000000 in
theorem checkNumbers_any (g c : Nat) (l : List Va) (w : World) (hl : l.length ≤ 1000) (hv : valsAt w g l) (hs : ∀ v ∈ l, v.s.size ≤ 9223372036854775807) (hT : Tabs w) :
    Calls Tryz.prog 91 #[.slice (some ⟨g, 0, none⟩) l.length c] w fun e w' => e = .returned (.int .i64 (nums l)) ∧ Below w.heap.size w w' := by
  have CE : Hid (Calls Tryz.prog 84 #[.slice (some ⟨g, 0, none⟩) l.length c] w fun e w' => e = .returned (.int .i64 (errs l)) ∧ Below w.heap.size w w') := checkEach_any g c l w hl hv hs hT
  have GO : Hid (∀ ty w, Calls Tryz.prog 34 #[.int .i64 ty] w fun e w' => e = .returned (.int .i64 (grp ty)) ∧ w' = w) := groupOf_any
  by_cases he : errs l = 0
  · have hn : nums l = badNum l := by rw [nums, chk2, if_pos he]
    rw [hn]
    rw [he] at CE
    obtain ⟨E, hE⟩ : ∃ E, E = badNum l := ⟨_, rfl⟩
    rw [← hE]
    have HE : Hid (E = badNum l) := hE
    clear hE hn he
    go_enter Tryz.func91, Tryz.ntmps91
    go_wp2_with fail
    refine CE.out.mono ?_
    rintro e w1 ⟨rfl, hb1⟩
    go_wp2_with fail
    go_loopw [13] (fun sk wr => ∃ k : Nat, sk = .int .i64 k ∧ k ≤ l.length ∧ Hid (E = badNum (l.drop k)) ∧ Below w.heap.size w wr) (fun sk _ => l.length - (intOf sk).toNat)
    case atStart => exact ⟨0, rfl, Nat.zero_le _, HE, hb1⟩
    case round =>
      obtain ⟨k, rfl, hk, hd, hb⟩ := hrel
      clear HE CE hb1
      by_cases hlt : k < l.length
      · obtain ⟨v, hvk⟩ : ∃ v, l[k]? = some v := ⟨l[k], List.getElem?_eq_getElem hlt⟩
        obtain ⟨c1, c2, c3⟩ := hv.2 k v hvk
        have d1 := (hb.cell (p := ⟨g, k * 3, none⟩) hv.1).trans c1
        have d2 := (hb.cell (p := ⟨g, k * 3 + 1, none⟩) hv.1).trans c2
        have d3 := (hb.cell (p := ⟨g, k * 3 + 2, none⟩) hv.1).trans c3
        rw [drop_at hvk] at hd
        have HB1 : Hid (∀ o, Below w.heap.size w (wr.alloc o)) := fun o => hb.alloc hb.size o
        clear c1 c2 c3
        by_cases h0 : v.ty = 0
        · have hd2 : Hid (E = badNum (l.drop (k + 1))) := hd.out.trans (badNum_pass (Or.inl h0))
          have hne : (v.ty != 0) = false := by simp [h0]
          clear hd h0
          go_wp2_with fail
          go_roundw
          case rel => exact ⟨k + 1, by go_num, hlt, hd2, HB1.out _⟩
          case measure => simp [intOf]; omega
        · have hne : (v.ty != 0) = true := by rw [bne_iff_ne]; exact h0
          by_cases hg : grp v.ty = 1
          · have hd2 : Hid (E = badNum (l.drop (k + 1))) := hd.out.trans (badNum_pass (Or.inr hg))
            clear hd h0
            go_wp2_with fail
            refine (GO.out _ _).mono ?_
            rintro e w2 ⟨rfl, rfl⟩
            rw [hg]
            clear hg
            go_wp2_with fail
            go_roundw
            case rel => exact ⟨k + 1, by go_num, hlt, hd2, HB1.out _⟩
            case measure => simp [intOf]; omega
          · have hd2 : E = 7 := hd.out.trans (badNum_stop (by omega))
            subst hd2
            have hng : (grp v.ty != 1) = true := by rw [bne_iff_ne]; exact hg
            clear hd h0 hg
            go_wp2_with fail
            refine (GO.out _ _).mono ?_
            rintro e w2 ⟨rfl, rfl⟩
            go_wp2_with fail
            go_ret
            exact ⟨rfl, HB1.out _⟩
      · have hE : E = 0 := by have := hd.out; rw [List.drop_eq_nil_of_le (by omega)] at this; exact this
        subst hE
        go_wp2_with fail
        go_ret
        exact ⟨rfl, hb⟩
  · have hn : nums l = errs l := by rw [nums, chk2, if_neg he]
    rw [hn]
    have hne : (errs l != 0) = true := by rw [bne_iff_ne]; exact he
    go_enter Tryz.func91, Tryz.ntmps91
    go_wp2_with fail
    refine CE.out.mono ?_
    rintro e w1 ⟨rfl, hb1⟩
    go_wp2_with fail
    go_ret
    exact ⟨rfl, hb1⟩
set_option maxHeartbeats 1000000 in
theorem oneNull_any (ty n : Int) (s : ByteArray) (ty' n' : Int) (s' : ByteArray) (w : World) :
    Calls Tryz.prog 70 #[.agg #[.int .i64 ty, .int .i64 n, .string s], .agg #[.int .i64 ty', .int .i64 n', .string s']] w fun e w' => e = .returned (.bool (decide (ty = 0) || decide (ty' = 0))) ∧ Below w.heap.size w w' := by
  have hb : ∀ o o', Below w.heap.size w ((w.alloc o).alloc o') := fun o o' => ((Below.refl _ w).alloc (Nat.le_refl _) o).alloc (by simp) o'
  have HB : Hid (∀ o o', Below w.heap.size w ((w.alloc o).alloc o')) := hb
  clear hb
  by_cases h : ty = 0
  · subst h
    rw [decide_eq_true rfl, Bool.true_or]
    go_enter Tryz.func70, Tryz.ntmps70
    go_wp2
    go_ret
    exact ⟨rfl, HB.out _ _⟩
  · rw [decide_eq_false h, Bool.false_or]
    have h1 : (ty == 0) = false := by rw [beq_eq_false_iff_ne]; exact h
    have h2 : Hid ((ty' == 0) = decide (ty' = 0)) := by show _ = _; rw [Bool.eq_iff_iff]; simp
    clear h
    go_enter Tryz.func70, Tryz.ntmps70
    go_wp2
    go_ret
    exact ⟨by rw [← h2.out]; rfl, HB.out _ _⟩
end Go.Proofs.YtokppkinhlcafaaGreatDoor
