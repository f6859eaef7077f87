/-
  Of a thousand numbers each of four partitions has some: the counts themselves; the law's own first question.
-/
import Derived.Test.YtmhmcffejkpmjaaDoorRnF
import Derived.BigQuiet
import Derived.Deep.QuietTactic
namespace Go.Proofs.YtmhmcffejkpmjaaDoor
open Go.RowKit Go.Shelf Go.Joins
set_option maxRecDepth 1000000

/-- the first n numbers -/
def nums (n : Nat) : List Va := (List.range n).map fun i : Nat => ⟨1, (i : Int), ⟨#[]⟩⟩
theorem nums_len (n : Nat) : (nums n).length = n := by simp [nums]
theorem nums_next (n : Nat) : nums (n + 1) = nums n ++ [⟨1, (n : Int), ⟨#[]⟩⟩] := by simp [nums, List.range_succ]
theorem nums_mem {n : Nat} {v : Va} (h : v ∈ nums n) : ∃ i : Nat, i < n ∧ v = ⟨1, (i : Int), ⟨#[]⟩⟩ := by
  simp only [nums, List.mem_map, List.mem_range] at h
  obtain ⟨i, h1, h2⟩ := h
  exact ⟨i, h1, h2.symm⟩
set_option maxHeartbeats 10000000 in
theorem cnt0 : cnt 4 (nums 1000) 0 = 247 := by decide +kernel
set_option maxHeartbeats 10000000 in
theorem cnt1 : cnt 4 (nums 1000) 1 = 266 := by decide +kernel
set_option maxHeartbeats 10000000 in
theorem cnt2 : cnt 4 (nums 1000) 2 = 247 := by decide +kernel
set_option maxHeartbeats 10000000 in
theorem cnt3 : cnt 4 (nums 1000) 3 = 240 := by decide +kernel
theorem errs_all : ∀ l : List Va, (∀ v ∈ l, v.chk = 0) → errs l = 0
  | [], _ => rfl
  | v :: l, h => by rw [errs_pass (h v (by simp))]; exact errs_all l fun x hx => h x (by simp [hx])
theorem chk_one (n : Int) : (⟨1, n, ⟨#[]⟩⟩ : Va).chk = 0 := by
  show chk 1 n ⟨#[]⟩ = 0
  unfold chk
  rw [if_neg (by omega), if_neg (by omega)]
theorem wE_nums : wE (nums 1000) = 0 := by
  unfold wE
  rw [if_neg (by rw [nums_len]; omega)]
  refine errs_all _ fun v hv => ?_
  obtain ⟨i, _, rfl⟩ := nums_mem hv
  exact chk_one _
/-- a value's cells -/
def vaC (x : Va) : List Value := [.int .i64 x.ty, .int .i64 x.n, .string x.s]
theorem vaC_len (x : Va) : (vaC x).length = 3 := rfl
theorem R_va : Rz 24 23 (.agg #[.int .i64 0, .int .i64 0, .string ⟨#[]⟩]) 3 32 := ⟨by kernel_rfl, by kernel_rfl, rfl, by decide, by decide⟩
theorem shr.row {w : World} {v : Value} {l : List Va} {n : Nat} (h : shr w 23 3 v n (fl vaC l)) (hn : n = l.length) : ∃ p c, v = .slice p l.length c ∧ rowIn w p l := by
  subst hn
  rcases h.2 with ⟨rfl, h0⟩ | ⟨g, off, cap, cur, rfl, hg, _, _, _, hc⟩
  · exact ⟨none, 0, by rw [h0], Or.inl (List.eq_nil_of_length_eq_zero h0)⟩
  · refine ⟨_, cap, rfl, Or.inr ⟨g, off, rfl, lt_of_heap hg, fun i x hx => ?_⟩⟩
    have k : ∀ r : Nat, r < 3 → ∀ u, (vaC x)[r]? = some u → w.cell? ⟨g, off + i * 3 + r, none⟩ = some u := fun r hr u hu => by
      rw [Nat.add_assoc, cell_of_block hg]
      exact hc _ _ ((fl_get vaC_len l i x r hx hr).trans hu)
    exact ⟨k 0 (by decide) _ rfl, k 1 (by decide) _ rfl, k 2 (by decide) _ rfl⟩

set_option maxHeartbeats 4000000 in
theorem lives_any (w : World) (hT : Tabs w) : Calls Tryd.prog 14 #[] w fun e w' => e = .returned (.bool true) ∧ Below w.heap.size w w' := by
  have SP : Hid (∀ p c (w1 : World), rowIn w1 p (nums 1000) → Tabs w1 → Calls Tryd.prog 10 #[.slice p 1000 c, .int .i64 4] w1 fun e w' => ∃ g, e = .returned (.tuple #[.slice (some ⟨g, 0, none⟩) 4 4, .int .i64 0]) ∧ Below w1.heap.size w1 w' ∧ w'.cell? ⟨g, 0, none⟩ = some (.int .i64 247) ∧ w'.cell? ⟨g, 1, none⟩ = some (.int .i64 266) ∧ w'.cell? ⟨g, 2, none⟩ = some (.int .i64 247) ∧ w'.cell? ⟨g, 3, none⟩ = some (.int .i64 240)) := fun p c w1 hp h1 => by
    have := Spread_any p c (nums 1000) 4 (by decide) w1 hp (by rw [nums_len]; decide) (fun v hv => by obtain ⟨i, hi, rfl⟩ := nums_mem hv; exact ⟨by show (-9223372036854775808 : Int) ≤ (i : Int); omega, by show (i : Int) ≤ 9223372036854775807; omega⟩) (fun v hv => by obtain ⟨i, hi, rfl⟩ := nums_mem hv; show (0 : Nat) ≤ _; omega) h1
    rw [nums_len] at this
    refine this.mono ?_
    rintro e w' ⟨hb, ⟨h, _⟩ | ⟨_, g, rfl, _, hr⟩⟩
    · exact absurd wE_nums h
    · refine ⟨g, rfl, hb, ?_, ?_, ?_, ?_⟩
      · have := (hr.cell (p := 0) (by decide)).1; rw [cnt0] at this; exact this
      · have := (hr.cell (p := 1) (by decide)).1; rw [cnt1] at this; exact this
      · have := (hr.cell (p := 2) (by decide)).1; rw [cnt2] at this; exact this
      · have := (hr.cell (p := 3) (by decide)).1; rw [cnt3] at this; exact this
  have HT := mkH hT
  have hS0 : Hid (shr w 23 3 (.slice none 0 0) 0 (fl vaC (nums 0))) := shr_nil _ _ _
  clear hT
  go_enter Tryd.func14, Tryd.ntmps14
  go_wp2_with fail
  go_loopw [1, 2] (fun sv si wr => ∃ k : Nat, si = .int .i64 k ∧ k ≤ 1000 ∧ Hid (∀ g, sv.ownBlock = some g → w.heap.size ≤ g) ∧ Hid (shr wr 23 3 sv k (fl vaC (nums k))) ∧ Hid (Below w.heap.size w wr)) (fun _ si _ => 1000 - (intOf si).toNat)
  case atStart => exact ⟨0, rfl, Nat.zero_le _, (fun g hg => by cases hg), hS0, Below.refl _ _⟩
  case round =>
    obtain ⟨k, rfl, hk, ho, hrw, hbr⟩ := hrel
    by_cases hlt : k < 1000
    · have hbz := mkH ((Below.refl wr.heap.size wr).alloc (Nat.le_refl _) (.cells #[.int .i64 1, .int .i64 (k : Int), .string ⟨#[]⟩] 23))
      have hr5 : Hid (shr (wr.alloc (.cells #[.int .i64 1, .int .i64 (k : Int), .string ⟨#[]⟩] 23)) 23 3 u1 k (fl vaC (nums k))) := hrw.out.kept (chgBl hbz.out) (fun g hg => by have := (hrw.out.kd g hg).2; omega)
      obtain ⟨v5, w5, rr, s5, g5, o5⟩ := R_va.app (m := 1) (c := 1) (news := vaC ⟨1, (k : Int), ⟨#[]⟩⟩) (ad := ⟨wr.heap.size, 0, none⟩) hr5.out rfl (fun j u hj => by
        have := heap_alloc_new wr (.cells #[.int .i64 1, .int .i64 (k : Int), .string ⟨#[]⟩] 23)
        rw [add_plain, cell_of_block this]
        rw [Nat.zero_add, ← hj]; simp [vaC]) (by simp [vaC, Value.oneCell']) (by omega) (by decide)
      have S5 := mkH s5
      have G5 := mkH g5
      have O5 := mkH o5
      clear s5 g5 o5 hrw SP hS0 hr5
      go_wp2_with (at_builtin; refine wp_app 24 rfl (.tmp 9) (.tmp 12) rfl rfl rfl rr ?_)
      have hz4 : w.heap.size ≤ (wr.alloc (.cells #[.int .i64 1, .int .i64 (k : Int), .string ⟨#[]⟩] 23)).heap.size := Nat.le_trans hbr.out.size hbz.out.size
      have hby : Below w.heap.size w w5 := (hbr.out.trans (hbz.out.mono hbr.out.size)).trans (below_own G5.out hz4 (fun q hq => ho.out q hq))
      refine ⟨⟨k + 1, by go_num, hlt, fun q hq => ?_, by rw [nums_next, fl_app]; exact S5.out, hby⟩, by simp [intOf]; omega⟩
      rcases O5.out with o5 | ⟨q', o5, o6, _⟩
      · exact ho.out q (o5.symm.trans hq)
      · rw [o5] at hq; cases hq; exact Nat.le_trans hz4 o6
    · obtain rfl : k = 1000 := by omega
      obtain ⟨p, c, rfl, hp⟩ := hrw.out.row (nums_len 1000).symm
      have SQ := mkH (SP.out p c wr hp (HT.out.below hbr.out))
      rw [nums_len]
      clear hrw hS0 HT ho hp SP
      go_wp2_with fail
      refine SQ.out.mono ?_
      rintro e w' ⟨g, rfl, hb2, c0, c1, c2, c3⟩
      have hby := mkH (hbr.out.trans (hb2.mono hbr.out.size))
      clear hb2 hbr SQ
      go_wp2_with fail
      go_quiet (fail)
      go_wp2_with fail
      go_ret
      exact ⟨rfl, hby.out.trans (below_drewN (Below.refl _ _) _)⟩
end Go.Proofs.YtmhmcffejkpmjaaDoor
