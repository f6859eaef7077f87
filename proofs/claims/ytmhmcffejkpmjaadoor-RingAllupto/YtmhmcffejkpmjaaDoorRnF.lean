/-
  Moves: which of some values go to another partition.
-/
import Derived.Test.YtmhmcffejkpmjaaDoorRnE
import Derived.Deep.RegionHeld3
namespace Go.Proofs.YtmhmcffejkpmjaaDoor
open Go.RowKit Go.Shelf Go.Joins
set_option maxRecDepth 1000000

/-- the moves of values that stand at i and behind -/
def mvF (a b : Nat) : Nat → List Va → List (Nat × Nat × Nat)
  | _, [] => []
  | i, x :: l => (if amV a x = amV b x then [] else [(i, amV a x, amV b x)]) ++ mvF a b (i + 1) l
theorem mvF_app (a b : Nat) (x : Va) : ∀ (l : List Va) (i : Nat), mvF a b i (l ++ [x]) = mvF a b i l ++ (if amV a x = amV b x then [] else [(i + l.length, amV a x, amV b x)])
  | [], i => by simp [mvF]
  | y :: l, i => by
    rw [List.cons_append]
    show _ ++ mvF a b (i + 1) (l ++ [x]) = (_ ++ mvF a b (i + 1) l) ++ _
    rw [mvF_app a b x l (i + 1), List.append_assoc, List.length_cons, show i + 1 + l.length = i + (l.length + 1) by omega]
theorem mvF_len (a b : Nat) : ∀ (l : List Va) (i : Nat), (mvF a b i l).length ≤ l.length
  | [], i => Nat.le_refl _
  | x :: l, i => by
    have := mvF_len a b l (i + 1)
    show ((if amV a x = amV b x then [] else [(i, amV a x, amV b x)]) ++ mvF a b (i + 1) l).length ≤ _
    rw [List.length_append, List.length_cons]
    split <;> simp <;> omega
/-- a move as cells -/
def mvC (m : Nat × Nat × Nat) : List Value := [.int .i64 (m.1 : Int), .int .i64 (m.2.1 : Int), .int .i64 (m.2.2 : Int)]
theorem mvC_len (m : Nat × Nat × Nat) : (mvC m).length = 3 := rfl
theorem R_mv : Rz 34 38 (.agg #[.int .i64 0, .int .i64 0, .int .i64 0]) 3 24 := ⟨by kernel_rfl, by kernel_rfl, rfl, by decide, by decide⟩
/-- how Moves answers -/
def MvQ (w : World) (la : List Va) (a b : Nat) (e : Ending) (w' : World) : Prop := Below w.heap.size w w' ∧ ((¬ wE la = 0 ∧ e = .returned (.tuple #[.slice none 0 0, .int .i64 (wE la)])) ∨
  (wE la = 0 ∧ ∃ v, e = .returned (.tuple #[v, .int .i64 0]) ∧ (∀ g, v.ownBlock = some g → w.heap.size ≤ g) ∧ shr w' 38 3 v (mvF a b 0 la).length (fl mvC (mvF a b 0 la))))

/-- what is known at region 10: a boxed value at A -/
@[reducible] def bxR (w0 : World) (A : Nat) (NU : Bool) (SD : Nat) (w' : World) : Prop := Below w0.heap.size w0 w' ∧ w'.cell? ⟨A, 0, none⟩ = some (.bool NU) ∧ w'.cell? ⟨A, 1, none⟩ = some (.int .u64 (SD : Int))
theorem bxR.next {w0 w w' : World} {A SD : Nat} {NU : Bool} (h : bxR w0 A NU SD w) (hA : A < w0.heap.size) (hb : Below w.heap.size w w') : bxR w0 A NU SD w' :=
  ⟨h.1.trans (hb.mono h.1.size), (hb.cell (p := ⟨A, 0, none⟩) (Nat.lt_of_lt_of_le hA h.1.size)).trans h.2.1, (hb.cell (p := ⟨A, 1, none⟩) (Nat.lt_of_lt_of_le hA h.1.size)).trans h.2.2⟩
theorem bxR.drew {w0 w : World} {A SD : Nat} {NU : Bool} (h : bxR w0 A NU SD w) (hA : A < w0.heap.size) : bxR w0 A NU SD w.drew := h.next hA (below_drewN (Below.refl _ w) 1)

set_option maxHeartbeats 4000000 in
theorem Moves_any (p : Option Addr) (c : Nat) (la : List Va) (a b : Nat) (ha : 0 < a ∧ a ≤ 64) (hb : 0 < b ∧ b ≤ 64) (w : World) (hp : rowIn w p la) (hl : la.length ≤ 9223372036854775807) (fa : ∀ v ∈ la, fit v.n) (sa : ∀ v ∈ la, v.s.size ≤ 9223372036854775807) (hT : Tabs w) :
    Calls Tryd.prog 12 #[.slice p la.length c, .int .i64 (a : Int), .int .i64 (b : Int)] w fun e w' => MvQ w la a b e w' := by
  have CB : Hid (∀ (n : Nat), 0 < n ∧ n ≤ 64 → ∀ w1, Calls Tryd.prog 16 #[.int .i64 (n : Int)] w1 fun e w' => e = .returned (.bool true) ∧ w' = w1) := fun n hn w1 => canBe_yes n hn w1
  have WA := mkH (wantedOfAll_any p c la w hp hl fa sa hT)
  have AM : Hid (∀ (n : Nat), 0 < n ∧ n ≤ 64 → ∀ (x : Va) (w1 : World), Calls Tryd.prog 18 #[.agg #[.bool (nulV x), .int .u64 (sdV x : Int)], .int .i64 (n : Int)] w1 fun e w' => e = .returned (.int .i64 (amV n x : Int)) ∧ Below w1.heap.size w1 w') := fun n hn x w1 => among_any _ _ (sdV_lt x) n hn w1
  have CA := mkH (CB.out a ha)
  have CC := mkH (CB.out b hb)
  have HA := mkH ha
  have HBb := mkH hb
  clear hp hl fa sa hT CB ha hb
  go_enter Tryd.func12, Tryd.ntmps12
  go_wp2_with fail
  refine (CA.out _).mono ?_
  rintro e w' ⟨rfl, rfl⟩
  go_wp2_with fail
  refine (CC.out _).mono ?_
  rintro e w2 ⟨rfl, hw2⟩
  subst hw2
  clear CA CC
  go_wp2_with fail
  refine WA.out.mono ?_
  rintro e w1 ⟨hbl, hor⟩
  clear WA
  rcases hor with ⟨he, rfl⟩ | ⟨he, g, rfl, hg, hr⟩
  · have h1 : (wE la != 0) = true := by rw [bne_iff_ne]; exact he
    have HB := mkH hbl
    have HE := mkH he
    clear hbl he AM
    generalize hC : wE la = C at *
    go_wp2_with fail
    refine bodyPost_ret (v := .tuple #[.slice none 0 0, .int .i64 C]) (by simp [results, Tryd.results12, go_sem]) rfl ⟨HB.out, Or.inl ⟨by rw [hC]; exact HE.out, by rw [hC]⟩⟩
  · have HE := mkH he
    have HB := mkH hbl
    have HG := mkH hg
    have HR := mkH hr
    have hll := mkH (wE_len he)
    have hli : (la.length : Int) ≤ 65536 := by have := hll.out; omega
    clear hbl he hg hr
    go_wp2_with fail
    have hS0 : Hid (shr w1 38 3 (.slice none 0 0) (mvF a b 0 (la.take 0)).length (fl mvC (mvF a b 0 (la.take 0)))) := shr_nil _ _ _
    have hlm := mkH (mvF_len a b)
    go_loopw [10, 33] (fun sv si wr => ∃ k : Nat, si = .int .i64 k ∧ k ≤ la.length ∧ Hid (∀ g, sv.ownBlock = some g → w1.heap.size ≤ g) ∧ Hid (shr wr 38 3 sv (mvF a b 0 (la.take k)).length (fl mvC (mvF a b 0 (la.take k)))) ∧ Hid (Below w1.heap.size w1 wr)) (fun _ si _ => la.length - (intOf si).toNat)
    case atStart => exact ⟨0, rfl, Nat.zero_le _, (fun g hg => by cases hg), hS0, Below.refl _ _⟩
    case round =>
      obtain ⟨k, rfl, hk, ho, hrw, hbr⟩ := hrel
      clear hS0
      by_cases hlt : k < la.length
      · obtain ⟨x, hxk⟩ : ∃ x, la[k]? = some x := ⟨la[k], List.getElem?_eq_getElem hlt⟩
        obtain ⟨d1, d2⟩ := (HR.out.below hbr.out HR.out.lt).at_ hxk
        have AX : Hid (∀ n : Nat, Hid (0 < n ∧ n ≤ 64) → ∀ w1 : World, Calls Tryd.prog 18 #[.agg #[.bool (nulV x), .int .u64 (sdV x : Int)], .int .i64 (n : Int)] w1 fun e w' => e = .returned (.int .i64 (amV n x : Int)) ∧ Below w1.heap.size w1 w') := fun n hn w1 => AM.out n hn.out x w1
        have hnx := mkH (mvF_app a b x (la.take k) 0)
        have hlk : (la.take k).length = k := by rw [List.length_take]; omega
        rw [show la.take k ++ [x] = la.take (k + 1) by rw [List.take_add_one, hxk]; rfl, hlk, Nat.zero_add] at hnx
        have hcl : Hid ((mvF a b 0 (la.take k)).length ≤ 65536) := Nat.le_trans (mvF_len a b (la.take k) 0) (by rw [hlk]; have := hll.out; omega)
        have hB2 : Hid (∀ o, Below w1.heap.size w1 (wr.alloc o) ∧ Below wr.heap.size wr (wr.alloc o)) := fun o => ⟨hbr.out.alloc hbr.out.size o, (Below.refl _ _).alloc (Nat.le_refl _) o⟩
        have hX1 : Hid ((wr.alloc (.cells #[.bool (nulV x), .int .u64 (sdV x : Int)] 46)).cell? ⟨wr.heap.size, 0, none⟩ = some (.bool (nulV x)) ∧ (wr.alloc (.cells #[.bool (nulV x), .int .u64 (sdV x : Int)] 46)).cell? ⟨wr.heap.size, 1, none⟩ = some (.int .u64 (sdV x : Int)) ∧ (wr.alloc (.cells #[.bool (nulV x), .int .u64 (sdV x : Int)] 46)).heap.size = wr.heap.size + 1) := by
          show _ ∧ _ ∧ _
          refine ⟨by go_simp, by go_simp, by simp⟩
        obtain ⟨QF, hQF⟩ : ∃ QF : Nat → Nat, QF = fun n => amV n x := ⟨_, rfl⟩
        rw [show amV a x = QF a by rw [hQF], show amV b x = QF b by rw [hQF]] at hnx
        replace AX : Hid (∀ n : Nat, Hid (0 < n ∧ n ≤ 64) → ∀ w1 : World, Calls Tryd.prog 18 #[.agg #[.bool (nulV x), .int .u64 (sdV x : Int)], .int .i64 (n : Int)] w1 fun e w' => e = .returned (.int .i64 (QF n : Int)) ∧ Below w1.heap.size w1 w') := by rw [hQF]; exact AX
        clear hQF
        generalize nulV x = NU at *
        generalize sdV x = SD at *
        clear AM hlk hlm
        generalize mvF a b 0 (la.take k) = L at *
        go_wp2_with fail
        obtain ⟨w2, hw2⟩ : ∃ w2, w2 = wr.alloc (.cells #[.bool NU, .int .u64 (SD : Int)] 46) := ⟨_, rfl⟩
        have hB3 := hB2.out (.cells #[.bool NU, .int .u64 (SD : Int)] 46)
        rw [← hw2] at hX1 hB3 ⊢
        clear hw2 hB2
        have lt2 : wr.heap.size < w2.heap.size := by rw [hX1.out.2.2]; exact Nat.lt_succ_self _
        have T0 : bxR w2 wr.heap.size NU SD w2 := ⟨Below.refl _ _, hX1.out.1, hX1.out.2.1⟩
        have HB3 := mkH hB3
        clear hX1 d1 d2 hB3
        go_region_held3 (fun w' => Below w2.heap.size w2 w' ∧ w'.cell? ⟨wr.heap.size, 0, none⟩ = some (.bool NU) ∧ w'.cell? ⟨wr.heap.size, 1, none⟩ = some (.int .u64 (SD : Int))) (first | exact bxR.drew T0 lt2 | exact bxR.next (by assumption) lt2 hb8) ((go_at_call 18; refine (AX.out _ (by assumption) _).mono ?_; rintro e w8 ⟨rfl, hb8⟩))
        have T1 : bxR w2 wr.heap.size NU SD w8 := by assumption
        have hb6 : Hid (Below wr.heap.size wr w8) := HB3.out.2.trans (T1.1.mono HB3.out.2.size)
        obtain ⟨w4, hw4⟩ : ∃ w4 : World, w4 = w8 := ⟨_, rfl⟩
        rw [← hw4] at hb6 ⊢
        clear hw4 T1 T0 lt2 HB3 AX hb8
        have hbx := mkH (hbr.out.trans (hb6.out.mono hbr.out.size))
        have hr4 : Hid (shr w4 38 3 u10 L.length (fl mvC L)) := hrw.out.kept (chgBl hb6.out) (fun g hg => by have := (hrw.out.kd g hg).2; omega)
        clear hb6 hrw hbr
        by_cases hq : QF a = QF b
        · have hn2 : Hid (mvF a b 0 (la.take (k + 1)) = L) := by
            have := hnx.out
            rw [if_pos hq, List.append_nil] at this
            exact this
          clear hnx
          have hqi : (QF a : Int) = (QF b : Int) := by rw [hq]
          go_wp2_with fail
          exact ⟨⟨k + 1, by go_num, hlt, ho, by rw [hn2.out]; exact hr4, hbx⟩, by simp [intOf]; omega⟩
        · have hn2 : Hid (mvF a b 0 (la.take (k + 1)) = L ++ [(k, QF a, QF b)]) := by
            have := hnx.out
            rw [if_neg hq] at this
            exact this
          clear hnx
          have hqi : ¬ (QF a : Int) = (QF b : Int) := by omega
          have hbz := mkH ((Below.refl w4.heap.size w4).alloc (Nat.le_refl _) (.cells #[.int .i64 (k : Int), .int .i64 (QF a : Int), .int .i64 (QF b : Int)] 38))
          have hr5 : Hid (shr (w4.alloc (.cells #[.int .i64 (k : Int), .int .i64 (QF a : Int), .int .i64 (QF b : Int)] 38)) 38 3 u10 L.length (fl mvC L)) := hr4.out.kept (chgBl hbz.out) (fun g hg => by have := (hr4.out.kd g hg).2; omega)
          obtain ⟨v5, w5, rr, s5, g5, o5⟩ := R_mv.app (m := 1) (c := 1) (news := mvC (k, QF a, QF b)) (ad := ⟨w4.heap.size, 0, none⟩) hr5.out rfl (fun j u hj => by
            have := heap_alloc_new w4 (.cells #[.int .i64 (k : Int), .int .i64 (QF a : Int), .int .i64 (QF b : Int)] 38)
            rw [add_plain, cell_of_block this]
            rw [Nat.zero_add, ← hj]; simp [mvC]) (by simp [mvC, Value.oneCell']) (by have := hcl.out; omega) (by decide)
          go_wp2_with (at_builtin; refine wp_app 34 rfl (.tmp 47) (.tmp 52) rfl rfl rfl rr ?_)
          have hz4 : w1.heap.size ≤ (w4.alloc (.cells #[.int .i64 (k : Int), .int .i64 (QF a : Int), .int .i64 (QF b : Int)] 38)).heap.size := Nat.le_trans hbx.out.size hbz.out.size
          have hby : Below w1.heap.size w1 w5 := (hbx.out.trans (hbz.out.mono hbx.out.size)).trans (below_own g5 hz4 (fun q hq => ho.out q hq))
          refine ⟨⟨k + 1, by go_num, hlt, fun q hq => ?_, by rw [hn2.out, List.length_append, fl_app]; exact s5, hby⟩, by simp [intOf]; omega⟩
          rcases o5 with o5 | ⟨q', o5, o6, _⟩
          · exact ho.out q (o5.symm.trans hq)
          · rw [o5] at hq; cases hq; exact Nat.le_trans hz4 o6
      · have hk2 : k = la.length := by omega
        have hr3 : Hid (shr wr 38 3 u10 (mvF a b 0 la).length (fl mvC (mvF a b 0 la))) := by
          have := hrw.out
          rw [hk2, List.take_length] at this
          exact this
        have hbx := mkH (HB.out.trans (hbr.out.mono HB.out.size))
        have hgx : Hid (∀ q, u10.ownBlock = some q → w2.heap.size ≤ q) := fun q hq => Nat.le_trans HB.out.size (ho.out q hq)
        clear hrw AM hk2 hbr HR HG hll ho hlm
        go_wp2_with fail
        refine bodyPost_ret (v := .tuple #[u10, .int .i64 0]) (by simp [results, Tryd.results12, go_sem]) rfl ?_
        exact ⟨hbx.out, Or.inr ⟨HE.out, _, rfl, hgx.out, hr3.out⟩⟩
end Go.Proofs.YtmhmcffejkpmjaaDoor
