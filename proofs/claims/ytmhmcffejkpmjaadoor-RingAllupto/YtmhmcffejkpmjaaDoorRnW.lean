/-
  The document's Of of what can't be, list, Spread and Moves.
-/
import Derived.Test.YtmhmcffejkpmjaaDoorRnV
import Derived.Test.YtmhmcffejkpmjaaDoorRnS
namespace Go.Proofs.YtmhmcffejkpmjaaDoor
open Go.RowKit Go.Shelf Go.Joins
set_option maxRecDepth 1000000

set_option maxHeartbeats 2000000 in
theorem refOf_bad (x : Va) (n : Int) (hn : n < 1 ∨ 64 < n) (w : World) :
    Calls Tryd.prog 7 #[.agg #[.int .i64 x.ty, .int .i64 x.n, .string x.s], .int .i64 n] w fun e w' => e = .returned (.tuple #[.int .i64 0, .int .i64 1]) ∧ Below w.heap.size w w' := by
  have CB : Hid (∀ w1, Calls Tryd.prog 19 #[.int .i64 n] w1 fun e w' => e = .returned (.bool false) ∧ w' = w1) := fun w1 => parts_no n hn w1
  have hB : Hid (∀ o, Below w.heap.size w (w.alloc o)) := fun o => (Below.refl _ _).alloc (Nat.le_refl _) o
  clear hn
  go_enter Tryd.func7, Tryd.ntmps7
  go_wp2_with fail
  refine (CB.out _).mono ?_
  rintro e w' ⟨rfl, rfl⟩
  go_wp2_with fail
  refine bodyPost_ret (v := .tuple #[.int .i64 0, .int .i64 1]) (by simp [results, Tryd.results7, go_sem]) rfl ⟨rfl, hB.out _⟩

set_option maxHeartbeats 2000000 in
theorem refOf_chk (x : Va) (n : Nat) (hn : 0 < n ∧ n ≤ 64) (w : World) (h0 : ¬ x.chk = 0) :
    Calls Tryd.prog 7 #[.agg #[.int .i64 x.ty, .int .i64 x.n, .string x.s], .int .i64 (n : Int)] w fun e w' => e = .returned (.tuple #[.int .i64 0, .int .i64 x.chk]) ∧ Below w.heap.size w w' := by
  have CB : Hid (∀ w1, Calls Tryd.prog 19 #[.int .i64 (n : Int)] w1 fun e w' => e = .returned (.bool true) ∧ w' = w1) := fun w1 => parts_yes n hn w1
  have CK : Hid (∀ w1, Calls Tryd.prog 20 #[.agg #[.int .i64 x.ty, .int .i64 x.n, .string x.s]] w1 fun e w' => e = .returned (.int .i64 x.chk) ∧ Below w1.heap.size w1 w') := fun w1 => refCheck_any x.ty x.n x.s w1
  have hR : Hid (Res (w.alloc (.cells #[.int .i64 x.ty, .int .i64 x.n, .string x.s] 23)) w.heap.size x.ty x.n x.s ∧ Below w.heap.size w (w.alloc (.cells #[.int .i64 x.ty, .int .i64 x.n, .string x.s] 23))) := ⟨Res.new w x.ty x.n x.s, (Below.refl _ w).alloc (Nat.le_refl _) _⟩
  have h1 : (x.chk != 0) = true := by rw [bne_iff_ne]; exact h0
  generalize x.chk = C at *
  clear hn h0
  go_enter Tryd.func7, Tryd.ntmps7
  go_wp2_with fail
  refine (CB.out _).mono ?_
  rintro e w' ⟨rfl, rfl⟩
  obtain ⟨w0, hw0⟩ : ∃ w0, w0 = w.alloc (.cells #[.int .i64 x.ty, .int .i64 x.n, .string x.s] 23) := ⟨_, rfl⟩
  rw [← hw0] at hR ⊢
  clear hw0 CB
  obtain ⟨_, y0, y1, y2, _, _, _⟩ := hR.out.1
  go_wp2_with fail
  refine (CK.out _).mono ?_
  rintro e w1 ⟨rfl, hb1⟩
  have HB := mkH (hR.out.2.trans (hb1.mono hR.out.2.size))
  clear y0 y1 y2 hR hb1 CK
  go_wp2_with fail
  first
  | refine bodyPost_ret (v := .tuple #[.int .i64 0, .int .i64 C]) (by simp [results, Tryd.results7, go_sem]) rfl ⟨rfl, HB.out⟩
  | trace_state

set_option maxHeartbeats 4000000 in
theorem list_any (p : Option Addr) (c : Nat) (la : List Va) (w : World) (hp : rowIn w p la) (hl : la.length ≤ 9223372036854775807) :
    Calls Tryd.prog 25 #[.slice p la.length c] w fun e w' => e = .returned (.int .i64 (wE la)) ∧ Below w.heap.size w w' := by
  by_cases h16 : 65536 < la.length
  · have h2 : Hid (wE la = 2) := if_pos h16
    have h16i : (65536 : Int) < (la.length : Int) := by omega
    clear hp
    rw [h2.out]
    go_enter Tryd.func25, Tryd.ntmps25
    go_wp2_with fail
    go_ret
    exact ⟨rfl, Below.refl _ _⟩
  · obtain ⟨E, hE⟩ : ∃ E, E = errs la := ⟨_, rfl⟩
    rw [show wE la = E from (if_neg h16).trans hE.symm]
    have HE : Hid (E = errs la) := hE
    clear hE
    have h16i : (la.length : Int) ≤ 65536 := by omega
    go_enter Tryd.func25, Tryd.ntmps25
    go_wp2_with fail
    go_loopw [3] (fun si wr => ∃ k : Nat, si = .int .i64 k ∧ k ≤ la.length ∧ Hid (E = errs (la.drop k)) ∧ Hid (Below w.heap.size w wr)) (fun si _ => la.length - (intOf si).toNat)
    case atStart => exact ⟨0, rfl, Nat.zero_le _, HE, Below.refl _ _⟩
    case round =>
      obtain ⟨k, rfl, hk, hd, hbr⟩ := hrel
      clear HE
      by_cases hlt : k < la.length
      · obtain ⟨x, hxk⟩ : ∃ x, la[k]? = some x := ⟨la[k], List.getElem?_eq_getElem hlt⟩
        rcases hp with rfl | ⟨g, off, rfl, hgw, hcs⟩
        · simp at hxk
        obtain ⟨c1, c2, c3⟩ := hcs k x hxk
        have d1 := (hbr.out.cell (p := ⟨g, off + k * 3, none⟩) hgw).trans c1
        have d2 := (hbr.out.cell (p := ⟨g, off + k * 3 + 1, none⟩) hgw).trans c2
        have d3 := (hbr.out.cell (p := ⟨g, off + k * 3 + 2, none⟩) hgw).trans c3
        clear c1 c2 c3 hcs
        rw [drop_at hxk] at hd
        have CK : Hid (∀ w1, Calls Tryd.prog 20 #[.agg #[.int .i64 x.ty, .int .i64 x.n, .string x.s]] w1 fun e w' => e = .returned (.int .i64 x.chk) ∧ Below w1.heap.size w1 w') := fun w1 => refCheck_any x.ty x.n x.s w1
        have hpass := fun h0 : x.chk = 0 => hd.out.trans (errs_pass (l := la.drop (k + 1)) h0)
        have hstop := fun h0 : ¬ x.chk = 0 => hd.out.trans (errs_stop (l := la.drop (k + 1)) h0)
        have HPS := mkH hpass
        have HST := mkH hstop
        clear hpass hstop hd
        generalize x.chk = C at *
        go_wp2_with fail
        refine (CK.out _).mono ?_
        rintro e w2 ⟨rfl, hb2⟩
        have hb3 := mkH (hbr.out.trans (hb2.mono hbr.out.size))
        clear hb2 hbr d1 d2 d3 CK
        by_cases h0 : C = 0
        · have hE2 := mkH (HPS.out h0)
          subst h0
          clear HST HPS
          go_wp2_with fail
          exact ⟨⟨k + 1, by go_num, hlt, hE2, hb3⟩, by simp [intOf]; omega⟩
        · have hE2 := mkH (HST.out h0)
          have h1 : (C != 0) = true := by rw [bne_iff_ne]; exact h0
          clear HST HPS
          go_wp2_with fail
          go_ret
          exact ⟨congrArg (fun z => Ending.returned (Value.int .i64 z)) hE2.out.symm, hb3.out⟩
      · have hE2 : Hid (E = 0) := by
          have := hd.out
          rw [show k = la.length by omega, List.drop_length] at this
          exact this
        clear hd hp
        go_wp2_with fail
        go_ret
        exact ⟨congrArg (fun z => Ending.returned (Value.int .i64 z)) hE2.out.symm, hbr.out⟩

set_option maxHeartbeats 4000000 in
theorem refSpread_any (p : Option Addr) (c : Nat) (la : List Va) (n : Nat) (hn : 0 < n ∧ n ≤ 64) (w : World) (hp : rowIn w p la) (hl : la.length ≤ 9223372036854775807) (fa : ∀ v ∈ la, fit v.n) :
    Calls Tryd.prog 11 #[.slice p la.length c, .int .i64 (n : Int)] w fun e w' => SpQ w la n e w' := by
  have CB : Hid (∀ w1, Calls Tryd.prog 19 #[.int .i64 (n : Int)] w1 fun e w' => e = .returned (.bool true) ∧ w' = w1) := fun w1 => parts_yes n hn w1
  have LI := mkH (list_any p c la w hp hl)
  have HP := mkH hp
  have FA := mkH fa
  have HN := mkH hn
  have MK : Hid (∀ w1 : World, (Instr.makeSlice 31 (.int .i64 (n : Int)) (.int .i64 (n : Int))).run Tryd.prog w1 = .ok (.slice (some ⟨w1.heap.size, 0, none⟩) n n) (w1.alloc (.cells (madeCells #[.int .i64 0] n) 3))) := fun w1 => by
    have := R_int.makeN w1 n (by omega)
    rw [Nat.mul_one] at this
    exact this
  obtain ⟨hn0, hn1⟩ := hn
  clear hp hl fa
  go_enter Tryd.func11, Tryd.ntmps11
  go_wp2_with fail
  refine (CB.out _).mono ?_
  rintro e w' ⟨rfl, rfl⟩
  clear CB
  go_wp2_with fail
  refine LI.out.mono ?_
  rintro e w1 ⟨rfl, hb⟩
  have HB := mkH hb
  clear LI hb
  by_cases he : wE la = 0
  · have HE := mkH he
    have hll := mkH (wE_len he)
    have HV := mkH (wE_none he)
    have hli : (la.length : Int) ≤ 65536 := by have := hll.out; omega
    rw [he]
    clear he
    go_wp2_with (at_make; refine wp_make 31 rfl (.tmp 19) (.tmp 19) rfl rfl rfl (MK.out _) ?_)
    clear MK
    have hB2 := mkH ((Below.refl w1.heap.size w1).alloc (Nat.le_refl _) (.cells (madeCells #[.int .i64 0] n) 3))
    have hR2 : Hid (inRow (w1.alloc (.cells (madeCells #[.int .i64 0] n) 3)) w1.heap.size n (cnt n [])) := ⟨_, heap_alloc_new _ _, size_madeCells _ _, fun p hp => by rw [made_get _ _ _ hp]; simp [cnt]⟩
    generalize w1.alloc (.cells (madeCells #[.int .i64 0] n) 3) = w2 at *
    go_loopw [8] (fun si wr => ∃ k : Nat, si = .int .i64 k ∧ k ≤ la.length ∧ Hid (inRow wr w1.heap.size n (cnt n (la.take k))) ∧ Hid (Below w1.heap.size w1 wr)) (fun si _ => la.length - (intOf si).toNat)
    case atStart => exact ⟨0, rfl, Nat.zero_le _, hR2, hB2⟩
    case round =>
      obtain ⟨k, rfl, hk, hrw, hbr⟩ := hrel
      clear hR2 hB2
      by_cases hlt : k < la.length
      · obtain ⟨x, hxk⟩ : ∃ x, la[k]? = some x := ⟨la[k], List.getElem?_eq_getElem hlt⟩
        have hmx := List.mem_of_getElem? hxk
        rcases HP.out with rfl | ⟨g, off, rfl, hgw, hcs⟩
        · simp at hxk
        obtain ⟨c1, c2, c3⟩ := hcs k x hxk
        have hbw := mkH (HB.out.trans (hbr.out.mono HB.out.size))
        have d1 := (hbw.out.cell (p := ⟨g, off + k * 3, none⟩) hgw).trans c1
        have d2 := (hbw.out.cell (p := ⟨g, off + k * 3 + 1, none⟩) hgw).trans c2
        have d3 := (hbw.out.cell (p := ⟨g, off + k * 3 + 2, none⟩) hgw).trans c3
        clear c1 c2 c3 hcs hbw
        have OF : Hid (∀ w1, Calls Tryd.prog 7 #[.agg #[.int .i64 x.ty, .int .i64 x.n, .string x.s], .int .i64 (n : Int)] w1 fun e w' => e = .returned (.tuple #[.int .i64 (amV n x : Int), .int .i64 0]) ∧ Below w1.heap.size w1 w') := fun w1 => refOf_any x n HN.out w1 (FA.out x hmx) (HV.out x hmx)
        have hq : amV n x < n := amV_lt x hn0
        have hnx := mkH (cnt_next n (la.take k) x)
        have hcl := mkH (cnt_le n (la.take k) (amV n x))
        rw [show la.take k ++ [x] = la.take (k + 1) by rw [List.take_add_one, hxk]; rfl] at hnx
        generalize hQq : amV n x = q at *
        go_wp2_with fail
        refine (OF.out _).mono ?_
        rintro e w3 ⟨rfl, hb3⟩
        have hr3 := mkH (hrw.out.below hb3 hrw.out.lt)
        obtain ⟨m0, m1⟩ := hr3.out.cell hq
        have hb5 := mkH (hbr.out.trans (hb3.mono hbr.out.size))
        have hlk : (la.take k).length = k := by rw [List.length_take]; omega
        have hc5 : cnt n (la.take k) q ≤ 65536 := Nat.le_trans hcl.out (by rw [hlk]; have := hll.out; omega)
        have hv : Hid ((cnt n (la.take k) q : Int) + 1 = (cnt n (la.take (k + 1)) q : Int)) := by
          show _ = _
          rw [hnx.out q, if_pos rfl]; simp
        have hG : Hid (∀ p, p ≠ q → cnt n (la.take (k + 1)) p = cnt n (la.take k) p) := fun p hp => by
          rw [hnx.out p, if_neg (fun e => hp e.symm)]; rfl
        clear hb3 hrw hbr d1 d2 d3 OF hnx hcl hlk
        generalize cnt n (la.take k) q = CQ at *
        go_wp2_with fail
        have hs := hr3.out.set (q := q) (v := .int .i64 ((CQ : Int) + 1)) hq (congrArg (Value.int .i64) hv.out) hG.out
        have hbs := below_set hb5.out ⟨w1.heap.size, q, none⟩ (.int .i64 ((CQ : Int) + 1)) (Nat.le_refl _)
        exact ⟨⟨k + 1, by go_num, hlt, hs, hbs⟩, by simp [intOf]; omega⟩
      · have hk2 : k = la.length := by omega
        have hr3 : Hid (inRow wr w1.heap.size n (cnt n la)) := by
          have := hrw.out
          rw [hk2, List.take_length] at this
          exact this
        have hbx := mkH (HB.out.trans (hbr.out.mono HB.out.size))
        have hgx := mkH HB.out.size
        clear hrw hk2 hbr hll
        go_wp2_with fail
        refine bodyPost_ret (v := .tuple #[.slice (some ⟨w1.heap.size, 0, none⟩) n n, .int .i64 0]) (by simp [results, Tryd.results11, go_sem]) rfl ?_
        exact ⟨hbx.out, Or.inr ⟨HE.out, _, rfl, hgx.out, hr3.out⟩⟩
  · have h1 : (wE la != 0) = true := by rw [bne_iff_ne]; exact he
    have HE := mkH he
    clear he MK
    generalize hC : wE la = C at *
    go_wp2_with fail
    refine bodyPost_ret (v := .tuple #[.slice none 0 0, .int .i64 C]) (by simp [results, Tryd.results11, go_sem]) rfl ⟨HB.out, Or.inl ⟨by rw [hC]; exact HE.out, by rw [hC]⟩⟩

set_option maxHeartbeats 4000000 in
theorem refMoves_any (p : Option Addr) (c : Nat) (la : List Va) (a b : Nat) (ha : 0 < a ∧ a ≤ 64) (hb : 0 < b ∧ b ≤ 64) (w : World) (hp : rowIn w p la) (hl : la.length ≤ 9223372036854775807) (fa : ∀ v ∈ la, fit v.n) :
    Calls Tryd.prog 13 #[.slice p la.length c, .int .i64 (a : Int), .int .i64 (b : Int)] w fun e w' => MvQ w la a b e w' := by
  have CB : Hid (∀ (n : Nat), 0 < n ∧ n ≤ 64 → ∀ w1, Calls Tryd.prog 19 #[.int .i64 (n : Int)] w1 fun e w' => e = .returned (.bool true) ∧ w' = w1) := fun n hn w1 => parts_yes n hn w1
  have LI := mkH (list_any p c la w hp hl)
  have CA := mkH (CB.out a ha)
  have CC := mkH (CB.out b hb)
  have HP := mkH hp
  have FA := mkH fa
  have HA := mkH ha
  have HBb := mkH hb
  clear hp hl fa CB ha hb
  go_enter Tryd.func13, Tryd.ntmps13
  go_wp2_with fail
  refine (CA.out _).mono ?_
  rintro e w' ⟨rfl, rfl⟩
  go_wp2_with fail
  refine (CC.out _).mono ?_
  rintro e w2 ⟨rfl, hw2⟩
  subst hw2
  clear CA CC
  go_wp2_with fail
  refine LI.out.mono ?_
  rintro e w1 ⟨rfl, hbl⟩
  have HB := mkH hbl
  clear LI hbl
  by_cases he : wE la = 0
  · have HE := mkH he
    have hll := mkH (wE_len he)
    have HV := mkH (wE_none he)
    have hli : (la.length : Int) ≤ 65536 := by have := hll.out; omega
    rw [he]
    clear he
    go_wp2_with fail
    have hS0 : Hid (shr w1 38 3 (.slice none 0 0) (mvF a b 0 (la.take 0)).length (fl mvC (mvF a b 0 (la.take 0)))) := shr_nil _ _ _
    go_loopw [9, 10] (fun sv si wr => ∃ k : Nat, si = .int .i64 k ∧ k ≤ la.length ∧ Hid (∀ g, sv.ownBlock = some g → w1.heap.size ≤ g) ∧ Hid (shr wr 38 3 sv (mvF a b 0 (la.take k)).length (fl mvC (mvF a b 0 (la.take k)))) ∧ Hid (Below w1.heap.size w1 wr)) (fun _ si _ => la.length - (intOf si).toNat)
    case atStart => exact ⟨0, rfl, Nat.zero_le _, (fun g hg => by cases hg), hS0, Below.refl _ _⟩
    case round =>
      obtain ⟨k, rfl, hk, ho, hrw, hbr⟩ := hrel
      clear hS0
      by_cases hlt : k < la.length
      · obtain ⟨x, hxk⟩ : ∃ x, la[k]? = some x := ⟨la[k], List.getElem?_eq_getElem hlt⟩
        have hmx := List.mem_of_getElem? hxk
        rcases HP.out with rfl | ⟨g, off, rfl, hgw, hcs⟩
        · simp at hxk
        have HCS := mkH (hcs k x hxk)
        have hbw := mkH (HB.out.trans (hbr.out.mono HB.out.size))
        have d1 := (hbw.out.cell (p := ⟨g, off + k * 3, none⟩) hgw).trans HCS.out.1
        have d2 := (hbw.out.cell (p := ⟨g, off + k * 3 + 1, none⟩) hgw).trans HCS.out.2.1
        have d3 := (hbw.out.cell (p := ⟨g, off + k * 3 + 2, none⟩) hgw).trans HCS.out.2.2
        clear hcs
        have AX := mkH (fun w1 => refOf_any x a HA.out w1 (FA.out x hmx) (HV.out x hmx))
        have BX := mkH (fun w1 => refOf_any x b HBb.out w1 (FA.out x hmx) (HV.out x hmx))
        have hnx := mkH (mvF_app a b x (la.take k) 0)
        have hlk : (la.take k).length = k := by rw [List.length_take]; omega
        rw [show la.take k ++ [x] = la.take (k + 1) by rw [List.take_add_one, hxk]; rfl, hlk, Nat.zero_add] at hnx
        have hcl : Hid ((mvF a b 0 (la.take k)).length ≤ 65536) := Nat.le_trans (mvF_len a b (la.take k) 0) (by rw [hlk]; have := hll.out; omega)
        generalize amV a x = qa at *
        generalize amV b x = qb at *
        clear hlk
        generalize mvF a b 0 (la.take k) = L at *
        go_wp2_with fail
        refine (AX.out _).mono ?_
        rintro e w3 ⟨rfl, hb3⟩
        have hb4 := mkH (hbw.out.trans (hb3.mono hbw.out.size))
        have hb4r := mkH hb3
        clear hb3 AX d1 d2 d3
        have d1 := (hb4.out.cell (p := ⟨g, off + k * 3, none⟩) hgw).trans HCS.out.1
        have d2 := (hb4.out.cell (p := ⟨g, off + k * 3 + 1, none⟩) hgw).trans HCS.out.2.1
        have d3 := (hb4.out.cell (p := ⟨g, off + k * 3 + 2, none⟩) hgw).trans HCS.out.2.2
        go_wp2_with fail
        refine (BX.out _).mono ?_
        rintro e w4 ⟨rfl, hb5⟩
        have hb6 := mkH (hb4r.out.trans (hb5.mono hb4r.out.size))
        have hbx := mkH (hbr.out.trans (hb6.out.mono hbr.out.size))
        have hr4 : Hid (shr w4 38 3 u9 L.length (fl mvC L)) := hrw.out.kept (chgBl hb6.out) (fun g hg => by have := (hrw.out.kd g hg).2; omega)
        clear hb4 hb4r hb5 hb6 hbw hrw hbr BX d1 d2 d3
        by_cases hq : qa = qb
        · have hn2 : Hid (mvF a b 0 (la.take (k + 1)) = L) := by
            have := hnx.out
            rw [if_pos hq, List.append_nil] at this
            exact this
          clear hnx
          have hqi : (qa : Int) = (qb : Int) := by rw [hq]
          go_wp2_with fail
          exact ⟨⟨k + 1, by go_num, hlt, ho, by rw [hn2.out]; exact hr4, hbx⟩, by simp [intOf]; omega⟩
        · have hn2 : Hid (mvF a b 0 (la.take (k + 1)) = L ++ [(k, qa, qb)]) := by
            have := hnx.out
            rw [if_neg hq] at this
            exact this
          clear hnx
          have hqi : ¬ (qa : Int) = (qb : Int) := by omega
          have hbz := mkH ((Below.refl w4.heap.size w4).alloc (Nat.le_refl _) (.cells #[.int .i64 (k : Int), .int .i64 (qa : Int), .int .i64 (qb : Int)] 38))
          have hr5 : Hid (shr (w4.alloc (.cells #[.int .i64 (k : Int), .int .i64 (qa : Int), .int .i64 (qb : Int)] 38)) 38 3 u9 L.length (fl mvC L)) := hr4.out.kept (chgBl hbz.out) (fun g hg => by have := (hr4.out.kd g hg).2; omega)
          obtain ⟨v5, w5, rr, s5, g5, o5⟩ := R_mv.app (m := 1) (c := 1) (news := mvC (k, qa, qb)) (ad := ⟨w4.heap.size, 0, none⟩) hr5.out rfl (fun j u hj => by
            have := heap_alloc_new w4 (.cells #[.int .i64 (k : Int), .int .i64 (qa : Int), .int .i64 (qb : Int)] 38)
            rw [add_plain, cell_of_block this]
            rw [Nat.zero_add, ← hj]; simp [mvC]) (by simp [mvC, Value.oneCell']) (by have := hcl.out; omega) (by decide)
          go_wp2_with (at_builtin; refine wp_app 34 rfl (.tmp 55) (.tmp 60) rfl rfl rfl rr ?_)
          have hz4 : w1.heap.size ≤ (w4.alloc (.cells #[.int .i64 (k : Int), .int .i64 (qa : Int), .int .i64 (qb : Int)] 38)).heap.size := Nat.le_trans hbx.out.size hbz.out.size
          have hby : Below w1.heap.size w1 w5 := (hbx.out.trans (hbz.out.mono hbx.out.size)).trans (below_own g5 hz4 (fun q hq => ho.out q hq))
          refine ⟨⟨k + 1, by go_num, hlt, fun q hq => ?_, by rw [hn2.out, List.length_append, fl_app]; exact s5, hby⟩, by simp [intOf]; omega⟩
          rcases o5 with o5 | ⟨q', o5, o6, _⟩
          · exact ho.out q (o5.symm.trans hq)
          · rw [o5] at hq; cases hq; exact Nat.le_trans hz4 o6
      · have hk2 : k = la.length := by omega
        have hr3 : Hid (shr wr 38 3 u9 (mvF a b 0 la).length (fl mvC (mvF a b 0 la))) := by
          have := hrw.out
          rw [hk2, List.take_length] at this
          exact this
        have hbx := mkH (HB.out.trans (hbr.out.mono HB.out.size))
        have hgx : Hid (∀ q, u9.ownBlock = some q → w2.heap.size ≤ q) := fun q hq => Nat.le_trans HB.out.size (ho.out q hq)
        clear hrw hk2 hbr hll ho
        go_wp2_with fail
        refine bodyPost_ret (v := .tuple #[u9, .int .i64 0]) (by simp [results, Tryd.results13, go_sem]) rfl ?_
        exact ⟨hbx.out, Or.inr ⟨HE.out, _, rfl, hgx.out, hr3.out⟩⟩
  · have h1 : (wE la != 0) = true := by rw [bne_iff_ne]; exact he
    have HE := mkH he
    clear he
    generalize hC : wE la = C at *
    go_wp2_with fail
    refine bodyPost_ret (v := .tuple #[.slice none 0 0, .int .i64 C]) (by simp [results, Tryd.results13, go_sem]) rfl ⟨HB.out, Or.inl ⟨by rw [hC]; exact HE.out, by rw [hC]⟩⟩
end Go.Proofs.YtmhmcffejkpmjaaDoor
