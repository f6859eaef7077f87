/-
  Where a value belongs is the partition that wants it most, whatever stands beside it: the law RingApart, walked whole.
-/
import Derived.Test.YtmhmcffejkpmjaaDoorRnS
import Derived.OpenShut
namespace Go.Proofs.YtmhmcffejkpmjaaDoor
open Go.RowKit Go.Shelf Go.Joins
set_option maxRecDepth 1000000

/-- a block of numbers, of which the first ones are told -/
def ofRow (w : World) (g n : Nat) (xs : List Nat) : Prop := ∃ cs : Array Value, w.heap[g]? = some (.cells cs 3 (0, 0)) ∧ cs.size = n ∧ ∀ (i x : Nat), xs[i]? = some x → cs[i]? = some (.int .i64 (x : Int))
theorem ofRow.below {w w' : World} {base g n : Nat} {xs : List Nat} (h : ofRow w g n xs) (hb : Below base w w') (hg : g < base) : ofRow w' g n xs := by
  obtain ⟨cs, h1, h2⟩ := h
  exact ⟨cs, (hb.block g hg).trans h1, h2⟩
theorem ofRow.lt {w : World} {g n : Nat} {xs : List Nat} (h : ofRow w g n xs) : g < w.heap.size := by
  obtain ⟨cs, h1, _⟩ := h; exact lt_of_heap h1
theorem ofRow.cell {w : World} {g n : Nat} {xs : List Nat} (h : ofRow w g n xs) {i x : Nat} (hx : xs[i]? = some x) : w.cell? ⟨g, i, none⟩ = some (.int .i64 (x : Int)) := by
  obtain ⟨cs, h1, h2, h3⟩ := h
  exact (cell_of_block h1 _).trans (h3 i x hx)
theorem ofRow.room {w : World} {g n : Nat} {xs : List Nat} (h : ofRow w g n xs) {i : Nat} (hi : i < n) : (∃ u, w.cell? ⟨g, i, none⟩ = some u) ∧ w.frozen? ⟨g, i, none⟩ = false := by
  obtain ⟨cs, h1, h2, h3⟩ := h
  exact ⟨⟨_, (cell_of_block h1 _).trans (Array.getElem?_eq_getElem (by omega))⟩, unfrozen_of_block h1 _⟩
theorem ofRow.set {w : World} {g n q : Nat} {xs : List Nat} (h : ofRow w g n xs) (hl : xs.length < n) : ofRow (w.setCell ⟨g, xs.length, none⟩ (.int .i64 (q : Int))) g n (xs ++ [q]) := by
  obtain ⟨cs, h1, h2, h3⟩ := h
  refine ⟨_, block_setCell h1 _, by simpa using h2, fun i x hx => ?_⟩
  rw [Array.getElem?_setIfInBounds]
  rcases Nat.lt_or_ge i xs.length with hi | hi
  · rw [if_neg (by omega)]
    rw [List.getElem?_append_left hi] at hx
    exact h3 i x hx
  · have hi2 : i = xs.length := by
      have := (List.getElem?_eq_some_iff.1 hx).1
      simp at this; omega
    subst hi2
    rw [if_pos rfl, if_pos (by omega)]
    obtain rfl : q = x := by simpa using hx
    rfl
theorem ofRow.other {w : World} {g n : Nat} {xs : List Nat} (h : ofRow w g n xs) (a : Addr) (v : Value) (ha : g ≠ a.block) : ofRow (w.setCell a v) g n xs := by
  obtain ⟨cs, h1, h2⟩ := h
  exact ⟨cs, (heap_setCell_other w a g v ha).trans h1, h2⟩
theorem inRow.other {w : World} {g n : Nat} {F : Nat → Nat} (h : inRow w g n F) (a : Addr) (v : Value) (ha : g ≠ a.block) : inRow (w.setCell a v) g n F := by
  obtain ⟨cs, h1, h2⟩ := h
  exact ⟨cs, (heap_setCell_other w a g v ha).trans h1, h2⟩
/-- how many are still to come -/
def lft (n : Nat) (la : List Va) (i p : Nat) : Nat := cnt n la p - cnt n (la.take i) p
theorem lft_next {n : Nat} {la : List Va} {i : Nat} {x : Va} (h : la[i]? = some x) : 1 ≤ lft n la i (amV n x) ∧ lft n la (i + 1) (amV n x) = lft n la i (amV n x) - 1 ∧ ∀ p, p ≠ amV n x → lft n la (i + 1) p = lft n la i p := by
  have hn := fun p => cnt_next n (la.take i) x p
  rw [show la.take i ++ [x] = la.take (i + 1) by rw [List.take_add_one, h]; rfl] at hn
  have hle : ∀ p, cnt n (la.take (i + 1)) p ≤ cnt n la p := fun p => List.Sublist.countP_le (List.take_sublist _ _)
  refine ⟨?_, ?_, fun p hp => ?_⟩
  · have h1 := hn (amV n x); rw [if_pos rfl] at h1
    have h2 := hle (amV n x)
    unfold lft; omega
  · have h1 := hn (amV n x); rw [if_pos rfl] at h1
    unfold lft; omega
  · have h1 := hn p; rw [if_neg (fun e => hp e.symm)] at h1
    unfold lft; omega
theorem lft_end (n : Nat) (la : List Va) (p : Nat) : lft n la la.length p = 0 := by
  unfold lft; rw [List.take_length]; omega
theorem lft_le (n : Nat) (la : List Va) (i p : Nat) : lft n la i p ≤ la.length := Nat.le_trans (Nat.sub_le _ _) (cnt_le _ _ _)

theorem take_at {P : Program} {ops : Array Oper} {Q : Exit → Act → World → Prop} {md : Region.Mode} {S : World → Prop} {i d : Nat} {oi : Oper} {v : Value} {fuel : Nat} {listed : Array Bool} {ts : Array Value} {df : List Deferred} {w : World} (hi : ops[i]? = some oi) (hd : oi.dst = some d)
    (hs : Region.noSelect ops = true) (hf : Region.free md ops listed i = true) (hr : (Region.ready md ops listed).contains i = true)
    (hQ : ∀ c a w, Q (.panic c) (a.put oi.dst v) w → Q (.panic c) a w) (hy : YieldsIf P ops S oi v ⟨ts, df⟩) (hS : S w)
    (h : wpAnyH P md ops Q S fuel (listed.setIfInBounds i true) ⟨ts.setIfInBounds d v, df⟩ w) : wpAnyH P md ops Q S (fuel + 1) listed ⟨ts, df⟩ w :=
  wpAnyH_take hi hs hf hr hQ hy hS (by rw [hd]; exact h)
/-- what is known while two values and a number are read -/
@[reducible] def svR (w0 : World) (g oy ox gO k : Nat) (y x : Va) (z : Nat) (w' : World) : Prop := Below w0.heap.size w0 w' ∧ w'.cell? ⟨g, oy, none⟩ = some (.int .i64 y.ty) ∧ w'.cell? ⟨g, oy + 1, none⟩ = some (.int .i64 y.n) ∧ w'.cell? ⟨g, oy + 2, none⟩ = some (.string y.s) ∧ w'.cell? ⟨g, ox, none⟩ = some (.int .i64 x.ty) ∧ w'.cell? ⟨g, ox + 1, none⟩ = some (.int .i64 x.n) ∧ w'.cell? ⟨g, ox + 2, none⟩ = some (.string x.s) ∧ w'.cell? ⟨gO, k, none⟩ = some (.int .i64 (z : Int))
theorem svR.next {w0 w w' : World} {g oy ox gO k z : Nat} {y x : Va} (h : svR w0 g oy ox gO k y x z w) (hg : g < w0.heap.size) (ho : gO < w0.heap.size) (hb : Below w.heap.size w w') : svR w0 g oy ox gO k y x z w' := by
  have lg := Nat.lt_of_lt_of_le hg h.1.size
  have lo := Nat.lt_of_lt_of_le ho h.1.size
  exact ⟨h.1.trans (hb.mono h.1.size), (hb.cell (p := ⟨g, oy, none⟩) lg).trans h.2.1, (hb.cell (p := ⟨g, oy + 1, none⟩) lg).trans h.2.2.1, (hb.cell (p := ⟨g, oy + 2, none⟩) lg).trans h.2.2.2.1, (hb.cell (p := ⟨g, ox, none⟩) lg).trans h.2.2.2.2.1, (hb.cell (p := ⟨g, ox + 1, none⟩) lg).trans h.2.2.2.2.2.1, (hb.cell (p := ⟨g, ox + 2, none⟩) lg).trans h.2.2.2.2.2.2.1, (hb.cell (p := ⟨gO, k, none⟩) lo).trans h.2.2.2.2.2.2.2⟩
theorem svR.drew {w0 w : World} {g oy ox gO k z : Nat} {y x : Va} (h : svR w0 g oy ox gO k y x z w) (hg : g < w0.heap.size) (ho : gO < w0.heap.size) : svR w0 g oy ox gO k y x z w.drew := h.next hg ho (below_drewN (Below.refl _ w) 1)

set_option maxHeartbeats 8000000 in
theorem RingApart_any (p : Option Addr) (c : Nat) (la : List Va) (f : Nat) (hf : f < 256) (w : World) (hp : rowIn w p la) (hl : la.length ≤ 9223372036854775807) (fa : ∀ v ∈ la, fit v.n) (sa : ∀ v ∈ la, v.s.size ≤ 9223372036854775807) (hT : Tabs w) :
    Calls Tryd.prog 5 #[.slice p la.length c, .int .u8 (f : Int)] w fun e w' => e = .returned (.bool true) ∧ Below w.heap.size w w' := by
  have LV := mkH (lives_any w hT)
  have SP : Hid (∀ w1, Below w.heap.size w w1 → Calls Tryd.prog 10 #[.slice p la.length c, .int .i64 (1 + (f : Int) % 64)] w1 fun e w' => SpQ w1 la (1 + f % 64) e w') := fun w1 hb => by
    have := Spread_any p c la (1 + f % 64) (by omega) w1 (hp.below hb) hl fa sa (hT.below hb)
    rw [show ((1 + f % 64 : Nat) : Int) = 1 + (f : Int) % 64 by omega] at this
    exact this
  have hA : Hid ((0 < 1 + f % 64 ∧ 1 + f % 64 ≤ 64) ∧ ((1 + f % 64 : Nat) : Int) = 1 + (f : Int) % 64) := ⟨by omega, by omega⟩
  have HP := mkH hp
  have HT := mkH hT
  have FA := mkH fa
  have SA := mkH sa
  clear hp fa sa hT
  go_enter Tryd.func5, Tryd.ntmps5
  go_wp2_with fail
  refine LV.out.mono ?_
  rintro e w1 ⟨rfl, hb1⟩
  have HB1 := mkH hb1
  clear hb1 LV
  go_wp2_with fail
  refine (SP.out _ HB1.out).mono ?_
  rintro e w2 ⟨hb2, hor⟩
  have HB2 := mkH (HB1.out.trans (hb2.mono HB1.out.size))
  clear hb2 SP
  generalize 1 + f % 64 = n at *
  have hnI : (n : Int) = 1 + (f : Int) % 64 := hA.out.2
  rw [← hnI]
  clear hnI
  rcases hor with ⟨he, rfl⟩ | ⟨he, gS, rfl, hgS, hr⟩
  · have h1 : (wE la != 0) = true := by rw [bne_iff_ne]; exact he
    clear he hA
    generalize wE la = C at *
    go_wp2_with fail
    go_ret
    exact ⟨rfl, HB2.out⟩
  · have HR := mkH hr
    have HGS := mkH (Nat.le_trans HB1.out.size hgS)
    have hll := mkH (wE_len he)
    have HV := mkH (wE_none he)
    have hli : (la.length : Int) ≤ 65536 := by have := hll.out; omega
    have hn64 : (n : Int) ≤ 64 := by have := hA.out.1.2; omega
    clear he hr hgS HB1
    have MK : (Instr.makeSlice 31 (.int .i64 (la.length : Int)) (.int .i64 (la.length : Int))).run Tryd.prog w2 = .ok (.slice (some ⟨w2.heap.size, 0, none⟩) la.length la.length) (w2.alloc (.cells (madeCells #[.int .i64 0] la.length) 3)) := by
      have := R_int.makeN w2 la.length (by have := hll.out; omega)
      rw [Nat.mul_one] at this
      exact this
    go_wp2_with (at_make; refine wp_make 31 rfl (.tmp 41) (.tmp 41) rfl rfl rfl MK ?_)
    clear MK
    have hB3 := mkH ((Below.refl w2.heap.size w2).alloc (Nat.le_refl _) (.cells (madeCells #[.int .i64 0] la.length) 3))
    have hO3 : Hid (ofRow (w2.alloc (.cells (madeCells #[.int .i64 0] la.length) 3)) w2.heap.size la.length []) := ⟨_, heap_alloc_new _ _, size_madeCells _ _, fun i x hx => by simp at hx⟩
    generalize w2.alloc (.cells (madeCells #[.int .i64 0] la.length) 3) = w3 at *
    have hS3 := mkH (HR.out.below hB3.out HR.out.lt)
    have HNE : Hid (gS ≠ w2.heap.size) := fun e => by have := HR.out.lt; omega
    have HB3 := mkH (HB2.out.trans (hB3.out.mono HB2.out.size))
    have HGO := mkH HB2.out.size
    clear hB3 HR
    generalize w2.heap.size = gO at *
    clear HB2
    go_loopw [9] (fun si wr => ∃ i : Nat, si = .int .i64 i ∧ i ≤ la.length ∧ Hid (inRow wr gS n (lft n la i)) ∧ Hid (ofRow wr gO la.length ((la.take i).map (amV n))) ∧ Hid (Below w.heap.size w wr)) (fun si _ => la.length - (intOf si).toNat)
    case atStart => exact ⟨0, rfl, Nat.zero_le _, by rw [show lft n la 0 = cnt n la by funext p; simp [lft, cnt]]; exact hS3, by simpa using hO3, HB3⟩
    case round =>
      obtain ⟨i, rfl, hi, hrs, hro, hbr⟩ := hrel
      clear hS3 hO3 HB3
      by_cases hlt : i < la.length
      · obtain ⟨x, hxk⟩ : ∃ x, la[i]? = some x := ⟨la[i], List.getElem?_eq_getElem hlt⟩
        have hmx := List.mem_of_getElem? hxk
        have hn0 := hA.out.1.1
        have OF : Hid (∀ w1, Tabs w1 → Calls Tryd.prog 6 #[.agg #[.int .i64 x.ty, .int .i64 x.n, .string x.s], .int .i64 (n : Int)] w1 fun e w' => e = .returned (.tuple #[.int .i64 (amV n x : Int), .int .i64 0]) ∧ Below w1.heap.size w1 w') := fun w1 h1 => by
          have := Of_any x n hA.out.1 w1 (FA.out x hmx) (SA.out x hmx) h1
          rw [if_pos (HV.out x hmx), HV.out x hmx] at this
          exact this
        rcases HP.out with rfl | ⟨g, off, rfl, hgw, hcs⟩
        · simp at hxk
        have HC := mkH hcs
        obtain ⟨c1, c2, c3⟩ := hcs i x hxk
        have d1 := (hbr.out.cell (p := ⟨g, off + i * 3, none⟩) hgw).trans c1
        have d2 := (hbr.out.cell (p := ⟨g, off + i * 3 + 1, none⟩) hgw).trans c2
        have d3 := (hbr.out.cell (p := ⟨g, off + i * 3 + 2, none⟩) hgw).trans c3
        have HE := mkH (And.intro c1 (And.intro c2 c3))
        clear c1 c2 c3 hcs
        obtain ⟨l1, l2, l3⟩ := lft_next (n := n) hxk
        have HL := mkH (And.intro l1 (And.intro l2 l3))
        have hle := mkH (lft_le n la i (amV n x))
        have hql := amV_lt x hn0
        have HQ : Hid (∀ q, q = amV n x → True) := fun _ _ => trivial
        have hq1 : ¬ ((amV n x : Nat) : Int) < 0 := by omega
        have hq2 : ¬ (n : Int) ≤ ((amV n x : Nat) : Int) := by omega
        clear l1 l2 l3
        obtain ⟨q, hq⟩ : ∃ q, q = amV n x := ⟨_, rfl⟩
        rw [← hq] at OF HL hle hql hq1 hq2
        have HQE := mkH hq
        clear hq HQ
        go_wp2_with fail
        refine (OF.out _ (HT.out.below hbr.out)).mono ?_
        rintro e w4 ⟨rfl, hb4⟩
        have HB4 := mkH hb4
        have hs4 := mkH (hrs.out.below hb4 hrs.out.lt)
        have ho4 := mkH (hro.out.below hb4 hro.out.lt)
        obtain ⟨m0, m1⟩ := hs4.out.cell hql
        obtain ⟨⟨v0, m2⟩, m3⟩ := ho4.out.room hlt
        have hv1 := HL.out.1
        have hv2 := hle.out
        have hv3 : (lft n la i q : Int) ≤ 65536 := by have := hll.out; omega
        have hv4 : (1 : Int) ≤ (lft n la i q : Int) := by omega
        have hne1 := HNE.out
        have hne2 : ¬ gO = gS := fun e => HNE.out e.symm
        have HVL : Hid ((lft n la i q : Int) - 1 = (lft n la (i + 1) q : Int)) := by
          show _ = _
          rw [HL.out.2.1]; omega
        generalize hVV : (lft n la i q : Int) = VV at *
        clear hb4 hrs hro OF d1 d2 d3 hv1 hv2 hVV
        go_wp2_with fail
        rename 0 ≤ (q : Int) ∧ ¬ n ≤ q => hsp
        clear hsp
        obtain ⟨w5, hw5⟩ : ∃ w5, w5 = (w4.setCell ⟨gO, i, none⟩ (.int .i64 (q : Int))).setCell ⟨gS, q, none⟩ (.int .i64 (VV - 1)) := ⟨_, rfl⟩
        rw [← hw5]
        have hlk : ((la.take i).map (amV n)).length = i := by rw [List.length_map, List.length_take]; omega
        have ho5 : Hid (ofRow w5 gO la.length ((la.take (i + 1)).map (amV n))) := by
          have h := ho4.out.set (q := q) (by rw [hlk]; exact hlt)
          rw [hlk] at h
          have h2 := h.other ⟨gS, q, none⟩ (.int .i64 (VV - 1)) hne2
          rw [← hw5] at h2
          rw [List.take_add_one, hxk, List.map_append]
          show ofRow _ _ _ (_ ++ [amV n x])
          rw [← HQE.out]; exact h2
        have hs5 : Hid (inRow w5 gS n (lft n la (i + 1))) := by
          have h := (hs4.out.other ⟨gO, i, none⟩ (.int .i64 (q : Int)) hne1).set (G := lft n la (i + 1)) (v := .int .i64 (VV - 1)) hql (congrArg (Value.int .i64) HVL.out) HL.out.2.2
          rw [← hw5] at h; exact h
        have hb5 : Hid (Below w.heap.size w w5) := by
          have h0 := hbr.out.trans (HB4.out.mono hbr.out.size)
          have h := below_set (below_set h0 ⟨gO, i, none⟩ (.int .i64 (q : Int)) HGO.out) ⟨gS, q, none⟩ (.int .i64 (VV - 1)) HGS.out
          rw [← hw5] at h; exact h
        have HQL := mkH hql
        clear hql
        clear hw5 hs4 ho4 hbr HB4 HVL hlk m0 m1 m2 m3 hv3 hv4 HL hle hq1 hq2 hne1 hne2
        go_loopw [12] (fun sk wr => ∃ k : Nat, sk = .int .i64 k ∧ k ≤ i ∧ Hid (Below w5.heap.size w5 wr)) (fun sk _ => i - (intOf sk).toNat)
        case atStart => exact ⟨0, rfl, Nat.zero_le _, Below.refl _ _⟩
        case round =>
          obtain ⟨k, rfl, hki, hbi⟩ := hrel
          rcases Nat.lt_or_ge k i with hki | hki
          · obtain ⟨y, hyk⟩ : ∃ y, la[k]? = some y := ⟨la[k], List.getElem?_eq_getElem (by omega)⟩
            have hmy := List.mem_of_getElem? hyk
            obtain ⟨c1, c2, c3⟩ := HC.out k y hyk
            have hbw := mkH (hb5.out.trans (hbi.out.mono hb5.out.size))
            have lg : g < wr.heap.size := Nat.lt_of_lt_of_le hgw hbw.out.size
            have lo : gO < wr.heap.size := Nat.lt_of_lt_of_le ho5.out.lt hbi.out.size
            have hz0 : ((la.take (i + 1)).map (amV n))[k]? = some (amV n y) := by
              rw [List.getElem?_map, List.getElem?_take_of_lt (by omega), hyk]; rfl
            have hz1 := (ho5.out.below hbi.out ho5.out.lt).cell hz0
            have T0 : svR wr g (off + k * 3) (off + i * 3) gO k y x (amV n y) wr := ⟨Below.refl _ _, (hbw.out.cell (p := ⟨g, off + k * 3, none⟩) hgw).trans c1, (hbw.out.cell (p := ⟨g, off + k * 3 + 1, none⟩) hgw).trans c2, (hbw.out.cell (p := ⟨g, off + k * 3 + 2, none⟩) hgw).trans c3, (hbw.out.cell (p := ⟨g, off + i * 3, none⟩) hgw).trans HE.out.1, (hbw.out.cell (p := ⟨g, off + i * 3 + 1, none⟩) hgw).trans HE.out.2.1, (hbw.out.cell (p := ⟨g, off + i * 3 + 2, none⟩) hgw).trans HE.out.2.2, hz1⟩
            have hsm := fun w1 => Same_any y x w1 (FA.out y hmy) (FA.out x hmx)
            have hey : ordV y x = 0 → amV n y = q := fun h => by rw [HQE.out]; exact amV_same n (HV.out y hmy) (HV.out x hmx) h
            have hkl : k < la.length := by omega
            have hnx : ∀ w', Below wr.heap.size wr w' → Hid (Below w5.heap.size w5 w') := fun w' h => hbi.out.trans (h.mono hbi.out.size)
            have HNX := mkH hnx
            have hkL : ¬ (la.length ≤ k) := by omega
            have hiL : ¬ (la.length ≤ i) := by omega
            clear hz0 hz1 hbw c1 c2 c3 hnx
            generalize amV n y = z at *
            by_cases ho : ordV y x = 0
            · have hzq := hey ho
              subst hzq
              have SM : Hid (∀ w1, Calls Tryd.prog 15 #[.agg #[.int .i64 y.ty, .int .i64 y.n, .string y.s], .agg #[.int .i64 x.ty, .int .i64 x.n, .string x.s]] w1 fun e w' => e = .returned (.bool true) ∧ Below w1.heap.size w1 w') := fun w1 => by
                have := hsm w1; rw [ho] at this; exact this
              clear hsm hey ho hbi hs5 ho5 hb5
              go_wp2_with fail
              refine wp_region_noPanic ?_
              refine wp_region_held_drew (S := fun w' : World => Below wr.heap.size wr w' ∧ w'.cell? ⟨g, off + k * 3, none⟩ = some (.int .i64 y.ty) ∧ w'.cell? ⟨g, off + k * 3 + 1, none⟩ = some (.int .i64 y.n) ∧ w'.cell? ⟨g, off + k * 3 + 2, none⟩ = some (.string y.s) ∧ w'.cell? ⟨g, off + i * 3, none⟩ = some (.int .i64 x.ty) ∧ w'.cell? ⟨g, off + i * 3 + 1, none⟩ = some (.int .i64 x.n) ∧ w'.cell? ⟨g, off + i * 3 + 2, none⟩ = some (.string x.s) ∧ w'.cell? ⟨gO, k, none⟩ = some (.int .i64 (z : Int))) (by kernel_rfl) (svR.drew T0 lg lo) (fun hH => ?_)
              clear T0
              refine take_at (i := 0) (v := .slice (some ⟨g, off, none⟩) la.length c) rfl rfl (by kernel_rfl) (by kernel_rfl) (by kernel_rfl) (fun _ _ _ h => h) (Or.inl ⟨by rfl, ?_⟩) hH ?_
              · intro w9 hSw; obtain ⟨s0, s1, s2, s3, s4, s5, s6, s7⟩ := hSw; go_simp
              simp only [List.setIfInBounds_toArray, List.set_cons_zero, List.set_cons_succ]
              refine take_at (i := 1) (v := .int .i64 (k : Int)) rfl rfl (by kernel_rfl) (by kernel_rfl) (by kernel_rfl) (fun _ _ _ h => h) (Or.inl ⟨by rfl, ?_⟩) hH ?_
              · intro w9 hSw; obtain ⟨s0, s1, s2, s3, s4, s5, s6, s7⟩ := hSw; go_simp
              simp only [List.setIfInBounds_toArray, List.set_cons_zero, List.set_cons_succ]
              refine take_at (i := 2) (v := .pointer (some ⟨g, off + k * 3, none⟩)) rfl rfl (by kernel_rfl) (by kernel_rfl) (by kernel_rfl) (fun _ _ _ h => h) (Or.inl ⟨by rfl, ?_⟩) hH ?_
              · intro w9 hSw; obtain ⟨s0, s1, s2, s3, s4, s5, s6, s7⟩ := hSw; go_simp
              simp only [List.setIfInBounds_toArray, List.set_cons_zero, List.set_cons_succ]
              refine take_at (i := 3) (v := .agg #[.int .i64 y.ty, .int .i64 y.n, .string y.s]) rfl rfl (by kernel_rfl) (by kernel_rfl) (by kernel_rfl) (fun _ _ _ h => h) (Or.inl ⟨by rfl, ?_⟩) hH ?_
              · intro w9 hSw; obtain ⟨s0, s1, s2, s3, s4, s5, s6, s7⟩ := hSw; go_simp
              simp only [List.setIfInBounds_toArray, List.set_cons_zero, List.set_cons_succ]
              refine take_at (i := 4) (v := .slice (some ⟨g, off, none⟩) la.length c) rfl rfl (by kernel_rfl) (by kernel_rfl) (by kernel_rfl) (fun _ _ _ h => h) (Or.inl ⟨by rfl, ?_⟩) hH ?_
              · intro w9 hSw; obtain ⟨s0, s1, s2, s3, s4, s5, s6, s7⟩ := hSw; go_simp
              simp only [List.setIfInBounds_toArray, List.set_cons_zero, List.set_cons_succ]
              refine take_at (i := 5) (v := .int .i64 (i : Int)) rfl rfl (by kernel_rfl) (by kernel_rfl) (by kernel_rfl) (fun _ _ _ h => h) (Or.inl ⟨by rfl, ?_⟩) hH ?_
              · intro w9 hSw; obtain ⟨s0, s1, s2, s3, s4, s5, s6, s7⟩ := hSw; go_simp
              simp only [List.setIfInBounds_toArray, List.set_cons_zero, List.set_cons_succ]
              refine take_at (i := 6) (v := .pointer (some ⟨g, off + i * 3, none⟩)) rfl rfl (by kernel_rfl) (by kernel_rfl) (by kernel_rfl) (fun _ _ _ h => h) (Or.inl ⟨by rfl, ?_⟩) hH ?_
              · intro w9 hSw; obtain ⟨s0, s1, s2, s3, s4, s5, s6, s7⟩ := hSw; go_simp
              simp only [List.setIfInBounds_toArray, List.set_cons_zero, List.set_cons_succ]
              refine take_at (i := 7) (v := .agg #[.int .i64 x.ty, .int .i64 x.n, .string x.s]) rfl rfl (by kernel_rfl) (by kernel_rfl) (by kernel_rfl) (fun _ _ _ h => h) (Or.inl ⟨by rfl, ?_⟩) hH ?_
              · intro w9 hSw; obtain ⟨s0, s1, s2, s3, s4, s5, s6, s7⟩ := hSw; go_simp
              simp only [List.setIfInBounds_toArray, List.set_cons_zero, List.set_cons_succ]
              refine wpAnyH_ready (rs := [8]) (by kernel_rfl) (by simp) ?_
              refine AllReadyH.cons rfl (fun K hK => ?_) AllReadyH.nil
              go_simp
              go_at_call 15
              refine (SM.out _).mono ?_
              rintro e w8 ⟨rfl, hb8⟩
              go_wp2_with fail
              refine hK.out _ _ (svR.next hH lg lo hb8) (fun hH1 => ?_)
              clear hK K hH hb8
              refine take_at (i := 9) (v := .bool true) rfl rfl (by kernel_rfl) (by kernel_rfl) (by kernel_rfl) (fun _ _ _ h => h) (Or.inl ⟨by rfl, ?_⟩) hH1 ?_
              · intro w9 hSw; obtain ⟨s0, s1, s2, s3, s4, s5, s6, s7⟩ := hSw; go_simp
              simp only [List.setIfInBounds_toArray, List.set_cons_zero, List.set_cons_succ]
              refine take_at (i := 10) (v := .slice (some ⟨gO, 0, none⟩) la.length la.length) rfl rfl (by kernel_rfl) (by kernel_rfl) (by kernel_rfl) (fun _ _ _ h => h) (Or.inl ⟨by rfl, ?_⟩) hH1 ?_
              · intro w9 hSw; obtain ⟨s0, s1, s2, s3, s4, s5, s6, s7⟩ := hSw; go_simp
              simp only [List.setIfInBounds_toArray, List.set_cons_zero, List.set_cons_succ]
              refine take_at (i := 11) (v := .int .i64 (k : Int)) rfl rfl (by kernel_rfl) (by kernel_rfl) (by kernel_rfl) (fun _ _ _ h => h) (Or.inl ⟨by rfl, ?_⟩) hH1 ?_
              · intro w9 hSw; obtain ⟨s0, s1, s2, s3, s4, s5, s6, s7⟩ := hSw; go_simp
              simp only [List.setIfInBounds_toArray, List.set_cons_zero, List.set_cons_succ]
              refine take_at (i := 12) (v := .pointer (some ⟨gO, k, none⟩)) rfl rfl (by kernel_rfl) (by kernel_rfl) (by kernel_rfl) (fun _ _ _ h => h) (Or.inl ⟨by rfl, ?_⟩) hH1 ?_
              · intro w9 hSw; obtain ⟨s0, s1, s2, s3, s4, s5, s6, s7⟩ := hSw; go_simp
              simp only [List.setIfInBounds_toArray, List.set_cons_zero, List.set_cons_succ]
              refine take_at (i := 13) (v := .int .i64 (z : Int)) rfl rfl (by kernel_rfl) (by kernel_rfl) (by kernel_rfl) (fun _ _ _ h => h) (Or.inl ⟨by rfl, ?_⟩) hH1 ?_
              · intro w9 hSw; obtain ⟨s0, s1, s2, s3, s4, s5, s6, s7⟩ := hSw; go_simp
              simp only [List.setIfInBounds_toArray, List.set_cons_zero, List.set_cons_succ]
              refine take_at (i := 14) (v := .int .i64 (z : Int)) rfl rfl (by kernel_rfl) (by kernel_rfl) (by kernel_rfl) (fun _ _ _ h => h) (Or.inl ⟨by rfl, ?_⟩) hH1 ?_
              · intro w9 hSw; obtain ⟨s0, s1, s2, s3, s4, s5, s6, s7⟩ := hSw; go_simp
              simp only [List.setIfInBounds_toArray, List.set_cons_zero, List.set_cons_succ]
              refine take_at (i := 15) (v := .bool false) rfl rfl (by kernel_rfl) (by kernel_rfl) (by kernel_rfl) (fun _ _ _ h => h) (Or.inl ⟨by rfl, ?_⟩) hH1 ?_
              · intro w9 hSw; obtain ⟨s0, s1, s2, s3, s4, s5, s6, s7⟩ := hSw; go_simp
              simp only [List.setIfInBounds_toArray, List.set_cons_zero, List.set_cons_succ]
              refine take_at (i := 16) (v := .bool false) rfl rfl (by kernel_rfl) (by kernel_rfl) (by kernel_rfl) (fun _ _ _ h => h) (Or.inl ⟨by rfl, ?_⟩) hH1 ?_
              · intro w9 hSw; obtain ⟨s0, s1, s2, s3, s4, s5, s6, s7⟩ := hSw; go_simp
              simp only [List.setIfInBounds_toArray, List.set_cons_zero, List.set_cons_succ]
              refine wpAnyH_done (by kernel_rfl) ?_ _
              refine NoPanic.normal ?_
              go_wp2_with fail
              exact ⟨⟨k + 1, by go_num, hki, HNX.out _ hH1.1⟩, by simp [intOf]; omega⟩
            · have SM : Hid (∀ w1, Calls Tryd.prog 15 #[.agg #[.int .i64 y.ty, .int .i64 y.n, .string y.s], .agg #[.int .i64 x.ty, .int .i64 x.n, .string x.s]] w1 fun e w' => e = .returned (.bool false) ∧ Below w1.heap.size w1 w') := fun w1 => by
                have := hsm w1
                rw [show (ordV y x == 0) = false by rw [beq_eq_false_iff_ne]; exact ho] at this
                exact this
              clear hsm hey ho hbi hs5 ho5 hb5
              go_wp2_with fail
              refine wp_region_noPanic ?_
              refine wp_region_held_drew (S := fun w' : World => Below wr.heap.size wr w' ∧ w'.cell? ⟨g, off + k * 3, none⟩ = some (.int .i64 y.ty) ∧ w'.cell? ⟨g, off + k * 3 + 1, none⟩ = some (.int .i64 y.n) ∧ w'.cell? ⟨g, off + k * 3 + 2, none⟩ = some (.string y.s) ∧ w'.cell? ⟨g, off + i * 3, none⟩ = some (.int .i64 x.ty) ∧ w'.cell? ⟨g, off + i * 3 + 1, none⟩ = some (.int .i64 x.n) ∧ w'.cell? ⟨g, off + i * 3 + 2, none⟩ = some (.string x.s) ∧ w'.cell? ⟨gO, k, none⟩ = some (.int .i64 (z : Int))) (by kernel_rfl) (svR.drew T0 lg lo) (fun hH => ?_)
              clear T0
              refine take_at (i := 0) (v := .slice (some ⟨g, off, none⟩) la.length c) rfl rfl (by kernel_rfl) (by kernel_rfl) (by kernel_rfl) (fun _ _ _ h => h) (Or.inl ⟨by rfl, ?_⟩) hH ?_
              · intro w9 hSw; obtain ⟨s0, s1, s2, s3, s4, s5, s6, s7⟩ := hSw; go_simp
              simp only [List.setIfInBounds_toArray, List.set_cons_zero, List.set_cons_succ]
              refine take_at (i := 1) (v := .int .i64 (k : Int)) rfl rfl (by kernel_rfl) (by kernel_rfl) (by kernel_rfl) (fun _ _ _ h => h) (Or.inl ⟨by rfl, ?_⟩) hH ?_
              · intro w9 hSw; obtain ⟨s0, s1, s2, s3, s4, s5, s6, s7⟩ := hSw; go_simp
              simp only [List.setIfInBounds_toArray, List.set_cons_zero, List.set_cons_succ]
              refine take_at (i := 2) (v := .pointer (some ⟨g, off + k * 3, none⟩)) rfl rfl (by kernel_rfl) (by kernel_rfl) (by kernel_rfl) (fun _ _ _ h => h) (Or.inl ⟨by rfl, ?_⟩) hH ?_
              · intro w9 hSw; obtain ⟨s0, s1, s2, s3, s4, s5, s6, s7⟩ := hSw; go_simp
              simp only [List.setIfInBounds_toArray, List.set_cons_zero, List.set_cons_succ]
              refine take_at (i := 3) (v := .agg #[.int .i64 y.ty, .int .i64 y.n, .string y.s]) rfl rfl (by kernel_rfl) (by kernel_rfl) (by kernel_rfl) (fun _ _ _ h => h) (Or.inl ⟨by rfl, ?_⟩) hH ?_
              · intro w9 hSw; obtain ⟨s0, s1, s2, s3, s4, s5, s6, s7⟩ := hSw; go_simp
              simp only [List.setIfInBounds_toArray, List.set_cons_zero, List.set_cons_succ]
              refine take_at (i := 4) (v := .slice (some ⟨g, off, none⟩) la.length c) rfl rfl (by kernel_rfl) (by kernel_rfl) (by kernel_rfl) (fun _ _ _ h => h) (Or.inl ⟨by rfl, ?_⟩) hH ?_
              · intro w9 hSw; obtain ⟨s0, s1, s2, s3, s4, s5, s6, s7⟩ := hSw; go_simp
              simp only [List.setIfInBounds_toArray, List.set_cons_zero, List.set_cons_succ]
              refine take_at (i := 5) (v := .int .i64 (i : Int)) rfl rfl (by kernel_rfl) (by kernel_rfl) (by kernel_rfl) (fun _ _ _ h => h) (Or.inl ⟨by rfl, ?_⟩) hH ?_
              · intro w9 hSw; obtain ⟨s0, s1, s2, s3, s4, s5, s6, s7⟩ := hSw; go_simp
              simp only [List.setIfInBounds_toArray, List.set_cons_zero, List.set_cons_succ]
              refine take_at (i := 6) (v := .pointer (some ⟨g, off + i * 3, none⟩)) rfl rfl (by kernel_rfl) (by kernel_rfl) (by kernel_rfl) (fun _ _ _ h => h) (Or.inl ⟨by rfl, ?_⟩) hH ?_
              · intro w9 hSw; obtain ⟨s0, s1, s2, s3, s4, s5, s6, s7⟩ := hSw; go_simp
              simp only [List.setIfInBounds_toArray, List.set_cons_zero, List.set_cons_succ]
              refine take_at (i := 7) (v := .agg #[.int .i64 x.ty, .int .i64 x.n, .string x.s]) rfl rfl (by kernel_rfl) (by kernel_rfl) (by kernel_rfl) (fun _ _ _ h => h) (Or.inl ⟨by rfl, ?_⟩) hH ?_
              · intro w9 hSw; obtain ⟨s0, s1, s2, s3, s4, s5, s6, s7⟩ := hSw; go_simp
              simp only [List.setIfInBounds_toArray, List.set_cons_zero, List.set_cons_succ]
              refine wpAnyH_ready (rs := [8]) (by kernel_rfl) (by simp) ?_
              refine AllReadyH.cons rfl (fun K hK => ?_) AllReadyH.nil
              go_simp
              go_at_call 15
              refine (SM.out _).mono ?_
              rintro e w8 ⟨rfl, hb8⟩
              go_wp2_with fail
              refine hK.out _ _ (svR.next hH lg lo hb8) (fun hH1 => ?_)
              clear hK K hH hb8
              refine take_at (i := 9) (v := .bool false) rfl rfl (by kernel_rfl) (by kernel_rfl) (by kernel_rfl) (fun _ _ _ h => h) (Or.inl ⟨by rfl, ?_⟩) hH1 ?_
              · intro w9 hSw; obtain ⟨s0, s1, s2, s3, s4, s5, s6, s7⟩ := hSw; go_simp
              simp only [List.setIfInBounds_toArray, List.set_cons_zero, List.set_cons_succ]
              refine take_at (i := 10) (v := undef) rfl rfl (by kernel_rfl) (by kernel_rfl) (by kernel_rfl) (fun _ _ _ h => h) (Or.inr ⟨by rfl, rfl⟩) hH1 ?_
              simp only [List.setIfInBounds_toArray, List.set_cons_zero, List.set_cons_succ]
              refine take_at (i := 11) (v := undef) rfl rfl (by kernel_rfl) (by kernel_rfl) (by kernel_rfl) (fun _ _ _ h => h) (Or.inr ⟨by rfl, rfl⟩) hH1 ?_
              simp only [List.setIfInBounds_toArray, List.set_cons_zero, List.set_cons_succ]
              refine take_at (i := 12) (v := undef) rfl rfl (by kernel_rfl) (by kernel_rfl) (by kernel_rfl) (fun _ _ _ h => h) (Or.inr ⟨by rfl, rfl⟩) hH1 ?_
              simp only [List.setIfInBounds_toArray, List.set_cons_zero, List.set_cons_succ]
              refine take_at (i := 13) (v := undef) rfl rfl (by kernel_rfl) (by kernel_rfl) (by kernel_rfl) (fun _ _ _ h => h) (Or.inr ⟨by rfl, rfl⟩) hH1 ?_
              simp only [List.setIfInBounds_toArray, List.set_cons_zero, List.set_cons_succ]
              refine take_at (i := 14) (v := undef) rfl rfl (by kernel_rfl) (by kernel_rfl) (by kernel_rfl) (fun _ _ _ h => h) (Or.inr ⟨by rfl, rfl⟩) hH1 ?_
              simp only [List.setIfInBounds_toArray, List.set_cons_zero, List.set_cons_succ]
              refine take_at (i := 15) (v := undef) rfl rfl (by kernel_rfl) (by kernel_rfl) (by kernel_rfl) (fun _ _ _ h => h) (Or.inr ⟨by rfl, rfl⟩) hH1 ?_
              simp only [List.setIfInBounds_toArray, List.set_cons_zero, List.set_cons_succ]
              refine take_at (i := 16) (v := .bool false) rfl rfl (by kernel_rfl) (by kernel_rfl) (by kernel_rfl) (fun _ _ _ h => h) (Or.inl ⟨by rfl, ?_⟩) hH1 ?_
              · intro w9 hSw; obtain ⟨s0, s1, s2, s3, s4, s5, s6, s7⟩ := hSw; go_simp
              simp only [List.setIfInBounds_toArray, List.set_cons_zero, List.set_cons_succ]
              refine wpAnyH_done (by kernel_rfl) ?_ _
              refine NoPanic.normal ?_
              go_wp2_with fail
              exact ⟨⟨k + 1, by go_num, hki, HNX.out _ hH1.1⟩, by simp [intOf]; omega⟩
          · have hki2 : k = i := by omega
            have hs6 := mkH (hs5.out.below hbi.out hs5.out.lt)
            have ho6 := mkH (ho5.out.below hbi.out ho5.out.lt)
            have hb6 := mkH (hb5.out.trans (hbi.out.mono hb5.out.size))
            have x0 := (hb6.out.cell (p := ⟨g, off + i * 3, none⟩) hgw).trans HE.out.1
            have x1 := (hb6.out.cell (p := ⟨g, off + i * 3 + 1, none⟩) hgw).trans HE.out.2.1
            have x2 := (hb6.out.cell (p := ⟨g, off + i * 3 + 2, none⟩) hgw).trans HE.out.2.2
            have hnki : ¬ (k : Int) < (i : Int) := by omega
            clear hs5 ho5 hb5 hbi hki hki2
            by_cases ht0 : x.ty = 0
            · rw [ht0] at x0
              go_wp2_with fail
              exact ⟨⟨i + 1, by go_num, hlt, hs6, ho6, hb6⟩, by simp [intOf]; omega⟩
            · have hnul : nulV x = false := by unfold nulV; exact decide_eq_false ht0
              obtain ⟨WF, hWF⟩ : ∃ WF : Nat → Nat, WF = byN (sdV x) := ⟨_, rfl⟩
              have hmax : Hid (∀ k, k < n → WF k ≤ WF q ∧ (WF k = WF q → q ≤ k)) := fun k hk => by
                have hq : q = (bst (sdV x) (n - 1)).1 := by rw [HQE.out]; unfold amV amN; rw [hnul]; rfl
                have h1 := bst_max (sdV x) (n - 1) k (by omega)
                rw [bst_val, ← hq, ← hWF] at h1
                exact h1
              have WG : Hid (∀ k : Nat, k < n → ∀ w1, Tabs w1 → Calls Tryd.prog 8 #[.agg #[.int .i64 x.ty, .int .i64 x.n, .string x.s], .int .i64 (k : Int)] w1 fun e w' => e = .returned (.tuple #[.int .u64 (WF k : Int), .int .i64 0]) ∧ Below w1.heap.size w1 w') := fun k hk w1 h1 => by
                have := Weight_any x k (by have := hA.out.1.2; omega) w1 (FA.out x hmx) (SA.out x hmx) h1
                rw [if_pos (HV.out x hmx), HV.out x hmx, ← hWF] at this
                exact this
              have htb : (x.ty == 0) = false := by rw [beq_eq_false_iff_ne]; exact ht0
              clear hWF hnul
              go_wp2_with fail
              refine (WG.out q HQL.out _ (HT.out.below hb6.out)).mono ?_
              rintro e w7 ⟨rfl, hb7⟩
              have hs7 := mkH (hs6.out.below hb7 hs6.out.lt)
              have ho7 := mkH (ho6.out.below hb7 ho6.out.lt)
              have hbb := mkH (hb6.out.trans (hb7.mono hb6.out.size))
              clear hb7 hs6 ho6 hb6 x0 x1 x2 htb hnki
              go_wp2_with fail
              go_loopw [15] (fun sk wr => ∃ k : Nat, sk = .int .i64 k ∧ k ≤ n ∧ Hid (Below w7.heap.size w7 wr)) (fun sk _ => n - (intOf sk).toNat)
              case atStart => exact ⟨0, rfl, Nat.zero_le _, Below.refl _ _⟩
              case round =>
                obtain ⟨k, rfl, hki, hbi⟩ := hrel
                have hb8 := mkH (hbb.out.trans (hbi.out.mono hbb.out.size))
                rcases Nat.lt_or_ge k n with hki | hki
                · have x0 := (hb8.out.cell (p := ⟨g, off + i * 3, none⟩) hgw).trans HE.out.1
                  have x1 := (hb8.out.cell (p := ⟨g, off + i * 3 + 1, none⟩) hgw).trans HE.out.2.1
                  have x2 := (hb8.out.cell (p := ⟨g, off + i * 3 + 2, none⟩) hgw).trans HE.out.2.2
                  have WK := mkH (WG.out k hki)
                  obtain ⟨m1, m2⟩ := hmax.out k hki
                  have m1i : ¬ (WF q : Int) < (WF k : Int) := by omega
                  by_cases heq : WF k = WF q
                  · have m3 : ¬ (k : Int) < (q : Int) := by have := m2 heq; omega
                    have hei : (WF k : Int) = (WF q : Int) := by rw [heq]
                    clear m1 m2 WG hmax heq
                    go_wp2_with fail
                    refine (WK.out _ (HT.out.below hb8.out)).mono ?_
                    rintro e w8 ⟨rfl, hb9⟩
                    have hbn : Hid (Below w7.heap.size w7 w8) := hbi.out.trans (hb9.mono hbi.out.size)
                    clear hb9 hb8 x0 x1 x2 WK hbi
                    go_wp2_with fail
                    exact ⟨⟨k + 1, by go_num, hki, hbn⟩, by simp [intOf]; omega⟩
                  · have hei : ¬ (WF k : Int) = (WF q : Int) := by omega
                    clear m1 m2 WG hmax heq
                    go_wp2_with fail
                    refine (WK.out _ (HT.out.below hb8.out)).mono ?_
                    rintro e w8 ⟨rfl, hb9⟩
                    have hbn : Hid (Below w7.heap.size w7 w8) := hbi.out.trans (hb9.mono hbi.out.size)
                    clear hb9 hb8 x0 x1 x2 WK hbi
                    go_wp2_with fail
                    exact ⟨⟨k + 1, by go_num, hki, hbn⟩, by simp [intOf]; omega⟩
                · have hnk : ¬ (k : Int) < (n : Int) := by omega
                  have hs8 := mkH (hs7.out.below hbi.out hs7.out.lt)
                  have ho8 := mkH (ho7.out.below hbi.out ho7.out.lt)
                  clear hs7 ho7 hbi hbb hki WG hmax
                  go_wp2_with fail
                  exact ⟨⟨i + 1, by go_num, hlt, hs8, ho8, hb8⟩, by simp [intOf]; omega⟩
      · have hi2 : i = la.length := by omega
        have hs6 : Hid (inRow wr gS n fun _ => 0) := by
          have h := hrs.out
          rw [hi2, show lft n la la.length = fun _ => 0 by funext p; exact lft_end n la p] at h
          exact h
        clear hrs hro hi2
        go_wp2_with fail
        go_loopw [18] (fun sk wi => ∃ k : Nat, sk = .int .i64 k ∧ k ≤ n ∧ wi = wr) (fun sk _ => n - (intOf sk).toNat)
        case atStart => exact ⟨0, rfl, Nat.zero_le _, rfl⟩
        case round =>
          obtain ⟨k, rfl, hki, hwi⟩ := hrel
          subst hwi
          rcases Nat.lt_or_ge k n with hki | hki
          · obtain ⟨m0, _⟩ := hs6.out.cell hki
            have m0 : _ = some (Value.int .i64 0) := m0
            go_wp2_with fail
            exact ⟨⟨k + 1, by go_num, hki, trivial⟩, by simp [intOf]; omega⟩
          · have hnk : ¬ (k : Int) < (n : Int) := by omega
            clear hs6
            go_wp2_with fail
            go_ret
            exact ⟨rfl, hbr.out⟩
theorem RingApart_in (p : Option Addr) (c : Nat) (la : List Va) (a : Int) (w : World) (hp : rowIn w p la) (hl : la.length ≤ 9223372036854775807) (fa : ∀ v ∈ la, fit v.n) (sa : ∀ v ∈ la, v.s.size ≤ 9223372036854775807) (ha : (Lit.int .u8 a).wf = true) (hT : Tabs w) :
    Calls Tryd.prog 5 #[.slice p la.length c, .int .u8 a] w fun e w' => e = .returned (.bool true) ∧ Below w.heap.size w w' := by
  have h1 := bounds_u8 ha
  obtain ⟨f, rfl⟩ : ∃ f : Nat, a = (f : Int) := ⟨a.toNat, by omega⟩
  exact RingApart_any p c la f (by omega) w hp hl fa sa hT
end Go.Proofs.YtmhmcffejkpmjaaDoor
