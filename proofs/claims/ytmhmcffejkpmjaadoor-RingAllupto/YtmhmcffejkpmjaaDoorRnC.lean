/-
  A value that can't be (wantedOf); all values of a list as partitions look at them (wantedOfAll).
-/
import Derived.Test.YtmhmcffejkpmjaaDoorRnB
namespace Go.Proofs.YtmhmcffejkpmjaaDoor
open Go.RowKit Go.Shelf Go.Joins
set_option maxRecDepth 1000000

set_option maxHeartbeats 2000000 in
theorem wantedOf_bad (x : Va) (w : World) (hs : x.s.size ≤ 9223372036854775807) (hT : Tabs w) (h0 : ¬ x.chk = 0) :
    Calls Tryd.prog 17 #[.agg #[.int .i64 x.ty, .int .i64 x.n, .string x.s]] w fun e w' => e = .returned (.tuple #[.agg #[.bool false, .int .u64 0], .int .i64 x.chk]) ∧ Below w.heap.size w w' := by
  have VA : Hid (∀ w1, Tabs w1 → Calls Tryd.prog 27 #[.agg #[.int .i64 x.ty, .int .i64 x.n, .string x.s]] w1 fun e w' => e = .returned (.tuple #[.slice none 0 0, .int .i64 x.chk]) ∧ Below w1.heap.size w1 w') := fun w1 h1 => Value_bad x w1 hs h1 h0
  have hF : Hid (Tabs ((w.alloc (.cells #[.int .i64 x.ty, .int .i64 x.n, .string x.s] 23)).alloc (.cells #[.bool false, .int .u64 0] 46)) ∧ Below w.heap.size w ((w.alloc (.cells #[.int .i64 x.ty, .int .i64 x.n, .string x.s] 23)).alloc (.cells #[.bool false, .int .u64 0] 46)) ∧ ((w.alloc (.cells #[.int .i64 x.ty, .int .i64 x.n, .string x.s] 23)).alloc (.cells #[.bool false, .int .u64 0] 46)).heap.size = w.heap.size + 2 ∧ ((w.alloc (.cells #[.int .i64 x.ty, .int .i64 x.n, .string x.s] 23)).alloc (.cells #[.bool false, .int .u64 0] 46)).heap[w.heap.size + 1]? = some (.cells #[.bool false, .int .u64 0] 46 (0, 0))) := by
    have b0 : Below w.heap.size w ((w.alloc (.cells #[.int .i64 x.ty, .int .i64 x.n, .string x.s] 23)).alloc (.cells #[.bool false, .int .u64 0] 46)) := ((Below.refl _ w).alloc (Nat.le_refl _) _).alloc (by simp) _
    refine ⟨hT.below b0, b0, by simp, ?_⟩
    have := heap_alloc_new (w.alloc (.cells #[.int .i64 x.ty, .int .i64 x.n, .string x.s] 23)) (.cells #[.bool false, .int .u64 0] 46)
    simpa using this
  have h1 : (x.chk != 0) = true := by rw [bne_iff_ne]; exact h0
  generalize x.chk = E at *
  clear hs hT h0
  go_enter Tryd.func17, Tryd.ntmps17
  go_wp2_with fail
  obtain ⟨w0, hw0⟩ : ∃ w0, w0 = ((w.alloc (.cells #[.int .i64 x.ty, .int .i64 x.n, .string x.s] 23)).alloc (.cells #[.bool false, .int .u64 0] 46)) := ⟨_, rfl⟩
  rw [← hw0] at hF ⊢
  clear hw0
  refine (VA.out _ hF.out.1).mono ?_
  rintro e w1 ⟨rfl, hb1⟩
  have y1 : w1.heap[w.heap.size + 1]? = some (.cells #[.bool false, .int .u64 0] 46 (0, 0)) := (hb1.block _ (by rw [hF.out.2.2.1]; omega)).trans hF.out.2.2.2
  have b1 : Hid (Below w.heap.size w w1) := hF.out.2.1.trans (hb1.mono hF.out.2.1.size)
  have c0 : w1.cell? ⟨w.heap.size + 1, 0, none⟩ = some (.bool false) := (cell_of_block y1 0).trans rfl
  have c1 : w1.cell? ⟨w.heap.size + 1, 1, none⟩ = some (.int .u64 0) := (cell_of_block y1 1).trans rfl
  have f0 := unfrozen_of_block y1 0
  have f1 := unfrozen_of_block y1 1
  have hZ : Hid (w.heap.size ≤ w.heap.size + 1) := Nat.le_succ _
  clear hb1 hF VA y1
  go_wp2_with fail
  go_simp
  refine bodyPost_ret (v := .tuple #[.agg #[.bool false, .int .u64 0], .int .i64 E]) (by simp [results, Tryd.results17, go_sem, c0, c1]) rfl ⟨rfl, below_set (below_set b1.out ⟨w.heap.size + 1, 0, none⟩ _ hZ.out) ⟨w.heap.size + 1, 1, none⟩ _ hZ.out⟩

/-- what is wrong with a list of values -/
def wE (l : List Va) : Int := if 65536 < l.length then 2 else errs l
/-- a block with what partitions look at of some values, in room for n -/
def wnRow (w : World) (g n : Nat) (l : List Va) : Prop := ∃ cs : Array Value, w.heap[g]? = some (.cells cs 46 (0, 0)) ∧ cs.size = n * 2 ∧ ∀ (i : Nat) (x : Va), l[i]? = some x → cs[i * 2]? = some (.bool (nulV x)) ∧ cs[i * 2 + 1]? = some (.int .u64 (sdV x : Int))
theorem wnRow.below {w w' : World} {base g n : Nat} {l : List Va} (h : wnRow w g n l) (hb : Below base w w') (hg : g < base) : wnRow w' g n l := by
  obtain ⟨cs, h1, h2⟩ := h
  exact ⟨cs, (hb.block g hg).trans h1, h2⟩
theorem wnRow.lt {w : World} {g n : Nat} {l : List Va} (h : wnRow w g n l) : g < w.heap.size := by
  obtain ⟨cs, h1, _⟩ := h; exact lt_of_heap h1
theorem wnRow.set {w : World} {g n : Nat} {l : List Va} {x : Va} {v0 v1 : Value} (h : wnRow w g n l) (hl : l.length < n) (e0 : v0 = .bool (nulV x)) (e1 : v1 = .int .u64 (sdV x : Int)) :
    wnRow ((w.setCell ⟨g, l.length * 2, none⟩ v0).setCell ⟨g, l.length * 2 + 1, none⟩ v1) g n (l ++ [x]) := by
  subst e0 e1
  obtain ⟨cs, h1, h2, h3⟩ := h
  refine ⟨_, block_setCell (block_setCell h1 _) _, by simpa using h2, fun i y hy => ?_⟩
  rcases Nat.lt_or_ge i l.length with hi | hi
  · rw [List.getElem?_append_left hi] at hy
    obtain ⟨a, b⟩ := h3 i y hy
    refine ⟨?_, ?_⟩
    · rw [Array.getElem?_setIfInBounds, if_neg (by omega), Array.getElem?_setIfInBounds, if_neg (by omega)]; exact a
    · rw [Array.getElem?_setIfInBounds, if_neg (by omega), Array.getElem?_setIfInBounds, if_neg (by omega)]; exact b
  · have hi2 : i = l.length := by
      have := (List.getElem?_eq_some_iff.1 hy).1
      simp at this; omega
    subst hi2
    obtain rfl : x = y := by simpa using hy
    refine ⟨?_, ?_⟩
    · rw [Array.getElem?_setIfInBounds, if_neg (by omega), Array.getElem?_setIfInBounds, if_pos rfl, if_pos (by omega)]
    · rw [Array.getElem?_setIfInBounds, if_pos rfl, if_pos (by simp; omega)]
theorem wnRow.at_ {w : World} {g n : Nat} {l : List Va} (h : wnRow w g n l) {i : Nat} {x : Va} (hx : l[i]? = some x) : w.cell? ⟨g, i * 2, none⟩ = some (.bool (nulV x)) ∧ w.cell? ⟨g, i * 2 + 1, none⟩ = some (.int .u64 (sdV x : Int)) := by
  obtain ⟨cs, h1, _, h3⟩ := h
  obtain ⟨a, b⟩ := h3 i x hx
  exact ⟨(cell_of_block h1 _).trans a, (cell_of_block h1 _).trans b⟩
theorem wnRow.room {w : World} {g n : Nat} {l : List Va} (h : wnRow w g n l) {i : Nat} (hi : i < n) : (∃ u, w.cell? ⟨g, i * 2, none⟩ = some u) ∧ (∃ u, w.cell? ⟨g, i * 2 + 1, none⟩ = some u) ∧ w.frozen? ⟨g, i * 2, none⟩ = false ∧ w.frozen? ⟨g, i * 2 + 1, none⟩ = false := by
  obtain ⟨cs, h1, h2, _⟩ := h
  exact ⟨⟨_, (cell_of_block h1 _).trans (Array.getElem?_eq_getElem (by omega))⟩, ⟨_, (cell_of_block h1 _).trans (Array.getElem?_eq_getElem (by omega))⟩, unfrozen_of_block h1 _, unfrozen_of_block h1 _⟩
theorem R_wn : Rz 57 46 (.agg #[.bool false, .int .u64 0]) 2 16 := ⟨by kernel_rfl, by kernel_rfl, rfl, by decide, by decide⟩
/-- a new row of zero elements -/
theorem Rz.makeN {t e : TypeId} {z : Value} {sz by' : Nat} (R : Rz t e z sz by') (w : World) (k : Nat) (hk : k ≤ 1000000000) : (Instr.makeSlice t (.int .i64 (k : Int)) (.int .i64 (k : Int))).run Tryd.prog w = .ok (.slice (some ⟨w.heap.size, 0, none⟩) k k) (w.alloc (.cells (madeCells z.cells (k * sz)) e)) := by
  obtain ⟨i, hi, hz, hs, hb⟩ := info_parts R.inf
  have hsm := R.sm
  have hbb : (i.bytes : Int) * (k : Int) ≤ 281474976710656 := by
    have : i.bytes * k ≤ 64 * 1000000000 := Nat.mul_le_mul (by omega) hk
    have : ((i.bytes * k : Nat) : Int) ≤ 281474976710656 := by omega
    rwa [Int.natCast_mul] at this
  have hr := run_make (P := Tryd.prog) w t e i z R.sl hi hz .i64 .i64 (k : Int) (k : Int) (by omega) (Int.le_refl _) hbb (by omega)
  simp only [Int.toNat_natCast, hs] at hr
  exact hr
/-- how wantedOfAll answers -/
def WaQ (w : World) (la : List Va) (e : Ending) (w' : World) : Prop := Below w.heap.size w w' ∧ ((¬ wE la = 0 ∧ e = .returned (.tuple #[.slice none 0 0, .int .i64 (wE la)])) ∨
  (wE la = 0 ∧ ∃ g, e = .returned (.tuple #[.slice (some ⟨g, 0, none⟩) la.length la.length, .int .i64 0]) ∧ w.heap.size ≤ g ∧ wnRow w' g la.length la))

set_option maxHeartbeats 4000000 in
theorem wantedOfAll_any (p : Option Addr) (c : Nat) (la : List Va) (w : World) (hp : rowIn w p la) (hl : la.length ≤ 9223372036854775807) (fa : ∀ v ∈ la, fit v.n) (sa : ∀ v ∈ la, v.s.size ≤ 9223372036854775807) (hT : Tabs w) :
    Calls Tryd.prog 24 #[.slice p la.length c] w fun e w' => WaQ w la e w' := by
  by_cases h16 : 65536 < la.length
  · have hQ : Hid (∀ e, e = .returned (.tuple #[.slice none 0 0, .int .i64 2]) → WaQ w la e w) := fun e he => by
      have h2 : wE la = 2 := if_pos h16
      exact ⟨Below.refl _ _, Or.inl ⟨by rw [h2]; decide, by rw [h2]; exact he⟩⟩
    have h16i : (65536 : Int) < (la.length : Int) := by omega
    clear hp fa sa hT
    go_enter Tryd.func24, Tryd.ntmps24
    go_wp2_with fail
    refine bodyPost_ret (v := .tuple #[.slice none 0 0, .int .i64 2]) (by simp [results, Tryd.results24, go_sem]) rfl (hQ.out _ rfl)
  · obtain ⟨E, hE⟩ : ∃ E, E = errs la := ⟨_, rfl⟩
    have HE : Hid (E = errs la) := hE
    have HW : Hid (wE la = E) := (if_neg h16).trans hE.symm
    clear hE
    have h16i : (la.length : Int) ≤ 65536 := by omega
    have MK := R_wn.makeN w la.length (by omega)
    have hM : Hid (Below w.heap.size w (w.alloc (.cells (madeCells #[.bool false, .int .u64 0] (la.length * 2)) 46)) ∧ wnRow (w.alloc (.cells (madeCells #[.bool false, .int .u64 0] (la.length * 2)) 46)) w.heap.size la.length [] ∧ (w.alloc (.cells (madeCells #[.bool false, .int .u64 0] (la.length * 2)) 46)).heap.size = w.heap.size + 1) := ⟨(Below.refl _ _).alloc (Nat.le_refl _) _, ⟨_, heap_alloc_new _ _, size_madeCells _ _, fun i x hx => by simp at hx⟩, by simp⟩
    go_enter Tryd.func24, Tryd.ntmps24
    go_wp2_with (at_make; refine wp_make 57 rfl (.tmp 13) (.tmp 13) rfl rfl rfl MK ?_)
    obtain ⟨w1, hw1⟩ : ∃ w1, w1 = w.alloc (.cells (madeCells #[.bool false, .int .u64 0] (la.length * 2)) 46) := ⟨_, rfl⟩
    rw [← hw1] at hM ⊢
    clear hw1 MK
    have hT1 := hT.below hM.out.1
    have hp1 := hp.below hM.out.1
    go_loopw [17] (fun si wr => ∃ k : Nat, si = .int .i64 k ∧ k ≤ la.length ∧ Hid (E = errs (la.drop k)) ∧ Hid (wnRow wr w.heap.size la.length (la.take k)) ∧ Hid (Below w.heap.size w wr)) (fun si _ => la.length - (intOf si).toNat)
    case atStart => exact ⟨0, rfl, Nat.zero_le _, HE, hM.out.2.1, hM.out.1⟩
    case round =>
      obtain ⟨k, rfl, hk, hd, hrw, hbr⟩ := hrel
      clear HE hM
      by_cases hlt : k < la.length
      · obtain ⟨x, hxk⟩ : ∃ x, la[k]? = some x := ⟨la[k], List.getElem?_eq_getElem hlt⟩
        have hfx := fa x (List.mem_of_getElem? hxk)
        have hsx := sa x (List.mem_of_getElem? hxk)
        rcases hp with rfl | ⟨g, off, rfl, hgw, hcs⟩
        · simp at hxk
        obtain ⟨c1, c2, c3⟩ := hcs k x hxk
        have d1 := (hbr.out.cell (p := ⟨g, off + k * 3, none⟩) hgw).trans c1
        have d2 := (hbr.out.cell (p := ⟨g, off + k * 3 + 1, none⟩) hgw).trans c2
        have d3 := (hbr.out.cell (p := ⟨g, off + k * 3 + 2, none⟩) hgw).trans c3
        clear c1 c2 c3 hcs
        rw [drop_at hxk] at hd
        have hT2 : Hid (∀ o, Tabs (wr.alloc o)) := fun o => (hT.below hbr.out).below ((Below.refl _ _).alloc (Nat.le_refl _) o)
        have hB2 : Hid (∀ o, Below wr.heap.size wr (wr.alloc o)) := fun o => (Below.refl _ _).alloc (Nat.le_refl _) o
        by_cases h0 : x.chk = 0
        · have hd2 : Hid (E = errs (la.drop (k + 1))) := hd.out.trans (errs_pass h0)
          have WO : Hid (∀ w1, Tabs w1 → Calls Tryd.prog 17 #[.agg #[.int .i64 x.ty, .int .i64 x.n, .string x.s]] w1 fun e w' => e = .returned (.tuple #[wnV x, .int .i64 0]) ∧ Below w1.heap.size w1 w') := fun w1 h1 => wantedOf_ok x w1 hfx hsx h1 h0
          rw [show wnV x = .agg #[.bool (nulV x), .int .u64 (sdV x : Int)] from rfl] at WO
          clear hd h0 hfx hsx fa sa hT
          go_wp2_with fail
          refine (WO.out _ (hT2.out _)).mono ?_
          rintro e w2 ⟨rfl, hb2⟩
          have hb3 : Hid (Below wr.heap.size wr w2) := (hB2.out _).trans (hb2.mono (hB2.out _).size)
          have hr2 : Hid (wnRow w2 w.heap.size la.length (la.take k)) := hrw.out.below hb3.out hrw.out.lt
          have hlt2 : w.heap.size < w2.heap.size := hr2.out.lt
          obtain ⟨⟨v0, m0⟩, ⟨v1, m1⟩, m2, m3⟩ := hr2.out.room hlt
          have hbw : Hid (Below w.heap.size w w2) := hbr.out.trans (hb3.out.mono hbr.out.size)
          clear hb2 hb3 hrw hB2 hT2 WO hbr d1 d2 d3 hT1 hp1
          go_wp2_with fail
          have hlk : (la.take k).length = k := by rw [List.length_take]; omega
          have hs := hr2.out.set (x := x) (v0 := .bool (nulV x)) (v1 := .int .u64 (sdV x : Int)) (by rw [hlk]; exact hlt) rfl rfl
          rw [hlk, show la.take k ++ [x] = la.take (k + 1) by rw [List.take_add_one, hxk]; rfl] at hs
          have hbs := below_set (below_set hbw.out ⟨w.heap.size, k * 2, none⟩ (.bool (nulV x)) (Nat.le_refl _)) ⟨w.heap.size, k * 2 + 1, none⟩ (.int .u64 (sdV x : Int)) (Nat.le_refl _)
          exact ⟨⟨k + 1, by go_num, hlt, hd2, hs.below ((Below.refl _ _).alloc (Nat.le_refl _) _) hs.lt, hbs.alloc hbs.size _⟩, by simp [intOf]; omega⟩
        · have hd2 : Hid (wE la = x.chk) := HW.out.trans (hd.out.trans (errs_stop h0))
          have h1 : (x.chk != 0) = true := by rw [bne_iff_ne]; exact h0
          have WO : Hid (∀ w1, Tabs w1 → Calls Tryd.prog 17 #[.agg #[.int .i64 x.ty, .int .i64 x.n, .string x.s]] w1 fun e w' => e = .returned (.tuple #[.agg #[.bool false, .int .u64 0], .int .i64 x.chk]) ∧ Below w1.heap.size w1 w') := fun w1 h1 => wantedOf_bad x w1 hsx h1 h0
          have hN0 : Hid (¬ x.chk = 0) := h0
          generalize x.chk = C at *
          clear hd h0 hfx hsx fa sa hT
          go_wp2_with fail
          refine (WO.out _ (hT2.out _)).mono ?_
          rintro e w2 ⟨rfl, hb2⟩
          have hb3 : Hid (Below wr.heap.size wr w2) := (hB2.out _).trans (hb2.mono (hB2.out _).size)
          have hbw : Hid (Below w.heap.size w w2) := hbr.out.trans (hb3.out.mono hbr.out.size)
          clear hb2 hb3 hrw hB2 hT2 WO hbr d1 d2 d3 hT1 hp1
          go_wp2_with fail
          refine bodyPost_ret (v := .tuple #[.slice none 0 0, .int .i64 C]) (by simp [results, Tryd.results24, go_sem]) rfl ?_
          exact ⟨hbw.out.alloc hbw.out.size _, Or.inl ⟨by rw [hd2.out]; exact hN0.out, by rw [hd2.out]⟩⟩
      · have hk2 : k = la.length := by omega
        have hw0 : Hid (wE la = 0) := by
          have := HW.out.trans hd.out
          rw [hk2, List.drop_length] at this
          exact this
        have hr3 : Hid (wnRow wr w.heap.size la.length la) := by
          have := hrw.out
          rw [hk2, List.take_length] at this
          exact this
        clear hd hrw hT1 hp1 hp fa sa hT hk2
        go_wp2_with fail
        refine bodyPost_ret (v := .tuple #[.slice (some ⟨w.heap.size, 0, none⟩) la.length la.length, .int .i64 0]) (by simp [results, Tryd.results24, go_sem]) rfl ?_
        exact ⟨hbr.out, Or.inr ⟨hw0.out, _, rfl, Nat.le_refl _, hr3.out⟩⟩
end Go.Proofs.YtmhmcffejkpmjaaDoor
