/-
  Spread: how many of some values belong to each partition.
-/
import Derived.Test.YtmhmcffejkpmjaaDoorRnD
namespace Go.Proofs.YtmhmcffejkpmjaaDoor
open Go.RowKit Go.Shelf Go.Joins
set_option maxRecDepth 1000000

/-- how many of them belong to a partition -/
def cnt (n : Nat) (l : List Va) (p : Nat) : Nat := l.countP fun x => amV n x == p
theorem cnt_next (n : Nat) (l : List Va) (x : Va) (p : Nat) : cnt n (l ++ [x]) p = cnt n l p + (if amV n x = p then 1 else 0) := by
  simp [cnt, List.countP_append, List.countP_cons]
theorem cnt_le (n : Nat) (l : List Va) (p : Nat) : cnt n l p ≤ l.length := List.countP_le_length
/-- a block of numbers -/
def inRow (w : World) (g n : Nat) (F : Nat → Nat) : Prop := ∃ cs : Array Value, w.heap[g]? = some (.cells cs 3 (0, 0)) ∧ cs.size = n ∧ ∀ p, p < n → cs[p]? = some (.int .i64 (F p : Int))
theorem inRow.below {w w' : World} {base g n : Nat} {F : Nat → Nat} (h : inRow w g n F) (hb : Below base w w') (hg : g < base) : inRow w' g n F := by
  obtain ⟨cs, h1, h2⟩ := h
  exact ⟨cs, (hb.block g hg).trans h1, h2⟩
theorem inRow.lt {w : World} {g n : Nat} {F : Nat → Nat} (h : inRow w g n F) : g < w.heap.size := by
  obtain ⟨cs, h1, _⟩ := h; exact lt_of_heap h1
theorem inRow.cell {w : World} {g n : Nat} {F : Nat → Nat} (h : inRow w g n F) {p : Nat} (hp : p < n) : w.cell? ⟨g, p, none⟩ = some (.int .i64 (F p : Int)) ∧ w.frozen? ⟨g, p, none⟩ = false := by
  obtain ⟨cs, h1, h2, h3⟩ := h
  exact ⟨(cell_of_block h1 _).trans (h3 p hp), unfrozen_of_block h1 _⟩
theorem inRow.set {w : World} {g n : Nat} {F G : Nat → Nat} {q : Nat} {v : Value} (h : inRow w g n F) (hq : q < n) (hv : v = .int .i64 (G q : Int)) (hG : ∀ p, p ≠ q → G p = F p) : inRow (w.setCell ⟨g, q, none⟩ v) g n G := by
  subst hv
  obtain ⟨cs, h1, h2, h3⟩ := h
  refine ⟨_, block_setCell h1 _, by simpa using h2, fun p hp => ?_⟩
  rw [Array.getElem?_setIfInBounds]
  by_cases hpq : q = p
  · subst hpq
    rw [if_pos rfl, if_pos (by omega)]
  · rw [if_neg hpq, h3 p hp, hG p (fun e => hpq e.symm)]
theorem R_int : Rz 31 3 (.int .i64 0) 1 8 := ⟨by kernel_rfl, by kernel_rfl, rfl, by decide, by decide⟩
theorem made_get (v : Value) : ∀ (n p : Nat), p < n → (madeCells #[v] n)[p]? = some v := by
  intro n p h
  have hs := size_madeCells #[v] n
  rw [Array.getElem?_eq_getElem (by omega)]
  simp [madeCells, Nat.mod_one]
/-- how Spread answers -/
def SpQ (w : World) (la : List Va) (n : Nat) (e : Ending) (w' : World) : Prop := Below w.heap.size w w' ∧ ((¬ wE la = 0 ∧ e = .returned (.tuple #[.slice none 0 0, .int .i64 (wE la)])) ∨
  (wE la = 0 ∧ ∃ g, e = .returned (.tuple #[.slice (some ⟨g, 0, none⟩) n n, .int .i64 0]) ∧ w.heap.size ≤ g ∧ inRow w' g n (cnt n la)))
theorem wE_len {l : List Va} (h : wE l = 0) : l.length ≤ 65536 := by
  unfold wE at h; split at h
  · cases h
  · omega

set_option maxHeartbeats 4000000 in
theorem Spread_any (p : Option Addr) (c : Nat) (la : List Va) (n : Nat) (hn : 0 < n ∧ n ≤ 64) (w : World) (hp : rowIn w p la) (hl : la.length ≤ 9223372036854775807) (fa : ∀ v ∈ la, fit v.n) (sa : ∀ v ∈ la, v.s.size ≤ 9223372036854775807) (hT : Tabs w) :
    Calls Tryd.prog 10 #[.slice p la.length c, .int .i64 (n : Int)] w fun e w' => SpQ w la n e w' := by
  have CB : Hid (∀ w1, Calls Tryd.prog 16 #[.int .i64 (n : Int)] w1 fun e w' => e = .returned (.bool true) ∧ w' = w1) := fun w1 => canBe_yes n hn w1
  have WA := mkH (wantedOfAll_any p c la w hp hl fa sa hT)
  have AM : Hid (∀ (x : Va) (w1 : World), Calls Tryd.prog 18 #[.agg #[.bool (nulV x), .int .u64 (sdV x : Int)], .int .i64 (n : Int)] w1 fun e w' => e = .returned (.int .i64 (amV n x : Int)) ∧ Below w1.heap.size w1 w') := fun x w1 => among_any _ _ (sdV_lt x) n hn w1
  have MK : Hid (∀ w1 : World, (Instr.makeSlice 31 (.int .i64 (n : Int)) (.int .i64 (n : Int))).run Tryd.prog w1 = .ok (.slice (some ⟨w1.heap.size, 0, none⟩) n n) (w1.alloc (.cells (madeCells #[.int .i64 0] n) 3))) := fun w1 => by
    have := R_int.makeN w1 n (by omega)
    rw [Nat.mul_one] at this
    exact this
  obtain ⟨hn0, hn1⟩ := hn
  clear hp hl fa sa hT
  go_enter Tryd.func10, Tryd.ntmps10
  go_wp2_with fail
  refine (CB.out _).mono ?_
  rintro e w' ⟨rfl, rfl⟩
  clear CB
  go_wp2_with fail
  refine WA.out.mono ?_
  rintro e w1 ⟨hb, hor⟩
  clear WA
  rcases hor with ⟨he, rfl⟩ | ⟨he, g, rfl, hg, hr⟩
  · have h1 : (wE la != 0) = true := by rw [bne_iff_ne]; exact he
    have HB := mkH hb
    have HE := mkH he
    clear hb he AM MK
    generalize hC : wE la = C at *
    go_wp2_with fail
    refine bodyPost_ret (v := .tuple #[.slice none 0 0, .int .i64 C]) (by simp [results, Tryd.results10, go_sem]) rfl ⟨HB.out, Or.inl ⟨by rw [hC]; exact HE.out, by rw [hC]⟩⟩
  · have HE := mkH he
    have HB := mkH hb
    have HG := mkH hg
    have HR := mkH hr
    have hll := mkH (wE_len he)
    have hli : (la.length : Int) ≤ 65536 := by have := hll.out; omega
    clear hb he hg hr
    go_wp2_with (at_make; refine wp_make 31 rfl (.tmp 22) (.tmp 22) rfl rfl rfl (MK.out _) ?_)
    clear MK
    have hB2 := mkH ((Below.refl w1.heap.size w1).alloc (Nat.le_refl _) (.cells (madeCells #[.int .i64 0] n) 3))
    have hR2 : Hid (inRow (w1.alloc (.cells (madeCells #[.int .i64 0] n) 3)) w1.heap.size n (cnt n [])) := ⟨_, heap_alloc_new _ _, size_madeCells _ _, fun p hp => by rw [made_get _ _ _ hp]; simp [cnt]⟩
    generalize w1.alloc (.cells (madeCells #[.int .i64 0] n) 3) = w2 at *
    go_loopw [26] (fun si wr => ∃ k : Nat, si = .int .i64 k ∧ k ≤ la.length ∧ Hid (inRow wr w1.heap.size n (cnt n (la.take k))) ∧ Hid (Below w1.heap.size w1 wr)) (fun si _ => la.length - (intOf si).toNat)
    case atStart => exact ⟨0, rfl, Nat.zero_le _, hR2, hB2⟩
    case round =>
      obtain ⟨k, rfl, hk, hrw, hbr⟩ := hrel
      clear hR2 hB2
      by_cases hlt : k < la.length
      · obtain ⟨x, hxk⟩ : ∃ x, la[k]? = some x := ⟨la[k], List.getElem?_eq_getElem hlt⟩
        obtain ⟨d1, d2⟩ := (HR.out.below hbr.out HR.out.lt).at_ hxk
        have AX := mkH (AM.out x)
        have hq : amV n x < n := amV_lt x hn0
        have hnx := mkH (cnt_next n (la.take k) x)
        have hcl := mkH (cnt_le n (la.take k) (amV n x))
        rw [show la.take k ++ [x] = la.take (k + 1) by rw [List.take_add_one, hxk]; rfl] at hnx
        have hB2 : Hid (∀ o, Below w1.heap.size w1 (wr.alloc o) ∧ Below wr.heap.size wr (wr.alloc o)) := fun o => ⟨hbr.out.alloc hbr.out.size o, (Below.refl _ _).alloc (Nat.le_refl _) o⟩
        have hX1 : Hid ((wr.alloc (.cells #[.bool (nulV x), .int .u64 (sdV x : Int)] 46)).cell? ⟨wr.heap.size, 0, none⟩ = some (.bool (nulV x)) ∧ (wr.alloc (.cells #[.bool (nulV x), .int .u64 (sdV x : Int)] 46)).cell? ⟨wr.heap.size, 1, none⟩ = some (.int .u64 (sdV x : Int))) := by
          show _ ∧ _
          go_simp
        generalize hQq : amV n x = q at *
        generalize nulV x = NU at *
        generalize sdV x = SD at *
        clear AM
        go_wp2_with fail
        refine (AX.out _).mono ?_
        rintro e w3 ⟨rfl, hb3⟩
        have hb4 := mkH ((hB2.out _).2.trans (hb3.mono (hB2.out _).2.size))
        have hr3 := mkH (hrw.out.below hb4.out hrw.out.lt)
        obtain ⟨m0, m1⟩ := hr3.out.cell hq
        have hb5 := mkH (hbr.out.trans (hb4.out.mono hbr.out.size))
        have hlk : (la.take k).length = k := by rw [List.length_take]; omega
        have hc5 : cnt n (la.take k) q ≤ 65536 := Nat.le_trans hcl.out (by rw [hlk]; have := hll.out; omega)
        have hv : Hid ((cnt n (la.take k) q : Int) + 1 = (cnt n (la.take (k + 1)) q : Int)) := by
          show _ = _
          rw [hnx.out q, if_pos rfl]; simp
        have hG : Hid (∀ p, p ≠ q → cnt n (la.take (k + 1)) p = cnt n (la.take k) p) := fun p hp => by
          rw [hnx.out p, if_neg (fun e => hp e.symm)]; rfl
        clear hb3 hb4 hB2 hrw hbr hX1 d1 d2 AX hnx hcl hlk
        generalize cnt n (la.take k) q = CQ at *
        go_wp2_with fail
        have hs := hr3.out.set (q := q) (v := .int .i64 ((CQ : Int) + 1)) hq (congrArg (Value.int .i64) hv.out) hG.out
        have hbs := below_set hb5.out ⟨w1.heap.size, q, none⟩ (.int .i64 ((CQ : Int) + 1)) (Nat.le_refl _)
        exact ⟨⟨k + 1, by go_num, hlt, hs, hbs⟩, by simp [intOf]; omega⟩
      · have hk2 : k = la.length := by omega
        have hr3 : Hid (inRow wr w1.heap.size n (cnt n la)) := by
          have := hrw.out
          rw [hk2, List.take_length] at this
          exact this
        have hbx := mkH (HB.out.trans (hbr.out.mono HB.out.size))
        have hgx := mkH HB.out.size
        clear hrw AM hk2 hbr HR HG hll
        go_wp2_with fail
        refine bodyPost_ret (v := .tuple #[.slice (some ⟨w1.heap.size, 0, none⟩) n n, .int .i64 0]) (by simp [results, Tryd.results10, go_sem]) rfl ?_
        exact ⟨hbx.out, Or.inr ⟨HE.out, _, rfl, hgx.out, hr3.out⟩⟩
end Go.Proofs.YtmhmcffejkpmjaaDoor
