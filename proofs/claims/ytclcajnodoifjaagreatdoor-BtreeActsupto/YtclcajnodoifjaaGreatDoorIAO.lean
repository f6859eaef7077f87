/-
 The walks of slices.IndexFunc, ContainsFunc at a row of values with isNull.
-/
import Derived.Test.YtclcajnodoifjaaGreatDoorIAN
import Derived.Test.YtclcajnodoifjaaGreatDoorIAF
namespace Go.Proofs.YtclcajnodoifjaaGreatDoor
open Go.RowKit Go.Shelf
set_option maxRecDepth 100000

/-- a place, or none: whether there is one -/
def IxQ (b : Bool) (e : Ending) : Prop := ∃ r : Int, e = .returned (.int .i64 r) ∧ decide (0 ≤ r) = b
theorem any_hit {α : Type} {p : α → Bool} {l : List α} {k : Nat} {x : α} (h : l[k]? = some x) (hp : p x = true) : l.any p = true := List.any_eq_true.2 ⟨x, List.mem_of_getElem? h, hp⟩
theorem any_next {α : Type} {p : α → Bool} {l : List α} {k : Nat} {x : α} (h : l[k]? = some x) (hp : p x = false) (h0 : (l.take k).any p = false) : (l.take (k + 1)).any p = false := by
 rw [List.take_add_one, h, List.any_append, h0]; simp [hp]
def isN (v : Va) : Bool := v.ty == 0
set_option maxHeartbeats 2000000 in
theorem isNull_any (v : Va) (w : World) :
  Calls Tryz.prog 47 #[.agg #[.int .i64 v.ty, .int .i64 v.n, .string v.s]] w fun e w' => e = .returned (.bool (isN v)) ∧ Below w.heap.size w w' := by
 have HB := mkHid ((Below.refl _ w).alloc (Nat.le_refl _) (.cells #[.int .i64 v.ty, .int .i64 v.n, .string v.s] 40))
 go_enter Tryz.func47, Tryz.ntmps47
 go_wp2_with fail
 go_ret
 exact ⟨rfl, HB.out⟩
set_option maxHeartbeats 4000000 in
set_option maxRecDepth 1000000 in
theorem IndexFuncVa (l : List Va) (P : Option Addr) (C : Nat) (w : World) (hl : rowAt w P l) (hn : l.length ≤ 100000000) :
  Calls Tryz.prog 72 #[.slice P l.length C, .func (.func 47) #[] #[]] w fun e w' => IxQ (l.any isN) e ∧ Below w.heap.size w w' := by
 have eg : ∀ args w, (callFunc 47 args).run Tryz.prog w = .ok (.enter 47 args) w := enters_of Tryz.func47 (by kernel_rfl) rfl
 obtain ⟨B, hB⟩ : ∃ B, B = l.any isN := ⟨_, rfl⟩
 rw [← hB]
 have HB := mkHid hB
 clear hB
 go_enter Tryz.func72, Tryz.ntmps72
 go_wp2_with fail
 go_loopw [5, 8] (fun _ s8 wr => ∃ k : Nat, s8 = .int .i64 k ∧ k ≤ l.length ∧ Hid ((l.take k).any isN = false) ∧ Below w.heap.size w wr) (fun _ sk _ => l.length - (intOf sk).toNat)
 case atStart => exact ⟨0, rfl, Nat.zero_le _, rfl, Below.refl _ _⟩
 case round =>
  obtain ⟨k, rfl, hk, hd, hb⟩ := hrel
  by_cases hlt : k < l.length
  ·obtain ⟨x, hx⟩ : ∃ x, l[k]? = some x := ⟨l[k], List.getElem?_eq_getElem hlt⟩
   rcases hl with rfl | ⟨b, rfl, hv⟩
   ·simp at hx
   obtain ⟨c0, c1, c2⟩ := (hv.below hb).2 k x hx
   have hcall := isNull_any x wr
   have HX := mkHid hx
   clear hv hx
   cases hq : isN x with
   | true =>
    rw [hq] at hcall
    have e : B = true := by rw [HB.out]; exact any_hit HX.out hq
    subst e
    go_wp2_with (go_at_fn 47; refine hcall.mono ?_; rintro e w1 ⟨rfl, hb1⟩)
    refine bodyPost_ret (v := .int .i64 k) (by simp [results, Tryz.results72, go_sem]) rfl ⟨⟨_, rfl, by simp⟩, hb.trans (hb1.mono hb.size)⟩
   | false =>
    rw [hq] at hcall
    have hd2 : Hid ((l.take (k + 1)).any isN = false) := any_next HX.out hq hd.out
    go_wp2_with (go_at_fn 47; refine hcall.mono ?_; rintro e w1 ⟨rfl, hb1⟩)
    go_roundw
    case rel => exact ⟨k + 1, by go_num, hlt, hd2, hb.trans (hb1.mono hb.size)⟩
    case measure => simp [intOf]; omega
  ·have e : B = false := by
    rw [HB.out]
    have := hd.out
    rw [List.take_of_length_le (by omega)] at this; exact this
   subst e
   go_wp2_with fail
   refine bodyPost_ret (v := .int .i64 (-1)) (by simp [results, Tryz.results72, go_sem]) rfl ⟨⟨_, rfl, rfl⟩, hb⟩
set_option maxHeartbeats 4000000 in
set_option maxRecDepth 1000000 in
theorem ContainsNull (l : List Va) (P : Option Addr) (C : Nat) (w : World) (hl : rowAt w P l) (hn : l.length ≤ 100000000) :
  Calls Tryz.prog 46 #[.slice P l.length C, .func (.func 47) #[] #[]] w fun e w' => e = .returned (.bool (l.any isN)) ∧ Below w.heap.size w w' := by
 have IX := mkHid (IndexFuncVa l P C w hl hn)
 generalize l.any isN = B at *
 clear hl
 go_enter Tryz.func46, Tryz.ntmps46
 go_wp2_with (go_at_call 72; refine IX.out.mono ?_; rintro e w1 ⟨⟨r, rfl, hr⟩, hb⟩)
 go_ret
 exact ⟨by rw [← hr]; rfl, hb⟩
end Go.Proofs.YtclcajnodoifjaaGreatDoor

namespace Go.Proofs.YtclcajnodoifjaaGreatDoor
open Go.RowKit Go.Shelf Go.Joins Go.Maps
set_option maxRecDepth 100000

/-- whether an entry is kept out -/
def clB (u : Bool) (y : En) (L : List Em) : Bool := if u = true ∧ y.key.any isN = false then !(ofKey y.key L).isEmpty else !(ofEn y L).isEmpty
set_option maxHeartbeats 4000000 in
set_option maxRecDepth 1000000 in
theorem clashes_any (T : Nat → Prop) (y : En) (q : Option Addr) (cq d l bt : Nat) (n : Nd Em) (p1 : Option Addr) (n1 c1 : Nat) (p2 : Option Addr) (n2 c2 : Nat) (u : Bool) (sz : Int) (w : World) (hn : RtIn T w d l n (.slice p1 n1 c1) (.slice p2 n2 c2)) (ht : w.heap[bt]? = some (trO u (.slice p1 n1 c1) (.slice p2 n2 c2) sz)) (hy : EnAt w q y) (hs : y.key.length ≤ 100000000) :
  Calls Tryz.prog 22 #[.pointer (some ⟨bt, 0, none⟩), enV q cq y] w fun e w' => e = .returned (.bool (clB u y n.fl)) ∧ Below w.heap.size w w' := by
 obtain ⟨w0, hw0⟩ : ∃ w0, w0 = w.alloc (.cells #[.slice q y.key.length cq, .int .u64 y.id] 65) := ⟨_, rfl⟩
 have d0 : w0.heap[w.heap.size]? = some (.cells #[.slice q y.key.length cq, .int .u64 y.id] 65) := by rw [hw0]; exact heap_alloc_new _ _
 have b0 : Below w.heap.size w w0 := by rw [hw0]; exact (Below.refl _ w).alloc (Nat.le_refl _) _
 have HE : Hid (∀ w1 B, Below w0.heap.size w0 w1 → w1.heap[B]? = some (.cells #[.slice q y.key.length cq, .int .u64 y.id] 65) → Calls Tryz.prog 25 #[.pointer (some ⟨bt, 0, none⟩), .agg #[.func (.func 54) #[] #[.pointer (some ⟨B, 0, none⟩)], .func (.func 55) #[] #[.pointer (some ⟨B, 0, none⟩)]]] w1 fun e w' => e = .returned (.bool (!(ofEn y n.fl).isEmpty)) ∧ Below w1.heap.size w1 w') := fun w1 B hb hB => has_en T y q cq d l bt n p1 n1 c1 p2 n2 c2 u sz w w1 B hn ht hy (b0.trans (hb.mono b0.size)) hB
 have HK : Hid (∀ w1 B, Below w0.heap.size w0 w1 → w1.heap[B]? = some (.cells #[.slice q y.key.length cq] 30) → Calls Tryz.prog 25 #[.pointer (some ⟨bt, 0, none⟩), .agg #[.func (.func 73) #[] #[.pointer (some ⟨B, 0, none⟩)], .func (.func 75) #[] #[.pointer (some ⟨B, 0, none⟩)]]] w1 fun e w' => e = .returned (.bool (!(ofKey y.key n.fl).isEmpty)) ∧ Below w1.heap.size w1 w') := fun w1 B hb hB => has_key T y.key q cq d l bt n p1 n1 c1 p2 n2 c2 u sz w w1 B hn ht hy.row hy.fits (b0.trans (hb.mono b0.size)) hB
 have CN : Hid (Calls Tryz.prog 46 #[.slice q y.key.length cq, .func (.func 47) #[] #[]] w0 fun e w' => e = .returned (.bool (y.key.any isN)) ∧ Below w0.heap.size w0 w') := ContainsNull y.key q cq w0 (hy.row.below b0) hs
 have h1 := (b0.block _ (lt_of_heap ht)).trans ht
 have k0 : w0.cell? ⟨bt, 0, none⟩ = some (.bool u) := (cell_of_block h1 0).trans rfl
 have j0 : w0.cell? ⟨w.heap.size, 0, none⟩ = some (.slice q y.key.length cq) := (cell_of_block d0 0).trans rfl
 have j1 : w0.cell? ⟨w.heap.size, 1, none⟩ = some (.int .u64 y.id) := (cell_of_block d0 1).trans rfl
 obtain ⟨A, hA⟩ : ∃ A, A = !(ofEn y n.fl).isEmpty := ⟨_, rfl⟩
 obtain ⟨K, hK⟩ : ∃ K, K = !(ofKey y.key n.fl).isEmpty := ⟨_, rfl⟩
 have EQ : clB u y n.fl = if u = true ∧ y.key.any isN = false then K else A := by rw [hA, hK]; rfl
 rw [EQ]
 rw [← hA] at HE
 rw [← hK] at HK
 clear hA hK EQ hn ht hy hs h1
 have k0 : (w.alloc (.cells #[.slice q y.key.length cq, .int .u64 y.id] 65)).cell? ⟨bt, 0, none⟩ = some (.bool u) := by rw [← hw0]; exact k0
 cases u with
 | false =>
  rw [if_neg (by simp)]
  clear CN HK
  go_enter Tryz.func22, Tryz.ntmps22
  go_wp2_with fail
  rw [← hw0]
  clear k0 hw0
  go_wp2_with (first | (go_at_call 26; refine (onlyEntry_any q y.key.length cq y.id _).mono ?_; rintro e w1 ⟨rfl, g1, b1⟩) | (go_at_call 25; refine (HE.out w1 _ (b1) g1).mono ?_; rintro e w2 ⟨rfl, b2⟩))
  go_ret
  exact ⟨rfl, b0.trans ((b1.trans (b2.mono b1.size)).mono b0.size)⟩
 | true =>
  cases hq : y.key.any isN with
  | true =>
   rw [hq] at CN
   rw [if_neg (by simp)]
   clear HK
   go_enter Tryz.func22, Tryz.ntmps22
   go_wp2_with fail
   rw [← hw0]
   clear k0 hw0
   go_wp2_with (go_at_call 46; refine CN.out.mono ?_; rintro e w3 ⟨rfl, b3⟩; have f0 := (b3.cell (p := ⟨w.heap.size, 0, none⟩) (lt_of_heap d0)).trans j0; have f1 := (b3.cell (p := ⟨w.heap.size, 1, none⟩) (lt_of_heap d0)).trans j1; clear CN)
   go_wp2_with (first | (go_at_call 26; refine (onlyEntry_any q y.key.length cq y.id w3).mono ?_; rintro e w1 ⟨rfl, g1, b1⟩) | (go_at_call 25; refine (HE.out w1 _ (b3.trans (b1.mono b3.size)) g1).mono ?_; rintro e w2 ⟨rfl, b2⟩))
   go_ret
   exact ⟨rfl, b0.trans ((b3.trans ((b1.trans (b2.mono b1.size)).mono b3.size)).mono b0.size)⟩
  | false =>
   rw [hq] at CN
   rw [if_pos (by simp)]
   clear HE
   go_enter Tryz.func22, Tryz.ntmps22
   go_wp2_with fail
   rw [← hw0]
   clear k0 hw0
   go_wp2_with (go_at_call 46; refine CN.out.mono ?_; rintro e w3 ⟨rfl, b3⟩; have f0 := (b3.cell (p := ⟨w.heap.size, 0, none⟩) (lt_of_heap d0)).trans j0; have f1 := (b3.cell (p := ⟨w.heap.size, 1, none⟩) (lt_of_heap d0)).trans j1; clear CN)
   go_wp2_with (first | (go_at_call 48; refine (onlyKey_any q y.key.length cq w3).mono ?_; rintro e w1 ⟨rfl, g1, b1⟩) | (go_at_call 25; refine (HK.out w1 _ (b3.trans (b1.mono b3.size)) g1).mono ?_; rintro e w2 ⟨rfl, b2⟩))
   go_ret
   exact ⟨rfl, b0.trans ((b3.trans ((b1.trans (b2.mono b1.size)).mono b3.size)).mono b0.size)⟩
end Go.Proofs.YtclcajnodoifjaaGreatDoor

namespace Go.Proofs.YtclcajnodoifjaaGreatDoor
open Go.RowKit Go.Shelf Go.Joins Go.Maps
set_option maxRecDepth 100000

/-- a value without what its type does not name -/
def kepV (v : Va) : Va := if v.ty = 0 then ⟨0, 0, ⟨#[]⟩⟩ else if v.ty = 3 then ⟨3, 0, v.s⟩ else ⟨v.ty, v.n, ⟨#[]⟩⟩
def zeV : Va := ⟨0, 0, ⟨#[]⟩⟩
/-- on the way: k values are kept -/
def kepL (l : List Va) (k : Nat) : List Va := (l.take k).map kepV ++ List.replicate (l.length - k) zeV
theorem kepL_at {l : List Va} {k : Nat} (h : k < l.length) : (kepL l k)[k]? = some zeV := by
 unfold kepL
 have e : min k l.length = k := by omega
 rw [List.getElem?_append_right (by simp; omega)]
 rw [List.length_map, List.length_take, e, Nat.sub_self, List.getElem?_replicate, if_pos (by omega)]
theorem kepL_set {l : List Va} {k : Nat} {v : Va} (h : l[k]? = some v) : (kepL l k).set k (kepV v) = kepL l (k + 1) := by
 have hk := (List.getElem?_eq_some_iff.1 h).1
 unfold kepL
 rw [List.set_append_right _ _ (by simp; omega), List.take_add_one, h, List.map_append, List.append_assoc]
 congr 1
 have e : l.length - k = (l.length - (k + 1)) + 1 := by omega
 have e2 : k - ((l.take k).map kepV).length = 0 := by simp; omega
 rw [e2, e, List.replicate_succ]
 rfl
theorem kepL_all (l : List Va) : kepL l l.length = l.map kepV := by simp [kepL]
theorem kepL_zero (l : List Va) : kepL l 0 = List.replicate l.length zeV := by simp [kepL]
theorem fl_set3 : ∀ (L : List Va) (i r : Nat) (v v' : Va) (u : Value), L[i]? = some v → r < 3 → (vaE v).set r u = vaE v' → (fl vaE L).set (i * 3 + r) u = fl vaE (L.set i v')
 | x :: L, 0, r, v, v', u, h, hr, he => by
  simp at h
  subst h
  rw [Nat.zero_mul, Nat.zero_add, fl_cons, List.set_append_left _ _ (by simp [vaE]; omega), he]
  rfl
 | x :: L, i + 1, r, v, v', u, h, hr, he => by
  rw [fl_cons, List.set_append_right _ _ (by simp [vaE]; omega)]
  have e : (i + 1) * 3 + r - (vaE x).length = i * 3 + r := by simp [vaE]; omega
  rw [e, fl_set3 L i r v v' u (by simpa using h) hr he]
  rfl
/-- the row under way -/
structure KpI (w : World) (l : List Va) (k : Nat) (wr : World) : Prop where
 row : ∃ cs, wr.heap[w.heap.size]? = some (.cells cs 40 (0, 0)) ∧ cs.toList = fl vaE (kepL l k)
 below : Below w.heap.size w wr
theorem KpI.cells {w wr : World} {l : List Va} {k : Nat} (h : KpI w l k wr) (hk : k < l.length) : wr.cell? ⟨w.heap.size, k * 3, none⟩ = some (.int .i64 0) ∧ wr.cell? ⟨w.heap.size, k * 3 + 1, none⟩ = some (.int .i64 0) ∧ wr.cell? ⟨w.heap.size, k * 3 + 2, none⟩ = some (.string ⟨#[]⟩) := by
 obtain ⟨cs, h1, h2⟩ := h.row
 have g := fun r (hr : r < 3) => fl_get (enc := vaE) (s := 3) (fun _ => rfl) (kepL l k) k zeV r (kepL_at hk) hr
 have c : ∀ j, cs[j]? = (fl vaE (kepL l k))[j]? := fun j => by rw [← h2, Array.getElem?_toList]
 exact ⟨(cell_of_block h1 _).trans ((c _).trans (g 0 (by omega))), (cell_of_block h1 _).trans ((c _).trans (g 1 (by omega))), (cell_of_block h1 _).trans ((c _).trans (g 2 (by omega)))⟩
theorem KpI.alloc {w wr : World} {l : List Va} {k : Nat} (h : KpI w l k wr) (o : Obj) : KpI w l k (wr.alloc o) := by
 obtain ⟨cs, h1, h2⟩ := h.row
 exact ⟨⟨cs, (((Below.refl _ wr).alloc (Nat.le_refl _) o).block _ (lt_of_heap h1)).trans h1, h2⟩, h.below.alloc h.below.size o⟩
/-- one cell and another one are written -/
theorem kp_next0 {w wr : World} {l : List Va} {k : Nat} {v : Va} (h : KpI w l k wr) (hv : l[k]? = some v) (h0 : v.ty = 0) : KpI w l (k + 1) (wr.setCell ⟨w.heap.size, k * 3, none⟩ (.int .i64 v.ty)) := by
 obtain ⟨cs, h1, h2⟩ := h.row
 have hk := (List.getElem?_eq_some_iff.1 hv).1
 refine ⟨⟨_, heap_set_in h1, ?_⟩, h.below.setCell (p := ⟨w.heap.size, k * 3, none⟩) (Nat.le_refl _) _⟩
 rw [Array.toList_setIfInBounds, h2]
 have := fl_set3 (kepL l k) k 0 zeV (kepV v) (.int .i64 v.ty) (kepL_at hk) (by omega) (by simp [kepV, h0, vaE, zeV])
 rw [Nat.add_zero] at this
 rw [this, kepL_set hv]
theorem kp_next3 {w wr : World} {l : List Va} {k : Nat} {v : Va} (h : KpI w l k wr) (hv : l[k]? = some v) (h0 : v.ty = 3) : KpI w l (k + 1) ((wr.setCell ⟨w.heap.size, k * 3, none⟩ (.int .i64 v.ty)).setCell ⟨w.heap.size, k * 3 + 2, none⟩ (.string v.s)) := by
 obtain ⟨cs, h1, h2⟩ := h.row
 have hk := (List.getElem?_eq_some_iff.1 hv).1
 refine ⟨⟨_, heap_set_in (heap_set_in h1), ?_⟩, (h.below.setCell (p := ⟨w.heap.size, k * 3, none⟩) (Nat.le_refl _) _).setCell (p := ⟨w.heap.size, k * 3 + 2, none⟩) (Nat.le_refl _) _⟩
 rw [Array.toList_setIfInBounds, Array.toList_setIfInBounds, h2]
 have e1 := fl_set3 (kepL l k) k 0 zeV ⟨v.ty, 0, ⟨#[]⟩⟩ (.int .i64 v.ty) (kepL_at hk) (by omega) (by simp [vaE, zeV])
 have e2 := fl_set3 ((kepL l k).set k ⟨v.ty, 0, ⟨#[]⟩⟩) k 2 ⟨v.ty, 0, ⟨#[]⟩⟩ (kepV v) (.string v.s) (by rw [List.getElem?_set_self (by have := (List.getElem?_eq_some_iff.1 (kepL_at hk)).1; omega)]) (by omega) (by simp [kepV, h0, vaE])
 rw [Nat.add_zero] at e1
 rw [e1, e2, List.set_set, kepL_set hv]
theorem kp_next1 {w wr : World} {l : List Va} {k : Nat} {v : Va} (h : KpI w l k wr) (hv : l[k]? = some v) (h0 : v.ty ≠ 0) (h3 : v.ty ≠ 3) : KpI w l (k + 1) ((wr.setCell ⟨w.heap.size, k * 3, none⟩ (.int .i64 v.ty)).setCell ⟨w.heap.size, k * 3 + 1, none⟩ (.int .i64 v.n)) := by
 obtain ⟨cs, h1, h2⟩ := h.row
 have hk := (List.getElem?_eq_some_iff.1 hv).1
 refine ⟨⟨_, heap_set_in (heap_set_in h1), ?_⟩, (h.below.setCell (p := ⟨w.heap.size, k * 3, none⟩) (Nat.le_refl _) _).setCell (p := ⟨w.heap.size, k * 3 + 1, none⟩) (Nat.le_refl _) _⟩
 rw [Array.toList_setIfInBounds, Array.toList_setIfInBounds, h2]
 have e1 := fl_set3 (kepL l k) k 0 zeV ⟨v.ty, 0, ⟨#[]⟩⟩ (.int .i64 v.ty) (kepL_at hk) (by omega) (by simp [vaE, zeV])
 have e2 := fl_set3 ((kepL l k).set k ⟨v.ty, 0, ⟨#[]⟩⟩) k 1 ⟨v.ty, 0, ⟨#[]⟩⟩ (kepV v) (.int .i64 v.n) (by rw [List.getElem?_set_self (by have := (List.getElem?_eq_some_iff.1 (kepL_at hk)).1; omega)]) (by omega) (by simp [kepV, h0, h3, vaE])
 rw [Nat.add_zero] at e1
 rw [e1, e2, List.set_set, kepL_set hv]
theorem rw_full (w : World) (n : Nat) (hn : n ≤ 1000000) : ∃ w', (Instr.makeSlice 30 (.int .i64 (n : Int)) (.int .i64 (n : Int))).run Tryz.prog w = .ok (.slice (some ⟨w.heap.size, 0, none⟩) n n) w' ∧ (∃ cs, w'.heap[w.heap.size]? = some (.cells cs 40 (0, 0)) ∧ cs.toList = fl vaE (List.replicate n zeV)) ∧ Below w.heap.size w w' := by
 obtain ⟨i, hi, hz, hs, hb⟩ := info_parts rwVa.inf
 have hbb : (i.bytes : Int) * (n : Int) ≤ 281474976710656 := by
  have : i.bytes * n ≤ 64 * 1000000 := Nat.mul_le_mul (by have := rwVa.sm; omega) hn
  have : ((i.bytes * n : Nat) : Int) ≤ 281474976710656 := by omega
  rwa [Int.natCast_mul] at this
 have hr := run_make (P := Tryz.prog) w 30 _ i _ rwVa.sl hi hz .i64 .i64 (n : Int) (n : Int) (by omega) (Int.le_refl _) hbb (by omega)
 simp only [Int.toNat_natCast] at hr
 refine ⟨_, hr, ⟨_, heap_alloc_new _ _, ?_⟩, (Below.refl _ w).alloc (Nat.le_refl _) _⟩
 rw [hs]
 have hz : ∀ m : Nat, (madeCells (Value.agg #[.int .i64 0, .int .i64 0, .string ⟨#[]⟩]).cells (m * 3)).toList = fl vaE (List.replicate m zeV) := fun m => by
  apply List.ext_getElem?
  intro j
  unfold madeCells
  by_cases hj : j < m * 3
  ·have e := fl_get (enc := vaE) (s := 3) (fun _ => rfl) (List.replicate m zeV) (j / 3) zeV (j % 3) (by rw [List.getElem?_replicate, if_pos (by omega)]) (Nat.mod_lt _ (by omega))
   rw [show j / 3 * 3 + j % 3 = j by omega] at e
   rw [e, Array.getElem?_toList]
   have hm : j % 3 < 3 := Nat.mod_lt _ (by omega)
   simp [hj, Value.cells, vaE, zeV]
   rcases (by omega : j % 3 = 0 ∨ j % 3 = 1 ∨ j % 3 = 2) with e | e | e <;> rw [e] <;> rfl
  ·rw [List.getElem?_eq_none (by simp; omega), List.getElem?_eq_none (by rw [fl_len (enc := vaE) (s := 3) (fun _ => rfl)]; simp; omega)]
 exact hz n
set_option maxHeartbeats 8000000 in
set_option maxRecDepth 1000000 in
theorem keptKey_any (g0 : Nat) (k : List Va) (c : Nat) (w : World) (hk : valsAt w g0 k) (hl : k.length ≤ 1000) :
  Calls Tryz.prog 21 #[.slice (some ⟨g0, 0, none⟩) k.length c] w fun e w' => e = .returned (.slice (some ⟨w.heap.size, 0, none⟩) k.length k.length) ∧ valsAt w' w.heap.size (k.map kepV) ∧ Below w.heap.size w w' := by
 obtain ⟨w1, r1, ⟨cs0, r2, r3⟩, r4⟩ := rw_full w k.length (by omega)
 have I0 : KpI w k 0 w1 := ⟨⟨cs0, r2, by rw [kepL_zero]; exact r3⟩, r4⟩
 obtain ⟨N, hN⟩ : ∃ N, N = k.length := ⟨_, rfl⟩
 rw [← hN] at r1 hl ⊢
 have HN := mkHid hN
 have HKV : Hid (∀ W i v, Below w.heap.size w W → k[i]? = some v → W.cell? ⟨g0, i * 3, none⟩ = some (.int .i64 v.ty) ∧ W.cell? ⟨g0, i * 3 + 1, none⟩ = some (.int .i64 v.n) ∧ W.cell? ⟨g0, i * 3 + 2, none⟩ = some (.string v.s)) := fun W i v hb hi => (hk.below hb).2 i v hi
 clear hN r2 r3 r4 hk
 go_enter Tryz.func21, Tryz.ntmps21
 go_wp2_with (refine wp_make 30 rfl (.tmp 7) (.tmp 7) rfl rfl rfl r1 ?_)
 go_loopw [11] (fun sk wr => ∃ i : Nat, sk = .int .i64 i ∧ i ≤ N ∧ Hid (KpI w k i wr)) (fun sk _ => N - (intOf sk).toNat)
 case atStart => exact ⟨0, rfl, Nat.zero_le _, I0⟩
 case round =>
  obtain ⟨i, rfl, hi, hI⟩ := hrel
  clear I0 r1
  by_cases hlt : i < N
  ·obtain ⟨⟨ty, vn, vs⟩, hv⟩ : ∃ v, k[i]? = some v := ⟨_, List.getElem?_eq_getElem (by have := HN.out; omega)⟩
   obtain ⟨c0, c1, c2⟩ := HKV.out wr i _ hI.out.below hv
   have HV := mkHid hv
   have KA : Hid (KpI w k i (wr.alloc (.cells #[.int .i64 ty, .int .i64 vn, .string vs] 40))) := hI.out.alloc _
   obtain ⟨z0, z1, z2⟩ := KA.out.cells (by have := HN.out; omega)
   have fz : ∀ o, (wr.alloc (.cells #[.int .i64 ty, .int .i64 vn, .string vs] 40)).frozen? ⟨w.heap.size, o, none⟩ = false := fun o => by
    obtain ⟨cs, h1, _⟩ := KA.out.row
    simp [World.frozen?, h1]
   have hne : wr.heap.size ≠ w.heap.size := by
    obtain ⟨cs, h1, _⟩ := hI.out.row
    have := lt_of_heap h1
    omega
   have f0 : ((wr.alloc (.cells #[.int .i64 ty, .int .i64 vn, .string vs] 40)).setCell ⟨w.heap.size, i * 3, none⟩ (.int .i64 ty)).cell? ⟨w.heap.size, i * 3 + 1, none⟩ = some (.int .i64 0) := by rw [World.cell?_setCell_other _ _ _ _ (by intro e; injection e with _ e2 _; omega)]; exact z1
   have f1 : ((wr.alloc (.cells #[.int .i64 ty, .int .i64 vn, .string vs] 40)).setCell ⟨w.heap.size, i * 3, none⟩ (.int .i64 ty)).cell? ⟨w.heap.size, i * 3 + 2, none⟩ = some (.string ⟨#[]⟩) := by rw [World.cell?_setCell_other _ _ _ _ (by intro e; injection e with _ e2 _; omega)]; exact z2
   have b1 : ∀ o, ((wr.alloc (.cells #[.int .i64 ty, .int .i64 vn, .string vs] 40)).setCell ⟨w.heap.size, i * 3, none⟩ (.int .i64 ty)).cell? ⟨wr.heap.size, o, none⟩ = #[Value.int .i64 ty, .int .i64 vn, .string vs][o]? := fun o => by
    rw [World.cell?_setCell_other _ _ _ _ (by intro e; injection e with e1 _ _; exact hne e1.symm)]
    exact cell_of_block (heap_alloc_new _ _) o
   have b10 := b1 0
   have b11 := b1 1
   have b12 := b1 2
   simp only [List.getElem?_toArray, List.getElem?_cons_zero, List.getElem?_cons_succ] at b10 b11 b12
   clear b1 hv
   have i1 : (i : Int) < (N : Int) := by omega
   clear hI
   by_cases h0 : ty = 0
   ·subst h0
    have NX := mkHid (kp_next0 KA.out HV.out rfl)
    clear KA f0 f1 b11 b12 HKV HV
    go_wp2_with fail
    go_roundw
    case rel => exact ⟨i + 1, by go_num, hlt, NX⟩
    case measure => simp [intOf]; omega
   by_cases h3 : ty = 3
   ·subst h3
    have NX := mkHid (kp_next3 KA.out HV.out rfl)
    clear KA HKV HV h0
    go_wp2_with fail
    go_roundw
    case rel => exact ⟨i + 1, by go_num, hlt, NX⟩
    case measure => simp [intOf]; omega
   ·have NX := mkHid (kp_next1 KA.out HV.out h0 h3)
    clear KA HKV HV
    go_wp2_with fail
    go_roundw
    case rel => exact ⟨i + 1, by go_num, hlt, NX⟩
    case measure => simp [intOf]; omega
  ·obtain rfl : i = N := by omega
   have FN : Hid (valsAt wr w.heap.size (k.map kepV) ∧ Below w.heap.size w wr) := by
    obtain ⟨cs, h1, h2⟩ := hI.out.row
    rw [HN.out, kepL_all] at h2
    exact ⟨valsAt.mk (lt_of_heap h1) (fun j u hj => by rw [← h2, Array.getElem?_toList] at hj; exact (cell_of_block h1 j).trans hj), hI.out.below⟩
   clear hI HKV HN
   go_wp2_with fail
   go_ret
   exact ⟨rfl, FN.out⟩
end Go.Proofs.YtclcajnodoifjaaGreatDoor

namespace Go.Proofs.YtclcajnodoifjaaGreatDoor
open Go.RowKit Go.Shelf Go.Joins Go.Maps
set_option maxRecDepth 100000

/-- what is wrong with a key -/
def keyE (l : List Va) : Int := if l.length = 0 ∨ 4 < l.length then 1 else errs l
set_option maxHeartbeats 2000000 in
set_option maxRecDepth 1000000 in
theorem checkKey_any (p : Option Addr) (c : Nat) (l : List Va) (w : World) (hl : l.length ≤ 1000000000) (hv : rowAt w p l) (hs : ∀ v ∈ l, v.s.size ≤ 9223372036854775807) (hT : Tabs w) :
  Calls Tryz.prog 20 #[.slice p l.length c] w fun e w' => e = .returned (.int .i64 (keyE l)) ∧ Below w.heap.size w w' := by
 unfold keyE
 by_cases h0 : l.length = 0
 ·rw [if_pos (Or.inl h0), h0]
  go_enter Tryz.func20, Tryz.ntmps20
  go_wp2_with fail
  go_ret
  exact ⟨rfl, Below.refl _ _⟩
 by_cases h4 : 4 < l.length
 ·rw [if_pos (Or.inr h4)]
  have nz : ((l.length : Int) == 0) = false := by rw [beq_eq_false_iff_ne]; omega
  have n4 : (l.length : Int) > 4 := by omega
  clear hv hs hT h0
  generalize l.length = N at *
  go_enter Tryz.func20, Tryz.ntmps20
  go_wp2_with fail
  go_ret
  exact ⟨rfl, Below.refl _ _⟩
 rw [if_neg (by omega)]
 obtain ⟨g, hpg, hvs⟩ : ∃ g, p = some ⟨g, 0, none⟩ ∧ valsAt w g l := by
  rcases hv with h | h
  ·rw [h] at h0; simp at h0
  ·exact h
 clear hv
 subst hpg
 have hv := hvs
 clear hvs
 have nz : ((l.length : Int) == 0) = false := by rw [beq_eq_false_iff_ne]; omega
 have n4 : ¬ ((l.length : Int) > 4) := by omega
 obtain ⟨E, hE⟩ : ∃ E, E = errs l := ⟨_, rfl⟩
 rw [← hE]
 have HE : Hid (E = errs l) := hE
 clear hE
 obtain ⟨N, hN⟩ : ∃ N, N = l.length := ⟨_, rfl⟩
 rw [← hN] at nz n4 h0 h4 hl ⊢
 have HN := mkHid hN
 clear hN
 go_enter Tryz.func20, Tryz.ntmps20
 go_wp2_with fail
 go_loopw [16] (fun sk wr => ∃ k : Nat, sk = .int .i64 k ∧ k ≤ N ∧ Hid (E = errs (l.drop k)) ∧ Below w.heap.size w wr) (fun sk _ => N - (intOf sk).toNat)
 case atStart => exact ⟨0, rfl, Nat.zero_le _, HE, Below.refl _ _⟩
 case round =>
  obtain ⟨k, rfl, hk, hd, hb⟩ := hrel
  clear HE
  by_cases hlt : k < N
  ·obtain ⟨v, hvk⟩ : ∃ v, l[k]? = some v := ⟨_, List.getElem?_eq_getElem (by have := HN.out; omega)⟩
   obtain ⟨c1, c2, c3⟩ := hv.2 k v hvk
   have d1 := (hb.cell (p := ⟨g, k * 3, none⟩) hv.1).trans c1
   have d2 := (hb.cell (p := ⟨g, k * 3 + 1, none⟩) hv.1).trans c2
   have d3 := (hb.cell (p := ⟨g, k * 3 + 2, none⟩) hv.1).trans c3
   have hsv := hs v (List.mem_of_getElem? hvk)
   rw [drop_at hvk] at hd
   have CK : Hid (∀ w, Tabs w → Calls Tryz.prog 45 #[.agg #[.int .i64 v.ty, .int .i64 v.n, .string v.s]] w fun e w' => e = .returned (.int .i64 v.chk) ∧ Below w.heap.size w w') := fun w h => Check_any v.ty v.n v.s w hsv h
   have HT1 : Hid (∀ o, Tabs (wr.alloc o)) := fun o => (hT.below hb).below ((Below.refl _ _).alloc (Nat.le_refl _) o)
   have HB1 : Hid (∀ o, Below w.heap.size w (wr.alloc o)) := fun o => hb.alloc hb.size o
   clear c1 c2 c3 hv hs hvk
   by_cases h0 : v.chk = 0
   ·have hd2 : Hid (E = errs (l.drop (k + 1))) := hd.out.trans (errs_pass h0)
    rw [h0] at CK
    clear hd
    go_wp2_with fail
    refine (CK.out _ (HT1.out _)).mono ?_
    rintro e w1 ⟨rfl, hb2⟩
    have hb3 := (HB1.out _).trans (hb2.mono (HB1.out _).size)
    go_wp2_with fail
    go_roundw
    case rel => exact ⟨k + 1, by go_num, hlt, hd2, hb3⟩
    case measure => simp [intOf]; omega
   ·have hd2 : Hid (E = v.chk) := hd.out.trans (errs_stop h0)
    have hne : (v.chk != 0) = true := by rw [bne_iff_ne]; exact h0
    clear hd
    obtain rfl := hd2.out
    go_wp2_with fail
    refine (CK.out _ (HT1.out _)).mono ?_
    rintro e w1 ⟨rfl, hb2⟩
    have hb3 := (HB1.out _).trans (hb2.mono (HB1.out _).size)
    go_wp2_with fail
    go_ret
    exact ⟨rfl, hb3⟩
  ·obtain rfl : k = N := by omega
   have he : E = 0 := by
    have := hd.out
    rw [List.drop_eq_nil_of_le (by rw [HN.out]; exact Nat.le_refl _)] at this
    exact this
   subst he
   clear hd hv hs
   go_wp2_with fail
   go_ret
   exact ⟨rfl, hb⟩
end Go.Proofs.YtclcajnodoifjaaGreatDoor

