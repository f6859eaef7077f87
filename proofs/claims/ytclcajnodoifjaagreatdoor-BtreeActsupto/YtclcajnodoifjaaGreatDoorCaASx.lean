/-
 The order of entries, the ends of a span and the binary search, what is looked for standing at any place of its block.
-/
import Derived.Test.YtclcajnodoifjaaGreatDoorBxZSx
import Derived.Test.YtclcajnodoifjaaGreatDoorIAN
import Derived.Test.YtclcajnodoifjaaGreatDoorIAJ
namespace Go.Proofs.YtclcajnodoifjaaGreatDoor
open Go.RowKit Go.Shelf Go.Joins Go.Maps
set_option maxRecDepth 100000

theorem EnAt.off {w : World} {p : Option Addr} {e : En} (h : EnAt w p e) : EnOff w p e := ⟨h.row.off, h.fits⟩
theorem rowOff.keeps {T : Nat → Prop} {w w' : World} {p : Option Addr} {l : List Va} (h : rowOff w p l) (ht : ∀ g o, p = some ⟨g, o, none⟩ → T g) (hk : Keeps T w w') : rowOff w' p l := by
 rcases h with h | ⟨g, o, h1, h2, h3⟩
 ·exact Or.inl h
 ·exact Or.inr ⟨g, o, h1, Nat.lt_of_lt_of_le h2 hk.1, fun j u hj => hk.cell (ht g o h1) (h3 j u hj)⟩
set_option maxHeartbeats 4000000 in
set_option maxRecDepth 1000000 in
theorem Rows_off (p q : Option Addr) (cp cq : Nat) (la lb : List Va) (w : World) (hla : la.length ≤ 1000) (hp : rowAt w p la) (hq : rowOff w q lb) (fa : ∀ v ∈ la, fit v.n) (fb : ∀ v ∈ lb, fit v.n) :
  Calls Tryz.prog 74 #[.slice p la.length cp, .slice q lb.length cq] w fun e w' => e = .returned (.int .i64 (rowsV la lb)) ∧ Below w.heap.size w w' := by
 obtain ⟨E, hE⟩ : ∃ E, E = rowsV la lb := ⟨_, rfl⟩
 rw [← hE]
 have HE : Hid (E = rowsV la lb) := hE
 clear hE
 have CI : Hid (∀ x y w, Calls Tryz.prog 89 #[.int .i64 x, .int .i64 y] w fun e w' => e = .returned (.int .i64 (cmpI x y)) ∧ w' = w) := CompareInt
 go_enter Tryz.func74, Tryz.ntmps74
 go_wp2_with fail
 go_loopw [12] (fun sk wr => ∃ k : Nat, sk = .int .i64 k ∧ k ≤ la.length ∧ k ≤ lb.length ∧ Hid (E = rowsV (la.drop k) (lb.drop k)) ∧ Below w.heap.size w wr) (fun sk _ => la.length - (intOf sk).toNat)
 case atStart => exact ⟨0, rfl, Nat.zero_le _, Nat.zero_le _, HE, Below.refl _ _⟩
 case round =>
  obtain ⟨k, rfl, hk, hk2, hd, hb⟩ := hrel
  clear HE
  by_cases hlt : k < la.length ∧ k < lb.length
  ·obtain ⟨hl1, hl2⟩ := hlt
   obtain ⟨a, hak⟩ : ∃ v, la[k]? = some v := ⟨la[k], List.getElem?_eq_getElem hl1⟩
   obtain ⟨b, hbk⟩ : ∃ v, lb[k]? = some v := ⟨lb[k], List.getElem?_eq_getElem hl2⟩
   obtain ⟨g, rfl, hvg⟩ := hp.get hak
   obtain ⟨h, oh, rfl, hvh, m1, m2, m3⟩ := hq.get hbk
   obtain ⟨c1, c2, c3⟩ := hvg.2 k a hak
   have d1 := (hb.cell (p := ⟨g, k * 3, none⟩) hvg.1).trans c1
   have d2 := (hb.cell (p := ⟨g, k * 3 + 1, none⟩) hvg.1).trans c2
   have d3 := (hb.cell (p := ⟨g, k * 3 + 2, none⟩) hvg.1).trans c3
   have e1 := (hb.cell (p := ⟨h, oh + k * 3, none⟩) hvh).trans m1
   have e2 := (hb.cell (p := ⟨h, oh + k * 3 + 1, none⟩) hvh).trans m2
   have e3 := (hb.cell (p := ⟨h, oh + k * 3 + 2, none⟩) hvh).trans m3
   have hgw : g < wr.heap.size := Nat.lt_of_lt_of_le hvg.1 hb.size
   have hhw : h < wr.heap.size := Nat.lt_of_lt_of_le hvh hb.size
   have OO : Hid (∀ w, Calls Tryz.prog 88 #[.agg #[.int .i64 a.ty, .int .i64 a.n, .string a.s], .agg #[.int .i64 b.ty, .int .i64 b.n, .string b.s]] w fun e w' => e = .returned (.int .i64 (ordV a b)) ∧ Below w.heap.size w w') := fun w => Order_any a b w (fa a (List.mem_of_getElem? hak)) (fb b (List.mem_of_getElem? hbk))
   rw [drop_at hak, drop_at hbk] at hd
   clear c1 c2 c3 m1 m2 m3 hak hbk hvg hvh hp hq fa fb
   by_cases h0 : ordV a b = 0
   ·have hd2 : Hid (E = rowsV (la.drop (k + 1)) (lb.drop (k + 1))) := by show _ = _; rw [hd.out, rowsV, if_pos h0]
    rw [h0] at OO
    clear hd h0
    go_wp2_with fail
    go_region_held3 (fun w' => w'.cell? ⟨g, k * 3, none⟩ = some (.int .i64 a.ty) ∧ w'.cell? ⟨g, k * 3 + 1, none⟩ = some (.int .i64 a.n) ∧ w'.cell? ⟨g, k * 3 + 2, none⟩ = some (.string a.s) ∧ w'.cell? ⟨h, oh + k * 3, none⟩ = some (.int .i64 b.ty) ∧ w'.cell? ⟨h, oh + k * 3 + 1, none⟩ = some (.int .i64 b.n) ∧ w'.cell? ⟨h, oh + k * 3 + 2, none⟩ = some (.string b.s)) (first | go_keep | exact ⟨(hb2.cell (p := ⟨g, k * 3, none⟩) hgw).trans d1, (hb2.cell (p := ⟨g, k * 3 + 1, none⟩) hgw).trans d2, (hb2.cell (p := ⟨g, k * 3 + 2, none⟩) hgw).trans d3, (hb2.cell (p := ⟨h, oh + k * 3, none⟩) hhw).trans e1, (hb2.cell (p := ⟨h, oh + k * 3 + 1, none⟩) hhw).trans e2, (hb2.cell (p := ⟨h, oh + k * 3 + 2, none⟩) hhw).trans e3⟩) ((go_at_call 88; refine (OO.out _).mono ?_; rintro e w1 ⟨rfl, hb2⟩))
    go_wp2_with fail
    go_roundw
    case rel => exact ⟨k + 1, by go_num, hl1, hl2, hd2, hb.drew.trans (hb2.mono (by simpa using hb.size))⟩
    case measure => simp [intOf]; omega
   ·have hd2 : E = ordV a b := by rw [hd.out, rowsV, if_neg h0]
    have h1 : (ordV a b != 0) = true := by rw [bne_iff_ne]; exact h0
    subst hd2
    clear hd h0
    go_wp2_with fail
    go_region_held3 (fun w' => w'.cell? ⟨g, k * 3, none⟩ = some (.int .i64 a.ty) ∧ w'.cell? ⟨g, k * 3 + 1, none⟩ = some (.int .i64 a.n) ∧ w'.cell? ⟨g, k * 3 + 2, none⟩ = some (.string a.s) ∧ w'.cell? ⟨h, oh + k * 3, none⟩ = some (.int .i64 b.ty) ∧ w'.cell? ⟨h, oh + k * 3 + 1, none⟩ = some (.int .i64 b.n) ∧ w'.cell? ⟨h, oh + k * 3 + 2, none⟩ = some (.string b.s)) (first | go_keep | exact ⟨(hb2.cell (p := ⟨g, k * 3, none⟩) hgw).trans d1, (hb2.cell (p := ⟨g, k * 3 + 1, none⟩) hgw).trans d2, (hb2.cell (p := ⟨g, k * 3 + 2, none⟩) hgw).trans d3, (hb2.cell (p := ⟨h, oh + k * 3, none⟩) hhw).trans e1, (hb2.cell (p := ⟨h, oh + k * 3 + 1, none⟩) hhw).trans e2, (hb2.cell (p := ⟨h, oh + k * 3 + 2, none⟩) hhw).trans e3⟩) ((go_at_call 88; refine (OO.out _).mono ?_; rintro e w1 ⟨rfl, hb2⟩))
    go_wp2_with fail
    go_ret
    exact ⟨rfl, hb.drew.trans (hb2.mono (by simpa using hb.size))⟩
  ·have hE : E = cmpI la.length lb.length := by rw [hd.out]; exact rows_out hk hk2 hlt
   subst hE
   clear hd
   have hcs : ¬ k < la.length ∨ (k < la.length ∧ ¬ k < lb.length) := by omega
   clear hlt
   rcases hcs with hx | ⟨hx, hy⟩
   ·go_wp2_with fail
    refine (CI.out _ _ _).mono ?_
    rintro e wx ⟨rfl, hwx⟩; have hwx2 := hwx.symm; subst hwx2; clear hwx
    go_wp2_with fail
    go_ret
    exact ⟨rfl, hb⟩
   ·go_wp2_with fail
    refine (CI.out _ _ _).mono ?_
    rintro e wx ⟨rfl, hwx⟩; have hwx2 := hwx.symm; subst hwx2; clear hwx
    go_wp2_with fail
    go_ret
    exact ⟨rfl, hb⟩
set_option maxHeartbeats 4000000 in
set_option maxRecDepth 1000000 in
theorem order_off (p q : Option Addr) (cp cq : Nat) (a b : En) (w : World) (hla : a.key.length ≤ 1000) (ha : EnAt w p a) (hb : EnOff w q b) :
  Calls Tryz.prog 51 #[enV p cp a, enV q cq b] w fun e w' => e = .returned (.int .i64 (ordE a b)) ∧ Below w.heap.size w w' := by
 have RO : Hid (∀ W', Below w.heap.size w W' → Calls Tryz.prog 74 #[.slice p a.key.length cp, .slice q b.key.length cq] W' fun e w' => e = .returned (.int .i64 (rowsV a.key b.key)) ∧ Below W'.heap.size W' w') := fun W' h => Rows_off p q cp cq a.key b.key W' hla (ha.row.below h) (hb.row.below h) ha.fits hb.fits
 have CU : Hid (∀ x y w, Calls Tryz.prog 79 #[.int .u64 x, .int .u64 y] w fun e w' => e = .returned (.int .i64 (cmpI x y)) ∧ w' = w) := CompareU64
 have O2 : Hid (∀ g x y w, intsAt w g [x, y] → Calls Tryz.prog 78 #[.slice (some ⟨g, 0, none⟩) 2 2] w fun e w' => e = .returned (.int .i64 (firstI [x, y])) ∧ w' = w) := fun g x y w h => OrInt g 2 [x, y] w (by simp) h
 have B0 : Hid (∀ o o', Below w.heap.size w ((w.alloc o).alloc o')) := fun o o' => ((Below.refl _ w).alloc (Nat.le_refl _) o).alloc (by simp) o'
 have F0 : Hid _ := Ee.new w (.slice p a.key.length cp) (.int .u64 a.id) (.slice q b.key.length cq) (.int .u64 b.id) 65 65
 rw [← first_ord]
 unfold enV
 clear ha hb
 generalize rowsV a.key b.key = R at *
 generalize a.key.length = la at *
 generalize b.key.length = lb at *
 generalize a.id = ia at *
 generalize b.id = ib at *
 go_enter Tryz.func51, Tryz.ntmps51
 go_wp2_with fail
 have F1 := F0.out
 have B1 := B0.out (.cells #[.slice p la cp, .int .u64 ia] 65) (.cells #[.slice q lb cq, .int .u64 ib] 65)
 clear F0 B0
 generalize (w.alloc (.cells #[.slice p la cp, .int .u64 ia] 65)).alloc (.cells #[.slice q lb cq, .int .u64 ib] 65) = W at *
 obtain ⟨l1, a0, a1, b0, b1⟩ := F1
 go_region_held3 (fun w' => w'.cell? ⟨w.heap.size, 0, none⟩ = some (.slice p la cp) ∧ w'.cell? ⟨w.heap.size, 1, none⟩ = some (.int .u64 ia) ∧ w'.cell? ⟨w.heap.size + 1, 0, none⟩ = some (.slice q lb cq) ∧ w'.cell? ⟨w.heap.size + 1, 1, none⟩ = some (.int .u64 ib)) (first | go_keep | exact ⟨(hb2.cell (p := ⟨w.heap.size, 0, none⟩) (by simp; omega)).trans a0, (hb2.cell (p := ⟨w.heap.size, 1, none⟩) (by simp; omega)).trans a1, (hb2.cell (p := ⟨w.heap.size + 1, 0, none⟩) (by simp; omega)).trans b0, (hb2.cell (p := ⟨w.heap.size + 1, 1, none⟩) (by simp; omega)).trans b1⟩) ((first | (go_at_call 74; refine (RO.out _ (by exact B1.drew)).mono ?_; rintro e w' ⟨rfl, hb2⟩) | (go_at_call 79; refine (CU.out _ _ _).mono ?_; rintro e w' ⟨rfl, rfl⟩) | (go_at_call 78; refine (O2.out _ _ _ _ (by exact intsAt_two _ _ _ _)).mono ?_; rintro e w' ⟨rfl, rfl⟩)))
 all_goals go_wp2_with fail
 all_goals go_ret
 all_goals refine ⟨rfl, ?_⟩
 all_goals
  have B2 := B1.drew.trans (hb2.mono B1.drew.size)
  exact B2.alloc B2.size _
set_option maxHeartbeats 4000000 in
set_option maxRecDepth 1000000 in
theorem onlyEntry1_off (p q : Option Addr) (cp cq g : Nat) (e x : En) (w : World) (hla : e.key.length ≤ 1000) (he : EnAt w p e) (hx : EnOff w q x) (hg : g < w.heap.size) (hc : w.cell? ⟨g, 0, none⟩ = some (.slice q x.key.length cq)) (hd : w.cell? ⟨g, 1, none⟩ = some (.int .u64 x.id)) :
  Calls Tryz.prog 54 #[enV p cp e, .pointer (some ⟨g, 0, none⟩)] w fun r w' => r = .returned (.bool (decide (0 ≤ ordE e x))) ∧ Below w.heap.size w w' := by
 have RO : Hid (∀ W', Below w.heap.size w W' → Calls Tryz.prog 51 #[.agg #[.slice p e.key.length cp, .int .u64 e.id], .agg #[.slice q x.key.length cq, .int .u64 x.id]] W' fun r w' => r = .returned (.int .i64 (ordE e x)) ∧ Below W'.heap.size W' w') := fun W' h => order_off p q cp cq e x W' hla (he.below h) (hx.below h)
 have B0 : Hid (∀ o, Below w.heap.size w (w.alloc o)) := fun o => (Below.refl _ w).alloc (Nat.le_refl _) o
 unfold enV
 clear he hx
 generalize ordE e x = R at *
 generalize e.key.length = la at *
 generalize x.key.length = lb at *
 generalize x.id = ix at *
 generalize e.id = ie at *
 have hc1 : ∀ o, (w.alloc o).cell? ⟨g, 0, none⟩ = some (.slice q lb cq) := fun o => ((B0.out o).cell (p := ⟨g, 0, none⟩) hg).trans hc
 have hd1 : ∀ o, (w.alloc o).cell? ⟨g, 1, none⟩ = some (.int .u64 ix) := fun o => ((B0.out o).cell (p := ⟨g, 1, none⟩) hg).trans hd
 go_enter Tryz.func54, Tryz.ntmps54
 go_wp2_with fail
 refine (RO.out _ (B0.out _)).mono ?_
 rintro r w1 ⟨rfl, hb2⟩
 have B2 := (B0.out (.cells #[.slice p la cp, .int .u64 ie] 65)).trans (hb2.mono (B0.out _).size)
 go_wp2_with fail
 go_ret
 exact ⟨rfl, B2⟩
set_option maxHeartbeats 4000000 in
set_option maxRecDepth 1000000 in
theorem onlyEntry2_off (p q : Option Addr) (cp cq g : Nat) (e x : En) (w : World) (hla : e.key.length ≤ 1000) (he : EnAt w p e) (hx : EnOff w q x) (hg : g < w.heap.size) (hc : w.cell? ⟨g, 0, none⟩ = some (.slice q x.key.length cq)) (hd : w.cell? ⟨g, 1, none⟩ = some (.int .u64 x.id)) :
  Calls Tryz.prog 55 #[enV p cp e, .pointer (some ⟨g, 0, none⟩)] w fun r w' => r = .returned (.bool (decide (ordE e x ≤ 0))) ∧ Below w.heap.size w w' := by
 have RO : Hid (∀ W', Below w.heap.size w W' → Calls Tryz.prog 51 #[.agg #[.slice p e.key.length cp, .int .u64 e.id], .agg #[.slice q x.key.length cq, .int .u64 x.id]] W' fun r w' => r = .returned (.int .i64 (ordE e x)) ∧ Below W'.heap.size W' w') := fun W' h => order_off p q cp cq e x W' hla (he.below h) (hx.below h)
 have B0 : Hid (∀ o, Below w.heap.size w (w.alloc o)) := fun o => (Below.refl _ w).alloc (Nat.le_refl _) o
 unfold enV
 clear he hx
 generalize ordE e x = R at *
 generalize e.key.length = la at *
 generalize x.key.length = lb at *
 generalize x.id = ix at *
 generalize e.id = ie at *
 have hc1 : ∀ o, (w.alloc o).cell? ⟨g, 0, none⟩ = some (.slice q lb cq) := fun o => ((B0.out o).cell (p := ⟨g, 0, none⟩) hg).trans hc
 have hd1 : ∀ o, (w.alloc o).cell? ⟨g, 1, none⟩ = some (.int .u64 ix) := fun o => ((B0.out o).cell (p := ⟨g, 1, none⟩) hg).trans hd
 go_enter Tryz.func55, Tryz.ntmps55
 go_wp2_with fail
 refine (RO.out _ (B0.out _)).mono ?_
 rintro r w1 ⟨rfl, hb2⟩
 have B2 := (B0.out (.cells #[.slice p la cp, .int .u64 ie] 65)).trans (hb2.mono (B0.out _).size)
 go_wp2_with fail
 go_ret
 exact ⟨rfl, B2⟩
theorem end_en1_off {T : Nat → Prop} {w : World} {B : Nat} {q : Option Addr} {y : En} {cq : Nat} (hB : w.heap[B]? = some (.cells #[.slice q y.key.length cq, .int .u64 y.id] 65 (0, 0))) (tB : T B) (hq : EnOff w q y) (tq : ∀ g o, q = some ⟨g, o, none⟩ → T g) :
  EndOk T w 54 #[.pointer (some ⟨B, 0, none⟩)] (fun e => decide (0 ≤ ordE e y)) := by
 refine ⟨enters_of Tryz.func54 (by kernel_rfl) rfl, fun W x hW hx => ?_⟩
 have hb := hW.2 B _ _ _ tB hB
 exact onlyEntry1_off _ q x.c cq B x.e y W (by have := hx.few; omega) hx.at_ ⟨hq.row.keeps tq hW, hq.fits⟩ (lt_of_heap hb) ((cell_of_block hb 0).trans rfl) ((cell_of_block hb 1).trans rfl)
theorem end_en2_off {T : Nat → Prop} {w : World} {B : Nat} {q : Option Addr} {y : En} {cq : Nat} (hB : w.heap[B]? = some (.cells #[.slice q y.key.length cq, .int .u64 y.id] 65 (0, 0))) (tB : T B) (hq : EnOff w q y) (tq : ∀ g o, q = some ⟨g, o, none⟩ → T g) :
  EndOk T w 55 #[.pointer (some ⟨B, 0, none⟩)] (fun e => decide (ordE e y ≤ 0)) := by
 refine ⟨enters_of Tryz.func55 (by kernel_rfl) rfl, fun W x hW hx => ?_⟩
 have hb := hW.2 B _ _ _ tB hB
 exact onlyEntry2_off _ q x.c cq B x.e y W (by have := hx.few; omega) hx.at_ ⟨hq.row.keeps tq hW, hq.fits⟩ (lt_of_heap hb) ((cell_of_block hb 0).trans rfl) ((cell_of_block hb 1).trans rfl)
set_option maxHeartbeats 8000000 in
set_option maxRecDepth 1000000 in
theorem bsf_off (T : Nat → Prop) (es : List Em) (v : Value) (x : En) (px : Option Addr) (cx : Nat) (w : World) (h : entIn T w es v) (hx : EnOff w px x) (hr : Rise ltM es) (hl : es.length ≤ 1000) :
  Calls Tryz.prog 50 #[v, enV px cx x, .func (.func 51) #[] #[]] w fun en w' => en = .returned (.tuple #[.int .i64 (place ltM (tgt x) es : Int), .bool (hereB x es)]) ∧ Below w.heap.size w w' := by
 have eg : ∀ args w, (callFunc 51 args).run Tryz.prog w = .ok (.enter 51 args) w := enters_of Tryz.func51 (by kernel_rfl) rfl
 obtain ⟨⟨p, N, c, xs⟩, e1, e2, e3, e4, e5⟩ := h.pc
 simp only [Pc.v] at e1 e2 e3 e5
 subst e1
 obtain ⟨w0, hw0⟩ : ∃ w0, w0 = w.alloc (.cells #[.slice px x.key.length cx, .int .u64 x.id] 65) := ⟨_, rfl⟩
 have bb : Below w.heap.size w w0 := by rw [hw0]; exact (Below.refl _ w).alloc (Nat.le_refl _) _
 have bx : w0.heap[w.heap.size]? = some (.cells #[.slice px x.key.length cx, .int .u64 x.id] 65 (0, 0)) := by rw [hw0]; exact heap_alloc_new _ _
 -- a comparison at a place
 have CO : Hid (∀ (k : Nat) (y : Em) W, es[k]? = some y → Below w0.heap.size w0 W → ∃ gx ox, p = some ⟨gx, ox, none⟩ ∧ W.cell? ⟨gx, ox + k * 2, none⟩ = some (.slice (some ⟨y.g, 0, none⟩) y.e.key.length y.c) ∧ W.cell? ⟨gx, ox + k * 2 + 1, none⟩ = some (.int .u64 y.e.id) ∧ gx < w0.heap.size ∧ Calls Tryz.prog 51 #[.agg #[.slice (some ⟨y.g, 0, none⟩) y.e.key.length y.c, .int .u64 y.e.id], .agg #[.slice px x.key.length cx, .int .u64 x.id]] W fun en w' => en = .returned (.int .i64 (ordE y.e x)) ∧ Below W.heap.size W w') := fun k y W hk hW => by
  have hi := (List.getElem?_eq_some_iff.1 hk).1
  obtain ⟨gx, ox, rfl⟩ := pc_some e4 (by omega)
  obtain ⟨u0, u1, u2, u3⟩ := ndIn.entry (d := 0) (n := .mk es []) (v2 := .slice none 0 0) ⟨h, rfl, rfl⟩ hk
  have bW : Below w.heap.size w W := bb.trans (hW.mono bb.size)
  exact ⟨gx, ox, rfl, (bW.cell (p := ⟨gx, ox + k * 2, none⟩) u3).trans u0, (bW.cell (p := ⟨gx, ox + k * 2 + 1, none⟩) u3).trans u1, Nat.lt_of_lt_of_le u3 bb.size, order_off _ _ y.c cx y.e x W (by have := u2.few; omega) (u2.at_.below bW) (hx.below bW)⟩
 have BX : Hid (∀ W, Below w0.heap.size w0 W → W.cell? ⟨w.heap.size, 0, none⟩ = some (.slice px x.key.length cx) ∧ W.cell? ⟨w.heap.size, 1, none⟩ = some (.int .u64 x.id)) := fun W hW => by
  have hb := (hW.block _ (lt_of_heap bx)).trans bx
  exact ⟨(cell_of_block hb 0).trans rfl, (cell_of_block hb 1).trans rfl⟩
 have BB := mkHid bb
 have HW0 := mkHid hw0
 have HR := mkHid hr
 have HN := mkHid e2
 have LB := mkHid (lt_of_heap bx)
 obtain ⟨PL, hPL⟩ : ∃ PL, PL = place ltM (tgt x) es := ⟨_, rfl⟩
 obtain ⟨HE, hHE⟩ : ∃ HE, HE = hereB x es := ⟨_, rfl⟩
 rw [← hPL, ← hHE]
 have HPL := mkHid hPL
 have HHE := mkHid hHE
 have hN : N ≤ 1000 := by omega
 have I0 : Hid (BsI x es 0 N) := by rw [e2]; exact BsI.start x es
 unfold enV
 clear h hx hr hl e2 e3 e4 e5 bb bx hw0 hPL hHE
 generalize x.key.length = lx at *
 generalize x.id = ix at *
 go_enter Tryz.func50, Tryz.ntmps50
 go_wp2_with fail
 rw [← HW0.out]
 clear HW0
 go_loopw [9, 10] (fun s9 s10 wr => ∃ i j : Nat, s9 = .int .i64 i ∧ s10 = .int .i64 j ∧ i ≤ j ∧ j ≤ N ∧ Hid (BsI x es i j) ∧ Hid (Below w0.heap.size w0 wr)) (fun s9 s10 _ => (intOf s10).toNat - (intOf s9).toNat)
 case atStart => exact ⟨0, N, rfl, rfl, Nat.zero_le _, Nat.le_refl _, I0, Below.refl _ _⟩
 case round =>
  obtain ⟨i, j, rfl, rfl, hij, hjN, hI, hb⟩ := hrel
  clear I0
  by_cases hlt : i < j
  ·obtain ⟨m, hm⟩ : ∃ m, m = (i + j) / 2 := ⟨_, rfl⟩
   obtain ⟨y, hy⟩ : ∃ y, es[m]? = some y := ⟨_, List.getElem?_eq_getElem (by have := HN.out; omega)⟩
   obtain ⟨gx, ox, rfl, c0, c1, hg, cm⟩ := CO.out m y wr hy hb.out
   obtain ⟨b0, b1⟩ := BX.out wr hb.out
   have CM : Hid (∀ W, Below w0.heap.size w0 W → Calls Tryz.prog 51 #[.agg #[.slice (some ⟨y.g, 0, none⟩) y.e.key.length y.c, .int .u64 y.e.id], .agg #[.slice px lx cx, .int .u64 ix]] W fun en w' => en = .returned (.int .i64 (ordE y.e x)) ∧ Below W.heap.size W w') := fun W hW => by
    obtain ⟨_, _, _, _, _, _, cm⟩ := CO.out m y W hy hW
    exact cm
   have lb : w.heap.size < wr.heap.size := Nat.lt_of_lt_of_le LB.out hb.out.size
   have lg : gx < wr.heap.size := Nat.lt_of_lt_of_le hg hb.out.size
   have HY := mkHid hy
   have HM := mkHid hm
   have m1 : m < N := by omega
   have m2 : (m : Int) < (N : Int) := by omega
   have m3 : (0 : Int) ≤ (m : Int) := by omega
   clear hy hm cm hg CO BX
   go_wp2_with fail
   rw [show ((i : Int) + (j : Int)) / 2 = (m : Int) by have := HM.out; omega]
   obtain ⟨R, hR⟩ : ∃ R, R = ordE y.e x := ⟨_, rfl⟩
   rw [← hR] at CM
   have KB2 : ∀ w2, Below wr.drew.heap.size wr.drew w2 → Hid (Below w0.heap.size w0 w2) := fun w2 h2 => hb.out.drew.trans (h2.mono hb.out.size)
   by_cases hl : R < 0
   ·have NX : Hid (BsI x es (m + 1) j) := hI.out.left HR.out (by have := HM.out; omega) HY.out (by rw [ltE_iff, ← hR]; exact hl)
    have hmj : m + 1 ≤ j := by have := HM.out; omega
    have him : i ≤ m := by have := HM.out; omega
    clear hR hI HY HM HR HPL HHE
    go_region_held3 (fun w' => w'.cell? ⟨gx, ox + m * 2, none⟩ = some (.slice (some ⟨y.g, 0, none⟩) y.e.key.length y.c) ∧ w'.cell? ⟨gx, ox + m * 2 + 1, none⟩ = some (.int .u64 y.e.id) ∧ w'.cell? ⟨w.heap.size, 0, none⟩ = some (.slice px lx cx) ∧ w'.cell? ⟨w.heap.size, 1, none⟩ = some (.int .u64 ix)) (first | go_keep | exact ⟨(hb2.cell (p := ⟨gx, ox + m * 2, none⟩) lg).trans c0, (hb2.cell (p := ⟨gx, ox + m * 2 + 1, none⟩) lg).trans c1, (hb2.cell (p := ⟨w.heap.size, 0, none⟩) lb).trans b0, (hb2.cell (p := ⟨w.heap.size, 1, none⟩) lb).trans b1⟩) ((go_at_fn 51; refine (CM.out _ (by exact hb.out.drew)).mono ?_; rintro e w2 ⟨rfl, hb2⟩))
    go_wp2_with fail
    go_roundw
    case rel => exact ⟨m + 1, j, by go_num, rfl, hmj, hjN, NX, KB2 _ hb2⟩
    case measure => simp [intOf]; omega
   ·have NX : Hid (BsI x es i m) := hI.out.right HR.out (by have := HM.out; omega) (by have := HM.out; omega) HY.out (by rw [ltE_not, ← hR]; omega)
    have hmj : m < j := by have := HM.out; omega
    have him : i ≤ m := by have := HM.out; omega
    clear hR hI HY HM HR HPL HHE
    go_region_held3 (fun w' => w'.cell? ⟨gx, ox + m * 2, none⟩ = some (.slice (some ⟨y.g, 0, none⟩) y.e.key.length y.c) ∧ w'.cell? ⟨gx, ox + m * 2 + 1, none⟩ = some (.int .u64 y.e.id) ∧ w'.cell? ⟨w.heap.size, 0, none⟩ = some (.slice px lx cx) ∧ w'.cell? ⟨w.heap.size, 1, none⟩ = some (.int .u64 ix)) (first | go_keep | exact ⟨(hb2.cell (p := ⟨gx, ox + m * 2, none⟩) lg).trans c0, (hb2.cell (p := ⟨gx, ox + m * 2 + 1, none⟩) lg).trans c1, (hb2.cell (p := ⟨w.heap.size, 0, none⟩) lb).trans b0, (hb2.cell (p := ⟨w.heap.size, 1, none⟩) lb).trans b1⟩) ((go_at_fn 51; refine (CM.out _ (by exact hb.out.drew)).mono ?_; rintro e w2 ⟨rfl, hb2⟩))
    go_wp2_with fail
    go_roundw
    case rel => exact ⟨i, m, rfl, rfl, him, by omega, NX, KB2 _ hb2⟩
    case measure => simp [intOf]; omega
  ·obtain rfl : i = j := by omega
   have hpl : PL = i := by rw [HPL.out]; exact hI.out.done
   subst hpl
   by_cases hiN : PL < N
   ·obtain ⟨y, hy⟩ : ∃ y, es[PL]? = some y := ⟨_, List.getElem?_eq_getElem (by have := HN.out; omega)⟩
    obtain ⟨gx, ox, rfl, c0, c1, hg, cm⟩ := CO.out PL y wr hy hb.out
    obtain ⟨b0, b1⟩ := BX.out wr hb.out
    have CM : Hid (∀ W, Below w0.heap.size w0 W → Calls Tryz.prog 51 #[.agg #[.slice (some ⟨y.g, 0, none⟩) y.e.key.length y.c, .int .u64 y.e.id], .agg #[.slice px lx cx, .int .u64 ix]] W fun en w' => en = .returned (.int .i64 (ordE y.e x)) ∧ Below W.heap.size W w') := fun W hW => by
     obtain ⟨_, _, _, _, _, _, cm⟩ := CO.out PL y W hy hW
     exact cm
    have lb : w.heap.size < wr.heap.size := Nat.lt_of_lt_of_le LB.out hb.out.size
    have lg : gx < wr.heap.size := Nat.lt_of_lt_of_le hg hb.out.size
    have he : HE = decide (ordE y.e x = 0) := by
     rw [HHE.out]
     unfold hereB
     rw [← HPL.out, hy]
     have hyl : ltE y.e x = false := hI.out.up PL y (Nat.le_refl _) hy
     have := ord_of hyl
     show (!(ltE x y.e)) = _
     cases hq : ltE x y.e with
     | false => rw [eq_comm, Bool.not_false, decide_eq_true_eq]; exact this.1 hq
     | true =>
      rw [eq_comm, Bool.not_true, decide_eq_false_iff_not]
      exact fun h => by have := this.2 h; rw [hq] at this; cases this
    obtain ⟨R, hR⟩ : ∃ R, R = ordE y.e x := ⟨_, rfl⟩
    rw [← hR] at CM he
    subst he
    have KB2 : ∀ w2, Below wr.drew.heap.size wr.drew w2 → Below w.heap.size w w2 := fun w2 h2 => BB.out.trans ((hb.out.drew.trans (h2.mono hb.out.size)).mono BB.out.size)
    have i1 : (PL : Int) < (N : Int) := by omega
    have hd : decide ((PL : Int) < (N : Int)) = true := by simp; omega
    clear hR hI HR HPL HHE hy cm hg CO BX HN
    have KS : Hid (∀ w', Below wr.heap.size wr w' → w'.cell? ⟨gx, ox + PL * 2, none⟩ = some (.slice (some ⟨y.g, 0, none⟩) y.e.key.length y.c) ∧ w'.cell? ⟨gx, ox + PL * 2 + 1, none⟩ = some (.int .u64 y.e.id) ∧ w'.cell? ⟨w.heap.size, 0, none⟩ = some (.slice px lx cx) ∧ w'.cell? ⟨w.heap.size, 1, none⟩ = some (.int .u64 ix)) := fun w' hb2 => ⟨(hb2.cell (p := ⟨gx, ox + PL * 2, none⟩) lg).trans c0, (hb2.cell (p := ⟨gx, ox + PL * 2 + 1, none⟩) lg).trans c1, (hb2.cell (p := ⟨w.heap.size, 0, none⟩) lb).trans b0, (hb2.cell (p := ⟨w.heap.size, 1, none⟩) lb).trans b1⟩
    have i2 : (0 : Int) ≤ (PL : Int) := by omega
    have hRz : (R == 0) = decide (R = 0) := by by_cases hz : R = 0 <;> simp [hz]
    go_wp2_with fail
    refine wp_region_noPanic ?_
    refine wp_region_held_drew (S := fun w' : World => w'.cell? ⟨gx, ox + PL * 2, none⟩ = some (.slice (some ⟨y.g, 0, none⟩) y.e.key.length y.c) ∧ w'.cell? ⟨gx, ox + PL * 2 + 1, none⟩ = some (.int .u64 y.e.id) ∧ w'.cell? ⟨w.heap.size, 0, none⟩ = some (.slice px lx cx) ∧ w'.cell? ⟨w.heap.size, 1, none⟩ = some (.int .u64 ix)) (by kernel_rfl) (KS.out _ (Below.refl _ _).drew) (fun hH => ?_)
    refine tKx (i := 0) (v := .int .i64 ((PL : Int))) rfl rfl (by kernel_rfl) (fun _ _ _ h => h) ?_ hH ?_
    ·intro w5 hSw; obtain ⟨s0, s1, s2, s3⟩ := hSw; go_simp
    simp only [zA9, zB9, zC9]
    refine tKx (i := 1) (v := .int .i64 ((PL : Int))) rfl rfl (by kernel_rfl) (fun _ _ _ h => h) ?_ hH ?_
    ·intro w5 hSw; obtain ⟨s0, s1, s2, s3⟩ := hSw; go_simp
    simp only [zA9, zB9, zC9]
    refine tKx (i := 2) (v := .int .i64 ((N : Int))) rfl rfl (by kernel_rfl) (fun _ _ _ h => h) ?_ hH ?_
    ·intro w5 hSw; obtain ⟨s0, s1, s2, s3⟩ := hSw; go_simp
    simp only [zA9, zB9, zC9]
    refine tKx (i := 3) (v := .bool true) rfl rfl (by kernel_rfl) (fun _ _ _ h => h) ?_ hH ?_
    ·intro w5 hSw; obtain ⟨s0, s1, s2, s3⟩ := hSw; go_simp
    simp only [zA9, zB9, zC9]
    refine tKx (i := 4) (v := .bool true) rfl rfl (by kernel_rfl) (fun _ _ _ h => h) ?_ hH ?_
    ·intro w5 hSw; obtain ⟨s0, s1, s2, s3⟩ := hSw; go_simp
    simp only [zA9, zB9, zC9]
    refine tKx (i := 5) (v := .func (.func 51) #[] #[]) rfl rfl (by kernel_rfl) (fun _ _ _ h => h) ?_ hH ?_
    ·intro w5 hSw; obtain ⟨s0, s1, s2, s3⟩ := hSw; go_simp
    simp only [zA9, zB9, zC9]
    refine tKx (i := 6) (v := .slice (some ⟨gx, ox, none⟩) N c) rfl rfl (by kernel_rfl) (fun _ _ _ h => h) ?_ hH ?_
    ·intro w5 hSw; obtain ⟨s0, s1, s2, s3⟩ := hSw; go_simp
    simp only [zA9, zB9, zC9]
    refine tKx (i := 7) (v := .int .i64 ((PL : Int))) rfl rfl (by kernel_rfl) (fun _ _ _ h => h) ?_ hH ?_
    ·intro w5 hSw; obtain ⟨s0, s1, s2, s3⟩ := hSw; go_simp
    simp only [zA9, zB9, zC9]
    refine tKx (i := 8) (v := .pointer (some ⟨gx, ox + PL * 2, none⟩)) rfl rfl (by kernel_rfl) (fun _ _ _ h => h) ?_ hH ?_
    ·intro w5 hSw; obtain ⟨s0, s1, s2, s3⟩ := hSw; go_simp
    simp only [zA9, zB9, zC9]
    refine tKx (i := 9) (v := .agg #[.slice (some ⟨y.g, 0, none⟩) y.e.key.length y.c, .int .u64 y.e.id]) rfl rfl (by kernel_rfl) (fun _ _ _ h => h) ?_ hH ?_
    ·intro w5 hSw; obtain ⟨s0, s1, s2, s3⟩ := hSw; go_simp
    simp only [zA9, zB9, zC9]
    refine tKx (i := 10) (v := .agg #[.slice px lx cx, .int .u64 ix]) rfl rfl (by kernel_rfl) (fun _ _ _ h => h) ?_ hH ?_
    ·intro w5 hSw; obtain ⟨s0, s1, s2, s3⟩ := hSw; go_simp
    simp only [zA9, zB9, zC9]
    have KB := mkHid ((Below.refl wr.heap.size wr).drew)
    generalize hW0 : wr.drew = W0 at KB hH ⊢
    refine wpAnyH_ready (rs := [11]) (by kernel_rfl) (by simp) ?_
    refine AllReadyH.cons rfl (fun K hK => ?_) AllReadyH.nil
    go_simp
    go_at_fn 51
    refine (CM.out _ (hb.out.trans (KB.out.mono hb.out.size))).mono ?_
    rintro e V1 ⟨rfl, hb2⟩
    go_wp2_with fail
    refine hK.out _ _ (KS.out _ (KB.out.trans (hb2.mono KB.out.size))) (fun hH => ?_)
    clear hK K
    replace KB := mkHid (KB.out.trans (hb2.mono KB.out.size))
    clear hb2
    refine tKx (i := 12) (v := .bool (decide (R = 0))) rfl rfl (by kernel_rfl) (fun _ _ _ h => h) ?_ hH ?_
    ·intro w5 hSw; obtain ⟨s0, s1, s2, s3⟩ := hSw; go_simp
    simp only [zA9, zB9, zC9]
    refine tKx (i := 13) (v := .bool (decide (R = 0))) rfl rfl (by kernel_rfl) (fun _ _ _ h => h) ?_ hH ?_
    ·intro w5 hSw; obtain ⟨s0, s1, s2, s3⟩ := hSw; go_simp
    simp only [zA9, zB9, zC9]
    refine wpAnyH_ready (rs := [14]) (by kernel_rfl) (by simp) ?_
    refine AllReadyH.cons rfl (fun K hK => ?_) AllReadyH.nil
    ·go_simp
     refine hK.out _ _ (KS.out _ KB.out) (fun hH => ?_)
     clear hK K
     refine wpAnyH_ready (rs := [15]) (by kernel_rfl) (by simp) ?_
     refine AllReadyH.cons rfl (fun K hK => ?_) AllReadyH.nil
     ·go_simp
      refine hK.out _ _ (KS.out _ KB.out) (fun hH => ?_)
      clear hK K
      refine wpAnyH_done (by kernel_rfl) ?_ _
      refine NoPanic.normal ?_
      have FN := BB.out.trans ((hb.out.trans (KB.out.mono hb.out.size)).mono BB.out.size)
      clear KB KS hH
      go_wp2_with fail
      refine bodyPost_ret (v := .tuple #[.int .i64 (PL : Int), .bool (decide (R = 0))]) (by simp [results, Tryz.results50, go_sem]) rfl ?_
      exact ⟨rfl, FN⟩
   ·have he : HE = false := by
     rw [HHE.out]
     unfold hereB
     rw [← HPL.out, List.getElem?_eq_none (by have := HN.out; omega)]
    subst he
    have i1 : ¬ (PL : Int) < (N : Int) := by omega
    clear hI HR HPL HHE CO BX HN
    go_wp2_with fail
    refine wp_region_noPanic ?_
    refine wp_region_held_drew (S := fun w' : World => True) (by kernel_rfl) trivial (fun hH => ?_)
    refine tKx (i := 0) (v := .int .i64 ((PL : Int))) rfl rfl (by kernel_rfl) (fun _ _ _ h => h) ?_ hH ?_
    ·intro w5 hSw; go_simp
    simp only [zA9, zB9, zC9]
    refine tKx (i := 1) (v := .int .i64 ((PL : Int))) rfl rfl (by kernel_rfl) (fun _ _ _ h => h) ?_ hH ?_
    ·intro w5 hSw; go_simp
    simp only [zA9, zB9, zC9]
    refine tKx (i := 2) (v := .int .i64 ((N : Int))) rfl rfl (by kernel_rfl) (fun _ _ _ h => h) ?_ hH ?_
    ·intro w5 hSw; go_simp
    simp only [zA9, zB9, zC9]
    refine tKx (i := 3) (v := .bool false) rfl rfl (by kernel_rfl) (fun _ _ _ h => h) ?_ hH ?_
    ·intro w5 hSw; go_simp
    simp only [zA9, zB9, zC9]
    refine tKx (i := 4) (v := .bool false) rfl rfl (by kernel_rfl) (fun _ _ _ h => h) ?_ hH ?_
    ·intro w5 hSw; go_simp
    simp only [zA9, zB9, zC9]
    refine take_at (i := 5) (v := undef) rfl rfl (by kernel_rfl) (by kernel_rfl) (by kernel_rfl) (fun _ _ _ h => h) (Or.inr ⟨by rfl, rfl⟩) hH ?_
    simp only [zA9, zB9, zC9]
    refine take_at (i := 6) (v := undef) rfl rfl (by kernel_rfl) (by kernel_rfl) (by kernel_rfl) (fun _ _ _ h => h) (Or.inr ⟨by rfl, rfl⟩) hH ?_
    simp only [zA9, zB9, zC9]
    refine take_at (i := 7) (v := undef) rfl rfl (by kernel_rfl) (by kernel_rfl) (by kernel_rfl) (fun _ _ _ h => h) (Or.inr ⟨by rfl, rfl⟩) hH ?_
    simp only [zA9, zB9, zC9]
    refine take_at (i := 8) (v := undef) rfl rfl (by kernel_rfl) (by kernel_rfl) (by kernel_rfl) (fun _ _ _ h => h) (Or.inr ⟨by rfl, rfl⟩) hH ?_
    simp only [zA9, zB9, zC9]
    refine take_at (i := 9) (v := undef) rfl rfl (by kernel_rfl) (by kernel_rfl) (by kernel_rfl) (fun _ _ _ h => h) (Or.inr ⟨by rfl, rfl⟩) hH ?_
    simp only [zA9, zB9, zC9]
    refine take_at (i := 10) (v := undef) rfl rfl (by kernel_rfl) (by kernel_rfl) (by kernel_rfl) (fun _ _ _ h => h) (Or.inr ⟨by rfl, rfl⟩) hH ?_
    simp only [zA9, zB9, zC9]
    refine take_at (i := 11) (v := undef) rfl rfl (by kernel_rfl) (by kernel_rfl) (by kernel_rfl) (fun _ _ _ h => h) (Or.inr ⟨by rfl, rfl⟩) hH ?_
    simp only [zA9, zB9, zC9]
    refine take_at (i := 12) (v := undef) rfl rfl (by kernel_rfl) (by kernel_rfl) (by kernel_rfl) (fun _ _ _ h => h) (Or.inr ⟨by rfl, rfl⟩) hH ?_
    simp only [zA9, zB9, zC9]
    refine tKx (i := 13) (v := .bool false) rfl rfl (by kernel_rfl) (fun _ _ _ h => h) ?_ hH ?_
    ·intro w5 hSw; go_simp
    simp only [zA9, zB9, zC9]
    have KB := mkHid ((Below.refl wr.heap.size wr).drew)
    generalize hW0 : wr.drew = W0 at KB hH ⊢
    refine wpAnyH_ready (rs := [14]) (by kernel_rfl) (by simp) ?_
    refine AllReadyH.cons rfl (fun K hK => ?_) AllReadyH.nil
    ·go_simp
     refine hK.out _ _ trivial (fun hH => ?_)
     clear hK K
     refine wpAnyH_ready (rs := [15]) (by kernel_rfl) (by simp) ?_
     refine AllReadyH.cons rfl (fun K hK => ?_) AllReadyH.nil
     ·go_simp
      refine hK.out _ _ trivial (fun hH => ?_)
      clear hK K
      refine wpAnyH_done (by kernel_rfl) ?_ _
      refine NoPanic.normal ?_
      have FN := BB.out.trans ((hb.out.trans (KB.out.mono hb.out.size)).mono BB.out.size)
      clear KB hH
      go_wp2_with fail
      refine bodyPost_ret (v := .tuple #[.int .i64 (PL : Int), .bool false]) (by simp [results, Tryz.results50, go_sem]) rfl ?_
      exact ⟨rfl, FN⟩
end Go.Proofs.YtclcajnodoifjaaGreatDoor

