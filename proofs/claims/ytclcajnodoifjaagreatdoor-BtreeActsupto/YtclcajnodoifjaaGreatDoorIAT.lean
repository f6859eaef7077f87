/-
 Rows that stand at any place of their block: what came in; the law's copied of them.
-/
import Derived.Test.YtclcajnodoifjaaGreatDoorIAS
namespace Go.Proofs.YtclcajnodoifjaaGreatDoor
open Go.RowKit Go.Shelf Go.Joins Go.Maps
set_option maxRecDepth 100000

/-- a row that came in: at any place of its block -/
def rowOff (w : World) (p : Option Addr) (l : List Va) : Prop := l = [] ∨ ∃ g off, p = some ⟨g, off, none⟩ ∧ g < w.heap.size ∧ ∀ j u, (fl vaE l)[j]? = some u → w.cell? ⟨g, off + j, none⟩ = some u
theorem rowOff.below {w w' : World} {p : Option Addr} {l : List Va} (h : rowOff w p l) (hb : Below w.heap.size w w') : rowOff w' p l := by
 rcases h with h | ⟨g, off, h1, h2, h3⟩
 ·exact Or.inl h
 ·exact Or.inr ⟨g, off, h1, Nat.lt_of_lt_of_le h2 hb.size, fun j u hj => (hb.cell (p := ⟨g, off + j, none⟩) h2).trans (h3 j u hj)⟩
theorem rowAt.off {w : World} {p : Option Addr} {l : List Va} (h : rowAt w p l) : rowOff w p l := by
 rcases h with h | ⟨g, h1, h2⟩
 ·exact Or.inl h
 ·exact Or.inr ⟨g, 0, h1, h2.1, fun j u hj => by rw [Nat.zero_add]; exact h2.cells j u hj⟩
/-- a value of it -/
theorem rowOff.get {w : World} {p : Option Addr} {l : List Va} (h : rowOff w p l) {i : Nat} {v : Va} (hi : l[i]? = some v) : ∃ g off, p = some ⟨g, off, none⟩ ∧ g < w.heap.size ∧ w.cell? ⟨g, off + i * 3, none⟩ = some (.int .i64 v.ty) ∧ w.cell? ⟨g, off + i * 3 + 1, none⟩ = some (.int .i64 v.n) ∧ w.cell? ⟨g, off + i * 3 + 2, none⟩ = some (.string v.s) := by
 rcases h with h | ⟨g, off, h1, h2, h3⟩
 ·rw [h] at hi; cases hi
 ·have q := fun r (hr : r < 3) => fl_get (enc := vaE) (s := 3) (fun _ => rfl) l i v r hi hr
  exact ⟨g, off, h1, h2, h3 _ _ (q 0 (by omega)), by rw [Nat.add_assoc]; exact h3 _ _ (q 1 (by omega)), by rw [Nat.add_assoc]; exact h3 _ _ (q 2 (by omega))⟩
set_option maxHeartbeats 4000000 in
set_option maxRecDepth 1000000 in
theorem copied_off1 (ad : Addr) (k : List Va) (c : Nat) (w : World) (hk : ∀ j u, (fl vaE k)[j]? = some u → w.cell? (ad.add j) = some u) (h0 : 0 < k.length) (hl : k.length ≤ 1000000000) :
  Calls Tryz.prog 15 #[.slice (some ad) k.length c] w fun e w' => ∃ cap, e = .returned (.slice (some ⟨w.heap.size + 1, 0, none⟩) k.length cap) ∧ valsAt w' (w.heap.size + 1) k ∧ (∃ cs, w'.heap[w.heap.size + 1]? = some (.cells cs 40 (0, 0))) ∧ Below w.heap.size w w' := by
 obtain ⟨cap, w2, r, s, g, z⟩ := rwVa.clone w ad k.length c (fl vaE k) (fl_len (enc := vaE) (s := 3) (fun _ => rfl) k) hk h0 hl
 have HR : Hid (valsAt w2 (w.heap.size + 1) k ∧ (∃ cs, w2.heap[w.heap.size + 1]? = some (.cells cs 40 (0, 0))) ∧ Below w.heap.size w w2) := ⟨(clone_vals s (by omega)).1, blk_of_shr s, below_none g (Nat.le_refl _)⟩
 obtain ⟨n, hn⟩ : ∃ n, n = k.length := ⟨_, rfl⟩
 rw [← hn] at r ⊢
 clear s g z hk h0 hl hn
 go_enter Tryz.func15, Tryz.ntmps15
 go_wp2_with (at_builtin; refine wp_app 30 rfl (.tmp 3) (.tmp 4) rfl rfl rfl r ?_)
 go_ret
 exact ⟨cap, rfl, HR.out⟩
/-- a copy of any row that came in, with its block -/
theorem copied_off (P : Option Addr) (C : Nat) (k : List Va) (w : World) (hk : rowOff w P k) (hl : k.length ≤ 1000000000) :
  Calls Tryz.prog 15 #[.slice P k.length C] w fun e w' => ∃ g d, e = .returned (.slice (some ⟨g, 0, none⟩) k.length d) ∧ w.heap.size ≤ g ∧ rowAt w' (some ⟨g, 0, none⟩) k ∧ (∃ cs, w'.heap[g]? = some (.cells cs 40 (0, 0)) ∧ 3 * k.length ≤ cs.size) ∧ Below w.heap.size w w' := by
 cases k with
 | nil => exact (copied_blk0 P C w).mono (fun e w' h => by
   obtain ⟨h1, h2, ⟨cs, h3⟩, h4⟩ := h
   exact ⟨_, _, h1, Nat.le_refl _, Or.inl rfl, ⟨cs, h3, Nat.zero_le _⟩, h4⟩)
 | cons v k =>
  obtain ⟨g, off, rfl, hg, hv⟩ : ∃ g off, P = some ⟨g, off, none⟩ ∧ g < w.heap.size ∧ ∀ j u, (fl vaE (v :: k))[j]? = some u → w.cell? ⟨g, off + j, none⟩ = some u := by
   rcases hk with h | h
   ·cases h
   ·exact h
  refine (copied_off1 ⟨g, off, none⟩ (v :: k) C w (fun j u hj => by rw [add_plain]; exact hv j u hj) (by simp) hl).mono (fun e w' h => ?_)
  obtain ⟨cap, h1, h2, ⟨cs, h3⟩, h4⟩ := h
  exact ⟨_, _, h1, by omega, Or.inr ⟨_, rfl, h2⟩, ⟨cs, h3, blk_size h2 h3⟩, h4⟩
set_option maxHeartbeats 4000000 in
set_option maxRecDepth 1000000 in
theorem refRows_off (p q : Option Addr) (cp cq : Nat) (la lb : List Va) (w : World) (hla : la.length ≤ 1000) (hp : rowAt w p la) (hq : rowOff w q lb) (fa : ∀ v ∈ la, fit v.n) (fb : ∀ v ∈ lb, fit v.n) :
  Calls Tryz.prog 18 #[.slice p la.length cp, .slice q lb.length cq] w fun e w' => e = .returned (.int .i64 (rowsV la lb)) ∧ Below w.heap.size w w' := by
 obtain ⟨E, hE⟩ : ∃ E, E = rowsV la lb := ⟨_, rfl⟩
 rw [← hE]
 have HE : Hid (E = rowsV la lb) := hE
 clear hE
 have CI : Hid (∀ x y w, Calls Tryz.prog 43 #[.int .i64 x, .int .i64 y] w fun e w' => e = .returned (.int .i64 (cmpI x y)) ∧ w' = w) := ints_any
 go_enter Tryz.func18, Tryz.ntmps18
 go_wp2_with fail
 go_loopw [5] (fun sk wr => ∃ k : Nat, sk = .int .i64 k ∧ k ≤ la.length ∧ k ≤ lb.length ∧ Hid (E = rowsV (la.drop k) (lb.drop k)) ∧ Below w.heap.size w wr) (fun sk _ => la.length - (intOf sk).toNat)
 case atStart => exact ⟨0, rfl, Nat.zero_le _, Nat.zero_le _, HE, Below.refl _ _⟩
 case round =>
  obtain ⟨k, rfl, hk, hk2, hd, hb⟩ := hrel
  clear HE
  by_cases hlt : k < la.length ∧ k < lb.length
  ·obtain ⟨hl1, hl2⟩ := hlt
   obtain ⟨a, hak⟩ : ∃ v, la[k]? = some v := ⟨la[k], List.getElem?_eq_getElem hl1⟩
   obtain ⟨b, hbk⟩ : ∃ v, lb[k]? = some v := ⟨lb[k], List.getElem?_eq_getElem hl2⟩
   obtain ⟨g, rfl, hvg⟩ := hp.get hak
   obtain ⟨h, oh, rfl, hvh, m1, m2, m3⟩ := hq.get hbk
   obtain ⟨c1, c2, c3⟩ := hvg.2 k a hak
   have d1 := (hb.cell (p := ⟨g, k * 3, none⟩) hvg.1).trans c1
   have d2 := (hb.cell (p := ⟨g, k * 3 + 1, none⟩) hvg.1).trans c2
   have d3 := (hb.cell (p := ⟨g, k * 3 + 2, none⟩) hvg.1).trans c3
   have e1 := (hb.cell (p := ⟨h, oh + k * 3, none⟩) hvh).trans m1
   have e2 := (hb.cell (p := ⟨h, oh + k * 3 + 1, none⟩) hvh).trans m2
   have e3 := (hb.cell (p := ⟨h, oh + k * 3 + 2, none⟩) hvh).trans m3
   have hgw : g < wr.heap.size := Nat.lt_of_lt_of_le hvg.1 hb.size
   have hhw : h < wr.heap.size := Nat.lt_of_lt_of_le hvh hb.size
   have OO : Hid (∀ w, Calls Tryz.prog 42 #[.agg #[.int .i64 a.ty, .int .i64 a.n, .string a.s], .agg #[.int .i64 b.ty, .int .i64 b.n, .string b.s]] w fun e w' => e = .returned (.int .i64 (ordV a b)) ∧ Below w.heap.size w w') := fun w => refOrder_any a b w (fa a (List.mem_of_getElem? hak)) (fb b (List.mem_of_getElem? hbk))
   rw [drop_at hak, drop_at hbk] at hd
   clear c1 c2 c3 m1 m2 m3 hak hbk hvg hvh hp hq fa fb
   by_cases h0 : ordV a b = 0
   ·have hd2 : Hid (E = rowsV (la.drop (k + 1)) (lb.drop (k + 1))) := by show _ = _; rw [hd.out, rowsV, if_pos h0]
    rw [h0] at OO
    clear hd h0
    go_wp2_with fail
    go_region_held3 (fun w' => w'.cell? ⟨g, k * 3, none⟩ = some (.int .i64 a.ty) ∧ w'.cell? ⟨g, k * 3 + 1, none⟩ = some (.int .i64 a.n) ∧ w'.cell? ⟨g, k * 3 + 2, none⟩ = some (.string a.s) ∧ w'.cell? ⟨h, oh + k * 3, none⟩ = some (.int .i64 b.ty) ∧ w'.cell? ⟨h, oh + k * 3 + 1, none⟩ = some (.int .i64 b.n) ∧ w'.cell? ⟨h, oh + k * 3 + 2, none⟩ = some (.string b.s)) (first | go_keep | exact ⟨(hb2.cell (p := ⟨g, k * 3, none⟩) hgw).trans d1, (hb2.cell (p := ⟨g, k * 3 + 1, none⟩) hgw).trans d2, (hb2.cell (p := ⟨g, k * 3 + 2, none⟩) hgw).trans d3, (hb2.cell (p := ⟨h, oh + k * 3, none⟩) hhw).trans e1, (hb2.cell (p := ⟨h, oh + k * 3 + 1, none⟩) hhw).trans e2, (hb2.cell (p := ⟨h, oh + k * 3 + 2, none⟩) hhw).trans e3⟩) ((go_at_call 42; refine (OO.out _).mono ?_; rintro e w1 ⟨rfl, hb2⟩))
    go_wp2_with fail
    go_roundw
    case rel => exact ⟨k + 1, by go_num, hl1, hl2, hd2, hb.drew.trans (hb2.mono (by simpa using hb.size))⟩
    case measure => simp [intOf]; omega
   ·have hd2 : E = ordV a b := by rw [hd.out, rowsV, if_neg h0]
    have h1 : (ordV a b != 0) = true := by rw [bne_iff_ne]; exact h0
    subst hd2
    clear hd h0
    go_wp2_with fail
    go_region_held3 (fun w' => w'.cell? ⟨g, k * 3, none⟩ = some (.int .i64 a.ty) ∧ w'.cell? ⟨g, k * 3 + 1, none⟩ = some (.int .i64 a.n) ∧ w'.cell? ⟨g, k * 3 + 2, none⟩ = some (.string a.s) ∧ w'.cell? ⟨h, oh + k * 3, none⟩ = some (.int .i64 b.ty) ∧ w'.cell? ⟨h, oh + k * 3 + 1, none⟩ = some (.int .i64 b.n) ∧ w'.cell? ⟨h, oh + k * 3 + 2, none⟩ = some (.string b.s)) (first | go_keep | exact ⟨(hb2.cell (p := ⟨g, k * 3, none⟩) hgw).trans d1, (hb2.cell (p := ⟨g, k * 3 + 1, none⟩) hgw).trans d2, (hb2.cell (p := ⟨g, k * 3 + 2, none⟩) hgw).trans d3, (hb2.cell (p := ⟨h, oh + k * 3, none⟩) hhw).trans e1, (hb2.cell (p := ⟨h, oh + k * 3 + 1, none⟩) hhw).trans e2, (hb2.cell (p := ⟨h, oh + k * 3 + 2, none⟩) hhw).trans e3⟩) ((go_at_call 42; refine (OO.out _).mono ?_; rintro e w1 ⟨rfl, hb2⟩))
    go_wp2_with fail
    go_ret
    exact ⟨rfl, hb.drew.trans (hb2.mono (by simpa using hb.size))⟩
  ·have hE : E = cmpI la.length lb.length := by rw [hd.out]; exact rows_out hk hk2 hlt
   subst hE
   clear hd
   have hcs : ¬ k < la.length ∨ (k < la.length ∧ ¬ k < lb.length) := by omega
   clear hlt
   rcases hcs with hx | ⟨hx, hy⟩
   ·go_wp2_with fail
    refine (CI.out _ _ _).mono ?_
    rintro e wx ⟨rfl, hwx⟩; have hwx2 := hwx.symm; subst hwx2; clear hwx
    go_wp2_with fail
    go_ret
    exact ⟨rfl, hb⟩
   ·go_wp2_with fail
    refine (CI.out _ _ _).mono ?_
    rintro e wx ⟨rfl, hwx⟩; have hwx2 := hwx.symm; subst hwx2; clear hwx
    go_wp2_with fail
    go_ret
    exact ⟨rfl, hb⟩

set_option maxHeartbeats 4000000 in
set_option maxRecDepth 1000000 in
theorem docOrder_off (p q : Option Addr) (cp cq : Nat) (a b : En) (w : World) (hla : a.key.length ≤ 1000) (ha : EnAt w p a) (hb : rowOff w q b.key) (fb : ∀ v ∈ b.key, fit v.n) :
  Calls Tryz.prog 44 #[enV p cp a, enV q cq b] w fun e w' => e = .returned (.int .i64 (ordE a b)) ∧ Below w.heap.size w w' := by
 have RO : Hid (∀ W', Below w.heap.size w W' → Calls Tryz.prog 18 #[.slice p a.key.length cp, .slice q b.key.length cq] W' fun e w' => e = .returned (.int .i64 (rowsV a.key b.key)) ∧ Below W'.heap.size W' w') := fun W' h => refRows_off p q cp cq a.key b.key W' hla (ha.row.below h) (hb.below h) ha.fits fb
 have B0 : Hid (∀ o o', Below w.heap.size w ((w.alloc o).alloc o')) := fun o o' => ((Below.refl _ w).alloc (Nat.le_refl _) o).alloc (by simp) o'
 have F0 : Hid _ := Ee.new w (.slice p a.key.length cp) (.int .u64 a.id) (.slice q b.key.length cq) (.int .u64 b.id) 54 54
 unfold enV
 unfold ordE
 clear ha hb
 generalize rowsV a.key b.key = R at *
 generalize a.key.length = la at *
 generalize b.key.length = lb at *
 generalize a.id = ia at *
 generalize b.id = ib at *
 by_cases hR : R = 0
 ·rw [if_pos hR]
  subst hR
  by_cases h1 : ia < ib
  ·rw [cmpI_lt h1]
   go_enter Tryz.func44, Tryz.ntmps44
   go_wp2_with fail
   refine (RO.out _ (B0.out _ _)).mono ?_
   rintro e w1 ⟨rfl, hb2⟩
   have F1 := F0.out
   have B1 := B0.out (.cells #[.slice p la cp, .int .u64 ia] 54) (.cells #[.slice q lb cq, .int .u64 ib] 54)
   have B2 := B1.trans (hb2.mono B1.size)
   have a1 := (hb2.cell (p := ⟨w.heap.size, 1, none⟩) (show w.heap.size < _ from Nat.lt_trans (Nat.lt_succ_self _) F1.lt)).trans F1.a1
   have b1 := (hb2.cell (p := ⟨w.heap.size + 1, 1, none⟩) F1.lt).trans F1.b1
   clear F0 B0 F1 B1 hb2
   go_wp2_with fail
   go_ret
   exact ⟨rfl, B2⟩
  ·by_cases h2 : ib < ia
   ·rw [cmpI_gt h2]
    go_enter Tryz.func44, Tryz.ntmps44
    go_wp2_with fail
    refine (RO.out _ (B0.out _ _)).mono ?_
    rintro e w1 ⟨rfl, hb2⟩
    have F1 := F0.out
    have B1 := B0.out (.cells #[.slice p la cp, .int .u64 ia] 54) (.cells #[.slice q lb cq, .int .u64 ib] 54)
    have B2 := B1.trans (hb2.mono B1.size)
    have a1 := (hb2.cell (p := ⟨w.heap.size, 1, none⟩) (show w.heap.size < _ from Nat.lt_trans (Nat.lt_succ_self _) F1.lt)).trans F1.a1
    have b1 := (hb2.cell (p := ⟨w.heap.size + 1, 1, none⟩) F1.lt).trans F1.b1
    clear F0 B0 F1 B1 hb2
    go_wp2_with fail
    go_ret
    exact ⟨rfl, B2⟩
   ·rw [cmpI_eq (by omega)]
    go_enter Tryz.func44, Tryz.ntmps44
    go_wp2_with fail
    refine (RO.out _ (B0.out _ _)).mono ?_
    rintro e w1 ⟨rfl, hb2⟩
    have F1 := F0.out
    have B1 := B0.out (.cells #[.slice p la cp, .int .u64 ia] 54) (.cells #[.slice q lb cq, .int .u64 ib] 54)
    have B2 := B1.trans (hb2.mono B1.size)
    have a1 := (hb2.cell (p := ⟨w.heap.size, 1, none⟩) (show w.heap.size < _ from Nat.lt_trans (Nat.lt_succ_self _) F1.lt)).trans F1.a1
    have b1 := (hb2.cell (p := ⟨w.heap.size + 1, 1, none⟩) F1.lt).trans F1.b1
    clear F0 B0 F1 B1 hb2
    go_wp2_with fail
    go_ret
    exact ⟨rfl, B2⟩
 ·rw [if_neg hR]
  have hne : (R == 0) = false := by simp [hR]
  go_enter Tryz.func44, Tryz.ntmps44
  go_wp2_with fail
  refine (RO.out _ (B0.out _ _)).mono ?_
  rintro e w1 ⟨rfl, hb2⟩
  have B1 := B0.out (.cells #[.slice p la cp, .int .u64 ia] 54) (.cells #[.slice q lb cq, .int .u64 ib] 54)
  have B2 := B1.trans (hb2.mono B1.size)
  clear F0 B0 B1 hb2
  go_wp2_with fail
  go_ret
  exact ⟨rfl, B2⟩
end Go.Proofs.YtclcajnodoifjaaGreatDoor

namespace Go.Proofs.YtclcajnodoifjaaGreatDoor
open Go.RowKit Go.Shelf Go.Joins Go.Maps
set_option maxRecDepth 100000

set_option maxHeartbeats 8000000 in
set_option maxRecDepth 1000000 in
theorem bounds_off (P1 P2 : Option Addr) (C1 C2 : Nat) (low high : List Va) (li hi : Bool) (w : World) (h1 : rowOff w P1 low) (h2 : rowOff w P2 high) (z1 : low.length ≤ 1000000000) (z2 : high.length ≤ 1000000000) :
  Calls Tryz.prog 31 #[.agg #[.slice P1 low.length C1, .slice P2 high.length C2, .bool li, .bool hi]] w fun e w' => ∃ q1 d1 q2 d2, e = .returned (.agg #[.slice (some q1) low.length d1, .slice (some q2) high.length d2, .bool li, .bool hi]) ∧ RowF w w' (some q1) low ∧ RowF w w' (some q2) high ∧ Below w.heap.size w w' := by
 obtain ⟨w0, hw0⟩ : ∃ w0, w0 = (w.alloc (.cells #[.slice P1 low.length C1, .slice P2 high.length C2, .bool li, .bool hi] 33)).alloc (.cells #[.slice none 0 0, .slice none 0 0, .bool false, .bool false] 33) := ⟨_, rfl⟩
 obtain ⟨d0, d1, bb, bs⟩ := bx2 w (.cells #[.slice P1 low.length C1, .slice P2 high.length C2, .bool li, .bool hi] 33) (.cells #[.slice none 0 0, .slice none 0 0, .bool false, .bool false] 33)
 rw [← hw0] at d0 d1 bb bs
 have CL1 : Hid (∀ W, Below w0.heap.size w0 W → Calls Tryz.prog 15 #[.slice P1 low.length C1] W fun e w' => ∃ p d, e = .returned (.slice (some p) low.length d) ∧ RowF w0 w' (some p) low ∧ Below W.heap.size W w') := fun W hW => (copied_off P1 C1 low W ((h1.below bb).below hW) z1).mono (fun e w' h => by obtain ⟨g, d, e1, e2, e3, _, e4⟩ := h; exact ⟨_, d, e1, ⟨e3, fun g hg => by cases hg; exact Nat.le_trans hW.size e2⟩, e4⟩)
 have CL2 : Hid (∀ W, Below w0.heap.size w0 W → Calls Tryz.prog 15 #[.slice P2 high.length C2] W fun e w' => ∃ p d, e = .returned (.slice (some p) high.length d) ∧ RowF w0 w' (some p) high ∧ Below W.heap.size W w') := fun W hW => (copied_off P2 C2 high W ((h2.below bb).below hW) z2).mono (fun e w' h => by obtain ⟨g, d, e1, e2, e3, _, e4⟩ := h; exact ⟨_, d, e1, ⟨e3, fun g hg => by cases hg; exact Nat.le_trans hW.size e2⟩, e4⟩)
 generalize hn1 : low.length = n1 at *
 generalize hn2 : high.length = n2 at *
 have MW : Hid (w.heap.size < w0.heap.size) := by rw [bs]; exact Nat.lt_succ_of_lt (Nat.lt_succ_self _)
 have M2 : Hid (w.heap.size + 1 < w0.heap.size) := by rw [bs]; exact Nat.lt_succ_self _
 have D0 := mkHid d0
 have D1 := mkHid d1
 have BB := mkHid bb
 clear h1 h2 z1 z2 hn1 hn2 d0 d1 bb bs
 go_enter Tryz.func31, Tryz.ntmps31
 go_wp2_with fail
 rw [← hw0]
 clear hw0
 refine wp_mono (Q := fun e a' w' => e = .normal ∧ ∃ q1 d1 q2 d2, a' = { tmps := #[.agg #[.slice P1 n1 C1, .slice P2 n2 C2, .bool li, .bool hi], .pointer (some ⟨w.heap.size, 0, none⟩), .pointer (some ⟨w.heap.size + 1, 0, none⟩), .pointer (some ⟨w.heap.size, 0, none⟩), .slice P1 n1 C1, .slice (some q1) n1 d1, .pointer (some ⟨w.heap.size, 1, none⟩), .slice P2 n2 C2, .slice (some q2) n2 d2, .pointer (some ⟨w.heap.size, 0, none⟩), .pointer (some ⟨w.heap.size, 1, none⟩), undef], defers := [] } ∧ w'.heap[w.heap.size]? = some (.cells #[.slice (some q1) n1 d1, .slice (some q2) n2 d2, .bool li, .bool hi] 33 (0, 0)) ∧ RowF w0 w' (some q1) low ∧ RowF w0 w' (some q2) high ∧ (Below w.heap.size w w' ∧ w'.heap[w.heap.size + 1]? = some (.cells #[.slice none 0 0, .slice none 0 0, .bool false, .bool false] 33 (0, 0)))) ?_ ?_
 ·have KB := mkHid ((Below.refl w0.heap.size w0).drew)
  have RC : Hid (w0.drew.heap[w.heap.size]? = some (.cells #[.slice P1 n1 C1, .slice P2 n2 C2, .bool li, .bool hi] 33 (0, 0))) := D0.out
  refine wp_region_noPanic ?_
  refine wp_region_held_drew (S := fun _ : World => True) (by kernel_rfl) trivial (fun hH => ?_)
  refine tKx (i := 0) (v := .pointer (some ⟨w.heap.size, 0, none⟩)) rfl rfl (by kernel_rfl) (fun _ _ _ h => h) ?_ hH ?_
  ·intro w5 hSw; go_simp
  simp only [zA9, zB9, zC9]
  refine tKx (i := 3) (v := .pointer (some ⟨w.heap.size, 1, none⟩)) rfl rfl (by kernel_rfl) (fun _ _ _ h => h) ?_ hH ?_
  ·intro w5 hSw; go_simp
  simp only [zA9, zB9, zC9]
  replace D1 : Hid (w0.drew.heap[w.heap.size + 1]? = some (.cells #[.slice none 0 0, .slice none 0 0, .bool false, .bool false] 33 (0, 0))) := D1.out
  generalize hW0 : w0.drew = W0 at KB RC D1 hH ⊢
  refine wpAnyH_ready (rs := [1, 4]) (by kernel_rfl) (by simp) ?_
  refine AllReadyH.cons rfl (fun K hK => ?_) (AllReadyH.cons rfl (fun K hK => ?_) AllReadyH.nil)
  ·have q0 : W0.cell? ⟨w.heap.size, 0, none⟩ = some (.slice P1 n1 C1) := (cell_of_block RC.out 0).trans rfl
   go_simp
   refine hK.out _ _ trivial (fun hH => ?_)
   clear hK K q0
   refine wpAnyH_ready (rs := [2, 4]) (by kernel_rfl) (by simp) ?_
   refine AllReadyH.cons rfl (fun K hK => ?_) (AllReadyH.cons rfl (fun K hK => ?_) AllReadyH.nil)
   ·go_simp
    go_at_call 15
    refine (CL1.out W0 KB.out).mono ?_
    rintro e W1 ⟨q1, d1, rfl, h0, hb⟩
    go_wp2_with fail
    refine hK.out _ _ trivial (fun hH => ?_)
    clear hK K
    replace RC := mkHid ((hb.block _ (lt_of_heap RC.out)).trans RC.out)
    replace D1 := mkHid ((hb.block _ (lt_of_heap D1.out)).trans D1.out)
    have F1 := mkHid h0
    clear h0
    replace KB := mkHid (KB.out.trans (hb.mono KB.out.size))
    clear hb
    refine wpAnyH_ready (rs := [4]) (by kernel_rfl) (by simp) ?_
    refine AllReadyH.cons rfl (fun K hK => ?_) AllReadyH.nil
    ·have q0 : W1.cell? ⟨w.heap.size, 1, none⟩ = some (.slice P2 n2 C2) := (cell_of_block RC.out 1).trans rfl
     go_simp
     refine hK.out _ _ trivial (fun hH => ?_)
     clear hK K q0
     refine tKx (i := 6) (v := .pointer (some ⟨w.heap.size, 0, none⟩)) rfl rfl (by kernel_rfl) (fun _ _ _ h => h) ?_ hH ?_
     ·intro w5 hSw; go_simp
     simp only [zA9, zB9, zC9]
     refine wpAnyH_ready (rs := [5]) (by kernel_rfl) (by simp) ?_
     refine AllReadyH.cons rfl (fun K hK => ?_) AllReadyH.nil
     ·go_simp
      go_at_call 15
      refine (CL2.out W1 KB.out).mono ?_
      rintro e W2 ⟨q2, d2, rfl, h0, hb⟩
      go_wp2_with fail
      refine hK.out _ _ trivial (fun hH => ?_)
      clear hK K
      replace F1 := mkHid (F1.out.below hb)
      replace RC := mkHid ((hb.block _ (lt_of_heap RC.out)).trans RC.out)
      replace D1 := mkHid ((hb.block _ (lt_of_heap D1.out)).trans D1.out)
      have F2 := mkHid h0
      clear h0
      replace KB := mkHid (KB.out.trans (hb.mono KB.out.size))
      clear hb
      refine wpAnyH_ready (rs := [7]) (by kernel_rfl) (by simp) ?_
      refine AllReadyH.cons rfl (fun K hK => ?_) AllReadyH.nil
      ·have KW : Hid (Below w.heap.size w W2) := mkHid (BB.out.trans (KB.out.mono BB.out.size))
       clear KB
       have q0 : W2.cell? ⟨w.heap.size, 0, none⟩ = some (.slice P1 n1 C1) := (cell_of_block RC.out 0).trans rfl
       have y0 := unfrozen_of_block RC.out 0
       go_simp
       refine hK.out _ _ trivial (fun hH => ?_)
       clear hK K q0 y0
       replace F1 := mkHid (F1.out.far (o := 0) (v := .slice (some q1) n1 d1) MW.out)
       replace F2 := mkHid (F2.out.far (o := 0) (v := .slice (some q1) n1 d1) MW.out)
       replace RC : Hid ((W2.setCell ⟨w.heap.size, 0, none⟩ (.slice (some q1) n1 d1)).heap[w.heap.size]? = some (.cells #[.slice (some q1) n1 d1, .slice P2 n2 C2, .bool li, .bool hi] 33 (0, 0))) := mkHid (heap_set_in RC.out)
       replace D1 := mkHid ((heap_setCell_other W2 ⟨w.heap.size, 0, none⟩ (w.heap.size + 1) (.slice (some q1) n1 d1) (by show w.heap.size + 1 ≠ w.heap.size; omega)).trans D1.out)
       replace KW := mkHid (below_set KW.out ⟨w.heap.size, 0, none⟩ (.slice (some q1) n1 d1) (Nat.le_refl _))
       generalize W2.setCell ⟨w.heap.size, 0, none⟩ (.slice (some q1) n1 d1) = W3 at KW RC D1 F1 F2 hH ⊢
       refine tKx (i := 8) (v := .pointer (some ⟨w.heap.size, 1, none⟩)) rfl rfl (by kernel_rfl) (fun _ _ _ h => h) ?_ hH ?_
       ·intro w5 hSw; go_simp
       simp only [zA9, zB9, zC9]
       refine wpAnyH_ready (rs := [9]) (by kernel_rfl) (by simp) ?_
       refine AllReadyH.cons rfl (fun K hK => ?_) AllReadyH.nil
       ·have q0 : W3.cell? ⟨w.heap.size, 1, none⟩ = some (.slice P2 n2 C2) := (cell_of_block RC.out 1).trans rfl
        have y0 := unfrozen_of_block RC.out 1
        go_simp
        refine hK.out _ _ trivial (fun hH => ?_)
        clear hK K q0 y0
        replace F1 := mkHid (F1.out.far (o := 1) (v := .slice (some q2) n2 d2) MW.out)
        replace F2 := mkHid (F2.out.far (o := 1) (v := .slice (some q2) n2 d2) MW.out)
        replace RC : Hid ((W3.setCell ⟨w.heap.size, 1, none⟩ (.slice (some q2) n2 d2)).heap[w.heap.size]? = some (.cells #[.slice (some q1) n1 d1, .slice (some q2) n2 d2, .bool li, .bool hi] 33 (0, 0))) := mkHid (heap_set_in RC.out)
        replace D1 := mkHid ((heap_setCell_other W3 ⟨w.heap.size, 1, none⟩ (w.heap.size + 1) (.slice (some q2) n2 d2) (by show w.heap.size + 1 ≠ w.heap.size; omega)).trans D1.out)
        replace KW := mkHid (below_set KW.out ⟨w.heap.size, 1, none⟩ (.slice (some q2) n2 d2) (Nat.le_refl _))
        generalize W3.setCell ⟨w.heap.size, 1, none⟩ (.slice (some q2) n2 d2) = W4 at KW RC D1 F1 F2 hH ⊢
        refine wpAnyH_done (by kernel_rfl) ?_ _
        refine NoPanic.normal ?_
        exact ⟨rfl, q1, d1, q2, d2, rfl, RC.out, F1.out, F2.out, KW.out, D1.out⟩
   ·have q0 : W0.cell? ⟨w.heap.size, 1, none⟩ = some (.slice P2 n2 C2) := (cell_of_block RC.out 1).trans rfl
    go_simp
    refine hK.out _ _ trivial (fun hH => ?_)
    clear hK K q0
    refine wpAnyH_ready (rs := [2]) (by kernel_rfl) (by simp) ?_
    refine AllReadyH.cons rfl (fun K hK => ?_) AllReadyH.nil
    ·go_simp
     go_at_call 15
     refine (CL1.out W0 KB.out).mono ?_
     rintro e W1 ⟨q1, d1, rfl, h0, hb⟩
     go_wp2_with fail
     refine hK.out _ _ trivial (fun hH => ?_)
     clear hK K
     replace RC := mkHid ((hb.block _ (lt_of_heap RC.out)).trans RC.out)
     replace D1 := mkHid ((hb.block _ (lt_of_heap D1.out)).trans D1.out)
     have F1 := mkHid h0
     clear h0
     replace KB := mkHid (KB.out.trans (hb.mono KB.out.size))
     clear hb
     refine tKx (i := 6) (v := .pointer (some ⟨w.heap.size, 0, none⟩)) rfl rfl (by kernel_rfl) (fun _ _ _ h => h) ?_ hH ?_
     ·intro w5 hSw; go_simp
     simp only [zA9, zB9, zC9]
     refine wpAnyH_ready (rs := [5]) (by kernel_rfl) (by simp) ?_
     refine AllReadyH.cons rfl (fun K hK => ?_) AllReadyH.nil
     ·go_simp
      go_at_call 15
      refine (CL2.out W1 KB.out).mono ?_
      rintro e W2 ⟨q2, d2, rfl, h0, hb⟩
      go_wp2_with fail
      refine hK.out _ _ trivial (fun hH => ?_)
      clear hK K
      replace F1 := mkHid (F1.out.below hb)
      replace RC := mkHid ((hb.block _ (lt_of_heap RC.out)).trans RC.out)
      replace D1 := mkHid ((hb.block _ (lt_of_heap D1.out)).trans D1.out)
      have F2 := mkHid h0
      clear h0
      replace KB := mkHid (KB.out.trans (hb.mono KB.out.size))
      clear hb
      refine wpAnyH_ready (rs := [7]) (by kernel_rfl) (by simp) ?_
      refine AllReadyH.cons rfl (fun K hK => ?_) AllReadyH.nil
      ·have KW : Hid (Below w.heap.size w W2) := mkHid (BB.out.trans (KB.out.mono BB.out.size))
       clear KB
       have q0 : W2.cell? ⟨w.heap.size, 0, none⟩ = some (.slice P1 n1 C1) := (cell_of_block RC.out 0).trans rfl
       have y0 := unfrozen_of_block RC.out 0
       go_simp
       refine hK.out _ _ trivial (fun hH => ?_)
       clear hK K q0 y0
       replace F1 := mkHid (F1.out.far (o := 0) (v := .slice (some q1) n1 d1) MW.out)
       replace F2 := mkHid (F2.out.far (o := 0) (v := .slice (some q1) n1 d1) MW.out)
       replace RC : Hid ((W2.setCell ⟨w.heap.size, 0, none⟩ (.slice (some q1) n1 d1)).heap[w.heap.size]? = some (.cells #[.slice (some q1) n1 d1, .slice P2 n2 C2, .bool li, .bool hi] 33 (0, 0))) := mkHid (heap_set_in RC.out)
       replace D1 := mkHid ((heap_setCell_other W2 ⟨w.heap.size, 0, none⟩ (w.heap.size + 1) (.slice (some q1) n1 d1) (by show w.heap.size + 1 ≠ w.heap.size; omega)).trans D1.out)
       replace KW := mkHid (below_set KW.out ⟨w.heap.size, 0, none⟩ (.slice (some q1) n1 d1) (Nat.le_refl _))
       generalize W2.setCell ⟨w.heap.size, 0, none⟩ (.slice (some q1) n1 d1) = W3 at KW RC D1 F1 F2 hH ⊢
       refine tKx (i := 8) (v := .pointer (some ⟨w.heap.size, 1, none⟩)) rfl rfl (by kernel_rfl) (fun _ _ _ h => h) ?_ hH ?_
       ·intro w5 hSw; go_simp
       simp only [zA9, zB9, zC9]
       refine wpAnyH_ready (rs := [9]) (by kernel_rfl) (by simp) ?_
       refine AllReadyH.cons rfl (fun K hK => ?_) AllReadyH.nil
       ·have q0 : W3.cell? ⟨w.heap.size, 1, none⟩ = some (.slice P2 n2 C2) := (cell_of_block RC.out 1).trans rfl
        have y0 := unfrozen_of_block RC.out 1
        go_simp
        refine hK.out _ _ trivial (fun hH => ?_)
        clear hK K q0 y0
        replace F1 := mkHid (F1.out.far (o := 1) (v := .slice (some q2) n2 d2) MW.out)
        replace F2 := mkHid (F2.out.far (o := 1) (v := .slice (some q2) n2 d2) MW.out)
        replace RC : Hid ((W3.setCell ⟨w.heap.size, 1, none⟩ (.slice (some q2) n2 d2)).heap[w.heap.size]? = some (.cells #[.slice (some q1) n1 d1, .slice (some q2) n2 d2, .bool li, .bool hi] 33 (0, 0))) := mkHid (heap_set_in RC.out)
        replace D1 := mkHid ((heap_setCell_other W3 ⟨w.heap.size, 1, none⟩ (w.heap.size + 1) (.slice (some q2) n2 d2) (by show w.heap.size + 1 ≠ w.heap.size; omega)).trans D1.out)
        replace KW := mkHid (below_set KW.out ⟨w.heap.size, 1, none⟩ (.slice (some q2) n2 d2) (Nat.le_refl _))
        generalize W3.setCell ⟨w.heap.size, 1, none⟩ (.slice (some q2) n2 d2) = W4 at KW RC D1 F1 F2 hH ⊢
        refine wpAnyH_done (by kernel_rfl) ?_ _
        refine NoPanic.normal ?_
        exact ⟨rfl, q1, d1, q2, d2, rfl, RC.out, F1.out, F2.out, KW.out, D1.out⟩
  ·have q0 : W0.cell? ⟨w.heap.size, 1, none⟩ = some (.slice P2 n2 C2) := (cell_of_block RC.out 1).trans rfl
   go_simp
   refine hK.out _ _ trivial (fun hH => ?_)
   clear hK K q0
   refine wpAnyH_ready (rs := [1]) (by kernel_rfl) (by simp) ?_
   refine AllReadyH.cons rfl (fun K hK => ?_) AllReadyH.nil
   ·have q0 : W0.cell? ⟨w.heap.size, 0, none⟩ = some (.slice P1 n1 C1) := (cell_of_block RC.out 0).trans rfl
    go_simp
    refine hK.out _ _ trivial (fun hH => ?_)
    clear hK K q0
    refine wpAnyH_ready (rs := [2]) (by kernel_rfl) (by simp) ?_
    refine AllReadyH.cons rfl (fun K hK => ?_) AllReadyH.nil
    ·go_simp
     go_at_call 15
     refine (CL1.out W0 KB.out).mono ?_
     rintro e W1 ⟨q1, d1, rfl, h0, hb⟩
     go_wp2_with fail
     refine hK.out _ _ trivial (fun hH => ?_)
     clear hK K
     replace RC := mkHid ((hb.block _ (lt_of_heap RC.out)).trans RC.out)
     replace D1 := mkHid ((hb.block _ (lt_of_heap D1.out)).trans D1.out)
     have F1 := mkHid h0
     clear h0
     replace KB := mkHid (KB.out.trans (hb.mono KB.out.size))
     clear hb
     refine tKx (i := 6) (v := .pointer (some ⟨w.heap.size, 0, none⟩)) rfl rfl (by kernel_rfl) (fun _ _ _ h => h) ?_ hH ?_
     ·intro w5 hSw; go_simp
     simp only [zA9, zB9, zC9]
     refine wpAnyH_ready (rs := [5]) (by kernel_rfl) (by simp) ?_
     refine AllReadyH.cons rfl (fun K hK => ?_) AllReadyH.nil
     ·go_simp
      go_at_call 15
      refine (CL2.out W1 KB.out).mono ?_
      rintro e W2 ⟨q2, d2, rfl, h0, hb⟩
      go_wp2_with fail
      refine hK.out _ _ trivial (fun hH => ?_)
      clear hK K
      replace F1 := mkHid (F1.out.below hb)
      replace RC := mkHid ((hb.block _ (lt_of_heap RC.out)).trans RC.out)
      replace D1 := mkHid ((hb.block _ (lt_of_heap D1.out)).trans D1.out)
      have F2 := mkHid h0
      clear h0
      replace KB := mkHid (KB.out.trans (hb.mono KB.out.size))
      clear hb
      refine wpAnyH_ready (rs := [7]) (by kernel_rfl) (by simp) ?_
      refine AllReadyH.cons rfl (fun K hK => ?_) AllReadyH.nil
      ·have KW : Hid (Below w.heap.size w W2) := mkHid (BB.out.trans (KB.out.mono BB.out.size))
       clear KB
       have q0 : W2.cell? ⟨w.heap.size, 0, none⟩ = some (.slice P1 n1 C1) := (cell_of_block RC.out 0).trans rfl
       have y0 := unfrozen_of_block RC.out 0
       go_simp
       refine hK.out _ _ trivial (fun hH => ?_)
       clear hK K q0 y0
       replace F1 := mkHid (F1.out.far (o := 0) (v := .slice (some q1) n1 d1) MW.out)
       replace F2 := mkHid (F2.out.far (o := 0) (v := .slice (some q1) n1 d1) MW.out)
       replace RC : Hid ((W2.setCell ⟨w.heap.size, 0, none⟩ (.slice (some q1) n1 d1)).heap[w.heap.size]? = some (.cells #[.slice (some q1) n1 d1, .slice P2 n2 C2, .bool li, .bool hi] 33 (0, 0))) := mkHid (heap_set_in RC.out)
       replace D1 := mkHid ((heap_setCell_other W2 ⟨w.heap.size, 0, none⟩ (w.heap.size + 1) (.slice (some q1) n1 d1) (by show w.heap.size + 1 ≠ w.heap.size; omega)).trans D1.out)
       replace KW := mkHid (below_set KW.out ⟨w.heap.size, 0, none⟩ (.slice (some q1) n1 d1) (Nat.le_refl _))
       generalize W2.setCell ⟨w.heap.size, 0, none⟩ (.slice (some q1) n1 d1) = W3 at KW RC D1 F1 F2 hH ⊢
       refine tKx (i := 8) (v := .pointer (some ⟨w.heap.size, 1, none⟩)) rfl rfl (by kernel_rfl) (fun _ _ _ h => h) ?_ hH ?_
       ·intro w5 hSw; go_simp
       simp only [zA9, zB9, zC9]
       refine wpAnyH_ready (rs := [9]) (by kernel_rfl) (by simp) ?_
       refine AllReadyH.cons rfl (fun K hK => ?_) AllReadyH.nil
       ·have q0 : W3.cell? ⟨w.heap.size, 1, none⟩ = some (.slice P2 n2 C2) := (cell_of_block RC.out 1).trans rfl
        have y0 := unfrozen_of_block RC.out 1
        go_simp
        refine hK.out _ _ trivial (fun hH => ?_)
        clear hK K q0 y0
        replace F1 := mkHid (F1.out.far (o := 1) (v := .slice (some q2) n2 d2) MW.out)
        replace F2 := mkHid (F2.out.far (o := 1) (v := .slice (some q2) n2 d2) MW.out)
        replace RC : Hid ((W3.setCell ⟨w.heap.size, 1, none⟩ (.slice (some q2) n2 d2)).heap[w.heap.size]? = some (.cells #[.slice (some q1) n1 d1, .slice (some q2) n2 d2, .bool li, .bool hi] 33 (0, 0))) := mkHid (heap_set_in RC.out)
        replace D1 := mkHid ((heap_setCell_other W3 ⟨w.heap.size, 1, none⟩ (w.heap.size + 1) (.slice (some q2) n2 d2) (by show w.heap.size + 1 ≠ w.heap.size; omega)).trans D1.out)
        replace KW := mkHid (below_set KW.out ⟨w.heap.size, 1, none⟩ (.slice (some q2) n2 d2) (Nat.le_refl _))
        generalize W3.setCell ⟨w.heap.size, 1, none⟩ (.slice (some q2) n2 d2) = W4 at KW RC D1 F1 F2 hH ⊢
        refine wpAnyH_done (by kernel_rfl) ?_ _
        refine NoPanic.normal ?_
        exact ⟨rfl, q1, d1, q2, d2, rfl, RC.out, F1.out, F2.out, KW.out, D1.out⟩
 rintro e a' w1 ⟨rfl, q1, d1, q2, d2, rfl, rc, f1, f2, kb, dd⟩
 have u0 : w1.cell? ⟨w.heap.size, 0, none⟩ = some (.slice (some q1) n1 d1) := (cell_of_block rc 0).trans rfl
 have u1 : w1.cell? ⟨w.heap.size, 1, none⟩ = some (.slice (some q2) n2 d2) := (cell_of_block rc 1).trans rfl
 have u2 : w1.cell? ⟨w.heap.size, 2, none⟩ = some (.bool li) := (cell_of_block rc 2).trans rfl
 have u3 : w1.cell? ⟨w.heap.size, 3, none⟩ = some (.bool hi) := (cell_of_block rc 3).trans rfl
 have g0 : w1.cell? ⟨w.heap.size + 1, 0, none⟩ = some (.slice none 0 0) := (cell_of_block dd 0).trans rfl
 have g1 : w1.cell? ⟨w.heap.size + 1, 1, none⟩ = some (.slice none 0 0) := (cell_of_block dd 1).trans rfl
 have g2 : w1.cell? ⟨w.heap.size + 1, 2, none⟩ = some (.bool false) := (cell_of_block dd 2).trans rfl
 have g3 : w1.cell? ⟨w.heap.size + 1, 3, none⟩ = some (.bool false) := (cell_of_block dd 3).trans rfl
 have y0 := unfrozen_of_block dd 0
 have y1 := unfrozen_of_block dd 1
 have y2 := unfrozen_of_block dd 2
 have y3 := unfrozen_of_block dd 3
 have FN : Hid (∀ a b c d, RowF w ((((w1.setCell ⟨w.heap.size + 1, 0, none⟩ a).setCell ⟨w.heap.size + 1, 1, none⟩ b).setCell ⟨w.heap.size + 1, 2, none⟩ c).setCell ⟨w.heap.size + 1, 3, none⟩ d) (some q1) low ∧ RowF w ((((w1.setCell ⟨w.heap.size + 1, 0, none⟩ a).setCell ⟨w.heap.size + 1, 1, none⟩ b).setCell ⟨w.heap.size + 1, 2, none⟩ c).setCell ⟨w.heap.size + 1, 3, none⟩ d) (some q2) high ∧ Below w.heap.size w ((((w1.setCell ⟨w.heap.size + 1, 0, none⟩ a).setCell ⟨w.heap.size + 1, 1, none⟩ b).setCell ⟨w.heap.size + 1, 2, none⟩ c).setCell ⟨w.heap.size + 1, 3, none⟩ d)) := fun a b c d => by
  have l2 := M2.out
  have ls : w.heap.size ≤ w.heap.size + 1 := by omega
  exact ⟨((((f1.far l2).far l2).far l2).far l2).down BB.out.size, ((((f2.far l2).far l2).far l2).far l2).down BB.out.size, below_set (below_set (below_set (below_set kb _ _ ls) _ _ ls) _ _ ls) _ _ ls⟩
 clear rc f1 f2 kb dd CL1 CL2 BB D0 D1 MW M2
 go_wp2_with fail
 refine bodyPost_ret (v := .agg #[.slice (some q1) n1 d1, .slice (some q2) n2 d2, .bool li, .bool hi]) (by simp [results, Tryz.results31, go_sem, g0, g1, g2, g3]) rfl ?_
 exact ⟨_, _, _, _, rfl, FN.out _ _ _ _⟩
end Go.Proofs.YtclcajnodoifjaaGreatDoor

