/-
 The walk of the law of acts.
-/
import Derived.Test.YtclcajnodoifjaaGreatDoorIAZ
import Derived.Test.YtclcajnodoifjaaGreatDoorIAU
namespace Go.Proofs.YtclcajnodoifjaaGreatDoor
open Go.RowKit Go.Shelf Go.Joins Go.Maps
set_option maxRecDepth 100000

theorem rowOne (v : Va) (V : World) : rowAt (V.alloc (.cells #[.int .i64 v.ty, .int .i64 v.n, .string v.s] 40)) (some ⟨V.heap.size, 0, none⟩) [v] := Or.inr ⟨_, rfl, valsAt.mk (by simp) (fun j u hj => (cell_of_block (heap_alloc_new _ _) j).trans (by rw [← hj]; simp [fl, vaE]))⟩
theorem MidU.ends {u : Bool} {w wr : World} {bt dd : Nat} (h : MidU u w bt dd wr) : Calls Tryz.prog 11 #[.pointer (some ⟨bt, 0, none⟩), .pointer (some ⟨dd, 0, none⟩)] wr fun e w' => e = .returned (.bool true) ∧ MidU u w bt dd w' := by
 obtain ⟨T, L, D, hp, _⟩ := h.pr
 exact (pr_ends_u hp).mono (fun e w' hq => ⟨hq.1, h.below hq.2⟩)
theorem MidU.put {u : Bool} {w W : World} {bt dd : Nat} (h : MidU u w bt dd W) (v : Va) (id : Int) (fv : fit v.n) (sv : v.s.size ≤ 9223372036854775807) (hTb : Tabs w) :
  Calls Tryz.prog 8 #[.pointer (some ⟨bt, 0, none⟩), .slice (some ⟨W.heap.size, 0, none⟩) 1 1, .int .u64 id] (W.alloc (.cells #[.int .i64 v.ty, .int .i64 v.n, .string v.s] 40)) fun e W1 => ∃ x, e = .returned (.int .i64 x) ∧ Calls Tryz.prog 12 #[.pointer (some ⟨dd, 0, none⟩), .slice (some ⟨W1.heap.size, 0, none⟩) 1 1, .int .u64 id] (W1.alloc (.cells #[.int .i64 v.ty, .int .i64 v.n, .string v.s] 40)) fun e2 W2 => e2 = .returned (.int .i64 x) ∧ MidU u w bt dd W2 := by
 have bA : ∀ V : World, Below V.heap.size V (V.alloc (.cells #[.int .i64 v.ty, .int .i64 v.n, .string v.s] 40)) := fun V => (Below.refl _ V).alloc (Nat.le_refl _) _
 have hA := h.below (bA W)
 obtain ⟨T, L, D, hp, hT, t1, t2⟩ := hA.pr
 refine (both_put3_u u T bt dd L D [v] id (some ⟨W.heap.size, 0, none⟩) 1 _ hp hT t1 t2 (rowOne v W) (fun x hx => by simp at hx; subst hx; exact fv) (fun x hx => by simp at hx; subst hx; exact sv) (by simp) (hTb.below hA.bl)).mono (fun e W1 hq => ?_)
 obtain ⟨x, hx1, hx2, hx3⟩ := hq
 have bw1 : Below w.heap.size w W1 := hA.bl.trans (hx2.below hA.bl.size (fun i hi => by rw [hi]; exact h.lo.1))
 refine ⟨x, hx1, (hx3 _ (some ⟨W1.heap.size, 0, none⟩) 1 (bA W1) (rowOne v W1)).mono (fun e2 W2 hq2 => ⟨hq2.1, ?_⟩)⟩
 have bw2 := bw1.trans ((bA W1).mono bw1.size)
 obtain ⟨L', D', hp2⟩ := hq2.2.2
 exact ⟨bw2.trans (hq2.2.1.below bw2.size (fun i hi => by rw [hi]; exact h.lo.2)), ⟨T, L', D', hp2, fun b hb => hT b (Nat.le_trans hx2.size (Nat.le_trans (bA W1).size (Nat.le_trans hq2.2.1.size hb))), t1, t2⟩, h.lo⟩
theorem Two.put1 {u : Bool} {w W : World} {bt ct dd : Nat} (h : Two u w bt ct dd W) (v : Va) (id : Int) (fv : fit v.n) (sv : v.s.size ≤ 9223372036854775807) (hTb : Tabs w) :
  Calls Tryz.prog 8 #[.pointer (some ⟨bt, 0, none⟩), .slice (some ⟨W.heap.size, 0, none⟩) 1 1, .int .u64 id] (W.alloc (.cells #[.int .i64 v.ty, .int .i64 v.n, .string v.s] 40)) fun e W' => (∃ x, e = .returned (.int .i64 x)) ∧ Two u w bt ct dd W' :=
 (h.below ((Below.refl _ W).alloc (Nat.le_refl _) _)).put [v] id (some ⟨W.heap.size, 0, none⟩) 1 (rowOne v W) (fun x hx => by simp at hx; subst hx; exact fv) (fun x hx => by simp at hx; subst hx; exact sv) (by simp) hTb
set_option maxHeartbeats 8000000 in
set_option maxRecDepth 1000000 in
theorem Acts_any (u : Bool) (acts : List Ac) (PA : Option Addr) (CA : Nat) (w : World) (hA : actsAt w PA acts) (hok : ∀ a ∈ acts, a.cameU w) (hTb : Tabs w) (zA : acts.length ≤ 1000000000) :
  Calls Tryz.prog 3 #[.bool u, .slice PA acts.length CA] w fun e w' => e = .returned (.bool true) ∧ Below w.heap.size w w' := by
 obtain ⟨NA, hNA⟩ : ∃ N, N = acts.length := ⟨_, rfl⟩
 have NW := mkHid (New_any u w)
 have M0 : Hid (∀ w1, w1.heap[w.heap.size]? = some (trO u (.slice none 0 0) (.slice none 0 0) 0) → Below w.heap.size w w1 → MidU u w w.heap.size w1.heap.size (w1.alloc (.cells #[.bool u, .slice none 0 0] 28))) := fun w1 h1 b1 => by
  have l1 := lt_of_heap h1
  have bb : Below w1.heap.size w1 (w1.alloc (.cells #[.bool u, .slice none 0 0] 28)) := (Below.refl _ w1).alloc (Nat.le_refl _) _
  exact ⟨b1.trans (bb.mono b1.size), ⟨fun b => b ≠ w.heap.size ∧ b ≠ w1.heap.size, [], [], PrU.empty ((bb.block _ l1).trans h1) (heap_alloc_new _ _) (by omega), fun b hb => by rw [World.size_alloc] at hb; exact ⟨by omega, by omega⟩, fun h => h.1 rfl, fun h => h.2 rfl⟩, Nat.le_refl _, b1.size⟩
 have AT : Hid (∀ i wr, i < NA → Below w.heap.size w wr → ∃ a gA oA, acts[i]? = some a ∧ PA = some ⟨gA, oA, none⟩ ∧ a.cameU w ∧ ∀ j u, a.en[j]? = some u → wr.cell? ⟨gA, oA + i * 8 + j, none⟩ = some u ∧ ∀ W, Below w.heap.size w W → W.cell? ⟨gA, oA + i * 8 + j, none⟩ = some u) := fun i wr hi hb => by
  obtain ⟨a, ha⟩ : ∃ a, acts[i]? = some a := ⟨_, List.getElem?_eq_getElem (by omega)⟩
  rcases hA with h | ⟨g, o, e, hg, hc⟩
  ·rw [h] at ha; cases ha
  ·exact ⟨a, g, o, ha, e, hok a (List.mem_of_getElem? ha), fun j u hu => ⟨(hb.cell (p := ⟨g, o + i * 8 + j, none⟩) hg).trans (hc i a ha j u hu), fun W hW => (hW.cell (p := ⟨g, o + i * 8 + j, none⟩) hg).trans (hc i a ha j u hu)⟩⟩
 have DO : Hid (∀ bt dd wr (a : Ac), MidU u w bt dd wr → a.cameU w → Calls Tryz.prog 10 #[.pointer (some ⟨bt, 0, none⟩), .pointer (some ⟨dd, 0, none⟩), .agg #[.int .i64 a.kd, .int .i64 a.stop, .slice a.q a.k.length a.c, .int .u64 a.id, .slice a.P1 a.n1 a.C1, .slice a.P2 a.n2 a.C2, .bool a.li, .bool a.hi]] wr fun e w' => e = .returned (.bool true) ∧ MidU u w bt dd w') := fun bt dd wr a h1 h2 => does_all_u h1 a h2 hTb
 have EN : Hid (∀ bt dd wr, MidU u w bt dd wr → Calls Tryz.prog 11 #[.pointer (some ⟨bt, 0, none⟩), .pointer (some ⟨dd, 0, none⟩)] wr fun e w' => e = .returned (.bool true) ∧ MidU u w bt dd w') := fun bt dd wr h => h.ends
 have CL : Hid (∀ bt dd wr, MidU u w bt dd wr → Calls Tryz.prog 7 #[.pointer (some ⟨bt, 0, none⟩)] wr fun e w' => e = .returned (.pointer (some ⟨wr.heap.size, 0, none⟩)) ∧ Two u w bt wr.heap.size dd w') := fun bt dd wr h => clone_u h
 have PU : Hid (∀ bt ct dd W, Two u w bt ct dd W → Calls Tryz.prog 8 #[.pointer (some ⟨bt, 0, none⟩), .slice (some ⟨W.heap.size, 0, none⟩) 1 1, .int .u64 4711] (W.alloc (.cells #[.int .i64 1, .int .i64 4711, .string ⟨#[]⟩] 40)) fun e W' => (∃ x, e = .returned (.int .i64 x)) ∧ Two u w bt ct dd W') := fun bt ct dd W h => h.put1 ⟨1, 4711, ⟨#[]⟩⟩ 4711 (⟨by decide, by decide⟩ : fit 4711) (by decide) hTb
 have DR : Hid (∀ bt ct dd W (a : Ac), Two u w bt ct dd W → a.cameU w → Calls Tryz.prog 9 #[.pointer (some ⟨bt, 0, none⟩), .slice a.q a.k.length a.c, .int .u64 a.id] W fun e W' => (∃ x, e = .returned (.bool x)) ∧ MidU u w ct dd W') := fun bt ct dd W a h ha => h.drop a.k a.id a.q a.c (ha.key.row.below h.bl) ha.key.fits
 have PE : Hid (∀ bt dd W, MidU u w bt dd W → Calls Tryz.prog 8 #[.pointer (some ⟨bt, 0, none⟩), .slice (some ⟨W.heap.size, 0, none⟩) 1 1, .int .u64 9223372036854775808] (W.alloc (.cells #[.int .i64 3, .int .i64 0, .string ⟨#[101, 110, 100]⟩] 40)) fun e W1 => ∃ x, e = .returned (.int .i64 x) ∧ Calls Tryz.prog 12 #[.pointer (some ⟨dd, 0, none⟩), .slice (some ⟨W1.heap.size, 0, none⟩) 1 1, .int .u64 9223372036854775808] (W1.alloc (.cells #[.int .i64 3, .int .i64 0, .string ⟨#[101, 110, 100]⟩] 40)) fun e2 W2 => e2 = .returned (.int .i64 x) ∧ MidU u w bt dd W2) := fun bt dd W h => h.put ⟨3, 0, ⟨#[101, 110, 100]⟩⟩ 9223372036854775808 (⟨by decide, by decide⟩ : fit 0) (by decide) hTb
 rw [← hNA] at zA
 rw [← hNA]
 clear hA hok hTb hNA
 go_enter Tryz.func3, Tryz.ntmps3
 go_wp2_with (go_at_call 6; refine NW.out.mono ?_; rintro e w1 ⟨rfl, hbt, b1⟩)
 replace M0 := mkHid (M0.out w1 hbt b1)
 clear NW hbt b1
 obtain ⟨b0, hb0⟩ : ∃ b, b = w.heap.size := ⟨_, rfl⟩
 obtain ⟨dd, hdd⟩ : ∃ b, b = w1.heap.size := ⟨_, rfl⟩
 obtain ⟨w2, hw2⟩ : ∃ w2, w2 = w1.alloc (.cells #[.bool u, .slice none 0 0] 28) := ⟨_, rfl⟩
 rw [← hw2, ← hdd] at M0 ⊢
 have M1 : Hid (MidU u w b0 dd w2) := by rw [hb0]; exact M0.out
 clear M0
 have hb0' : w.heap.size = b0 := hb0.symm
 clear hw2
 rw [← hb0]
 clear hb0 hb0' hdd
 go_loopw [5, 7, 8] (fun s5 s7 _ wr => ∃ i bt : Nat, s5 = .pointer (some ⟨bt, 0, none⟩) ∧ s7 = .int .i64 i ∧ i ≤ NA ∧ Hid (MidU u w bt dd wr)) (fun _ s7 _ _ => NA - (intOf s7).toNat)
 case atStart => exact ⟨0, b0, rfl, rfl, Nat.zero_le _, M1⟩
 case round =>
  obtain ⟨i, bt, rfl, rfl, hi, hM⟩ := hrel
  clear M1
  by_cases hlt : i < NA
  ·obtain ⟨a, gA, oA, ha, rfl, hok, hc⟩ := AT.out i wr hlt hM.out.bl
   have i1 : (i : Int) < (NA : Int) := by omega
   have i2 : (0 : Int) ≤ (i : Int) := by omega
   obtain ⟨kd, stop, k, q, c, id, P1, n1, C1, P2, n2, C2, li, hi'⟩ := a
   have DA := mkHid (DO.out bt dd wr _ hM.out hok)
   have DB := mkHid (fun ct W h => DR.out bt ct dd W _ h hok)
   simp only at DA DB
   have KS : Hid (∀ W, Below w.heap.size w W → W.cell? ⟨gA, oA + i * 8 + 2, none⟩ = some (.slice q k.length c) ∧ W.cell? ⟨gA, oA + i * 8 + 3, none⟩ = some (.int .u64 id)) := fun W hW => ⟨(hc 2 _ rfl).2 W hW, (hc 3 _ rfl).2 W hW⟩
   have e0 := (hc 0 _ rfl).1
   have e1 := (hc 1 _ rfl).1
   have e2 := (hc 2 _ rfl).1
   have e3 := (hc 3 _ rfl).1
   have e4 := (hc 4 _ rfl).1
   have e5 := (hc 5 _ rfl).1
   have e6 := (hc 6 _ rfl).1
   have e7 := (hc 7 _ rfl).1
   rw [Nat.add_zero] at e0
   simp only at e0 e1 e2 e3 e4 e5 e6 e7
   generalize k.length = lk at *
   clear hc hok ha DO DR AT
   by_cases hkd : kd = 4
   ·subst hkd
    clear DA e1 e2 e3 e4 e5 e6 e7
    go_wp2_with (first | (go_at_call 7; refine (CL.out _ _ _ hM.out).mono ?_; rintro e w3 ⟨rfl, tw⟩; replace tw := mkHid tw; generalize wr.heap.size = ct at tw ⊢; clear hM e0) | (go_at_call 8; refine (PU.out _ _ _ _ tw.out).mono ?_; rintro e w4 ⟨⟨x4, rfl⟩, tw4⟩; replace tw4 := mkHid tw4; clear tw))
    have DD := mkHid (DB.out _ _ (show Two u w bt ct dd w4.drew from tw4.out.below (Below.refl _ w4).drew))
    have bw4 := tw4.out.bl
    clear DB PU PE CL EN tw4
    refine wp_region_noPanic ?_
    refine wp_region_held_drew (S := fun w' : World => w'.cell? ⟨gA, oA + i * 8 + 2, none⟩ = some (.slice q lk c) ∧ w'.cell? ⟨gA, oA + i * 8 + 3, none⟩ = some (.int .u64 id)) (by kernel_rfl) (KS.out _ bw4.drew) (fun hH => ?_)
    clear bw4
    refine tKx (i := 0) (v := .pointer (some ⟨bt, 0, none⟩)) rfl rfl (by kernel_rfl) (fun _ _ _ h => h) ?_ hH ?_
    ·intro w5 hSw; obtain ⟨s0, s1⟩ := hSw; go_simp
    simp only [zA9, zB9, zC9]
    refine tKx (i := 1) (v := .slice (some ⟨gA, oA, none⟩) NA CA) rfl rfl (by kernel_rfl) (fun _ _ _ h => h) ?_ hH ?_
    ·intro w5 hSw; obtain ⟨s0, s1⟩ := hSw; go_simp
    simp only [zA9, zB9, zC9]
    refine tKx (i := 2) (v := .int .i64 (i : Int)) rfl rfl (by kernel_rfl) (fun _ _ _ h => h) ?_ hH ?_
    ·intro w5 hSw; obtain ⟨s0, s1⟩ := hSw; go_simp
    simp only [zA9, zB9, zC9]
    refine tKx (i := 3) (v := .pointer (some ⟨gA, oA + i * 8, none⟩)) rfl rfl (by kernel_rfl) (fun _ _ _ h => h) ?_ hH ?_
    ·intro w5 hSw; obtain ⟨s0, s1⟩ := hSw; go_simp
    simp only [zA9, zB9, zC9]
    refine tKx (i := 4) (v := .pointer (some ⟨gA, oA + i * 8 + 2, none⟩)) rfl rfl (by kernel_rfl) (fun _ _ _ h => h) ?_ hH ?_
    ·intro w5 hSw; obtain ⟨s0, s1⟩ := hSw; go_simp
    simp only [zA9, zB9, zC9]
    refine tKx (i := 5) (v := .slice q lk c) rfl rfl (by kernel_rfl) (fun _ _ _ h => h) ?_ hH ?_
    ·intro w5 hSw; obtain ⟨s0, s1⟩ := hSw; go_simp
    simp only [zA9, zB9, zC9]
    refine tKx (i := 6) (v := .slice (some ⟨gA, oA, none⟩) NA CA) rfl rfl (by kernel_rfl) (fun _ _ _ h => h) ?_ hH ?_
    ·intro w5 hSw; obtain ⟨s0, s1⟩ := hSw; go_simp
    simp only [zA9, zB9, zC9]
    refine tKx (i := 7) (v := .int .i64 (i : Int)) rfl rfl (by kernel_rfl) (fun _ _ _ h => h) ?_ hH ?_
    ·intro w5 hSw; obtain ⟨s0, s1⟩ := hSw; go_simp
    simp only [zA9, zB9, zC9]
    refine tKx (i := 8) (v := .pointer (some ⟨gA, oA + i * 8, none⟩)) rfl rfl (by kernel_rfl) (fun _ _ _ h => h) ?_ hH ?_
    ·intro w5 hSw; obtain ⟨s0, s1⟩ := hSw; go_simp
    simp only [zA9, zB9, zC9]
    refine tKx (i := 9) (v := .pointer (some ⟨gA, oA + i * 8 + 3, none⟩)) rfl rfl (by kernel_rfl) (fun _ _ _ h => h) ?_ hH ?_
    ·intro w5 hSw; obtain ⟨s0, s1⟩ := hSw; go_simp
    simp only [zA9, zB9, zC9]
    refine tKx (i := 10) (v := .int .u64 id) rfl rfl (by kernel_rfl) (fun _ _ _ h => h) ?_ hH ?_
    ·intro w5 hSw; obtain ⟨s0, s1⟩ := hSw; go_simp
    simp only [zA9, zB9, zC9]
    refine wpAnyH_ready (rs := [11]) (by kernel_rfl) (by simp) ?_
    refine AllReadyH.cons rfl (fun K hK => ?_) AllReadyH.nil
    go_simp
    go_at_call 9
    refine DD.out.mono ?_
    rintro e w5 ⟨⟨x, rfl⟩, hm5⟩
    replace hm5 := mkHid hm5
    go_wp2_with fail
    refine hK.out _ _ (KS.out w5 hm5.out.bl) (fun hH => ?_)
    clear hK K
    refine wpAnyH_done (by kernel_rfl) ?_ _
    refine NoPanic.normal ?_
    clear hH KS DD
    go_wp2_with fail
    go_roundw
    case rel => exact ⟨i + 1, ct, rfl, by go_num, hlt, hm5⟩
    case measure => simp [intOf]; omega
   ·have k4 : (kd == 4) = false := by rw [beq_eq_false_iff_ne]; exact hkd
    clear DB CL PU PE KS hkd
    go_wp2_with (first | (go_at_call 10; refine DA.out.mono ?_; rintro e w5 ⟨rfl, hm⟩; replace hm := mkHid hm; clear DA e0 e1 e2 e3 e4 e5 e6 e7) | (go_at_call 11; refine (EN.out _ _ _ hm.out).mono ?_; rintro e w6 ⟨rfl, hm6⟩; replace hm6 := mkHid hm6; clear hm EN))
    go_roundw
    case rel => exact ⟨i + 1, bt, rfl, by go_num, hlt, hm6⟩
    case measure => simp [intOf]; omega
  ·obtain rfl : NA = i := by omega
   clear AT DO DR CL PU
   have P1 := mkHid (PE.out bt dd wr hM.out)
   clear PE hM
   go_wp2_with fail
   refine P1.out.mono ?_
   rintro e w3 ⟨x, rfl, DP⟩
   replace DP := mkHid DP
   clear P1
   go_wp2_with fail
   refine DP.out.mono ?_
   rintro e w4 ⟨rfl, hm4⟩
   obtain ⟨T, L, D, hp, _⟩ := hm4.pr
   obtain ⟨PD, CD, hd⟩ := hp.dc
   obtain ⟨ND, hND⟩ : ∃ N, N = D.length := ⟨_, rfl⟩
   have u0 : w4.cell? ⟨dd, 1, none⟩ = some (.slice PD ND CD) := by
    rw [hND]
    exact (cell_of_block hd.box 1).trans rfl
   have GB : Hid (Calls Tryz.prog 13 #[.pointer (some ⟨bt, 0, none⟩), .agg #[.slice none 0 0, .slice none 0 0, .bool false, .bool false], .bool false, .slice PD ND CD, .int .i64 0] w4 fun e w' => e = .returned (.bool true) ∧ MidU u w bt dd w') := by
    have := pr_goes_u hp false none none 0 0 [] [] false false D PD CD 0 (Or.inl rfl) (Or.inl rfl) (by simp) (by simp) (by simp) (by simp) hd.row (fun q h => h) (Nat.le_refl _) (by rw [btw_nil]; exact hp.ag)
    rw [← hND] at this
    exact this.mono (fun e w' hq => ⟨hq.1, hm4.below hq.2⟩)
   clear DP hp hd hND hm4
   go_wp2_with fail
   refine GB.out.mono ?_
   rintro e w5 ⟨rfl, hm5⟩
   replace hm5 := mkHid hm5
   clear GB u0
   go_wp2_with fail
   refine (EN.out _ _ _ hm5.out).mono ?_
   rintro e w6 ⟨rfl, hm6⟩
   replace hm6 := mkHid hm6.bl
   clear hm5 EN
   go_wp2_with fail
   go_ret
   exact ⟨rfl, hm6.out⟩

end Go.Proofs.YtclcajnodoifjaaGreatDoor

