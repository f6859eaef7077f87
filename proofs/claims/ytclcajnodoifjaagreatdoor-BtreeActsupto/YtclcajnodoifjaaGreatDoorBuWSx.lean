/-
 The walk of btree.fall inside a fence: a leaf.
-/
import Derived.Test.YtclcajnodoifjaaGreatDoorIAM
namespace Go.Proofs.YtclcajnodoifjaaGreatDoor
open Go.RowKit Go.Shelf Go.Joins Go.Maps
set_option maxRecDepth 100000

/-- on the way back through a node, inside a fence -/
structure RgI (Y : Nat → Prop) (J : List Em → World → Prop) (pre L : List Em) (rem : Nat → List Em) (FR m : Nat) (w wr : World) : Prop where
 kept : Keeps (fun b => ¬ Y b) w wr
 done : ∃ dn, L = dn ++ (if FR < m then rem (m - 1) else []) ∧ J (pre ++ dn) wr
set_option maxHeartbeats 8000000 in
set_option maxRecDepth 1000000 in
theorem fall_leaf_in (T Y : Nat → Prop) (fl_ fh yl : Nat) (ll lh : Array Value) (lo hi : En → Bool) (J Jx : List Em → World → Prop) (Tot : List Em) (fuel : Nat) (n : Nd Em) (v1 v2 : Value) (l h : Nat) (pre post : List Em) (w : World) (hn : ndIn T w 0 n v1 v2) (hw : n.wf 0 l h) (z1 : n.es.length ≤ 100) (hr : Rise ltM n.fl) (he : EndOk T w fl_ ll lo) (hf : EndOk T w fh lh hi) (hs : Span ltM (fun q => lo q.e) (fun q => hi q.e)) (hy : YldIn T Y yl J Jx Tot) (hTot : Tot = pre ++ ((within (fun q : Em => lo q.e) (fun q : Em => hi q.e) n.fl).reverse ++ post)) (h0 : J pre w) (hY : ∀ b, Y b → b < w.heap.size) :
  CallsIn Fence.wide fuel Tryz.prog 85 #[.agg #[v1, v2], .agg #[.func (.func fl_) #[] ll, .func (.func fh) #[] lh], .func (.yield yl) #[] #[]] w fun e w' => RiN Y J Jx pre (within (fun q : Em => lo q.e) (fun q : Em => hi q.e) n.fl).reverse w e w' := by
 have hv2 := hn.2.2
 subst hv2
 obtain ⟨p, c, p2', c2', rfl, hx2⟩ := hn.slices
 clear hx2 p2' c2'
 have hes : Rise ltM n.es := by rw [← fl_zero hw]; exact hr
 have hfz := fl_zero hw
 obtain ⟨N, hN⟩ : ∃ N, N = n.es.length := ⟨_, rfl⟩
 rw [← hN] at hn ⊢
 obtain ⟨FR, hFR⟩ : ∃ FR, FR = from_ (fun q : Em => lo q.e) n.es := ⟨_, rfl⟩
 obtain ⟨TO, hTO⟩ : ∃ TO, TO = to_ (fun q : Em => hi q.e) n.es := ⟨_, rfl⟩
 obtain ⟨L, hL⟩ : ∃ L, L = (within (fun q : Em => lo q.e) (fun q : Em => hi q.e) n.fl).reverse := ⟨_, rfl⟩
 rw [← hL] at hTot ⊢
 have lFR : FR ≤ N := by rw [hFR, hN]; exact from_le _ _
 have lTO : TO ≤ N := by rw [hTO, hN]; exact from_le _ _
 obtain ⟨w0, hw0⟩ : ∃ w0, w0 = (w.alloc (.cells #[.slice p N c, .slice none 0 0] 60)).alloc (.cells #[.func (.func fl_) #[] ll, .func (.func fh) #[] lh] 72) := ⟨_, rfl⟩
 obtain ⟨d0, d1, bb, bs⟩ := bx2 w (.cells #[.slice p N c, .slice none 0 0] 60) (.cells #[.func (.func fl_) #[] ll, .func (.func fh) #[] lh] 72)
 rw [← hw0] at d0 d1 bb bs
 have RCH : Hid (∀ k, CallsIn Fence.wide k Tryz.prog 86 #[.agg #[.slice p N c, .slice none 0 0], .agg #[.func (.func fl_) #[] ll, .func (.func fh) #[] lh]] w0 fun e w' => e = .returned (.tuple #[.int .i64 (FR : Int), .int .i64 (TO : Int)]) ∧ Below w0.heap.size w0 w') := fun k => by
  rw [hFR, hTO]
  exact callsIn_wide.2 (reach_any T n.es p N c _ _ _ fl_ fh ll lh lo hi w0 (hn.ent.keeps (Keeps.of_below bb)) hN (by omega) hes (he.keeps (Keeps.of_below bb)) (hf.keeps (Keeps.of_below bb)) hs)
 obtain ⟨rv, hrv⟩ : ∃ rv : Nat → List Em, rv = fun i => (within (fun q : Em => lo q.e) (fun q : Em => hi q.e) (n.es.take i)).reverse := ⟨_, rfl⟩
 obtain ⟨rem, hrem⟩ : ∃ rem : Nat → List Em, rem = fun i => if i < TO then (match n.es[i]? with | some q => q :: rv i | none => rv i) else rv i := ⟨_, rfl⟩
 have RT : Hid (rem TO = rv TO) := by rw [hrem]; show (if TO < TO then _ else _) = _; rw [if_neg (by omega)]
 have RM : Hid (∀ i q, FR ≤ i → i < TO → n.es[i]? = some q → rem i = q :: rv i) := fun i q _ h2 hq => by rw [hrem]; show (if i < TO then _ else _) = _; rw [if_pos h2, hq]
 have RB : Hid (L = if FR < TO + 1 then rem TO else []) := by
  show L = _
  split
  ·rw [RT.out, hL, hrv, hfz]
   show _ = (within (fun q : Em => lo q.e) (fun q : Em => hi q.e) (n.es.take TO)).reverse
   rw [hTO, ← leaf_begin' hs hes]
  ·rename_i hc
   rw [hL, span_none hs hw hr (by rw [← hFR, ← hTO]; omega)]; rfl
 have RV : Hid (∀ i, FR ≤ i → i ≤ TO → rv i = (if FR < i then rem (i - 1) else [])) := fun i h1 h2 => by
  by_cases hlt : FR < i
  ·rw [if_pos hlt]
   obtain ⟨j, rfl⟩ : ∃ j, i = j + 1 := ⟨i - 1, by omega⟩
   obtain ⟨q, hq⟩ : ∃ q, n.es[j]? = some q := ⟨_, List.getElem?_eq_getElem (by omega)⟩
   rw [Nat.add_sub_cancel, RM.out j q (by omega) (by omega) hq, hrv]
   show (within (fun q : Em => lo q.e) (fun q : Em => hi q.e) (n.es.take (j + 1))).reverse = q :: (within (fun q : Em => lo q.e) (fun q : Em => hi q.e) (n.es.take j)).reverse
   rw [leaf_step' hs hes hq (by rw [← hFR]; omega) (by rw [← hTO]; omega)]
   simp
  ·obtain rfl : i = FR := by omega
   rw [if_neg hlt, hrv]
   show (within (fun q : Em => lo q.e) (fun q : Em => hi q.e) (n.es.take i)).reverse = _
   rw [leaf_ahead (by rw [← hFR]; exact Nat.le_refl _)]; rfl
 have EN_ : Hid (∀ i, i < N → ∃ q gx ox, n.es[i]? = some q ∧ p = some ⟨gx, ox, none⟩ ∧ ∀ W, Keeps T w W → KeyOk T W q ∧ W.cell? ⟨gx, ox + i * 2, none⟩ = some (.slice (some ⟨q.g, 0, none⟩) q.e.key.length q.c) ∧ W.cell? ⟨gx, ox + i * 2 + 1, none⟩ = some (.int .u64 q.e.id)) := fun i hi => by
  obtain ⟨q, hq⟩ : ∃ q, n.es[i]? = some q := ⟨_, List.getElem?_eq_getElem (by omega)⟩
  obtain ⟨gx, ox, c', e1, _⟩ := hn.some.1 (by omega)
  cases e1
  refine ⟨q, gx, ox, hq, rfl, fun W hW => ?_⟩
  have hk := (hN ▸ hn).keeps hW
  obtain ⟨u0, u1, u2, _⟩ := ndIn.entry (d := 0) hk hq
  exact ⟨u2, u0, u1⟩
 have HY := mkHid hy
 have HYY := mkHid hY
 have HTO := mkHid hTot
 have HI0 := mkHid (hy.keeps pre w w0 h0 bb)
 have BB := mkHid bb
 have D0 := mkHid (And.intro d0 d1)
 have HW0 := mkHid hw0
 have zN : N ≤ 100 := by omega
 clear hn hw z1 hr he hf hs hy hTot h0 hY hFR hTO hL hN d0 d1 bb bs hw0 hrv hrem hes hfz
 refine callsIn_of_wp Tryz.func85 rfl trivial ?_ rfl
 simp only [Tryz.ntmps85, List.size_toArray, List.length_cons, List.length_nil, Nat.reduceAdd, Nat.reduceSub, Array.replicate_succ, Array.replicate_zero, List.push_toArray, List.append_toArray, List.nil_append, List.cons_append]
 gi_wp2_with fail
 rw [← HW0.out]
 clear HW0
 refine ⟨trivial, (fun h => by cases h), (RCH.out _).mono ?_⟩
 rintro en w1 ⟨rfl, hb1⟩
 clear RCH
 have D1 : Hid (w1.heap[w.heap.size]? = some (.cells #[.slice p N c, .slice none 0 0] 60 (0, 0)) ∧ w1.heap[w.heap.size + 1]? = some (.cells #[.func (.func fl_) #[] ll, .func (.func fh) #[] lh] 72 (0, 0))) := ⟨(hb1.block _ (lt_of_heap D0.out.1)).trans D0.out.1, (hb1.block _ (lt_of_heap D0.out.2)).trans D0.out.2⟩
 have BW : Hid (Below w.heap.size w w1) := BB.out.trans (hb1.mono BB.out.size)
 have I1 : Hid (RgI Y J pre L rem FR (TO + 1) w1 w1) := ⟨Keeps.of_below (Below.refl _ _), [], by rw [List.nil_append]; exact RB.out, by rw [List.append_nil]; exact HY.out.keeps pre w0 w1 HI0.out hb1⟩
 have CW : Hid (Keeps (fun b => ¬ Y b) w w1) := Keeps.of_below BW.out
 clear hb1 HI0 D0 RB
 gi_wp2_with fail
 gi_loopw [9] (fun s9 wr => ∃ (x : Int) (m : Nat), x = (m : Int) - 1 ∧ s9 = .int .i64 x ∧ m ≤ TO + 1 ∧ Hid (RgI Y J pre L rem FR m w1 wr)) (fun s9 _ => (intOf s9 + 1).toNat)
 case atStart => exact ⟨_, TO + 1, by omega, rfl, Nat.le_refl _, I1⟩
 case round =>
  obtain ⟨x, m, hx, rfl, hmT, hI⟩ := hrel
  clear I1
  have CR : Hid (Keeps (fun b => ¬ Y b) w wr) := CW.out.trans hI.out.kept
  by_cases hle : FR < m
  ·obtain ⟨i, rfl⟩ : ∃ i, m = i + 1 := ⟨m - 1, by omega⟩
   obtain rfl : x = (i : Int) := by omega
   clear hx
   have hFi : FR ≤ i := by omega
   obtain ⟨dn, hdn, hinv⟩ := hI.out.done
   rw [if_pos hle, Nat.add_sub_cancel] at hdn
   have HDN := mkHid hdn
   have HIN := mkHid hinv
   have HCH := mkHid hI.out.kept
   have j1 : (i : Int) ≥ (FR : Int) := by omega
   clear hdn hinv hI
   by_cases hlt : i < TO
   ·obtain ⟨q, gx, ox, hq, rfl, hqs⟩ := EN_.out i (by omega)
    obtain ⟨kq, c0, c1⟩ := hqs wr (kp_keeps CR.out HY.out.off)
    have hst := RM.out i q hFi hlt hq
    obtain ⟨yfn, ytm, yas, ybo, hyr, hR⟩ := HY.out.does (fuel - 1) (pre ++ dn) (rv i ++ post) q wr (by rw [HTO.out, HDN.out, hst]; simp) HIN.out kq
    have HRR := mkHid hR
    have HST := mkHid hst
    have b0 : wr.cell? ⟨w.heap.size, 0, none⟩ = some (.slice (some ⟨gx, ox, none⟩) N c) := (cell_of_block (HCH.out.2 _ _ _ _ (fun h => by have := HYY.out _ h; omega) D1.out.1) 0).trans rfl
    have i1 : (i : Int) < (TO : Int) := by omega
    have i2 : (i : Int) < (N : Int) := by omega
    have i3 : (0 : Int) ≤ (i : Int) := by omega
    unfold emV enV at hyr
    clear hqs kq hst hq hR
    gi_wp2_with fail
    refine ⟨(fun h => by cases h), HRR.out.mono ?_⟩
    rintro e w3 (⟨rfl, h1, hc⟩ | ⟨rfl, h2⟩)
    ·have C0 : Hid (Keeps (fun b => ¬ Y b) w w3) := CR.out.trans hc
     have CA : Hid (Keeps (fun b => ¬ Y b) w1 w3) := HCH.out.trans hc
     obtain ⟨dn2, hdn2⟩ : ∃ dn2, dn2 = dn ++ [q] := ⟨_, rfl⟩
     have IN0 : Hid (J (pre ++ dn2) w3) := by rw [hdn2]; show J (pre ++ (dn ++ [q])) w3; rw [← List.append_assoc]; exact h1
     have LQ : Hid (L = dn2 ++ rv i) := by rw [hdn2]; show L = _; rw [HDN.out, HST.out]; simp
     clear h1 hc HRR hyr hdn2 c0 c1 b0 HDN HIN HCH CR HST
     have RVI : Hid (rv i = (if FR < i then rem (i - 1) else [])) := RV.out i hFi (by omega)
     have D2 := CA.out.2 _ _ _ _ (fun h => by have := HYY.out _ h; omega) D1.out.1
     have f1 : w3.cell? ⟨w.heap.size, 1, none⟩ = some (.slice none 0 0) := (cell_of_block D2 1).trans rfl
     have NX : Hid (RgI Y J pre L rem FR i w1 w3.drew) := ⟨CA.out, dn2, by rw [LQ.out, RVI.out], HY.out.keeps _ _ _ IN0.out (Below.refl _ w3).drew⟩
     clear D2
     gi_wp2_with fail
     refine wpIn_region_any (by kernel_rfl) ?_
     refine takeF_at (i := 0) (v := .pointer (some ⟨w.heap.size, 1, none⟩)) rfl rfl rfl (by kernel_rfl) (by kernel_rfl) (by kernel_rfl) (fun _ _ _ h => h) ⟨Or.inl ⟨by rfl, ?_⟩, fun _ => rfl⟩ ?_
     ·intro w5; go_simp
     simp only [zA9, zB9, zC9]
     refine wpAnyIn_ready (rs := [1]) (by kernel_rfl) (by simp) ?_
     refine AllReadyIn.cons rfl (fun K hK => ?_) AllReadyIn.nil
     have HK := mkHid hK
     clear hK
     go_simp
     refine HK.out _ _ ?_
     clear HK K
     refine takeF_at (i := 2) (v := .int .i64 (0)) rfl rfl rfl (by kernel_rfl) (by kernel_rfl) (by kernel_rfl) (fun _ _ _ h => h) ⟨Or.inl ⟨by rfl, ?_⟩, fun _ => rfl⟩ ?_
     ·intro w5; go_simp
     simp only [zA9, zB9, zC9]
     refine takeF_at (i := 3) (v := .bool false) rfl rfl rfl (by kernel_rfl) (by kernel_rfl) (by kernel_rfl) (fun _ _ _ h => h) ⟨Or.inl ⟨by rfl, ?_⟩, fun _ => rfl⟩ ?_
     ·intro w5; go_simp
     simp only [zA9, zB9, zC9]
     refine takeF_at (i := 4) (v := .bool false) rfl rfl rfl (by kernel_rfl) (by kernel_rfl) (by kernel_rfl) (fun _ _ _ h => h) ⟨Or.inl ⟨by rfl, ?_⟩, fun _ => rfl⟩ ?_
     ·intro w5; go_simp
     simp only [zA9, zB9, zC9]
     refine takeF_at (i := 5) (v := undef) rfl rfl rfl (by kernel_rfl) (by kernel_rfl) (by kernel_rfl) (fun _ _ _ h => h) ⟨Or.inr ⟨by rfl, rfl⟩, fun _ => rfl⟩ ?_
     simp only [zA9, zB9, zC9]
     refine takeF_at (i := 6) (v := undef) rfl rfl rfl (by kernel_rfl) (by kernel_rfl) (by kernel_rfl) (fun _ _ _ h => h) ⟨Or.inr ⟨by rfl, rfl⟩, fun _ => rfl⟩ ?_
     simp only [zA9, zB9, zC9]
     refine takeF_at (i := 7) (v := undef) rfl rfl rfl (by kernel_rfl) (by kernel_rfl) (by kernel_rfl) (fun _ _ _ h => h) ⟨Or.inr ⟨by rfl, rfl⟩, fun _ => rfl⟩ ?_
     simp only [zA9, zB9, zC9]
     refine takeF_at (i := 8) (v := undef) rfl rfl rfl (by kernel_rfl) (by kernel_rfl) (by kernel_rfl) (fun _ _ _ h => h) ⟨Or.inr ⟨by rfl, rfl⟩, fun _ => rfl⟩ ?_
     simp only [zA9, zB9, zC9]
     refine takeF_at (i := 9) (v := undef) rfl rfl rfl (by kernel_rfl) (by kernel_rfl) (by kernel_rfl) (fun _ _ _ h => h) ⟨Or.inr ⟨by rfl, rfl⟩, fun _ => rfl⟩ ?_
     simp only [zA9, zB9, zC9]
     refine takeF_at (i := 10) (v := undef) rfl rfl rfl (by kernel_rfl) (by kernel_rfl) (by kernel_rfl) (fun _ _ _ h => h) ⟨Or.inr ⟨by rfl, rfl⟩, fun _ => rfl⟩ ?_
     simp only [zA9, zB9, zC9]
     refine takeF_at (i := 11) (v := undef) rfl rfl rfl (by kernel_rfl) (by kernel_rfl) (by kernel_rfl) (fun _ _ _ h => h) ⟨Or.inr ⟨by rfl, rfl⟩, fun _ => rfl⟩ ?_
     simp only [zA9, zB9, zC9]
     refine wpAnyIn_ready (rs := [12]) (by kernel_rfl) (by simp) ?_
     refine AllReadyIn.cons rfl (fun K hK => ?_) AllReadyIn.nil
     have HK := mkHid hK
     clear hK
     go_simp
     refine ⟨trivial, HK.out _ _ ?_⟩
     clear HK K
     refine takeF_at (i := 13) (v := undef) rfl rfl rfl (by kernel_rfl) (by kernel_rfl) (by kernel_rfl) (fun _ _ _ h => h) ⟨Or.inr ⟨by rfl, rfl⟩, fun _ => rfl⟩ ?_
     simp only [zA9, zB9, zC9]
     refine takeF_at (i := 14) (v := .bool false) rfl rfl rfl (by kernel_rfl) (by kernel_rfl) (by kernel_rfl) (fun _ _ _ h => h) ⟨Or.inl ⟨by rfl, ?_⟩, fun _ => rfl⟩ ?_
     ·intro w5; go_simp
     simp only [zA9, zB9, zC9]
     refine wpAnyIn_done (by kernel_rfl) ?_ _
     gi_wp2_with fail
     go_roundw
     case rel => exact ⟨_, i, rfl, by go_num, by omega, NX⟩
     case measure => first | (simp [intOf]; done) | (simp [intOf]; omega)
    ·have FN : RiN Y J Jx pre L w (.returned (.bool false)) w3 := Or.inr ⟨rfl, dn ++ [q], rv i, by rw [HDN.out, HST.out]; simp, by rw [← List.append_assoc]; exact h2⟩
     clear h2 HRR hyr c0 c1 b0
     gi_wp2_with fail
     go_ret
     exact FN
   ·obtain rfl : i = TO := by omega
    have hrt := RT.out
    have C0 := CR
    have CA := HCH
    obtain ⟨dn2, hdn2⟩ : ∃ dn2, dn2 = dn := ⟨_, rfl⟩
    have IN0 : Hid (J (pre ++ dn2) wr) := by rw [hdn2]; exact HIN.out
    have LQ : Hid (L = dn2 ++ rv i) := by rw [hdn2]; show L = _; rw [HDN.out, hrt]
    have nl : ¬ ((i : Int) < (i : Int)) := by omega
    clear hdn2 HDN HIN HCH CR hrt
    gi_wp2_with fail
    refine ⟨(fun _ h => by cases h), ?_⟩
    have RVI : Hid (rv i = (if FR < i then rem (i - 1) else [])) := RV.out i hFi (by omega)
    have D2 := CA.out.2 _ _ _ _ (fun h => by have := HYY.out _ h; omega) D1.out.1
    have f1 : wr.cell? ⟨w.heap.size, 1, none⟩ = some (.slice none 0 0) := (cell_of_block D2 1).trans rfl
    have NX : Hid (RgI Y J pre L rem FR i w1 wr.drew) := ⟨CA.out, dn2, by rw [LQ.out, RVI.out], HY.out.keeps _ _ _ IN0.out (Below.refl _ wr).drew⟩
    clear D2
    gi_wp2_with fail
    refine wpIn_region_any (by kernel_rfl) ?_
    refine takeF_at (i := 0) (v := .pointer (some ⟨w.heap.size, 1, none⟩)) rfl rfl rfl (by kernel_rfl) (by kernel_rfl) (by kernel_rfl) (fun _ _ _ h => h) ⟨Or.inl ⟨by rfl, ?_⟩, fun _ => rfl⟩ ?_
    ·intro w5; go_simp
    simp only [zA9, zB9, zC9]
    refine wpAnyIn_ready (rs := [1]) (by kernel_rfl) (by simp) ?_
    refine AllReadyIn.cons rfl (fun K hK => ?_) AllReadyIn.nil
    have HK := mkHid hK
    clear hK
    go_simp
    refine HK.out _ _ ?_
    clear HK K
    refine takeF_at (i := 2) (v := .int .i64 (0)) rfl rfl rfl (by kernel_rfl) (by kernel_rfl) (by kernel_rfl) (fun _ _ _ h => h) ⟨Or.inl ⟨by rfl, ?_⟩, fun _ => rfl⟩ ?_
    ·intro w5; go_simp
    simp only [zA9, zB9, zC9]
    refine takeF_at (i := 3) (v := .bool false) rfl rfl rfl (by kernel_rfl) (by kernel_rfl) (by kernel_rfl) (fun _ _ _ h => h) ⟨Or.inl ⟨by rfl, ?_⟩, fun _ => rfl⟩ ?_
    ·intro w5; go_simp
    simp only [zA9, zB9, zC9]
    refine takeF_at (i := 4) (v := .bool false) rfl rfl rfl (by kernel_rfl) (by kernel_rfl) (by kernel_rfl) (fun _ _ _ h => h) ⟨Or.inl ⟨by rfl, ?_⟩, fun _ => rfl⟩ ?_
    ·intro w5; go_simp
    simp only [zA9, zB9, zC9]
    refine takeF_at (i := 5) (v := undef) rfl rfl rfl (by kernel_rfl) (by kernel_rfl) (by kernel_rfl) (fun _ _ _ h => h) ⟨Or.inr ⟨by rfl, rfl⟩, fun _ => rfl⟩ ?_
    simp only [zA9, zB9, zC9]
    refine takeF_at (i := 6) (v := undef) rfl rfl rfl (by kernel_rfl) (by kernel_rfl) (by kernel_rfl) (fun _ _ _ h => h) ⟨Or.inr ⟨by rfl, rfl⟩, fun _ => rfl⟩ ?_
    simp only [zA9, zB9, zC9]
    refine takeF_at (i := 7) (v := undef) rfl rfl rfl (by kernel_rfl) (by kernel_rfl) (by kernel_rfl) (fun _ _ _ h => h) ⟨Or.inr ⟨by rfl, rfl⟩, fun _ => rfl⟩ ?_
    simp only [zA9, zB9, zC9]
    refine takeF_at (i := 8) (v := undef) rfl rfl rfl (by kernel_rfl) (by kernel_rfl) (by kernel_rfl) (fun _ _ _ h => h) ⟨Or.inr ⟨by rfl, rfl⟩, fun _ => rfl⟩ ?_
    simp only [zA9, zB9, zC9]
    refine takeF_at (i := 9) (v := undef) rfl rfl rfl (by kernel_rfl) (by kernel_rfl) (by kernel_rfl) (fun _ _ _ h => h) ⟨Or.inr ⟨by rfl, rfl⟩, fun _ => rfl⟩ ?_
    simp only [zA9, zB9, zC9]
    refine takeF_at (i := 10) (v := undef) rfl rfl rfl (by kernel_rfl) (by kernel_rfl) (by kernel_rfl) (fun _ _ _ h => h) ⟨Or.inr ⟨by rfl, rfl⟩, fun _ => rfl⟩ ?_
    simp only [zA9, zB9, zC9]
    refine takeF_at (i := 11) (v := undef) rfl rfl rfl (by kernel_rfl) (by kernel_rfl) (by kernel_rfl) (fun _ _ _ h => h) ⟨Or.inr ⟨by rfl, rfl⟩, fun _ => rfl⟩ ?_
    simp only [zA9, zB9, zC9]
    refine wpAnyIn_ready (rs := [12]) (by kernel_rfl) (by simp) ?_
    refine AllReadyIn.cons rfl (fun K hK => ?_) AllReadyIn.nil
    have HK := mkHid hK
    clear hK
    go_simp
    refine ⟨trivial, HK.out _ _ ?_⟩
    clear HK K
    refine takeF_at (i := 13) (v := undef) rfl rfl rfl (by kernel_rfl) (by kernel_rfl) (by kernel_rfl) (fun _ _ _ h => h) ⟨Or.inr ⟨by rfl, rfl⟩, fun _ => rfl⟩ ?_
    simp only [zA9, zB9, zC9]
    refine takeF_at (i := 14) (v := .bool false) rfl rfl rfl (by kernel_rfl) (by kernel_rfl) (by kernel_rfl) (fun _ _ _ h => h) ⟨Or.inl ⟨by rfl, ?_⟩, fun _ => rfl⟩ ?_
    ·intro w5; go_simp
    simp only [zA9, zB9, zC9]
    refine wpAnyIn_done (by kernel_rfl) ?_ _
    gi_wp2_with fail
    go_roundw
    case rel => exact ⟨_, i, rfl, by go_num, by omega, NX⟩
    case measure => first | (simp [intOf]; done) | (simp [intOf]; omega)
  ·obtain ⟨dn, hdn, hinv⟩ := hI.out.done
   rw [if_neg hle, List.append_nil] at hdn
   have FN : RiN Y J Jx pre L w (.returned (.bool true)) wr := Or.inl ⟨rfl, by rw [hdn]; exact hinv, CR.out⟩
   have nb : ¬ (x ≥ (FR : Int)) := by omega
   clear hdn hinv hI hx
   gi_wp2_with fail
   go_ret
   exact FN
end Go.Proofs.YtclcajnodoifjaaGreatDoor

