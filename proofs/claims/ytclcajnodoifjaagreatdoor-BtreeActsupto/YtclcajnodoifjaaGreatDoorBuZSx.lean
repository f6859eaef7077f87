/-
 The walk of btree.fall inside a fence: an inner node; any.
-/
import Derived.Test.YtclcajnodoifjaaGreatDoorBuWSx
namespace Go.Proofs.YtclcajnodoifjaaGreatDoor
open Go.RowKit Go.Shelf Go.Joins Go.Maps
set_option maxRecDepth 100000

set_option maxHeartbeats 8000000 in
set_option maxRecDepth 1000000 in
theorem fall_inner_in (T Y : Nat → Prop) (fl_ fh yl : Nat) (ll lh : Array Value) (lo hi : En → Bool) (J Jx : List Em → World → Prop) (Tot : List Em) (fuel : Nat) (d : Nat) (n : Nd Em) (v1 v2 : Value) (l h : Nat) (pre post : List Em) (w : World) (hn : ndIn T w (d + 1) n v1 v2) (hw : n.wf (d + 1) l h) (z0 : 1 ≤ n.es.length) (z1 : n.es.length ≤ 100) (hr : Rise ltM n.fl) (he : EndOk T w fl_ ll lo) (hf : EndOk T w fh lh hi) (hs : Span ltM (fun q => lo q.e) (fun q => hi q.e)) (hy : YldIn T Y yl J Jx Tot) (hTot : Tot = pre ++ ((within (fun q : Em => lo q.e) (fun q : Em => hi q.e) n.fl).reverse ++ post)) (h0 : J pre w) (hY : ∀ b, Y b → b < w.heap.size)
  (IH : ∀ (fuel i : Nat) (k : Nd Em) (h1 h2 : Value) (pre post : List Em) (w : World), n.ks[i]? = some k → ndIn T w d k h1 h2 → EndOk T w fl_ ll lo → EndOk T w fh lh hi → Tot = pre ++ ((within (fun q : Em => lo q.e) (fun q : Em => hi q.e) k.fl).reverse ++ post) → J pre w → (∀ b, Y b → b < w.heap.size) → CallsIn Fence.wide fuel Tryz.prog 85 #[.agg #[h1, h2], .agg #[.func (.func fl_) #[] ll, .func (.func fh) #[] lh], .func (.yield yl) #[] #[]] w fun e w' => RiN Y J Jx pre (within (fun q : Em => lo q.e) (fun q : Em => hi q.e) k.fl).reverse w e w') :
  CallsIn Fence.wide fuel Tryz.prog 85 #[.agg #[v1, v2], .agg #[.func (.func fl_) #[] ll, .func (.func fh) #[] lh], .func (.yield yl) #[] #[]] w fun e w' => RiN Y J Jx pre (within (fun q : Em => lo q.e) (fun q : Em => hi q.e) n.fl).reverse w e w' := by
 have hkl := wf_klen hw
 have hes := es_rise (Or.inr hkl) hr
 obtain ⟨gy, oy, e, rfl, hge⟩ := hn.some.2 (by omega)
 obtain ⟨p, c, p2', c2', rfl, hx2⟩ := hn.slices
 clear hx2 p2' c2'
 obtain ⟨N, hN⟩ : ∃ N, N = n.es.length := ⟨_, rfl⟩
 rw [hkl, ← hN] at hn hge
 rw [hkl, ← hN]
 obtain ⟨FR, hFR⟩ : ∃ FR, FR = from_ (fun q : Em => lo q.e) n.es := ⟨_, rfl⟩
 obtain ⟨TO, hTO⟩ : ∃ TO, TO = to_ (fun q : Em => hi q.e) n.es := ⟨_, rfl⟩
 obtain ⟨L, hL⟩ : ∃ L, L = (within (fun q : Em => lo q.e) (fun q : Em => hi q.e) n.fl).reverse := ⟨_, rfl⟩
 rw [← hL] at hTot ⊢
 have lFR : FR ≤ N := by rw [hFR, hN]; exact from_le _ _
 have lTO : TO ≤ N := by rw [hTO, hN]; exact from_le _ _
 obtain ⟨w0, hw0⟩ : ∃ w0, w0 = (w.alloc (.cells #[.slice p N c, .slice (some ⟨gy, oy, none⟩) (N + 1) e] 60)).alloc (.cells #[.func (.func fl_) #[] ll, .func (.func fh) #[] lh] 72) := ⟨_, rfl⟩
 obtain ⟨d0, d1, bb, bs⟩ := bx2 w (.cells #[.slice p N c, .slice (some ⟨gy, oy, none⟩) (N + 1) e] 60) (.cells #[.func (.func fl_) #[] ll, .func (.func fh) #[] lh] 72)
 rw [← hw0] at d0 d1 bb bs
 have RCH : Hid (∀ k, CallsIn Fence.wide k Tryz.prog 86 #[.agg #[.slice p N c, .slice (some ⟨gy, oy, none⟩) (N + 1) e], .agg #[.func (.func fl_) #[] ll, .func (.func fh) #[] lh]] w0 fun e w' => e = .returned (.tuple #[.int .i64 (FR : Int), .int .i64 (TO : Int)]) ∧ Below w0.heap.size w0 w') := fun k => by
  rw [hFR, hTO]
  exact callsIn_wide.2 (reach_any T n.es p N c _ _ _ fl_ fh ll lh lo hi w0 (hn.ent.keeps (Keeps.of_below bb)) hN (by omega) hes (he.keeps (Keeps.of_below bb)) (hf.keeps (Keeps.of_below bb)) hs)
 have kat : ∀ i, i ≤ N → ∃ k, n.ks[i]? = some k := fun i hi => ⟨_, List.getElem?_eq_getElem (by omega)⟩
 obtain ⟨rv, hrv⟩ : ∃ rv : Nat → List Em, rv = fun i => (n.rest' (fun q : Em => lo q.e) (fun q : Em => hi q.e) i).reverse := ⟨_, rfl⟩
 obtain ⟨rem, hrem⟩ : ∃ rem : Nat → List Em, rem = fun i => if i < TO then (match n.es[i]? with | some q => q :: rv i | none => rv i) else rv i := ⟨_, rfl⟩
 have RT : Hid (rem TO = rv TO) := by rw [hrem]; show (if TO < TO then _ else _) = _; rw [if_neg (by omega)]
 have RM : Hid (∀ i q, FR ≤ i → i < TO → n.es[i]? = some q → rem i = q :: rv i) := fun i q _ h2 hq => by rw [hrem]; show (if i < TO then _ else _) = _; rw [if_pos h2, hq]
 have RB : Hid (L = if FR < TO + 1 then rem TO else []) := by
  show L = _
  split
  ·obtain ⟨k, hk⟩ := kat TO lTO
   rw [RT.out, hL, hrv]
   show _ = (n.rest' _ _ TO).reverse
   rw [hTO, ← down_begin hs hkl hr (by rw [← hTO]; exact hk)]
  ·rename_i hc
   rw [hL, span_none hs hw hr (by rw [← hFR, ← hTO]; omega)]; rfl
 have RV : Hid (∀ i k, FR ≤ i → i ≤ TO → n.ks[i]? = some k → rv i = (within (fun q : Em => lo q.e) (fun q : Em => hi q.e) k.fl).reverse ++ (if FR < i then rem (i - 1) else [])) := fun i k h1 h2 hk => by
  by_cases hlt : FR < i
  ·rw [if_pos hlt]
   obtain ⟨j, rfl⟩ : ∃ j, i = j + 1 := ⟨i - 1, by omega⟩
   obtain ⟨q, hq⟩ : ∃ q, n.es[j]? = some q := ⟨_, List.getElem?_eq_getElem (by omega)⟩
   rw [Nat.add_sub_cancel, RM.out j q (by omega) (by omega) hq, hrv]
   show (n.rest' _ _ (j + 1)).reverse = _ ++ q :: (n.rest' _ _ j).reverse
   rw [down_step hs hkl hr hk hq (by rw [← hFR]; omega) (by rw [← hTO]; omega)]
   simp
  ·obtain rfl : i = FR := by omega
   rw [if_neg hlt, List.append_nil, hrv]
   show (n.rest' _ _ i).reverse = _
   have := down_end hs hkl hr (k := k) (by rw [← hFR]; exact hk)
   rw [← hFR] at this
   rw [this]
 have KD : Hid (∀ i, i ≤ N → ∃ k, n.ks[i]? = some k ∧ ∀ W, Keeps (fun b => ¬ Y b) w W → ∃ a1 a2 a3 b1 b2 b3, W.cell? ⟨gy, oy + i * 2, none⟩ = some (.slice a1 a2 a3) ∧ W.cell? ⟨gy, oy + i * 2 + 1, none⟩ = some (.slice b1 b2 b3) ∧ ndIn T W d k (.slice a1 a2 a3) (.slice b1 b2 b3)) := fun i hi => by
  obtain ⟨k, hk⟩ := kat i hi
  refine ⟨k, hk, fun W hW => ?_⟩
  obtain ⟨a1, a2, a3, b1, b2, b3, q1, q2, q3, q4⟩ := (hn.keeps (kp_keeps hW hy.off)).kid hk
  exact ⟨a1, a2, a3, b1, b2, b3, q1, q2, q3⟩
 have RK : Hid (∀ fuel i k a1 a2 a3 b1 b2 b3 pre post W, n.ks[i]? = some k → ndIn T W d k (.slice a1 a2 a3) (.slice b1 b2 b3) → Keeps (fun b => ¬ Y b) w W → Tot = pre ++ ((within (fun q : Em => lo q.e) (fun q : Em => hi q.e) k.fl).reverse ++ post) → J pre W → CallsIn Fence.wide fuel Tryz.prog 85 #[.agg #[.slice a1 a2 a3, .slice b1 b2 b3], .agg #[.func (.func fl_) #[] ll, .func (.func fh) #[] lh], .func (.yield yl) #[] #[]] W fun e w' => RiN Y J Jx pre (within (fun q : Em => lo q.e) (fun q : Em => hi q.e) k.fl).reverse W e w') := fun fuel i k a1 a2 a3 b1 b2 b3 pre post W hk hnd hW ht hi =>
  IH fuel i k _ _ pre post W hk hnd (he.keeps (kp_keeps hW hy.off)) (hf.keeps (kp_keeps hW hy.off)) ht hi (fun b hb => Nat.lt_of_lt_of_le (hY b hb) hW.1)
 have EN_ : Hid (∀ i, i < N → ∃ q gx ox, n.es[i]? = some q ∧ p = some ⟨gx, ox, none⟩ ∧ ∀ W, Keeps T w W → KeyOk T W q ∧ W.cell? ⟨gx, ox + i * 2, none⟩ = some (.slice (some ⟨q.g, 0, none⟩) q.e.key.length q.c) ∧ W.cell? ⟨gx, ox + i * 2 + 1, none⟩ = some (.int .u64 q.e.id)) := fun i hi => by
  obtain ⟨q, hq⟩ : ∃ q, n.es[i]? = some q := ⟨_, List.getElem?_eq_getElem (by omega)⟩
  obtain ⟨gx, ox, c', e1, _⟩ := hn.some.1 (by omega)
  cases e1
  refine ⟨q, gx, ox, hq, rfl, fun W hW => ?_⟩
  have hk := (hN ▸ hn).keeps hW
  obtain ⟨u0, u1, u2, _⟩ := ndIn.entry (d := (d + 1)) hk hq
  exact ⟨u2, u0, u1⟩
 have HY := mkHid hy
 have HYY := mkHid hY
 have HTO := mkHid hTot
 have HI0 := mkHid (hy.keeps pre w w0 h0 bb)
 have BB := mkHid bb
 have D0 := mkHid (And.intro d0 d1)
 have HW0 := mkHid hw0
 have zN : N ≤ 100 := by omega
 clear hn hw z1 hr he hf hs hy hTot h0 hY hFR hTO hL hN d0 d1 bb bs hw0 hrv hrem hes kat hkl hge IH z0
 refine callsIn_of_wp Tryz.func85 rfl trivial ?_ rfl
 simp only [Tryz.ntmps85, List.size_toArray, List.length_cons, List.length_nil, Nat.reduceAdd, Nat.reduceSub, Array.replicate_succ, Array.replicate_zero, List.push_toArray, List.append_toArray, List.nil_append, List.cons_append]
 gi_wp2_with fail
 rw [← HW0.out]
 clear HW0
 refine ⟨trivial, (fun h => by cases h), (RCH.out _).mono ?_⟩
 rintro en w1 ⟨rfl, hb1⟩
 clear RCH
 have D1 : Hid (w1.heap[w.heap.size]? = some (.cells #[.slice p N c, .slice (some ⟨gy, oy, none⟩) (N + 1) e] 60 (0, 0)) ∧ w1.heap[w.heap.size + 1]? = some (.cells #[.func (.func fl_) #[] ll, .func (.func fh) #[] lh] 72 (0, 0))) := ⟨(hb1.block _ (lt_of_heap D0.out.1)).trans D0.out.1, (hb1.block _ (lt_of_heap D0.out.2)).trans D0.out.2⟩
 have BW : Hid (Below w.heap.size w w1) := BB.out.trans (hb1.mono BB.out.size)
 have I1 : Hid (RgI Y J pre L rem FR (TO + 1) w1 w1) := ⟨Keeps.of_below (Below.refl _ _), [], by rw [List.nil_append]; exact RB.out, by rw [List.append_nil]; exact HY.out.keeps pre w0 w1 HI0.out hb1⟩
 have CW : Hid (Keeps (fun b => ¬ Y b) w w1) := Keeps.of_below BW.out
 clear hb1 HI0 D0 RB
 gi_wp2_with fail
 gi_loopw [9] (fun s9 wr => ∃ (x : Int) (m : Nat), x = (m : Int) - 1 ∧ s9 = .int .i64 x ∧ m ≤ TO + 1 ∧ Hid (RgI Y J pre L rem FR m w1 wr)) (fun s9 _ => (intOf s9 + 1).toNat)
 case atStart => exact ⟨_, TO + 1, by omega, rfl, Nat.le_refl _, I1⟩
 case round =>
  obtain ⟨x, m, hx, rfl, hmT, hI⟩ := hrel
  clear I1
  have CR : Hid (Keeps (fun b => ¬ Y b) w wr) := CW.out.trans hI.out.kept
  by_cases hle : FR < m
  ·obtain ⟨i, rfl⟩ : ∃ i, m = i + 1 := ⟨m - 1, by omega⟩
   obtain rfl : x = (i : Int) := by omega
   clear hx
   have hFi : FR ≤ i := by omega
   obtain ⟨dn, hdn, hinv⟩ := hI.out.done
   rw [if_pos hle, Nat.add_sub_cancel] at hdn
   have HDN := mkHid hdn
   have HIN := mkHid hinv
   have HCH := mkHid hI.out.kept
   have j1 : (i : Int) ≥ (FR : Int) := by omega
   clear hdn hinv hI
   by_cases hlt : i < TO
   ·obtain ⟨q, gx, ox, hq, rfl, hqs⟩ := EN_.out i (by omega)
    obtain ⟨kq, c0, c1⟩ := hqs wr (kp_keeps CR.out HY.out.off)
    have hst := RM.out i q hFi hlt hq
    obtain ⟨yfn, ytm, yas, ybo, hyr, hR⟩ := HY.out.does (fuel - 1) (pre ++ dn) (rv i ++ post) q wr (by rw [HTO.out, HDN.out, hst]; simp) HIN.out kq
    have HRR := mkHid hR
    have HST := mkHid hst
    have b0 : wr.cell? ⟨w.heap.size, 0, none⟩ = some (.slice (some ⟨gx, ox, none⟩) N c) := (cell_of_block (HCH.out.2 _ _ _ _ (fun h => by have := HYY.out _ h; omega) D1.out.1) 0).trans rfl
    have i1 : (i : Int) < (TO : Int) := by omega
    have i2 : (i : Int) < (N : Int) := by omega
    have i3 : (0 : Int) ≤ (i : Int) := by omega
    unfold emV enV at hyr
    clear hqs kq hst hq hR
    gi_wp2_with fail
    refine ⟨(fun h => by cases h), HRR.out.mono ?_⟩
    rintro e w3 (⟨rfl, h1, hc⟩ | ⟨rfl, h2⟩)
    ·have C0 : Hid (Keeps (fun b => ¬ Y b) w w3) := CR.out.trans hc
     have CA : Hid (Keeps (fun b => ¬ Y b) w1 w3) := HCH.out.trans hc
     obtain ⟨dn2, hdn2⟩ : ∃ dn2, dn2 = dn ++ [q] := ⟨_, rfl⟩
     have IN0 : Hid (J (pre ++ dn2) w3) := by rw [hdn2]; show J (pre ++ (dn ++ [q])) w3; rw [← List.append_assoc]; exact h1
     have LQ : Hid (L = dn2 ++ rv i) := by rw [hdn2]; show L = _; rw [HDN.out, HST.out]; simp
     clear h1 hc HRR hyr hdn2 c0 c1 b0 HDN HIN HCH CR HST
     obtain ⟨k, hk, hkw⟩ := KD.out i (by omega)
     obtain ⟨a1, a2, a3, b1, b2, b3, q1, q2, q3⟩ := hkw w3 C0.out
     obtain ⟨Lk, hLk⟩ : ∃ Lk, Lk = (within (fun q : Em => lo q.e) (fun q : Em => hi q.e) k.fl).reverse := ⟨_, rfl⟩
     have RVI : Hid (rv i = Lk ++ (if FR < i then rem (i - 1) else [])) := by rw [hLk]; exact RV.out i k hFi (by omega) hk
     have C1 : Hid (Keeps (fun b => ¬ Y b) w w3.drew) := C0.out
     have CA1 : Hid (Keeps (fun b => ¬ Y b) w1 w3.drew) := CA.out
     have IN1 := mkHid (HY.out.keeps _ _ _ IN0.out (Below.refl _ w3).drew)
     have RCK : Hid (∀ fuel, CallsIn Fence.wide fuel Tryz.prog 85 #[.agg #[.slice a1 a2 a3, .slice b1 b2 b3], .agg #[.func (.func fl_) #[] ll, .func (.func fh) #[] lh], .func (.yield yl) #[] #[]] w3.drew fun e w' => RiN Y J Jx (pre ++ dn2) Lk w3.drew e w') := fun fuel => by
      rw [hLk]
      exact RK.out fuel i k a1 a2 a3 b1 b2 b3 (pre ++ dn2) ((if FR < i then rem (i - 1) else []) ++ post) w3.drew hk (q3.keeps (Keeps.of_below (Below.refl _ w3).drew)) C1.out (by rw [HTO.out, LQ.out, RVI.out, hLk]; simp) IN1.out
     have y1 : (i : Int) < (N : Int) + 1 := by omega
     have y2 : (0 : Int) ≤ (i : Int) := by omega
     have y3 : (N : Int) + 1 > 0 := by omega
     have D2 := CA.out.2 _ _ _ _ (fun h => by have := HYY.out _ h; omega) D1.out.1
     have D3 := CA.out.2 _ _ _ _ (fun h => by have := HYY.out _ h; omega) D1.out.2
     have f1 : w3.cell? ⟨w.heap.size, 1, none⟩ = some (.slice (some ⟨gy, oy, none⟩) (N + 1) e) := (cell_of_block D2 1).trans rfl
     have f2 : w3.cell? ⟨w.heap.size + 1, 0, none⟩ = some (.func (.func fl_) #[] ll) := (cell_of_block D3 0).trans rfl
     have f3 : w3.cell? ⟨w.heap.size + 1, 1, none⟩ = some (.func (.func fh) #[] lh) := (cell_of_block D3 1).trans rfl
     clear hk hkw hLk q3 D2 D3
     gi_wp2_with fail
     refine wpIn_region_any (by kernel_rfl) ?_
     refine takeF_at (i := 0) (v := .pointer (some ⟨w.heap.size, 1, none⟩)) rfl rfl rfl (by kernel_rfl) (by kernel_rfl) (by kernel_rfl) (fun _ _ _ h => h) ⟨Or.inl ⟨by rfl, ?_⟩, fun _ => rfl⟩ ?_
     ·intro w5; go_simp
     simp only [zA9, zB9, zC9]
     refine wpAnyIn_ready (rs := [1]) (by kernel_rfl) (by simp) ?_
     refine AllReadyIn.cons rfl (fun K hK => ?_) AllReadyIn.nil
     have HK := mkHid hK
     clear hK
     go_simp
     refine HK.out _ _ ?_
     clear HK K
     refine takeF_at (i := 2) (v := .int .i64 ((N : Int) + 1)) rfl rfl rfl (by kernel_rfl) (by kernel_rfl) (by kernel_rfl) (fun _ _ _ h => h) ⟨Or.inl ⟨by rfl, ?_⟩, fun _ => rfl⟩ ?_
     ·intro w5; go_simp
     simp only [zA9, zB9, zC9]
     refine takeF_at (i := 3) (v := .bool true) rfl rfl rfl (by kernel_rfl) (by kernel_rfl) (by kernel_rfl) (fun _ _ _ h => h) ⟨Or.inl ⟨by rfl, ?_⟩, fun _ => rfl⟩ ?_
     ·intro w5; go_simp
     simp only [zA9, zB9, zC9]
     refine takeF_at (i := 4) (v := .bool true) rfl rfl rfl (by kernel_rfl) (by kernel_rfl) (by kernel_rfl) (fun _ _ _ h => h) ⟨Or.inl ⟨by rfl, ?_⟩, fun _ => rfl⟩ ?_
     ·intro w5; go_simp
     simp only [zA9, zB9, zC9]
     refine takeF_at (i := 5) (v := .pointer (some ⟨w.heap.size, 1, none⟩)) rfl rfl rfl (by kernel_rfl) (by kernel_rfl) (by kernel_rfl) (fun _ _ _ h => h) ⟨Or.inl ⟨by rfl, ?_⟩, fun _ => rfl⟩ ?_
     ·intro w5; go_simp
     simp only [zA9, zB9, zC9]
     refine takeF_at (i := 7) (v := .int .i64 ((i : Int))) rfl rfl rfl (by kernel_rfl) (by kernel_rfl) (by kernel_rfl) (fun _ _ _ h => h) ⟨Or.inl ⟨by rfl, ?_⟩, fun _ => rfl⟩ ?_
     ·intro w5; go_simp
     simp only [zA9, zB9, zC9]
     refine takeF_at (i := 11) (v := .func (.yield yl) #[] #[]) rfl rfl rfl (by kernel_rfl) (by kernel_rfl) (by kernel_rfl) (fun _ _ _ h => h) ⟨Or.inl ⟨by rfl, ?_⟩, fun _ => rfl⟩ ?_
     ·intro w5; go_simp
     simp only [zA9, zB9, zC9]
     refine wpAnyIn_ready (rs := [6, 10]) (by kernel_rfl) (by simp) ?_
     refine AllReadyIn.cons rfl (fun K hK => ?_) (AllReadyIn.cons rfl (fun K hK => ?_) AllReadyIn.nil)
     ·have HK := mkHid hK
      clear hK
      go_simp
      refine HK.out _ _ ?_
      clear HK K
      refine takeF_at (i := 8) (v := .pointer (some ⟨gy, oy + i * 2, none⟩)) rfl rfl rfl (by kernel_rfl) (by kernel_rfl) (by kernel_rfl) (fun _ _ _ h => h) ⟨Or.inl ⟨by rfl, ?_⟩, fun _ => rfl⟩ ?_
      ·intro w5; go_simp
      simp only [zA9, zB9, zC9]
      refine wpAnyIn_ready (rs := [9, 10]) (by kernel_rfl) (by simp) ?_
      refine AllReadyIn.cons rfl (fun K hK => ?_) (AllReadyIn.cons rfl (fun K hK => ?_) AllReadyIn.nil)
      ·have HK := mkHid hK
       clear hK
       go_simp
       refine HK.out _ _ ?_
       clear HK K
       refine wpAnyIn_ready (rs := [10]) (by kernel_rfl) (by simp) ?_
       refine AllReadyIn.cons rfl (fun K hK => ?_) AllReadyIn.nil
       ·have HK := mkHid hK
        clear hK
        go_simp
        refine HK.out _ _ ?_
        clear HK K
        refine wpAnyIn_ready (rs := [12]) (by kernel_rfl) (by simp) ?_
        refine AllReadyIn.cons rfl (fun K hK => ?_) AllReadyIn.nil
        have HK := mkHid hK
        clear hK
        go_simp
        refine ⟨trivial, (fun h => by cases h), (RCK.out _).mono ?_⟩
        rintro en w2 (⟨rfl, h1, hc⟩ | ⟨rfl, l1, l2, e1, h2⟩)
        ·gi_wp2_with fail
         refine HK.out _ _ ?_
         clear HK K
         refine takeF_at (i := 13) (v := .bool false) rfl rfl rfl (by kernel_rfl) (by kernel_rfl) (by kernel_rfl) (fun _ _ _ h => h) ⟨Or.inl ⟨by rfl, ?_⟩, fun _ => rfl⟩ ?_
         ·intro w5; go_simp
         simp only [zA9, zB9, zC9]
         refine takeF_at (i := 14) (v := .bool false) rfl rfl rfl (by kernel_rfl) (by kernel_rfl) (by kernel_rfl) (fun _ _ _ h => h) ⟨Or.inl ⟨by rfl, ?_⟩, fun _ => rfl⟩ ?_
         ·intro w5; go_simp
         simp only [zA9, zB9, zC9]
         refine wpAnyIn_done (by kernel_rfl) ?_ _
         have IN2 : J (pre ++ (dn2 ++ Lk)) w2 := by rw [← List.append_assoc]; exact h1
         have NX : Hid (RgI Y J pre L rem FR i w1 w2) := ⟨CA1.out.trans hc, dn2 ++ Lk, by rw [LQ.out, RVI.out]; simp, IN2⟩
         clear IN2 h1 hc
         gi_wp2_with fail
         go_roundw
         case rel => exact ⟨_, i, rfl, by go_num, by omega, NX⟩
         case measure => first | (simp [intOf]; done) | (simp [intOf]; omega)
        ·gi_wp2_with fail
         refine HK.out _ _ ?_
         clear HK K
         refine takeF_at (i := 13) (v := .bool true) rfl rfl rfl (by kernel_rfl) (by kernel_rfl) (by kernel_rfl) (fun _ _ _ h => h) ⟨Or.inl ⟨by rfl, ?_⟩, fun _ => rfl⟩ ?_
         ·intro w5; go_simp
         simp only [zA9, zB9, zC9]
         refine takeF_at (i := 14) (v := .bool true) rfl rfl rfl (by kernel_rfl) (by kernel_rfl) (by kernel_rfl) (fun _ _ _ h => h) ⟨Or.inl ⟨by rfl, ?_⟩, fun _ => rfl⟩ ?_
         ·intro w5; go_simp
         simp only [zA9, zB9, zC9]
         refine wpAnyIn_done (by kernel_rfl) ?_ _
         have FN : RiN Y J Jx pre L w (.returned (.bool false)) w2 := Or.inr ⟨rfl, dn2 ++ l1, l2 ++ (if FR < i then rem (i - 1) else []), by rw [LQ.out, RVI.out, e1]; simp, by rw [← List.append_assoc]; exact h2⟩
         clear e1 h2
         gi_wp2_with fail
         go_ret
         exact FN
      ·have HK := mkHid hK
       clear hK
       go_simp
       refine HK.out _ _ ?_
       clear HK K
       refine wpAnyIn_ready (rs := [9]) (by kernel_rfl) (by simp) ?_
       refine AllReadyIn.cons rfl (fun K hK => ?_) AllReadyIn.nil
       ·have HK := mkHid hK
        clear hK
        go_simp
        refine HK.out _ _ ?_
        clear HK K
        refine wpAnyIn_ready (rs := [12]) (by kernel_rfl) (by simp) ?_
        refine AllReadyIn.cons rfl (fun K hK => ?_) AllReadyIn.nil
        have HK := mkHid hK
        clear hK
        go_simp
        refine ⟨trivial, (fun h => by cases h), (RCK.out _).mono ?_⟩
        rintro en w2 (⟨rfl, h1, hc⟩ | ⟨rfl, l1, l2, e1, h2⟩)
        ·gi_wp2_with fail
         refine HK.out _ _ ?_
         clear HK K
         refine takeF_at (i := 13) (v := .bool false) rfl rfl rfl (by kernel_rfl) (by kernel_rfl) (by kernel_rfl) (fun _ _ _ h => h) ⟨Or.inl ⟨by rfl, ?_⟩, fun _ => rfl⟩ ?_
         ·intro w5; go_simp
         simp only [zA9, zB9, zC9]
         refine takeF_at (i := 14) (v := .bool false) rfl rfl rfl (by kernel_rfl) (by kernel_rfl) (by kernel_rfl) (fun _ _ _ h => h) ⟨Or.inl ⟨by rfl, ?_⟩, fun _ => rfl⟩ ?_
         ·intro w5; go_simp
         simp only [zA9, zB9, zC9]
         refine wpAnyIn_done (by kernel_rfl) ?_ _
         have IN2 : J (pre ++ (dn2 ++ Lk)) w2 := by rw [← List.append_assoc]; exact h1
         have NX : Hid (RgI Y J pre L rem FR i w1 w2) := ⟨CA1.out.trans hc, dn2 ++ Lk, by rw [LQ.out, RVI.out]; simp, IN2⟩
         clear IN2 h1 hc
         gi_wp2_with fail
         go_roundw
         case rel => exact ⟨_, i, rfl, by go_num, by omega, NX⟩
         case measure => first | (simp [intOf]; done) | (simp [intOf]; omega)
        ·gi_wp2_with fail
         refine HK.out _ _ ?_
         clear HK K
         refine takeF_at (i := 13) (v := .bool true) rfl rfl rfl (by kernel_rfl) (by kernel_rfl) (by kernel_rfl) (fun _ _ _ h => h) ⟨Or.inl ⟨by rfl, ?_⟩, fun _ => rfl⟩ ?_
         ·intro w5; go_simp
         simp only [zA9, zB9, zC9]
         refine takeF_at (i := 14) (v := .bool true) rfl rfl rfl (by kernel_rfl) (by kernel_rfl) (by kernel_rfl) (fun _ _ _ h => h) ⟨Or.inl ⟨by rfl, ?_⟩, fun _ => rfl⟩ ?_
         ·intro w5; go_simp
         simp only [zA9, zB9, zC9]
         refine wpAnyIn_done (by kernel_rfl) ?_ _
         have FN : RiN Y J Jx pre L w (.returned (.bool false)) w2 := Or.inr ⟨rfl, dn2 ++ l1, l2 ++ (if FR < i then rem (i - 1) else []), by rw [LQ.out, RVI.out, e1]; simp, by rw [← List.append_assoc]; exact h2⟩
         clear e1 h2
         gi_wp2_with fail
         go_ret
         exact FN
     ·have HK := mkHid hK
      clear hK
      go_simp
      refine HK.out _ _ ?_
      clear HK K
      refine wpAnyIn_ready (rs := [6]) (by kernel_rfl) (by simp) ?_
      refine AllReadyIn.cons rfl (fun K hK => ?_) AllReadyIn.nil
      ·have HK := mkHid hK
       clear hK
       go_simp
       refine HK.out _ _ ?_
       clear HK K
       refine takeF_at (i := 8) (v := .pointer (some ⟨gy, oy + i * 2, none⟩)) rfl rfl rfl (by kernel_rfl) (by kernel_rfl) (by kernel_rfl) (fun _ _ _ h => h) ⟨Or.inl ⟨by rfl, ?_⟩, fun _ => rfl⟩ ?_
       ·intro w5; go_simp
       simp only [zA9, zB9, zC9]
       refine wpAnyIn_ready (rs := [9]) (by kernel_rfl) (by simp) ?_
       refine AllReadyIn.cons rfl (fun K hK => ?_) AllReadyIn.nil
       ·have HK := mkHid hK
        clear hK
        go_simp
        refine HK.out _ _ ?_
        clear HK K
        refine wpAnyIn_ready (rs := [12]) (by kernel_rfl) (by simp) ?_
        refine AllReadyIn.cons rfl (fun K hK => ?_) AllReadyIn.nil
        have HK := mkHid hK
        clear hK
        go_simp
        refine ⟨trivial, (fun h => by cases h), (RCK.out _).mono ?_⟩
        rintro en w2 (⟨rfl, h1, hc⟩ | ⟨rfl, l1, l2, e1, h2⟩)
        ·gi_wp2_with fail
         refine HK.out _ _ ?_
         clear HK K
         refine takeF_at (i := 13) (v := .bool false) rfl rfl rfl (by kernel_rfl) (by kernel_rfl) (by kernel_rfl) (fun _ _ _ h => h) ⟨Or.inl ⟨by rfl, ?_⟩, fun _ => rfl⟩ ?_
         ·intro w5; go_simp
         simp only [zA9, zB9, zC9]
         refine takeF_at (i := 14) (v := .bool false) rfl rfl rfl (by kernel_rfl) (by kernel_rfl) (by kernel_rfl) (fun _ _ _ h => h) ⟨Or.inl ⟨by rfl, ?_⟩, fun _ => rfl⟩ ?_
         ·intro w5; go_simp
         simp only [zA9, zB9, zC9]
         refine wpAnyIn_done (by kernel_rfl) ?_ _
         have IN2 : J (pre ++ (dn2 ++ Lk)) w2 := by rw [← List.append_assoc]; exact h1
         have NX : Hid (RgI Y J pre L rem FR i w1 w2) := ⟨CA1.out.trans hc, dn2 ++ Lk, by rw [LQ.out, RVI.out]; simp, IN2⟩
         clear IN2 h1 hc
         gi_wp2_with fail
         go_roundw
         case rel => exact ⟨_, i, rfl, by go_num, by omega, NX⟩
         case measure => first | (simp [intOf]; done) | (simp [intOf]; omega)
        ·gi_wp2_with fail
         refine HK.out _ _ ?_
         clear HK K
         refine takeF_at (i := 13) (v := .bool true) rfl rfl rfl (by kernel_rfl) (by kernel_rfl) (by kernel_rfl) (fun _ _ _ h => h) ⟨Or.inl ⟨by rfl, ?_⟩, fun _ => rfl⟩ ?_
         ·intro w5; go_simp
         simp only [zA9, zB9, zC9]
         refine takeF_at (i := 14) (v := .bool true) rfl rfl rfl (by kernel_rfl) (by kernel_rfl) (by kernel_rfl) (fun _ _ _ h => h) ⟨Or.inl ⟨by rfl, ?_⟩, fun _ => rfl⟩ ?_
         ·intro w5; go_simp
         simp only [zA9, zB9, zC9]
         refine wpAnyIn_done (by kernel_rfl) ?_ _
         have FN : RiN Y J Jx pre L w (.returned (.bool false)) w2 := Or.inr ⟨rfl, dn2 ++ l1, l2 ++ (if FR < i then rem (i - 1) else []), by rw [LQ.out, RVI.out, e1]; simp, by rw [← List.append_assoc]; exact h2⟩
         clear e1 h2
         gi_wp2_with fail
         go_ret
         exact FN
    ·have FN : RiN Y J Jx pre L w (.returned (.bool false)) w3 := Or.inr ⟨rfl, dn ++ [q], rv i, by rw [HDN.out, HST.out]; simp, by rw [← List.append_assoc]; exact h2⟩
     clear h2 HRR hyr c0 c1 b0
     gi_wp2_with fail
     go_ret
     exact FN
   ·obtain rfl : i = TO := by omega
    have hrt := RT.out
    have C0 := CR
    have CA := HCH
    obtain ⟨dn2, hdn2⟩ : ∃ dn2, dn2 = dn := ⟨_, rfl⟩
    have IN0 : Hid (J (pre ++ dn2) wr) := by rw [hdn2]; exact HIN.out
    have LQ : Hid (L = dn2 ++ rv i) := by rw [hdn2]; show L = _; rw [HDN.out, hrt]
    have nl : ¬ ((i : Int) < (i : Int)) := by omega
    clear hdn2 HDN HIN HCH CR hrt
    gi_wp2_with fail
    refine ⟨(fun _ h => by cases h), ?_⟩
    obtain ⟨k, hk, hkw⟩ := KD.out i (by omega)
    obtain ⟨a1, a2, a3, b1, b2, b3, q1, q2, q3⟩ := hkw wr C0.out
    obtain ⟨Lk, hLk⟩ : ∃ Lk, Lk = (within (fun q : Em => lo q.e) (fun q : Em => hi q.e) k.fl).reverse := ⟨_, rfl⟩
    have RVI : Hid (rv i = Lk ++ (if FR < i then rem (i - 1) else [])) := by rw [hLk]; exact RV.out i k hFi (by omega) hk
    have C1 : Hid (Keeps (fun b => ¬ Y b) w wr.drew) := C0.out
    have CA1 : Hid (Keeps (fun b => ¬ Y b) w1 wr.drew) := CA.out
    have IN1 := mkHid (HY.out.keeps _ _ _ IN0.out (Below.refl _ wr).drew)
    have RCK : Hid (∀ fuel, CallsIn Fence.wide fuel Tryz.prog 85 #[.agg #[.slice a1 a2 a3, .slice b1 b2 b3], .agg #[.func (.func fl_) #[] ll, .func (.func fh) #[] lh], .func (.yield yl) #[] #[]] wr.drew fun e w' => RiN Y J Jx (pre ++ dn2) Lk wr.drew e w') := fun fuel => by
     rw [hLk]
     exact RK.out fuel i k a1 a2 a3 b1 b2 b3 (pre ++ dn2) ((if FR < i then rem (i - 1) else []) ++ post) wr.drew hk (q3.keeps (Keeps.of_below (Below.refl _ wr).drew)) C1.out (by rw [HTO.out, LQ.out, RVI.out, hLk]; simp) IN1.out
    have y1 : (i : Int) < (N : Int) + 1 := by omega
    have y2 : (0 : Int) ≤ (i : Int) := by omega
    have y3 : (N : Int) + 1 > 0 := by omega
    have D2 := CA.out.2 _ _ _ _ (fun h => by have := HYY.out _ h; omega) D1.out.1
    have D3 := CA.out.2 _ _ _ _ (fun h => by have := HYY.out _ h; omega) D1.out.2
    have f1 : wr.cell? ⟨w.heap.size, 1, none⟩ = some (.slice (some ⟨gy, oy, none⟩) (N + 1) e) := (cell_of_block D2 1).trans rfl
    have f2 : wr.cell? ⟨w.heap.size + 1, 0, none⟩ = some (.func (.func fl_) #[] ll) := (cell_of_block D3 0).trans rfl
    have f3 : wr.cell? ⟨w.heap.size + 1, 1, none⟩ = some (.func (.func fh) #[] lh) := (cell_of_block D3 1).trans rfl
    clear hk hkw hLk q3 D2 D3
    gi_wp2_with fail
    refine wpIn_region_any (by kernel_rfl) ?_
    refine takeF_at (i := 0) (v := .pointer (some ⟨w.heap.size, 1, none⟩)) rfl rfl rfl (by kernel_rfl) (by kernel_rfl) (by kernel_rfl) (fun _ _ _ h => h) ⟨Or.inl ⟨by rfl, ?_⟩, fun _ => rfl⟩ ?_
    ·intro w5; go_simp
    simp only [zA9, zB9, zC9]
    refine wpAnyIn_ready (rs := [1]) (by kernel_rfl) (by simp) ?_
    refine AllReadyIn.cons rfl (fun K hK => ?_) AllReadyIn.nil
    have HK := mkHid hK
    clear hK
    go_simp
    refine HK.out _ _ ?_
    clear HK K
    refine takeF_at (i := 2) (v := .int .i64 ((N : Int) + 1)) rfl rfl rfl (by kernel_rfl) (by kernel_rfl) (by kernel_rfl) (fun _ _ _ h => h) ⟨Or.inl ⟨by rfl, ?_⟩, fun _ => rfl⟩ ?_
    ·intro w5; go_simp
    simp only [zA9, zB9, zC9]
    refine takeF_at (i := 3) (v := .bool true) rfl rfl rfl (by kernel_rfl) (by kernel_rfl) (by kernel_rfl) (fun _ _ _ h => h) ⟨Or.inl ⟨by rfl, ?_⟩, fun _ => rfl⟩ ?_
    ·intro w5; go_simp
    simp only [zA9, zB9, zC9]
    refine takeF_at (i := 4) (v := .bool true) rfl rfl rfl (by kernel_rfl) (by kernel_rfl) (by kernel_rfl) (fun _ _ _ h => h) ⟨Or.inl ⟨by rfl, ?_⟩, fun _ => rfl⟩ ?_
    ·intro w5; go_simp
    simp only [zA9, zB9, zC9]
    refine takeF_at (i := 5) (v := .pointer (some ⟨w.heap.size, 1, none⟩)) rfl rfl rfl (by kernel_rfl) (by kernel_rfl) (by kernel_rfl) (fun _ _ _ h => h) ⟨Or.inl ⟨by rfl, ?_⟩, fun _ => rfl⟩ ?_
    ·intro w5; go_simp
    simp only [zA9, zB9, zC9]
    refine takeF_at (i := 7) (v := .int .i64 ((i : Int))) rfl rfl rfl (by kernel_rfl) (by kernel_rfl) (by kernel_rfl) (fun _ _ _ h => h) ⟨Or.inl ⟨by rfl, ?_⟩, fun _ => rfl⟩ ?_
    ·intro w5; go_simp
    simp only [zA9, zB9, zC9]
    refine takeF_at (i := 11) (v := .func (.yield yl) #[] #[]) rfl rfl rfl (by kernel_rfl) (by kernel_rfl) (by kernel_rfl) (fun _ _ _ h => h) ⟨Or.inl ⟨by rfl, ?_⟩, fun _ => rfl⟩ ?_
    ·intro w5; go_simp
    simp only [zA9, zB9, zC9]
    refine wpAnyIn_ready (rs := [6, 10]) (by kernel_rfl) (by simp) ?_
    refine AllReadyIn.cons rfl (fun K hK => ?_) (AllReadyIn.cons rfl (fun K hK => ?_) AllReadyIn.nil)
    ·have HK := mkHid hK
     clear hK
     go_simp
     refine HK.out _ _ ?_
     clear HK K
     refine takeF_at (i := 8) (v := .pointer (some ⟨gy, oy + i * 2, none⟩)) rfl rfl rfl (by kernel_rfl) (by kernel_rfl) (by kernel_rfl) (fun _ _ _ h => h) ⟨Or.inl ⟨by rfl, ?_⟩, fun _ => rfl⟩ ?_
     ·intro w5; go_simp
     simp only [zA9, zB9, zC9]
     refine wpAnyIn_ready (rs := [9, 10]) (by kernel_rfl) (by simp) ?_
     refine AllReadyIn.cons rfl (fun K hK => ?_) (AllReadyIn.cons rfl (fun K hK => ?_) AllReadyIn.nil)
     ·have HK := mkHid hK
      clear hK
      go_simp
      refine HK.out _ _ ?_
      clear HK K
      refine wpAnyIn_ready (rs := [10]) (by kernel_rfl) (by simp) ?_
      refine AllReadyIn.cons rfl (fun K hK => ?_) AllReadyIn.nil
      ·have HK := mkHid hK
       clear hK
       go_simp
       refine HK.out _ _ ?_
       clear HK K
       refine wpAnyIn_ready (rs := [12]) (by kernel_rfl) (by simp) ?_
       refine AllReadyIn.cons rfl (fun K hK => ?_) AllReadyIn.nil
       have HK := mkHid hK
       clear hK
       go_simp
       refine ⟨trivial, (fun h => by cases h), (RCK.out _).mono ?_⟩
       rintro en w2 (⟨rfl, h1, hc⟩ | ⟨rfl, l1, l2, e1, h2⟩)
       ·gi_wp2_with fail
        refine HK.out _ _ ?_
        clear HK K
        refine takeF_at (i := 13) (v := .bool false) rfl rfl rfl (by kernel_rfl) (by kernel_rfl) (by kernel_rfl) (fun _ _ _ h => h) ⟨Or.inl ⟨by rfl, ?_⟩, fun _ => rfl⟩ ?_
        ·intro w5; go_simp
        simp only [zA9, zB9, zC9]
        refine takeF_at (i := 14) (v := .bool false) rfl rfl rfl (by kernel_rfl) (by kernel_rfl) (by kernel_rfl) (fun _ _ _ h => h) ⟨Or.inl ⟨by rfl, ?_⟩, fun _ => rfl⟩ ?_
        ·intro w5; go_simp
        simp only [zA9, zB9, zC9]
        refine wpAnyIn_done (by kernel_rfl) ?_ _
        have IN2 : J (pre ++ (dn2 ++ Lk)) w2 := by rw [← List.append_assoc]; exact h1
        have NX : Hid (RgI Y J pre L rem FR i w1 w2) := ⟨CA1.out.trans hc, dn2 ++ Lk, by rw [LQ.out, RVI.out]; simp, IN2⟩
        clear IN2 h1 hc
        gi_wp2_with fail
        go_roundw
        case rel => exact ⟨_, i, rfl, by go_num, by omega, NX⟩
        case measure => first | (simp [intOf]; done) | (simp [intOf]; omega)
       ·gi_wp2_with fail
        refine HK.out _ _ ?_
        clear HK K
        refine takeF_at (i := 13) (v := .bool true) rfl rfl rfl (by kernel_rfl) (by kernel_rfl) (by kernel_rfl) (fun _ _ _ h => h) ⟨Or.inl ⟨by rfl, ?_⟩, fun _ => rfl⟩ ?_
        ·intro w5; go_simp
        simp only [zA9, zB9, zC9]
        refine takeF_at (i := 14) (v := .bool true) rfl rfl rfl (by kernel_rfl) (by kernel_rfl) (by kernel_rfl) (fun _ _ _ h => h) ⟨Or.inl ⟨by rfl, ?_⟩, fun _ => rfl⟩ ?_
        ·intro w5; go_simp
        simp only [zA9, zB9, zC9]
        refine wpAnyIn_done (by kernel_rfl) ?_ _
        have FN : RiN Y J Jx pre L w (.returned (.bool false)) w2 := Or.inr ⟨rfl, dn2 ++ l1, l2 ++ (if FR < i then rem (i - 1) else []), by rw [LQ.out, RVI.out, e1]; simp, by rw [← List.append_assoc]; exact h2⟩
        clear e1 h2
        gi_wp2_with fail
        go_ret
        exact FN
     ·have HK := mkHid hK
      clear hK
      go_simp
      refine HK.out _ _ ?_
      clear HK K
      refine wpAnyIn_ready (rs := [9]) (by kernel_rfl) (by simp) ?_
      refine AllReadyIn.cons rfl (fun K hK => ?_) AllReadyIn.nil
      ·have HK := mkHid hK
       clear hK
       go_simp
       refine HK.out _ _ ?_
       clear HK K
       refine wpAnyIn_ready (rs := [12]) (by kernel_rfl) (by simp) ?_
       refine AllReadyIn.cons rfl (fun K hK => ?_) AllReadyIn.nil
       have HK := mkHid hK
       clear hK
       go_simp
       refine ⟨trivial, (fun h => by cases h), (RCK.out _).mono ?_⟩
       rintro en w2 (⟨rfl, h1, hc⟩ | ⟨rfl, l1, l2, e1, h2⟩)
       ·gi_wp2_with fail
        refine HK.out _ _ ?_
        clear HK K
        refine takeF_at (i := 13) (v := .bool false) rfl rfl rfl (by kernel_rfl) (by kernel_rfl) (by kernel_rfl) (fun _ _ _ h => h) ⟨Or.inl ⟨by rfl, ?_⟩, fun _ => rfl⟩ ?_
        ·intro w5; go_simp
        simp only [zA9, zB9, zC9]
        refine takeF_at (i := 14) (v := .bool false) rfl rfl rfl (by kernel_rfl) (by kernel_rfl) (by kernel_rfl) (fun _ _ _ h => h) ⟨Or.inl ⟨by rfl, ?_⟩, fun _ => rfl⟩ ?_
        ·intro w5; go_simp
        simp only [zA9, zB9, zC9]
        refine wpAnyIn_done (by kernel_rfl) ?_ _
        have IN2 : J (pre ++ (dn2 ++ Lk)) w2 := by rw [← List.append_assoc]; exact h1
        have NX : Hid (RgI Y J pre L rem FR i w1 w2) := ⟨CA1.out.trans hc, dn2 ++ Lk, by rw [LQ.out, RVI.out]; simp, IN2⟩
        clear IN2 h1 hc
        gi_wp2_with fail
        go_roundw
        case rel => exact ⟨_, i, rfl, by go_num, by omega, NX⟩
        case measure => first | (simp [intOf]; done) | (simp [intOf]; omega)
       ·gi_wp2_with fail
        refine HK.out _ _ ?_
        clear HK K
        refine takeF_at (i := 13) (v := .bool true) rfl rfl rfl (by kernel_rfl) (by kernel_rfl) (by kernel_rfl) (fun _ _ _ h => h) ⟨Or.inl ⟨by rfl, ?_⟩, fun _ => rfl⟩ ?_
        ·intro w5; go_simp
        simp only [zA9, zB9, zC9]
        refine takeF_at (i := 14) (v := .bool true) rfl rfl rfl (by kernel_rfl) (by kernel_rfl) (by kernel_rfl) (fun _ _ _ h => h) ⟨Or.inl ⟨by rfl, ?_⟩, fun _ => rfl⟩ ?_
        ·intro w5; go_simp
        simp only [zA9, zB9, zC9]
        refine wpAnyIn_done (by kernel_rfl) ?_ _
        have FN : RiN Y J Jx pre L w (.returned (.bool false)) w2 := Or.inr ⟨rfl, dn2 ++ l1, l2 ++ (if FR < i then rem (i - 1) else []), by rw [LQ.out, RVI.out, e1]; simp, by rw [← List.append_assoc]; exact h2⟩
        clear e1 h2
        gi_wp2_with fail
        go_ret
        exact FN
    ·have HK := mkHid hK
     clear hK
     go_simp
     refine HK.out _ _ ?_
     clear HK K
     refine wpAnyIn_ready (rs := [6]) (by kernel_rfl) (by simp) ?_
     refine AllReadyIn.cons rfl (fun K hK => ?_) AllReadyIn.nil
     ·have HK := mkHid hK
      clear hK
      go_simp
      refine HK.out _ _ ?_
      clear HK K
      refine takeF_at (i := 8) (v := .pointer (some ⟨gy, oy + i * 2, none⟩)) rfl rfl rfl (by kernel_rfl) (by kernel_rfl) (by kernel_rfl) (fun _ _ _ h => h) ⟨Or.inl ⟨by rfl, ?_⟩, fun _ => rfl⟩ ?_
      ·intro w5; go_simp
      simp only [zA9, zB9, zC9]
      refine wpAnyIn_ready (rs := [9]) (by kernel_rfl) (by simp) ?_
      refine AllReadyIn.cons rfl (fun K hK => ?_) AllReadyIn.nil
      ·have HK := mkHid hK
       clear hK
       go_simp
       refine HK.out _ _ ?_
       clear HK K
       refine wpAnyIn_ready (rs := [12]) (by kernel_rfl) (by simp) ?_
       refine AllReadyIn.cons rfl (fun K hK => ?_) AllReadyIn.nil
       have HK := mkHid hK
       clear hK
       go_simp
       refine ⟨trivial, (fun h => by cases h), (RCK.out _).mono ?_⟩
       rintro en w2 (⟨rfl, h1, hc⟩ | ⟨rfl, l1, l2, e1, h2⟩)
       ·gi_wp2_with fail
        refine HK.out _ _ ?_
        clear HK K
        refine takeF_at (i := 13) (v := .bool false) rfl rfl rfl (by kernel_rfl) (by kernel_rfl) (by kernel_rfl) (fun _ _ _ h => h) ⟨Or.inl ⟨by rfl, ?_⟩, fun _ => rfl⟩ ?_
        ·intro w5; go_simp
        simp only [zA9, zB9, zC9]
        refine takeF_at (i := 14) (v := .bool false) rfl rfl rfl (by kernel_rfl) (by kernel_rfl) (by kernel_rfl) (fun _ _ _ h => h) ⟨Or.inl ⟨by rfl, ?_⟩, fun _ => rfl⟩ ?_
        ·intro w5; go_simp
        simp only [zA9, zB9, zC9]
        refine wpAnyIn_done (by kernel_rfl) ?_ _
        have IN2 : J (pre ++ (dn2 ++ Lk)) w2 := by rw [← List.append_assoc]; exact h1
        have NX : Hid (RgI Y J pre L rem FR i w1 w2) := ⟨CA1.out.trans hc, dn2 ++ Lk, by rw [LQ.out, RVI.out]; simp, IN2⟩
        clear IN2 h1 hc
        gi_wp2_with fail
        go_roundw
        case rel => exact ⟨_, i, rfl, by go_num, by omega, NX⟩
        case measure => first | (simp [intOf]; done) | (simp [intOf]; omega)
       ·gi_wp2_with fail
        refine HK.out _ _ ?_
        clear HK K
        refine takeF_at (i := 13) (v := .bool true) rfl rfl rfl (by kernel_rfl) (by kernel_rfl) (by kernel_rfl) (fun _ _ _ h => h) ⟨Or.inl ⟨by rfl, ?_⟩, fun _ => rfl⟩ ?_
        ·intro w5; go_simp
        simp only [zA9, zB9, zC9]
        refine takeF_at (i := 14) (v := .bool true) rfl rfl rfl (by kernel_rfl) (by kernel_rfl) (by kernel_rfl) (fun _ _ _ h => h) ⟨Or.inl ⟨by rfl, ?_⟩, fun _ => rfl⟩ ?_
        ·intro w5; go_simp
        simp only [zA9, zB9, zC9]
        refine wpAnyIn_done (by kernel_rfl) ?_ _
        have FN : RiN Y J Jx pre L w (.returned (.bool false)) w2 := Or.inr ⟨rfl, dn2 ++ l1, l2 ++ (if FR < i then rem (i - 1) else []), by rw [LQ.out, RVI.out, e1]; simp, by rw [← List.append_assoc]; exact h2⟩
        clear e1 h2
        gi_wp2_with fail
        go_ret
        exact FN
  ·obtain ⟨dn, hdn, hinv⟩ := hI.out.done
   rw [if_neg hle, List.append_nil] at hdn
   have FN : RiN Y J Jx pre L w (.returned (.bool true)) wr := Or.inl ⟨rfl, by rw [hdn]; exact hinv, CR.out⟩
   have nb : ¬ (x ≥ (FR : Int)) := by omega
   clear hdn hinv hI hx
   gi_wp2_with fail
   go_ret
   exact FN
/-- a node gone through from its end, inside a fence -/
theorem fall_in (T Y : Nat → Prop) (fl_ fh yl : Nat) (ll lh : Array Value) (lo hi : En → Bool) (J Jx : List Em → World → Prop) (Tot : List Em) (hs : Span ltM (fun q => lo q.e) (fun q => hi q.e)) (hy : YldIn T Y yl J Jx Tot) : ∀ (d fuel : Nat) (n : Nd Em) (v1 v2 : Value) (l : Nat) (pre post : List Em) (w : World), ndIn T w d n v1 v2 → n.wf d l 16 → (d ≠ 0 → 1 ≤ n.es.length) → Rise ltM n.fl → EndOk T w fl_ ll lo → EndOk T w fh lh hi → Tot = pre ++ ((within (fun q : Em => lo q.e) (fun q : Em => hi q.e) n.fl).reverse ++ post) → J pre w → (∀ b, Y b → b < w.heap.size) →
  CallsIn Fence.wide fuel Tryz.prog 85 #[.agg #[v1, v2], .agg #[.func (.func fl_) #[] ll, .func (.func fh) #[] lh], .func (.yield yl) #[] #[]] w fun e w' => RiN Y J Jx pre (within (fun q : Em => lo q.e) (fun q : Em => hi q.e) n.fl).reverse w e w'
 | 0, fuel, n, v1, v2, l, pre, post, w, hn, hw, _, hr, he, hf, ht, h0, hY => fall_leaf_in T Y fl_ fh yl ll lh lo hi J Jx Tot fuel n v1 v2 l 16 pre post w hn hw (by have := wf_len hw; omega) hr he hf hs hy ht h0 hY
 | d + 1, fuel, n, v1, v2, l, pre, post, w, hn, hw, h1, hr, he, hf, ht, h0, hY => fall_inner_in T Y fl_ fh yl ll lh lo hi J Jx Tot fuel d n v1 v2 l 16 pre post w hn hw (h1 (by omega)) (by have := wf_len hw; omega) hr he hf hs hy ht h0 hY
   (fun fuel i k h1 h2 pre post w hk hkn he hf ht h0 hY => fall_in T Y fl_ fh yl ll lh lo hi J Jx Tot hs hy d fuel k h1 h2 8 pre post w hkn (wf_kid hw hk) (fun _ => by have := wf_len (wf_kid hw hk); omega) (rise_parts (wf_klen hw) hr hk).2.1 he hf ht h0 hY)
end Go.Proofs.YtclcajnodoifjaaGreatDoor

