/-
 The walk of btree.rise inside a fence, a row of numbers laid by the loop's body: a node with kids; rise whole.
-/
import Derived.Test.YtclcajnodoifjaaGreatDoorIAL
namespace Go.Proofs.YtclcajnodoifjaaGreatDoor
open Go.RowKit Go.Shelf Go.Joins Go.Maps
set_option maxRecDepth 100000

set_option maxHeartbeats 8000000 in
set_option maxRecDepth 1000000 in
theorem rise_inner_in_u (T : Nat → Prop) (X : Nat → Nat → Prop) (fl_ fh yl : Nat) (ll lh : Array Value) (lo hi : En → Bool) (J Jx : List Em → World → Prop) (Tot : List Em) (fuel d : Nat) (n : Nd Em) (v1 v2 : Value) (l h : Nat) (pre post : List Em) (w : World) (hn : ndIn T w (d + 1) n v1 v2) (hw : n.wf (d + 1) l h) (z0 : 1 ≤ n.es.length) (z1 : n.es.length ≤ 100) (hr : Rise ltM n.fl) (he : EndOk T w fl_ ll lo) (hf : EndOk T w fh lh hi) (hs : Span ltM (fun q => lo q.e) (fun q => hi q.e)) (hy : YldIU T X yl J Jx Tot) (hTot : Tot = pre ++ (within (fun q : Em => lo q.e) (fun q : Em => hi q.e) n.fl ++ post)) (h0 : J pre w) (hY : ∀ b t, X b t → b < w.heap.size ∨ t = 31)
  (IH : ∀ (fuel i : Nat) (k : Nd Em) (h1 h2 : Value) (pre post : List Em) (w : World), n.ks[i]? = some k → ndIn T w d k h1 h2 → EndOk T w fl_ ll lo → EndOk T w fh lh hi → Tot = pre ++ (within (fun q : Em => lo q.e) (fun q : Em => hi q.e) k.fl ++ post) → J pre w → (∀ b t, X b t → b < w.heap.size ∨ t = 31) → CallsIn Fence.wide fuel Tryz.prog 64 #[.agg #[h1, h2], .agg #[.func (.func fl_) #[] ll, .func (.func fh) #[] lh], .func (.yield yl) #[] #[]] w fun e w' => RiU X J Jx pre (within (fun q : Em => lo q.e) (fun q : Em => hi q.e) k.fl) w e w') :
  CallsIn Fence.wide fuel Tryz.prog 64 #[.agg #[v1, v2], .agg #[.func (.func fl_) #[] ll, .func (.func fh) #[] lh], .func (.yield yl) #[] #[]] w fun e w' => RiU X J Jx pre (within (fun q : Em => lo q.e) (fun q : Em => hi q.e) n.fl) w e w' := by
 have hkl := wf_klen hw
 have hes := es_rise (Or.inr hkl) hr
 obtain ⟨gy, oy, e, rfl, hge⟩ := hn.some.2 (by omega)
 obtain ⟨p, c, p2', c2', rfl, hx2⟩ := hn.slices
 clear hx2 p2' c2'
 obtain ⟨N, hN⟩ : ∃ N, N = n.es.length := ⟨_, rfl⟩
 rw [hkl, ← hN] at hn hge
 rw [hkl, ← hN]
 obtain ⟨FR, hFR⟩ : ∃ FR, FR = from_ (fun q : Em => lo q.e) n.es := ⟨_, rfl⟩
 obtain ⟨TO, hTO⟩ : ∃ TO, TO = to_ (fun q : Em => hi q.e) n.es := ⟨_, rfl⟩
 obtain ⟨L, hL⟩ : ∃ L, L = within (fun q : Em => lo q.e) (fun q : Em => hi q.e) n.fl := ⟨_, rfl⟩
 rw [← hL] at hTot ⊢
 have lFR : FR ≤ N := by rw [hFR, hN]; exact from_le _ _
 have lTO : TO ≤ N := by rw [hTO, hN]; exact from_le _ _
 obtain ⟨w0, hw0⟩ : ∃ w0, w0 = (w.alloc (.cells #[.slice p N c, .slice (some ⟨gy, oy, none⟩) (N + 1) e] 60)).alloc (.cells #[.func (.func fl_) #[] ll, .func (.func fh) #[] lh] 72) := ⟨_, rfl⟩
 obtain ⟨d0, d1, bb, bs⟩ := bx2 w (.cells #[.slice p N c, .slice (some ⟨gy, oy, none⟩) (N + 1) e] 60) (.cells #[.func (.func fl_) #[] ll, .func (.func fh) #[] lh] 72)
 rw [← hw0] at d0 d1 bb bs
 have RCH : Hid (∀ k, CallsIn Fence.wide k Tryz.prog 86 #[.agg #[.slice p N c, .slice (some ⟨gy, oy, none⟩) (N + 1) e], .agg #[.func (.func fl_) #[] ll, .func (.func fh) #[] lh]] w0 fun e w' => e = .returned (.tuple #[.int .i64 (FR : Int), .int .i64 (TO : Int)]) ∧ Below w0.heap.size w0 w') := fun k => by
  rw [hFR, hTO]
  exact callsIn_wide.2 (reach_any T n.es p N c _ _ _ fl_ fh ll lh lo hi w0 (hn.ent.keeps (Keeps.of_below bb)) hN (by omega) hes (he.keeps (Keeps.of_below bb)) (hf.keeps (Keeps.of_below bb)) hs)
 have kat : ∀ i, i ≤ N → ∃ k, n.ks[i]? = some k := fun i hi => ⟨_, List.getElem?_eq_getElem (by omega)⟩
 obtain ⟨rest, hrest⟩ : ∃ rest : Nat → List Em, rest = n.rest (fun q : Em => lo q.e) (fun q : Em => hi q.e) := ⟨_, rfl⟩
 have RB : Hid (L = if FR ≤ TO then rest FR else []) := by
  show L = _
  split
  ·obtain ⟨k, hk⟩ := kat FR lFR
   rw [hL, hrest, hFR]
   exact up_begin hs hkl hr (by rw [← hFR]; exact hk)
  ·rename_i hc
   rw [hL]
   exact span_none hs hw hr (by rw [← hFR, ← hTO]; omega)
 have RS : Hid (∀ i k q, FR ≤ i → i < TO → n.ks[i]? = some k → n.es[i]? = some q → rest i = within (fun q : Em => lo q.e) (fun q : Em => hi q.e) k.fl ++ q :: rest (i + 1)) := fun i k q h1 h2 hk hq => by rw [hrest]; exact up_step hs hkl hr hk hq (by rw [← hFR]; exact h1) (by rw [← hTO]; exact h2)
 have RE : Hid (∀ k, n.ks[TO]? = some k → rest TO = within (fun q : Em => lo q.e) (fun q : Em => hi q.e) k.fl) := fun k hk => by rw [hrest, hTO]; exact up_end hs hkl hr (by rw [← hTO]; exact hk)
 have EN_ : Hid (∀ i, i < N → ∃ q gx ox, n.es[i]? = some q ∧ p = some ⟨gx, ox, none⟩ ∧ ∀ W, Keeps T w W → KeyOk T W q ∧ W.cell? ⟨gx, ox + i * 2, none⟩ = some (.slice (some ⟨q.g, 0, none⟩) q.e.key.length q.c) ∧ W.cell? ⟨gx, ox + i * 2 + 1, none⟩ = some (.int .u64 q.e.id)) := fun i hi => by
  obtain ⟨q, hq⟩ : ∃ q, n.es[i]? = some q := ⟨_, List.getElem?_eq_getElem (by omega)⟩
  obtain ⟨gx, ox, c', e1, _⟩ := hn.some.1 (by omega)
  cases e1
  refine ⟨q, gx, ox, hq, rfl, fun W hW => ?_⟩
  have hk := (hN ▸ hn).keeps hW
  obtain ⟨u0, u1, u2, _⟩ := ndIn.entry (d := d + 1) hk hq
  exact ⟨u2, u0, u1⟩
 have KD : Hid (∀ i, i ≤ N → ∃ k, n.ks[i]? = some k ∧ ∀ W, KeepU X w W → ∃ a1 a2 a3 b1 b2 b3, W.cell? ⟨gy, oy + i * 2, none⟩ = some (.slice a1 a2 a3) ∧ W.cell? ⟨gy, oy + i * 2 + 1, none⟩ = some (.slice b1 b2 b3) ∧ ndIn T W d k (.slice a1 a2 a3) (.slice b1 b2 b3)) := fun i hi => by
  obtain ⟨k, hk⟩ := kat i hi
  refine ⟨k, hk, fun W hW => ?_⟩
  obtain ⟨a1, a2, a3, b1, b2, b3, q1, q2, q3, q4⟩ := (hn.keeps (ku_keeps hW hy.off)).kid hk
  exact ⟨a1, a2, a3, b1, b2, b3, q1, q2, q3⟩
 have RK : Hid (∀ fuel i k a1 a2 a3 b1 b2 b3 pre post W, n.ks[i]? = some k → ndIn T W d k (.slice a1 a2 a3) (.slice b1 b2 b3) → KeepU X w W → Tot = pre ++ (within (fun q : Em => lo q.e) (fun q : Em => hi q.e) k.fl ++ post) → J pre W → CallsIn Fence.wide fuel Tryz.prog 64 #[.agg #[.slice a1 a2 a3, .slice b1 b2 b3], .agg #[.func (.func fl_) #[] ll, .func (.func fh) #[] lh], .func (.yield yl) #[] #[]] W fun e w' => RiU X J Jx pre (within (fun q : Em => lo q.e) (fun q : Em => hi q.e) k.fl) W e w') := fun fuel i k a1 a2 a3 b1 b2 b3 pre post W hk hnd hW ht hi =>
  IH fuel i k _ _ pre post W hk hnd (he.keeps (ku_keeps hW hy.off)) (hf.keeps (ku_keeps hW hy.off)) ht hi (fun b t hb => (hY b t hb).imp (fun h => Nat.lt_of_lt_of_le h hW.1) id)
 have HY := mkHid hy
 have HYY := mkHid hY
 have HTO := mkHid hTot
 have HI0 := mkHid (hy.keeps pre w w0 h0 bb)
 have BB := mkHid bb
 have D0 := mkHid (And.intro d0 d1)
 have HW0 := mkHid hw0
 have zN : N ≤ 100 := by omega
 clear hn hw z0 z1 hr he hf hs hy hTot h0 hY hFR hTO hL hN d0 d1 bb bs hw0 hrest kat hkl hes hge IH
 refine callsIn_of_wp Tryz.func64 rfl trivial ?_ rfl
 simp only [Tryz.ntmps64, List.size_toArray, List.length_cons, List.length_nil, Nat.reduceAdd, Nat.reduceSub, Array.replicate_succ, Array.replicate_zero, List.push_toArray, List.append_toArray, List.nil_append, List.cons_append]
 gi_wp2_with fail
 rw [← HW0.out]
 clear HW0
 refine ⟨trivial, (fun h => by cases h), (RCH.out _).mono ?_⟩
 rintro en w1 ⟨rfl, hb1⟩
 clear RCH
 have D1 : Hid (w1.heap[w.heap.size]? = some (.cells #[.slice p N c, .slice (some ⟨gy, oy, none⟩) (N + 1) e] 60 (0, 0)) ∧ w1.heap[w.heap.size + 1]? = some (.cells #[.func (.func fl_) #[] ll, .func (.func fh) #[] lh] 72 (0, 0))) := ⟨(hb1.block _ (lt_of_heap D0.out.1)).trans D0.out.1, (hb1.block _ (lt_of_heap D0.out.2)).trans D0.out.2⟩
 have BW : Hid (Below w.heap.size w w1) := BB.out.trans (hb1.mono BB.out.size)
 have I1 : Hid (RnU X J pre L rest TO FR w1 w1) := ⟨KeepU.of_below (Below.refl _ _), [], by rw [List.nil_append]; exact RB.out, by rw [List.append_nil]; exact HY.out.keeps pre w0 w1 HI0.out hb1⟩
 have CW : Hid (KeepU X w w1) := KeepU.of_below BW.out
 clear hb1 HI0 D0 RB
 gi_wp2_with fail
 gi_loopw [9] (fun s9 wr => ∃ i : Nat, s9 = .int .i64 i ∧ FR ≤ i ∧ i ≤ 200 ∧ Hid (RnU X J pre L rest TO i w1 wr)) (fun s9 _ => TO + 1 - (intOf s9).toNat)
 case atStart => exact ⟨FR, rfl, Nat.le_refl _, by omega, I1⟩
 case round =>
  obtain ⟨i, rfl, hFi, hi2, hI⟩ := hrel
  clear I1
  have CR : Hid (KeepU X w wr) := CW.out.trans hI.out.kept
  by_cases hle : i ≤ TO
  ·have D2 := hI.out.kept.2 _ _ _ _ (fun h => by rcases HYY.out _ _ h with h | h; omega; exact absurd h (by decide)) D1.out.1
   have D3 := hI.out.kept.2 _ _ _ _ (fun h => by rcases HYY.out _ _ h with h | h; omega; exact absurd h (by decide)) D1.out.2
   obtain ⟨k, hk, hkw⟩ := KD.out i (by omega)
   obtain ⟨a1, a2, a3, b1, b2, b3, q1, q2, q3⟩ := hkw wr CR.out
   obtain ⟨dn, hdn, hinv⟩ := hI.out.done
   rw [if_pos hle] at hdn
   obtain ⟨Lk, hLk⟩ : ∃ Lk, Lk = within (fun q : Em => lo q.e) (fun q : Em => hi q.e) k.fl := ⟨_, rfl⟩
   have RP : Hid (∃ rr, rest i = Lk ++ rr) := by
    by_cases hlt : i < TO
    ·obtain ⟨q, gx, ox, hq, _, _⟩ := EN_.out i (by omega)
     exact ⟨_, by rw [RS.out i k q hFi hlt hk hq, hLk]⟩
    ·obtain rfl : i = TO := by omega
     exact ⟨[], by rw [RE.out k hk, hLk, List.append_nil]⟩
   have HIN := mkHid (HY.out.keeps _ _ _ hinv (Below.refl _ wr).drew)
   have C0 : Hid (KeepU X w wr.drew) := CR.out
   have CA : Hid (KeepU X w1 wr.drew) := hI.out.kept
   have RCK : Hid (∀ fuel, CallsIn Fence.wide fuel Tryz.prog 64 #[.agg #[.slice a1 a2 a3, .slice b1 b2 b3], .agg #[.func (.func fl_) #[] ll, .func (.func fh) #[] lh], .func (.yield yl) #[] #[]] wr.drew fun e w' => RiU X J Jx (pre ++ dn) Lk wr.drew e w') := fun fuel => by
    obtain ⟨rr, hrr⟩ := RP.out
    rw [hLk]
    exact RK.out fuel i k a1 a2 a3 b1 b2 b3 (pre ++ dn) (rr ++ post) wr.drew hk (q3.keeps (Keeps.of_below (Below.refl _ wr).drew)) C0.out (by rw [HTO.out, hdn, hrr, hLk]; simp) HIN.out
   have HDN := mkHid hdn
   have HLK := mkHid hLk
   have HKK := mkHid hk
   have y1 : (i : Int) < (N : Int) + 1 := by omega
   have y2 : (0 : Int) ≤ (i : Int) := by omega
   have y3 : (N : Int) + 1 > 0 := by omega
   have f1 : wr.cell? ⟨w.heap.size, 1, none⟩ = some (.slice (some ⟨gy, oy, none⟩) (N + 1) e) := (cell_of_block D2 1).trans rfl
   have f2 : wr.cell? ⟨w.heap.size + 1, 0, none⟩ = some (.func (.func fl_) #[] ll) := (cell_of_block D3 0).trans rfl
   have f3 : wr.cell? ⟨w.heap.size + 1, 1, none⟩ = some (.func (.func fh) #[] lh) := (cell_of_block D3 1).trans rfl
   clear hdn hinv hI hLk hk hkw q3 KD RK D2 D3
   gi_wp2_with fail
   refine wpIn_region_any (by kernel_rfl) ?_
   refine takeF_at (i := 0) (v := .pointer (some ⟨w.heap.size, 1, none⟩)) rfl rfl rfl (by kernel_rfl) (by kernel_rfl) (by kernel_rfl) (fun _ _ _ h => h) ⟨Or.inl ⟨by rfl, ?_⟩, fun _ => rfl⟩ ?_
   ·intro w5; go_simp
   simp only [zA9, zB9, zC9]
   refine wpAnyIn_ready (rs := [1]) (by kernel_rfl) (by simp) ?_
   refine AllReadyIn.cons rfl (fun K hK => ?_) AllReadyIn.nil
   have HK := mkHid hK
   clear hK
   go_simp
   refine HK.out _ _ ?_
   clear HK K
   refine takeF_at (i := 2) (v := .int .i64 ((N : Int) + 1)) rfl rfl rfl (by kernel_rfl) (by kernel_rfl) (by kernel_rfl) (fun _ _ _ h => h) ⟨Or.inl ⟨by rfl, ?_⟩, fun _ => rfl⟩ ?_
   ·intro w5; go_simp
   simp only [zA9, zB9, zC9]
   refine takeF_at (i := 3) (v := .bool true) rfl rfl rfl (by kernel_rfl) (by kernel_rfl) (by kernel_rfl) (fun _ _ _ h => h) ⟨Or.inl ⟨by rfl, ?_⟩, fun _ => rfl⟩ ?_
   ·intro w5; go_simp
   simp only [zA9, zB9, zC9]
   refine takeF_at (i := 4) (v := .bool true) rfl rfl rfl (by kernel_rfl) (by kernel_rfl) (by kernel_rfl) (fun _ _ _ h => h) ⟨Or.inl ⟨by rfl, ?_⟩, fun _ => rfl⟩ ?_
   ·intro w5; go_simp
   simp only [zA9, zB9, zC9]
   refine takeF_at (i := 5) (v := .pointer (some ⟨w.heap.size, 1, none⟩)) rfl rfl rfl (by kernel_rfl) (by kernel_rfl) (by kernel_rfl) (fun _ _ _ h => h) ⟨Or.inl ⟨by rfl, ?_⟩, fun _ => rfl⟩ ?_
   ·intro w5; go_simp
   simp only [zA9, zB9, zC9]
   refine takeF_at (i := 7) (v := .int .i64 ((i : Int))) rfl rfl rfl (by kernel_rfl) (by kernel_rfl) (by kernel_rfl) (fun _ _ _ h => h) ⟨Or.inl ⟨by rfl, ?_⟩, fun _ => rfl⟩ ?_
   ·intro w5; go_simp
   simp only [zA9, zB9, zC9]
   refine takeF_at (i := 11) (v := .func (.yield yl) #[] #[]) rfl rfl rfl (by kernel_rfl) (by kernel_rfl) (by kernel_rfl) (fun _ _ _ h => h) ⟨Or.inl ⟨by rfl, ?_⟩, fun _ => rfl⟩ ?_
   ·intro w5; go_simp
   simp only [zA9, zB9, zC9]
   refine wpAnyIn_ready (rs := [6, 10]) (by kernel_rfl) (by simp) ?_
   refine AllReadyIn.cons rfl (fun K hK => ?_) (AllReadyIn.cons rfl (fun K hK => ?_) AllReadyIn.nil)
   ·have HK := mkHid hK
    clear hK
    go_simp
    refine HK.out _ _ ?_
    clear HK K
    refine takeF_at (i := 8) (v := .pointer (some ⟨gy, oy + i * 2, none⟩)) rfl rfl rfl (by kernel_rfl) (by kernel_rfl) (by kernel_rfl) (fun _ _ _ h => h) ⟨Or.inl ⟨by rfl, ?_⟩, fun _ => rfl⟩ ?_
    ·intro w5; go_simp
    simp only [zA9, zB9, zC9]
    refine wpAnyIn_ready (rs := [9, 10]) (by kernel_rfl) (by simp) ?_
    refine AllReadyIn.cons rfl (fun K hK => ?_) (AllReadyIn.cons rfl (fun K hK => ?_) AllReadyIn.nil)
    ·have HK := mkHid hK
     clear hK
     go_simp
     refine HK.out _ _ ?_
     clear HK K
     refine wpAnyIn_ready (rs := [10]) (by kernel_rfl) (by simp) ?_
     refine AllReadyIn.cons rfl (fun K hK => ?_) AllReadyIn.nil
     ·have HK := mkHid hK
      clear hK
      go_simp
      refine HK.out _ _ ?_
      clear HK K
      refine wpAnyIn_ready (rs := [12]) (by kernel_rfl) (by simp) ?_
      refine AllReadyIn.cons rfl (fun K hK => ?_) AllReadyIn.nil
      have HK := mkHid hK
      clear hK
      go_simp
      refine ⟨trivial, (fun h => by cases h), (RCK.out _).mono ?_⟩
      rintro en w2 (⟨rfl, h1, hc⟩ | ⟨rfl, l1, l2, e1, h2⟩)
      ·gi_wp2_with fail
       refine HK.out _ _ ?_
       clear HK K
       refine takeF_at (i := 13) (v := .bool false) rfl rfl rfl (by kernel_rfl) (by kernel_rfl) (by kernel_rfl) (fun _ _ _ h => h) ⟨Or.inl ⟨by rfl, ?_⟩, fun _ => rfl⟩ ?_
       ·intro w5; go_simp
       simp only [zA9, zB9, zC9]
       refine takeF_at (i := 14) (v := .bool false) rfl rfl rfl (by kernel_rfl) (by kernel_rfl) (by kernel_rfl) (fun _ _ _ h => h) ⟨Or.inl ⟨by rfl, ?_⟩, fun _ => rfl⟩ ?_
       ·intro w5; go_simp
       simp only [zA9, zB9, zC9]
       refine wpAnyIn_done (by kernel_rfl) ?_ _
       have C2 : Hid (KeepU X w w2) := C0.out.trans hc
       have CA2 : Hid (KeepU X w1 w2) := CA.out.trans hc
       have IN2 : Hid (J (pre ++ (dn ++ Lk)) w2) := by show J (pre ++ (dn ++ Lk)) w2; rw [← List.append_assoc]; exact h1
       have b0 : w2.cell? ⟨w.heap.size, 0, none⟩ = some (.slice p N c) := (cell_of_block (CA2.out.2 _ _ _ _ (fun h => by rcases HYY.out _ _ h with h | h; omega; exact absurd h (by decide)) D1.out.1) 0).trans rfl
       clear h1 hc C0 CA HIN
       by_cases hlt : i < TO
       ·obtain ⟨q, gx, ox, hq, rfl, hqs⟩ := EN_.out i (by omega)
        obtain ⟨kq, c0, c1⟩ := hqs w2 (ku_keeps C2.out HY.out.off)
        have hst := RS.out i k q hFi hlt HKK.out hq
        rw [← HLK.out] at hst
        obtain ⟨yfn, ytm, yas, ybo, hyr, hR⟩ := HY.out.does (fuel - 1) (pre ++ (dn ++ Lk)) (rest (i + 1) ++ post) q w2 (by rw [HTO.out, HDN.out, hst]; simp) IN2.out kq
        have HRR := mkHid hR
        have HST := mkHid hst
        have i1 : (i : Int) < (TO : Int) := by omega
        have i2 : (i : Int) < (N : Int) := by omega
        have i3 : (0 : Int) ≤ (i : Int) := by omega
        unfold emV enV at hyr
        clear hqs kq hst hq EN_ RS RE hR IN2
        gi_wp2_with fail
        refine ⟨(fun h => by cases h), HRR.out.mono ?_⟩
        rintro e w3 (⟨rfl, h1, hc⟩ | ⟨rfl, h2⟩)
        ·have NX : Hid (RnU X J pre L rest TO (i + 1) w1 w3) := ⟨CA2.out.trans hc, dn ++ Lk ++ [q], by rw [if_pos (by omega), HDN.out, HST.out]; simp, by rw [← List.append_assoc]; exact h1⟩
         clear h1 hc HRR hyr c0 c1 b0
         gi_wp2_with fail
         go_roundw
         case rel => exact ⟨i + 1, by go_num, by omega, by omega, NX⟩
         case measure => simp [intOf]; omega
        ·have FN : RiU X J Jx pre L w (.returned (.bool false)) w3 := Or.inr ⟨rfl, dn ++ Lk ++ [q], rest (i + 1), by rw [HDN.out, HST.out]; simp, by rw [← List.append_assoc]; exact h2⟩
         clear h2 HRR hyr c0 c1 b0
         gi_wp2_with fail
         go_ret
         exact FN
       ·obtain rfl : i = TO := by omega
        have NX : Hid (RnU X J pre L rest i (i + 1) w1 w2) := ⟨CA2.out, dn ++ Lk, by rw [if_neg (by omega), HDN.out, RE.out k HKK.out, HLK.out]; simp, IN2.out⟩
        have nl : ¬ ((i : Int) < (i : Int)) := by omega
        clear EN_ RS RE b0 IN2
        gi_wp2_with fail
        refine ⟨(fun _ h => by cases h), ?_⟩
        gi_wp2_with fail
        go_roundw
        case rel => exact ⟨i + 1, by go_num, by omega, by omega, NX⟩
        case measure => first | (simp [intOf]; done) | (simp [intOf]; omega)
      ·gi_wp2_with fail
       refine HK.out _ _ ?_
       clear HK K
       refine takeF_at (i := 13) (v := .bool true) rfl rfl rfl (by kernel_rfl) (by kernel_rfl) (by kernel_rfl) (fun _ _ _ h => h) ⟨Or.inl ⟨by rfl, ?_⟩, fun _ => rfl⟩ ?_
       ·intro w5; go_simp
       simp only [zA9, zB9, zC9]
       refine takeF_at (i := 14) (v := .bool true) rfl rfl rfl (by kernel_rfl) (by kernel_rfl) (by kernel_rfl) (fun _ _ _ h => h) ⟨Or.inl ⟨by rfl, ?_⟩, fun _ => rfl⟩ ?_
       ·intro w5; go_simp
       simp only [zA9, zB9, zC9]
       refine wpAnyIn_done (by kernel_rfl) ?_ _
       have FN : RiU X J Jx pre L w (.returned (.bool false)) w2 := by
        obtain ⟨rr, hrr⟩ := RP.out
        exact Or.inr ⟨rfl, dn ++ l1, l2 ++ rr, by rw [HDN.out, hrr, e1]; simp, by rw [← List.append_assoc]; exact h2⟩
       clear e1 h2
       gi_wp2_with fail
       go_ret
       exact FN
    ·have HK := mkHid hK
     clear hK
     go_simp
     refine HK.out _ _ ?_
     clear HK K
     refine wpAnyIn_ready (rs := [9]) (by kernel_rfl) (by simp) ?_
     refine AllReadyIn.cons rfl (fun K hK => ?_) AllReadyIn.nil
     ·have HK := mkHid hK
      clear hK
      go_simp
      refine HK.out _ _ ?_
      clear HK K
      refine wpAnyIn_ready (rs := [12]) (by kernel_rfl) (by simp) ?_
      refine AllReadyIn.cons rfl (fun K hK => ?_) AllReadyIn.nil
      have HK := mkHid hK
      clear hK
      go_simp
      refine ⟨trivial, (fun h => by cases h), (RCK.out _).mono ?_⟩
      rintro en w2 (⟨rfl, h1, hc⟩ | ⟨rfl, l1, l2, e1, h2⟩)
      ·gi_wp2_with fail
       refine HK.out _ _ ?_
       clear HK K
       refine takeF_at (i := 13) (v := .bool false) rfl rfl rfl (by kernel_rfl) (by kernel_rfl) (by kernel_rfl) (fun _ _ _ h => h) ⟨Or.inl ⟨by rfl, ?_⟩, fun _ => rfl⟩ ?_
       ·intro w5; go_simp
       simp only [zA9, zB9, zC9]
       refine takeF_at (i := 14) (v := .bool false) rfl rfl rfl (by kernel_rfl) (by kernel_rfl) (by kernel_rfl) (fun _ _ _ h => h) ⟨Or.inl ⟨by rfl, ?_⟩, fun _ => rfl⟩ ?_
       ·intro w5; go_simp
       simp only [zA9, zB9, zC9]
       refine wpAnyIn_done (by kernel_rfl) ?_ _
       have C2 : Hid (KeepU X w w2) := C0.out.trans hc
       have CA2 : Hid (KeepU X w1 w2) := CA.out.trans hc
       have IN2 : Hid (J (pre ++ (dn ++ Lk)) w2) := by show J (pre ++ (dn ++ Lk)) w2; rw [← List.append_assoc]; exact h1
       have b0 : w2.cell? ⟨w.heap.size, 0, none⟩ = some (.slice p N c) := (cell_of_block (CA2.out.2 _ _ _ _ (fun h => by rcases HYY.out _ _ h with h | h; omega; exact absurd h (by decide)) D1.out.1) 0).trans rfl
       clear h1 hc C0 CA HIN
       by_cases hlt : i < TO
       ·obtain ⟨q, gx, ox, hq, rfl, hqs⟩ := EN_.out i (by omega)
        obtain ⟨kq, c0, c1⟩ := hqs w2 (ku_keeps C2.out HY.out.off)
        have hst := RS.out i k q hFi hlt HKK.out hq
        rw [← HLK.out] at hst
        obtain ⟨yfn, ytm, yas, ybo, hyr, hR⟩ := HY.out.does (fuel - 1) (pre ++ (dn ++ Lk)) (rest (i + 1) ++ post) q w2 (by rw [HTO.out, HDN.out, hst]; simp) IN2.out kq
        have HRR := mkHid hR
        have HST := mkHid hst
        have i1 : (i : Int) < (TO : Int) := by omega
        have i2 : (i : Int) < (N : Int) := by omega
        have i3 : (0 : Int) ≤ (i : Int) := by omega
        unfold emV enV at hyr
        clear hqs kq hst hq EN_ RS RE hR IN2
        gi_wp2_with fail
        refine ⟨(fun h => by cases h), HRR.out.mono ?_⟩
        rintro e w3 (⟨rfl, h1, hc⟩ | ⟨rfl, h2⟩)
        ·have NX : Hid (RnU X J pre L rest TO (i + 1) w1 w3) := ⟨CA2.out.trans hc, dn ++ Lk ++ [q], by rw [if_pos (by omega), HDN.out, HST.out]; simp, by rw [← List.append_assoc]; exact h1⟩
         clear h1 hc HRR hyr c0 c1 b0
         gi_wp2_with fail
         go_roundw
         case rel => exact ⟨i + 1, by go_num, by omega, by omega, NX⟩
         case measure => simp [intOf]; omega
        ·have FN : RiU X J Jx pre L w (.returned (.bool false)) w3 := Or.inr ⟨rfl, dn ++ Lk ++ [q], rest (i + 1), by rw [HDN.out, HST.out]; simp, by rw [← List.append_assoc]; exact h2⟩
         clear h2 HRR hyr c0 c1 b0
         gi_wp2_with fail
         go_ret
         exact FN
       ·obtain rfl : i = TO := by omega
        have NX : Hid (RnU X J pre L rest i (i + 1) w1 w2) := ⟨CA2.out, dn ++ Lk, by rw [if_neg (by omega), HDN.out, RE.out k HKK.out, HLK.out]; simp, IN2.out⟩
        have nl : ¬ ((i : Int) < (i : Int)) := by omega
        clear EN_ RS RE b0 IN2
        gi_wp2_with fail
        refine ⟨(fun _ h => by cases h), ?_⟩
        gi_wp2_with fail
        go_roundw
        case rel => exact ⟨i + 1, by go_num, by omega, by omega, NX⟩
        case measure => first | (simp [intOf]; done) | (simp [intOf]; omega)
      ·gi_wp2_with fail
       refine HK.out _ _ ?_
       clear HK K
       refine takeF_at (i := 13) (v := .bool true) rfl rfl rfl (by kernel_rfl) (by kernel_rfl) (by kernel_rfl) (fun _ _ _ h => h) ⟨Or.inl ⟨by rfl, ?_⟩, fun _ => rfl⟩ ?_
       ·intro w5; go_simp
       simp only [zA9, zB9, zC9]
       refine takeF_at (i := 14) (v := .bool true) rfl rfl rfl (by kernel_rfl) (by kernel_rfl) (by kernel_rfl) (fun _ _ _ h => h) ⟨Or.inl ⟨by rfl, ?_⟩, fun _ => rfl⟩ ?_
       ·intro w5; go_simp
       simp only [zA9, zB9, zC9]
       refine wpAnyIn_done (by kernel_rfl) ?_ _
       have FN : RiU X J Jx pre L w (.returned (.bool false)) w2 := by
        obtain ⟨rr, hrr⟩ := RP.out
        exact Or.inr ⟨rfl, dn ++ l1, l2 ++ rr, by rw [HDN.out, hrr, e1]; simp, by rw [← List.append_assoc]; exact h2⟩
       clear e1 h2
       gi_wp2_with fail
       go_ret
       exact FN
   ·have HK := mkHid hK
    clear hK
    go_simp
    refine HK.out _ _ ?_
    clear HK K
    refine wpAnyIn_ready (rs := [6]) (by kernel_rfl) (by simp) ?_
    refine AllReadyIn.cons rfl (fun K hK => ?_) AllReadyIn.nil
    ·have HK := mkHid hK
     clear hK
     go_simp
     refine HK.out _ _ ?_
     clear HK K
     refine takeF_at (i := 8) (v := .pointer (some ⟨gy, oy + i * 2, none⟩)) rfl rfl rfl (by kernel_rfl) (by kernel_rfl) (by kernel_rfl) (fun _ _ _ h => h) ⟨Or.inl ⟨by rfl, ?_⟩, fun _ => rfl⟩ ?_
     ·intro w5; go_simp
     simp only [zA9, zB9, zC9]
     refine wpAnyIn_ready (rs := [9]) (by kernel_rfl) (by simp) ?_
     refine AllReadyIn.cons rfl (fun K hK => ?_) AllReadyIn.nil
     ·have HK := mkHid hK
      clear hK
      go_simp
      refine HK.out _ _ ?_
      clear HK K
      refine wpAnyIn_ready (rs := [12]) (by kernel_rfl) (by simp) ?_
      refine AllReadyIn.cons rfl (fun K hK => ?_) AllReadyIn.nil
      have HK := mkHid hK
      clear hK
      go_simp
      refine ⟨trivial, (fun h => by cases h), (RCK.out _).mono ?_⟩
      rintro en w2 (⟨rfl, h1, hc⟩ | ⟨rfl, l1, l2, e1, h2⟩)
      ·gi_wp2_with fail
       refine HK.out _ _ ?_
       clear HK K
       refine takeF_at (i := 13) (v := .bool false) rfl rfl rfl (by kernel_rfl) (by kernel_rfl) (by kernel_rfl) (fun _ _ _ h => h) ⟨Or.inl ⟨by rfl, ?_⟩, fun _ => rfl⟩ ?_
       ·intro w5; go_simp
       simp only [zA9, zB9, zC9]
       refine takeF_at (i := 14) (v := .bool false) rfl rfl rfl (by kernel_rfl) (by kernel_rfl) (by kernel_rfl) (fun _ _ _ h => h) ⟨Or.inl ⟨by rfl, ?_⟩, fun _ => rfl⟩ ?_
       ·intro w5; go_simp
       simp only [zA9, zB9, zC9]
       refine wpAnyIn_done (by kernel_rfl) ?_ _
       have C2 : Hid (KeepU X w w2) := C0.out.trans hc
       have CA2 : Hid (KeepU X w1 w2) := CA.out.trans hc
       have IN2 : Hid (J (pre ++ (dn ++ Lk)) w2) := by show J (pre ++ (dn ++ Lk)) w2; rw [← List.append_assoc]; exact h1
       have b0 : w2.cell? ⟨w.heap.size, 0, none⟩ = some (.slice p N c) := (cell_of_block (CA2.out.2 _ _ _ _ (fun h => by rcases HYY.out _ _ h with h | h; omega; exact absurd h (by decide)) D1.out.1) 0).trans rfl
       clear h1 hc C0 CA HIN
       by_cases hlt : i < TO
       ·obtain ⟨q, gx, ox, hq, rfl, hqs⟩ := EN_.out i (by omega)
        obtain ⟨kq, c0, c1⟩ := hqs w2 (ku_keeps C2.out HY.out.off)
        have hst := RS.out i k q hFi hlt HKK.out hq
        rw [← HLK.out] at hst
        obtain ⟨yfn, ytm, yas, ybo, hyr, hR⟩ := HY.out.does (fuel - 1) (pre ++ (dn ++ Lk)) (rest (i + 1) ++ post) q w2 (by rw [HTO.out, HDN.out, hst]; simp) IN2.out kq
        have HRR := mkHid hR
        have HST := mkHid hst
        have i1 : (i : Int) < (TO : Int) := by omega
        have i2 : (i : Int) < (N : Int) := by omega
        have i3 : (0 : Int) ≤ (i : Int) := by omega
        unfold emV enV at hyr
        clear hqs kq hst hq EN_ RS RE hR IN2
        gi_wp2_with fail
        refine ⟨(fun h => by cases h), HRR.out.mono ?_⟩
        rintro e w3 (⟨rfl, h1, hc⟩ | ⟨rfl, h2⟩)
        ·have NX : Hid (RnU X J pre L rest TO (i + 1) w1 w3) := ⟨CA2.out.trans hc, dn ++ Lk ++ [q], by rw [if_pos (by omega), HDN.out, HST.out]; simp, by rw [← List.append_assoc]; exact h1⟩
         clear h1 hc HRR hyr c0 c1 b0
         gi_wp2_with fail
         go_roundw
         case rel => exact ⟨i + 1, by go_num, by omega, by omega, NX⟩
         case measure => simp [intOf]; omega
        ·have FN : RiU X J Jx pre L w (.returned (.bool false)) w3 := Or.inr ⟨rfl, dn ++ Lk ++ [q], rest (i + 1), by rw [HDN.out, HST.out]; simp, by rw [← List.append_assoc]; exact h2⟩
         clear h2 HRR hyr c0 c1 b0
         gi_wp2_with fail
         go_ret
         exact FN
       ·obtain rfl : i = TO := by omega
        have NX : Hid (RnU X J pre L rest i (i + 1) w1 w2) := ⟨CA2.out, dn ++ Lk, by rw [if_neg (by omega), HDN.out, RE.out k HKK.out, HLK.out]; simp, IN2.out⟩
        have nl : ¬ ((i : Int) < (i : Int)) := by omega
        clear EN_ RS RE b0 IN2
        gi_wp2_with fail
        refine ⟨(fun _ h => by cases h), ?_⟩
        gi_wp2_with fail
        go_roundw
        case rel => exact ⟨i + 1, by go_num, by omega, by omega, NX⟩
        case measure => first | (simp [intOf]; done) | (simp [intOf]; omega)
      ·gi_wp2_with fail
       refine HK.out _ _ ?_
       clear HK K
       refine takeF_at (i := 13) (v := .bool true) rfl rfl rfl (by kernel_rfl) (by kernel_rfl) (by kernel_rfl) (fun _ _ _ h => h) ⟨Or.inl ⟨by rfl, ?_⟩, fun _ => rfl⟩ ?_
       ·intro w5; go_simp
       simp only [zA9, zB9, zC9]
       refine takeF_at (i := 14) (v := .bool true) rfl rfl rfl (by kernel_rfl) (by kernel_rfl) (by kernel_rfl) (fun _ _ _ h => h) ⟨Or.inl ⟨by rfl, ?_⟩, fun _ => rfl⟩ ?_
       ·intro w5; go_simp
       simp only [zA9, zB9, zC9]
       refine wpAnyIn_done (by kernel_rfl) ?_ _
       have FN : RiU X J Jx pre L w (.returned (.bool false)) w2 := by
        obtain ⟨rr, hrr⟩ := RP.out
        exact Or.inr ⟨rfl, dn ++ l1, l2 ++ rr, by rw [HDN.out, hrr, e1]; simp, by rw [← List.append_assoc]; exact h2⟩
       clear e1 h2
       gi_wp2_with fail
       go_ret
       exact FN
  ·obtain ⟨dn, hdn, hinv⟩ := hI.out.done
   rw [if_neg hle, List.append_nil] at hdn
   have FN : RiU X J Jx pre L w (.returned (.bool true)) wr := Or.inl ⟨rfl, by rw [hdn]; exact hinv, CR.out⟩
   have nb : ¬ ((i : Int) ≤ (TO : Int)) := by omega
   clear hdn hinv hI
   gi_wp2_with fail
   go_ret
   exact FN
/-- a node gone through, inside a fence -/
theorem rise_in_u (T : Nat → Prop) (X : Nat → Nat → Prop) (fl_ fh yl : Nat) (ll lh : Array Value) (lo hi : En → Bool) (J Jx : List Em → World → Prop) (Tot : List Em) (hs : Span ltM (fun q => lo q.e) (fun q => hi q.e)) (hy : YldIU T X yl J Jx Tot) : ∀ (d fuel : Nat) (n : Nd Em) (v1 v2 : Value) (l : Nat) (pre post : List Em) (w : World), ndIn T w d n v1 v2 → n.wf d l 16 → (d ≠ 0 → 1 ≤ n.es.length) → Rise ltM n.fl → EndOk T w fl_ ll lo → EndOk T w fh lh hi → Tot = pre ++ (within (fun q : Em => lo q.e) (fun q : Em => hi q.e) n.fl ++ post) → J pre w → (∀ b t, X b t → b < w.heap.size ∨ t = 31) →
  CallsIn Fence.wide fuel Tryz.prog 64 #[.agg #[v1, v2], .agg #[.func (.func fl_) #[] ll, .func (.func fh) #[] lh], .func (.yield yl) #[] #[]] w fun e w' => RiU X J Jx pre (within (fun q : Em => lo q.e) (fun q : Em => hi q.e) n.fl) w e w'
 | 0, fuel, n, v1, v2, l, pre, post, w, hn, hw, _, hr, he, hf, ht, h0, hY => rise_leaf_in_u T X fl_ fh yl ll lh lo hi J Jx Tot fuel n v1 v2 l 16 pre post w hn hw (by have := wf_len hw; omega) hr he hf hs hy ht h0 hY
 | d + 1, fuel, n, v1, v2, l, pre, post, w, hn, hw, h1, hr, he, hf, ht, h0, hY => rise_inner_in_u T X fl_ fh yl ll lh lo hi J Jx Tot fuel d n v1 v2 l 16 pre post w hn hw (h1 (by omega)) (by have := wf_len hw; omega) hr he hf hs hy ht h0 hY
   (fun fuel i k h1 h2 pre post w hk hkn he hf ht h0 hY => rise_in_u T X fl_ fh yl ll lh lo hi J Jx Tot hs hy d fuel k h1 h2 8 pre post w hkn (wf_kid hw hk) (fun _ => by have := wf_len (wf_kid hw hk); omega) (rise_parts (wf_klen hw) hr hk).2.1 he hf ht h0 hY)
end Go.Proofs.YtclcajnodoifjaaGreatDoor

namespace Go.Proofs.YtclcajnodoifjaaGreatDoor
open Go.RowKit Go.Shelf Go.Joins Go.Maps
set_option maxRecDepth 100000

theorem yield_any {m k : Nat} {P : Program} {l : Nat} {args : Array Value} {W : World} {R : Ending → World → Prop} (h : YieldAt Fence.wide m P l args W R) : YieldAt Fence.wide k P l args W R := by
 obtain ⟨fn, tm, as_, bo, h1, h2⟩ := h
 exact ⟨fn, tm, as_, bo, h1, h2.1, fun c cs _ => h2.2 c cs (room_wide _)⟩
set_option maxHeartbeats 4000000 in
set_option maxRecDepth 1000000 in
/-- the closure of rising: what it hands over -/
theorem rising1_stops_u (T : Nat → Prop) (X : Nat → Nat → Prop) (fl_ fh : Nat) (ll lh : Array Value) (lo hi : En → Bool) (m d l B1 B2 : Nat) (n : Nd Em) (p1 : Option Addr) (n1 c1 : Nat) (p2 : Option Addr) (n2 c2 : Nat) (Tot : List Em) (w : World) (hTot : Tot = within (fun q : Em => lo q.e) (fun q : Em => hi q.e) n.fl) (hn : ndIn T w d n (.slice p1 n1 c1) (.slice p2 n2 c2)) (hw : n.wf d l 16) (hne : d ≠ 0 → 1 ≤ n.es.length) (hr : Rise ltM n.fl) (he : EndOk T w fl_ ll lo) (hf : EndOk T w fh lh hi) (hs : Span ltM (fun q => lo q.e) (fun q => hi q.e)) (hY : ∀ b t, X b t → b < w.heap.size ∨ t = 31) (ho : ∀ b t, T b → ¬ X b t)
  (hb1 : w.heap[B1]? = some (.cells #[.slice p1 n1 c1, .slice p2 n2 c2] 60 (0, 0))) (hb2 : w.heap[B2]? = some (.cells #[.func (.func fl_) #[] ll, .func (.func fh) #[] lh] 72 (0, 0))) :
  SeqStopsK Fence.wide m Tryz.prog 63 #[.pointer (some ⟨B1, 0, none⟩), .pointer (some ⟨B2, 0, none⟩)] (fun x : { q : Em // q ∈ Tot } => #[emV x.1]) (KeepU X) (fun xs => xs.map (fun x => x.1) = Tot) (fun pre => ∃ rest, Tot = pre.map (fun x => x.1) ++ rest) Tot.length w := by
 intro yl J Jx W hW hJ hJx hyl h0
 have up : ∀ (K : List { q : Em // q ∈ Tot } → World → Prop), AbidesFrom W.heap.size K → ∀ s A A', K s A → Below A.heap.size A A' → K s A' := fun K hK s A A' h hb => hK s A A' none h ⟨hb.os, hb.tape, hb.output, hb.size, fun k hk _ => hb.block k hk⟩ (fun r e => by cases e)
 have hy : YldIU T X yl (fun pre A => ∃ s : List { q : Em // q ∈ Tot }, s.map (fun x => x.1) = pre ∧ J s A) (fun pre A => ∃ s : List { q : Em // q ∈ Tot }, s.map (fun x => x.1) = pre ∧ Jx s A) Tot := by
  refine ⟨fun k pre post q A ht ⟨s, hs1, hs2⟩ _ => ?_, fun pre A A' ⟨s, h1, h2⟩ hb => ⟨s, h1, up J hJ s A A' h2 hb⟩, ho⟩
  have hq : q ∈ Tot := by rw [ht]; simp
  have hl : s.length < Tot.length := by
   have g1 := congrArg List.length ht
   have g2 := congrArg List.length hs1
   simp at g1 g2
   omega
  refine (yield_any (hyl s ⟨q, hq⟩ A hs2 hl)).mono (fun e w' h => ?_)
  rcases h with ⟨h1, h2, h3⟩ | ⟨h1, h2⟩
  ·exact Or.inl ⟨h1, ⟨s ++ [⟨q, hq⟩], by rw [List.map_append, hs1]; rfl, h2⟩, h3⟩
  ·exact Or.inr ⟨h1, ⟨s ++ [⟨q, hq⟩], by rw [List.map_append, hs1]; rfl, h2⟩⟩
 have RI := fun k => mkHid (rise_in_u T X fl_ fh yl ll lh lo hi _ _ Tot hs hy d k n _ _ l [] [] W (hn.below hW) hw hne hr (he.keeps (Keeps.of_below hW)) (hf.keeps (Keeps.of_below hW)) (by rw [hTot]; simp) ⟨[], rfl, h0⟩ (fun b t hb => (hY b t hb).imp (fun h => Nat.lt_of_lt_of_le h hW.size) id))
 have e1 := (hW.block _ (lt_of_heap hb1)).trans hb1
 have e2 := (hW.block _ (lt_of_heap hb2)).trans hb2
 have c0 : W.cell? ⟨B1, 0, none⟩ = some (.slice p1 n1 c1) := (cell_of_block e1 0).trans rfl
 have c1' : W.cell? ⟨B1, 1, none⟩ = some (.slice p2 n2 c2) := (cell_of_block e1 1).trans rfl
 have c2' : W.cell? ⟨B2, 0, none⟩ = some (.func (.func fl_) #[] ll) := (cell_of_block e2 0).trans rfl
 have c3' : W.cell? ⟨B2, 1, none⟩ = some (.func (.func fh) #[] lh) := (cell_of_block e2 1).trans rfl
 have HT := mkHid hTot
 clear hyl h0 hJ hJx up hy hn hw hne hr he hf hs hY ho hb1 hb2 e1 e2 hW hTot
 show CallsIn Fence.wide m Tryz.prog 63 #[.func (.yield yl) #[] #[], .pointer (some ⟨B1, 0, none⟩), .pointer (some ⟨B2, 0, none⟩)] W _
 refine callsIn_of_wp Tryz.func63 rfl trivial ?_ rfl
 simp only [Tryz.ntmps63, List.size_toArray, List.length_cons, List.length_nil, Nat.reduceAdd, Nat.reduceSub, Array.replicate_succ, Array.replicate_zero, List.push_toArray, List.append_toArray, List.nil_append, List.cons_append]
 gi_wp2_with fail
 refine ⟨trivial, (fun h => by cases h), (RI _).out.mono ?_⟩
 rintro e w2 (⟨rfl, ⟨s, h1, h2⟩, _⟩ | ⟨rfl, l1, l2, h3, s, h1, h2⟩)
 ·have FN : (∃ xs, xs.map (fun x : { q : Em // q ∈ Tot } => x.1) = Tot ∧ J xs w2) := ⟨s, h1.trans (by rw [List.nil_append]; exact HT.out.symm), h2⟩
  have GN := mkHid FN
  clear h1 h2 FN RI
  gi_wp2_with fail
  go_end0
  exact ⟨⟨_, rfl⟩, Or.inl GN.out⟩
 ·have FN : (∃ pre : List { q : Em // q ∈ Tot }, (∃ rest, Tot = pre.map (fun x => x.1) ++ rest) ∧ Jx pre w2) := ⟨s, ⟨l2, HT.out.trans (h3.trans (congrArg (· ++ l2) (h1.trans (List.nil_append l1)).symm))⟩, h2⟩
  have GN := mkHid FN
  clear h1 h2 h3 FN RI
  gi_wp2_with fail
  go_end0
  exact ⟨⟨_, rfl⟩, Or.inr GN.out⟩
/-- the closure of rising: what it hands over -/
theorem rising1_stops (T Y : Nat → Prop) (fl_ fh : Nat) (ll lh : Array Value) (lo hi : En → Bool) (m d l B1 B2 : Nat) (n : Nd Em) (p1 : Option Addr) (n1 c1 : Nat) (p2 : Option Addr) (n2 c2 : Nat) (Tot : List Em) (w : World) (hTot : Tot = within (fun q : Em => lo q.e) (fun q : Em => hi q.e) n.fl) (hn : ndIn T w d n (.slice p1 n1 c1) (.slice p2 n2 c2)) (hw : n.wf d l 16) (hne : d ≠ 0 → 1 ≤ n.es.length) (hr : Rise ltM n.fl) (he : EndOk T w fl_ ll lo) (hf : EndOk T w fh lh hi) (hs : Span ltM (fun q => lo q.e) (fun q => hi q.e)) (hY : ∀ b, Y b → b < w.heap.size) (ho : ∀ b, Y b → ¬ T b)
  (hb1 : w.heap[B1]? = some (.cells #[.slice p1 n1 c1, .slice p2 n2 c2] 60 (0, 0))) (hb2 : w.heap[B2]? = some (.cells #[.func (.func fl_) #[] ll, .func (.func fh) #[] lh] 72 (0, 0))) :
  SeqStopsK Fence.wide m Tryz.prog 63 #[.pointer (some ⟨B1, 0, none⟩), .pointer (some ⟨B2, 0, none⟩)] (fun x : { q : Em // q ∈ Tot } => #[emV x.1]) (Keeps (fun b => ¬ Y b)) (fun xs => xs.map (fun x => x.1) = Tot) (fun pre => ∃ rest, Tot = pre.map (fun x => x.1) ++ rest) Tot.length w :=
 rising1_stops_u T (fun b _ => Y b) fl_ fh ll lh lo hi m d l B1 B2 n p1 n1 c1 p2 n2 c2 Tot w hTot hn hw hne hr he hf hs (fun b _ h => Or.inl (hY b h)) (fun b _ h1 h2 => ho b h2 h1) hb1 hb2
end Go.Proofs.YtclcajnodoifjaaGreatDoor

namespace Go.Proofs.YtclcajnodoifjaaGreatDoor
open Go.RowKit Go.Shelf Go.Joins Go.Maps
set_option maxRecDepth 100000

end Go.Proofs.YtclcajnodoifjaaGreatDoor

