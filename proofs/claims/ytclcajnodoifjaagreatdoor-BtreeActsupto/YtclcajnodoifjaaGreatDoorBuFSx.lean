/-
 The walk of btree.with: the kid goes in as two.
-/
import Derived.Test.YtclcajnodoifjaaGreatDoorBuESx
namespace Go.Proofs.YtclcajnodoifjaaGreatDoor
open Go.RowKit Go.Shelf Go.Joins Go.Maps
set_option maxRecDepth 100000

/-- all that was there is as it was -/
def Kept (w W : World) : Prop := Below w.heap.size w W
theorem Kept.below {w W W' : World} (h : Kept w W) (hb : Below W.heap.size W W') : Kept w W' := Below.trans h (hb.mono h.size)
/-- the two halves and the entry between lie in rows of their own -/
structure WB (w1 wx : World) (ga gb : Nat) (a1 a2 a3 a4 : Value) (mid : Em) : Prop where
 pk : Pc.ok 2 wx ⟨some ⟨ga, 0, none⟩, 2, 2, [a1, a2, a3, a4]⟩
 pp : Pc.ok 2 wx ⟨some ⟨gb, 0, none⟩, 1, 1, emE mid⟩
 kept : Below w1.heap.size w1 wx
set_option maxHeartbeats 8000000 in
set_option maxRecDepth 1000000 in
theorem with_big (T : Nat → Prop) (d : Nat) (n kid : Nd Em) (a b : Nat) (v1 v2 k1 k2 : Value) (w : World) (hT : ∀ b, w.heap.size ≤ b → T b) (hn : ndIn T w (d + 1) n v1 v2) (hk : ndIn T w d kid k1 k2) (z0 : 1 ≤ n.es.length) (z1 : n.es.length ≤ 1000) (z3 : n.ks.length = n.es.length + 1) (hab : a ≤ b) (hbn : b ≤ n.es.length) (h16 : 16 < kid.es.length) (h33 : kid.es.length ≤ 1000) (hkk : d ≠ 0 → kid.ks.length = kid.es.length + 1) :
  Calls Tryz.prog 53 #[.agg #[v1, v2], .int .i64 (a : Int), .int .i64 ((b : Int) + 1), .agg #[k1, k2]] w fun en w' => ∃ l m r, kid.halves = some (l, m, r) ∧ NdQ T w (d + 1) (n.with2 a (b + 1) l m r) en w' := by
 obtain ⟨⟨p, N, c, xs⟩, e1, e2, e3, e4, e5⟩ := hn.ent.pc
 obtain ⟨⟨q, K, e, ys⟩, j, g1, g2, g3, g4, g5, g6, g7⟩ := hn.kids
 simp only at e2 e3 e5 g2 g3 g5
 subst e3 g3
 have hK : K = N + 1 := by rw [g2, e2]; exact z3
 subst hK
 obtain ⟨gx, ox, rfl⟩ := pc_some e4 (by omega)
 obtain ⟨gy, oy, rfl⟩ := pc_some g4 (by omega)
 obtain ⟨VX, hVX⟩ : ∃ V, V = if c = b then some (⟨gx, ox, none⟩ : Addr) else some ⟨gx, ox + b * 2, none⟩ := ⟨_, rfl⟩
 obtain ⟨VY, hVY⟩ : ∃ V, V = if e = b + 1 then some (⟨gy, oy, none⟩ : Addr) else some ⟨gy, oy + (b + 1) * 2, none⟩ := ⟨_, rfl⟩
 have HVX := mkHid hVX
 have HVY := mkHid hVY
 have x1 := e4.fst (a := a) (by simp only; omega)
 have x2 := lst_ok (b := b) e4 e5 hVX
 have y1 := g4.fst (a := a) (by simp only; omega)
 have y2 := lst_ok (b := b + 1) g4 g5 hVY
 rw [Nat.add_sub_add_right] at y2
 obtain ⟨⟨kp, kn, kc, kxs⟩, l1, l2, l3, l4, l5⟩ := hk.ent.pc
 obtain ⟨⟨kq, km, ke, kys⟩, kj, m1, m2, m3, m4, m5, m6, m7⟩ := hk.kids
 simp only [Pc.v] at l1 l2 m1
 subst l1 m1
 obtain ⟨w0, hw0⟩ : ∃ w0, w0 = (((w.alloc (.cells #[.slice (some ⟨gx, ox, none⟩) N c, .slice (some ⟨gy, oy, none⟩) (N + 1) e] 60)).alloc (.cells #[.slice kp kn kc, .slice kq km ke] 60)).alloc (.cells #[.slice none 0 0, .slice none 0 0] 60)).alloc (.cells #[.slice kp kn kc, .slice kq km ke] 60) := ⟨_, rfl⟩
 obtain ⟨b0, b1, b2, b3, bb, bs⟩ := bx4 w (.cells #[.slice (some ⟨gx, ox, none⟩) N c, .slice (some ⟨gy, oy, none⟩) (N + 1) e] 60) (.cells #[.slice kp kn kc, .slice kq km ke] 60) (.cells #[.slice none 0 0, .slice none 0 0] 60) (.cells #[.slice kp kn kc, .slice kq km ke] 60)
 rw [← hw0] at b0 b1 b2 b3 bb bs
 have SPL : Hid (Calls Tryz.prog 49 #[.agg #[.slice kp kn kc, .slice kq km ke]] w0 fun en w' => SpQ (fun b => T b ∧ b ≠ (w.heap.size + 1 + 1)) w0 d kid en w') := split_any _ d kid _ _ w0 (fun b hb => ⟨hT b (by omega), by omega⟩) ((hk.off (by omega)).below bb) (by omega) h33 hkk
 have i1 : (0 : Int) ≤ (a : Int) := by omega
 have i2 : (a : Int) ≤ (c : Int) := by omega
 have i3 : (b : Int) ≤ (N : Int) := by omega
 have i4 : (N : Int) ≤ (c : Int) := by omega
 have i5 : (a : Int) ≤ (e : Int) := by omega
 have i6 : (b : Int) + 1 ≤ (N : Int) + 1 := by omega
 have i7 : (N : Int) + 1 ≤ (e : Int) := by omega
 have i8 : (0 : Int) ≤ (b : Int) := by omega
 have i9 : b ≤ 1000 := by omega
 have i10 : (0 : Int) ≤ (b : Int) + 1 := by omega
 have i11 : IntKind.i64.wrap (b : Int) = (b : Int) := by simp [IntKind.wrap, IntKind.bits, IntKind.signed]; omega
 have i16 : (kn : Int) > 16 := by omega
 have HW0 := mkHid hw0
 rw [e1, g1]
 unfold Pc.v
 have X1 := mkHid x1
 have X2 := mkHid x2
 have Y1 := mkHid y1
 have Y2 := mkHid y2
 have G6 := mkHid g6
 have HEN := mkHid hn.ent.2
 have HBB := mkHid bb
 have HBS := mkHid bs
 have HTT := mkHid hT
 have HE2 := mkHid e2
 have HG2 := mkHid z3
 have HLN : Hid (a ≤ b ∧ b ≤ N ∧ 1 ≤ N ∧ N ≤ 1000) := by show _ ∧ _; omega
 have BX0 := mkHid b0
 have RC0 := mkHid b2
 clear hT hn hk e1 e2 e4 e5 g1 g2 g4 g5 g6 g7 b0 b1 b2 b3 bb bs z0 z1 z3 hw0 x1 x2 y1 y2 hVX hVY l2 l3 l4 l5 m2 m3 m4 m5 m6 m7 hab hbn h16 h33 hkk
 go_enter Tryz.func53, Tryz.ntmps53
 go_wp2_with fail
 rw [← HW0.out]
 clear HW0
 refine SPL.out.mono ?_
 rintro en w1 ⟨la, ka, ca, lb, kb, cb, ra, ja, ea, rb, jb, eb, L, mid, R, rfl, hh, hL, hR, hm, hb1⟩
 have HHV := mkHid hh
 have HL := mkHid hL
 have HRR := mkHid hR
 have HMM := mkHid hm
 have HB1 := mkHid hb1
 clear hh hL hR hm hb1 SPL
 go_wp2_with fail
 go_cut [9, 10] from 26 to 30 (fun s9 s10 wx => ∃ ga gb : Nat, s9 = .slice (some ⟨ga, 0, none⟩) 2 2 ∧ s10 = .slice (some ⟨gb, 0, none⟩) 1 1 ∧ Hid (WB w1 wx ga gb (.slice la ka ca) (.slice lb kb cb) (.slice ra ja ea) (.slice rb jb eb) mid))
 case first =>
  obtain ⟨d0, d1, d2, d3, d4⟩ := bx3 w1 (.cells #[.slice la ka ca, .slice lb kb cb] 60) (.cells #[.slice (some ⟨mid.g, 0, none⟩) mid.e.key.length mid.c, .int .u64 mid.e.id] 65) (.cells #[.slice ra ja ea, .slice rb jb eb] 60)
  generalize ((w1.alloc (.cells #[.slice la ka ca, .slice lb kb cb] 60)).alloc (.cells #[.slice (some ⟨mid.g, 0, none⟩) mid.e.key.length mid.c, .int .u64 mid.e.id] 65)).alloc (.cells #[.slice ra ja ea, .slice rb jb eb] 60) = w2 at d0 d1 d2 d3 d4 ⊢
  have B2W := mkHid d3
  have KM : Hid (w1.heap.size + 1 + 1 + 1 ≤ w2.heap.size) := by show _ ≤ _; omega
  have KS : Hid (∀ w', Below (w1.heap.size + 1 + 1 + 1) w2 w' → w'.cell? ⟨w1.heap.size, 0, none⟩ = some (.slice la ka ca) ∧ w'.cell? ⟨w1.heap.size, 1, none⟩ = some (.slice lb kb cb) ∧ w'.cell? ⟨w1.heap.size + 1, 0, none⟩ = some (.slice (some ⟨mid.g, 0, none⟩) mid.e.key.length mid.c) ∧ w'.cell? ⟨w1.heap.size + 1, 1, none⟩ = some (.int .u64 mid.e.id) ∧ w'.cell? ⟨w1.heap.size + 1 + 1, 0, none⟩ = some (.slice ra ja ea) ∧ w'.cell? ⟨w1.heap.size + 1 + 1, 1, none⟩ = some (.slice rb jb eb)) := fun w' hb => by
   have c0 : ∀ o, w'.cell? ⟨w1.heap.size, o, none⟩ = w2.cell? ⟨w1.heap.size, o, none⟩ := fun o => hb.cell (p := ⟨w1.heap.size, o, none⟩) (by show w1.heap.size < _; omega)
   have c1 : ∀ o, w'.cell? ⟨w1.heap.size + 1, o, none⟩ = w2.cell? ⟨w1.heap.size + 1, o, none⟩ := fun o => hb.cell (p := ⟨w1.heap.size + 1, o, none⟩) (by show w1.heap.size + 1 < _; omega)
   have c2 : ∀ o, w'.cell? ⟨w1.heap.size + 1 + 1, o, none⟩ = w2.cell? ⟨w1.heap.size + 1 + 1, o, none⟩ := fun o => hb.cell (p := ⟨w1.heap.size + 1 + 1, o, none⟩) (by show w1.heap.size + 1 + 1 < _; omega)
   exact ⟨(c0 0).trans ((cell_of_block d0 0).trans rfl), (c0 1).trans ((cell_of_block d0 1).trans rfl), (c1 0).trans ((cell_of_block d1 0).trans rfl), (c1 1).trans ((cell_of_block d1 1).trans rfl), (c2 0).trans ((cell_of_block d2 0).trans rfl), (c2 1).trans ((cell_of_block d2 1).trans rfl)⟩
  clear d0 d1 d2 d3 d4
  refine wp_region_noPanic ?_
  refine wp_region_held_drew (S := fun w' : World => w'.cell? ⟨w1.heap.size, 0, none⟩ = some (.slice la ka ca) ∧ w'.cell? ⟨w1.heap.size, 1, none⟩ = some (.slice lb kb cb) ∧ w'.cell? ⟨w1.heap.size + 1, 0, none⟩ = some (.slice (some ⟨mid.g, 0, none⟩) mid.e.key.length mid.c) ∧ w'.cell? ⟨w1.heap.size + 1, 1, none⟩ = some (.int .u64 mid.e.id) ∧ w'.cell? ⟨w1.heap.size + 1 + 1, 0, none⟩ = some (.slice ra ja ea) ∧ w'.cell? ⟨w1.heap.size + 1 + 1, 1, none⟩ = some (.slice rb jb eb)) (by kernel_rfl) (KS.out _ (Below.refl _ _).drew) (fun hH => ?_)
  refine tKx (i := 0) (v := .agg #[.slice la ka ca, .slice lb kb cb]) rfl rfl (by kernel_rfl) (fun _ _ _ h => h) ?_ hH ?_
  ·intro w5 hSw; obtain ⟨s0, s1, s2, s3, s4, s5⟩ := hSw; go_simp
  simp only [zA9, zB9, zC9]
  refine tKx (i := 1) (v := .agg #[.slice ra ja ea, .slice rb jb eb]) rfl rfl (by kernel_rfl) (fun _ _ _ h => h) ?_ hH ?_
  ·intro w5 hSw; obtain ⟨s0, s1, s2, s3, s4, s5⟩ := hSw; go_simp
  simp only [zA9, zB9, zC9]
  refine tKx (i := 3) (v := .agg #[.slice (some ⟨mid.g, 0, none⟩) mid.e.key.length mid.c, .int .u64 mid.e.id]) rfl rfl (by kernel_rfl) (fun _ _ _ h => h) ?_ hH ?_
  ·intro w5 hSw; obtain ⟨s0, s1, s2, s3, s4, s5⟩ := hSw; go_simp
  simp only [zA9, zB9, zC9]
  have KB := mkHid ((Below.refl (w1.heap.size + 1 + 1 + 1) w2).drew)
  generalize hW0 : w2.drew = W0 at KB hH ⊢
  refine wpAnyH_ready (rs := [2, 4]) (by kernel_rfl) (by simp) ?_
  refine AllReadyH.cons rfl (fun K hK => ?_) (AllReadyH.cons rfl (fun K hK => ?_) AllReadyH.nil)
  ·go_simp
   refine hK.out _ _ (KS.out _ (KB.out.alloc (Nat.le_trans KM.out KB.out.size) _)) (fun hH => ?_)
   clear hK K
   have hb := (Below.refl W0.heap.size W0).alloc (Nat.le_refl _) (.cells #[.slice la ka ca, .slice lb kb cb, .slice ra ja ea, .slice rb jb eb] 60)
   have PK : Hid (Pc.ok 2 (W0.alloc (.cells #[.slice la ka ca, .slice lb kb cb, .slice ra ja ea, .slice rb jb eb] 60)) ⟨some ⟨W0.heap.size, 0, none⟩, 2, 2, [.slice la ka ca, .slice lb kb cb, .slice ra ja ea, .slice rb jb eb]⟩) := mkHid (pc_new W0 2 [.slice la ka ca, .slice lb kb cb, .slice ra ja ea, .slice rb jb eb] 60 2 rfl (by intro u hu; simp only [List.mem_cons, List.not_mem_nil, or_false] at hu; rcases hu with rfl | rfl | rfl | rfl <;> rfl))
   replace KB := mkHid (KB.out.trans (hb.mono (Nat.le_trans KM.out KB.out.size)))
   clear hb
   generalize W0.alloc (.cells #[.slice la ka ca, .slice lb kb cb, .slice ra ja ea, .slice rb jb eb] 60) = W1 at KB PK hH ⊢
   refine wpAnyH_ready (rs := [4, 5]) (by kernel_rfl) (by simp) ?_
   refine AllReadyH.cons rfl (fun K hK => ?_) (AllReadyH.cons rfl (fun K hK => ?_) AllReadyH.nil)
   ·go_simp
    refine hK.out _ _ (KS.out _ (KB.out.alloc (Nat.le_trans KM.out KB.out.size) _)) (fun hH => ?_)
    clear hK K
    have hb := (Below.refl W1.heap.size W1).alloc (Nat.le_refl _) (.cells #[.slice (some ⟨mid.g, 0, none⟩) mid.e.key.length mid.c, .int .u64 mid.e.id] 65)
    replace PK := mkHid (PK.out.below hb)
    have PP : Hid (Pc.ok 2 (W1.alloc (.cells #[.slice (some ⟨mid.g, 0, none⟩) mid.e.key.length mid.c, .int .u64 mid.e.id] 65)) ⟨some ⟨W1.heap.size, 0, none⟩, 1, 1, emE mid⟩) := mkHid (pc_new W1 1 (emE mid) 65 2 rfl (emE_one mid))
    replace KB := mkHid (KB.out.trans (hb.mono (Nat.le_trans KM.out KB.out.size)))
    clear hb
    generalize W1.alloc (.cells #[.slice (some ⟨mid.g, 0, none⟩) mid.e.key.length mid.c, .int .u64 mid.e.id] 65) = W2 at KB PK PP hH ⊢
    refine wpAnyH_ready (rs := [5]) (by kernel_rfl) (by simp) ?_
    refine AllReadyH.cons rfl (fun K hK => ?_) AllReadyH.nil
    ·go_simp
     refine hK.out _ _ (KS.out _ KB.out) (fun hH => ?_)
     clear hK K
     refine wpAnyH_ready (rs := [6]) (by kernel_rfl) (by simp) ?_
     refine AllReadyH.cons rfl (fun K hK => ?_) AllReadyH.nil
     ·go_simp
      refine hK.out _ _ (KS.out _ KB.out) (fun hH => ?_)
      clear hK K
      refine wpAnyH_done (by kernel_rfl) ?_ _
      refine NoPanic.normal ?_
      have HC := mkHid (WB.mk PK.out PP.out (B2W.out.trans (KB.out.mono (by omega))))
      clear PK PP KB hH KS
      go_wp2_with fail
      go_meet
      case rel => exact ⟨_, _, rfl, rfl, HC⟩
   ·go_simp
    refine hK.out _ _ (KS.out _ KB.out) (fun hH => ?_)
    clear hK K
    refine wpAnyH_ready (rs := [4]) (by kernel_rfl) (by simp) ?_
    refine AllReadyH.cons rfl (fun K hK => ?_) AllReadyH.nil
    ·go_simp
     refine hK.out _ _ (KS.out _ (KB.out.alloc (Nat.le_trans KM.out KB.out.size) _)) (fun hH => ?_)
     clear hK K
     have hb := (Below.refl W1.heap.size W1).alloc (Nat.le_refl _) (.cells #[.slice (some ⟨mid.g, 0, none⟩) mid.e.key.length mid.c, .int .u64 mid.e.id] 65)
     replace PK := mkHid (PK.out.below hb)
     have PP : Hid (Pc.ok 2 (W1.alloc (.cells #[.slice (some ⟨mid.g, 0, none⟩) mid.e.key.length mid.c, .int .u64 mid.e.id] 65)) ⟨some ⟨W1.heap.size, 0, none⟩, 1, 1, emE mid⟩) := mkHid (pc_new W1 1 (emE mid) 65 2 rfl (emE_one mid))
     replace KB := mkHid (KB.out.trans (hb.mono (Nat.le_trans KM.out KB.out.size)))
     clear hb
     generalize W1.alloc (.cells #[.slice (some ⟨mid.g, 0, none⟩) mid.e.key.length mid.c, .int .u64 mid.e.id] 65) = W2 at KB PK PP hH ⊢
     refine wpAnyH_ready (rs := [6]) (by kernel_rfl) (by simp) ?_
     refine AllReadyH.cons rfl (fun K hK => ?_) AllReadyH.nil
     ·go_simp
      refine hK.out _ _ (KS.out _ KB.out) (fun hH => ?_)
      clear hK K
      refine wpAnyH_done (by kernel_rfl) ?_ _
      refine NoPanic.normal ?_
      have HC := mkHid (WB.mk PK.out PP.out (B2W.out.trans (KB.out.mono (by omega))))
      clear PK PP KB hH KS
      go_wp2_with fail
      go_meet
      case rel => exact ⟨_, _, rfl, rfl, HC⟩
  ·go_simp
   refine hK.out _ _ (KS.out _ (KB.out.alloc (Nat.le_trans KM.out KB.out.size) _)) (fun hH => ?_)
   clear hK K
   have hb := (Below.refl W0.heap.size W0).alloc (Nat.le_refl _) (.cells #[.slice (some ⟨mid.g, 0, none⟩) mid.e.key.length mid.c, .int .u64 mid.e.id] 65)
   have PP : Hid (Pc.ok 2 (W0.alloc (.cells #[.slice (some ⟨mid.g, 0, none⟩) mid.e.key.length mid.c, .int .u64 mid.e.id] 65)) ⟨some ⟨W0.heap.size, 0, none⟩, 1, 1, emE mid⟩) := mkHid (pc_new W0 1 (emE mid) 65 2 rfl (emE_one mid))
   replace KB := mkHid (KB.out.trans (hb.mono (Nat.le_trans KM.out KB.out.size)))
   clear hb
   generalize W0.alloc (.cells #[.slice (some ⟨mid.g, 0, none⟩) mid.e.key.length mid.c, .int .u64 mid.e.id] 65) = W1 at KB PP hH ⊢
   refine wpAnyH_ready (rs := [2]) (by kernel_rfl) (by simp) ?_
   refine AllReadyH.cons rfl (fun K hK => ?_) AllReadyH.nil
   ·go_simp
    refine hK.out _ _ (KS.out _ (KB.out.alloc (Nat.le_trans KM.out KB.out.size) _)) (fun hH => ?_)
    clear hK K
    have hb := (Below.refl W1.heap.size W1).alloc (Nat.le_refl _) (.cells #[.slice la ka ca, .slice lb kb cb, .slice ra ja ea, .slice rb jb eb] 60)
    replace PP := mkHid (PP.out.below hb)
    have PK : Hid (Pc.ok 2 (W1.alloc (.cells #[.slice la ka ca, .slice lb kb cb, .slice ra ja ea, .slice rb jb eb] 60)) ⟨some ⟨W1.heap.size, 0, none⟩, 2, 2, [.slice la ka ca, .slice lb kb cb, .slice ra ja ea, .slice rb jb eb]⟩) := mkHid (pc_new W1 2 [.slice la ka ca, .slice lb kb cb, .slice ra ja ea, .slice rb jb eb] 60 2 rfl (by intro u hu; simp only [List.mem_cons, List.not_mem_nil, or_false] at hu; rcases hu with rfl | rfl | rfl | rfl <;> rfl))
    replace KB := mkHid (KB.out.trans (hb.mono (Nat.le_trans KM.out KB.out.size)))
    clear hb
    generalize W1.alloc (.cells #[.slice la ka ca, .slice lb kb cb, .slice ra ja ea, .slice rb jb eb] 60) = W2 at KB PP PK hH ⊢
    refine wpAnyH_ready (rs := [5]) (by kernel_rfl) (by simp) ?_
    refine AllReadyH.cons rfl (fun K hK => ?_) AllReadyH.nil
    ·go_simp
     refine hK.out _ _ (KS.out _ KB.out) (fun hH => ?_)
     clear hK K
     refine wpAnyH_ready (rs := [6]) (by kernel_rfl) (by simp) ?_
     refine AllReadyH.cons rfl (fun K hK => ?_) AllReadyH.nil
     ·go_simp
      refine hK.out _ _ (KS.out _ KB.out) (fun hH => ?_)
      clear hK K
      refine wpAnyH_done (by kernel_rfl) ?_ _
      refine NoPanic.normal ?_
      have HC := mkHid (WB.mk PK.out PP.out (B2W.out.trans (KB.out.mono (by omega))))
      clear PK PP KB hH KS
      go_wp2_with fail
      go_meet
      case rel => exact ⟨_, _, rfl, rfl, HC⟩
 case rest =>
  obtain ⟨ga, gb, rfl, rfl, hwb⟩ := hcut
  have W0B : Hid (Below w.heap.size w wc) := (HBB.out.trans (HB1.out.mono HBB.out.size)).trans (hwb.out.kept.mono (Nat.le_trans HBB.out.size HB1.out.size))
  have W0C : Hid (Below w0.heap.size w0 wc) := HB1.out.trans (hwb.out.kept.mono HB1.out.size)
  have PK := mkHid hwb.out.pk
  have PP := mkHid hwb.out.pp
  have KM : Hid ((w.heap.size + 1 + 1) ≤ wc.heap.size) := by have := HBS.out; have := W0C.out.size; show _ ≤ _; omega
  have RC : Hid (wc.heap[(w.heap.size + 1 + 1)]? = some (.cells #[.slice none 0 0, .slice none 0 0] 60 (0, 0))) := (W0C.out.block _ (lt_of_heap RC0.out)).trans RC0.out
  have KS : Hid (∀ w', Below (w.heap.size + 1 + 1) wc w' → w'.cell? ⟨w.heap.size, 0, none⟩ = some (.slice (some ⟨gx, ox, none⟩) N c) ∧ w'.cell? ⟨w.heap.size, 1, none⟩ = some (.slice (some ⟨gy, oy, none⟩) (N + 1) e)) := fun w' hb => by
   have hb0 : wc.heap[w.heap.size]? = _ := (W0C.out.block _ (lt_of_heap BX0.out)).trans BX0.out
   have c0 : ∀ o, w'.cell? ⟨w.heap.size, o, none⟩ = wc.cell? ⟨w.heap.size, o, none⟩ := fun o => hb.cell (p := ⟨w.heap.size, o, none⟩) (by show w.heap.size < _; omega)
   exact ⟨(c0 0).trans ((cell_of_block hb0 0).trans rfl), (c0 1).trans ((cell_of_block hb0 1).trans rfl)⟩
  have up : ∀ W, Below (w.heap.size + 1 + 1) wc W → Below w.heap.size w W := fun W hb => W0B.out.trans (hb.mono (by omega))
  have KF : Hid (Kept wc wc) := Below.refl _ _
  obtain ⟨n1, hn1⟩ : ∃ n1, n1 = (n.es.take a ++ mid :: n.es.drop b).length := ⟨_, rfl⟩
  obtain ⟨n2, hn2⟩ : ∃ n2, n2 = (n.ks.take a ++ L :: R :: n.ks.drop (b + 1)).length := ⟨_, rfl⟩
  have hl := HLN.out
  have he2 := HE2.out
  have hg2 := HG2.out
  have CE : Hid (∀ W G, Below (w.heap.size + 1 + 1) wc W → pcsAt W G [⟨some ⟨gx, ox, none⟩, a, c, (fl emE n.es).take (a * 2)⟩, ⟨some ⟨gb, 0, none⟩, 1, 1, emE mid⟩, ⟨VX, N - b, c - b, (fl emE n.es).drop (b * 2)⟩] → Pc.ok 2 W ⟨some ⟨gb, 0, none⟩, 1, 1, emE mid⟩ → Calls Tryz.prog 52 #[.slice (some ⟨G, 0, none⟩) 3 3] W fun en w' => CcN W 65 2 n1 (fl emE (n.es.take a ++ mid :: n.es.drop b)) en w') := fun W G hW hp ho => (ConcatEn G 3 _ W (by simp) hp (fun x hx => by
    simp only [List.mem_cons, List.not_mem_nil, or_false] at hx
    rcases hx with rfl | rfl | rfl
    ·exact X1.out.below (up W hW)
    ·exact ho
    ·exact X2.out.below (up W hW)) (by simp [sumN]; omega)).mono (fun en w' h => cc_nw h (by rw [hn1, List.length_append, List.length_cons, List.length_take, List.length_drop]; simp [sumN]; omega) (by simp [catX, fl_take emE_len, fl_drop emE_len, fl_app, fl_cons]))
  have CN : Hid (∀ W G, Below (w.heap.size + 1 + 1) wc W → pcsAt W G [⟨some ⟨gy, oy, none⟩, a, e, (fl hdE j).take (a * 2)⟩, ⟨some ⟨ga, 0, none⟩, 2, 2, [.slice la ka ca, .slice lb kb cb, .slice ra ja ea, .slice rb jb eb]⟩, ⟨VY, N - b, e - (b + 1), (fl hdE j).drop ((b + 1) * 2)⟩] → Pc.ok 2 W ⟨some ⟨ga, 0, none⟩, 2, 2, [.slice la ka ca, .slice lb kb cb, .slice ra ja ea, .slice rb jb eb]⟩ → Calls Tryz.prog 81 #[.slice (some ⟨G, 0, none⟩) 3 3] W fun en w' => CcN W 60 2 n2 (fl hdE (j.take a ++ (.slice la ka ca, .slice lb kb cb) :: (.slice ra ja ea, .slice rb jb eb) :: j.drop (b + 1))) en w') := fun W G hW hp ho => (ConcatNd G 3 _ W (by simp) hp (fun x hx => by
    simp only [List.mem_cons, List.not_mem_nil, or_false] at hx
    rcases hx with rfl | rfl | rfl
    ·exact Y1.out.below (up W hW)
    ·exact ho
    ·exact Y2.out.below (up W hW)) (by simp [sumN]; omega)).mono (fun en w' h => cc_nw h (by rw [hn2, List.length_append, List.length_cons, List.length_cons, List.length_take, List.length_drop]; simp [sumN]; omega) (by simp [catX, fl_take hdE_len, fl_drop hdE_len, fl_app, fl_cons, hdE]))
  have FIN : Hid (∀ W p1 c1 p2 c2, Below (w.heap.size + 1 + 1) wc W → Kept wc W → Nw wc W 65 2 (.slice p1 n1 c1) n1 (fl emE (n.es.take a ++ mid :: n.es.drop b)) → Nw wc W 60 2 (.slice p2 n2 c2) n2 (fl hdE (j.take a ++ (.slice la ka ca, .slice lb kb cb) :: (.slice ra ja ea, .slice rb jb eb) :: j.drop (b + 1))) → (n2 = 0 → p2 = none ∧ c2 = 0) → ∃ l m r, kid.halves = some (l, m, r) ∧ NdQ T w (d + 1) (n.with2 a (b + 1) l m r) (.returned (.agg #[.slice p1 n1 c1, .slice p2 n2 c2])) ((W.setCell ⟨(w.heap.size + 1 + 1), 0, none⟩ (.slice p1 n1 c1)).setCell ⟨(w.heap.size + 1 + 1), 1, none⟩ (.slice p2 n2 c2))) := fun W p1 c1 p2 c2 hW hF q1 q2 zz => by
   subst hn1 hn2
   have b1W : Below w1.heap.size w1 W := hwb.out.kept.trans (Below.mono hF hwb.out.kept.size)
   have km := KM.out
   refine ⟨L, mid, R, HHV.out, fin_node (wm := W) (by omega) (up W hW) (Below.refl _ _) (fun q hq => ?_) (((G6.out.take a).off (by omega)).below (up W hW) |>.app (KidsH.cons (x := (.slice la ka ca, .slice lb kb cb)) (HL.out.below b1W) (KidsH.cons (x := (.slice ra ja ea, .slice rb jb eb)) (HRR.out.below b1W) (((G6.out.drop (b + 1)).off (by omega)).below (up W hW))))) (fun e => by omega) (fun x hb => ⟨HTT.out x (by omega), by have := W0C.out.size; have := HBS.out; omega⟩) q1 q2 (fun e => by obtain ⟨rfl, rfl⟩ := zz e; rw [e])⟩
   have oo : ∀ q ∈ n.es, KeyOk (fun b => T b ∧ b ≠ (w.heap.size + 1 + 1)) W q := fun q hq => ((HEN.out q hq).off (by omega)).keeps (Keeps.of_below (up W hW))
   rcases List.mem_append.1 hq with hq | hq
   ·exact oo q (List.mem_of_mem_take hq)
   ·rcases List.mem_cons.1 hq with rfl | hq
    ·exact HMM.out.keeps (Keeps.of_below b1W)
    ·exact oo q (List.mem_of_mem_drop hq)
  clear hl he2 hg2 hn1 hn2 up hwb
  go_wp2_with fail
  refine wp_region_noPanic ?_
  refine wp_region_held_drew (S := fun w' : World => w'.cell? ⟨w.heap.size, 0, none⟩ = some (.slice (some ⟨gx, ox, none⟩) N c) ∧ w'.cell? ⟨w.heap.size, 1, none⟩ = some (.slice (some ⟨gy, oy, none⟩) (N + 1) e)) (by kernel_rfl) (KS.out _ (Below.refl _ _).drew) (fun hH => ?_)
  refine tKx (i := 0) (v := .pointer (some ⟨w.heap.size, 0, none⟩)) rfl rfl (by kernel_rfl) (fun _ _ _ h => h) ?_ hH ?_
  ·intro w5 hSw; obtain ⟨s0, s1⟩ := hSw; go_simp
  simp only [zA9, zB9, zC9]
  refine tKx (i := 1) (v := .slice (some ⟨gx, ox, none⟩) N c) rfl rfl (by kernel_rfl) (fun _ _ _ h => h) ?_ hH ?_
  ·intro w5 hSw; obtain ⟨s0, s1⟩ := hSw; go_simp
  simp only [zA9, zB9, zC9]
  refine tKx (i := 2) (v := .int .i64 ((a : Int))) rfl rfl (by kernel_rfl) (fun _ _ _ h => h) ?_ hH ?_
  ·intro w5 hSw; obtain ⟨s0, s1⟩ := hSw; go_simp
  simp only [zA9, zB9, zC9]
  refine tKx (i := 3) (v := .slice (some ⟨gx, ox, none⟩) a c) rfl rfl (by kernel_rfl) (fun _ _ _ h => h) ?_ hH ?_
  ·intro w5 hSw; obtain ⟨s0, s1⟩ := hSw; go_simp
  simp only [zA9, zB9, zC9]
  refine tKx (i := 4) (v := .slice (some ⟨gb, 0, none⟩) 1 1) rfl rfl (by kernel_rfl) (fun _ _ _ h => h) ?_ hH ?_
  ·intro w5 hSw; obtain ⟨s0, s1⟩ := hSw; go_simp
  simp only [zA9, zB9, zC9]
  refine tKx (i := 5) (v := .pointer (some ⟨w.heap.size, 0, none⟩)) rfl rfl (by kernel_rfl) (fun _ _ _ h => h) ?_ hH ?_
  ·intro w5 hSw; obtain ⟨s0, s1⟩ := hSw; go_simp
  simp only [zA9, zB9, zC9]
  refine tKx (i := 6) (v := .slice (some ⟨gx, ox, none⟩) N c) rfl rfl (by kernel_rfl) (fun _ _ _ h => h) ?_ hH ?_
  ·intro w5 hSw; obtain ⟨s0, s1⟩ := hSw; go_simp
  simp only [zA9, zB9, zC9]
  refine tKx (i := 7) (v := .int .i64 ((b : Int) + 1)) rfl rfl (by kernel_rfl) (fun _ _ _ h => h) ?_ hH ?_
  ·intro w5 hSw; obtain ⟨s0, s1⟩ := hSw; go_simp
  simp only [zA9, zB9, zC9]
  refine tKx (i := 8) (v := .int .i64 ((b : Int))) rfl rfl (by kernel_rfl) (fun _ _ _ h => h) ?_ hH ?_
  ·intro w5 hSw; obtain ⟨s0, s1⟩ := hSw; go_simp
  simp only [zA9, zB9, zC9]
  refine tKx (i := 9) (v := .slice VX (N - b) (c - b)) rfl rfl (by kernel_rfl) (fun _ _ _ h => h) ?_ hH ?_
  ·intro w5 hSw
   obtain ⟨s0, s1⟩ := hSw
   have hv := HVX.out
   by_cases hcb : c = b
   ·rw [if_pos hcb] at hv; rw [hv]; go_simp
   ·rw [if_neg hcb] at hv; rw [hv]; go_simp
  simp only [zA9, zB9, zC9]
  refine tKx (i := 12) (v := .pointer (some ⟨w.heap.size, 1, none⟩)) rfl rfl (by kernel_rfl) (fun _ _ _ h => h) ?_ hH ?_
  ·intro w5 hSw; obtain ⟨s0, s1⟩ := hSw; go_simp
  simp only [zA9, zB9, zC9]
  refine tKx (i := 13) (v := .slice (some ⟨gy, oy, none⟩) (N + 1) e) rfl rfl (by kernel_rfl) (fun _ _ _ h => h) ?_ hH ?_
  ·intro w5 hSw; obtain ⟨s0, s1⟩ := hSw; go_simp
  simp only [zA9, zB9, zC9]
  refine tKx (i := 14) (v := .int .i64 ((a : Int))) rfl rfl (by kernel_rfl) (fun _ _ _ h => h) ?_ hH ?_
  ·intro w5 hSw; obtain ⟨s0, s1⟩ := hSw; go_simp
  simp only [zA9, zB9, zC9]
  refine tKx (i := 15) (v := .slice (some ⟨gy, oy, none⟩) a e) rfl rfl (by kernel_rfl) (fun _ _ _ h => h) ?_ hH ?_
  ·intro w5 hSw; obtain ⟨s0, s1⟩ := hSw; go_simp
  simp only [zA9, zB9, zC9]
  refine tKx (i := 16) (v := .slice (some ⟨ga, 0, none⟩) 2 2) rfl rfl (by kernel_rfl) (fun _ _ _ h => h) ?_ hH ?_
  ·intro w5 hSw; obtain ⟨s0, s1⟩ := hSw; go_simp
  simp only [zA9, zB9, zC9]
  refine tKx (i := 17) (v := .pointer (some ⟨w.heap.size, 1, none⟩)) rfl rfl (by kernel_rfl) (fun _ _ _ h => h) ?_ hH ?_
  ·intro w5 hSw; obtain ⟨s0, s1⟩ := hSw; go_simp
  simp only [zA9, zB9, zC9]
  refine tKx (i := 18) (v := .slice (some ⟨gy, oy, none⟩) (N + 1) e) rfl rfl (by kernel_rfl) (fun _ _ _ h => h) ?_ hH ?_
  ·intro w5 hSw; obtain ⟨s0, s1⟩ := hSw; go_simp
  simp only [zA9, zB9, zC9]
  refine tKx (i := 19) (v := .int .i64 ((b : Int) + 1)) rfl rfl (by kernel_rfl) (fun _ _ _ h => h) ?_ hH ?_
  ·intro w5 hSw; obtain ⟨s0, s1⟩ := hSw; go_simp
  simp only [zA9, zB9, zC9]
  refine tKx (i := 20) (v := .slice VY (N - b) (e - (b + 1))) rfl rfl (by kernel_rfl) (fun _ _ _ h => h) ?_ hH ?_
  ·intro w5 hSw
   obtain ⟨s0, s1⟩ := hSw
   have hv := HVY.out
   by_cases hcb : e = b + 1
   ·rw [if_pos hcb] at hv; rw [hv]; go_simp
   ·rw [if_neg hcb] at hv; rw [hv]; go_simp
  simp only [zA9, zB9, zC9]
  have KB := mkHid ((Below.refl (w.heap.size + 1 + 1) wc).drew)
  replace PK := mkHid (PK.out.below (Below.refl _ wc).drew)
  replace PP := mkHid (PP.out.below (Below.refl _ wc).drew)
  replace KF := mkHid (KF.out.below (Below.refl _ wc).drew)
  replace RC := mkHid (show wc.drew.heap[(w.heap.size + 1 + 1)]? = _ from RC.out)
  generalize hW0 : wc.drew = W0 at KB PK PP KF RC hH ⊢
  refine wpAnyH_ready (rs := [10, 21]) (by kernel_rfl) (by simp) ?_
  refine AllReadyH.cons rfl (fun K hK => ?_) (AllReadyH.cons rfl (fun K hK => ?_) AllReadyH.nil)
  ·go_simp
   refine hK.out _ _ (KS.out _ (KB.out.alloc (Nat.le_trans KM.out KB.out.size) _)) (fun hH => ?_)
   clear hK K
   have hb := (Below.refl W0.heap.size W0).alloc (Nat.le_refl _) (.cells #[.slice (some ⟨gx, ox, none⟩) a c, .slice (some ⟨gb, 0, none⟩) 1 1, .slice VX (N - b) (c - b)] 57)
   replace PK := mkHid (PK.out.below hb)
   replace PP := mkHid (PP.out.below hb)
   replace KF := mkHid (KF.out.below hb)
   replace RC := mkHid ((hb.block _ (lt_of_heap RC.out)).trans RC.out)
   have P1 : Hid (pcsAt (W0.alloc (.cells #[.slice (some ⟨gx, ox, none⟩) a c, .slice (some ⟨gb, 0, none⟩) 1 1, .slice VX (N - b) (c - b)] 57)) W0.heap.size [⟨some ⟨gx, ox, none⟩, a, c, (fl emE n.es).take (a * 2)⟩, ⟨some ⟨gb, 0, none⟩, 1, 1, emE mid⟩, ⟨VX, N - b, c - b, (fl emE n.es).drop (b * 2)⟩]) := mkHid (pcs_new W0 [⟨some ⟨gx, ox, none⟩, a, c, (fl emE n.es).take (a * 2)⟩, ⟨some ⟨gb, 0, none⟩, 1, 1, emE mid⟩, ⟨VX, N - b, c - b, (fl emE n.es).drop (b * 2)⟩] 57)
   replace KB := mkHid (KB.out.trans (hb.mono (Nat.le_trans KM.out KB.out.size)))
   clear hb
   generalize W0.alloc (.cells #[.slice (some ⟨gx, ox, none⟩) a c, .slice (some ⟨gb, 0, none⟩) 1 1, .slice VX (N - b) (c - b)] 57) = W1 at KB PK PP KF P1 RC hH ⊢
   refine wpAnyH_ready (rs := [11, 21]) (by kernel_rfl) (by simp) ?_
   refine AllReadyH.cons rfl (fun K hK => ?_) (AllReadyH.cons rfl (fun K hK => ?_) AllReadyH.nil)
   ·go_simp
    go_at_call 52
    refine (CE.out _ _ KB.out P1.out PP.out).mono ?_
    rintro e W2 ⟨p1, c1, rfl, k1, _, hb⟩
    go_wp2_with fail
    refine hK.out _ _ (KS.out _ (KB.out.trans (hb.mono (Nat.le_trans KM.out KB.out.size)))) (fun hH => ?_)
    clear hK K
    clear P1
    clear PP
    replace PK := mkHid (PK.out.below hb)
    replace KF := mkHid (KF.out.below hb)
    replace RC := mkHid ((hb.block _ (lt_of_heap RC.out)).trans RC.out)
    have N1 := mkHid (k1.lower KB.out.size)
    replace KB := mkHid (KB.out.trans (hb.mono (Nat.le_trans KM.out KB.out.size)))
    clear hb
    refine wpAnyH_ready (rs := [21]) (by kernel_rfl) (by simp) ?_
    refine AllReadyH.cons rfl (fun K hK => ?_) AllReadyH.nil
    ·go_simp
     refine hK.out _ _ (KS.out _ (KB.out.alloc (Nat.le_trans KM.out KB.out.size) _)) (fun hH => ?_)
     clear hK K
     have hb := (Below.refl W2.heap.size W2).alloc (Nat.le_refl _) (.cells #[.slice (some ⟨gy, oy, none⟩) a e, .slice (some ⟨ga, 0, none⟩) 2 2, .slice VY (N - b) (e - (b + 1))] 58)
     replace PK := mkHid (PK.out.below hb)
     replace KF := mkHid (KF.out.below hb)
     replace N1 := mkHid (N1.out.below hb)
     replace RC := mkHid ((hb.block _ (lt_of_heap RC.out)).trans RC.out)
     have P2 : Hid (pcsAt (W2.alloc (.cells #[.slice (some ⟨gy, oy, none⟩) a e, .slice (some ⟨ga, 0, none⟩) 2 2, .slice VY (N - b) (e - (b + 1))] 58)) W2.heap.size [⟨some ⟨gy, oy, none⟩, a, e, (fl hdE j).take (a * 2)⟩, ⟨some ⟨ga, 0, none⟩, 2, 2, [.slice la ka ca, .slice lb kb cb, .slice ra ja ea, .slice rb jb eb]⟩, ⟨VY, N - b, e - (b + 1), (fl hdE j).drop ((b + 1) * 2)⟩]) := mkHid (pcs_new W2 [⟨some ⟨gy, oy, none⟩, a, e, (fl hdE j).take (a * 2)⟩, ⟨some ⟨ga, 0, none⟩, 2, 2, [.slice la ka ca, .slice lb kb cb, .slice ra ja ea, .slice rb jb eb]⟩, ⟨VY, N - b, e - (b + 1), (fl hdE j).drop ((b + 1) * 2)⟩] 58)
     replace KB := mkHid (KB.out.trans (hb.mono (Nat.le_trans KM.out KB.out.size)))
     clear hb
     generalize W2.alloc (.cells #[.slice (some ⟨gy, oy, none⟩) a e, .slice (some ⟨ga, 0, none⟩) 2 2, .slice VY (N - b) (e - (b + 1))] 58) = W3 at KB PK KF N1 P2 RC hH ⊢
     refine wpAnyH_ready (rs := [22]) (by kernel_rfl) (by simp) ?_
     refine AllReadyH.cons rfl (fun K hK => ?_) AllReadyH.nil
     ·go_simp
      go_at_call 81
      refine (CN.out _ _ KB.out P2.out PK.out).mono ?_
      rintro e W4 ⟨p2, c2, rfl, k2, z2, hb⟩
      go_wp2_with fail
      refine hK.out _ _ (KS.out _ (KB.out.trans (hb.mono (Nat.le_trans KM.out KB.out.size)))) (fun hH => ?_)
      clear hK K
      clear P2
      clear PK
      replace KF := mkHid (KF.out.below hb)
      replace N1 := mkHid (N1.out.below hb)
      replace RC := mkHid ((hb.block _ (lt_of_heap RC.out)).trans RC.out)
      have N2 := mkHid (k2.lower KB.out.size)
      replace KB := mkHid (KB.out.trans (hb.mono (Nat.le_trans KM.out KB.out.size)))
      clear hb
      refine tKx (i := 23) (v := .agg #[.slice p1 n1 c1, .slice p2 n2 c2]) rfl rfl (by kernel_rfl) (fun _ _ _ h => h) ?_ hH ?_
      ·intro w5 hSw; obtain ⟨s0, s1⟩ := hSw; go_simp
      simp only [zA9, zB9, zC9]
      refine wpAnyH_ready (rs := [24]) (by kernel_rfl) (by simp) ?_
      refine AllReadyH.cons rfl (fun K hK => ?_) AllReadyH.nil
      ·have q0 : W4.cell? ⟨(w.heap.size + 1 + 1), 0, none⟩ = some (.slice none 0 0) := (cell_of_block RC.out 0).trans rfl
       have q1 : W4.cell? ⟨(w.heap.size + 1 + 1), 1, none⟩ = some (.slice none 0 0) := (cell_of_block RC.out 1).trans rfl
       have y0 := unfrozen_of_block RC.out 0
       have y1 := unfrozen_of_block RC.out 1
       go_simp
       refine hK.out _ _ (KS.out _ (below_set (below_set KB.out ⟨(w.heap.size + 1 + 1), 0, none⟩ (.slice p1 n1 c1) (Nat.le_refl _)) ⟨(w.heap.size + 1 + 1), 1, none⟩ (.slice p2 n2 c2) (Nat.le_refl _))) (fun hH => ?_)
       clear hK K
       refine wpAnyH_done (by kernel_rfl) ?_ _
       refine NoPanic.normal ?_
       have FN := FIN.out W4 _ _ _ _ KB.out KF.out N1.out N2.out z2
       clear N1 N2 KB RC KS hH
       go_wp2_with fail
       refine bodyPost_ret (v := .agg #[.slice p1 n1 c1, .slice p2 n2 c2]) (by simp [results, Tryz.results53, go_sem, q0, q1]) rfl ?_
       exact FN
   ·go_simp
    refine hK.out _ _ (KS.out _ (KB.out.alloc (Nat.le_trans KM.out KB.out.size) _)) (fun hH => ?_)
    clear hK K
    have hb := (Below.refl W1.heap.size W1).alloc (Nat.le_refl _) (.cells #[.slice (some ⟨gy, oy, none⟩) a e, .slice (some ⟨ga, 0, none⟩) 2 2, .slice VY (N - b) (e - (b + 1))] 58)
    replace PK := mkHid (PK.out.below hb)
    replace PP := mkHid (PP.out.below hb)
    replace KF := mkHid (KF.out.below hb)
    replace P1 := mkHid (P1.out.below hb)
    replace RC := mkHid ((hb.block _ (lt_of_heap RC.out)).trans RC.out)
    have P2 : Hid (pcsAt (W1.alloc (.cells #[.slice (some ⟨gy, oy, none⟩) a e, .slice (some ⟨ga, 0, none⟩) 2 2, .slice VY (N - b) (e - (b + 1))] 58)) W1.heap.size [⟨some ⟨gy, oy, none⟩, a, e, (fl hdE j).take (a * 2)⟩, ⟨some ⟨ga, 0, none⟩, 2, 2, [.slice la ka ca, .slice lb kb cb, .slice ra ja ea, .slice rb jb eb]⟩, ⟨VY, N - b, e - (b + 1), (fl hdE j).drop ((b + 1) * 2)⟩]) := mkHid (pcs_new W1 [⟨some ⟨gy, oy, none⟩, a, e, (fl hdE j).take (a * 2)⟩, ⟨some ⟨ga, 0, none⟩, 2, 2, [.slice la ka ca, .slice lb kb cb, .slice ra ja ea, .slice rb jb eb]⟩, ⟨VY, N - b, e - (b + 1), (fl hdE j).drop ((b + 1) * 2)⟩] 58)
    replace KB := mkHid (KB.out.trans (hb.mono (Nat.le_trans KM.out KB.out.size)))
    clear hb
    generalize W1.alloc (.cells #[.slice (some ⟨gy, oy, none⟩) a e, .slice (some ⟨ga, 0, none⟩) 2 2, .slice VY (N - b) (e - (b + 1))] 58) = W2 at KB PK PP KF P1 P2 RC hH ⊢
    refine wpAnyH_ready (rs := [11]) (by kernel_rfl) (by simp) ?_
    refine AllReadyH.cons rfl (fun K hK => ?_) AllReadyH.nil
    ·go_simp
     go_at_call 52
     refine (CE.out _ _ KB.out P1.out PP.out).mono ?_
     rintro e W3 ⟨p1, c1, rfl, k1, _, hb⟩
     go_wp2_with fail
     refine hK.out _ _ (KS.out _ (KB.out.trans (hb.mono (Nat.le_trans KM.out KB.out.size)))) (fun hH => ?_)
     clear hK K
     clear P1
     clear PP
     replace PK := mkHid (PK.out.below hb)
     replace KF := mkHid (KF.out.below hb)
     replace P2 := mkHid (P2.out.below hb)
     replace RC := mkHid ((hb.block _ (lt_of_heap RC.out)).trans RC.out)
     have N1 := mkHid (k1.lower KB.out.size)
     replace KB := mkHid (KB.out.trans (hb.mono (Nat.le_trans KM.out KB.out.size)))
     clear hb
     refine wpAnyH_ready (rs := [22]) (by kernel_rfl) (by simp) ?_
     refine AllReadyH.cons rfl (fun K hK => ?_) AllReadyH.nil
     ·go_simp
      go_at_call 81
      refine (CN.out _ _ KB.out P2.out PK.out).mono ?_
      rintro e W4 ⟨p2, c2, rfl, k2, z2, hb⟩
      go_wp2_with fail
      refine hK.out _ _ (KS.out _ (KB.out.trans (hb.mono (Nat.le_trans KM.out KB.out.size)))) (fun hH => ?_)
      clear hK K
      clear P2
      clear PK
      replace KF := mkHid (KF.out.below hb)
      replace N1 := mkHid (N1.out.below hb)
      replace RC := mkHid ((hb.block _ (lt_of_heap RC.out)).trans RC.out)
      have N2 := mkHid (k2.lower KB.out.size)
      replace KB := mkHid (KB.out.trans (hb.mono (Nat.le_trans KM.out KB.out.size)))
      clear hb
      refine tKx (i := 23) (v := .agg #[.slice p1 n1 c1, .slice p2 n2 c2]) rfl rfl (by kernel_rfl) (fun _ _ _ h => h) ?_ hH ?_
      ·intro w5 hSw; obtain ⟨s0, s1⟩ := hSw; go_simp
      simp only [zA9, zB9, zC9]
      refine wpAnyH_ready (rs := [24]) (by kernel_rfl) (by simp) ?_
      refine AllReadyH.cons rfl (fun K hK => ?_) AllReadyH.nil
      ·have q0 : W4.cell? ⟨(w.heap.size + 1 + 1), 0, none⟩ = some (.slice none 0 0) := (cell_of_block RC.out 0).trans rfl
       have q1 : W4.cell? ⟨(w.heap.size + 1 + 1), 1, none⟩ = some (.slice none 0 0) := (cell_of_block RC.out 1).trans rfl
       have y0 := unfrozen_of_block RC.out 0
       have y1 := unfrozen_of_block RC.out 1
       go_simp
       refine hK.out _ _ (KS.out _ (below_set (below_set KB.out ⟨(w.heap.size + 1 + 1), 0, none⟩ (.slice p1 n1 c1) (Nat.le_refl _)) ⟨(w.heap.size + 1 + 1), 1, none⟩ (.slice p2 n2 c2) (Nat.le_refl _))) (fun hH => ?_)
       clear hK K
       refine wpAnyH_done (by kernel_rfl) ?_ _
       refine NoPanic.normal ?_
       have FN := FIN.out W4 _ _ _ _ KB.out KF.out N1.out N2.out z2
       clear N1 N2 KB RC KS hH
       go_wp2_with fail
       refine bodyPost_ret (v := .agg #[.slice p1 n1 c1, .slice p2 n2 c2]) (by simp [results, Tryz.results53, go_sem, q0, q1]) rfl ?_
       exact FN
  ·go_simp
   refine hK.out _ _ (KS.out _ (KB.out.alloc (Nat.le_trans KM.out KB.out.size) _)) (fun hH => ?_)
   clear hK K
   have hb := (Below.refl W0.heap.size W0).alloc (Nat.le_refl _) (.cells #[.slice (some ⟨gy, oy, none⟩) a e, .slice (some ⟨ga, 0, none⟩) 2 2, .slice VY (N - b) (e - (b + 1))] 58)
   replace PK := mkHid (PK.out.below hb)
   replace PP := mkHid (PP.out.below hb)
   replace KF := mkHid (KF.out.below hb)
   replace RC := mkHid ((hb.block _ (lt_of_heap RC.out)).trans RC.out)
   have P2 : Hid (pcsAt (W0.alloc (.cells #[.slice (some ⟨gy, oy, none⟩) a e, .slice (some ⟨ga, 0, none⟩) 2 2, .slice VY (N - b) (e - (b + 1))] 58)) W0.heap.size [⟨some ⟨gy, oy, none⟩, a, e, (fl hdE j).take (a * 2)⟩, ⟨some ⟨ga, 0, none⟩, 2, 2, [.slice la ka ca, .slice lb kb cb, .slice ra ja ea, .slice rb jb eb]⟩, ⟨VY, N - b, e - (b + 1), (fl hdE j).drop ((b + 1) * 2)⟩]) := mkHid (pcs_new W0 [⟨some ⟨gy, oy, none⟩, a, e, (fl hdE j).take (a * 2)⟩, ⟨some ⟨ga, 0, none⟩, 2, 2, [.slice la ka ca, .slice lb kb cb, .slice ra ja ea, .slice rb jb eb]⟩, ⟨VY, N - b, e - (b + 1), (fl hdE j).drop ((b + 1) * 2)⟩] 58)
   replace KB := mkHid (KB.out.trans (hb.mono (Nat.le_trans KM.out KB.out.size)))
   clear hb
   generalize W0.alloc (.cells #[.slice (some ⟨gy, oy, none⟩) a e, .slice (some ⟨ga, 0, none⟩) 2 2, .slice VY (N - b) (e - (b + 1))] 58) = W1 at KB PK PP KF P2 RC hH ⊢
   refine wpAnyH_ready (rs := [10]) (by kernel_rfl) (by simp) ?_
   refine AllReadyH.cons rfl (fun K hK => ?_) AllReadyH.nil
   ·go_simp
    refine hK.out _ _ (KS.out _ (KB.out.alloc (Nat.le_trans KM.out KB.out.size) _)) (fun hH => ?_)
    clear hK K
    have hb := (Below.refl W1.heap.size W1).alloc (Nat.le_refl _) (.cells #[.slice (some ⟨gx, ox, none⟩) a c, .slice (some ⟨gb, 0, none⟩) 1 1, .slice VX (N - b) (c - b)] 57)
    replace PK := mkHid (PK.out.below hb)
    replace PP := mkHid (PP.out.below hb)
    replace KF := mkHid (KF.out.below hb)
    replace P2 := mkHid (P2.out.below hb)
    replace RC := mkHid ((hb.block _ (lt_of_heap RC.out)).trans RC.out)
    have P1 : Hid (pcsAt (W1.alloc (.cells #[.slice (some ⟨gx, ox, none⟩) a c, .slice (some ⟨gb, 0, none⟩) 1 1, .slice VX (N - b) (c - b)] 57)) W1.heap.size [⟨some ⟨gx, ox, none⟩, a, c, (fl emE n.es).take (a * 2)⟩, ⟨some ⟨gb, 0, none⟩, 1, 1, emE mid⟩, ⟨VX, N - b, c - b, (fl emE n.es).drop (b * 2)⟩]) := mkHid (pcs_new W1 [⟨some ⟨gx, ox, none⟩, a, c, (fl emE n.es).take (a * 2)⟩, ⟨some ⟨gb, 0, none⟩, 1, 1, emE mid⟩, ⟨VX, N - b, c - b, (fl emE n.es).drop (b * 2)⟩] 57)
    replace KB := mkHid (KB.out.trans (hb.mono (Nat.le_trans KM.out KB.out.size)))
    clear hb
    generalize W1.alloc (.cells #[.slice (some ⟨gx, ox, none⟩) a c, .slice (some ⟨gb, 0, none⟩) 1 1, .slice VX (N - b) (c - b)] 57) = W2 at KB PK PP KF P2 P1 RC hH ⊢
    refine wpAnyH_ready (rs := [11]) (by kernel_rfl) (by simp) ?_
    refine AllReadyH.cons rfl (fun K hK => ?_) AllReadyH.nil
    ·go_simp
     go_at_call 52
     refine (CE.out _ _ KB.out P1.out PP.out).mono ?_
     rintro e W3 ⟨p1, c1, rfl, k1, _, hb⟩
     go_wp2_with fail
     refine hK.out _ _ (KS.out _ (KB.out.trans (hb.mono (Nat.le_trans KM.out KB.out.size)))) (fun hH => ?_)
     clear hK K
     clear P1
     clear PP
     replace PK := mkHid (PK.out.below hb)
     replace KF := mkHid (KF.out.below hb)
     replace P2 := mkHid (P2.out.below hb)
     replace RC := mkHid ((hb.block _ (lt_of_heap RC.out)).trans RC.out)
     have N1 := mkHid (k1.lower KB.out.size)
     replace KB := mkHid (KB.out.trans (hb.mono (Nat.le_trans KM.out KB.out.size)))
     clear hb
     refine wpAnyH_ready (rs := [22]) (by kernel_rfl) (by simp) ?_
     refine AllReadyH.cons rfl (fun K hK => ?_) AllReadyH.nil
     ·go_simp
      go_at_call 81
      refine (CN.out _ _ KB.out P2.out PK.out).mono ?_
      rintro e W4 ⟨p2, c2, rfl, k2, z2, hb⟩
      go_wp2_with fail
      refine hK.out _ _ (KS.out _ (KB.out.trans (hb.mono (Nat.le_trans KM.out KB.out.size)))) (fun hH => ?_)
      clear hK K
      clear P2
      clear PK
      replace KF := mkHid (KF.out.below hb)
      replace N1 := mkHid (N1.out.below hb)
      replace RC := mkHid ((hb.block _ (lt_of_heap RC.out)).trans RC.out)
      have N2 := mkHid (k2.lower KB.out.size)
      replace KB := mkHid (KB.out.trans (hb.mono (Nat.le_trans KM.out KB.out.size)))
      clear hb
      refine tKx (i := 23) (v := .agg #[.slice p1 n1 c1, .slice p2 n2 c2]) rfl rfl (by kernel_rfl) (fun _ _ _ h => h) ?_ hH ?_
      ·intro w5 hSw; obtain ⟨s0, s1⟩ := hSw; go_simp
      simp only [zA9, zB9, zC9]
      refine wpAnyH_ready (rs := [24]) (by kernel_rfl) (by simp) ?_
      refine AllReadyH.cons rfl (fun K hK => ?_) AllReadyH.nil
      ·have q0 : W4.cell? ⟨(w.heap.size + 1 + 1), 0, none⟩ = some (.slice none 0 0) := (cell_of_block RC.out 0).trans rfl
       have q1 : W4.cell? ⟨(w.heap.size + 1 + 1), 1, none⟩ = some (.slice none 0 0) := (cell_of_block RC.out 1).trans rfl
       have y0 := unfrozen_of_block RC.out 0
       have y1 := unfrozen_of_block RC.out 1
       go_simp
       refine hK.out _ _ (KS.out _ (below_set (below_set KB.out ⟨(w.heap.size + 1 + 1), 0, none⟩ (.slice p1 n1 c1) (Nat.le_refl _)) ⟨(w.heap.size + 1 + 1), 1, none⟩ (.slice p2 n2 c2) (Nat.le_refl _))) (fun hH => ?_)
       clear hK K
       refine wpAnyH_done (by kernel_rfl) ?_ _
       refine NoPanic.normal ?_
       have FN := FIN.out W4 _ _ _ _ KB.out KF.out N1.out N2.out z2
       clear N1 N2 KB RC KS hH
       go_wp2_with fail
       refine bodyPost_ret (v := .agg #[.slice p1 n1 c1, .slice p2 n2 c2]) (by simp [results, Tryz.results53, go_sem, q0, q1]) rfl ?_
       exact FN
end Go.Proofs.YtclcajnodoifjaaGreatDoor

