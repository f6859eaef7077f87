/-
 The walk of the law's goes, bounds at any place: backward.
-/
import Derived.Test.YtclcajnodoifjaaGreatDoorIAT
namespace Go.Proofs.YtclcajnodoifjaaGreatDoor
open Go.RowKit Go.Shelf Go.Joins Go.Maps
attribute [local go_sem] Oper.semAt_some
set_option maxRecDepth 100000

set_option maxHeartbeats 16000000 in
set_option maxRecDepth 1000000 in
theorem goes_back_off (T0 : Nat → Prop) (d l bt : Nat) (n : Nd Em) (p1 : Option Addr) (n1 c1 : Nat) (p2 : Option Addr) (n2 c2 : Nat) (P1 P2 : Option Addr) (C1 C2 : Nat) (low high : List Va) (li hi : Bool) (PD : Option Addr) (CD : Nat) (D : List Em) (stop : Int) (w : World) (hn : RtIn T0 w d l n (.slice p1 n1 c1) (.slice p2 n2 c2)) (k1 : w.cell? ⟨bt, 1, none⟩ = some (.slice p1 n1 c1)) (k2 : w.cell? ⟨bt, 2, none⟩ = some (.slice p2 n2 c2))
  (h1 : rowOff w P1 low) (h2 : rowOff w P2 high) (z1 : low.length ≤ 1000000000) (z2 : high.length ≤ 1000000000) (y1 : ∀ v ∈ low, fit v.n) (y2 : ∀ v ∈ high, fit v.n) (hD : rowT T0 w 54 2 (.slice PD D.length CD) D.length (fl emE D)) (hk : ∀ q ∈ D, KeyOk T0 w q) (zD : D.length ≤ 1000000) (ag : AgL (btw low high li hi n.fl) D) :
  Calls Tryz.prog 13 #[.pointer (some ⟨bt, 0, none⟩), .agg #[.slice P1 low.length C1, .slice P2 high.length C2, .bool li, .bool hi], .bool true, .slice PD D.length CD, .int .i64 stop] w fun e w' => e = .returned (.bool true) ∧ Below w.heap.size w w' := by
 refine callsIn_wide (n := 3) |>.1 ?_
 obtain ⟨L1, hL1⟩ : ∃ L1, L1 = low.length := ⟨_, rfl⟩
 obtain ⟨L2, hL2⟩ : ∃ L2, L2 = high.length := ⟨_, rfl⟩
 obtain ⟨N, hN⟩ : ∃ N, N = D.length := ⟨_, rfl⟩
 rw [← hL1, ← hL2, ← hN]
 obtain ⟨w0, hw0⟩ : ∃ w0, w0 = ((((w.alloc (.cells #[.slice P1 L1 C1, .slice P2 L2 C2, .bool li, .bool hi] 33)).alloc (.cells #[.bool true] 4)).alloc (.cells #[.slice PD N CD] 26)).alloc (.cells #[.int .i64 stop] 3)).alloc (.cells #[.bool false] 4) := ⟨_, rfl⟩
 obtain ⟨d0, d1, d2, d3, d4, bb, bs⟩ := bx5 w (.cells #[.slice P1 L1 C1, .slice P2 L2 C2, .bool li, .bool hi] 33) (.cells #[.bool true] 4) (.cells #[.slice PD N CD] 26) (.cells #[.int .i64 stop] 3) (.cells #[.bool false] 4)
 rw [← hw0] at d0 d1 d2 d3 d4 bb bs
 have BT : Hid (∀ W, Below w0.heap.size w0 W → Calls Tryz.prog 31 #[.agg #[.slice P1 L1 C1, .slice P2 L2 C2, .bool li, .bool hi]] W fun e w' => ∃ q1 e1 q2 e2, e = .returned (.agg #[.slice (some q1) L1 e1, .slice (some q2) L2 e2, .bool li, .bool hi]) ∧ RowF W w' (some q1) low ∧ RowF W w' (some q2) high ∧ Below W.heap.size W w') := fun W hW => by
  rw [hL1, hL2]
  exact bounds_off P1 P2 C1 C2 low high li hi W ((h1.below bb).below hW) ((h2.below bb).below hW) z1 z2
 have RG : Hid (∀ (W : World) (q1 : Addr) (e1 : Nat) (q2 : Addr) (e2 : Nat), rowAt W (some q1) low → rowAt W (some q2) high → Calls Tryz.prog 37 #[.pointer (some ⟨bt, 0, none⟩), .agg #[.slice (some q1) L1 e1, .slice (some q2) L2 e2, .bool li, .bool hi]] W fun e w' => RngQ 61 W bt low high li hi e w') := fun W q1 e1 q2 e2 g1 g2 => by
  rw [hL1, hL2]
  exact Back_any bt (some q1) (some q2) e1 e2 low high li hi W g1 g2 (fun h => by cases h) (fun h => by cases h) z1 z2
 have RGF : Hid (∀ (W : World) (q1 : Addr) (e1 : Nat) (q2 : Addr) (e2 : Nat), rowAt W (some q1) low → rowAt W (some q2) high → Calls Tryz.prog 17 #[.pointer (some ⟨bt, 0, none⟩), .agg #[.slice (some q1) L1 e1, .slice (some q2) L2 e2, .bool li, .bool hi]] W fun e w' => RngQ 40 W bt low high li hi e w') := fun W q1 e1 q2 e2 g1 g2 => by
  rw [hL1, hL2]
  exact Range_any bt (some q1) (some q2) e1 e2 low high li hi W g1 g2 (fun h => by cases h) (fun h => by cases h) z1 z2
 have a0 : w0.cell? ⟨w.heap.size, 0, none⟩ = some (.slice P1 L1 C1) := (cell_of_block d0 0).trans rfl
 have a1 : w0.cell? ⟨w.heap.size, 1, none⟩ = some (.slice P2 L2 C2) := (cell_of_block d0 1).trans rfl
 have a2 : w0.cell? ⟨w.heap.size, 2, none⟩ = some (.bool li) := (cell_of_block d0 2).trans rfl
 have a3 : w0.cell? ⟨w.heap.size, 3, none⟩ = some (.bool hi) := (cell_of_block d0 3).trans rfl
 obtain ⟨Tot, hTot⟩ : ∃ Tot, Tot = (btw low high li hi n.fl).reverse := ⟨_, rfl⟩
 obtain ⟨DL, hDL⟩ : ∃ DL, DL = D.reverse := ⟨_, rfl⟩
 have AG : Hid (AgL Tot DL) := by
  rw [hTot, hDL]
  exact agl_rev ag
 have DLL : Hid (DL.length = N) := mkHid (by rw [hDL, hN, List.length_reverse])
 have HDL := mkHid hDL
 have KS : Hid (∀ (W : World) (Y : Nat → Prop), Below w0.heap.size w0 W → (∀ b, Y b → w.heap.size ≤ b) → RtIn (fun b => ¬ Y b) W d l n (.slice p1 n1 c1) (.slice p2 n2 c2) ∧ rowT (fun b => ¬ Y b) W 54 2 (.slice PD N CD) D.length (fl emE D) ∧ (∀ q ∈ D, KeyOk (fun b => ¬ Y b) W q) ∧ W.cell? ⟨bt, 1, none⟩ = some (.slice p1 n1 c1) ∧ W.cell? ⟨bt, 2, none⟩ = some (.slice p2 n2 c2)) := fun W Y hb hy => by
  have kp : Keeps (fun b => ¬ Y b) w W := (Keeps.of_below bb).trans (Keeps.of_below hb)
  have up : ∀ b, b < w.heap.size → T0 b → ¬ Y b := fun b hb _ h => by have := hy b h; omega
  refine ⟨(hn.mono up).keeps kp, ?_, fun q hq => ((hk q hq).mono up).keeps kp, ((Keeps.of_below bb).trans (Keeps.of_below hb) : Keeps (fun _ => True) w W).cell trivial k1, ((Keeps.of_below bb).trans (Keeps.of_below hb) : Keeps (fun _ => True) w W).cell trivial k2⟩
  rw [hN]
  exact (hD.mono up).keeps kp
 have SE : Hid (∀ (w1 w2 W : World) (Y : Nat → Prop) (B1 B2 : Nat) (f1 f2 : Value), w.heap.size + 1 + 1 + 1 + 1 < w1.heap.size → Below w0.heap.size w0 W → Below w2.heap.size w2 W → (∀ b, Y b → w.heap.size ≤ b ∧ b < W.heap.size) → (∀ b, Y b → ¬ (w1.heap.size ≤ b ∧ b < w2.heap.size)) → BoxAt w1 w2 B1 (.cells #[.pointer (some ⟨bt, 0, none⟩)] 23 (0, 0)) → BoxAt w1 w2 B2 (.cells #[f1, f2] 72 (0, 0)) → SpnAt w1 w2 low high li hi f1 f2 → SeqX Tryz.prog 61 #[.pointer (some ⟨B1, 0, none⟩), .pointer (some ⟨B2, 0, none⟩)] hdV (hdK Y) hdP hdS (hdSp (Tot := Tot)) Tot.length W) := fun w1 w2 W Y B1 B2 f1 f2 hw1 hb hb2 hy hy2 x1 x2 sp => by
  obtain ⟨r1, _, _, c1', c2'⟩ := KS.out W Y hb (fun b h => (hy b h).1)
  obtain ⟨fl_, fh, ll, lh, rfl, rfl, so⟩ := sp.ok (T := fun b => ¬ Y b) (fun b hb1 hb2 h => hy2 b h ⟨hb1, hb2⟩) z1 z2 y1 y2
  exact back1_x (fun b => ¬ Y b) Y fl_ fh ll lh (loB low li) (hiB high hi) d l bt B1 B2 n p1 n1 c1 p2 n2 c2 Tot W hTot r1 (so.keeps (Keeps.of_below hb2)) (fun b h => (hy b h).2) (fun b h k => k h) c1' c2' ((hb2.block _ (lt_of_heap x1.2)).trans x1.2) ((hb2.block _ (lt_of_heap x2.2)).trans x2.2)
 have D2 := mkHid d2
 have D1 := mkHid d1
 have D3 := mkHid d3
 have D4 := mkHid d4
 have HTL : Hid (Tot.length = N) := AG.out.1.trans DLL.out
 have ZN : Hid (N ≤ 1000000) := by rw [hN]; exact zD
 have BB := mkHid bb
 have BS := mkHid bs
 have b7 : w0.cell? ⟨w.heap.size + 1, 0, none⟩ = some (.bool true) := (cell_of_block d1 0).trans rfl
 clear hn k1 k2 h1 h2 z1 z2 y1 y2 hD hk zD ag d0 d1 d2 d3 d4 hL1 hL2 hTot hDL hN bb bs
 have nef : ∀ (f : Fn) (x y : Array Value) w, (binOp .eql 51 (.func f x y) .nilFunc).run Tryz.prog w = .ok (.bool false) w := fun f x y w => by kernel_rfl
 refine callsIn_of_wp_marks Tryz.func13 rfl trivial ?_ rfl
 simp only [Tryz.ntmps13, List.size_toArray, List.length_cons, List.length_nil, Nat.reduceAdd, Nat.reduceSub, Array.replicate_succ, Array.replicate_zero, List.push_toArray, List.append_toArray, List.nil_append, List.cons_append]
 gi_wp2_with fail
 rw [← hw0]
 clear hw0
 refine ⟨trivial, (callsIn_wide.2 (BT.out w0 (Below.refl _ _))).mono ?_⟩
 rintro en w1 ⟨q1, e1, q2, e2, rfl, f1, f2, b1⟩
 gi_wp2_with fail
 refine ⟨trivial, (callsIn_wide.2 (RGF.out w1 q1 e1 q2 e2 f1.1 f2.1)).mono ?_⟩
 rintro en w2 ⟨B3, B4, g3, g4, rfl, _, _, _, b2⟩
 have k02 : Keeps (fun _ => True) w0 w2 := Keeps.of_below (b1.trans (b2.mono b1.size))
 have b7' : w2.cell? ⟨w.heap.size + 1, 0, none⟩ = some (.bool true) := k02.cell trivial b7
 have a0' := k02.cell trivial a0
 have a1' := k02.cell trivial a1
 have a2' := k02.cell trivial a2
 have a3' := k02.cell trivial a3
 clear k02
 gi_wp2_with fail
 refine ⟨trivial, (callsIn_wide.2 (BT.out w2 (b1.trans (b2.mono b1.size)))).mono ?_⟩
 rintro en w3 ⟨q3, e3, q4, e4, rfl, f3, f4, b3⟩
 gi_wp2_with fail
 refine ⟨trivial, (callsIn_wide.2 (RG.out w3 q3 e3 q4 e4 f3.1 f4.1)).mono ?_⟩
 rintro en w4 ⟨B1, B2, g1, g2, rfl, x1, x2, sp, b4⟩
 clear a0' a1' a2' a3'
 gi_wp2_with fail
 obtain ⟨w5, hw5⟩ : ∃ w5, w5 = w4.alloc (.cells #[.int .i64 0] 3) := ⟨_, rfl⟩
 rw [← hw5]
 have bF : Below w0.heap.size w0 w4 := (b1.trans (b2.mono b1.size)).trans ((b3.trans (b4.mono b3.size)).mono (Nat.le_trans b1.size b2.size))
 have b5 : Below w4.heap.size w4 w5 := by rw [hw5]; exact (Below.refl _ _).alloc (Nat.le_refl _) _
 have m5 : w5.heap[w4.heap.size]? = some (.cells #[.int .i64 0] 3 (0, 0)) := by rw [hw5]; exact heap_alloc_new _ _
 have b05 : Below w0.heap.size w0 w5 := bF.trans (b5.mono bF.size)
 have bw5 : Below w.heap.size w w5 := BB.out.trans (b05.mono BB.out.size)
 have sz0 := BS.out
 have szF := bF.size
 have szB : w0.heap.size ≤ w3.heap.size := Nat.le_trans b1.size (Nat.le_trans b2.size b3.size)
 have lt5 : w4.heap.size < w5.heap.size := lt_of_heap m5
 obtain ⟨Y, hY⟩ : ∃ Y : Nat → Prop, Y = fun b => b = w4.heap.size ∨ b = w.heap.size + 1 + 1 + 1 + 1 := ⟨_, rfl⟩
 have yb : ∀ b, Y b → w.heap.size ≤ b ∧ b < w5.heap.size := fun b h => by rw [hY] at h; rcases h with h | h <;> omega
 have SQ := mkHid (SE.out w3 w4 w5 Y B1 B2 g1 g2 (by omega) b05 b5 yb (fun b h k => by rw [hY] at h; rcases h with h | h <;> omega) x1 x2 sp)
 have i0 : GsI w w5 Y w4.heap.size 0 w5 := ⟨m5, (b05.block _ (lt_of_heap D4.out)).trans D4.out, Keeps.of_below (Below.refl _ _), bw5⟩
 have EN : Hid (∀ (A : World) (k : Nat), Keeps (fun b => ¬ Y b) w5 A → k < N → ∃ dm gx ox, D[k]? = some dm ∧ PD = some ⟨gx, ox, none⟩ ∧ A.cell? ⟨gx, ox + k * 2, none⟩ = some (.slice (some ⟨dm.g, 0, none⟩) dm.e.key.length dm.c) ∧ A.cell? ⟨gx, ox + k * 2 + 1, none⟩ = some (.int .u64 dm.e.id) ∧ KeyOk (fun b => ¬ Y b) A dm) := fun A k hA hkN => by
  obtain ⟨_, rD, kD, _, _⟩ := KS.out w5 Y b05 (fun b h => (yb b h).1)
  obtain ⟨dm, hdm⟩ : ∃ dm, D[k]? = some dm := ⟨_, List.getElem?_eq_getElem (by have := DLL.out; have := congrArg List.length HDL.out; rw [List.length_reverse] at this; omega)⟩
  obtain ⟨p', c', e1, _, e3, hc⟩ := (rD.keeps hA).form
  cases e1
  cases hP : PD with
  | none => have := (e3 hP).1; rw [this] at hkN; cases hkN
  | some ad =>
   obtain ⟨gx, ox, rfl, hg, hc⟩ := hc ad hP
   exact ⟨dm, gx, ox, hdm, rfl, hc _ _ ((fl_get emE_len D k dm 0 hdm (by omega)).trans rfl), (by rw [Nat.add_assoc]; exact hc _ _ ((fl_get emE_len D k dm 1 hdm (by omega)).trans rfl)), (kD dm (List.mem_of_getElem? hdm)).keeps hA⟩
 have OB : Hid (∀ A, Keeps (fun b => ¬ Y b) w5 A → A.cell? ⟨w.heap.size + 1, 0, none⟩ = some (.bool true) ∧ A.cell? ⟨w.heap.size + 1 + 1, 0, none⟩ = some (.slice PD N CD) ∧ A.cell? ⟨w.heap.size + 1 + 1 + 1, 0, none⟩ = some (.int .i64 stop)) := fun A hA => by
  have q : ∀ {i : Nat} {u : Value} {t : TypeId}, i < w.heap.size + 1 + 1 + 1 + 1 → w0.heap[i]? = some (.cells #[u] t (0, 0)) → A.cell? ⟨i, 0, none⟩ = some u := fun hi h => (cell_of_block (hA.2 _ _ _ _ (fun hy => by rw [hY] at hy; rcases hy with hy | hy <;> omega) ((b05.block _ (lt_of_heap h)).trans h)) 0).trans rfl
  exact ⟨q (by omega) D1.out, q (by omega) D2.out, q (by omega) D3.out⟩
 have YN : Hid (Y w4.heap.size) := by rw [hY]; exact Or.inl rfl
 have YG : Hid (∀ b, w5.heap.size ≤ b → ¬ Y b) := fun b h hy => by have := (yb b hy).2; omega
 have LN : Hid (w.heap.size + 1 + 1 + 1 + 1 < w0.heap.size ∧ w0.heap.size ≤ w4.heap.size ∧ w4.heap.size < w5.heap.size) := ⟨by omega, szF, lt5⟩
 clear hw5 b7 x1 x2 sp f1 f2 b1 b2 BT RG SE KS a0 a1 a2 a3 m5 b5 bF hY yb sz0 szF szB b7'
 obtain ⟨nb, hnb⟩ : ∃ nb, nb = w4.heap.size := ⟨_, rfl⟩
 rw [← hnb] at i0 YN LN lt5 ⊢
 clear hnb
 refine loop_x (gf := 61) (lb := #[.pointer (some ⟨B1, 0, none⟩), .pointer (some ⟨B2, 0, none⟩)]) rfl (enters_of Tryz.func61 (by kernel_rfl) rfl) SQ.out (fun x _ _ _ h k => Keeps.trans h k) (fun x W l o o' _ h1 h2 _ => keepsK_b h1 h2) (Below.refl _ _) (fun _ => rfl) (fun x => hdP_own x)
  (fun pre A => GsI w w5 Y nb pre.length A) (GsX w w5 Y nb Tot DL stop) (fun s X Z row hs hg hr => GsI.own bw5.size () X Z row hs hg hr) (GsX.own bw5.size) i0 ?acts ?assign ?body ?done ?stop
 case assign =>
  intro lr x A K hK
  have e : hdV x = #[.slice (some ⟨x.1.g, 0, none⟩) x.1.e.key.length x.1.c, .int .u64 x.1.e.id] := rfl
  rw [e]
  gi_wp2_with fail
  go_simp
  exact hK
 case body =>
  rintro lr pre x A hi hp hlt
  obtain ⟨hx, csx, hbx⟩ := hp
  have hkN : pre.length < N := by rw [HTL.out] at hlt; exact hlt
  obtain ⟨dm0, gx, ox, _, rfl, c00, c01, _⟩ := EN.out A pre.length hi.kp hkN
  obtain ⟨j1, hj1⟩ : ∃ j1, j1 = N - 1 := ⟨_, rfl⟩
  obtain ⟨j, hj⟩ : ∃ j, j = N - 1 - pre.length := ⟨_, rfl⟩
  obtain ⟨dm, gx', ox', hdm, hpd, c0, c1, hd⟩ := EN.out A j hi.kp (by omega)
  cases hpd
  have DLk : Hid (DL[pre.length]? = some dm) := by
   have hDN : D.length = N := by have := DLL.out; rw [HDL.out, List.length_reverse] at this; exact this
   rw [HDL.out, List.getElem?_reverse (by omega), hDN, ← hj]
   exact hdm
  have wr1 : IntKind.i64.wrap ((N : Int) - 1) = (j1 : Int) := by rw [IntKind.wrap_i64]; have := ZN.out; omega
  have wr2 : IntKind.i64.wrap ((j1 : Int) - (pre.length : Int)) = (j : Int) := by rw [IntKind.wrap_i64]; have := ZN.out; omega
  have ij : (j : Int) < (N : Int) := by omega
  have ij0 : (0 : Int) ≤ (j : Int) := by omega
  clear hj hj1
  obtain ⟨o1, o2, o3⟩ := OB.out A hi.kp
  have m0 : A.cell? ⟨nb, 0, none⟩ = some (.int .i64 (pre.length : Int)) := (cell_of_block hi.n 0).trans rfl
  have XB : Hid (∀ o, Below A.heap.size A (A.alloc o)) := fun o => (Below.refl _ A).alloc (Nat.le_refl _) o
  have c0' : ∀ o, (A.alloc o).cell? ⟨gx, ox + j * 2, none⟩ = some (.slice (some ⟨dm.g, 0, none⟩) dm.e.key.length dm.c) := fun o => (Keeps.of_below (XB.out o) : Keeps (fun _ => True) A (A.alloc o)).cell trivial c0
  have c1' : ∀ o, (A.alloc o).cell? ⟨gx, ox + j * 2 + 1, none⟩ = some (.int .u64 dm.e.id) := fun o => (Keeps.of_below (XB.out o) : Keeps (fun _ => True) A (A.alloc o)).cell trivial c1
  have o2' : ∀ o, (A.alloc o).cell? ⟨w.heap.size + 1 + 1, 0, none⟩ = some (.slice (some ⟨gx, ox, none⟩) N CD) := fun o => (Keeps.of_below (XB.out o) : Keeps (fun _ => True) A (A.alloc o)).cell trivial o2
  have m0' : ∀ o, (A.alloc o).cell? ⟨nb, 0, none⟩ = some (.int .i64 (pre.length : Int)) := fun o => (Keeps.of_below (XB.out o) : Keeps (fun _ => True) A (A.alloc o)).cell trivial m0
  have r0 : ∀ o, (A.alloc o).cell? ⟨w.heap.size + 1 + 1 + 1 + 1, 0, none⟩ = some (.bool false) := fun o => ((XB.out o).cell (p := ⟨w.heap.size + 1 + 1 + 1 + 1, 0, none⟩) (lt_of_heap hi.res)).trans ((cell_of_block hi.res 0).trans rfl)
  have rf : ∀ o, (A.alloc o).frozen? ⟨w.heap.size + 1 + 1 + 1 + 1, 0, none⟩ = false := fun o => unfrozen_of_block (((XB.out o).block _ (lt_of_heap hi.res)).trans hi.res) 0
  have o1' : ∀ o, (A.alloc o).cell? ⟨w.heap.size + 1, 0, none⟩ = some (.bool true) := fun o => (Keeps.of_below (XB.out o) : Keeps (fun _ => True) A (A.alloc o)).cell trivial o1
  have RW : Hid (∀ o, Calls Tryz.prog 18 #[.slice (some ⟨x.1.g, 0, none⟩) x.1.e.key.length x.1.c, .slice (some ⟨dm.g, 0, none⟩) dm.e.key.length dm.c] (A.alloc o) fun e w' => e = .returned (.int .i64 (rowsV x.1.e.key dm.e.key)) ∧ Below (A.alloc o).heap.size (A.alloc o) w') := fun o => refRows_any _ _ x.1.c dm.c x.1.e.key dm.e.key (A.alloc o) (by have := hx.few; omega) (Or.inr ⟨_, rfl, hx.vals.below (XB.out o)⟩) (Or.inr ⟨_, rfl, hd.vals.below (XB.out o)⟩) hx.fits hd.fits
  have BAD : Hid (∀ o v, ¬ Agr x.1.e dm.e → rdPost w5.heap.size (hdK Y x) (fun pre A => GsI w w5 Y nb pre.length A) (GsX w w5 Y nb Tot DL stop) (pre ++ [x]) A .ret v ((A.alloc o).setCell ⟨w.heap.size + 1 + 1 + 1 + 1, 0, none⟩ (.bool false))) := fun o v h => ⟨(below_keepsFrom (XB.out o)).trans ((KeepsOthers.setCell _ _ _).from _), Or.inl ⟨rfl, pre, x, dm, rfl, DLk.out, h⟩⟩
  have BAD2 : Hid (∀ o v W, Below (A.alloc o).heap.size (A.alloc o) W → ¬ Agr x.1.e dm.e → rdPost w5.heap.size (hdK Y x) (fun pre A => GsI w w5 Y nb pre.length A) (GsX w w5 Y nb Tot DL stop) (pre ++ [x]) A .ret v (W.setCell ⟨w.heap.size + 1 + 1 + 1 + 1, 0, none⟩ (.bool false))) := fun o v W hW h => ⟨((below_keepsFrom (XB.out o)).trans (below_keepsFrom hW)).trans ((KeepsOthers.setCell _ _ _).from _), Or.inl ⟨rfl, pre, x, dm, rfl, DLk.out, h⟩⟩
  have HI := mkHid hi
  have HX := mkHid hx
  have HBX := mkHid hbx
  have i1 : (pre.length : Int) < (N : Int) := by omega
  have i2 : (0 : Int) ≤ (pre.length : Int) := by omega
  have OBB := mkHid OB.out
  clear hi hx hbx hd hdm EN OB D1 D2 D3 D4 o1
  by_cases e1 : x.1.e.id = dm.e.id
  ·have hne : (x.1.e.id != dm.e.id) = false := by rw [bne_eq_false_iff_eq]; exact e1
   have E1 := mkHid e1
   clear e1
   have XA : Hid (∀ W1 : World, Below (A.alloc (.cells #[.slice (some ⟨dm.g, 0, none⟩) dm.e.key.length dm.c, .int .u64 dm.e.id] 54)).heap.size (A.alloc (.cells #[.slice (some ⟨dm.g, 0, none⟩) dm.e.key.length dm.c, .int .u64 dm.e.id] 54)) W1 → W1.cell? ⟨A.heap.size, 0, none⟩ = some (.slice (some ⟨dm.g, 0, none⟩) dm.e.key.length dm.c) ∧ Below A.heap.size A W1 ∧ W1.cell? ⟨w.heap.size + 1 + 1 + 1 + 1, 0, none⟩ = some (.bool false) ∧ W1.frozen? ⟨w.heap.size + 1 + 1 + 1 + 1, 0, none⟩ = false) := fun W1 hW => by
    have hb := (XB.out (.cells #[.slice (some ⟨dm.g, 0, none⟩) dm.e.key.length dm.c, .int .u64 dm.e.id] 54)).trans (hW.mono (XB.out _).size)
    have hr := (hb.block _ (lt_of_heap HI.out.res)).trans HI.out.res
    exact ⟨(cell_of_block ((hW.block _ (lt_of_heap (heap_alloc_new A _))).trans (heap_alloc_new A _)) 0).trans rfl, hb, (cell_of_block hr 0).trans rfl, unfrozen_of_block hr 0⟩
   by_cases e2 : rowsV x.1.e.key dm.e.key = 0
   ·rw [e2] at RW
    by_cases e3 : x.1.e.key.length = dm.e.key.length
    ·have hl : ((x.1.e.key.length : Int) != (dm.e.key.length : Int)) = false := by rw [bne_eq_false_iff_eq, e3]
     have AGR : Hid (Agr x.1.e dm.e) := ⟨E1.out, e2, e3⟩
     clear e2 e3 BAD BAD2
     gi_wp2_with fail
     refine ⟨trivial, rfl, (CallsIn.inRound lr (callsIn_wide.2 (RW.out _))).mono ?_⟩
     rintro en W1 ⟨rfl, bW⟩
     obtain ⟨u0, u1, u2, u3⟩ := XA.out W1 bW
     clear bW r0 rf o1' c0 c1
     gi_wp2_with fail
     have GL0 : Hid (GoL W1 x.1.g x.1.e.key.length W1) := ⟨Chg.refl _ _, csx, (u1.block _ (lt_of_heap HBX.out)).trans HBX.out, blk_size HX.out.vals HBX.out⟩
     have U1 := mkHid u1
     have hf : x.1.e.key.length ≤ 4 := HX.out.few
     obtain ⟨m, hm⟩ : ∃ m, m = x.1.e.key.length := ⟨_, rfl⟩
     rw [← hm] at GL0 hf hl ⊢
     clear hm u0 u1 u2 u3 XA RW m0 o3 o2 hl
     gi_loopw [16] (fun s16 wr => ∃ i : Nat, s16 = .int .i64 i ∧ i ≤ m ∧ Hid (GoL W1 x.1.g m wr)) (fun s16 _ => m - (intOf s16).toNat)
     case atStart => exact ⟨0, rfl, Nat.zero_le _, GL0⟩
     case round =>
      obtain ⟨i, rfl, him, hG⟩ := hrel
      clear GL0
      by_cases hlt : i < m
      ·obtain ⟨t0, ht0⟩ := hG.out.cell hlt (r := 0) (by omega)
       obtain ⟨t1, ht1⟩ := hG.out.cell hlt (r := 1) (by omega)
       obtain ⟨t2, ht2⟩ := hG.out.cell hlt (r := 2) (by omega)
       have hfr : ∀ o, wr.frozen? ⟨x.1.g, o, none⟩ = false := fun o => hG.out.fro
       have i3 : (i : Int) < (m : Int) := by omega
       rw [Nat.add_zero] at ht0
       have NX : Hid (∀ a b c, GoL W1 x.1.g m (((wr.setCell ⟨x.1.g, i * 3, none⟩ a).setCell ⟨x.1.g, i * 3 + 1, none⟩ b).setCell ⟨x.1.g, i * 3 + 2, none⟩ c)) := fun a b c => hG.out.set.set.set
       clear hG
       gi_wp2_with fail
       go_roundw
       case rel => exact ⟨i + 1, by go_num, hlt, NX.out _ _ _⟩
       case measure => simp [intOf]; omega
      ·obtain rfl : i = m := by omega
       obtain ⟨NX1, NX2, NX3⟩ := gs_next (B := w5.heap.size) HI.out U1.out hG.out HBX.out HX.out.own LN.out.2.2 (by have := LN.out; omega) YN.out
       have hG' := mkHid (hG.out.chg.at_ ((U1.out.block _ (lt_of_heap HI.out.n)).trans HI.out.n) (by have := HX.out.own; have := LN.out.2.2; omega))
       have n0 : wr.cell? ⟨nb, 0, none⟩ = some (.int .i64 (pre.length : Int)) := (cell_of_block hG'.out 0).trans rfl
       have nf0 := unfrozen_of_block hG'.out 0
       have o4 : (wr.setCell ⟨nb, 0, none⟩ (.int .i64 ((pre.length : Int) + 1))).cell? ⟨w.heap.size + 1 + 1 + 1, 0, none⟩ = some (.int .i64 stop) := (OBB.out _ NX1.kp).2.2
       have FX := mkHid NX1
       have FK := mkHid NX2
       have FY := mkHid NX3
       have wrp : IntKind.i64.wrap ((pre.length : Int) + 1) = (pre.length : Int) + 1 := by rw [IntKind.wrap_i64]; have := ZN.out; omega
       have LEN : Hid ((pre ++ [x]).length = pre.length + 1) := by simp [Hid]
       clear NX1 NX2 NX3 hG hG'
       by_cases hst : (pre.length : Int) + 1 = stop
       ·have hq : ((pre.length : Int) + 1 == stop) = true := by rw [beq_iff_eq]; exact hst
        have HS := mkHid hst
        clear hst
        gi_wp2_with fail
        refine ⟨FK.out, Or.inr ⟨rfl, ?_, ?_⟩⟩
        ·rw [LEN.out]; exact FX.out
        ·rw [LEN.out]; exact HS.out
       ·have hq : ((pre.length : Int) + 1 == stop) = false := by rw [beq_eq_false_iff_ne]; exact hst
        clear hst
        gi_wp2_with fail
        refine ⟨FK.out, FY.out, ?_⟩
        show GsI w w5 Y nb (pre ++ [x]).length _
        rw [LEN.out]
        exact FX.out
    ·have hl : ((x.1.e.key.length : Int) != (dm.e.key.length : Int)) = true := by rw [bne_iff_ne]; omega
     have E3 := mkHid e3
     clear e2 e3
     gi_wp2_with fail
     refine ⟨trivial, rfl, (CallsIn.inRound lr (callsIn_wide.2 (RW.out _))).mono ?_⟩
     rintro en W1 ⟨rfl, bW⟩
     obtain ⟨u0, u1, u2, u3⟩ := XA.out W1 bW
     have BD := mkHid (fun v => BAD2.out _ v W1 bW (fun h => E3.out h.2.2))
     clear bW r0 rf o1' c0 c1
     gi_wp2_with fail
     exact BD.out _
   ·have hR : (rowsV x.1.e.key dm.e.key != 0) = true := by rw [bne_iff_ne]; exact e2
    have E2 := mkHid e2
    clear e2
    gi_wp2_with fail
    refine ⟨trivial, rfl, (CallsIn.inRound lr (callsIn_wide.2 (RW.out _))).mono ?_⟩
    rintro en W1 ⟨rfl, bW⟩
    obtain ⟨u0, u1, u2, u3⟩ := XA.out W1 bW
    have BD := mkHid (fun v => BAD2.out _ v W1 bW (fun h => E2.out h.2.1))
    clear bW r0 rf o1' c0 c1
    gi_wp2_with fail
    exact BD.out _
  ·have hne : (x.1.e.id != dm.e.id) = true := by rw [bne_iff_ne]; exact e1
   have E1 := mkHid e1
   clear e1
   gi_wp2_with fail
   refine ⟨trivial, ?_⟩
   gi_wp2_with fail
   exact BAD.out _ _ (fun h => E1.out h.1)
 case done =>
  rintro D9 ys A hD9 hS hi hK
  have hl : ys.length = N := by have := congrArg List.length hS; simp [hdE_] at this; rw [this]; exact HTL.out
  rw [hl] at hi
  obtain ⟨o1, o2, o3⟩ := OB.out A hi.kp
  have m0 : A.cell? ⟨nb, 0, none⟩ = some (.int .i64 (N : Int)) := (cell_of_block hi.n 0).trans rfl
  have r0 : A.cell? ⟨w.heap.size + 1 + 1 + 1 + 1, 0, none⟩ = some (.bool false) := (cell_of_block hi.res 0).trans rfl
  have rf : A.frozen? ⟨w.heap.size + 1 + 1 + 1 + 1, 0, none⟩ = false := unfrozen_of_block hi.res 0
  have hB := hi.bl
  clear hi hS hl OB EN AG DLL HDL D1 D2 D3 D4 i0 SQ
  ·gi_wp2_with fail
   have hK' := (KeepsOthers.setCell A ⟨w.heap.size + 1 + 1 + 1 + 1, 0, none⟩ (.bool true)).same D9 _ hK rfl
   refine ⟨by simp, .inl ⟨_, _, rfl, run_takeDeferred hK', ?_⟩⟩
   have hc5 := cell_kept (World.cell?_setCell_same' A ⟨w.heap.size + 1 + 1 + 1 + 1, 0, none⟩ (.bool true) (by rw [r0]; rfl)) (grownBy_putObj' _ D9 (.deferred none)) (fun r e => by cases e; exact ⟨_, hK', rfl⟩)
   refine ⟨.bool true, ?_, rfl, (hB.setCell (p := ⟨w.heap.size + 1 + 1 + 1 + 1, 0, none⟩) (by show w.heap.size ≤ w.heap.size + 1 + 1 + 1 + 1; omega) _).trans (belowK_b (w := w) (Nat.le_refl _) _ D9 _ _ (Nat.le_trans bw5.size hD9) hK' rfl rfl)⟩
   simp [results, Tryz.f13, go_sem, hc5]
 case stop =>
  rintro D9 c pre A hD9 ⟨rest, hpre⟩ hix hK
  rcases hix with ⟨rfl, pre0, x, dd, rfl, hd, hna⟩ | ⟨rfl, hi, hst⟩
  ·exact absurd (GsX.not_ret hpre hd AG.out) hna
  obtain ⟨o1, o2, o3⟩ := OB.out A hi.kp
  have m0 : A.cell? ⟨nb, 0, none⟩ = some (.int .i64 stop) := (cell_of_block hi.n 0).trans (by rw [hst]; rfl)
  have r0 : A.cell? ⟨w.heap.size + 1 + 1 + 1 + 1, 0, none⟩ = some (.bool false) := (cell_of_block hi.res 0).trans rfl
  have rf : A.frozen? ⟨w.heap.size + 1 + 1 + 1 + 1, 0, none⟩ = false := unfrozen_of_block hi.res 0
  have hB := hi.bl
  clear hi hpre hst OB EN AG DLL HDL D1 D2 D3 D4 i0 SQ
  by_cases hq : stop = (N : Int)
  ·have hq1 : (stop == (N : Int)) = true := by rw [beq_iff_eq]; exact hq
   clear hq
   gi_wp2_with fail
   have hK' := (KeepsOthers.setCell A ⟨w.heap.size + 1 + 1 + 1 + 1, 0, none⟩ (.bool true)).same D9 _ hK rfl
   refine ⟨by simp, .inl ⟨_, _, rfl, run_takeDeferred hK', ?_⟩⟩
   have hc5 := cell_kept (World.cell?_setCell_same' A ⟨w.heap.size + 1 + 1 + 1 + 1, 0, none⟩ (.bool true) (by rw [r0]; rfl)) (grownBy_putObj' _ D9 (.deferred none)) (fun r e => by cases e; exact ⟨_, hK', rfl⟩)
   refine ⟨.bool true, ?_, rfl, (hB.setCell (p := ⟨w.heap.size + 1 + 1 + 1 + 1, 0, none⟩) (by show w.heap.size ≤ w.heap.size + 1 + 1 + 1 + 1; omega) _).trans (belowK_b (w := w) (Nat.le_refl _) _ D9 _ _ (Nat.le_trans bw5.size hD9) hK' rfl rfl)⟩
   simp [results, Tryz.f13, go_sem, hc5]
  ·have hq1 : (stop == (N : Int)) = false := by rw [beq_eq_false_iff_ne]; exact hq
   clear hq
   gi_wp2_with fail
   have hK' := (KeepsOthers.setCell A ⟨w.heap.size + 1 + 1 + 1 + 1, 0, none⟩ (.bool true)).same D9 _ hK rfl
   refine ⟨by simp, .inl ⟨_, _, rfl, run_takeDeferred hK', ?_⟩⟩
   have hc5 := cell_kept (World.cell?_setCell_same' A ⟨w.heap.size + 1 + 1 + 1 + 1, 0, none⟩ (.bool true) (by rw [r0]; rfl)) (grownBy_putObj' _ D9 (.deferred none)) (fun r e => by cases e; exact ⟨_, hK', rfl⟩)
   refine ⟨.bool true, ?_, rfl, (hB.setCell (p := ⟨w.heap.size + 1 + 1 + 1 + 1, 0, none⟩) (by show w.heap.size ≤ w.heap.size + 1 + 1 + 1 + 1; omega) _).trans (belowK_b (w := w) (Nat.le_refl _) _ D9 _ _ (Nat.le_trans bw5.size hD9) hK' rfl rfl)⟩
   simp [results, Tryz.f13, go_sem, hc5]
end Go.Proofs.YtclcajnodoifjaaGreatDoor

