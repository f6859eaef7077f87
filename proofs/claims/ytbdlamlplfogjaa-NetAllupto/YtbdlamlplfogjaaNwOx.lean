/-
  Walks: the document's net: a message sent, that goes.
-/
import Derived.Test.YtbdlamlplfogjaaGE
import Derived.Deep.RegionHeld3
namespace Go.Proofs.Ytbdlamlplfogjaa
open Go.RowKit Go.Maps Go.Joins
variable {Q : Nat → Prop} {w w' : World} {d : Nat} {S : St} {T : Nat → Nat → List ByteArray} {R : Lr}

theorem cell_drew (w : World) (a : Addr) : w.drew.cell? a = w.cell? a := rfl
set_option maxHeartbeats 4000000 in
set_option maxRecDepth 100000 in
theorem rSend_ok (h : RL Q w d S T R) {i j : Nat} (hs : isS S (i : Int) = true) (hj : j < S.N) {p : Option Addr} {l : List UInt8} {q : Nat} (ht : (S.wy i j).t ≤ (T i j).length) (hT : (T i j).length ≤ 5000000) (hby : byA w p l) (hnl : p = none → l.length = 0 ∧ q = 0) (hlen : l.length ≤ 65536) (hus : (S.wy i j).us = (T i j).drop (S.wy i j).t) (hun : (T i j).length - (S.wy i j).t < 4096) : Calls Try.prog 31 #[.pointer (some ⟨d, 0, none⟩), .int .i64 (i : Int), .int .i64 (j : Int), .slice p l.length q] w (REQ Q w d (sendS S i j ⟨l.toArray⟩) (upd2 T i j (T i j ++ [⟨l.toArray⟩])) 0) := by
  obtain ⟨i', hi', hi, _⟩ := isS_in hs
  obtain rfl : i = i' := by omega
  have H1 := mkHid (rNode_any h (j : Int))
  have H2 := mkHid (rIs_any h (i : Int))
  rw [decide_eq_true (show 0 ≤ (j : Int) ∧ (j : Int) < (S.N : Int) by omega)] at H1
  rw [hs] at H2
  obtain ⟨c0, c1, c2, c3, _⟩ := h.cs
  obtain ⟨y0, y1, y2, y3, y4, yf⟩ := h.ycell hi hj
  obtain ⟨ps, cs, he, _⟩ := (h.sr i j hi hj).form
  have i1 : (i : Int) < (S.N : Int) := by omega
  have i2 : (j : Int) < (S.N : Int) := by omega
  obtain ⟨x, hx⟩ : ∃ x : ByteArray, x = ⟨l.toArray⟩ := ⟨_, rfl⟩
  rw [← hx]
  have hxl : x.data.toList = l := by rw [hx]
  obtain ⟨TL, hTL⟩ : ∃ TL, TL = (T i j).length := ⟨_, rfl⟩
  rw [he, ← hTL] at y2
  have hd := h.pb _ h.qd
  have hyg := h.pb _ h.qy
  have hyb := h.pb _ (h.qr i hi)
  obtain ⟨w2, hw2⟩ : ∃ w2, w2 = w.alloc (.cells #[.int .u64 (((S.wy i j).b + 1 : Nat) : Int), .slice ps TL cs, .int .i64 ((S.wy i j).t : Int), .int .i64 ((S.wy i j).c : Int)] 108) := ⟨_, rfl⟩
  have g2 : w.grownBy w2 none := by rw [hw2]; exact grown_al (grown_refl _) _
  have s2 : w2.heap.size = w.heap.size + 1 := by rw [hw2]; simp
  have x2 : w2.heap[w.heap.size]? = some (.cells #[.int .u64 (((S.wy i j).b + 1 : Nat) : Int), .slice ps TL cs, .int .i64 ((S.wy i j).t : Int), .int .i64 ((S.wy i j).c : Int)] 108 (0, 0)) := by rw [hw2]; exact heap_alloc_new _ _
  have h2 := h.kept g2
  obtain ⟨p6, c6, W4, r1, gA, kA, ok, kk⟩ := (h2.sr i j hi hj).push' rwBs (by omega) (W := w2.alloc (.cells #[] 27)) (grown_al (grown_refl _) _) (B := w2.heap.size) (heap_alloc_new _ _) (Nat.le_refl _)
  obtain ⟨p2, c2', W6, r2, gB, hy2, kb2⟩ := bytes_lay (hby.kept (grown_al (grown_none_trans g2 gA) (.cells #[] 5))) hnl (by omega) (B := W4.heap.size) (heap_alloc_new _ _)
  have gC : W4.grownBy W6 none := grown_new (grown_al (grown_refl W4) (.cells #[] 5)) gB (fun g hg => by cases hg; exact Nat.le_refl _)
  obtain ⟨p9, c9, W8, r3, gD, kD, gE, kr⟩ := kk (W6.alloc (.cells #[.slice p2 l.length c2'] 27)) W6.heap.size [.slice p2 l.length c2'] rfl (by intro u hu; simp at hu; rw [hu]; rfl) (grown_al gC _) (heap_alloc_new _ _)
  have nob : ∀ a, p2 = some a → ¬ (Value.slice p6 (T i j).length c6).ownBlock = some a.block := fun a ha e => by
    obtain ⟨k1, k2⟩ := ok _ e
    have k3 := (kb2 a ha).2.2
    have k4 : kd W6 a.block = kd W4 a.block := kd_same (gC.block _ k2 (by simp))
    rw [k4, k1] at k3; simp at k3
  have gF : Chg (fun b => (Value.slice p6 (T i j).length c6).ownBlock = some b) W6 W8 := (Chg.of_none (grown_al (grown_refl W6) (.cells #[.slice p2 l.length c2'] 27)) _).trans (Chg.of_grown gE)
  have hby8 : byV W8 (ext Q w2 W8) (.slice p2 l.length c2') x := by
    refine ⟨p2, c2', by rw [hxl], by rw [hxl]; exact hy2.chg gF (fun a ha => nob a ha), fun a ha => ⟨ext_new ?_ ?_, ?_⟩⟩
    · rcases (kb2 a ha).1 with e | e
      · rw [e]; exact gA.size
      · exact Nat.le_trans gA.size (Nat.le_trans (by simp) e)
    · exact Nat.lt_of_lt_of_le (kb2 a ha).2.1 gF.size
    · rw [← (kb2 a ha).2.2]; exact kd_same (gF.block _ (kb2 a ha).2.1 (nob a ha))
  have H8 := h2.away (Q' := ext Q w2 W8) (Chg.of_none gD (fun _ => False)) (fun _ _ e => e) (fun _ => ext_le) (ext_pb h2.pb gD.size)
  have R8 := kr (ext Q w2 W8) (fun x h1 h2 => ext_new h1 h2) (snR W8 (ext Q w2 W8) (T i j ++ [x])) (fun k ys hk hr m hm => by
    rw [List.getElem?_append_left hk] at hm
    obtain ⟨bv', e, hv'⟩ := hr m hm
    exact ⟨bv', e, hv'.kept h2.pb gD (fun _ => ext_le)⟩) (fun m hm => by
    rw [List.getElem?_append_right (Nat.le_refl _), Nat.sub_self] at hm
    cases hm
    exact ⟨_, rfl, hby8⟩)
  have b8 : W8.heap[w.heap.size]? = some (.cells #[.int .u64 (((S.wy i j).b + 1 : Nat) : Int), .slice ps TL cs, .int .i64 ((S.wy i j).t : Int), .int .i64 ((S.wy i j).c : Int)] 108 (0, 0)) := box_keep x2 gD (by simp)
  have nbx : ∀ x, ext Q w2 W8 x → ¬ x = w.heap.size := fun y hy e => by
    rcases hy with e1 | e1
    · have := h.pb y e1; omega
    · omega
  have CB := Chg.of_cell W8 ⟨w.heap.size, 1, none⟩ (.slice p9 ((T i j).length + 1) c9)
  have H9 := H8.away (Q' := ext Q w2 W8) CB (fun y hy e => nbx y hy e) (fun _ e => e) (fun y hy => by rw [World.size_setCell]; exact H8.pb y hy)
  have R9 := R8.mv (R2 := snR (W8.setCell ⟨w.heap.size, 1, none⟩ (.slice p9 ((T i j).length + 1) c9)) (ext Q w2 W8) (T i j ++ [x])) CB (fun y _ hy e => nbx y hy e) (fun _ e => e) (fun k ys _ hr m hm => by
    obtain ⟨bv', e, hv'⟩ := hr m hm
    exact ⟨bv', e, hv'.mv CB (fun y _ hy e => nbx y hy e) H8.pb (fun _ e => e)⟩)
  have H10 := H9.setY hi hj (sentW S i j x) (l := T i j ++ [x]) (v := .slice p9 ((T i j).length + 1) c9) (by rw [show (T i j ++ [x]).length = (T i j).length + 1 by simp]; exact R9)
  have hun2 : (S.wy i j).us.length = (T i j).length - (S.wy i j).t := by rw [hus, List.length_drop]
  have CW := setW_chg (W8.setCell ⟨w.heap.size, 1, none⟩ (.slice p9 ((T i j).length + 1) c9)) (R.yb i) j (.int .u64 (((S.wy i j).b + 1 : Nat) : Int)) (.slice p9 ((T i j).length + 1) c9) (.int .i64 ((S.wy i j).t : Int)) (.int .i64 ((S.wy i j).c : Int))
  have MSG : Hid (∀ W, (setW (W8.setCell ⟨w.heap.size, 1, none⟩ (.slice p9 ((T i j).length + 1) c9)) (R.yb i) j (.int .u64 (((S.wy i j).b + 1 : Nat) : Int)) (.slice p9 ((T i j).length + 1) c9) (.int .i64 ((S.wy i j).t : Int)) (.int .i64 ((S.wy i j).c : Int))).grownBy W none → Calls Try.prog 56 #[.pointer (some ⟨d, 0, none⟩), .int .i64 (i : Int), .int .i64 (j : Int), .int .i64 (((T i j).length + 1 : Nat) : Int)] W fun e w' => e = .returned (.tuple #[]) ∧ RU Q w d (sendS S i j x) (upd2 T i j (T i j ++ [x])) w') := fun W gW => by
    refine (rMessage_any (H10.kept gW) hi hj (k := (T i j).length) (x := x) (by rw [upd2_same, List.getElem?_append_right (Nat.le_refl _), Nat.sub_self]; rfl) (by omega)).mono ?_
    rintro e w5 ⟨rfl, U⟩
    refine ⟨rfl, ?_⟩
    have e1 : flyS { S with wy := upd2 S.wy i j (sentW S i j x) } ⟨i, j, false, (T i j).length + 1, (upd2 S.wy i j (sentW S i j x) i j).b + 1, x⟩ = sendS S i j x := by
      unfold sendS sentP
      rw [upd2_same]
      have e2 : (T i j).length + 1 = (S.wy i j).t + ((S.wy i j).us.length + 1) := by omega
      rw [e2]; rfl
    have U2 := U.base H10.pb gW
    rw [e1] at U2
    have C1 : Chg (hbq Q w) w W8 := Chg.of_none (grown_none_trans g2 gD) _
    have C2 := Chg.then_new C1 (CB.mono (T := fun y => w.heap.size ≤ y) (fun y _ e => by have e : y = w.heap.size := e; omega))
    have C3 := C2.trans (CW.mono (T := hbq Q w) (fun y _ e => by have e : y = R.yb i := e; rw [e]; exact ⟨h.qr i hi, by rw [h.kb.2.2.2.2 i hi]; decide⟩))
    refine U2.then h.pb C3 (fun y hy => ?_)
    rcases hy with e | e
    · exact Or.inl e
    · exact Or.inr ⟨by omega, Nat.lt_of_lt_of_le e.2 (Nat.le_trans CB.size CW.size)⟩
  have hne : R.yb i ≠ w.heap.size := by omega
  obtain ⟨k1, k2, k3, k4, k5⟩ := h.kb
  have nd : d ≠ R.yb i := fun e => by rw [e, k5 i hi] at k1; simp at k1
  have ny : R.yg ≠ R.yb i := fun e => by rw [e, k5 i hi] at k3; simp at k3
  have q1 : W8.cell? ⟨d, 1, none⟩ = some (.slice (some ⟨R.yg, 0, none⟩) S.N R.yc) := gD.cell (g2.cell c1 (by simp)) (by simp)
  have q2 : W8.cell? ⟨R.yg, i, none⟩ = some (.slice (some ⟨R.yb i, 0, none⟩) S.N (R.yk i)) := gD.cell (g2.cell y0 (by simp)) (by simp)
  have b9 : (W8.setCell ⟨w.heap.size, 1, none⟩ (.slice p9 ((T i j).length + 1) c9)).heap[w.heap.size]? = some (.cells #[.int .u64 (((S.wy i j).b + 1 : Nat) : Int), .slice p9 ((T i j).length + 1) c9, .int .i64 ((S.wy i j).t : Int), .int .i64 ((S.wy i j).c : Int)] 108 (0, 0)) := (block_setCell b8 _).trans rfl
  have K9 : Hid ((fun w' : World => w'.cell? ⟨d, 1, none⟩ = some (.slice (some ⟨R.yg, 0, none⟩) S.N R.yc) ∧ w'.cell? ⟨R.yg, i, none⟩ = some (.slice (some ⟨R.yb i, 0, none⟩) S.N (R.yk i)) ∧ w'.cell? ⟨w.heap.size, 0, none⟩ = some (.int .u64 (((S.wy i j).b + 1 : Nat) : Int)) ∧ w'.cell? ⟨w.heap.size, 1, none⟩ = some (.slice p9 (TL + 1) c9) ∧ w'.cell? ⟨w.heap.size, 2, none⟩ = some (.int .i64 ((S.wy i j).t : Int)) ∧ w'.cell? ⟨w.heap.size, 3, none⟩ = some (.int .i64 ((S.wy i j).c : Int))) (W8.setCell ⟨w.heap.size, 1, none⟩ (.slice p9 ((T i j).length + 1) c9))) := by
    rw [hTL]
    obtain ⟨a0, a1, a2, a3, _⟩ := cells4 b9
    exact ⟨nSt1 (by omega) q1, nSt1 (by omega) q2, a0, a1, a2, a3⟩
  have b10 := CW.at_ b9 (fun e => hne (show w.heap.size = R.yb i from e).symm)
  have K10 : Hid ((fun w' : World => w'.cell? ⟨d, 1, none⟩ = some (.slice (some ⟨R.yg, 0, none⟩) S.N R.yc) ∧ w'.cell? ⟨R.yg, i, none⟩ = some (.slice (some ⟨R.yb i, 0, none⟩) S.N (R.yk i)) ∧ w'.cell? ⟨w.heap.size, 0, none⟩ = some (.int .u64 (((S.wy i j).b + 1 : Nat) : Int)) ∧ w'.cell? ⟨w.heap.size, 1, none⟩ = some (.slice p9 (TL + 1) c9) ∧ w'.cell? ⟨w.heap.size, 2, none⟩ = some (.int .i64 ((S.wy i j).t : Int)) ∧ w'.cell? ⟨w.heap.size, 3, none⟩ = some (.int .i64 ((S.wy i j).c : Int))) (setW (W8.setCell ⟨w.heap.size, 1, none⟩ (.slice p9 ((T i j).length + 1) c9)) (R.yb i) j (.int .u64 (((S.wy i j).b + 1 : Nat) : Int)) (.slice p9 ((T i j).length + 1) c9) (.int .i64 ((S.wy i j).t : Int)) (.int .i64 ((S.wy i j).c : Int)))) := by
    rw [hTL]
    obtain ⟨a0, a1, a2, a3, _⟩ := cells4 b10
    exact ⟨nSt1 nd (nSt1 nd (nSt1 nd (nSt1 nd K9.out.1))), nSt1 ny (nSt1 ny (nSt1 ny (nSt1 ny K9.out.2.1))), a0, a1, a2, a3⟩
  obtain ⟨e0, e1, e2, e3, ef⟩ := cells4 b8
  have ef1 := ef 1
  obtain ⟨z0, z1, z2, z3, z4, zf⟩ := (H9.ycell hi hj)
  have f0 := zf (j * 4)
  have f1 := zf (j * 4 + 1)
  have f2 := zf (j * 4 + 2)
  have f3 := zf (j * 4 + 3)
  have xb3 : (w2.alloc (.cells #[] 27)).cell? ⟨w.heap.size, 1, none⟩ = some (.slice ps TL cs) := (cell_of_block (box_keep x2 (grown_al (grown_refl w2) _) (by simp)) 1).trans rfl
  unfold setW at K10 MSG
  rw [← hTL] at K9 K10 MSG r1 r3 ht hT hun hun2 z0 z1 z2 z3 z4 f0 f1 f2 f3
  rw [he, ← hTL] at r1 z2
  rw [s2] at r1
  have i3 : IntKind.i64.wrap ((TL : Int) - ((S.wy i j).t : Int)) = (TL : Int) - ((S.wy i j).t : Int) := by rw [IntKind.wrap_i64]; omega
  have i4 : ¬ (65536 : Int) < (l.length : Int) := by omega
  have i5 : ¬ (4096 : Int) ≤ (TL : Int) - ((S.wy i j).t : Int) := by omega
  have ZF := mkHid (And.intro z1 (And.intro z2 (And.intro z3 (And.intro z4 (And.intro f0 (And.intro f1 (And.intro f2 f3)))))))
  subst hw2
  clear h h2 hs he hTL kk kr kA ok gA gB gC gD gE gF kD hy2 kb2 nob hby8 H8 R8 H9 R9 H10 b8 b9 b10 nbx CB CW hby hnl hus hx hxl x2 g2 s2 ef zf yf k1 k2 k3 k4 k5 q1 q2 e0 e2 e3 z0 z1 z2 z3 z4 f0 f1 f2 f3 hne nd ny hun hun2 c0 c2 c3 hd hyg hyb ht hT hlen hi hj hi'
  go_enter Try.func31, Try.ntmps31
  go_wp2_with fail
  refine H1.out.mono ?_
  rintro e w1 ⟨rfl, hwx⟩; have hwx2 := hwx.symm; subst hwx2; clear hwx
  go_wp2_with fail
  refine H2.out.mono ?_
  rintro e w1 ⟨rfl, hwx⟩; have hwx2 := hwx.symm; subst hwx2; clear hwx
  go_wp2_with (first | (at_builtin; refine wp_app 106 rfl (.tmp 42) (.tmp 44) rfl rfl rfl r1 ?_) | (at_builtin; refine wp_app 27 rfl (.tmp 46) (.tmp 47) rfl rfl rfl r2 ?_) | (at_builtin; refine wp_app 106 rfl (.tmp 45) (.tmp 49) rfl rfl rfl r3 ?_) | fail)
  obtain ⟨z1, z2, z3, z4, f0, f1, f2, f3⟩ := ZF.out
  have K9d : Hid ((fun w' : World => w'.cell? ⟨d, 1, none⟩ = some (.slice (some ⟨R.yg, 0, none⟩) S.N R.yc) ∧ w'.cell? ⟨R.yg, i, none⟩ = some (.slice (some ⟨R.yb i, 0, none⟩) S.N (R.yk i)) ∧ w'.cell? ⟨w.heap.size, 0, none⟩ = some (.int .u64 (((S.wy i j).b + 1 : Nat) : Int)) ∧ w'.cell? ⟨w.heap.size, 1, none⟩ = some (.slice p9 (TL + 1) c9) ∧ w'.cell? ⟨w.heap.size, 2, none⟩ = some (.int .i64 ((S.wy i j).t : Int)) ∧ w'.cell? ⟨w.heap.size, 3, none⟩ = some (.int .i64 ((S.wy i j).c : Int))) (W8.setCell ⟨w.heap.size, 1, none⟩ (.slice p9 (TL + 1) c9)).drew) := K9.out
  have ecast : (((S.wy i j).b + 1 : Nat) : Int) = ((S.wy i j).b : Int) + 1 := rfl
  have K10d : Hid ((fun w' : World => w'.cell? ⟨d, 1, none⟩ = some (.slice (some ⟨R.yg, 0, none⟩) S.N R.yc) ∧ w'.cell? ⟨R.yg, i, none⟩ = some (.slice (some ⟨R.yb i, 0, none⟩) S.N (R.yk i)) ∧ w'.cell? ⟨w.heap.size, 0, none⟩ = some (.int .u64 (((S.wy i j).b + 1 : Nat) : Int)) ∧ w'.cell? ⟨w.heap.size, 1, none⟩ = some (.slice p9 (TL + 1) c9) ∧ w'.cell? ⟨w.heap.size, 2, none⟩ = some (.int .i64 ((S.wy i j).t : Int)) ∧ w'.cell? ⟨w.heap.size, 3, none⟩ = some (.int .i64 ((S.wy i j).c : Int))) (((((W8.setCell ⟨w.heap.size, 1, none⟩ (.slice p9 (TL + 1) c9)).setCell ⟨R.yb i, j * 4, none⟩ (.int .u64 (((S.wy i j).b : Int) + 1))).setCell ⟨R.yb i, j * 4 + 1, none⟩ (.slice p9 (TL + 1) c9)).setCell ⟨R.yb i, j * 4 + 2, none⟩ (.int .i64 ((S.wy i j).t : Int))).setCell ⟨R.yb i, j * 4 + 3, none⟩ (.int .i64 ((S.wy i j).c : Int))).drew) := by
    rw [← ecast]
    obtain ⟨a0, a1, a2, a3, a4, a5⟩ := K10.out
    exact ⟨(cell_drew _ _).trans a0, (cell_drew _ _).trans a1, (cell_drew _ _).trans a2, (cell_drew _ _).trans a3, (cell_drew _ _).trans a4, (cell_drew _ _).trans a5⟩
  have MSGd : Hid (Calls Try.prog 56 #[.pointer (some ⟨d, 0, none⟩), .int .i64 (i : Int), .int .i64 (j : Int), .int .i64 ((TL + 1 : Nat) : Int)] (((((W8.setCell ⟨w.heap.size, 1, none⟩ (.slice p9 (TL + 1) c9)).setCell ⟨R.yb i, j * 4, none⟩ (.int .u64 (((S.wy i j).b : Int) + 1))).setCell ⟨R.yb i, j * 4 + 1, none⟩ (.slice p9 (TL + 1) c9)).setCell ⟨R.yb i, j * 4 + 2, none⟩ (.int .i64 ((S.wy i j).t : Int))).setCell ⟨R.yb i, j * 4 + 3, none⟩ (.int .i64 ((S.wy i j).c : Int))).drew fun e w' => e = .returned (.tuple #[]) ∧ RU Q w d (sendS S i j x) (upd2 T i j (T i j ++ [x])) w') := by
    rw [← ecast]; exact MSG.out _ (grown_drew (grown_refl _))
  clear r1 r2 r3 xb3 e1 ef1 ecast MSG K9 K10
  go_region_held3 (fun w' : World => w'.cell? ⟨d, 1, none⟩ = some (.slice (some ⟨R.yg, 0, none⟩) S.N R.yc) ∧ w'.cell? ⟨R.yg, i, none⟩ = some (.slice (some ⟨R.yb i, 0, none⟩) S.N (R.yk i)) ∧ w'.cell? ⟨w.heap.size, 0, none⟩ = some (.int .u64 (((S.wy i j).b + 1 : Nat) : Int)) ∧ w'.cell? ⟨w.heap.size, 1, none⟩ = some (.slice p9 (TL + 1) c9) ∧ w'.cell? ⟨w.heap.size, 2, none⟩ = some (.int .i64 ((S.wy i j).t : Int)) ∧ w'.cell? ⟨w.heap.size, 3, none⟩ = some (.int .i64 ((S.wy i j).c : Int))) (first | with_reducible exact K9d.out | with_reducible exact K10d.out) (fail)
  obtain ⟨a10, a11, a12, a13, a14, a15⟩ := K10d.out
  clear z1 z2 z3 z4 f0 f1 f2 f3
  go_wp2_with fail
  refine MSGd.out.mono ?_
  rintro e w5 ⟨rfl, u5⟩
  have U5 := mkHid u5
  clear u5
  go_wp2_with fail
  go_ret
  exact ⟨rfl, U5.out⟩
end Go.Proofs.Ytbdlamlplfogjaa
