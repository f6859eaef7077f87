/-
  Walks: the document's net: the next message delivered.
-/
import Derived.Test.YtbdlamlplfogjaaNwUx
namespace Go.Proofs.Ytbdlamlplfogjaa
open Go.RowKit Go.Maps Go.Joins
variable {Q : Nat → Prop} {w w' : World} {d : Nat} {S : St} {T : Nat → Nat → List ByteArray} {R : Lr}

/-- a message laid behind those that wait, ahead of the walk -/
theorem RL.wait_lay (h : RL Q w d S T R) {j : Nat} (hj : j < S.N) (m : Nat × ByteArray) {bv : Value} (hv : byV w Q bv m.2) (hl : (S.ms j).length ≤ 9000000) {W : World} (gW : w.grownBy W none) {B : Nat} (hB : W.heap[B]? = some (.cells #[] 51 (0, 0))) (hBn : w.heap.size ≤ B) :
    ∃ p6 c6 W6, (∀ ty, (Builtin.append_ #[94, 94] ty #[.slice (some ⟨B, 0, none⟩) 0 0, R.mv j]).run Try.prog W = .ok (.slice p6 (S.ms j).length c6) W6) ∧ w.grownBy W6 none ∧ W.grownBy W6 (some B) ∧
      ∀ W7 B1, W6.grownBy W7 none → W7.heap[B1]? = some (.cells #[.int .i64 (m.1 : Int), bv] 51 (0, 0)) → ∃ p9 c9 W9, (∀ ty, (Builtin.append_ #[94, 94] ty #[.slice p6 (S.ms j).length c6, .slice (some ⟨B1, 0, none⟩) 1 1]).run Try.prog W7 = .ok (.slice p9 ((S.ms j).length + 1) c9) W9) ∧ w.grownBy W9 none ∧ RU Q w d { S with ms := upd S.ms j (S.ms j ++ [m]) } T (W9.setCell ⟨R.mg, j, none⟩ (.slice p9 ((S.ms j).length + 1) c9)) := by
  obtain ⟨p6, c6, W6, k1, k2, k3, k4⟩ := (h.mr j hj).push rwMe (by omega) gW hB hBn [.int .i64 (m.1 : Int), bv] rfl (by intro u hu; simp only [List.mem_cons, List.mem_nil_iff, or_false] at hu; rcases hu with rfl | rfl <;> first | rfl | exact hv.one)
  refine ⟨p6, c6, W6, k1, k2, k3, fun W7 B1 g7 hB1 => ?_⟩
  obtain ⟨p9, c9, W9, r1, r2, r3⟩ := k4 W7 B1 g7 hB1
  refine ⟨p9, c9, W9, r1, r2, ?_⟩
  have H9 := h.away (Q' := ext Q w W9) (Chg.of_none r2 (fun _ => False)) (fun _ _ e => e) (fun _ => ext_le) (ext_pb h.pb r2.size)
  have hq : ∀ x, w.heap.size ≤ x → x < W9.heap.size → ext Q w W9 x := fun x h1 h2 => ext_new h1 h2
  have hrow := r3 (ext Q w W9) hq (msR W9 (ext Q w W9) (S.ms j ++ [m])) (fun k ys hk hr x hx => by
    rw [List.getElem?_append_left hk] at hx
    obtain ⟨bv', e, hv'⟩ := hr x hx
    exact ⟨bv', e, hv'.kept h.pb r2 (fun _ => ext_le)⟩) (fun x hx => by
    rw [List.getElem?_append_right (Nat.le_refl _), Nat.sub_self] at hx
    cases hx
    exact ⟨bv, rfl, hv.kept h.pb r2 (fun _ => ext_le)⟩)
  rw [show (S.ms j).length + 1 = (S.ms j ++ [m]).length by simp] at hrow
  have HF := H9.setM (i := j) hj hrow
  rw [show (S.ms j ++ [m]).length = (S.ms j).length + 1 by simp] at HF
  refine ⟨_, HF.away (Chg.refl (fun _ => False) _) (fun _ _ e => e) (fun x hx => ?_) (fun x hx => ?_), ?_⟩
  · rcases hx with e | e
    · exact Or.inl e
    · exact Or.inr ⟨e.1, by rw [World.size_setCell]; exact e.2⟩
  · rcases hx with e | e
    · rw [World.size_setCell]; exact Nat.lt_of_lt_of_le (h.pb x e) r2.size
    · exact e.2
  · exact (Chg.of_none r2 _).set _ _ ⟨h.qm, by rw [show kd w (Addr.block ⟨R.mg, j, none⟩) = _ from h.kb.2.2.2.1]; decide⟩
set_option maxHeartbeats 4000000 in
set_option maxRecDepth 100000 in
theorem rDel_msgnext (h : RL Q w d S T R) {i : Nat} {p : Pk} (hp : S.fl[i]? = some p) (hl : S.fl.length ≤ 100000) (hf : p.f < S.N) (ht : p.t < S.N) (hdn : S.dn (pkTo p) = false) (hak : p.ack = false) (he : p.e = (S.wy p.f p.t).b + 1) (hcc : (S.wy p.f p.t).c ≤ 10000000) (hs : p.s = (S.wy p.f p.t).c + 1) (hml : (S.ms p.t).length ≤ 9000000) : Calls Try.prog 33 #[.pointer (some ⟨d, 0, none⟩), .int .i64 (i : Int)] w (REQ Q w d (flyS (nextS (erS S i) p) (ackP p ((S.wy p.f p.t).c + 1))) T 0) := by
  have TK := mkHid (rTake_at h hp hl)
  have hfr : pkFr p < S.N := by unfold pkFr; split <;> omega
  have hto : pkTo p < S.N := by unfold pkTo; split <;> omega
  have eto : pkTo p = p.t := by unfold pkTo; rw [if_neg (by rw [hak]; simp)]
  have efr : pkFr p = p.f := by unfold pkFr; rw [if_neg (by rw [hak]; simp)]
  rw [eto, efr] at TK
  rw [eto] at hdn
  clear eto efr hfr hto
  have HB := mkHid h.pb
  have he2 : ((p.e : Int) == (((S.wy p.f p.t).b + 1 : Nat) : Int)) = true := by rw [beq_iff_eq]; omega
  have he3 : ((p.e : Int) == ((S.wy p.f p.t).b : Int) + 1) = true := by rw [beq_iff_eq]; omega
  have hs2 : ((p.s : Int) == ((S.wy p.f p.t).c : Int) + 1) = true := by rw [beq_iff_eq]; omega
  have i8 : IntKind.i64.wrap (((S.wy p.f p.t).c : Int) + 1) = ((S.wy p.f p.t).c : Int) + 1 := by rw [IntKind.wrap_i64]; omega
  have i9 : IntKind.u64.wrap (((S.wy p.f p.t).c : Int) + 1) = ((S.wy p.f p.t).c : Int) + 1 := u64w (by omega) (by omega)
  have HAK := mkHid hak
  have HML := mkHid hml
  clear h hp hl he hak hs hcc hml
  go_enter Try.func33, Try.ntmps33
  go_wp2_with fail
  refine TK.out.mono ?_
  rintro e w1 ⟨pb, lb, cb, R1, rfl, hlb, hb, H, C⟩
  have hd1 := H.pb _ H.qd
  have htg := H.pb _ H.qt
  have hyg := H.pb _ H.qy
  obtain ⟨c0, c1, c2, c3, _⟩ := H.cs
  obtain ⟨t0, _⟩ := H.tcell (i := p.t) ht
  rw [show (erS S i).dn p.t = false from hdn] at t0
  have hN : (erS S i).N = S.N := rfl
  rw [hN] at c0 c1 c2
  have i1 : (p.t : Int) < (S.N : Int) := by omega
  have H1 := mkHid H
  have HC := mkHid C
  have Hb := mkHid hb
  clear H C hlb hb TK hN hdn c1 c2 c3 hyg
  go_wp2_with fail
  go_quiet (fail)
  have GW : w1.grownBy ((w1.alloc (.cells #[.int .i64 (p.f : Int), .int .i64 (p.t : Int), .bool p.ack, .int .u64 (p.s : Int), .int .u64 (p.e : Int), .slice pb lb cb] 97)).drewN nq) none := grown_drewN (grown_al (grown_refl _) _) nq
  have BX : ((w1.alloc (.cells #[.int .i64 (p.f : Int), .int .i64 (p.t : Int), .bool p.ack, .int .u64 (p.s : Int), .int .u64 (p.e : Int), .slice pb lb cb] 97)).drewN nq).heap[w1.heap.size]? = some (.cells #[.int .i64 (p.f : Int), .int .i64 (p.t : Int), .bool p.ack, .int .u64 (p.s : Int), .int .u64 (p.e : Int), .slice pb lb cb] 97 (0, 0)) := heap_alloc_new w1 _
  generalize (w1.alloc (.cells #[.int .i64 (p.f : Int), .int .i64 (p.t : Int), .bool p.ack, .int .u64 (p.s : Int), .int .u64 (p.e : Int), .slice pb lb cb] 97)).drewN nq = W2 at GW BX ⊢
  clear c0 t0 htg hd1
  have H2 := H1.out.kept GW
  obtain ⟨c0, c1, c2, c3, _⟩ := H2.cs
  rw [show (erS S i).N = S.N from rfl] at c0 c1 c2
  obtain ⟨b0, b1, b2, b3, b4, b5, bf⟩ := cells6 BX
  have hbs : w1.heap.size < W2.heap.size := lt_of_heap BX
  obtain ⟨y0, y1, y2, y3, y4, yf⟩ := H2.ycell (i := p.f) (j := p.t) hf ht
  rw [show (erS S i).N = S.N from rfl] at y0
  rw [show (erS S i).wy = S.wy from rfl] at y1 y3 y4
  obtain ⟨ps, cs, hes, _⟩ := (H2.sr p.f p.t hf ht).form
  obtain ⟨TL, hTL⟩ : ∃ TL, TL = (T p.f p.t).length := ⟨_, rfl⟩
  rw [hes, ← hTL] at y2
  have KS : Hid (∀ W, W2.grownBy W none → (fun w' : World => w'.cell? ⟨d, 1, none⟩ = some (.slice (some ⟨R1.yg, 0, none⟩) S.N R1.yc) ∧ w'.cell? ⟨R1.yg, p.f, none⟩ = some (.slice (some ⟨R1.yb p.f, 0, none⟩) S.N (R1.yk p.f)) ∧ w'.cell? ⟨R1.yb p.f, p.t * 4, none⟩ = some (.int .u64 (((S.wy p.f p.t).b + 1 : Nat) : Int)) ∧ w'.cell? ⟨R1.yb p.f, p.t * 4 + 1, none⟩ = some (.slice ps TL cs) ∧ w'.cell? ⟨R1.yb p.f, p.t * 4 + 2, none⟩ = some (.int .i64 ((S.wy p.f p.t).t : Int)) ∧ w'.cell? ⟨R1.yb p.f, p.t * 4 + 3, none⟩ = some (.int .i64 ((S.wy p.f p.t).c : Int)) ∧ w'.cell? ⟨w1.heap.size, 0, none⟩ = some (.int .i64 (p.f : Int)) ∧ w'.cell? ⟨w1.heap.size, 1, none⟩ = some (.int .i64 (p.t : Int))) W) := fun W g => ⟨g.cell c1 (by simp), g.cell y0 (by simp), g.cell y1 (by simp), g.cell y2 (by simp), g.cell y3 (by simp), g.cell y4 (by simp), g.cell b0 (by simp), g.cell b1 (by simp)⟩
  have i2 : (p.f : Int) < (S.N : Int) := by omega
  have i3 : (p.t : Int) < (S.N : Int) := by omega
  rw [HAK.out] at b2
  have HTL := mkHid hTL
  have HES := mkHid hes
  have H2h := mkHid H2
  have BXh := mkHid BX
  have GWh := mkHid GW
  clear H2 BX GW hes yf bf y0 y1 y2 y3 y4 c0 c1 c2 c3 hTL
  go_wp2_with fail
  go_region_held3 (fun w' : World => w'.cell? ⟨d, 1, none⟩ = some (.slice (some ⟨R1.yg, 0, none⟩) S.N R1.yc) ∧ w'.cell? ⟨R1.yg, p.f, none⟩ = some (.slice (some ⟨R1.yb p.f, 0, none⟩) S.N (R1.yk p.f)) ∧ w'.cell? ⟨R1.yb p.f, p.t * 4, none⟩ = some (.int .u64 (((S.wy p.f p.t).b + 1 : Nat) : Int)) ∧ w'.cell? ⟨R1.yb p.f, p.t * 4 + 1, none⟩ = some (.slice ps TL cs) ∧ w'.cell? ⟨R1.yb p.f, p.t * 4 + 2, none⟩ = some (.int .i64 ((S.wy p.f p.t).t : Int)) ∧ w'.cell? ⟨R1.yb p.f, p.t * 4 + 3, none⟩ = some (.int .i64 ((S.wy p.f p.t).c : Int)) ∧ w'.cell? ⟨w1.heap.size, 0, none⟩ = some (.int .i64 (p.f : Int)) ∧ w'.cell? ⟨w1.heap.size, 1, none⟩ = some (.int .i64 (p.t : Int))) (exact KS.out _ (by repeat (first | exact grown_refl _ | refine grown_drew ?_ | refine grown_al ?_ _))) (fail)
  have g3 : W2.grownBy (W2.alloc (.cells #[.int .u64 (((S.wy p.f p.t).b : Int) + 1), .slice ps TL cs, .int .i64 ((S.wy p.f p.t).t : Int), .int .i64 ((S.wy p.f p.t).c : Int)] 108)).drew none := grown_drew (grown_al (grown_refl _) _)
  have BY : (W2.alloc (.cells #[.int .u64 (((S.wy p.f p.t).b : Int) + 1), .slice ps TL cs, .int .i64 ((S.wy p.f p.t).t : Int), .int .i64 ((S.wy p.f p.t).c : Int)] 108)).drew.heap[W2.heap.size]? = some (.cells #[.int .u64 (((S.wy p.f p.t).b : Int) + 1), .slice ps TL cs, .int .i64 ((S.wy p.f p.t).t : Int), .int .i64 ((S.wy p.f p.t).c : Int)] 108 (0, 0)) := heap_alloc_new W2 _
  generalize (W2.alloc (.cells #[.int .u64 (((S.wy p.f p.t).b : Int) + 1), .slice ps TL cs, .int .i64 ((S.wy p.f p.t).t : Int), .int .i64 ((S.wy p.f p.t).c : Int)] 108)).drew = W3 at g3 BY ⊢
  have ecast : (((S.wy p.f p.t).b + 1 : Nat) : Int) = ((S.wy p.f p.t).b : Int) + 1 := rfl
  rw [← ecast] at BY
  have H3 := H2h.out.kept g3
  have B3 := box_keep BXh.out g3 (by simp)
  rw [HAK.out] at B3
  have h23 : W2.heap.size < W3.heap.size := lt_of_heap BY
  have s12 := GWh.out.size
  have CB := Chg.of_cell W3 ⟨W2.heap.size, 3, none⟩ (.int .i64 (((S.wy p.f p.t).c : Int) + 1))
  have nQ : ∀ x, ext Q w w1 x → x < w1.heap.size := H1.out.pb
  have H4 := H3.away (Q' := ext Q w w1) CB (fun x hx e => by have e : x = W2.heap.size := e; have := nQ x hx; omega) (fun _ e => e) (fun x hx => by rw [World.size_setCell]; exact H3.pb x hx)
  have H5 := H4.setY (i := p.f) (j := p.t) hf ht { S.wy p.f p.t with c := (S.wy p.f p.t).c + 1 } (v := R1.sv p.f p.t) (l := T p.f p.t) (H4.sr p.f p.t hf ht)
  rw [upd2_id, HES.out, ← HTL.out, show (((S.wy p.f p.t).c + 1 : Nat) : Int) = ((S.wy p.f p.t).c : Int) + 1 from rfl] at H5
  have CW := setW_chg (W3.setCell ⟨W2.heap.size, 3, none⟩ (.int .i64 (((S.wy p.f p.t).c : Int) + 1))) (R1.yb p.f) p.t (.int .u64 (((S.wy p.f p.t).b + 1 : Nat) : Int)) (.slice ps TL cs) (.int .i64 ((S.wy p.f p.t).t : Int)) (.int .i64 (((S.wy p.f p.t).c : Int) + 1))
  have CT : Chg (fun x => x = R1.yb p.f ∨ x = W2.heap.size) w1 (setW (W3.setCell ⟨W2.heap.size, 3, none⟩ (.int .i64 (((S.wy p.f p.t).c : Int) + 1))) (R1.yb p.f) p.t (.int .u64 (((S.wy p.f p.t).b + 1 : Nat) : Int)) (.slice ps TL cs) (.int .i64 ((S.wy p.f p.t).t : Int)) (.int .i64 (((S.wy p.f p.t).c : Int) + 1))) := ((Chg.of_none (grown_none_trans GWh.out g3) _).trans (CB.mono (fun x _ e => Or.inr e))).trans (CW.mono (fun x _ e => Or.inl e))
  have k5 := H3.kb.2.2.2.2 p.f hf
  have nd : d ≠ R1.yb p.f := fun e => by have := H3.kb.1; rw [e, k5] at this; simp at this
  have ny : R1.yg ≠ R1.yb p.f := fun e => by have := H3.kb.2.2.1; rw [e, k5] at this; simp at this
  have nb1 : w1.heap.size ≠ R1.yb p.f := fun e => by have := nQ _ (H1.out.qr p.f hf); omega
  have nb2 : W2.heap.size ≠ R1.yb p.f := fun e => by have := nQ _ (H1.out.qr p.f hf); omega
  obtain ⟨q0, q1, q2, q3, _⟩ := H4.cs
  obtain ⟨z0, z1, z2, z3, z4, zf⟩ := H4.ycell (i := p.f) (j := p.t) hf ht
  rw [show (erS S i).N = S.N from rfl] at q1 z0
  rw [show (erS S i).wy = S.wy from rfl] at z1 z3 z4
  rw [HES.out, ← HTL.out] at z2
  have B4 := CB.at_ B3 (fun e => by have e : w1.heap.size = W2.heap.size := e; omega)
  have Y4 := (block_setCell BY (i := 3) (.int .i64 (((S.wy p.f p.t).c : Int) + 1))).trans rfl
  obtain ⟨a0, a1, a2, a3, a4, a5, _⟩ := cells6 B4
  obtain ⟨e0, e1, e2, e3, ef⟩ := cells4 Y4
  have K4 : Hid ((fun w' : World => w'.cell? ⟨d, 1, none⟩ = some (.slice (some ⟨R1.yg, 0, none⟩) S.N R1.yc) ∧ w'.cell? ⟨R1.yg, p.f, none⟩ = some (.slice (some ⟨R1.yb p.f, 0, none⟩) S.N (R1.yk p.f)) ∧ w'.cell? ⟨w1.heap.size, 0, none⟩ = some (.int .i64 (p.f : Int)) ∧ w'.cell? ⟨w1.heap.size, 1, none⟩ = some (.int .i64 (p.t : Int)) ∧ w'.cell? ⟨W2.heap.size, 0, none⟩ = some (.int .u64 (((S.wy p.f p.t).b + 1 : Nat) : Int)) ∧ w'.cell? ⟨W2.heap.size, 1, none⟩ = some (.slice ps TL cs) ∧ w'.cell? ⟨W2.heap.size, 2, none⟩ = some (.int .i64 ((S.wy p.f p.t).t : Int)) ∧ w'.cell? ⟨W2.heap.size, 3, none⟩ = some (.int .i64 (((S.wy p.f p.t).c : Int) + 1))) (W3.setCell ⟨W2.heap.size, 3, none⟩ (.int .i64 (((S.wy p.f p.t).c : Int) + 1)))) := ⟨q1, z0, a0, a1, e0, e1, e2, e3⟩
  have K5 : Hid ((fun w' : World => w'.cell? ⟨d, 1, none⟩ = some (.slice (some ⟨R1.yg, 0, none⟩) S.N R1.yc) ∧ w'.cell? ⟨R1.yg, p.f, none⟩ = some (.slice (some ⟨R1.yb p.f, 0, none⟩) S.N (R1.yk p.f)) ∧ w'.cell? ⟨w1.heap.size, 0, none⟩ = some (.int .i64 (p.f : Int)) ∧ w'.cell? ⟨w1.heap.size, 1, none⟩ = some (.int .i64 (p.t : Int)) ∧ w'.cell? ⟨W2.heap.size, 0, none⟩ = some (.int .u64 (((S.wy p.f p.t).b + 1 : Nat) : Int)) ∧ w'.cell? ⟨W2.heap.size, 1, none⟩ = some (.slice ps TL cs) ∧ w'.cell? ⟨W2.heap.size, 2, none⟩ = some (.int .i64 ((S.wy p.f p.t).t : Int)) ∧ w'.cell? ⟨W2.heap.size, 3, none⟩ = some (.int .i64 (((S.wy p.f p.t).c : Int) + 1))) (((((W3.setCell ⟨W2.heap.size, 3, none⟩ (.int .i64 (((S.wy p.f p.t).c : Int) + 1))).setCell ⟨R1.yb p.f, p.t * 4, none⟩ (.int .u64 (((S.wy p.f p.t).b + 1 : Nat) : Int))).setCell ⟨R1.yb p.f, p.t * 4 + 1, none⟩ (.slice ps TL cs)).setCell ⟨R1.yb p.f, p.t * 4 + 2, none⟩ (.int .i64 ((S.wy p.f p.t).t : Int))).setCell ⟨R1.yb p.f, p.t * 4 + 3, none⟩ (.int .i64 (((S.wy p.f p.t).c : Int) + 1)))) := ⟨nSt1 nd (nSt1 nd (nSt1 nd (nSt1 nd q1))), nSt1 ny (nSt1 ny (nSt1 ny (nSt1 ny z0))), nSt1 nb1 (nSt1 nb1 (nSt1 nb1 (nSt1 nb1 a0))), nSt1 nb1 (nSt1 nb1 (nSt1 nb1 (nSt1 nb1 a1))), nSt1 nb2 (nSt1 nb2 (nSt1 nb2 (nSt1 nb2 e0))), nSt1 nb2 (nSt1 nb2 (nSt1 nb2 (nSt1 nb2 e1))), nSt1 nb2 (nSt1 nb2 (nSt1 nb2 (nSt1 nb2 e2))), nSt1 nb2 (nSt1 nb2 (nSt1 nb2 (nSt1 nb2 e3)))⟩
  have K4d : Hid ((fun w' : World => w'.cell? ⟨d, 1, none⟩ = some (.slice (some ⟨R1.yg, 0, none⟩) S.N R1.yc) ∧ w'.cell? ⟨R1.yg, p.f, none⟩ = some (.slice (some ⟨R1.yb p.f, 0, none⟩) S.N (R1.yk p.f)) ∧ w'.cell? ⟨w1.heap.size, 0, none⟩ = some (.int .i64 (p.f : Int)) ∧ w'.cell? ⟨w1.heap.size, 1, none⟩ = some (.int .i64 (p.t : Int)) ∧ w'.cell? ⟨W2.heap.size, 0, none⟩ = some (.int .u64 (((S.wy p.f p.t).b + 1 : Nat) : Int)) ∧ w'.cell? ⟨W2.heap.size, 1, none⟩ = some (.slice ps TL cs) ∧ w'.cell? ⟨W2.heap.size, 2, none⟩ = some (.int .i64 ((S.wy p.f p.t).t : Int)) ∧ w'.cell? ⟨W2.heap.size, 3, none⟩ = some (.int .i64 (((S.wy p.f p.t).c : Int) + 1))) (W3.setCell ⟨W2.heap.size, 3, none⟩ (.int .i64 (((S.wy p.f p.t).c : Int) + 1))).drew) := ⟨(cell_drew _ _).trans q1, (cell_drew _ _).trans z0, (cell_drew _ _).trans a0, (cell_drew _ _).trans a1, (cell_drew _ _).trans e0, (cell_drew _ _).trans e1, (cell_drew _ _).trans e2, (cell_drew _ _).trans e3⟩
  have K5d : Hid ((fun w' : World => w'.cell? ⟨d, 1, none⟩ = some (.slice (some ⟨R1.yg, 0, none⟩) S.N R1.yc) ∧ w'.cell? ⟨R1.yg, p.f, none⟩ = some (.slice (some ⟨R1.yb p.f, 0, none⟩) S.N (R1.yk p.f)) ∧ w'.cell? ⟨w1.heap.size, 0, none⟩ = some (.int .i64 (p.f : Int)) ∧ w'.cell? ⟨w1.heap.size, 1, none⟩ = some (.int .i64 (p.t : Int)) ∧ w'.cell? ⟨W2.heap.size, 0, none⟩ = some (.int .u64 (((S.wy p.f p.t).b + 1 : Nat) : Int)) ∧ w'.cell? ⟨W2.heap.size, 1, none⟩ = some (.slice ps TL cs) ∧ w'.cell? ⟨W2.heap.size, 2, none⟩ = some (.int .i64 ((S.wy p.f p.t).t : Int)) ∧ w'.cell? ⟨W2.heap.size, 3, none⟩ = some (.int .i64 (((S.wy p.f p.t).c : Int) + 1))) (((((W3.setCell ⟨W2.heap.size, 3, none⟩ (.int .i64 (((S.wy p.f p.t).c : Int) + 1))).setCell ⟨R1.yb p.f, p.t * 4, none⟩ (.int .u64 (((S.wy p.f p.t).b : Int) + 1))).setCell ⟨R1.yb p.f, p.t * 4 + 1, none⟩ (.slice ps TL cs)).setCell ⟨R1.yb p.f, p.t * 4 + 2, none⟩ (.int .i64 ((S.wy p.f p.t).t : Int))).setCell ⟨R1.yb p.f, p.t * 4 + 3, none⟩ (.int .i64 (((S.wy p.f p.t).c : Int) + 1))).drew) := by
    rw [← ecast]
    obtain ⟨r0, r1, r2, r3, r4, r5, r6, r7⟩ := K5.out
    exact ⟨(cell_drew _ _).trans r0, (cell_drew _ _).trans r1, (cell_drew _ _).trans r2, (cell_drew _ _).trans r3, (cell_drew _ _).trans r4, (cell_drew _ _).trans r5, (cell_drew _ _).trans r6, (cell_drew _ _).trans r7⟩
  have B5 := CW.at_ B4 (fun e => nb1 e)
  have Y5 := CW.at_ Y4 (fun e => nb2 e)
  obtain ⟨x0, x1, x2, x3, x4, x5, _⟩ := cells6 B3
  obtain ⟨u0, u1, u2, u3, uf⟩ := cells4 BY
  have uf3 := uf 3
  have f0 := zf (p.t * 4)
  have f1 := zf (p.t * 4 + 1)
  have f2 := zf (p.t * 4 + 2)
  have f3 := zf (p.t * 4 + 3)
  have ZZ := mkHid (And.intro z1 (And.intro z2 (And.intro z3 (And.intro z4 (And.intro f0 (And.intro f1 (And.intro f2 f3)))))))
  have gd := grown_drew (grown_refl (setW (W3.setCell ⟨W2.heap.size, 3, none⟩ (.int .i64 (((S.wy p.f p.t).c : Int) + 1))) (R1.yb p.f) p.t (.int .u64 (((S.wy p.f p.t).b + 1 : Nat) : Int)) (.slice ps TL cs) (.int .i64 ((S.wy p.f p.t).t : Int)) (.int .i64 (((S.wy p.f p.t).c : Int) + 1))))
  have HH5 := mkHid (And.intro (H5.kept gd) (And.intro (CT.trans (Chg.of_none gd _)) (And.intro (box_keep B5 gd (by simp)) (box_keep Y5 gd (by simp)))))
  unfold setW at HH5
  rw [show (((S.wy p.f p.t).b + 1 : Nat) : Int) = ((S.wy p.f p.t).b : Int) + 1 from rfl] at HH5
  have NQ := mkHid nQ
  clear ecast gd H3 H4 H5 B3 B4 B5 Y4 Y5 BY CB CW CT nQ k5 nd ny nb1 nb2 q0 q1 q2 q3 z0 z1 z2 z3 z4 zf f0 f1 f2 f3 a0 a1 a2 a3 a4 a5 e0 e1 e2 e3 ef uf K4 K5 KS g3
  go_wp2_with fail
  obtain ⟨z1, z2, z3, z4, f0, f1, f2, f3⟩ := ZZ.out
  go_region_held3 (fun w' : World => w'.cell? ⟨d, 1, none⟩ = some (.slice (some ⟨R1.yg, 0, none⟩) S.N R1.yc) ∧ w'.cell? ⟨R1.yg, p.f, none⟩ = some (.slice (some ⟨R1.yb p.f, 0, none⟩) S.N (R1.yk p.f)) ∧ w'.cell? ⟨w1.heap.size, 0, none⟩ = some (.int .i64 (p.f : Int)) ∧ w'.cell? ⟨w1.heap.size, 1, none⟩ = some (.int .i64 (p.t : Int)) ∧ w'.cell? ⟨W2.heap.size, 0, none⟩ = some (.int .u64 (((S.wy p.f p.t).b + 1 : Nat) : Int)) ∧ w'.cell? ⟨W2.heap.size, 1, none⟩ = some (.slice ps TL cs) ∧ w'.cell? ⟨W2.heap.size, 2, none⟩ = some (.int .i64 ((S.wy p.f p.t).t : Int)) ∧ w'.cell? ⟨W2.heap.size, 3, none⟩ = some (.int .i64 (((S.wy p.f p.t).c : Int) + 1))) (first | with_reducible exact K4d.out | with_reducible exact K5d.out) (fail)
  clear z1 z2 z3 z4 f0 f1 f2 f3 x0 x1 x2 x3 x4 x5 u0 u1 u2 u3 uf3 b0 b1 b2 b3 b4 b5 hbs K4d K5d ZZ
  generalize (((((W3.setCell ⟨W2.heap.size, 3, none⟩ (.int .i64 (((S.wy p.f p.t).c : Int) + 1))).setCell ⟨R1.yb p.f, p.t * 4, none⟩ (.int .u64 (((S.wy p.f p.t).b : Int) + 1))).setCell ⟨R1.yb p.f, p.t * 4 + 1, none⟩ (.slice ps TL cs)).setCell ⟨R1.yb p.f, p.t * 4 + 2, none⟩ (.int .i64 ((S.wy p.f p.t).t : Int))).setCell ⟨R1.yb p.f, p.t * 4 + 3, none⟩ (.int .i64 (((S.wy p.f p.t).c : Int) + 1))).drew = W6 at HH5 ⊢
  obtain ⟨H5, CT, B6, Y6⟩ := HH5.out
  have CQ6 : Chg (hbq Q w) w W6 := hb_trans HC.out (CT.mono (T := hbq (ext Q w w1) w1) (fun x hx e => by
    rcases e with e | e
    · rw [e]; exact ⟨H1.out.qr p.f hf, by rw [H1.out.kb.2.2.2.2 p.f hf]; decide⟩
    · have := GWh.out.size; omega)) (fun _ e => e)
  have H6 := H5.away (Q' := ext Q w W6) (Chg.refl (fun _ => False) _) (fun _ _ e => e) (fun x hx => by
    rcases hx with e | e
    · exact Or.inl e
    · exact Or.inr ⟨e.1, Nat.lt_of_lt_of_le e.2 CT.size⟩) (ext_pb HB.out CQ6.size)
  have hb6 : byV W6 (ext Q w W6) (.slice pb lb cb) p.x := Hb.out.mv CT (fun b hk hQ e => by
    rcases e with e | e
    · rw [e, H1.out.kb.2.2.2.2 p.f hf] at hk; simp at hk
    · have := NQ.out b hQ; have := GWh.out.size; omega) NQ.out (fun x hx => by
    rcases hx with e | e
    · exact Or.inl e
    · exact Or.inr ⟨e.1, Nat.lt_of_lt_of_le e.2 CT.size⟩)
  obtain ⟨p6A, c6A, W6A, hrA6, gA1, gA2, kA⟩ := H6.wait_lay (j := p.t) ht (p.f, p.x) hb6 HML.out (W := W6.drew.alloc (.cells #[] 51)) (grown_al (grown_drew (grown_refl _)) _) (B := W6.heap.size) (heap_alloc_new W6.drew _) (Nat.le_refl _)
  obtain ⟨p9A, c9A, W9A, hrA9, gA3, yA⟩ := kA (W6A.alloc (.cells #[.int .i64 (p.f : Int), .slice pb lb cb] 51)) W6A.heap.size (grown_al (grown_refl _) _) (heap_alloc_new _ _)
  obtain ⟨p6B, c6B, W6B, hrB6, gB1, gB2, kB⟩ := H6.wait_lay (j := p.t) ht (p.f, p.x) hb6 HML.out (W := (W6.drew.alloc (.cells #[] 51)).alloc (.cells #[.int .i64 (p.f : Int), .slice pb lb cb] 51)) (grown_al (grown_al (grown_drew (grown_refl _)) _) _) (B := W6.heap.size) (al2_fst W6.drew _ _) (Nat.le_refl _)
  obtain ⟨p9B, c9B, W9B, hrB9, gB3, yB⟩ := kB W6B (W6.heap.size + 1) (grown_refl _) (box_keep (al2_snd W6.drew _ _) gB2 (by simp))
  obtain ⟨p6C, c6C, W6C, hrC6, gC1, gC2, kC⟩ := H6.wait_lay (j := p.t) ht (p.f, p.x) hb6 HML.out (W := (W6.drew.alloc (.cells #[.int .i64 (p.f : Int), .slice pb lb cb] 51)).alloc (.cells #[] 51)) (grown_al (grown_al (grown_drew (grown_refl _)) _) _) (B := (W6.heap.size + 1)) (al2_snd W6.drew _ _) (by omega)
  obtain ⟨p9C, c9C, W9C, hrC9, gC3, yC⟩ := kC W6C W6.heap.size (grown_refl _) (box_keep (al2_fst W6.drew _ _) gC2 (by simp))
  have FYA : Hid (Calls Try.prog 58 #[.pointer (some ⟨d, 0, none⟩), .agg #[.int .i64 (p.t : Int), .int .i64 (p.f : Int), .bool true, .int .u64 (((S.wy p.f p.t).c : Int) + 1), .int .u64 (p.e : Int), .slice none 0 0]] (W9A.setCell ⟨R1.mg, p.t, none⟩ (.slice p9A ((S.ms p.t).length + 1) c9A)) fun e w' => e = .returned (.tuple #[]) ∧ RU Q w d (flyS (nextS (erS S i) p) (ackP p ((S.wy p.f p.t).c + 1))) T w') := by
    obtain ⟨R7, H7, C7⟩ := RU.then HB.out CQ6 (fun _ e => e) yA
    refine (rFly_any H7 (ackP p ((S.wy p.f p.t).c + 1)) (byV_nil _ _)).mono ?_
    rintro e w5 ⟨rfl, U⟩
    exact ⟨rfl, RU.then HB.out C7 (fun _ e => e) U⟩
  have FYB : Hid (Calls Try.prog 58 #[.pointer (some ⟨d, 0, none⟩), .agg #[.int .i64 (p.t : Int), .int .i64 (p.f : Int), .bool true, .int .u64 (((S.wy p.f p.t).c : Int) + 1), .int .u64 (p.e : Int), .slice none 0 0]] (W9B.setCell ⟨R1.mg, p.t, none⟩ (.slice p9B ((S.ms p.t).length + 1) c9B)) fun e w' => e = .returned (.tuple #[]) ∧ RU Q w d (flyS (nextS (erS S i) p) (ackP p ((S.wy p.f p.t).c + 1))) T w') := by
    obtain ⟨R7, H7, C7⟩ := RU.then HB.out CQ6 (fun _ e => e) yB
    refine (rFly_any H7 (ackP p ((S.wy p.f p.t).c + 1)) (byV_nil _ _)).mono ?_
    rintro e w5 ⟨rfl, U⟩
    exact ⟨rfl, RU.then HB.out C7 (fun _ e => e) U⟩
  have FYC : Hid (Calls Try.prog 58 #[.pointer (some ⟨d, 0, none⟩), .agg #[.int .i64 (p.t : Int), .int .i64 (p.f : Int), .bool true, .int .u64 (((S.wy p.f p.t).c : Int) + 1), .int .u64 (p.e : Int), .slice none 0 0]] (W9C.setCell ⟨R1.mg, p.t, none⟩ (.slice p9C ((S.ms p.t).length + 1) c9C)) fun e w' => e = .returned (.tuple #[]) ∧ RU Q w d (flyS (nextS (erS S i) p) (ackP p ((S.wy p.f p.t).c + 1))) T w') := by
    obtain ⟨R7, H7, C7⟩ := RU.then HB.out CQ6 (fun _ e => e) yC
    refine (rFly_any H7 (ackP p ((S.wy p.f p.t).c + 1)) (byV_nil _ _)).mono ?_
    rintro e w5 ⟨rfl, U⟩
    exact ⟨rfl, RU.then HB.out C7 (fun _ e => e) U⟩
  obtain ⟨c0, c1, c2, c3, _⟩ := H6.cs
  rw [show St.N { erS S i with wy := upd2 S.wy p.f p.t { S.wy p.f p.t with c := (S.wy p.f p.t).c + 1 } } = S.N from rfl] at c2
  obtain ⟨m0, _⟩ := H6.mcell (i := p.t) ht
  obtain ⟨pm, cm, hem, _⟩ := (H6.mr p.t ht).form
  have hd1 := H6.pb _ H6.qd
  have hmg := H6.pb _ H6.qm
  have ndm : d ≠ R1.mg := fun e => by have := H6.kb.1; rw [e] at this; rw [H6.kb.2.2.2.1] at this; simp at this
  have nb1 : w1.heap.size ≠ R1.mg := fun e => by have := NQ.out _ H1.out.qm; omega
  have nb2 : W2.heap.size ≠ R1.mg := fun e => by have := NQ.out _ H1.out.qm; have := GWh.out.size; omega
  have hbb := lt_of_heap B6
  have hyy := lt_of_heap Y6
  have KS6 : Hid (∀ W, W6.grownBy W none → (fun w' : World => w'.cell? ⟨d, 2, none⟩ = some (.slice (some ⟨R1.mg, 0, none⟩) S.N R1.mc) ∧ w'.cell? ⟨w1.heap.size, 0, none⟩ = some (.int .i64 (p.f : Int)) ∧ w'.cell? ⟨w1.heap.size, 1, none⟩ = some (.int .i64 (p.t : Int)) ∧ w'.cell? ⟨w1.heap.size, 4, none⟩ = some (.int .u64 (p.e : Int)) ∧ w'.cell? ⟨w1.heap.size, 5, none⟩ = some (.slice pb lb cb) ∧ w'.cell? ⟨W2.heap.size, 3, none⟩ = some (.int .i64 (((S.wy p.f p.t).c : Int) + 1))) W) := fun W g => by
    obtain ⟨q0, q1, q2, q3, q4, q5, _⟩ := cells6 (box_keep B6 g (by simp))
    obtain ⟨r0, r1, r2, r3, _⟩ := cells4 (box_keep Y6 g (by simp))
    exact ⟨g.cell c2 (by simp), q0, q1, q4, q5, r3⟩
  have KE : Hid (∀ W v, W6.grownBy W none → (fun w' : World => w'.cell? ⟨d, 2, none⟩ = some (.slice (some ⟨R1.mg, 0, none⟩) S.N R1.mc) ∧ w'.cell? ⟨w1.heap.size, 0, none⟩ = some (.int .i64 (p.f : Int)) ∧ w'.cell? ⟨w1.heap.size, 1, none⟩ = some (.int .i64 (p.t : Int)) ∧ w'.cell? ⟨w1.heap.size, 4, none⟩ = some (.int .u64 (p.e : Int)) ∧ w'.cell? ⟨w1.heap.size, 5, none⟩ = some (.slice pb lb cb) ∧ w'.cell? ⟨W2.heap.size, 3, none⟩ = some (.int .i64 (((S.wy p.f p.t).c : Int) + 1))) (W.setCell ⟨R1.mg, p.t, none⟩ v)) := fun W v g => by
    obtain ⟨q0, q1, q2, q3, q4, q5⟩ := KS6.out W g
    exact ⟨nSt1 ndm q0, nSt1 nb1 q1, nSt1 nb1 q2, nSt1 nb1 q3, nSt1 nb1 q4, nSt1 nb2 q5⟩
  have mA : W9A.cell? ⟨R1.mg, p.t, none⟩ = some (R1.mv p.t) := gA3.cell m0 (by simp)
  have fA := ((H6.kept gA3).mcell (i := p.t) ht).2
  have GA6 := mkHid gA1
  have GA9 := mkHid gA3
  have mB : W9B.cell? ⟨R1.mg, p.t, none⟩ = some (R1.mv p.t) := gB3.cell m0 (by simp)
  have fB := ((H6.kept gB3).mcell (i := p.t) ht).2
  have GB6 := mkHid gB1
  have GB9 := mkHid gB3
  have mC : W9C.cell? ⟨R1.mg, p.t, none⟩ = some (R1.mv p.t) := gC3.cell m0 (by simp)
  have fC := ((H6.kept gC3).mcell (i := p.t) ht).2
  have GC6 := mkHid gC1
  have GC9 := mkHid gC3
  have xB : ((W6.alloc (.cells #[] 51)).alloc (.cells #[.int .i64 (p.f : Int), .slice pb lb cb] 51)).cell? ⟨R1.mg, p.t, none⟩ = some (R1.mv p.t) := (grown_al (grown_al (grown_refl W6) _) _).cell m0 (by simp)
  have xC : ((W6.alloc (.cells #[.int .i64 (p.f : Int), .slice pb lb cb] 51)).alloc (.cells #[] 51)).cell? ⟨R1.mg, p.t, none⟩ = some (R1.mv p.t) := (grown_al (grown_al (grown_refl W6) _) _).cell m0 (by simp)
  replace hem : R1.mv p.t = .slice pm (S.ms p.t).length cm := hem
  replace m0 : W6.cell? ⟨R1.mg, p.t, none⟩ = some (R1.mv p.t) := m0
  replace hrA6 : ∀ ty, (Builtin.append_ #[94, 94] ty #[.slice (some ⟨W6.heap.size, 0, none⟩) 0 0, R1.mv p.t]).run Try.prog (W6.drew.alloc (.cells #[] 51)) = .ok (.slice p6A (S.ms p.t).length c6A) W6A := hrA6
  replace hrB6 : ∀ ty, (Builtin.append_ #[94, 94] ty #[.slice (some ⟨W6.heap.size, 0, none⟩) 0 0, R1.mv p.t]).run Try.prog ((W6.drew.alloc (.cells #[] 51)).alloc (.cells #[.int .i64 (p.f : Int), .slice pb lb cb] 51)) = .ok (.slice p6B (S.ms p.t).length c6B) W6B := hrB6
  replace hrC6 : ∀ ty, (Builtin.append_ #[94, 94] ty #[.slice (some ⟨W6.heap.size + 1, 0, none⟩) 0 0, R1.mv p.t]).run Try.prog ((W6.drew.alloc (.cells #[.int .i64 (p.f : Int), .slice pb lb cb] 51)).alloc (.cells #[] 51)) = .ok (.slice p6C (S.ms p.t).length c6C) W6C := hrC6
  replace hrA9 : ∀ ty, (Builtin.append_ #[94, 94] ty #[.slice p6A (S.ms p.t).length c6A, .slice (some ⟨W6A.heap.size, 0, none⟩) 1 1]).run Try.prog (W6A.alloc (.cells #[.int .i64 (p.f : Int), .slice pb lb cb] 51)) = .ok (.slice p9A ((S.ms p.t).length + 1) c9A) W9A := hrA9
  replace hrB9 : ∀ ty, (Builtin.append_ #[94, 94] ty #[.slice p6B (S.ms p.t).length c6B, .slice (some ⟨W6.heap.size + 1, 0, none⟩) 1 1]).run Try.prog W6B = .ok (.slice p9B ((S.ms p.t).length + 1) c9B) W9B := hrB9
  replace hrC9 : ∀ ty, (Builtin.append_ #[94, 94] ty #[.slice p6C (S.ms p.t).length c6C, .slice (some ⟨W6.heap.size, 0, none⟩) 1 1]).run Try.prog W6C = .ok (.slice p9C ((S.ms p.t).length + 1) c9C) W9C := hrC9
  obtain ⟨ML, hML⟩ : ∃ ML, ML = (S.ms p.t).length := ⟨_, rfl⟩
  rw [← hML] at hem hrA6 hrB6 hrC6 hrA9 hrB9 hrC9 FYA FYB FYC
  rw [hem] at m0 mA mB mC xB xC hrA6 hrB6 hrC6
  clear H5 CT CQ6 H6 hb6 kA kB kC yA yB yC gA1 gA2 gA3 gB1 gB2 gB3 gC1 gC2 gC3 c0 c1 c2 c3 hem hML ndm nb1 nb2 B6 Y6 HH5 H1 HC Hb H2h BXh GWh NQ HML HTL HES
  go_wp2_with fail
  refine wp_region_noPanic ?_
  refine wp_region_held_drew (S := fun w' : World => w'.cell? ⟨d, 2, none⟩ = some (.slice (some ⟨R1.mg, 0, none⟩) S.N R1.mc) ∧ w'.cell? ⟨w1.heap.size, 0, none⟩ = some (.int .i64 (p.f : Int)) ∧ w'.cell? ⟨w1.heap.size, 1, none⟩ = some (.int .i64 (p.t : Int)) ∧ w'.cell? ⟨w1.heap.size, 4, none⟩ = some (.int .u64 (p.e : Int)) ∧ w'.cell? ⟨w1.heap.size, 5, none⟩ = some (.slice pb lb cb) ∧ w'.cell? ⟨W2.heap.size, 3, none⟩ = some (.int .i64 (((S.wy p.f p.t).c : Int) + 1))) (by kernel_rfl) (KS6.out _ (grown_drew (grown_refl _))) (fun hH => ?_)
  refine take_at (i := 0) (v := .pointer (some ⟨d, 0, none⟩)) rfl rfl (by kernel_rfl) (by kernel_rfl) (by kernel_rfl) (fun _ _ _ h => h) (Or.inl ⟨by rfl, ?_⟩) hH ?_
  · intro w5 hSw; obtain ⟨s0, s1, s2, s3, s4, s5⟩ := hSw; go_simp
  simp only [List.setIfInBounds_toArray, List.set_cons_zero, List.set_cons_succ]
  refine take_at (i := 1) (v := .pointer (some ⟨d, 0, none⟩)) rfl rfl (by kernel_rfl) (by kernel_rfl) (by kernel_rfl) (fun _ _ _ h => h) (Or.inl ⟨by rfl, ?_⟩) hH ?_
  · intro w5 hSw; obtain ⟨s0, s1, s2, s3, s4, s5⟩ := hSw; go_simp
  simp only [List.setIfInBounds_toArray, List.set_cons_zero, List.set_cons_succ]
  refine take_at (i := 2) (v := .pointer (some ⟨d, 2, none⟩)) rfl rfl (by kernel_rfl) (by kernel_rfl) (by kernel_rfl) (fun _ _ _ h => h) (Or.inl ⟨by rfl, ?_⟩) hH ?_
  · intro w5 hSw; obtain ⟨s0, s1, s2, s3, s4, s5⟩ := hSw; go_simp
  simp only [List.setIfInBounds_toArray, List.set_cons_zero, List.set_cons_succ]
  refine take_at (i := 3) (v := .slice (some ⟨R1.mg, 0, none⟩) S.N R1.mc) rfl rfl (by kernel_rfl) (by kernel_rfl) (by kernel_rfl) (fun _ _ _ h => h) (Or.inl ⟨by rfl, ?_⟩) hH ?_
  · intro w5 hSw; obtain ⟨s0, s1, s2, s3, s4, s5⟩ := hSw; go_simp
  simp only [List.setIfInBounds_toArray, List.set_cons_zero, List.set_cons_succ]
  refine take_at (i := 4) (v := .pointer (some ⟨w1.heap.size, 1, none⟩)) rfl rfl (by kernel_rfl) (by kernel_rfl) (by kernel_rfl) (fun _ _ _ h => h) (Or.inl ⟨by rfl, ?_⟩) hH ?_
  · intro w5 hSw; obtain ⟨s0, s1, s2, s3, s4, s5⟩ := hSw; go_simp
  simp only [List.setIfInBounds_toArray, List.set_cons_zero, List.set_cons_succ]
  refine take_at (i := 5) (v := .int .i64 (p.t : Int)) rfl rfl (by kernel_rfl) (by kernel_rfl) (by kernel_rfl) (fun _ _ _ h => h) (Or.inl ⟨by rfl, ?_⟩) hH ?_
  · intro w5 hSw; obtain ⟨s0, s1, s2, s3, s4, s5⟩ := hSw; go_simp
  simp only [List.setIfInBounds_toArray, List.set_cons_zero, List.set_cons_succ]
  refine take_at (i := 7) (v := .pointer (some ⟨d, 0, none⟩)) rfl rfl (by kernel_rfl) (by kernel_rfl) (by kernel_rfl) (fun _ _ _ h => h) (Or.inl ⟨by rfl, ?_⟩) hH ?_
  · intro w5 hSw; obtain ⟨s0, s1, s2, s3, s4, s5⟩ := hSw; go_simp
  simp only [List.setIfInBounds_toArray, List.set_cons_zero, List.set_cons_succ]
  refine take_at (i := 8) (v := .pointer (some ⟨d, 0, none⟩)) rfl rfl (by kernel_rfl) (by kernel_rfl) (by kernel_rfl) (fun _ _ _ h => h) (Or.inl ⟨by rfl, ?_⟩) hH ?_
  · intro w5 hSw; obtain ⟨s0, s1, s2, s3, s4, s5⟩ := hSw; go_simp
  simp only [List.setIfInBounds_toArray, List.set_cons_zero, List.set_cons_succ]
  refine take_at (i := 9) (v := .pointer (some ⟨d, 2, none⟩)) rfl rfl (by kernel_rfl) (by kernel_rfl) (by kernel_rfl) (fun _ _ _ h => h) (Or.inl ⟨by rfl, ?_⟩) hH ?_
  · intro w5 hSw; obtain ⟨s0, s1, s2, s3, s4, s5⟩ := hSw; go_simp
  simp only [List.setIfInBounds_toArray, List.set_cons_zero, List.set_cons_succ]
  refine take_at (i := 10) (v := .slice (some ⟨R1.mg, 0, none⟩) S.N R1.mc) rfl rfl (by kernel_rfl) (by kernel_rfl) (by kernel_rfl) (fun _ _ _ h => h) (Or.inl ⟨by rfl, ?_⟩) hH ?_
  · intro w5 hSw; obtain ⟨s0, s1, s2, s3, s4, s5⟩ := hSw; go_simp
  simp only [List.setIfInBounds_toArray, List.set_cons_zero, List.set_cons_succ]
  refine take_at (i := 11) (v := .pointer (some ⟨w1.heap.size, 1, none⟩)) rfl rfl (by kernel_rfl) (by kernel_rfl) (by kernel_rfl) (fun _ _ _ h => h) (Or.inl ⟨by rfl, ?_⟩) hH ?_
  · intro w5 hSw; obtain ⟨s0, s1, s2, s3, s4, s5⟩ := hSw; go_simp
  simp only [List.setIfInBounds_toArray, List.set_cons_zero, List.set_cons_succ]
  refine take_at (i := 12) (v := .int .i64 (p.t : Int)) rfl rfl (by kernel_rfl) (by kernel_rfl) (by kernel_rfl) (fun _ _ _ h => h) (Or.inl ⟨by rfl, ?_⟩) hH ?_
  · intro w5 hSw; obtain ⟨s0, s1, s2, s3, s4, s5⟩ := hSw; go_simp
  simp only [List.setIfInBounds_toArray, List.set_cons_zero, List.set_cons_succ]
  refine take_at (i := 13) (v := .pointer (some ⟨R1.mg, p.t, none⟩)) rfl rfl (by kernel_rfl) (by kernel_rfl) (by kernel_rfl) (fun _ _ _ h => h) (Or.inl ⟨by rfl, ?_⟩) hH ?_
  · intro w5 hSw; obtain ⟨s0, s1, s2, s3, s4, s5⟩ := hSw; go_simp
  simp only [List.setIfInBounds_toArray, List.set_cons_zero, List.set_cons_succ]
  refine take_at (i := 16) (v := .pointer (some ⟨w1.heap.size, 0, none⟩)) rfl rfl (by kernel_rfl) (by kernel_rfl) (by kernel_rfl) (fun _ _ _ h => h) (Or.inl ⟨by rfl, ?_⟩) hH ?_
  · intro w5 hSw; obtain ⟨s0, s1, s2, s3, s4, s5⟩ := hSw; go_simp
  simp only [List.setIfInBounds_toArray, List.set_cons_zero, List.set_cons_succ]
  refine take_at (i := 17) (v := .int .i64 (p.f : Int)) rfl rfl (by kernel_rfl) (by kernel_rfl) (by kernel_rfl) (fun _ _ _ h => h) (Or.inl ⟨by rfl, ?_⟩) hH ?_
  · intro w5 hSw; obtain ⟨s0, s1, s2, s3, s4, s5⟩ := hSw; go_simp
  simp only [List.setIfInBounds_toArray, List.set_cons_zero, List.set_cons_succ]
  refine take_at (i := 18) (v := .pointer (some ⟨w1.heap.size, 5, none⟩)) rfl rfl (by kernel_rfl) (by kernel_rfl) (by kernel_rfl) (fun _ _ _ h => h) (Or.inl ⟨by rfl, ?_⟩) hH ?_
  · intro w5 hSw; obtain ⟨s0, s1, s2, s3, s4, s5⟩ := hSw; go_simp
  simp only [List.setIfInBounds_toArray, List.set_cons_zero, List.set_cons_succ]
  refine take_at (i := 19) (v := .slice pb lb cb) rfl rfl (by kernel_rfl) (by kernel_rfl) (by kernel_rfl) (fun _ _ _ h => h) (Or.inl ⟨by rfl, ?_⟩) hH ?_
  · intro w5 hSw; obtain ⟨s0, s1, s2, s3, s4, s5⟩ := hSw; go_simp
  simp only [List.setIfInBounds_toArray, List.set_cons_zero, List.set_cons_succ]
  refine take_at (i := 20) (v := .agg #[.int .i64 (p.f : Int), .slice pb lb cb]) rfl rfl (by kernel_rfl) (by kernel_rfl) (by kernel_rfl) (fun _ _ _ h => h) (Or.inl ⟨by rfl, ?_⟩) hH ?_
  · intro w5 hSw; obtain ⟨s0, s1, s2, s3, s4, s5⟩ := hSw; go_simp
  simp only [List.setIfInBounds_toArray, List.set_cons_zero, List.set_cons_succ]
  refine wpAnyH_ready (rs := [6, 14, 21]) (by kernel_rfl) (by simp) ?_
  refine AllReadyH.cons rfl (fun K hK => ?_) (AllReadyH.cons rfl (fun K hK => ?_) (AllReadyH.cons rfl (fun K hK => ?_) AllReadyH.nil))
  · go_simp
    refine hK.out _ _ ?_ (fun hH => ?_)
    · exact KS6.out _ (by repeat (first | exact grown_refl _ | refine grown_drew ?_ | refine grown_al ?_ _))
    clear hK K
    refine wpAnyH_ready (rs := [14, 21]) (by kernel_rfl) (by simp) ?_
    refine AllReadyH.cons rfl (fun K hK => ?_) (AllReadyH.cons rfl (fun K hK => ?_) AllReadyH.nil)
    · go_simp
      refine hK.out _ _ ?_ (fun hH => ?_)
      · exact KS6.out _ (by repeat (first | exact grown_refl _ | refine grown_drew ?_ | refine grown_al ?_ _))
      clear hK K
      refine wpAnyH_ready (rs := [15, 21]) (by kernel_rfl) (by simp) ?_
      refine AllReadyH.cons rfl (fun K hK => ?_) (AllReadyH.cons rfl (fun K hK => ?_) AllReadyH.nil)
      · refine step_app 94 rfl (.tmp 125) (.tmp 133) rfl (by kernel_rfl) (by kernel_rfl) hrA6 ?_
        refine hK.out _ _ (KS6.out _ GA6.out) (fun hH => ?_)
        clear hK K
        go_simp
        refine wpAnyH_ready (rs := [21]) (by kernel_rfl) (by simp) ?_
        refine AllReadyH.cons rfl (fun K hK => ?_) AllReadyH.nil
        · go_simp
          refine hK.out _ _ (KS6.out _ (grown_al GA6.out _)) (fun hH => ?_)
          clear hK K
          refine wpAnyH_ready (rs := [22]) (by kernel_rfl) (by simp) ?_
          refine AllReadyH.cons rfl (fun K hK => ?_) AllReadyH.nil
          · refine step_app 94 rfl (.tmp 134) (.tmp 140) rfl (by kernel_rfl) (by kernel_rfl) hrA9 ?_
            refine hK.out _ _ (KS6.out _ GA9.out) (fun hH => ?_)
            clear hK K
            go_simp
            refine take_at (i := 23) (v := .pointer (some ⟨R1.mg, p.t, none⟩)) rfl rfl (by kernel_rfl) (by kernel_rfl) (by kernel_rfl) (fun _ _ _ h => h) (Or.inl ⟨by rfl, ?_⟩) hH ?_
            · intro w5 hSw; obtain ⟨s0, s1, s2, s3, s4, s5⟩ := hSw; go_simp
            simp only [List.setIfInBounds_toArray, List.set_cons_zero, List.set_cons_succ]
            refine wpAnyH_ready (rs := [24]) (by kernel_rfl) (by simp) ?_
            refine AllReadyH.cons rfl (fun K hK => ?_) AllReadyH.nil
            · go_simp
              refine hK.out _ _ (KE.out _ _ GA9.out) (fun hH => ?_)
              clear hK K
              refine wpAnyH_done (by kernel_rfl) ?_ _
              refine NoPanic.normal ?_
              obtain ⟨s0, s1, s2, s3, s4, s5⟩ := hH
              go_wp2_with fail
              refine FYA.out.mono ?_
              rintro e w5 ⟨rfl, u5⟩
              have U5 := mkHid u5
              clear u5
              go_wp2_with fail
              go_ret
              exact ⟨rfl, U5.out⟩
      · go_simp
        refine hK.out _ _ ?_ (fun hH => ?_)
        · exact KS6.out _ (by repeat (first | exact grown_refl _ | refine grown_drew ?_ | refine grown_al ?_ _))
        clear hK K
        refine wpAnyH_ready (rs := [15]) (by kernel_rfl) (by simp) ?_
        refine AllReadyH.cons rfl (fun K hK => ?_) AllReadyH.nil
        · refine step_app 94 rfl (.tmp 125) (.tmp 133) rfl (by kernel_rfl) (by kernel_rfl) hrB6 ?_
          refine hK.out _ _ (KS6.out _ GB6.out) (fun hH => ?_)
          clear hK K
          go_simp
          refine wpAnyH_ready (rs := [22]) (by kernel_rfl) (by simp) ?_
          refine AllReadyH.cons rfl (fun K hK => ?_) AllReadyH.nil
          · refine step_app 94 rfl (.tmp 134) (.tmp 140) rfl (by kernel_rfl) (by kernel_rfl) hrB9 ?_
            refine hK.out _ _ (KS6.out _ GB9.out) (fun hH => ?_)
            clear hK K
            go_simp
            refine take_at (i := 23) (v := .pointer (some ⟨R1.mg, p.t, none⟩)) rfl rfl (by kernel_rfl) (by kernel_rfl) (by kernel_rfl) (fun _ _ _ h => h) (Or.inl ⟨by rfl, ?_⟩) hH ?_
            · intro w5 hSw; obtain ⟨s0, s1, s2, s3, s4, s5⟩ := hSw; go_simp
            simp only [List.setIfInBounds_toArray, List.set_cons_zero, List.set_cons_succ]
            refine wpAnyH_ready (rs := [24]) (by kernel_rfl) (by simp) ?_
            refine AllReadyH.cons rfl (fun K hK => ?_) AllReadyH.nil
            · go_simp
              refine hK.out _ _ (KE.out _ _ GB9.out) (fun hH => ?_)
              clear hK K
              refine wpAnyH_done (by kernel_rfl) ?_ _
              refine NoPanic.normal ?_
              obtain ⟨s0, s1, s2, s3, s4, s5⟩ := hH
              go_wp2_with fail
              refine FYB.out.mono ?_
              rintro e w5 ⟨rfl, u5⟩
              have U5 := mkHid u5
              clear u5
              go_wp2_with fail
              go_ret
              exact ⟨rfl, U5.out⟩
    · go_simp
      refine hK.out _ _ ?_ (fun hH => ?_)
      · exact KS6.out _ (by repeat (first | exact grown_refl _ | refine grown_drew ?_ | refine grown_al ?_ _))
      clear hK K
      refine wpAnyH_ready (rs := [14]) (by kernel_rfl) (by simp) ?_
      refine AllReadyH.cons rfl (fun K hK => ?_) AllReadyH.nil
      · go_simp
        refine hK.out _ _ ?_ (fun hH => ?_)
        · exact KS6.out _ (by repeat (first | exact grown_refl _ | refine grown_drew ?_ | refine grown_al ?_ _))
        clear hK K
        refine wpAnyH_ready (rs := [15]) (by kernel_rfl) (by simp) ?_
        refine AllReadyH.cons rfl (fun K hK => ?_) AllReadyH.nil
        · refine step_app 94 rfl (.tmp 125) (.tmp 133) rfl (by kernel_rfl) (by kernel_rfl) hrB6 ?_
          refine hK.out _ _ (KS6.out _ GB6.out) (fun hH => ?_)
          clear hK K
          go_simp
          refine wpAnyH_ready (rs := [22]) (by kernel_rfl) (by simp) ?_
          refine AllReadyH.cons rfl (fun K hK => ?_) AllReadyH.nil
          · refine step_app 94 rfl (.tmp 134) (.tmp 140) rfl (by kernel_rfl) (by kernel_rfl) hrB9 ?_
            refine hK.out _ _ (KS6.out _ GB9.out) (fun hH => ?_)
            clear hK K
            go_simp
            refine take_at (i := 23) (v := .pointer (some ⟨R1.mg, p.t, none⟩)) rfl rfl (by kernel_rfl) (by kernel_rfl) (by kernel_rfl) (fun _ _ _ h => h) (Or.inl ⟨by rfl, ?_⟩) hH ?_
            · intro w5 hSw; obtain ⟨s0, s1, s2, s3, s4, s5⟩ := hSw; go_simp
            simp only [List.setIfInBounds_toArray, List.set_cons_zero, List.set_cons_succ]
            refine wpAnyH_ready (rs := [24]) (by kernel_rfl) (by simp) ?_
            refine AllReadyH.cons rfl (fun K hK => ?_) AllReadyH.nil
            · go_simp
              refine hK.out _ _ (KE.out _ _ GB9.out) (fun hH => ?_)
              clear hK K
              refine wpAnyH_done (by kernel_rfl) ?_ _
              refine NoPanic.normal ?_
              obtain ⟨s0, s1, s2, s3, s4, s5⟩ := hH
              go_wp2_with fail
              refine FYB.out.mono ?_
              rintro e w5 ⟨rfl, u5⟩
              have U5 := mkHid u5
              clear u5
              go_wp2_with fail
              go_ret
              exact ⟨rfl, U5.out⟩
  · go_simp
    refine hK.out _ _ ?_ (fun hH => ?_)
    · exact KS6.out _ (by repeat (first | exact grown_refl _ | refine grown_drew ?_ | refine grown_al ?_ _))
    clear hK K
    refine wpAnyH_ready (rs := [6, 21]) (by kernel_rfl) (by simp) ?_
    refine AllReadyH.cons rfl (fun K hK => ?_) (AllReadyH.cons rfl (fun K hK => ?_) AllReadyH.nil)
    · go_simp
      refine hK.out _ _ ?_ (fun hH => ?_)
      · exact KS6.out _ (by repeat (first | exact grown_refl _ | refine grown_drew ?_ | refine grown_al ?_ _))
      clear hK K
      refine wpAnyH_ready (rs := [15, 21]) (by kernel_rfl) (by simp) ?_
      refine AllReadyH.cons rfl (fun K hK => ?_) (AllReadyH.cons rfl (fun K hK => ?_) AllReadyH.nil)
      · refine step_app 94 rfl (.tmp 125) (.tmp 133) rfl (by kernel_rfl) (by kernel_rfl) hrA6 ?_
        refine hK.out _ _ (KS6.out _ GA6.out) (fun hH => ?_)
        clear hK K
        go_simp
        refine wpAnyH_ready (rs := [21]) (by kernel_rfl) (by simp) ?_
        refine AllReadyH.cons rfl (fun K hK => ?_) AllReadyH.nil
        · go_simp
          refine hK.out _ _ (KS6.out _ (grown_al GA6.out _)) (fun hH => ?_)
          clear hK K
          refine wpAnyH_ready (rs := [22]) (by kernel_rfl) (by simp) ?_
          refine AllReadyH.cons rfl (fun K hK => ?_) AllReadyH.nil
          · refine step_app 94 rfl (.tmp 134) (.tmp 140) rfl (by kernel_rfl) (by kernel_rfl) hrA9 ?_
            refine hK.out _ _ (KS6.out _ GA9.out) (fun hH => ?_)
            clear hK K
            go_simp
            refine take_at (i := 23) (v := .pointer (some ⟨R1.mg, p.t, none⟩)) rfl rfl (by kernel_rfl) (by kernel_rfl) (by kernel_rfl) (fun _ _ _ h => h) (Or.inl ⟨by rfl, ?_⟩) hH ?_
            · intro w5 hSw; obtain ⟨s0, s1, s2, s3, s4, s5⟩ := hSw; go_simp
            simp only [List.setIfInBounds_toArray, List.set_cons_zero, List.set_cons_succ]
            refine wpAnyH_ready (rs := [24]) (by kernel_rfl) (by simp) ?_
            refine AllReadyH.cons rfl (fun K hK => ?_) AllReadyH.nil
            · go_simp
              refine hK.out _ _ (KE.out _ _ GA9.out) (fun hH => ?_)
              clear hK K
              refine wpAnyH_done (by kernel_rfl) ?_ _
              refine NoPanic.normal ?_
              obtain ⟨s0, s1, s2, s3, s4, s5⟩ := hH
              go_wp2_with fail
              refine FYA.out.mono ?_
              rintro e w5 ⟨rfl, u5⟩
              have U5 := mkHid u5
              clear u5
              go_wp2_with fail
              go_ret
              exact ⟨rfl, U5.out⟩
      · go_simp
        refine hK.out _ _ ?_ (fun hH => ?_)
        · exact KS6.out _ (by repeat (first | exact grown_refl _ | refine grown_drew ?_ | refine grown_al ?_ _))
        clear hK K
        refine wpAnyH_ready (rs := [15]) (by kernel_rfl) (by simp) ?_
        refine AllReadyH.cons rfl (fun K hK => ?_) AllReadyH.nil
        · refine step_app 94 rfl (.tmp 125) (.tmp 133) rfl (by kernel_rfl) (by kernel_rfl) hrB6 ?_
          refine hK.out _ _ (KS6.out _ GB6.out) (fun hH => ?_)
          clear hK K
          go_simp
          refine wpAnyH_ready (rs := [22]) (by kernel_rfl) (by simp) ?_
          refine AllReadyH.cons rfl (fun K hK => ?_) AllReadyH.nil
          · refine step_app 94 rfl (.tmp 134) (.tmp 140) rfl (by kernel_rfl) (by kernel_rfl) hrB9 ?_
            refine hK.out _ _ (KS6.out _ GB9.out) (fun hH => ?_)
            clear hK K
            go_simp
            refine take_at (i := 23) (v := .pointer (some ⟨R1.mg, p.t, none⟩)) rfl rfl (by kernel_rfl) (by kernel_rfl) (by kernel_rfl) (fun _ _ _ h => h) (Or.inl ⟨by rfl, ?_⟩) hH ?_
            · intro w5 hSw; obtain ⟨s0, s1, s2, s3, s4, s5⟩ := hSw; go_simp
            simp only [List.setIfInBounds_toArray, List.set_cons_zero, List.set_cons_succ]
            refine wpAnyH_ready (rs := [24]) (by kernel_rfl) (by simp) ?_
            refine AllReadyH.cons rfl (fun K hK => ?_) AllReadyH.nil
            · go_simp
              refine hK.out _ _ (KE.out _ _ GB9.out) (fun hH => ?_)
              clear hK K
              refine wpAnyH_done (by kernel_rfl) ?_ _
              refine NoPanic.normal ?_
              obtain ⟨s0, s1, s2, s3, s4, s5⟩ := hH
              go_wp2_with fail
              refine FYB.out.mono ?_
              rintro e w5 ⟨rfl, u5⟩
              have U5 := mkHid u5
              clear u5
              go_wp2_with fail
              go_ret
              exact ⟨rfl, U5.out⟩
    · go_simp
      refine hK.out _ _ ?_ (fun hH => ?_)
      · exact KS6.out _ (by repeat (first | exact grown_refl _ | refine grown_drew ?_ | refine grown_al ?_ _))
      clear hK K
      refine wpAnyH_ready (rs := [6]) (by kernel_rfl) (by simp) ?_
      refine AllReadyH.cons rfl (fun K hK => ?_) AllReadyH.nil
      · go_simp
        refine hK.out _ _ ?_ (fun hH => ?_)
        · exact KS6.out _ (by repeat (first | exact grown_refl _ | refine grown_drew ?_ | refine grown_al ?_ _))
        clear hK K
        refine wpAnyH_ready (rs := [15]) (by kernel_rfl) (by simp) ?_
        refine AllReadyH.cons rfl (fun K hK => ?_) AllReadyH.nil
        · refine step_app 94 rfl (.tmp 125) (.tmp 133) rfl (by kernel_rfl) (by kernel_rfl) hrC6 ?_
          refine hK.out _ _ (KS6.out _ GC6.out) (fun hH => ?_)
          clear hK K
          go_simp
          refine wpAnyH_ready (rs := [22]) (by kernel_rfl) (by simp) ?_
          refine AllReadyH.cons rfl (fun K hK => ?_) AllReadyH.nil
          · refine step_app 94 rfl (.tmp 134) (.tmp 140) rfl (by kernel_rfl) (by kernel_rfl) hrC9 ?_
            refine hK.out _ _ (KS6.out _ GC9.out) (fun hH => ?_)
            clear hK K
            go_simp
            refine take_at (i := 23) (v := .pointer (some ⟨R1.mg, p.t, none⟩)) rfl rfl (by kernel_rfl) (by kernel_rfl) (by kernel_rfl) (fun _ _ _ h => h) (Or.inl ⟨by rfl, ?_⟩) hH ?_
            · intro w5 hSw; obtain ⟨s0, s1, s2, s3, s4, s5⟩ := hSw; go_simp
            simp only [List.setIfInBounds_toArray, List.set_cons_zero, List.set_cons_succ]
            refine wpAnyH_ready (rs := [24]) (by kernel_rfl) (by simp) ?_
            refine AllReadyH.cons rfl (fun K hK => ?_) AllReadyH.nil
            · go_simp
              refine hK.out _ _ (KE.out _ _ GC9.out) (fun hH => ?_)
              clear hK K
              refine wpAnyH_done (by kernel_rfl) ?_ _
              refine NoPanic.normal ?_
              obtain ⟨s0, s1, s2, s3, s4, s5⟩ := hH
              go_wp2_with fail
              refine FYC.out.mono ?_
              rintro e w5 ⟨rfl, u5⟩
              have U5 := mkHid u5
              clear u5
              go_wp2_with fail
              go_ret
              exact ⟨rfl, U5.out⟩
  · go_simp
    refine hK.out _ _ ?_ (fun hH => ?_)
    · exact KS6.out _ (by repeat (first | exact grown_refl _ | refine grown_drew ?_ | refine grown_al ?_ _))
    clear hK K
    refine wpAnyH_ready (rs := [6, 14]) (by kernel_rfl) (by simp) ?_
    refine AllReadyH.cons rfl (fun K hK => ?_) (AllReadyH.cons rfl (fun K hK => ?_) AllReadyH.nil)
    · go_simp
      refine hK.out _ _ ?_ (fun hH => ?_)
      · exact KS6.out _ (by repeat (first | exact grown_refl _ | refine grown_drew ?_ | refine grown_al ?_ _))
      clear hK K
      refine wpAnyH_ready (rs := [14]) (by kernel_rfl) (by simp) ?_
      refine AllReadyH.cons rfl (fun K hK => ?_) AllReadyH.nil
      · go_simp
        refine hK.out _ _ ?_ (fun hH => ?_)
        · exact KS6.out _ (by repeat (first | exact grown_refl _ | refine grown_drew ?_ | refine grown_al ?_ _))
        clear hK K
        refine wpAnyH_ready (rs := [15]) (by kernel_rfl) (by simp) ?_
        refine AllReadyH.cons rfl (fun K hK => ?_) AllReadyH.nil
        · refine step_app 94 rfl (.tmp 125) (.tmp 133) rfl (by kernel_rfl) (by kernel_rfl) hrC6 ?_
          refine hK.out _ _ (KS6.out _ GC6.out) (fun hH => ?_)
          clear hK K
          go_simp
          refine wpAnyH_ready (rs := [22]) (by kernel_rfl) (by simp) ?_
          refine AllReadyH.cons rfl (fun K hK => ?_) AllReadyH.nil
          · refine step_app 94 rfl (.tmp 134) (.tmp 140) rfl (by kernel_rfl) (by kernel_rfl) hrC9 ?_
            refine hK.out _ _ (KS6.out _ GC9.out) (fun hH => ?_)
            clear hK K
            go_simp
            refine take_at (i := 23) (v := .pointer (some ⟨R1.mg, p.t, none⟩)) rfl rfl (by kernel_rfl) (by kernel_rfl) (by kernel_rfl) (fun _ _ _ h => h) (Or.inl ⟨by rfl, ?_⟩) hH ?_
            · intro w5 hSw; obtain ⟨s0, s1, s2, s3, s4, s5⟩ := hSw; go_simp
            simp only [List.setIfInBounds_toArray, List.set_cons_zero, List.set_cons_succ]
            refine wpAnyH_ready (rs := [24]) (by kernel_rfl) (by simp) ?_
            refine AllReadyH.cons rfl (fun K hK => ?_) AllReadyH.nil
            · go_simp
              refine hK.out _ _ (KE.out _ _ GC9.out) (fun hH => ?_)
              clear hK K
              refine wpAnyH_done (by kernel_rfl) ?_ _
              refine NoPanic.normal ?_
              obtain ⟨s0, s1, s2, s3, s4, s5⟩ := hH
              go_wp2_with fail
              refine FYC.out.mono ?_
              rintro e w5 ⟨rfl, u5⟩
              have U5 := mkHid u5
              clear u5
              go_wp2_with fail
              go_ret
              exact ⟨rfl, U5.out⟩
    · go_simp
      refine hK.out _ _ ?_ (fun hH => ?_)
      · exact KS6.out _ (by repeat (first | exact grown_refl _ | refine grown_drew ?_ | refine grown_al ?_ _))
      clear hK K
      refine wpAnyH_ready (rs := [6]) (by kernel_rfl) (by simp) ?_
      refine AllReadyH.cons rfl (fun K hK => ?_) AllReadyH.nil
      · go_simp
        refine hK.out _ _ ?_ (fun hH => ?_)
        · exact KS6.out _ (by repeat (first | exact grown_refl _ | refine grown_drew ?_ | refine grown_al ?_ _))
        clear hK K
        refine wpAnyH_ready (rs := [15]) (by kernel_rfl) (by simp) ?_
        refine AllReadyH.cons rfl (fun K hK => ?_) AllReadyH.nil
        · refine step_app 94 rfl (.tmp 125) (.tmp 133) rfl (by kernel_rfl) (by kernel_rfl) hrC6 ?_
          refine hK.out _ _ (KS6.out _ GC6.out) (fun hH => ?_)
          clear hK K
          go_simp
          refine wpAnyH_ready (rs := [22]) (by kernel_rfl) (by simp) ?_
          refine AllReadyH.cons rfl (fun K hK => ?_) AllReadyH.nil
          · refine step_app 94 rfl (.tmp 134) (.tmp 140) rfl (by kernel_rfl) (by kernel_rfl) hrC9 ?_
            refine hK.out _ _ (KS6.out _ GC9.out) (fun hH => ?_)
            clear hK K
            go_simp
            refine take_at (i := 23) (v := .pointer (some ⟨R1.mg, p.t, none⟩)) rfl rfl (by kernel_rfl) (by kernel_rfl) (by kernel_rfl) (fun _ _ _ h => h) (Or.inl ⟨by rfl, ?_⟩) hH ?_
            · intro w5 hSw; obtain ⟨s0, s1, s2, s3, s4, s5⟩ := hSw; go_simp
            simp only [List.setIfInBounds_toArray, List.set_cons_zero, List.set_cons_succ]
            refine wpAnyH_ready (rs := [24]) (by kernel_rfl) (by simp) ?_
            refine AllReadyH.cons rfl (fun K hK => ?_) AllReadyH.nil
            · go_simp
              refine hK.out _ _ (KE.out _ _ GC9.out) (fun hH => ?_)
              clear hK K
              refine wpAnyH_done (by kernel_rfl) ?_ _
              refine NoPanic.normal ?_
              obtain ⟨s0, s1, s2, s3, s4, s5⟩ := hH
              go_wp2_with fail
              refine FYC.out.mono ?_
              rintro e w5 ⟨rfl, u5⟩
              have U5 := mkHid u5
              clear u5
              go_wp2_with fail
              go_ret
              exact ⟨rfl, U5.out⟩
end Go.Proofs.Ytbdlamlplfogjaa
