/-
  Walks: the document's net: a message delivered that is not next.
-/
import Derived.Test.YtbdlamlplfogjaaGO
namespace Go.Proofs.Ytbdlamlplfogjaa
open Go.RowKit Go.Maps Go.Joins
variable {Q : Nat → Prop} {w w' : World} {d : Nat} {S : St} {T : Nat → Nat → List ByteArray} {R : Lr}

theorem byV_nil (w : World) (Q : Nat → Prop) : byV w Q (.slice none 0 0) ⟨#[]⟩ := ⟨none, 0, rfl, Or.inl ⟨rfl, rfl⟩, fun a ha => by cases ha⟩
set_option maxHeartbeats 4000000 in
set_option maxRecDepth 100000 in
theorem rDel_msgold (h : RL Q w d S T R) {i : Nat} {p : Pk} (hp : S.fl[i]? = some p) (hl : S.fl.length ≤ 100000) (hf : p.f < S.N) (ht : p.t < S.N) (hdn : S.dn (pkTo p) = false) (hak : p.ack = false) (he : p.e ≠ (S.wy p.f p.t).b + 1) : Calls Try.prog 33 #[.pointer (some ⟨d, 0, none⟩), .int .i64 (i : Int)] w (REQ Q w d (erS S i) T 0) := by
  have TK := mkHid (rTake_at h hp hl)
  have hfr : pkFr p < S.N := by unfold pkFr; split <;> omega
  have hto : pkTo p < S.N := by unfold pkTo; split <;> omega
  have eto : pkTo p = p.t := by unfold pkTo; rw [if_neg (by rw [hak]; simp)]
  have efr : pkFr p = p.f := by unfold pkFr; rw [if_neg (by rw [hak]; simp)]
  rw [eto, efr] at TK
  rw [eto] at hdn
  clear eto efr hfr hto
  have HB := mkHid h.pb
  have he2 : ((p.e : Int) == (((S.wy p.f p.t).b + 1 : Nat) : Int)) = false := by rw [beq_eq_false_iff_ne]; omega
  have he3 : ((p.e : Int) == ((S.wy p.f p.t).b : Int) + 1) = false := by rw [beq_eq_false_iff_ne]; omega
  have HAK := mkHid hak
  clear h hp hl he hak
  go_enter Try.func33, Try.ntmps33
  go_wp2_with fail
  refine TK.out.mono ?_
  rintro e w1 ⟨pb, lb, cb, R1, rfl, hlb, hb, H, C⟩
  have hd1 := H.pb _ H.qd
  have htg := H.pb _ H.qt
  have hyg := H.pb _ H.qy
  obtain ⟨c0, c1, c2, c3, _⟩ := H.cs
  obtain ⟨t0, _⟩ := H.tcell (i := p.t) ht
  rw [show (erS S i).dn p.t = false from hdn] at t0
  have hN : (erS S i).N = S.N := rfl
  rw [hN] at c0 c1 c2
  have i1 : (p.t : Int) < (S.N : Int) := by omega
  have H1 := mkHid H
  have HC := mkHid C
  have Hb := mkHid hb
  clear H C hlb hb TK hN hdn c1 c2 c3 hyg
  go_wp2_with fail
  go_quiet (fail)
  have GW : w1.grownBy ((w1.alloc (.cells #[.int .i64 (p.f : Int), .int .i64 (p.t : Int), .bool p.ack, .int .u64 (p.s : Int), .int .u64 (p.e : Int), .slice pb lb cb] 97)).drewN nq) none := grown_drewN (grown_al (grown_refl _) _) nq
  have BX : ((w1.alloc (.cells #[.int .i64 (p.f : Int), .int .i64 (p.t : Int), .bool p.ack, .int .u64 (p.s : Int), .int .u64 (p.e : Int), .slice pb lb cb] 97)).drewN nq).heap[w1.heap.size]? = some (.cells #[.int .i64 (p.f : Int), .int .i64 (p.t : Int), .bool p.ack, .int .u64 (p.s : Int), .int .u64 (p.e : Int), .slice pb lb cb] 97 (0, 0)) := heap_alloc_new w1 _
  generalize (w1.alloc (.cells #[.int .i64 (p.f : Int), .int .i64 (p.t : Int), .bool p.ack, .int .u64 (p.s : Int), .int .u64 (p.e : Int), .slice pb lb cb] 97)).drewN nq = W2 at GW BX ⊢
  clear c0 t0 htg hd1
  have H2 := H1.out.kept GW
  obtain ⟨c0, c1, c2, c3, _⟩ := H2.cs
  rw [show (erS S i).N = S.N from rfl] at c0 c1 c2
  obtain ⟨b0, b1, b2, b3, b4, b5, bf⟩ := cells6 BX
  have hbs : w1.heap.size < W2.heap.size := lt_of_heap BX
  obtain ⟨y0, y1, y2, y3, y4, yf⟩ := H2.ycell (i := p.f) (j := p.t) hf ht
  rw [show (erS S i).N = S.N from rfl] at y0
  rw [show (erS S i).wy = S.wy from rfl] at y1 y3 y4
  obtain ⟨ps, cs, hes, _⟩ := (H2.sr p.f p.t hf ht).form
  obtain ⟨TL, hTL⟩ : ∃ TL, TL = (T p.f p.t).length := ⟨_, rfl⟩
  rw [hes, ← hTL] at y2
  have KS : Hid (∀ W, W2.grownBy W none → (fun w' : World => w'.cell? ⟨d, 1, none⟩ = some (.slice (some ⟨R1.yg, 0, none⟩) S.N R1.yc) ∧ w'.cell? ⟨R1.yg, p.f, none⟩ = some (.slice (some ⟨R1.yb p.f, 0, none⟩) S.N (R1.yk p.f)) ∧ w'.cell? ⟨R1.yb p.f, p.t * 4, none⟩ = some (.int .u64 (((S.wy p.f p.t).b + 1 : Nat) : Int)) ∧ w'.cell? ⟨R1.yb p.f, p.t * 4 + 1, none⟩ = some (.slice ps TL cs) ∧ w'.cell? ⟨R1.yb p.f, p.t * 4 + 2, none⟩ = some (.int .i64 ((S.wy p.f p.t).t : Int)) ∧ w'.cell? ⟨R1.yb p.f, p.t * 4 + 3, none⟩ = some (.int .i64 ((S.wy p.f p.t).c : Int)) ∧ w'.cell? ⟨w1.heap.size, 0, none⟩ = some (.int .i64 (p.f : Int)) ∧ w'.cell? ⟨w1.heap.size, 1, none⟩ = some (.int .i64 (p.t : Int))) W) := fun W g => ⟨g.cell c1 (by simp), g.cell y0 (by simp), g.cell y1 (by simp), g.cell y2 (by simp), g.cell y3 (by simp), g.cell y4 (by simp), g.cell b0 (by simp), g.cell b1 (by simp)⟩
  have i2 : (p.f : Int) < (S.N : Int) := by omega
  have i3 : (p.t : Int) < (S.N : Int) := by omega
  have U : Hid (∀ W, W2.grownBy W none → RU Q w d (erS S i) T W) := fun W g => RU.grow ⟨R1, H1.out, HC.out⟩ HB.out (grown_none_trans GW g)
  rw [HAK.out] at b2
  clear H2 BX GW hes hTL yf bf y0 y1 y2 y3 y4 c0 c1 c2 c3
  go_wp2_with fail
  go_region_held3 (fun w' : World => w'.cell? ⟨d, 1, none⟩ = some (.slice (some ⟨R1.yg, 0, none⟩) S.N R1.yc) ∧ w'.cell? ⟨R1.yg, p.f, none⟩ = some (.slice (some ⟨R1.yb p.f, 0, none⟩) S.N (R1.yk p.f)) ∧ w'.cell? ⟨R1.yb p.f, p.t * 4, none⟩ = some (.int .u64 (((S.wy p.f p.t).b + 1 : Nat) : Int)) ∧ w'.cell? ⟨R1.yb p.f, p.t * 4 + 1, none⟩ = some (.slice ps TL cs) ∧ w'.cell? ⟨R1.yb p.f, p.t * 4 + 2, none⟩ = some (.int .i64 ((S.wy p.f p.t).t : Int)) ∧ w'.cell? ⟨R1.yb p.f, p.t * 4 + 3, none⟩ = some (.int .i64 ((S.wy p.f p.t).c : Int)) ∧ w'.cell? ⟨w1.heap.size, 0, none⟩ = some (.int .i64 (p.f : Int)) ∧ w'.cell? ⟨w1.heap.size, 1, none⟩ = some (.int .i64 (p.t : Int))) (exact KS.out _ (by repeat (first | exact grown_refl _ | refine grown_drew ?_ | refine grown_al ?_ _))) (fail)
  go_wp2_with fail
  go_ret
  exact ⟨rfl, U.out _ (by repeat (first | exact grown_refl _ | refine grown_drew ?_ | refine grown_al ?_ _))⟩
set_option maxHeartbeats 4000000 in
set_option maxRecDepth 100000 in
theorem rDel_msgagain (h : RL Q w d S T R) {i : Nat} {p : Pk} (hp : S.fl[i]? = some p) (hl : S.fl.length ≤ 100000) (hf : p.f < S.N) (ht : p.t < S.N) (hdn : S.dn (pkTo p) = false) (hak : p.ack = false) (he : p.e = (S.wy p.f p.t).b + 1) (hcc : (S.wy p.f p.t).c ≤ 10000000) (hs : p.s ≠ (S.wy p.f p.t).c + 1) : Calls Try.prog 33 #[.pointer (some ⟨d, 0, none⟩), .int .i64 (i : Int)] w (REQ Q w d (flyS (erS S i) (ackP p (S.wy p.f p.t).c)) T 0) := by
  have TK := mkHid (rTake_at h hp hl)
  have hfr : pkFr p < S.N := by unfold pkFr; split <;> omega
  have hto : pkTo p < S.N := by unfold pkTo; split <;> omega
  have eto : pkTo p = p.t := by unfold pkTo; rw [if_neg (by rw [hak]; simp)]
  have efr : pkFr p = p.f := by unfold pkFr; rw [if_neg (by rw [hak]; simp)]
  rw [eto, efr] at TK
  rw [eto] at hdn
  clear eto efr hfr hto
  have HB := mkHid h.pb
  have he2 : ((p.e : Int) == (((S.wy p.f p.t).b + 1 : Nat) : Int)) = true := by rw [beq_iff_eq]; omega
  have he3 : ((p.e : Int) == ((S.wy p.f p.t).b : Int) + 1) = true := by rw [beq_iff_eq]; omega
  have hs2 : ((p.s : Int) == ((S.wy p.f p.t).c : Int) + 1) = false := by rw [beq_eq_false_iff_ne]; omega
  have i8 : IntKind.i64.wrap (((S.wy p.f p.t).c : Int) + 1) = ((S.wy p.f p.t).c : Int) + 1 := by rw [IntKind.wrap_i64]; omega
  have i9 : IntKind.u64.wrap (((S.wy p.f p.t).c : Int) + 1) = ((S.wy p.f p.t).c : Int) + 1 := u64w (by omega) (by omega)
  have i10 : IntKind.u64.wrap ((S.wy p.f p.t).c : Int) = ((S.wy p.f p.t).c : Int) := u64w (by omega) (by omega)
  have HAK := mkHid hak
  clear h hp hl he hak hs hcc
  go_enter Try.func33, Try.ntmps33
  go_wp2_with fail
  refine TK.out.mono ?_
  rintro e w1 ⟨pb, lb, cb, R1, rfl, hlb, hb, H, C⟩
  have hd1 := H.pb _ H.qd
  have htg := H.pb _ H.qt
  have hyg := H.pb _ H.qy
  obtain ⟨c0, c1, c2, c3, _⟩ := H.cs
  obtain ⟨t0, _⟩ := H.tcell (i := p.t) ht
  rw [show (erS S i).dn p.t = false from hdn] at t0
  have hN : (erS S i).N = S.N := rfl
  rw [hN] at c0 c1 c2
  have i1 : (p.t : Int) < (S.N : Int) := by omega
  have H1 := mkHid H
  have HC := mkHid C
  have Hb := mkHid hb
  clear H C hlb hb TK hN hdn c1 c2 c3 hyg
  go_wp2_with fail
  go_quiet (fail)
  have GW : w1.grownBy ((w1.alloc (.cells #[.int .i64 (p.f : Int), .int .i64 (p.t : Int), .bool p.ack, .int .u64 (p.s : Int), .int .u64 (p.e : Int), .slice pb lb cb] 97)).drewN nq) none := grown_drewN (grown_al (grown_refl _) _) nq
  have BX : ((w1.alloc (.cells #[.int .i64 (p.f : Int), .int .i64 (p.t : Int), .bool p.ack, .int .u64 (p.s : Int), .int .u64 (p.e : Int), .slice pb lb cb] 97)).drewN nq).heap[w1.heap.size]? = some (.cells #[.int .i64 (p.f : Int), .int .i64 (p.t : Int), .bool p.ack, .int .u64 (p.s : Int), .int .u64 (p.e : Int), .slice pb lb cb] 97 (0, 0)) := heap_alloc_new w1 _
  generalize (w1.alloc (.cells #[.int .i64 (p.f : Int), .int .i64 (p.t : Int), .bool p.ack, .int .u64 (p.s : Int), .int .u64 (p.e : Int), .slice pb lb cb] 97)).drewN nq = W2 at GW BX ⊢
  clear c0 t0 htg hd1
  have H2 := H1.out.kept GW
  obtain ⟨c0, c1, c2, c3, _⟩ := H2.cs
  rw [show (erS S i).N = S.N from rfl] at c0 c1 c2
  obtain ⟨b0, b1, b2, b3, b4, b5, bf⟩ := cells6 BX
  have hbs : w1.heap.size < W2.heap.size := lt_of_heap BX
  obtain ⟨y0, y1, y2, y3, y4, yf⟩ := H2.ycell (i := p.f) (j := p.t) hf ht
  rw [show (erS S i).N = S.N from rfl] at y0
  rw [show (erS S i).wy = S.wy from rfl] at y1 y3 y4
  obtain ⟨ps, cs, hes, _⟩ := (H2.sr p.f p.t hf ht).form
  obtain ⟨TL, hTL⟩ : ∃ TL, TL = (T p.f p.t).length := ⟨_, rfl⟩
  rw [hes, ← hTL] at y2
  have KS : Hid (∀ W, W2.grownBy W none → (fun w' : World => w'.cell? ⟨d, 1, none⟩ = some (.slice (some ⟨R1.yg, 0, none⟩) S.N R1.yc) ∧ w'.cell? ⟨R1.yg, p.f, none⟩ = some (.slice (some ⟨R1.yb p.f, 0, none⟩) S.N (R1.yk p.f)) ∧ w'.cell? ⟨R1.yb p.f, p.t * 4, none⟩ = some (.int .u64 (((S.wy p.f p.t).b + 1 : Nat) : Int)) ∧ w'.cell? ⟨R1.yb p.f, p.t * 4 + 1, none⟩ = some (.slice ps TL cs) ∧ w'.cell? ⟨R1.yb p.f, p.t * 4 + 2, none⟩ = some (.int .i64 ((S.wy p.f p.t).t : Int)) ∧ w'.cell? ⟨R1.yb p.f, p.t * 4 + 3, none⟩ = some (.int .i64 ((S.wy p.f p.t).c : Int)) ∧ w'.cell? ⟨w1.heap.size, 0, none⟩ = some (.int .i64 (p.f : Int)) ∧ w'.cell? ⟨w1.heap.size, 1, none⟩ = some (.int .i64 (p.t : Int))) W) := fun W g => ⟨g.cell c1 (by simp), g.cell y0 (by simp), g.cell y1 (by simp), g.cell y2 (by simp), g.cell y3 (by simp), g.cell y4 (by simp), g.cell b0 (by simp), g.cell b1 (by simp)⟩
  have i2 : (p.f : Int) < (S.N : Int) := by omega
  have i3 : (p.t : Int) < (S.N : Int) := by omega
  rw [HAK.out] at b2
  have FY : Hid (∀ W, W2.grownBy W none → Calls Try.prog 58 #[.pointer (some ⟨d, 0, none⟩), .agg #[.int .i64 (p.t : Int), .int .i64 (p.f : Int), .bool true, .int .u64 ((S.wy p.f p.t).c : Int), .int .u64 (p.e : Int), .slice none 0 0]] W fun e w' => e = .returned (.tuple #[]) ∧ RU Q w d (flyS (erS S i) (ackP p (S.wy p.f p.t).c)) T w') := fun W g => by
    refine (rFly_any (H2.kept g) (ackP p (S.wy p.f p.t).c) (byV_nil W _)).mono ?_
    rintro e w5 ⟨rfl, U⟩
    exact ⟨rfl, RU.then HB.out (HC.out.trans (Chg.of_none (grown_none_trans GW g) _)) (fun x hx => by
      rcases hx with e | e
      · exact Or.inl e
      · exact Or.inr ⟨e.1, Nat.lt_of_lt_of_le e.2 (Nat.le_trans GW.size g.size)⟩) U⟩
  clear H2 BX GW hes hTL yf bf y0 y1 y2 y3 y4 c0 c1 c2 c3
  go_wp2_with fail
  go_region_held3 (fun w' : World => w'.cell? ⟨d, 1, none⟩ = some (.slice (some ⟨R1.yg, 0, none⟩) S.N R1.yc) ∧ w'.cell? ⟨R1.yg, p.f, none⟩ = some (.slice (some ⟨R1.yb p.f, 0, none⟩) S.N (R1.yk p.f)) ∧ w'.cell? ⟨R1.yb p.f, p.t * 4, none⟩ = some (.int .u64 (((S.wy p.f p.t).b + 1 : Nat) : Int)) ∧ w'.cell? ⟨R1.yb p.f, p.t * 4 + 1, none⟩ = some (.slice ps TL cs) ∧ w'.cell? ⟨R1.yb p.f, p.t * 4 + 2, none⟩ = some (.int .i64 ((S.wy p.f p.t).t : Int)) ∧ w'.cell? ⟨R1.yb p.f, p.t * 4 + 3, none⟩ = some (.int .i64 ((S.wy p.f p.t).c : Int)) ∧ w'.cell? ⟨w1.heap.size, 0, none⟩ = some (.int .i64 (p.f : Int)) ∧ w'.cell? ⟨w1.heap.size, 1, none⟩ = some (.int .i64 (p.t : Int))) (exact KS.out _ (by repeat (first | exact grown_refl _ | refine grown_drew ?_ | refine grown_al ?_ _))) (fail)
  go_wp2_with fail
  refine (FY.out _ (by repeat (first | exact grown_refl _ | refine grown_drew ?_ | refine grown_al ?_ _))).mono ?_
  rintro e w5 ⟨rfl, u5⟩
  have U5 := mkHid u5
  clear u5
  go_wp2_with fail
  go_ret
  exact ⟨rfl, U5.out⟩
end Go.Proofs.Ytbdlamlplfogjaa
