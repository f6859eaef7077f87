/-
  Walks: the document's net: an ack delivered.
-/
import Derived.Test.YtbdlamlplfogjaaGF
namespace Go.Proofs.Ytbdlamlplfogjaa
open Go.RowKit Go.Maps Go.Joins
variable {Q : Nat → Prop} {w w' : World} {d : Nat} {S : St} {T : Nat → Nat → List ByteArray} {R : Lr}

set_option maxHeartbeats 4000000 in
set_option maxRecDepth 100000 in
theorem rDel_ackold (h : RL Q w d S T R) {i : Nat} {p : Pk} (hp : S.fl[i]? = some p) (hl : S.fl.length ≤ 100000) (hf : p.f < S.N) (ht : p.t < S.N) (hdn : S.dn (pkTo p) = false) (hak : p.ack = true) (he : p.e ≠ (S.wy p.f p.t).b + 1) : Calls Try.prog 33 #[.pointer (some ⟨d, 0, none⟩), .int .i64 (i : Int)] w (REQ Q w d (erS S i) T 0) := by
  have TK := mkHid (rTake_at h hp hl)
  have hfr : pkFr p < S.N := by unfold pkFr; split <;> omega
  have hto : pkTo p < S.N := by unfold pkTo; split <;> omega
  have eto : pkTo p = p.f := by unfold pkTo; rw [if_pos hak]
  have efr : pkFr p = p.t := by unfold pkFr; rw [if_pos hak]
  rw [eto, efr] at TK
  rw [eto] at hdn
  clear eto efr hfr hto
  have HB := mkHid h.pb
  have HF := mkHid (And.intro hf ht)
  have he2 : ((p.e : Int) == (((S.wy p.f p.t).b + 1 : Nat) : Int)) = false := by rw [beq_eq_false_iff_ne]; omega
  have he3 : ((p.e : Int) == ((S.wy p.f p.t).b : Int) + 1) = false := by rw [beq_eq_false_iff_ne]; omega
  have HAK := mkHid hak
  clear h hp hl he hak
  go_enter Try.func33, Try.ntmps33
  go_wp2_with fail
  refine TK.out.mono ?_
  rintro e w1 ⟨pb, lb, cb, R1, rfl, hlb, hb, H, C⟩
  have hd1 := H.pb _ H.qd
  have htg := H.pb _ H.qt
  have hyg := H.pb _ H.qy
  obtain ⟨c0, c1, c2, c3, _⟩ := H.cs
  obtain ⟨t0, _⟩ := H.tcell (i := p.f) hf
  rw [show (erS S i).dn p.f = false from hdn] at t0
  have hN : (erS S i).N = S.N := rfl
  rw [hN] at c0 c1 c2
  have i1 : (p.f : Int) < (S.N : Int) := by omega
  have H1 := mkHid H
  have HC := mkHid C
  have Hb := mkHid hb
  clear H C hlb hb TK hN hdn c1 c2 c3 hyg
  go_wp2_with fail
  go_quiet (fail)
  have GW : w1.grownBy ((w1.alloc (.cells #[.int .i64 (p.t : Int), .int .i64 (p.f : Int), .bool p.ack, .int .u64 (p.s : Int), .int .u64 (p.e : Int), .slice pb lb cb] 97)).drewN nq) none := grown_drewN (grown_al (grown_refl _) _) nq
  have BX : ((w1.alloc (.cells #[.int .i64 (p.t : Int), .int .i64 (p.f : Int), .bool p.ack, .int .u64 (p.s : Int), .int .u64 (p.e : Int), .slice pb lb cb] 97)).drewN nq).heap[w1.heap.size]? = some (.cells #[.int .i64 (p.t : Int), .int .i64 (p.f : Int), .bool p.ack, .int .u64 (p.s : Int), .int .u64 (p.e : Int), .slice pb lb cb] 97 (0, 0)) := heap_alloc_new w1 _
  generalize (w1.alloc (.cells #[.int .i64 (p.t : Int), .int .i64 (p.f : Int), .bool p.ack, .int .u64 (p.s : Int), .int .u64 (p.e : Int), .slice pb lb cb] 97)).drewN nq = W2 at GW BX ⊢
  clear c0 t0 htg hd1
  have H2 := H1.out.kept GW
  obtain ⟨c0, c1, c2, c3, _⟩ := H2.cs
  rw [show (erS S i).N = S.N from rfl] at c0 c1 c2
  obtain ⟨b0, b1, b2, b3, b4, b5, bf⟩ := cells6 BX
  have hbs : w1.heap.size < W2.heap.size := lt_of_heap BX
  obtain ⟨y0, y1, y2, y3, y4, yf⟩ := H2.ycell (i := p.f) (j := p.t) hf ht
  rw [show (erS S i).N = S.N from rfl] at y0
  rw [show (erS S i).wy = S.wy from rfl] at y1 y3 y4
  obtain ⟨ps, cs, hes, _⟩ := (H2.sr p.f p.t hf ht).form
  obtain ⟨TL, hTL⟩ : ∃ TL, TL = (T p.f p.t).length := ⟨_, rfl⟩
  rw [hes, ← hTL] at y2
  have KS : Hid (∀ W, W2.grownBy W none → (fun w' : World => w'.cell? ⟨d, 1, none⟩ = some (.slice (some ⟨R1.yg, 0, none⟩) S.N R1.yc) ∧ w'.cell? ⟨R1.yg, p.f, none⟩ = some (.slice (some ⟨R1.yb p.f, 0, none⟩) S.N (R1.yk p.f)) ∧ w'.cell? ⟨R1.yb p.f, p.t * 4, none⟩ = some (.int .u64 (((S.wy p.f p.t).b + 1 : Nat) : Int)) ∧ w'.cell? ⟨R1.yb p.f, p.t * 4 + 1, none⟩ = some (.slice ps TL cs) ∧ w'.cell? ⟨R1.yb p.f, p.t * 4 + 2, none⟩ = some (.int .i64 ((S.wy p.f p.t).t : Int)) ∧ w'.cell? ⟨R1.yb p.f, p.t * 4 + 3, none⟩ = some (.int .i64 ((S.wy p.f p.t).c : Int)) ∧ w'.cell? ⟨w1.heap.size, 0, none⟩ = some (.int .i64 (p.t : Int)) ∧ w'.cell? ⟨w1.heap.size, 1, none⟩ = some (.int .i64 (p.f : Int))) W) := fun W g => ⟨g.cell c1 (by simp), g.cell y0 (by simp), g.cell y1 (by simp), g.cell y2 (by simp), g.cell y3 (by simp), g.cell y4 (by simp), g.cell b0 (by simp), g.cell b1 (by simp)⟩
  have i2 : (p.f : Int) < (S.N : Int) := by omega
  have i3 : (p.t : Int) < (S.N : Int) := by omega
  have U : Hid (∀ W, W2.grownBy W none → RU Q w d (erS S i) T W) := fun W g => RU.grow ⟨R1, H1.out, HC.out⟩ HB.out (grown_none_trans GW g)
  rw [HAK.out] at b2
  clear H2 BX GW hes hTL yf bf y0 y1 y2 y3 y4 c0 c1 c2 c3
  go_wp2_with fail
  go_region_held3 (fun w' : World => w'.cell? ⟨d, 1, none⟩ = some (.slice (some ⟨R1.yg, 0, none⟩) S.N R1.yc) ∧ w'.cell? ⟨R1.yg, p.f, none⟩ = some (.slice (some ⟨R1.yb p.f, 0, none⟩) S.N (R1.yk p.f)) ∧ w'.cell? ⟨R1.yb p.f, p.t * 4, none⟩ = some (.int .u64 (((S.wy p.f p.t).b + 1 : Nat) : Int)) ∧ w'.cell? ⟨R1.yb p.f, p.t * 4 + 1, none⟩ = some (.slice ps TL cs) ∧ w'.cell? ⟨R1.yb p.f, p.t * 4 + 2, none⟩ = some (.int .i64 ((S.wy p.f p.t).t : Int)) ∧ w'.cell? ⟨R1.yb p.f, p.t * 4 + 3, none⟩ = some (.int .i64 ((S.wy p.f p.t).c : Int)) ∧ w'.cell? ⟨w1.heap.size, 0, none⟩ = some (.int .i64 (p.t : Int)) ∧ w'.cell? ⟨w1.heap.size, 1, none⟩ = some (.int .i64 (p.f : Int))) (exact KS.out _ (by repeat (first | exact grown_refl _ | refine grown_drew ?_ | refine grown_al ?_ _))) (fail)
  go_wp2_with fail
  go_ret
  exact ⟨rfl, U.out _ (by repeat (first | exact grown_refl _ | refine grown_drew ?_ | refine grown_al ?_ _))⟩
set_option maxHeartbeats 4000000 in
set_option maxRecDepth 100000 in
theorem rDel_acklow (h : RL Q w d S T R) {i : Nat} {p : Pk} (hp : S.fl[i]? = some p) (hl : S.fl.length ≤ 100000) (hf : p.f < S.N) (ht : p.t < S.N) (hdn : S.dn (pkTo p) = false) (hak : p.ack = true) (he : p.e = (S.wy p.f p.t).b + 1) (hT : (T p.f p.t).length ≤ 5000000) (htT : (S.wy p.f p.t).t ≤ 5000000) (hs : p.s ≤ (S.wy p.f p.t).t) : Calls Try.prog 33 #[.pointer (some ⟨d, 0, none⟩), .int .i64 (i : Int)] w (REQ Q w d (erS S i) T 0) := by
  have TK := mkHid (rTake_at h hp hl)
  have hfr : pkFr p < S.N := by unfold pkFr; split <;> omega
  have hto : pkTo p < S.N := by unfold pkTo; split <;> omega
  have eto : pkTo p = p.f := by unfold pkTo; rw [if_pos hak]
  have efr : pkFr p = p.t := by unfold pkFr; rw [if_pos hak]
  rw [eto, efr] at TK
  rw [eto] at hdn
  clear eto efr hfr hto
  have HB := mkHid h.pb
  have he2 : ((p.e : Int) == (((S.wy p.f p.t).b + 1 : Nat) : Int)) = true := by rw [beq_iff_eq]; omega
  have he3 : ((p.e : Int) == ((S.wy p.f p.t).b : Int) + 1) = true := by rw [beq_iff_eq]; omega
  have HE := mkHid he
  have HAK := mkHid hak
  have HT := mkHid hT
  clear h hp hl he hak hT
  go_enter Try.func33, Try.ntmps33
  go_wp2_with fail
  refine TK.out.mono ?_
  rintro e w1 ⟨pb, lb, cb, R1, rfl, hlb, hb, H, C⟩
  have hd1 := H.pb _ H.qd
  have htg := H.pb _ H.qt
  have hyg := H.pb _ H.qy
  obtain ⟨c0, c1, c2, c3, _⟩ := H.cs
  obtain ⟨t0, _⟩ := H.tcell (i := p.f) hf
  rw [show (erS S i).dn p.f = false from hdn] at t0
  have hN : (erS S i).N = S.N := rfl
  rw [hN] at c0 c1 c2
  have i1 : (p.f : Int) < (S.N : Int) := by omega
  have H1 := mkHid H
  have HC := mkHid C
  have Hb := mkHid hb
  clear H C hlb hb TK hN hdn c1 c2 c3 hyg
  go_wp2_with fail
  go_quiet (fail)
  have GW : w1.grownBy ((w1.alloc (.cells #[.int .i64 (p.t : Int), .int .i64 (p.f : Int), .bool p.ack, .int .u64 (p.s : Int), .int .u64 (p.e : Int), .slice pb lb cb] 97)).drewN nq) none := grown_drewN (grown_al (grown_refl _) _) nq
  have BX : ((w1.alloc (.cells #[.int .i64 (p.t : Int), .int .i64 (p.f : Int), .bool p.ack, .int .u64 (p.s : Int), .int .u64 (p.e : Int), .slice pb lb cb] 97)).drewN nq).heap[w1.heap.size]? = some (.cells #[.int .i64 (p.t : Int), .int .i64 (p.f : Int), .bool p.ack, .int .u64 (p.s : Int), .int .u64 (p.e : Int), .slice pb lb cb] 97 (0, 0)) := heap_alloc_new w1 _
  generalize (w1.alloc (.cells #[.int .i64 (p.t : Int), .int .i64 (p.f : Int), .bool p.ack, .int .u64 (p.s : Int), .int .u64 (p.e : Int), .slice pb lb cb] 97)).drewN nq = W2 at GW BX ⊢
  clear c0 t0 htg hd1
  have H2 := H1.out.kept GW
  obtain ⟨c0, c1, c2, c3, _⟩ := H2.cs
  rw [show (erS S i).N = S.N from rfl] at c0 c1 c2
  obtain ⟨b0, b1, b2, b3, b4, b5, bf⟩ := cells6 BX
  have hbs : w1.heap.size < W2.heap.size := lt_of_heap BX
  obtain ⟨y0, y1, y2, y3, y4, yf⟩ := H2.ycell (i := p.f) (j := p.t) hf ht
  rw [show (erS S i).N = S.N from rfl] at y0
  rw [show (erS S i).wy = S.wy from rfl] at y1 y3 y4
  obtain ⟨ps, cs, hes, _⟩ := (H2.sr p.f p.t hf ht).form
  obtain ⟨TL, hTL⟩ : ∃ TL, TL = (T p.f p.t).length := ⟨_, rfl⟩
  rw [hes, ← hTL] at y2
  have KS : Hid (∀ W, W2.grownBy W none → (fun w' : World => w'.cell? ⟨d, 1, none⟩ = some (.slice (some ⟨R1.yg, 0, none⟩) S.N R1.yc) ∧ w'.cell? ⟨R1.yg, p.f, none⟩ = some (.slice (some ⟨R1.yb p.f, 0, none⟩) S.N (R1.yk p.f)) ∧ w'.cell? ⟨R1.yb p.f, p.t * 4, none⟩ = some (.int .u64 (((S.wy p.f p.t).b + 1 : Nat) : Int)) ∧ w'.cell? ⟨R1.yb p.f, p.t * 4 + 1, none⟩ = some (.slice ps TL cs) ∧ w'.cell? ⟨R1.yb p.f, p.t * 4 + 2, none⟩ = some (.int .i64 ((S.wy p.f p.t).t : Int)) ∧ w'.cell? ⟨R1.yb p.f, p.t * 4 + 3, none⟩ = some (.int .i64 ((S.wy p.f p.t).c : Int)) ∧ w'.cell? ⟨w1.heap.size, 0, none⟩ = some (.int .i64 (p.t : Int)) ∧ w'.cell? ⟨w1.heap.size, 1, none⟩ = some (.int .i64 (p.f : Int))) W) := fun W g => ⟨g.cell c1 (by simp), g.cell y0 (by simp), g.cell y1 (by simp), g.cell y2 (by simp), g.cell y3 (by simp), g.cell y4 (by simp), g.cell b0 (by simp), g.cell b1 (by simp)⟩
  have i2 : (p.f : Int) < (S.N : Int) := by omega
  have i3 : (p.t : Int) < (S.N : Int) := by omega
  have U : Hid (∀ W, W2.grownBy W none → RU Q w d (erS S i) T W) := fun W g => RU.grow ⟨R1, H1.out, HC.out⟩ HB.out (grown_none_trans GW g)
  have i6 : ¬ ((S.wy p.f p.t).t : Int) < (p.s : Int) := by omega
  clear H2 BX GW hes yf bf y0 y1 y2 y3 y4 c0 c1 c2 c3 hs
  rw [HAK.out] at b2
  have hTL5 : TL ≤ 5000000 := by rw [hTL]; exact HT.out
  have i4 : IntKind.u64.wrap ((S.wy p.f p.t).t : Int) = ((S.wy p.f p.t).t : Int) := u64w (by omega) (by omega)
  have i5 : IntKind.u64.wrap (TL : Int) = (TL : Int) := u64w (by omega) (by omega)
  clear hTL htT
  go_wp2_with fail
  go_region_held3 (fun w' : World => w'.cell? ⟨d, 1, none⟩ = some (.slice (some ⟨R1.yg, 0, none⟩) S.N R1.yc) ∧ w'.cell? ⟨R1.yg, p.f, none⟩ = some (.slice (some ⟨R1.yb p.f, 0, none⟩) S.N (R1.yk p.f)) ∧ w'.cell? ⟨R1.yb p.f, p.t * 4, none⟩ = some (.int .u64 (((S.wy p.f p.t).b + 1 : Nat) : Int)) ∧ w'.cell? ⟨R1.yb p.f, p.t * 4 + 1, none⟩ = some (.slice ps TL cs) ∧ w'.cell? ⟨R1.yb p.f, p.t * 4 + 2, none⟩ = some (.int .i64 ((S.wy p.f p.t).t : Int)) ∧ w'.cell? ⟨R1.yb p.f, p.t * 4 + 3, none⟩ = some (.int .i64 ((S.wy p.f p.t).c : Int)) ∧ w'.cell? ⟨w1.heap.size, 0, none⟩ = some (.int .i64 (p.t : Int)) ∧ w'.cell? ⟨w1.heap.size, 1, none⟩ = some (.int .i64 (p.f : Int))) (exact KS.out _ (by repeat (first | exact grown_refl _ | refine grown_drew ?_ | refine grown_al ?_ _))) (fail)
  go_wp2_with fail
  go_ret
  exact ⟨rfl, U.out _ (by repeat (first | exact grown_refl _ | refine grown_drew ?_ | refine grown_al ?_ _))⟩
set_option maxHeartbeats 4000000 in
set_option maxRecDepth 100000 in
theorem rDel_ackhigh (h : RL Q w d S T R) {i : Nat} {p : Pk} (hp : S.fl[i]? = some p) (hl : S.fl.length ≤ 100000) (hf : p.f < S.N) (ht : p.t < S.N) (hdn : S.dn (pkTo p) = false) (hak : p.ack = true) (he : p.e = (S.wy p.f p.t).b + 1) (hT : (T p.f p.t).length ≤ 5000000) (htT : (S.wy p.f p.t).t ≤ 5000000) (hs1 : (S.wy p.f p.t).t < p.s) (hs : (T p.f p.t).length < p.s) : Calls Try.prog 33 #[.pointer (some ⟨d, 0, none⟩), .int .i64 (i : Int)] w (REQ Q w d (erS S i) T 0) := by
  have TK := mkHid (rTake_at h hp hl)
  have hfr : pkFr p < S.N := by unfold pkFr; split <;> omega
  have hto : pkTo p < S.N := by unfold pkTo; split <;> omega
  have eto : pkTo p = p.f := by unfold pkTo; rw [if_pos hak]
  have efr : pkFr p = p.t := by unfold pkFr; rw [if_pos hak]
  rw [eto, efr] at TK
  rw [eto] at hdn
  clear eto efr hfr hto
  have HB := mkHid h.pb
  have he2 : ((p.e : Int) == (((S.wy p.f p.t).b + 1 : Nat) : Int)) = true := by rw [beq_iff_eq]; omega
  have he3 : ((p.e : Int) == ((S.wy p.f p.t).b : Int) + 1) = true := by rw [beq_iff_eq]; omega
  have HE := mkHid he
  have HAK := mkHid hak
  have HT := mkHid hT
  clear h hp hl he hak hT
  go_enter Try.func33, Try.ntmps33
  go_wp2_with fail
  refine TK.out.mono ?_
  rintro e w1 ⟨pb, lb, cb, R1, rfl, hlb, hb, H, C⟩
  have hd1 := H.pb _ H.qd
  have htg := H.pb _ H.qt
  have hyg := H.pb _ H.qy
  obtain ⟨c0, c1, c2, c3, _⟩ := H.cs
  obtain ⟨t0, _⟩ := H.tcell (i := p.f) hf
  rw [show (erS S i).dn p.f = false from hdn] at t0
  have hN : (erS S i).N = S.N := rfl
  rw [hN] at c0 c1 c2
  have i1 : (p.f : Int) < (S.N : Int) := by omega
  have H1 := mkHid H
  have HC := mkHid C
  have Hb := mkHid hb
  clear H C hlb hb TK hN hdn c1 c2 c3 hyg
  go_wp2_with fail
  go_quiet (fail)
  have GW : w1.grownBy ((w1.alloc (.cells #[.int .i64 (p.t : Int), .int .i64 (p.f : Int), .bool p.ack, .int .u64 (p.s : Int), .int .u64 (p.e : Int), .slice pb lb cb] 97)).drewN nq) none := grown_drewN (grown_al (grown_refl _) _) nq
  have BX : ((w1.alloc (.cells #[.int .i64 (p.t : Int), .int .i64 (p.f : Int), .bool p.ack, .int .u64 (p.s : Int), .int .u64 (p.e : Int), .slice pb lb cb] 97)).drewN nq).heap[w1.heap.size]? = some (.cells #[.int .i64 (p.t : Int), .int .i64 (p.f : Int), .bool p.ack, .int .u64 (p.s : Int), .int .u64 (p.e : Int), .slice pb lb cb] 97 (0, 0)) := heap_alloc_new w1 _
  generalize (w1.alloc (.cells #[.int .i64 (p.t : Int), .int .i64 (p.f : Int), .bool p.ack, .int .u64 (p.s : Int), .int .u64 (p.e : Int), .slice pb lb cb] 97)).drewN nq = W2 at GW BX ⊢
  clear c0 t0 htg hd1
  have H2 := H1.out.kept GW
  obtain ⟨c0, c1, c2, c3, _⟩ := H2.cs
  rw [show (erS S i).N = S.N from rfl] at c0 c1 c2
  obtain ⟨b0, b1, b2, b3, b4, b5, bf⟩ := cells6 BX
  have hbs : w1.heap.size < W2.heap.size := lt_of_heap BX
  obtain ⟨y0, y1, y2, y3, y4, yf⟩ := H2.ycell (i := p.f) (j := p.t) hf ht
  rw [show (erS S i).N = S.N from rfl] at y0
  rw [show (erS S i).wy = S.wy from rfl] at y1 y3 y4
  obtain ⟨ps, cs, hes, _⟩ := (H2.sr p.f p.t hf ht).form
  obtain ⟨TL, hTL⟩ : ∃ TL, TL = (T p.f p.t).length := ⟨_, rfl⟩
  rw [hes, ← hTL] at y2
  have KS : Hid (∀ W, W2.grownBy W none → (fun w' : World => w'.cell? ⟨d, 1, none⟩ = some (.slice (some ⟨R1.yg, 0, none⟩) S.N R1.yc) ∧ w'.cell? ⟨R1.yg, p.f, none⟩ = some (.slice (some ⟨R1.yb p.f, 0, none⟩) S.N (R1.yk p.f)) ∧ w'.cell? ⟨R1.yb p.f, p.t * 4, none⟩ = some (.int .u64 (((S.wy p.f p.t).b + 1 : Nat) : Int)) ∧ w'.cell? ⟨R1.yb p.f, p.t * 4 + 1, none⟩ = some (.slice ps TL cs) ∧ w'.cell? ⟨R1.yb p.f, p.t * 4 + 2, none⟩ = some (.int .i64 ((S.wy p.f p.t).t : Int)) ∧ w'.cell? ⟨R1.yb p.f, p.t * 4 + 3, none⟩ = some (.int .i64 ((S.wy p.f p.t).c : Int)) ∧ w'.cell? ⟨w1.heap.size, 0, none⟩ = some (.int .i64 (p.t : Int)) ∧ w'.cell? ⟨w1.heap.size, 1, none⟩ = some (.int .i64 (p.f : Int))) W) := fun W g => ⟨g.cell c1 (by simp), g.cell y0 (by simp), g.cell y1 (by simp), g.cell y2 (by simp), g.cell y3 (by simp), g.cell y4 (by simp), g.cell b0 (by simp), g.cell b1 (by simp)⟩
  have i2 : (p.f : Int) < (S.N : Int) := by omega
  have i3 : (p.t : Int) < (S.N : Int) := by omega
  have U : Hid (∀ W, W2.grownBy W none → RU Q w d (erS S i) T W) := fun W g => RU.grow ⟨R1, H1.out, HC.out⟩ HB.out (grown_none_trans GW g)
  have i6 : ((S.wy p.f p.t).t : Int) < (p.s : Int) := by omega
  have i7 : ¬ (p.s : Int) ≤ (TL : Int) := by omega
  clear H2 BX GW hes yf bf y0 y1 y2 y3 y4 c0 c1 c2 c3 hs
  rw [HAK.out] at b2
  have hTL5 : TL ≤ 5000000 := by rw [hTL]; exact HT.out
  have i4 : IntKind.u64.wrap ((S.wy p.f p.t).t : Int) = ((S.wy p.f p.t).t : Int) := u64w (by omega) (by omega)
  have i5 : IntKind.u64.wrap (TL : Int) = (TL : Int) := u64w (by omega) (by omega)
  clear hTL htT hs1
  go_wp2_with fail
  go_region_held3 (fun w' : World => w'.cell? ⟨d, 1, none⟩ = some (.slice (some ⟨R1.yg, 0, none⟩) S.N R1.yc) ∧ w'.cell? ⟨R1.yg, p.f, none⟩ = some (.slice (some ⟨R1.yb p.f, 0, none⟩) S.N (R1.yk p.f)) ∧ w'.cell? ⟨R1.yb p.f, p.t * 4, none⟩ = some (.int .u64 (((S.wy p.f p.t).b + 1 : Nat) : Int)) ∧ w'.cell? ⟨R1.yb p.f, p.t * 4 + 1, none⟩ = some (.slice ps TL cs) ∧ w'.cell? ⟨R1.yb p.f, p.t * 4 + 2, none⟩ = some (.int .i64 ((S.wy p.f p.t).t : Int)) ∧ w'.cell? ⟨R1.yb p.f, p.t * 4 + 3, none⟩ = some (.int .i64 ((S.wy p.f p.t).c : Int)) ∧ w'.cell? ⟨w1.heap.size, 0, none⟩ = some (.int .i64 (p.t : Int)) ∧ w'.cell? ⟨w1.heap.size, 1, none⟩ = some (.int .i64 (p.f : Int))) (exact KS.out _ (by repeat (first | exact grown_refl _ | refine grown_drew ?_ | refine grown_al ?_ _))) (fail)
  go_wp2_with fail
  go_ret
  exact ⟨rfl, U.out _ (by repeat (first | exact grown_refl _ | refine grown_drew ?_ | refine grown_al ?_ _))⟩
end Go.Proofs.Ytbdlamlplfogjaa
namespace Go.Proofs.Ytbdlamlplfogjaa
open Go.RowKit Go.Maps Go.Joins
variable {Q : Nat → Prop} {w w' : World} {d : Nat} {S : St} {T : Nat → Nat → List ByteArray} {R : Lr}

theorem RU.of {C : Nat → Prop} {w1 W : World} (hb : ∀ i, Q i → i < w.heap.size) (hc : Chg (hbq Q w) w w1) (k : Chg C w1 W) (hs : ∀ x, x < w1.heap.size → C x → hbq (ext Q w w1) w1 x) (H : RL (ext Q w w1) W d S T R) : RU Q w d S T W := by
  refine ⟨R, H.away (Chg.refl (fun _ => False) _) (fun _ _ e => e) (fun x hx => ?_) (ext_pb hb (Nat.le_trans hc.size k.size)), hb_trans hc (k.mono (T := hbq (ext Q w w1) w1) hs) (fun _ e => e)⟩
  rcases hx with e | e
  · exact Or.inl e
  · exact Or.inr ⟨e.1, Nat.lt_of_lt_of_le e.2 k.size⟩
theorem upd2_id {α : Type} (f : Nat → Nat → α) (i j : Nat) : upd2 f i j (f i j) = f := by
  funext a b
  by_cases e : a = i ∧ b = j
  · rw [e.1, e.2, upd2_same]
  · rw [upd2_other _ _ e]
set_option maxHeartbeats 4000000 in
set_option maxRecDepth 100000 in
theorem rDel_acktell (h : RL Q w d S T R) {i : Nat} {p : Pk} (hp : S.fl[i]? = some p) (hl : S.fl.length ≤ 100000) (hf : p.f < S.N) (ht : p.t < S.N) (hdn : S.dn (pkTo p) = false) (hak : p.ack = true) (he : p.e = (S.wy p.f p.t).b + 1) (hT : (T p.f p.t).length ≤ 5000000) (htT : (S.wy p.f p.t).t ≤ 5000000) (hs1 : (S.wy p.f p.t).t < p.s) (hs : p.s ≤ (T p.f p.t).length) (us : List ByteArray) : Calls Try.prog 33 #[.pointer (some ⟨d, 0, none⟩), .int .i64 (i : Int)] w (REQ Q w d ({ erS S i with wy := upd2 S.wy p.f p.t { S.wy p.f p.t with us := us, t := p.s } }) T 0) := by
  have TK := mkHid (rTake_at h hp hl)
  have hfr : pkFr p < S.N := by unfold pkFr; split <;> omega
  have hto : pkTo p < S.N := by unfold pkTo; split <;> omega
  have eto : pkTo p = p.f := by unfold pkTo; rw [if_pos hak]
  have efr : pkFr p = p.t := by unfold pkFr; rw [if_pos hak]
  rw [eto, efr] at TK
  rw [eto] at hdn
  clear eto efr hfr hto
  have HB := mkHid h.pb
  have he2 : ((p.e : Int) == (((S.wy p.f p.t).b + 1 : Nat) : Int)) = true := by rw [beq_iff_eq]; omega
  have he3 : ((p.e : Int) == ((S.wy p.f p.t).b : Int) + 1) = true := by rw [beq_iff_eq]; omega
  have HE := mkHid he
  have HAK := mkHid hak
  have HT := mkHid hT
  clear h hp hl he hak hT
  go_enter Try.func33, Try.ntmps33
  go_wp2_with fail
  refine TK.out.mono ?_
  rintro e w1 ⟨pb, lb, cb, R1, rfl, hlb, hb, H, C⟩
  have hd1 := H.pb _ H.qd
  have htg := H.pb _ H.qt
  have hyg := H.pb _ H.qy
  obtain ⟨c0, c1, c2, c3, _⟩ := H.cs
  obtain ⟨t0, _⟩ := H.tcell (i := p.f) hf
  rw [show (erS S i).dn p.f = false from hdn] at t0
  have hN : (erS S i).N = S.N := rfl
  rw [hN] at c0 c1 c2
  have i1 : (p.f : Int) < (S.N : Int) := by omega
  have H1 := mkHid H
  have HC := mkHid C
  have Hb := mkHid hb
  clear H C hlb hb TK hN hdn c1 c2 c3 hyg
  go_wp2_with fail
  go_quiet (fail)
  have GW : w1.grownBy ((w1.alloc (.cells #[.int .i64 (p.t : Int), .int .i64 (p.f : Int), .bool p.ack, .int .u64 (p.s : Int), .int .u64 (p.e : Int), .slice pb lb cb] 97)).drewN nq) none := grown_drewN (grown_al (grown_refl _) _) nq
  have BX : ((w1.alloc (.cells #[.int .i64 (p.t : Int), .int .i64 (p.f : Int), .bool p.ack, .int .u64 (p.s : Int), .int .u64 (p.e : Int), .slice pb lb cb] 97)).drewN nq).heap[w1.heap.size]? = some (.cells #[.int .i64 (p.t : Int), .int .i64 (p.f : Int), .bool p.ack, .int .u64 (p.s : Int), .int .u64 (p.e : Int), .slice pb lb cb] 97 (0, 0)) := heap_alloc_new w1 _
  generalize (w1.alloc (.cells #[.int .i64 (p.t : Int), .int .i64 (p.f : Int), .bool p.ack, .int .u64 (p.s : Int), .int .u64 (p.e : Int), .slice pb lb cb] 97)).drewN nq = W2 at GW BX ⊢
  clear c0 t0 htg hd1
  have H2 := H1.out.kept GW
  obtain ⟨c0, c1, c2, c3, _⟩ := H2.cs
  rw [show (erS S i).N = S.N from rfl] at c0 c1 c2
  obtain ⟨b0, b1, b2, b3, b4, b5, bf⟩ := cells6 BX
  have hbs : w1.heap.size < W2.heap.size := lt_of_heap BX
  obtain ⟨y0, y1, y2, y3, y4, yf⟩ := H2.ycell (i := p.f) (j := p.t) hf ht
  rw [show (erS S i).N = S.N from rfl] at y0
  rw [show (erS S i).wy = S.wy from rfl] at y1 y3 y4
  obtain ⟨ps, cs, hes, _⟩ := (H2.sr p.f p.t hf ht).form
  obtain ⟨TL, hTL⟩ : ∃ TL, TL = (T p.f p.t).length := ⟨_, rfl⟩
  rw [hes, ← hTL] at y2
  have KS : Hid (∀ W, W2.grownBy W none → (fun w' : World => w'.cell? ⟨d, 1, none⟩ = some (.slice (some ⟨R1.yg, 0, none⟩) S.N R1.yc) ∧ w'.cell? ⟨R1.yg, p.f, none⟩ = some (.slice (some ⟨R1.yb p.f, 0, none⟩) S.N (R1.yk p.f)) ∧ w'.cell? ⟨R1.yb p.f, p.t * 4, none⟩ = some (.int .u64 (((S.wy p.f p.t).b + 1 : Nat) : Int)) ∧ w'.cell? ⟨R1.yb p.f, p.t * 4 + 1, none⟩ = some (.slice ps TL cs) ∧ w'.cell? ⟨R1.yb p.f, p.t * 4 + 2, none⟩ = some (.int .i64 ((S.wy p.f p.t).t : Int)) ∧ w'.cell? ⟨R1.yb p.f, p.t * 4 + 3, none⟩ = some (.int .i64 ((S.wy p.f p.t).c : Int)) ∧ w'.cell? ⟨w1.heap.size, 0, none⟩ = some (.int .i64 (p.t : Int)) ∧ w'.cell? ⟨w1.heap.size, 1, none⟩ = some (.int .i64 (p.f : Int))) W) := fun W g => ⟨g.cell c1 (by simp), g.cell y0 (by simp), g.cell y1 (by simp), g.cell y2 (by simp), g.cell y3 (by simp), g.cell y4 (by simp), g.cell b0 (by simp), g.cell b1 (by simp)⟩
  have i2 : (p.f : Int) < (S.N : Int) := by omega
  have i3 : (p.t : Int) < (S.N : Int) := by omega
  have i6 : ((S.wy p.f p.t).t : Int) < (p.s : Int) := by omega
  have i7 : (p.s : Int) ≤ (TL : Int) := by omega
  rw [HAK.out] at b2
  have hTL5 : TL ≤ 5000000 := by rw [hTL]; exact HT.out
  have i4 : IntKind.u64.wrap ((S.wy p.f p.t).t : Int) = ((S.wy p.f p.t).t : Int) := u64w (by omega) (by omega)
  have i5 : IntKind.u64.wrap (TL : Int) = (TL : Int) := u64w (by omega) (by omega)
  have HS := mkHid hs
  have HTL := mkHid hTL
  have HES := mkHid hes
  have H2h := mkHid H2
  have BXh := mkHid BX
  have GWh := mkHid GW
  clear H2 BX GW hes yf bf y0 y1 y2 y3 y4 c0 c1 c2 c3 hs hTL htT hs1
  go_wp2_with fail
  go_region_held3 (fun w' : World => w'.cell? ⟨d, 1, none⟩ = some (.slice (some ⟨R1.yg, 0, none⟩) S.N R1.yc) ∧ w'.cell? ⟨R1.yg, p.f, none⟩ = some (.slice (some ⟨R1.yb p.f, 0, none⟩) S.N (R1.yk p.f)) ∧ w'.cell? ⟨R1.yb p.f, p.t * 4, none⟩ = some (.int .u64 (((S.wy p.f p.t).b + 1 : Nat) : Int)) ∧ w'.cell? ⟨R1.yb p.f, p.t * 4 + 1, none⟩ = some (.slice ps TL cs) ∧ w'.cell? ⟨R1.yb p.f, p.t * 4 + 2, none⟩ = some (.int .i64 ((S.wy p.f p.t).t : Int)) ∧ w'.cell? ⟨R1.yb p.f, p.t * 4 + 3, none⟩ = some (.int .i64 ((S.wy p.f p.t).c : Int)) ∧ w'.cell? ⟨w1.heap.size, 0, none⟩ = some (.int .i64 (p.t : Int)) ∧ w'.cell? ⟨w1.heap.size, 1, none⟩ = some (.int .i64 (p.f : Int))) (exact KS.out _ (by repeat (first | exact grown_refl _ | refine grown_drew ?_ | refine grown_al ?_ _))) (fail)
  have g3 : W2.grownBy (W2.alloc (.cells #[.int .u64 (((S.wy p.f p.t).b : Int) + 1), .slice ps TL cs, .int .i64 ((S.wy p.f p.t).t : Int), .int .i64 ((S.wy p.f p.t).c : Int)] 108)).drew none := grown_drew (grown_al (grown_refl _) _)
  have BY : (W2.alloc (.cells #[.int .u64 (((S.wy p.f p.t).b : Int) + 1), .slice ps TL cs, .int .i64 ((S.wy p.f p.t).t : Int), .int .i64 ((S.wy p.f p.t).c : Int)] 108)).drew.heap[W2.heap.size]? = some (.cells #[.int .u64 (((S.wy p.f p.t).b : Int) + 1), .slice ps TL cs, .int .i64 ((S.wy p.f p.t).t : Int), .int .i64 ((S.wy p.f p.t).c : Int)] 108 (0, 0)) := heap_alloc_new W2 _
  generalize (W2.alloc (.cells #[.int .u64 (((S.wy p.f p.t).b : Int) + 1), .slice ps TL cs, .int .i64 ((S.wy p.f p.t).t : Int), .int .i64 ((S.wy p.f p.t).c : Int)] 108)).drew = W3 at g3 BY ⊢
  have ecast : (((S.wy p.f p.t).b + 1 : Nat) : Int) = ((S.wy p.f p.t).b : Int) + 1 := rfl
  rw [← ecast] at BY
  have H3 := H2h.out.kept g3
  have B3 := box_keep BXh.out g3 (by simp)
  have h23 : W2.heap.size < W3.heap.size := lt_of_heap BY
  have s12 := GWh.out.size
  have CB := Chg.of_cell W3 ⟨W2.heap.size, 2, none⟩ (.int .i64 (p.s : Int))
  have nQ : ∀ x, ext Q w w1 x → x < w1.heap.size := H1.out.pb
  have H4 := H3.away (Q' := ext Q w w1) CB (fun x hx e => by have e : x = W2.heap.size := e; have := nQ x hx; omega) (fun _ e => e) (fun x hx => by rw [World.size_setCell]; exact H3.pb x hx)
  have H5 := H4.setY (i := p.f) (j := p.t) hf ht { S.wy p.f p.t with us := us, t := p.s } (v := R1.sv p.f p.t) (l := T p.f p.t) (H4.sr p.f p.t hf ht)
  rw [upd2_id, HES.out, ← HTL.out] at H5
  have CW := setW_chg (W3.setCell ⟨W2.heap.size, 2, none⟩ (.int .i64 (p.s : Int))) (R1.yb p.f) p.t (.int .u64 (((S.wy p.f p.t).b + 1 : Nat) : Int)) (.slice ps TL cs) (.int .i64 (p.s : Int)) (.int .i64 ((S.wy p.f p.t).c : Int))
  have CT : Chg (fun x => x = R1.yb p.f ∨ x = W2.heap.size) w1 (setW (W3.setCell ⟨W2.heap.size, 2, none⟩ (.int .i64 (p.s : Int))) (R1.yb p.f) p.t (.int .u64 (((S.wy p.f p.t).b + 1 : Nat) : Int)) (.slice ps TL cs) (.int .i64 (p.s : Int)) (.int .i64 ((S.wy p.f p.t).c : Int))) := ((Chg.of_none (grown_none_trans GWh.out g3) _).trans (CB.mono (fun x _ e => Or.inr e))).trans (CW.mono (fun x _ e => Or.inl e))
  have U5 : Hid (RU Q w d { erS S i with wy := upd2 S.wy p.f p.t { S.wy p.f p.t with us := us, t := p.s } } T (setW (W3.setCell ⟨W2.heap.size, 2, none⟩ (.int .i64 (p.s : Int))) (R1.yb p.f) p.t (.int .u64 (((S.wy p.f p.t).b + 1 : Nat) : Int)) (.slice ps TL cs) (.int .i64 (p.s : Int)) (.int .i64 ((S.wy p.f p.t).c : Int)))) := RU.of HB.out HC.out CT (fun x hx e => by
    rcases e with e | e
    · rw [e]; exact ⟨H1.out.qr p.f hf, by rw [H1.out.kb.2.2.2.2 p.f hf]; decide⟩
    · omega) H5
  have k5 := H3.kb.2.2.2.2 p.f hf
  have nd : d ≠ R1.yb p.f := fun e => by have := H3.kb.1; rw [e, k5] at this; simp at this
  have ny : R1.yg ≠ R1.yb p.f := fun e => by have := H3.kb.2.2.1; rw [e, k5] at this; simp at this
  have nb1 : w1.heap.size ≠ R1.yb p.f := fun e => by have := nQ _ (H1.out.qr p.f hf); omega
  have nb2 : W2.heap.size ≠ R1.yb p.f := fun e => by have := nQ _ (H1.out.qr p.f hf); omega
  obtain ⟨q0, q1, q2, q3, _⟩ := H4.cs
  obtain ⟨z0, z1, z2, z3, z4, zf⟩ := H4.ycell (i := p.f) (j := p.t) hf ht
  rw [show (erS S i).N = S.N from rfl] at q1 z0
  rw [show (erS S i).wy = S.wy from rfl] at z1 z3 z4
  rw [HES.out, ← HTL.out] at z2
  have B4 := CB.at_ B3 (fun e => by have e : w1.heap.size = W2.heap.size := e; omega)
  have Y4 := (block_setCell BY (i := 2) (.int .i64 (p.s : Int))).trans rfl
  obtain ⟨a0, a1, a2, a3, a4, a5, _⟩ := cells6 B4
  obtain ⟨e0, e1, e2, e3, ef⟩ := cells4 Y4
  have K4 : Hid ((fun w' : World => w'.cell? ⟨d, 1, none⟩ = some (.slice (some ⟨R1.yg, 0, none⟩) S.N R1.yc) ∧ w'.cell? ⟨R1.yg, p.f, none⟩ = some (.slice (some ⟨R1.yb p.f, 0, none⟩) S.N (R1.yk p.f)) ∧ w'.cell? ⟨w1.heap.size, 0, none⟩ = some (.int .i64 (p.t : Int)) ∧ w'.cell? ⟨w1.heap.size, 1, none⟩ = some (.int .i64 (p.f : Int)) ∧ w'.cell? ⟨W2.heap.size, 0, none⟩ = some (.int .u64 (((S.wy p.f p.t).b + 1 : Nat) : Int)) ∧ w'.cell? ⟨W2.heap.size, 1, none⟩ = some (.slice ps TL cs) ∧ w'.cell? ⟨W2.heap.size, 2, none⟩ = some (.int .i64 (p.s : Int)) ∧ w'.cell? ⟨W2.heap.size, 3, none⟩ = some (.int .i64 ((S.wy p.f p.t).c : Int))) (W3.setCell ⟨W2.heap.size, 2, none⟩ (.int .i64 (p.s : Int)))) := ⟨q1, z0, a0, a1, e0, e1, e2, e3⟩
  have K5 : Hid ((fun w' : World => w'.cell? ⟨d, 1, none⟩ = some (.slice (some ⟨R1.yg, 0, none⟩) S.N R1.yc) ∧ w'.cell? ⟨R1.yg, p.f, none⟩ = some (.slice (some ⟨R1.yb p.f, 0, none⟩) S.N (R1.yk p.f)) ∧ w'.cell? ⟨w1.heap.size, 0, none⟩ = some (.int .i64 (p.t : Int)) ∧ w'.cell? ⟨w1.heap.size, 1, none⟩ = some (.int .i64 (p.f : Int)) ∧ w'.cell? ⟨W2.heap.size, 0, none⟩ = some (.int .u64 (((S.wy p.f p.t).b + 1 : Nat) : Int)) ∧ w'.cell? ⟨W2.heap.size, 1, none⟩ = some (.slice ps TL cs) ∧ w'.cell? ⟨W2.heap.size, 2, none⟩ = some (.int .i64 (p.s : Int)) ∧ w'.cell? ⟨W2.heap.size, 3, none⟩ = some (.int .i64 ((S.wy p.f p.t).c : Int))) (((((W3.setCell ⟨W2.heap.size, 2, none⟩ (.int .i64 (p.s : Int))).setCell ⟨R1.yb p.f, p.t * 4, none⟩ (.int .u64 (((S.wy p.f p.t).b + 1 : Nat) : Int))).setCell ⟨R1.yb p.f, p.t * 4 + 1, none⟩ (.slice ps TL cs)).setCell ⟨R1.yb p.f, p.t * 4 + 2, none⟩ (.int .i64 (p.s : Int))).setCell ⟨R1.yb p.f, p.t * 4 + 3, none⟩ (.int .i64 ((S.wy p.f p.t).c : Int)))) := ⟨nSt1 nd (nSt1 nd (nSt1 nd (nSt1 nd q1))), nSt1 ny (nSt1 ny (nSt1 ny (nSt1 ny z0))), nSt1 nb1 (nSt1 nb1 (nSt1 nb1 (nSt1 nb1 a0))), nSt1 nb1 (nSt1 nb1 (nSt1 nb1 (nSt1 nb1 a1))), nSt1 nb2 (nSt1 nb2 (nSt1 nb2 (nSt1 nb2 e0))), nSt1 nb2 (nSt1 nb2 (nSt1 nb2 (nSt1 nb2 e1))), nSt1 nb2 (nSt1 nb2 (nSt1 nb2 (nSt1 nb2 e2))), nSt1 nb2 (nSt1 nb2 (nSt1 nb2 (nSt1 nb2 e3)))⟩
  have K4d : Hid ((fun w' : World => w'.cell? ⟨d, 1, none⟩ = some (.slice (some ⟨R1.yg, 0, none⟩) S.N R1.yc) ∧ w'.cell? ⟨R1.yg, p.f, none⟩ = some (.slice (some ⟨R1.yb p.f, 0, none⟩) S.N (R1.yk p.f)) ∧ w'.cell? ⟨w1.heap.size, 0, none⟩ = some (.int .i64 (p.t : Int)) ∧ w'.cell? ⟨w1.heap.size, 1, none⟩ = some (.int .i64 (p.f : Int)) ∧ w'.cell? ⟨W2.heap.size, 0, none⟩ = some (.int .u64 (((S.wy p.f p.t).b + 1 : Nat) : Int)) ∧ w'.cell? ⟨W2.heap.size, 1, none⟩ = some (.slice ps TL cs) ∧ w'.cell? ⟨W2.heap.size, 2, none⟩ = some (.int .i64 (p.s : Int)) ∧ w'.cell? ⟨W2.heap.size, 3, none⟩ = some (.int .i64 ((S.wy p.f p.t).c : Int))) (W3.setCell ⟨W2.heap.size, 2, none⟩ (.int .i64 (p.s : Int))).drew) := ⟨(cell_drew _ _).trans q1, (cell_drew _ _).trans z0, (cell_drew _ _).trans a0, (cell_drew _ _).trans a1, (cell_drew _ _).trans e0, (cell_drew _ _).trans e1, (cell_drew _ _).trans e2, (cell_drew _ _).trans e3⟩
  have K5d : Hid ((fun w' : World => w'.cell? ⟨d, 1, none⟩ = some (.slice (some ⟨R1.yg, 0, none⟩) S.N R1.yc) ∧ w'.cell? ⟨R1.yg, p.f, none⟩ = some (.slice (some ⟨R1.yb p.f, 0, none⟩) S.N (R1.yk p.f)) ∧ w'.cell? ⟨w1.heap.size, 0, none⟩ = some (.int .i64 (p.t : Int)) ∧ w'.cell? ⟨w1.heap.size, 1, none⟩ = some (.int .i64 (p.f : Int)) ∧ w'.cell? ⟨W2.heap.size, 0, none⟩ = some (.int .u64 (((S.wy p.f p.t).b + 1 : Nat) : Int)) ∧ w'.cell? ⟨W2.heap.size, 1, none⟩ = some (.slice ps TL cs) ∧ w'.cell? ⟨W2.heap.size, 2, none⟩ = some (.int .i64 (p.s : Int)) ∧ w'.cell? ⟨W2.heap.size, 3, none⟩ = some (.int .i64 ((S.wy p.f p.t).c : Int))) (((((W3.setCell ⟨W2.heap.size, 2, none⟩ (.int .i64 (p.s : Int))).setCell ⟨R1.yb p.f, p.t * 4, none⟩ (.int .u64 (((S.wy p.f p.t).b : Int) + 1))).setCell ⟨R1.yb p.f, p.t * 4 + 1, none⟩ (.slice ps TL cs)).setCell ⟨R1.yb p.f, p.t * 4 + 2, none⟩ (.int .i64 (p.s : Int))).setCell ⟨R1.yb p.f, p.t * 4 + 3, none⟩ (.int .i64 ((S.wy p.f p.t).c : Int))).drew) := by
    rw [← ecast]
    obtain ⟨r0, r1, r2, r3, r4, r5, r6, r7⟩ := K5.out
    exact ⟨(cell_drew _ _).trans r0, (cell_drew _ _).trans r1, (cell_drew _ _).trans r2, (cell_drew _ _).trans r3, (cell_drew _ _).trans r4, (cell_drew _ _).trans r5, (cell_drew _ _).trans r6, (cell_drew _ _).trans r7⟩
  obtain ⟨x0, x1, x2, x3, x4, x5, _⟩ := cells6 B3
  obtain ⟨u0, u1, u2, u3, uf⟩ := cells4 BY
  have uf2 := uf 2
  have f0 := zf (p.t * 4)
  have f1 := zf (p.t * 4 + 1)
  have f2 := zf (p.t * 4 + 2)
  have f3 := zf (p.t * 4 + 3)
  have i8 : IntKind.i64.wrap (p.s : Int) = (p.s : Int) := by rw [IntKind.wrap_i64]; omega
  have ZZ := mkHid (And.intro z1 (And.intro z2 (And.intro z3 (And.intro z4 (And.intro f0 (And.intro f1 (And.intro f2 f3)))))))
  unfold setW at U5
  rw [show (((S.wy p.f p.t).b + 1 : Nat) : Int) = ((S.wy p.f p.t).b : Int) + 1 from rfl] at U5
  clear ecast H3 H4 H5 B3 B4 Y4 BY CB CW CT nQ k5 nd ny nb1 nb2 q0 q1 q2 q3 z0 z1 z2 z3 z4 zf f0 f1 f2 f3 a0 a1 a2 a3 a4 a5 e0 e1 e2 e3 ef uf K4 K5 KS H2h BXh GWh g3 H1 HC Hb
  go_wp2_with fail
  obtain ⟨z1, z2, z3, z4, f0, f1, f2, f3⟩ := ZZ.out
  go_region_held3 (fun w' : World => w'.cell? ⟨d, 1, none⟩ = some (.slice (some ⟨R1.yg, 0, none⟩) S.N R1.yc) ∧ w'.cell? ⟨R1.yg, p.f, none⟩ = some (.slice (some ⟨R1.yb p.f, 0, none⟩) S.N (R1.yk p.f)) ∧ w'.cell? ⟨w1.heap.size, 0, none⟩ = some (.int .i64 (p.t : Int)) ∧ w'.cell? ⟨w1.heap.size, 1, none⟩ = some (.int .i64 (p.f : Int)) ∧ w'.cell? ⟨W2.heap.size, 0, none⟩ = some (.int .u64 (((S.wy p.f p.t).b + 1 : Nat) : Int)) ∧ w'.cell? ⟨W2.heap.size, 1, none⟩ = some (.slice ps TL cs) ∧ w'.cell? ⟨W2.heap.size, 2, none⟩ = some (.int .i64 (p.s : Int)) ∧ w'.cell? ⟨W2.heap.size, 3, none⟩ = some (.int .i64 ((S.wy p.f p.t).c : Int))) (first | with_reducible exact K4d.out | with_reducible exact K5d.out) (fail)
  go_wp2_with fail
  go_ret
  exact ⟨rfl, RU.grow U5.out HB.out (grown_drew (grown_refl _))⟩
end Go.Proofs.Ytbdlamlplfogjaa
