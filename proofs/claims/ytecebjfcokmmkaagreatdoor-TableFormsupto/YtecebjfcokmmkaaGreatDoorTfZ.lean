/-
  The walks of a table's Form, Len, Next, Mark; of locksteplaw02.Own and lockstepref02.Rows at rows that are the same.
-/
import Derived.Test.YtecebjfcokmmkaaGreatDoorTfY
namespace Go.Proofs.YtecebjfcokmmkaaGreatDoor
open Go.RowKit Go.Shelf Go.Joins Go.Maps
set_option maxRecDepth 100000

set_option maxHeartbeats 4000000 in
set_option maxRecDepth 1000000 in
theorem FormOf_any {w : World} {lo gx gm gc cc gk ck : Nat} {t : Tb} {L : List Kq} {vt : Value} (X : Tx w lo gx gm t gc cc gk ck L vt) (hG : tbG t) (hc0 : t.cs ≠ []) (hk0 : t.ks ≠ []) (hi0 : ∀ k ∈ t.ks, k.cs ≠ []) :
    Calls Tryz.prog 14 #[.pointer (some ⟨gx, 0, none⟩)] w fun e w' => FoQ w (plT t) e w' := by
  obtain ⟨W0, hW0⟩ : ∃ W0, W0 = w.alloc (.cells #[.string ⟨#[]⟩, .slice none 0 0, .slice none 0 0, .int .i64 0, .int .i64 0] 25) := ⟨_, rfl⟩
  have b0 : Below w.heap.size w W0 := by rw [hW0]; exact (Below.refl _ w).alloc (Nat.le_refl _) _
  have B0 : W0.heap[w.heap.size]? = some (.cells #[.string ⟨#[]⟩, .slice none 0 0, .slice none 0 0, .int .i64 0, .int .i64 0] 25 (0, 0)) := by rw [hW0]; exact at_alloc _ _ _
  have X0 := X.below b0
  have k0 : W0.cell? ⟨gx, 0, none⟩ = some (.string t.nm) := (cell_of_block X0.obj 0).trans rfl
  have k1 : W0.cell? ⟨gx, 1, none⟩ = some (.slice (some ⟨gc, 0, none⟩) t.cs.length cc) := (cell_of_block X0.obj 1).trans rfl
  have k2 : W0.cell? ⟨gx, 2, none⟩ = some (.slice (some ⟨gk, 0, none⟩) t.ks.length ck) := (cell_of_block X0.obj 2).trans rfl
  have k3 : W0.cell? ⟨gx, 3, none⟩ = some (.int .i64 t.pa) := (cell_of_block X0.obj 3).trans rfl
  have k4 : W0.cell? ⟨gx, 4, none⟩ = some (.int .i64 t.mo) := (cell_of_block X0.obj 4).trans rfl
  have KF := mkHid (keptForm_any t (some ⟨gc, 0, none⟩) (some ⟨gk, 0, none⟩) cc ck W0 X0.fo.reads hG hc0 hk0 hi0)
  have HB := mkHid b0
  have HO := mkHid B0
  have hz : w.heap.size < W0.heap.size := lt_of_heap B0
  clear hG hc0 hk0 hi0 b0 B0 X X0
  subst hW0
  go_enter Tryz.func14, Tryz.ntmps14
  go_wp2_with fail
  refine KF.out.mono ?_
  rintro e w1 ⟨gc', cc', gk', ck', L', rfl, F1, b1⟩
  have O1 : w1.heap[w.heap.size]? = _ := (b1.block _ hz).trans HO.out
  have o0 : w1.cell? ⟨w.heap.size, 0, none⟩ = some (.string ⟨#[]⟩) := (cell_of_block O1 0).trans rfl
  have o1 : w1.cell? ⟨w.heap.size, 1, none⟩ = some (.slice none 0 0) := (cell_of_block O1 1).trans rfl
  have o2 : w1.cell? ⟨w.heap.size, 2, none⟩ = some (.slice none 0 0) := (cell_of_block O1 2).trans rfl
  have o3 : w1.cell? ⟨w.heap.size, 3, none⟩ = some (.int .i64 0) := (cell_of_block O1 3).trans rfl
  have o4 : w1.cell? ⟨w.heap.size, 4, none⟩ = some (.int .i64 0) := (cell_of_block O1 4).trans rfl
  have y0 := unfrozen_of_block O1 0
  have y1 := unfrozen_of_block O1 1
  have y2 := unfrozen_of_block O1 2
  have y3 := unfrozen_of_block O1 3
  have y4 := unfrozen_of_block O1 4
  have HF := mkHid F1
  have HB1 := mkHid b1
  clear F1 b1 O1
  go_wp2_with fail
  refine bodyPost_ret (v := tbV (plT t) (some ⟨gc', 0, none⟩) (some ⟨gk', 0, none⟩) cc' ck') (by simp [results, Tryz.results14, go_sem, o0, o1, o2, o3, o4]) rfl ?_
  have CF := (((((Chg.refl (fun i => i = w.heap.size) w1).set ⟨w.heap.size, 0, none⟩ (.string (plT t).nm) rfl).set ⟨w.heap.size, 1, none⟩ (.slice (some ⟨gc', 0, none⟩) (plT t).cs.length cc') rfl).set ⟨w.heap.size, 2, none⟩ (.slice (some ⟨gk', 0, none⟩) (plT t).ks.length ck') rfl).set ⟨w.heap.size, 3, none⟩ (.int .i64 (plT t).pa) rfl).set ⟨w.heap.size, 4, none⟩ (.int .i64 (plT t).mo) rfl
  refine ⟨_, _, _, _, L', rfl, (HF.out.kept CF (fun g h1 _ e => ?_)).lower HB.out.size, (HB.out.trans (HB1.out.mono HB.out.size)).trans (CF.below (HB.out.trans (HB1.out.mono HB.out.size)).size (fun i e => by omega))⟩
  have e : g = w.heap.size := e
  omega
theorem Next_any {w : World} {lo gx gm gc cc gk ck : Nat} {t : Tb} {L : List Kq} {vt : Value} (X : Tx w lo gx gm t gc cc gk ck L vt) :
    Calls Tryz.prog 17 #[.pointer (some ⟨gx, 0, none⟩)] w fun e w' => e = .returned (.int .u64 1) ∧ w' = w := by
  have k7 : w.cell? ⟨gx, 7, none⟩ = some (.int .u64 1) := (cell_of_block X.obj 7).trans rfl
  clear X
  go_enter Tryz.func17, Tryz.ntmps17
  go_wp2_with fail
  go_ret
  exact ⟨rfl, rfl⟩
theorem Mark_any {w : World} {lo gx gm gc cc gk ck : Nat} {t : Tb} {L : List Kq} {vt : Value} (X : Tx w lo gx gm t gc cc gk ck L vt) :
    Calls Tryz.prog 18 #[.pointer (some ⟨gx, 0, none⟩)] w fun e w' => e = .returned (.int .i64 0) ∧ w' = w := by
  have k8 : w.cell? ⟨gx, 8, none⟩ = some (.slice none 0 0) := (cell_of_block X.obj 8).trans rfl
  clear X
  go_enter Tryz.func18, Tryz.ntmps18
  go_wp2_with fail
  go_ret
  exact ⟨rfl, rfl⟩
theorem Len_any {w : World} {lo gx gm gc cc gk ck : Nat} {t : Tb} {L : List Kq} {vt : Value} (X : Tx w lo gx gm t gc cc gk ck L vt) :
    Calls Tryz.prog 16 #[.pointer (some ⟨gx, 0, none⟩)] w fun e w' => e = .returned (.int .i64 0) ∧ w' = w := by
  have k5 : w.cell? ⟨gx, 5, none⟩ = some (.map (some gm)) := (cell_of_block X.obj 5).trans rfl
  have mT : Tryz.prog.underlying 58 = some (.map 41 27) := by kernel_rfl
  have ln : ∀ ty, (Builtin.len_ #[58] ty #[.map (some gm)]).run Tryz.prog w = .ok (.int .i64 0) w := fun ty => by
    simp [Builtin.len_, run_underlying mT, MapKept.run_getObj_map X.map, goInt, Result.andThen]
  clear X mT
  go_enter Tryz.func16, Tryz.ntmps16
  go_wp2_with fail
  go_ret
  exact ⟨rfl, rfl⟩
set_option maxHeartbeats 2000000 in
set_option maxRecDepth 1000000 in
theorem Same2_eq (a : Va) (w : World) :
    Calls Tryz.prog 29 #[.agg #[.int .i64 a.ty, .int .i64 a.n, .string a.s], .agg #[.int .i64 a.ty, .int .i64 a.n, .string a.s]] w fun e w' => e = .returned (.bool true) ∧ Below w.heap.size w w' := by
  go_enter Tryz.func29, Tryz.ntmps29
  go_wp2
  go_ret
  exact ⟨rfl, ((Below.refl _ w).alloc (Nat.le_refl _) _).alloc (by simp) _⟩

set_option maxHeartbeats 4000000 in
set_option maxRecDepth 1000000 in
theorem Rows2_eq (p q : Option Addr) (cp cq : Nat) (la : List Va) (w : World) (hp : rowIn w p la) (hq : rowIn w q la) (hl : la.length ≤ 9223372036854775807) :
    Calls Tryz.prog 11 #[.slice p la.length cp, .slice q la.length cq] w fun e w' => e = .returned (.bool true) ∧ Below w.heap.size w w' := by
  go_enter Tryz.func11, Tryz.ntmps11
  go_wp2_with fail
  go_loopw [5] (fun sk wr => ∃ k : Nat, sk = .int .i64 k ∧ k ≤ la.length ∧ Below w.heap.size w wr) (fun sk _ => la.length - (intOf sk).toNat)
  case atStart => exact ⟨0, rfl, Nat.zero_le _, Below.refl _ _⟩
  case round =>
    obtain ⟨k, rfl, hk, hb⟩ := hrel
    by_cases hlt : k < la.length
    · obtain ⟨a, hak⟩ : ∃ v, la[k]? = some v := ⟨la[k], List.getElem?_eq_getElem hlt⟩
      rcases hp with rfl | ⟨g, o1, rfl, hvg, hcg⟩
      · simp at hak
      rcases hq with rfl | ⟨h, o2, rfl, hvh, hch⟩
      · simp at hak
      obtain ⟨c1, c2, c3⟩ := hcg k a hak
      obtain ⟨m1, m2, m3⟩ := hch k a hak
      have d1 := (hb.cell (p := ⟨g, o1 + k * 3, none⟩) hvg).trans c1
      have d2 := (hb.cell (p := ⟨g, o1 + k * 3 + 1, none⟩) hvg).trans c2
      have d3 := (hb.cell (p := ⟨g, o1 + k * 3 + 2, none⟩) hvg).trans c3
      have e1 := (hb.cell (p := ⟨h, o2 + k * 3, none⟩) hvh).trans m1
      have e2 := (hb.cell (p := ⟨h, o2 + k * 3 + 1, none⟩) hvh).trans m2
      have e3 := (hb.cell (p := ⟨h, o2 + k * 3 + 2, none⟩) hvh).trans m3
      have hgw : g < wr.heap.size := Nat.lt_of_lt_of_le hvg hb.size
      have hhw : h < wr.heap.size := Nat.lt_of_lt_of_le hvh hb.size
      have OO : Hid (∀ w, Calls Tryz.prog 29 #[.agg #[.int .i64 a.ty, .int .i64 a.n, .string a.s], .agg #[.int .i64 a.ty, .int .i64 a.n, .string a.s]] w fun e w' => e = .returned (.bool true) ∧ Below w.heap.size w w') := fun w => Same2_eq a w
      clear c1 c2 c3 m1 m2 m3 hak hvg hvh hcg hch
      go_wp2_with fail
      go_region_held3 (fun w' => w'.cell? ⟨g, o1 + k * 3, none⟩ = some (.int .i64 a.ty) ∧ w'.cell? ⟨g, o1 + k * 3 + 1, none⟩ = some (.int .i64 a.n) ∧ w'.cell? ⟨g, o1 + k * 3 + 2, none⟩ = some (.string a.s) ∧ w'.cell? ⟨h, o2 + k * 3, none⟩ = some (.int .i64 a.ty) ∧ w'.cell? ⟨h, o2 + k * 3 + 1, none⟩ = some (.int .i64 a.n) ∧ w'.cell? ⟨h, o2 + k * 3 + 2, none⟩ = some (.string a.s)) (first | go_keep | exact ⟨(hb2.cell (p := ⟨g, o1 + k * 3, none⟩) hgw).trans d1, (hb2.cell (p := ⟨g, o1 + k * 3 + 1, none⟩) hgw).trans d2, (hb2.cell (p := ⟨g, o1 + k * 3 + 2, none⟩) hgw).trans d3, (hb2.cell (p := ⟨h, o2 + k * 3, none⟩) hhw).trans e1, (hb2.cell (p := ⟨h, o2 + k * 3 + 1, none⟩) hhw).trans e2, (hb2.cell (p := ⟨h, o2 + k * 3 + 2, none⟩) hhw).trans e3⟩) ((go_at_call 29; refine (OO.out _).mono ?_; rintro e w1 ⟨rfl, hb2⟩))
      go_wp2_with fail
      go_roundw
      case rel => exact ⟨k + 1, by go_num, hlt, hb.drew.trans (hb2.mono (by simpa using hb.size))⟩
      case measure => simp [intOf]; omega
    · go_wp2_with fail
      go_ret
      exact ⟨rfl, hb⟩


theorem row_cells {w : World} {P : Option Addr} {l : List Va} (h : rowIn w P l) : ∀ ad, P = some ad → ∀ j u, (fl vaE l)[j]? = some u → w.cell? (ad.add j) = some u := by
  intro ad had j u hj
  obtain ⟨v, hv, hu⟩ := fl_at vaE_len (by decide) hj
  rcases h with rfl | ⟨g, o, rfl, hg, hc⟩
  · simp at hv
  cases had
  obtain ⟨c0, c1, c2⟩ := hc _ v hv
  rw [add_plain]
  have hm : j % 3 < 3 := Nat.mod_lt _ (by decide)
  have e : j / 3 * 3 + j % 3 = j := by omega
  rcases (show j % 3 = 0 ∨ j % 3 = 1 ∨ j % 3 = 2 by omega) with z | z | z <;> rw [z] at hu e <;> cases hu <;> rw [← e, ← Nat.add_assoc] <;> assumption
theorem row_of_shr {w : World} {n cap g : Nat} {l : List Va} (h : shr w 56 3 (.slice (some ⟨g, 0, none⟩) n cap) n (fl vaE l)) : rowIn w (some ⟨g, 0, none⟩) l := by
  refine Or.inr ⟨g, 0, rfl, shr_lt h, fun i x hx => ?_⟩
  rw [Nat.zero_add]
  exact ⟨shr_cells h (i * 3 + 0) _ ((fl_get vaE_len l i x 0 hx (by decide)).trans rfl), shr_cells h (i * 3 + 1) _ ((fl_get vaE_len l i x 1 hx (by decide)).trans rfl), shr_cells h (i * 3 + 2) _ ((fl_get vaE_len l i x 2 hx (by decide)).trans rfl)⟩
theorem none_nilR {w : World} {l : List Va} (h : rowIn w none l) : l = [] := by
  rcases h with h | ⟨g, o, h, _⟩
  · exact h
  · cases h
set_option maxHeartbeats 4000000 in
set_option maxRecDepth 1000000 in
theorem Own_any (P : Option Addr) (C : Nat) (l : List Va) (w : World) (hr : rowIn w P l) (hP : P = none → C = 0) (hl : l.length ≤ 100000000) :
    Calls Tryz.prog 5 #[.slice P l.length C] w fun e w' => e = .returned (.slice (some ⟨w.heap.size, 0, none⟩) l.length (l.length + 1)) ∧ rowIn w' (some ⟨w.heap.size, 0, none⟩) l ∧ Below w.heap.size w w' := by
  obtain ⟨w1, w2, r1, r2, s, g1, g2, z1, z2⟩ := rwVa.copy w P l.length C (fl vaE l) (fl_len vaE_len _) (fun e => by rw [e] at hr; rw [none_nilR hr]; exact ⟨rfl, hP e⟩) (fun ad had j u hj => row_cells hr ad had j u hj) (fl_one vaE_one _) (by omega)
  have HR := mkHid (row_of_shr s)
  have HB := mkHid (below_grown g2 (Nat.le_refl w.heap.size))
  clear s g1 g2 z1 z2 hr
  go_enter Tryz.func5, Tryz.ntmps5
  go_wp2_with (first | (at_make; refine wp_make 27 rfl (.const (.int .i64 0)) (.tmp 5) rfl rfl rfl r1 ?_) | (at_builtin; refine wp_app 27 rfl (.tmp 6) (.tmp 7) rfl rfl rfl r2 ?_))
  go_ret
  exact ⟨rfl, HR.out, HB.out⟩
end Go.Proofs.YtecebjfcokmmkaaGreatDoor
