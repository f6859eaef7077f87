/-
  The walk of expr.Parts' closure: the other way.
-/
import Derived.Test.YtokppkinhlcafaaGreatDoorExR
namespace Go.Proofs.YtokppkinhlcafaaGreatDoor
open Go.RowKit Go.Joins
set_option maxRecDepth 100000

/-- what is known while one operation has not come up -/
def SH (d : Nat) (A : World → Prop) (L : Array Bool) (w : World) : Prop := L.getD d true = false → A w
theorem SH_set {d i : Nat} {A : World → Prop} (h : i ≠ d) : ∀ L w, SH d A (L.setIfInBounds i true) w ↔ SH d A L w := fun L w => by
  unfold SH
  rw [getD_set_ne true h]
theorem PaM.ne {W w3 : World} {pb n : Nat} {l : List Ex} {x : Ex} {v : Value} {g cap : Nat} {P1 : Option Addr} {C1 : Nat} (h : PaM W w3 pb n l x v g cap P1 C1) (hpW : pb < W.heap.size) : g ≠ pb := by
  obtain ⟨_, _, xs, _, h3, _⟩ := h
  have := own_lt h3 (g := g) rfl
  omega
theorem PaM.cell {W w3 : World} {pb n : Nat} {l : List Ex} {x : Ex} {v : Value} {g cap : Nat} {P1 : Option Addr} {C1 : Nat} (h : PaM W w3 pb n l x v g cap P1 C1) {r : Nat} {u : Value} (hr : z9[r]? = some u) : w3.cell? ⟨g, l.length * 9 + r, none⟩ = some u := by
  obtain ⟨_, _, xs, hx, h3, _⟩ := h
  have hrl : r < 9 := (List.getElem?_eq_some_iff.1 hr).1
  rw [h3.cellAt _ (by omega), List.getElem?_append_right (by omega), hx, Nat.add_sub_cancel_left]
  exact hr
theorem PaM.fro {W w3 : World} {pb n : Nat} {l : List Ex} {x : Ex} {v : Value} {g cap : Nat} {P1 : Option Addr} {C1 : Nat} (h : PaM W w3 pb n l x v g cap P1 C1) (r : Nat) : w3.frozen? ⟨g, l.length * 9 + r, none⟩ = false := by
  obtain ⟨_, _, xs, hx, h3, _⟩ := h
  exact h3.frozenAt _
set_option maxHeartbeats 8000000 in
set_option maxRecDepth 1000000 in
theorem split_one (W : World) (sb pb m n : Nat) (S : Nat → Prop) (x : Ex) (p s : Nat) (P : Option Addr) (C : Nat) (w : World) (l : List Ex) (c : nine W p s x P C) (hp : p ≠ pb) (hpW : pb < W.heap.size) (ha : exIn W S n x (exC x P C)) (hm : n ≤ m) (hS : ∀ q, S q → q < W.heap.size ∧ q ≠ pb) (hs : PaS W w pb m l) (hl : l.length + 1 ≤ 100000000) (h : ¬ (x.op = bAnd ∧ x.parts.length = 2)) :
    Calls Tryz.prog 14 #[.pointer (some ⟨p, s, none⟩), .pointer (some ⟨sb, 0, none⟩), .pointer (some ⟨pb, 0, none⟩)] w fun e w' => e = .returned (.tuple #[]) ∧ PaS W w' pb m (l ++ [x]) := by
  obtain ⟨W0, hW0⟩ : ∃ W0, W0 = w.drew := ⟨_, rfl⟩
  have P0 : PaS W W0 pb m l := by rw [hW0]; exact hs.drew
  have HW0 := mkHid hW0
  obtain ⟨hst, v, xs, hpv, hown, hels⟩ := P0
  obtain ⟨Pv, Cv, rfl⟩ := own_form hown
  have HST := mkHid hst
  have HPV := mkHid hpv
  have OWN := mkHid hown
  have ELS := mkHid hels
  have B00 : Hid (Below W0.heap.size W0 W0) := Below.refl _ _
  have PCELL : Hid (∀ w', Below W0.heap.size W0 w' → w'.cell? ⟨pb, 0, none⟩ = some (.slice Pv l.length Cv)) := fun w' hb => cellNext hb ((cell_of_block hpv 0).trans rfl)
  have OO : Hid (∀ w', Below W0.heap.size W0 w' → Calls Tryz.prog 15 #[.pointer (some ⟨p, s, none⟩)] w' fun e w'' => CpQ w' m x e w'') := fun w' hb => copied_ex m S x p s P C w' ((c.sto hst hp).next hb) ((exIn.map (fun q o u hq hc => hst.cell (hS q hq).2 hc) (fun q hq => hq) (ha.le hm)).below hb) (fun q hq => Nat.lt_of_lt_of_le (hS q hq).1 (Nat.le_trans hst.size hb.size))
  have k0 := hs.1.cell hp c.1
  have k1 := hs.1.cell hp c.2.1
  replace hl := mkHid hl
  clear hst hpv hown hels hS ha c hm hW0 hs
  have key : (x.op.toList == [97, 110, 100]) = false ∨ ((x.op.toList == [97, 110, 100]) = true ∧ ((x.parts.length : Int) == 2) = false) := by
    by_cases h1 : x.op = bAnd
    · refine Or.inr ⟨by rw [h1, ByteArray.toList_eq]; rfl, ?_⟩
      rw [beq_eq_false_iff_ne]; intro e; exact h ⟨h1, by omega⟩
    · refine Or.inl ?_
      rw [beq_eq_false_iff_ne]; exact fun e => h1 (op_is e)
  clear h
  rcases key with h3 | ⟨h3, h5⟩
  · have h4 : ¬ x.op.toList = [97, 110, 100] := by rw [beq_eq_false_iff_ne] at h3; exact h3
    go_enter Tryz.func14, Tryz.ntmps14
    go_wp2_with fail
    refine wp_region_G (S := SH 8 (fun w' => w'.cell? ⟨pb, 0, none⟩ = some (.slice Pv l.length Cv))) (by kernel_rfl) (fun _ => by rw [← HW0.out]; exact PCELL.out _ B00.out) (fun hH => ?_)
    rw [← HW0.out] at hH ⊢
    simp only [Array.replicate, List.size_toArray, List.length_cons, List.length_nil, List.replicate, Nat.zero_add, Nat.reduceAdd] at hH ⊢
    refine takeG (i := 0) (v := .slice Pv l.length Cv) [8] rfl rfl (by kernel_rfl) (by kernel_rfl) (by kernel_rfl) (by kernel_rfl) (by kernel_rfl) (SH_set (by decide)) (fun _ _ _ h => h) (Or.inl ⟨by rfl, ?_⟩) hH (fun hH => ?_)
    · intro w5 hSw; obtain ⟨L5, hU5, hA5⟩ := hSw; have a5 := hA5 (hU5 _ (by simp)); go_simp
    simp only [List.setIfInBounds_toArray, List.set_cons_zero, List.set_cons_succ] at hH ⊢
    refine takeG (i := 1) (v := .pointer (some ⟨p, s, none⟩)) [] rfl rfl (by kernel_rfl) (by kernel_rfl) (by kernel_rfl) (by kernel_rfl) (by kernel_rfl) (SH_set (by decide)) (fun _ _ _ h => h) (Or.inl ⟨by rfl, ?_⟩) hH (fun hH => ?_)
    · intro w5 hSw; go_simp
    simp only [List.setIfInBounds_toArray, List.set_cons_zero, List.set_cons_succ] at hH ⊢
    refine takeG (i := 3) (v := .int .i64 l.length) [] rfl rfl (by kernel_rfl) (by kernel_rfl) (by kernel_rfl) (by kernel_rfl) (by kernel_rfl) (SH_set (by decide)) (fun _ _ _ h => h) (Or.inl ⟨by rfl, ?_⟩) hH (fun hH => ?_)
    · intro w5 hSw; go_simp
    simp only [List.setIfInBounds_toArray, List.set_cons_zero, List.set_cons_succ] at hH ⊢
    refine wpAnyG_ready (rs := [2, 4]) (by kernel_rfl) (by simp) ?_
    refine AllReadyG.cons rfl (fun K hK => ?_) (AllReadyG.cons rfl (fun K hK => ?_) AllReadyG.nil)
    · go_simp
      go_at_call 15
      refine (OO.out W0 B00.out).mono ?_
      rintro e wc ⟨P1, C1, rfl, i9, b9⟩
      have IX := mkHid i9
      have BX := mkHid b9
      clear i9 b9
      go_wp2_with fail
      refine hK.out _ _ (fun _ => PCELL.out _ (B00.out.trans (BX.out.mono B00.out.size))) (fun hH => ?_)
      clear hK K
      refine wpAnyG_ready (rs := [4]) (by kernel_rfl) (by simp) ?_
      refine AllReadyG.cons rfl (fun K hK => ?_) AllReadyG.nil
      go_simp
      refine hK.out _ _ (fun _ => PCELL.out _ ((B00.out.trans (BX.out.mono B00.out.size)).alloc (B00.out.trans (BX.out.mono B00.out.size)).size _)) (fun hH => ?_)
      clear hK K
      have HX : Hid (Below W0.heap.size W0 (wc.alloc (.cells #[.string ⟨#[]⟩, .slice none 0 0, .int .i64 0, .int .i64 0, .string ⟨#[]⟩, .string ⟨#[]⟩, .string ⟨#[]⟩, .int .i64 0, .int .i64 0] 26))) := (B00.out.trans (BX.out.mono B00.out.size)).alloc (B00.out.trans (BX.out.mono B00.out.size)).size _
      have HZ : Hid ((wc.alloc (.cells #[.string ⟨#[]⟩, .slice none 0 0, .int .i64 0, .int .i64 0, .string ⟨#[]⟩, .string ⟨#[]⟩, .string ⟨#[]⟩, .int .i64 0, .int .i64 0] 26)).heap[wc.heap.size]? = some (.cells #[.string ⟨#[]⟩, .slice none 0 0, .int .i64 0, .int .i64 0, .string ⟨#[]⟩, .string ⟨#[]⟩, .string ⟨#[]⟩, .int .i64 0, .int .i64 0] 26 (0, 0))) := heap_alloc_new _ _
      have IXX : Hid (exIn (wc.alloc (.cells #[.string ⟨#[]⟩, .slice none 0 0, .int .i64 0, .int .i64 0, .string ⟨#[]⟩, .string ⟨#[]⟩, .string ⟨#[]⟩, .int .i64 0, .int .i64 0] 26)) (fun q => W0.heap.size ≤ q ∧ q < (wc.alloc (.cells #[.string ⟨#[]⟩, .slice none 0 0, .int .i64 0, .int .i64 0, .string ⟨#[]⟩, .string ⟨#[]⟩, .string ⟨#[]⟩, .int .i64 0, .int .i64 0] 26)).heap.size) m x (exC x P1 C1)) := (IX.out.below ((Below.refl wc.heap.size wc).alloc (Nat.le_refl _) _)).more (fun q hq => ⟨hq.1, by rw [World.size_alloc]; omega⟩)
      generalize wc.alloc (.cells #[.string ⟨#[]⟩, .slice none 0 0, .int .i64 0, .int .i64 0, .string ⟨#[]⟩, .string ⟨#[]⟩, .string ⟨#[]⟩, .int .i64 0, .int .i64 0] 26) = XX at HX HZ IXX hH ⊢
      clear IX BX
      obtain ⟨g, cap, w3, hr, pm⟩ := PaM.made HST.out hpW HPV.out OWN.out ELS.out HX.out HZ.out IXX.out hl.out
      have PM := mkHid pm
      clear pm
      have NG := PaM.ne PM.out hpW
      have NG2 := Ne.symm NG
      have c3 : w3.cell? ⟨pb, 0, none⟩ = some (.slice Pv l.length Cv) := (cell_of_block PM.out.2.1 0).trans rfl
      have z3 : w3.frozen? ⟨pb, 0, none⟩ = false := unfrozen_of_block PM.out.2.1 0
      have q0 : w3.cell? ⟨g, l.length * 9, none⟩ = some (.string ⟨#[]⟩) := PaM.cell PM.out (r := 0) rfl
      have f0 : w3.frozen? ⟨g, l.length * 9, none⟩ = false := PaM.fro PM.out 0
      have q1 : w3.cell? ⟨g, l.length * 9 + 1, none⟩ = some (.slice none 0 0) := PaM.cell PM.out (r := 1) rfl
      have f1 : w3.frozen? ⟨g, l.length * 9 + 1, none⟩ = false := PaM.fro PM.out 1
      have q2 : w3.cell? ⟨g, l.length * 9 + 2, none⟩ = some (.int .i64 0) := PaM.cell PM.out (r := 2) rfl
      have f2 : w3.frozen? ⟨g, l.length * 9 + 2, none⟩ = false := PaM.fro PM.out 2
      have q3 : w3.cell? ⟨g, l.length * 9 + 3, none⟩ = some (.int .i64 0) := PaM.cell PM.out (r := 3) rfl
      have f3 : w3.frozen? ⟨g, l.length * 9 + 3, none⟩ = false := PaM.fro PM.out 3
      have q4 : w3.cell? ⟨g, l.length * 9 + 4, none⟩ = some (.string ⟨#[]⟩) := PaM.cell PM.out (r := 4) rfl
      have f4 : w3.frozen? ⟨g, l.length * 9 + 4, none⟩ = false := PaM.fro PM.out 4
      have q5 : w3.cell? ⟨g, l.length * 9 + 5, none⟩ = some (.string ⟨#[]⟩) := PaM.cell PM.out (r := 5) rfl
      have f5 : w3.frozen? ⟨g, l.length * 9 + 5, none⟩ = false := PaM.fro PM.out 5
      have q6 : w3.cell? ⟨g, l.length * 9 + 6, none⟩ = some (.string ⟨#[]⟩) := PaM.cell PM.out (r := 6) rfl
      have f6 : w3.frozen? ⟨g, l.length * 9 + 6, none⟩ = false := PaM.fro PM.out 6
      have q7 : w3.cell? ⟨g, l.length * 9 + 7, none⟩ = some (.int .i64 0) := PaM.cell PM.out (r := 7) rfl
      have f7 : w3.frozen? ⟨g, l.length * 9 + 7, none⟩ = false := PaM.fro PM.out 7
      have q8 : w3.cell? ⟨g, l.length * 9 + 8, none⟩ = some (.int .i64 0) := PaM.cell PM.out (r := 8) rfl
      have f8 : w3.frozen? ⟨g, l.length * 9 + 8, none⟩ = false := PaM.fro PM.out 8
      have ll : (l.length : Int) < ((l.length + 1 : Nat) : Int) := by omega
      have ll2 : (l.length : Int) < (l.length : Int) + 1 := by omega
      have ll0 : (0 : Int) ≤ (l.length : Int) := by omega
      refine wpAnyG_ready (rs := [5]) (by kernel_rfl) (by simp) ?_
      refine AllReadyG.cons rfl (fun K hK => ?_) AllReadyG.nil
      rw [if_pos (by kernel_rfl)]
      refine wp_app_here 22 (.tmp 31) (.tmp 35) rfl rfl rfl hr ?_
      refine hK.out _ _ (fun _ => c3) (fun hH => ?_)
      clear hK K hr
      simp only [Act.put, List.setIfInBounds_toArray, List.set_cons_zero, List.set_cons_succ] at hH ⊢
      refine takeG (i := 6) (v := .pointer (some ⟨g, l.length * 9, none⟩)) [] rfl rfl (by kernel_rfl) (by kernel_rfl) (by kernel_rfl) (by kernel_rfl) (by kernel_rfl) (SH_set (by decide)) (fun _ _ _ h => h) (Or.inl ⟨by rfl, ?_⟩) hH (fun hH => ?_)
      · intro w5 hSw; go_simp
      simp only [List.setIfInBounds_toArray, List.set_cons_zero, List.set_cons_succ] at hH ⊢
      refine wpAnyG_ready (rs := [7, 8]) (by kernel_rfl) (by simp) ?_
      refine AllReadyG.cons rfl (fun K hK => ?_) (AllReadyG.cons rfl (fun K hK => ?_) AllReadyG.nil)
      · go_simp
        obtain ⟨V9, hV9⟩ : ∃ V, V = (((((((((w3.setCell ⟨g, l.length * 9, none⟩ (.string x.op)).setCell ⟨g, l.length * 9 + 1, none⟩ (.slice P1 x.parts.length C1)).setCell ⟨g, l.length * 9 + 2, none⟩ (.int .i64 x.vt)).setCell ⟨g, l.length * 9 + 3, none⟩ (.int .i64 x.vn)).setCell ⟨g, l.length * 9 + 4, none⟩ (.string x.vs)).setCell ⟨g, l.length * 9 + 5, none⟩ (.string x.nm)).setCell ⟨g, l.length * 9 + 6, none⟩ (.string x.of)).setCell ⟨g, l.length * 9 + 7, none⟩ (.int .i64 x.ty)).setCell ⟨g, l.length * 9 + 8, none⟩ (.int .i64 x.at_)) := ⟨_, rfl⟩
        have PV := mkHid (show PaS W (V9.setCell ⟨pb, 0, none⟩ (.slice (some ⟨g, 0, none⟩) (l.length + 1) cap)) pb m (l ++ [x]) by rw [hV9]; exact PaM.a PM.out hpW)
        have c9 : V9.cell? ⟨pb, 0, none⟩ = some (.slice Pv l.length Cv) := by rw [hV9]; exact Off.cell ((((((((((Off.refl g g w3).set (Or.inl rfl) _).set (Or.inl rfl) _).set (Or.inl rfl) _).set (Or.inl rfl) _).set (Or.inl rfl) _).set (Or.inl rfl) _).set (Or.inl rfl) _).set (Or.inl rfl) _).set (Or.inl rfl) _) NG2 NG2 c3
        have z9' : V9.frozen? ⟨pb, 0, none⟩ = false := by rw [hV9]; simpa using z3
        rw [← hV9]
        clear hV9
        refine hK.out _ _ (fun _ => c9) (fun hH => ?_)
        clear hK K
        refine wpAnyG_ready (rs := [8]) (by kernel_rfl) (by simp) ?_
        refine AllReadyG.cons rfl (fun K hK => ?_) AllReadyG.nil
        go_simp
        refine hK.out _ _ (fun h => Bool.noConfusion (show true = false from h)) (fun hH => ?_)
        clear hK K
        refine wpAnyG_done (by kernel_rfl) ?_ _
        go_wp2_with fail
        first | go_end0 | refine bodyPost_ret (results_none rfl _ _ _) rfl ?_
        exact ⟨rfl, PV.out⟩
      · go_simp
        have PV := mkHid (PaM.b PM.out hpW)
        refine hK.out _ _ (fun h => Bool.noConfusion (show true = false from h)) (fun hH => ?_)
        clear hK K
        refine wpAnyG_ready (rs := [7]) (by kernel_rfl) (by simp) ?_
        refine AllReadyG.cons rfl (fun K hK => ?_) AllReadyG.nil
        go_simp
        refine hK.out _ _ (fun h => Bool.noConfusion (show true = false from h)) (fun hH => ?_)
        clear hK K
        refine wpAnyG_done (by kernel_rfl) ?_ _
        go_wp2_with fail
        first | go_end0 | refine bodyPost_ret (results_none rfl _ _ _) rfl ?_
        exact ⟨rfl, PV.out⟩
    · go_simp
      refine hK.out _ _ (fun _ => PCELL.out _ (B00.out.alloc B00.out.size _)) (fun hH => ?_)
      clear hK K
      have HX0 : Hid (Below W0.heap.size W0 (W0.alloc (.cells #[.string ⟨#[]⟩, .slice none 0 0, .int .i64 0, .int .i64 0, .string ⟨#[]⟩, .string ⟨#[]⟩, .string ⟨#[]⟩, .int .i64 0, .int .i64 0] 26))) := B00.out.alloc B00.out.size _
      have HZ0 : Hid ((W0.alloc (.cells #[.string ⟨#[]⟩, .slice none 0 0, .int .i64 0, .int .i64 0, .string ⟨#[]⟩, .string ⟨#[]⟩, .string ⟨#[]⟩, .int .i64 0, .int .i64 0] 26)).heap[W0.heap.size]? = some (.cells #[.string ⟨#[]⟩, .slice none 0 0, .int .i64 0, .int .i64 0, .string ⟨#[]⟩, .string ⟨#[]⟩, .string ⟨#[]⟩, .int .i64 0, .int .i64 0] 26 (0, 0))) := heap_alloc_new _ _
      have SZ0 : Hid (W0.heap.size < (W0.alloc (.cells #[.string ⟨#[]⟩, .slice none 0 0, .int .i64 0, .int .i64 0, .string ⟨#[]⟩, .string ⟨#[]⟩, .string ⟨#[]⟩, .int .i64 0, .int .i64 0] 26)).heap.size) := by show _ < _; rw [World.size_alloc]; omega
      generalize W0.alloc (.cells #[.string ⟨#[]⟩, .slice none 0 0, .int .i64 0, .int .i64 0, .string ⟨#[]⟩, .string ⟨#[]⟩, .string ⟨#[]⟩, .int .i64 0, .int .i64 0] 26) = XA at HX0 HZ0 SZ0 hH ⊢
      refine wpAnyG_ready (rs := [2]) (by kernel_rfl) (by simp) ?_
      refine AllReadyG.cons rfl (fun K hK => ?_) AllReadyG.nil
      go_simp
      go_at_call 15
      refine (OO.out XA HX0.out).mono ?_
      rintro e XX ⟨P1, C1, rfl, i9, b9⟩
      have IX := mkHid i9
      have BX := mkHid b9
      clear i9 b9
      go_wp2_with fail
      refine hK.out _ _ (fun _ => PCELL.out _ (HX0.out.trans (BX.out.mono HX0.out.size))) (fun hH => ?_)
      clear hK K
      have HX : Hid (Below W0.heap.size W0 XX) := HX0.out.trans (BX.out.mono HX0.out.size)
      have HZ : Hid (XX.heap[W0.heap.size]? = some (.cells #[.string ⟨#[]⟩, .slice none 0 0, .int .i64 0, .int .i64 0, .string ⟨#[]⟩, .string ⟨#[]⟩, .string ⟨#[]⟩, .int .i64 0, .int .i64 0] 26 (0, 0))) := (BX.out.block _ SZ0.out).trans HZ0.out
      have IXX : Hid (exIn XX (fun q => W0.heap.size ≤ q ∧ q < XX.heap.size) m x (exC x P1 C1)) := IX.out.more (fun q hq => ⟨Nat.le_trans HX0.out.size hq.1, hq.2⟩)
      clear IX BX
      obtain ⟨g, cap, w3, hr, pm⟩ := PaM.made HST.out hpW HPV.out OWN.out ELS.out HX.out HZ.out IXX.out hl.out
      have PM := mkHid pm
      clear pm
      have NG := PaM.ne PM.out hpW
      have NG2 := Ne.symm NG
      have c3 : w3.cell? ⟨pb, 0, none⟩ = some (.slice Pv l.length Cv) := (cell_of_block PM.out.2.1 0).trans rfl
      have z3 : w3.frozen? ⟨pb, 0, none⟩ = false := unfrozen_of_block PM.out.2.1 0
      have q0 : w3.cell? ⟨g, l.length * 9, none⟩ = some (.string ⟨#[]⟩) := PaM.cell PM.out (r := 0) rfl
      have f0 : w3.frozen? ⟨g, l.length * 9, none⟩ = false := PaM.fro PM.out 0
      have q1 : w3.cell? ⟨g, l.length * 9 + 1, none⟩ = some (.slice none 0 0) := PaM.cell PM.out (r := 1) rfl
      have f1 : w3.frozen? ⟨g, l.length * 9 + 1, none⟩ = false := PaM.fro PM.out 1
      have q2 : w3.cell? ⟨g, l.length * 9 + 2, none⟩ = some (.int .i64 0) := PaM.cell PM.out (r := 2) rfl
      have f2 : w3.frozen? ⟨g, l.length * 9 + 2, none⟩ = false := PaM.fro PM.out 2
      have q3 : w3.cell? ⟨g, l.length * 9 + 3, none⟩ = some (.int .i64 0) := PaM.cell PM.out (r := 3) rfl
      have f3 : w3.frozen? ⟨g, l.length * 9 + 3, none⟩ = false := PaM.fro PM.out 3
      have q4 : w3.cell? ⟨g, l.length * 9 + 4, none⟩ = some (.string ⟨#[]⟩) := PaM.cell PM.out (r := 4) rfl
      have f4 : w3.frozen? ⟨g, l.length * 9 + 4, none⟩ = false := PaM.fro PM.out 4
      have q5 : w3.cell? ⟨g, l.length * 9 + 5, none⟩ = some (.string ⟨#[]⟩) := PaM.cell PM.out (r := 5) rfl
      have f5 : w3.frozen? ⟨g, l.length * 9 + 5, none⟩ = false := PaM.fro PM.out 5
      have q6 : w3.cell? ⟨g, l.length * 9 + 6, none⟩ = some (.string ⟨#[]⟩) := PaM.cell PM.out (r := 6) rfl
      have f6 : w3.frozen? ⟨g, l.length * 9 + 6, none⟩ = false := PaM.fro PM.out 6
      have q7 : w3.cell? ⟨g, l.length * 9 + 7, none⟩ = some (.int .i64 0) := PaM.cell PM.out (r := 7) rfl
      have f7 : w3.frozen? ⟨g, l.length * 9 + 7, none⟩ = false := PaM.fro PM.out 7
      have q8 : w3.cell? ⟨g, l.length * 9 + 8, none⟩ = some (.int .i64 0) := PaM.cell PM.out (r := 8) rfl
      have f8 : w3.frozen? ⟨g, l.length * 9 + 8, none⟩ = false := PaM.fro PM.out 8
      have ll : (l.length : Int) < ((l.length + 1 : Nat) : Int) := by omega
      have ll2 : (l.length : Int) < (l.length : Int) + 1 := by omega
      have ll0 : (0 : Int) ≤ (l.length : Int) := by omega
      refine wpAnyG_ready (rs := [5]) (by kernel_rfl) (by simp) ?_
      refine AllReadyG.cons rfl (fun K hK => ?_) AllReadyG.nil
      rw [if_pos (by kernel_rfl)]
      refine wp_app_here 22 (.tmp 31) (.tmp 35) rfl rfl rfl hr ?_
      refine hK.out _ _ (fun _ => c3) (fun hH => ?_)
      clear hK K hr
      simp only [Act.put, List.setIfInBounds_toArray, List.set_cons_zero, List.set_cons_succ] at hH ⊢
      refine takeG (i := 6) (v := .pointer (some ⟨g, l.length * 9, none⟩)) [] rfl rfl (by kernel_rfl) (by kernel_rfl) (by kernel_rfl) (by kernel_rfl) (by kernel_rfl) (SH_set (by decide)) (fun _ _ _ h => h) (Or.inl ⟨by rfl, ?_⟩) hH (fun hH => ?_)
      · intro w5 hSw; go_simp
      simp only [List.setIfInBounds_toArray, List.set_cons_zero, List.set_cons_succ] at hH ⊢
      refine wpAnyG_ready (rs := [7, 8]) (by kernel_rfl) (by simp) ?_
      refine AllReadyG.cons rfl (fun K hK => ?_) (AllReadyG.cons rfl (fun K hK => ?_) AllReadyG.nil)
      · go_simp
        obtain ⟨V9, hV9⟩ : ∃ V, V = (((((((((w3.setCell ⟨g, l.length * 9, none⟩ (.string x.op)).setCell ⟨g, l.length * 9 + 1, none⟩ (.slice P1 x.parts.length C1)).setCell ⟨g, l.length * 9 + 2, none⟩ (.int .i64 x.vt)).setCell ⟨g, l.length * 9 + 3, none⟩ (.int .i64 x.vn)).setCell ⟨g, l.length * 9 + 4, none⟩ (.string x.vs)).setCell ⟨g, l.length * 9 + 5, none⟩ (.string x.nm)).setCell ⟨g, l.length * 9 + 6, none⟩ (.string x.of)).setCell ⟨g, l.length * 9 + 7, none⟩ (.int .i64 x.ty)).setCell ⟨g, l.length * 9 + 8, none⟩ (.int .i64 x.at_)) := ⟨_, rfl⟩
        have PV := mkHid (show PaS W (V9.setCell ⟨pb, 0, none⟩ (.slice (some ⟨g, 0, none⟩) (l.length + 1) cap)) pb m (l ++ [x]) by rw [hV9]; exact PaM.a PM.out hpW)
        have c9 : V9.cell? ⟨pb, 0, none⟩ = some (.slice Pv l.length Cv) := by rw [hV9]; exact Off.cell ((((((((((Off.refl g g w3).set (Or.inl rfl) _).set (Or.inl rfl) _).set (Or.inl rfl) _).set (Or.inl rfl) _).set (Or.inl rfl) _).set (Or.inl rfl) _).set (Or.inl rfl) _).set (Or.inl rfl) _).set (Or.inl rfl) _) NG2 NG2 c3
        have z9' : V9.frozen? ⟨pb, 0, none⟩ = false := by rw [hV9]; simpa using z3
        rw [← hV9]
        clear hV9
        refine hK.out _ _ (fun _ => c9) (fun hH => ?_)
        clear hK K
        refine wpAnyG_ready (rs := [8]) (by kernel_rfl) (by simp) ?_
        refine AllReadyG.cons rfl (fun K hK => ?_) AllReadyG.nil
        go_simp
        refine hK.out _ _ (fun h => Bool.noConfusion (show true = false from h)) (fun hH => ?_)
        clear hK K
        refine wpAnyG_done (by kernel_rfl) ?_ _
        go_wp2_with fail
        first | go_end0 | refine bodyPost_ret (results_none rfl _ _ _) rfl ?_
        exact ⟨rfl, PV.out⟩
      · go_simp
        have PV := mkHid (PaM.b PM.out hpW)
        refine hK.out _ _ (fun h => Bool.noConfusion (show true = false from h)) (fun hH => ?_)
        clear hK K
        refine wpAnyG_ready (rs := [7]) (by kernel_rfl) (by simp) ?_
        refine AllReadyG.cons rfl (fun K hK => ?_) AllReadyG.nil
        go_simp
        refine hK.out _ _ (fun h => Bool.noConfusion (show true = false from h)) (fun hH => ?_)
        clear hK K
        refine wpAnyG_done (by kernel_rfl) ?_ _
        go_wp2_with fail
        first | go_end0 | refine bodyPost_ret (results_none rfl _ _ _) rfl ?_
        exact ⟨rfl, PV.out⟩
  · have h4 : x.op.toList = [97, 110, 100] := by simpa using h3
    go_enter Tryz.func14, Tryz.ntmps14
    go_wp2_with fail
    refine wp_region_G (S := SH 8 (fun w' => w'.cell? ⟨pb, 0, none⟩ = some (.slice Pv l.length Cv))) (by kernel_rfl) (fun _ => by rw [← HW0.out]; exact PCELL.out _ B00.out) (fun hH => ?_)
    rw [← HW0.out] at hH ⊢
    simp only [Array.replicate, List.size_toArray, List.length_cons, List.length_nil, List.replicate, Nat.zero_add, Nat.reduceAdd] at hH ⊢
    refine takeG (i := 0) (v := .slice Pv l.length Cv) [8] rfl rfl (by kernel_rfl) (by kernel_rfl) (by kernel_rfl) (by kernel_rfl) (by kernel_rfl) (SH_set (by decide)) (fun _ _ _ h => h) (Or.inl ⟨by rfl, ?_⟩) hH (fun hH => ?_)
    · intro w5 hSw; obtain ⟨L5, hU5, hA5⟩ := hSw; have a5 := hA5 (hU5 _ (by simp)); go_simp
    simp only [List.setIfInBounds_toArray, List.set_cons_zero, List.set_cons_succ] at hH ⊢
    refine takeG (i := 1) (v := .pointer (some ⟨p, s, none⟩)) [] rfl rfl (by kernel_rfl) (by kernel_rfl) (by kernel_rfl) (by kernel_rfl) (by kernel_rfl) (SH_set (by decide)) (fun _ _ _ h => h) (Or.inl ⟨by rfl, ?_⟩) hH (fun hH => ?_)
    · intro w5 hSw; go_simp
    simp only [List.setIfInBounds_toArray, List.set_cons_zero, List.set_cons_succ] at hH ⊢
    refine takeG (i := 3) (v := .int .i64 l.length) [] rfl rfl (by kernel_rfl) (by kernel_rfl) (by kernel_rfl) (by kernel_rfl) (by kernel_rfl) (SH_set (by decide)) (fun _ _ _ h => h) (Or.inl ⟨by rfl, ?_⟩) hH (fun hH => ?_)
    · intro w5 hSw; go_simp
    simp only [List.setIfInBounds_toArray, List.set_cons_zero, List.set_cons_succ] at hH ⊢
    refine wpAnyG_ready (rs := [2, 4]) (by kernel_rfl) (by simp) ?_
    refine AllReadyG.cons rfl (fun K hK => ?_) (AllReadyG.cons rfl (fun K hK => ?_) AllReadyG.nil)
    · go_simp
      go_at_call 15
      refine (OO.out W0 B00.out).mono ?_
      rintro e wc ⟨P1, C1, rfl, i9, b9⟩
      have IX := mkHid i9
      have BX := mkHid b9
      clear i9 b9
      go_wp2_with fail
      refine hK.out _ _ (fun _ => PCELL.out _ (B00.out.trans (BX.out.mono B00.out.size))) (fun hH => ?_)
      clear hK K
      refine wpAnyG_ready (rs := [4]) (by kernel_rfl) (by simp) ?_
      refine AllReadyG.cons rfl (fun K hK => ?_) AllReadyG.nil
      go_simp
      refine hK.out _ _ (fun _ => PCELL.out _ ((B00.out.trans (BX.out.mono B00.out.size)).alloc (B00.out.trans (BX.out.mono B00.out.size)).size _)) (fun hH => ?_)
      clear hK K
      have HX : Hid (Below W0.heap.size W0 (wc.alloc (.cells #[.string ⟨#[]⟩, .slice none 0 0, .int .i64 0, .int .i64 0, .string ⟨#[]⟩, .string ⟨#[]⟩, .string ⟨#[]⟩, .int .i64 0, .int .i64 0] 26))) := (B00.out.trans (BX.out.mono B00.out.size)).alloc (B00.out.trans (BX.out.mono B00.out.size)).size _
      have HZ : Hid ((wc.alloc (.cells #[.string ⟨#[]⟩, .slice none 0 0, .int .i64 0, .int .i64 0, .string ⟨#[]⟩, .string ⟨#[]⟩, .string ⟨#[]⟩, .int .i64 0, .int .i64 0] 26)).heap[wc.heap.size]? = some (.cells #[.string ⟨#[]⟩, .slice none 0 0, .int .i64 0, .int .i64 0, .string ⟨#[]⟩, .string ⟨#[]⟩, .string ⟨#[]⟩, .int .i64 0, .int .i64 0] 26 (0, 0))) := heap_alloc_new _ _
      have IXX : Hid (exIn (wc.alloc (.cells #[.string ⟨#[]⟩, .slice none 0 0, .int .i64 0, .int .i64 0, .string ⟨#[]⟩, .string ⟨#[]⟩, .string ⟨#[]⟩, .int .i64 0, .int .i64 0] 26)) (fun q => W0.heap.size ≤ q ∧ q < (wc.alloc (.cells #[.string ⟨#[]⟩, .slice none 0 0, .int .i64 0, .int .i64 0, .string ⟨#[]⟩, .string ⟨#[]⟩, .string ⟨#[]⟩, .int .i64 0, .int .i64 0] 26)).heap.size) m x (exC x P1 C1)) := (IX.out.below ((Below.refl wc.heap.size wc).alloc (Nat.le_refl _) _)).more (fun q hq => ⟨hq.1, by rw [World.size_alloc]; omega⟩)
      generalize wc.alloc (.cells #[.string ⟨#[]⟩, .slice none 0 0, .int .i64 0, .int .i64 0, .string ⟨#[]⟩, .string ⟨#[]⟩, .string ⟨#[]⟩, .int .i64 0, .int .i64 0] 26) = XX at HX HZ IXX hH ⊢
      clear IX BX
      obtain ⟨g, cap, w3, hr, pm⟩ := PaM.made HST.out hpW HPV.out OWN.out ELS.out HX.out HZ.out IXX.out hl.out
      have PM := mkHid pm
      clear pm
      have NG := PaM.ne PM.out hpW
      have NG2 := Ne.symm NG
      have c3 : w3.cell? ⟨pb, 0, none⟩ = some (.slice Pv l.length Cv) := (cell_of_block PM.out.2.1 0).trans rfl
      have z3 : w3.frozen? ⟨pb, 0, none⟩ = false := unfrozen_of_block PM.out.2.1 0
      have q0 : w3.cell? ⟨g, l.length * 9, none⟩ = some (.string ⟨#[]⟩) := PaM.cell PM.out (r := 0) rfl
      have f0 : w3.frozen? ⟨g, l.length * 9, none⟩ = false := PaM.fro PM.out 0
      have q1 : w3.cell? ⟨g, l.length * 9 + 1, none⟩ = some (.slice none 0 0) := PaM.cell PM.out (r := 1) rfl
      have f1 : w3.frozen? ⟨g, l.length * 9 + 1, none⟩ = false := PaM.fro PM.out 1
      have q2 : w3.cell? ⟨g, l.length * 9 + 2, none⟩ = some (.int .i64 0) := PaM.cell PM.out (r := 2) rfl
      have f2 : w3.frozen? ⟨g, l.length * 9 + 2, none⟩ = false := PaM.fro PM.out 2
      have q3 : w3.cell? ⟨g, l.length * 9 + 3, none⟩ = some (.int .i64 0) := PaM.cell PM.out (r := 3) rfl
      have f3 : w3.frozen? ⟨g, l.length * 9 + 3, none⟩ = false := PaM.fro PM.out 3
      have q4 : w3.cell? ⟨g, l.length * 9 + 4, none⟩ = some (.string ⟨#[]⟩) := PaM.cell PM.out (r := 4) rfl
      have f4 : w3.frozen? ⟨g, l.length * 9 + 4, none⟩ = false := PaM.fro PM.out 4
      have q5 : w3.cell? ⟨g, l.length * 9 + 5, none⟩ = some (.string ⟨#[]⟩) := PaM.cell PM.out (r := 5) rfl
      have f5 : w3.frozen? ⟨g, l.length * 9 + 5, none⟩ = false := PaM.fro PM.out 5
      have q6 : w3.cell? ⟨g, l.length * 9 + 6, none⟩ = some (.string ⟨#[]⟩) := PaM.cell PM.out (r := 6) rfl
      have f6 : w3.frozen? ⟨g, l.length * 9 + 6, none⟩ = false := PaM.fro PM.out 6
      have q7 : w3.cell? ⟨g, l.length * 9 + 7, none⟩ = some (.int .i64 0) := PaM.cell PM.out (r := 7) rfl
      have f7 : w3.frozen? ⟨g, l.length * 9 + 7, none⟩ = false := PaM.fro PM.out 7
      have q8 : w3.cell? ⟨g, l.length * 9 + 8, none⟩ = some (.int .i64 0) := PaM.cell PM.out (r := 8) rfl
      have f8 : w3.frozen? ⟨g, l.length * 9 + 8, none⟩ = false := PaM.fro PM.out 8
      have ll : (l.length : Int) < ((l.length + 1 : Nat) : Int) := by omega
      have ll2 : (l.length : Int) < (l.length : Int) + 1 := by omega
      have ll0 : (0 : Int) ≤ (l.length : Int) := by omega
      refine wpAnyG_ready (rs := [5]) (by kernel_rfl) (by simp) ?_
      refine AllReadyG.cons rfl (fun K hK => ?_) AllReadyG.nil
      rw [if_pos (by kernel_rfl)]
      refine wp_app_here 22 (.tmp 31) (.tmp 35) rfl rfl rfl hr ?_
      refine hK.out _ _ (fun _ => c3) (fun hH => ?_)
      clear hK K hr
      simp only [Act.put, List.setIfInBounds_toArray, List.set_cons_zero, List.set_cons_succ] at hH ⊢
      refine takeG (i := 6) (v := .pointer (some ⟨g, l.length * 9, none⟩)) [] rfl rfl (by kernel_rfl) (by kernel_rfl) (by kernel_rfl) (by kernel_rfl) (by kernel_rfl) (SH_set (by decide)) (fun _ _ _ h => h) (Or.inl ⟨by rfl, ?_⟩) hH (fun hH => ?_)
      · intro w5 hSw; go_simp
      simp only [List.setIfInBounds_toArray, List.set_cons_zero, List.set_cons_succ] at hH ⊢
      refine wpAnyG_ready (rs := [7, 8]) (by kernel_rfl) (by simp) ?_
      refine AllReadyG.cons rfl (fun K hK => ?_) (AllReadyG.cons rfl (fun K hK => ?_) AllReadyG.nil)
      · go_simp
        obtain ⟨V9, hV9⟩ : ∃ V, V = (((((((((w3.setCell ⟨g, l.length * 9, none⟩ (.string x.op)).setCell ⟨g, l.length * 9 + 1, none⟩ (.slice P1 x.parts.length C1)).setCell ⟨g, l.length * 9 + 2, none⟩ (.int .i64 x.vt)).setCell ⟨g, l.length * 9 + 3, none⟩ (.int .i64 x.vn)).setCell ⟨g, l.length * 9 + 4, none⟩ (.string x.vs)).setCell ⟨g, l.length * 9 + 5, none⟩ (.string x.nm)).setCell ⟨g, l.length * 9 + 6, none⟩ (.string x.of)).setCell ⟨g, l.length * 9 + 7, none⟩ (.int .i64 x.ty)).setCell ⟨g, l.length * 9 + 8, none⟩ (.int .i64 x.at_)) := ⟨_, rfl⟩
        have PV := mkHid (show PaS W (V9.setCell ⟨pb, 0, none⟩ (.slice (some ⟨g, 0, none⟩) (l.length + 1) cap)) pb m (l ++ [x]) by rw [hV9]; exact PaM.a PM.out hpW)
        have c9 : V9.cell? ⟨pb, 0, none⟩ = some (.slice Pv l.length Cv) := by rw [hV9]; exact Off.cell ((((((((((Off.refl g g w3).set (Or.inl rfl) _).set (Or.inl rfl) _).set (Or.inl rfl) _).set (Or.inl rfl) _).set (Or.inl rfl) _).set (Or.inl rfl) _).set (Or.inl rfl) _).set (Or.inl rfl) _).set (Or.inl rfl) _) NG2 NG2 c3
        have z9' : V9.frozen? ⟨pb, 0, none⟩ = false := by rw [hV9]; simpa using z3
        rw [← hV9]
        clear hV9
        refine hK.out _ _ (fun _ => c9) (fun hH => ?_)
        clear hK K
        refine wpAnyG_ready (rs := [8]) (by kernel_rfl) (by simp) ?_
        refine AllReadyG.cons rfl (fun K hK => ?_) AllReadyG.nil
        go_simp
        refine hK.out _ _ (fun h => Bool.noConfusion (show true = false from h)) (fun hH => ?_)
        clear hK K
        refine wpAnyG_done (by kernel_rfl) ?_ _
        go_wp2_with fail
        first | go_end0 | refine bodyPost_ret (results_none rfl _ _ _) rfl ?_
        exact ⟨rfl, PV.out⟩
      · go_simp
        have PV := mkHid (PaM.b PM.out hpW)
        refine hK.out _ _ (fun h => Bool.noConfusion (show true = false from h)) (fun hH => ?_)
        clear hK K
        refine wpAnyG_ready (rs := [7]) (by kernel_rfl) (by simp) ?_
        refine AllReadyG.cons rfl (fun K hK => ?_) AllReadyG.nil
        go_simp
        refine hK.out _ _ (fun h => Bool.noConfusion (show true = false from h)) (fun hH => ?_)
        clear hK K
        refine wpAnyG_done (by kernel_rfl) ?_ _
        go_wp2_with fail
        first | go_end0 | refine bodyPost_ret (results_none rfl _ _ _) rfl ?_
        exact ⟨rfl, PV.out⟩
    · go_simp
      refine hK.out _ _ (fun _ => PCELL.out _ (B00.out.alloc B00.out.size _)) (fun hH => ?_)
      clear hK K
      have HX0 : Hid (Below W0.heap.size W0 (W0.alloc (.cells #[.string ⟨#[]⟩, .slice none 0 0, .int .i64 0, .int .i64 0, .string ⟨#[]⟩, .string ⟨#[]⟩, .string ⟨#[]⟩, .int .i64 0, .int .i64 0] 26))) := B00.out.alloc B00.out.size _
      have HZ0 : Hid ((W0.alloc (.cells #[.string ⟨#[]⟩, .slice none 0 0, .int .i64 0, .int .i64 0, .string ⟨#[]⟩, .string ⟨#[]⟩, .string ⟨#[]⟩, .int .i64 0, .int .i64 0] 26)).heap[W0.heap.size]? = some (.cells #[.string ⟨#[]⟩, .slice none 0 0, .int .i64 0, .int .i64 0, .string ⟨#[]⟩, .string ⟨#[]⟩, .string ⟨#[]⟩, .int .i64 0, .int .i64 0] 26 (0, 0))) := heap_alloc_new _ _
      have SZ0 : Hid (W0.heap.size < (W0.alloc (.cells #[.string ⟨#[]⟩, .slice none 0 0, .int .i64 0, .int .i64 0, .string ⟨#[]⟩, .string ⟨#[]⟩, .string ⟨#[]⟩, .int .i64 0, .int .i64 0] 26)).heap.size) := by show _ < _; rw [World.size_alloc]; omega
      generalize W0.alloc (.cells #[.string ⟨#[]⟩, .slice none 0 0, .int .i64 0, .int .i64 0, .string ⟨#[]⟩, .string ⟨#[]⟩, .string ⟨#[]⟩, .int .i64 0, .int .i64 0] 26) = XA at HX0 HZ0 SZ0 hH ⊢
      refine wpAnyG_ready (rs := [2]) (by kernel_rfl) (by simp) ?_
      refine AllReadyG.cons rfl (fun K hK => ?_) AllReadyG.nil
      go_simp
      go_at_call 15
      refine (OO.out XA HX0.out).mono ?_
      rintro e XX ⟨P1, C1, rfl, i9, b9⟩
      have IX := mkHid i9
      have BX := mkHid b9
      clear i9 b9
      go_wp2_with fail
      refine hK.out _ _ (fun _ => PCELL.out _ (HX0.out.trans (BX.out.mono HX0.out.size))) (fun hH => ?_)
      clear hK K
      have HX : Hid (Below W0.heap.size W0 XX) := HX0.out.trans (BX.out.mono HX0.out.size)
      have HZ : Hid (XX.heap[W0.heap.size]? = some (.cells #[.string ⟨#[]⟩, .slice none 0 0, .int .i64 0, .int .i64 0, .string ⟨#[]⟩, .string ⟨#[]⟩, .string ⟨#[]⟩, .int .i64 0, .int .i64 0] 26 (0, 0))) := (BX.out.block _ SZ0.out).trans HZ0.out
      have IXX : Hid (exIn XX (fun q => W0.heap.size ≤ q ∧ q < XX.heap.size) m x (exC x P1 C1)) := IX.out.more (fun q hq => ⟨Nat.le_trans HX0.out.size hq.1, hq.2⟩)
      clear IX BX
      obtain ⟨g, cap, w3, hr, pm⟩ := PaM.made HST.out hpW HPV.out OWN.out ELS.out HX.out HZ.out IXX.out hl.out
      have PM := mkHid pm
      clear pm
      have NG := PaM.ne PM.out hpW
      have NG2 := Ne.symm NG
      have c3 : w3.cell? ⟨pb, 0, none⟩ = some (.slice Pv l.length Cv) := (cell_of_block PM.out.2.1 0).trans rfl
      have z3 : w3.frozen? ⟨pb, 0, none⟩ = false := unfrozen_of_block PM.out.2.1 0
      have q0 : w3.cell? ⟨g, l.length * 9, none⟩ = some (.string ⟨#[]⟩) := PaM.cell PM.out (r := 0) rfl
      have f0 : w3.frozen? ⟨g, l.length * 9, none⟩ = false := PaM.fro PM.out 0
      have q1 : w3.cell? ⟨g, l.length * 9 + 1, none⟩ = some (.slice none 0 0) := PaM.cell PM.out (r := 1) rfl
      have f1 : w3.frozen? ⟨g, l.length * 9 + 1, none⟩ = false := PaM.fro PM.out 1
      have q2 : w3.cell? ⟨g, l.length * 9 + 2, none⟩ = some (.int .i64 0) := PaM.cell PM.out (r := 2) rfl
      have f2 : w3.frozen? ⟨g, l.length * 9 + 2, none⟩ = false := PaM.fro PM.out 2
      have q3 : w3.cell? ⟨g, l.length * 9 + 3, none⟩ = some (.int .i64 0) := PaM.cell PM.out (r := 3) rfl
      have f3 : w3.frozen? ⟨g, l.length * 9 + 3, none⟩ = false := PaM.fro PM.out 3
      have q4 : w3.cell? ⟨g, l.length * 9 + 4, none⟩ = some (.string ⟨#[]⟩) := PaM.cell PM.out (r := 4) rfl
      have f4 : w3.frozen? ⟨g, l.length * 9 + 4, none⟩ = false := PaM.fro PM.out 4
      have q5 : w3.cell? ⟨g, l.length * 9 + 5, none⟩ = some (.string ⟨#[]⟩) := PaM.cell PM.out (r := 5) rfl
      have f5 : w3.frozen? ⟨g, l.length * 9 + 5, none⟩ = false := PaM.fro PM.out 5
      have q6 : w3.cell? ⟨g, l.length * 9 + 6, none⟩ = some (.string ⟨#[]⟩) := PaM.cell PM.out (r := 6) rfl
      have f6 : w3.frozen? ⟨g, l.length * 9 + 6, none⟩ = false := PaM.fro PM.out 6
      have q7 : w3.cell? ⟨g, l.length * 9 + 7, none⟩ = some (.int .i64 0) := PaM.cell PM.out (r := 7) rfl
      have f7 : w3.frozen? ⟨g, l.length * 9 + 7, none⟩ = false := PaM.fro PM.out 7
      have q8 : w3.cell? ⟨g, l.length * 9 + 8, none⟩ = some (.int .i64 0) := PaM.cell PM.out (r := 8) rfl
      have f8 : w3.frozen? ⟨g, l.length * 9 + 8, none⟩ = false := PaM.fro PM.out 8
      have ll : (l.length : Int) < ((l.length + 1 : Nat) : Int) := by omega
      have ll2 : (l.length : Int) < (l.length : Int) + 1 := by omega
      have ll0 : (0 : Int) ≤ (l.length : Int) := by omega
      refine wpAnyG_ready (rs := [5]) (by kernel_rfl) (by simp) ?_
      refine AllReadyG.cons rfl (fun K hK => ?_) AllReadyG.nil
      rw [if_pos (by kernel_rfl)]
      refine wp_app_here 22 (.tmp 31) (.tmp 35) rfl rfl rfl hr ?_
      refine hK.out _ _ (fun _ => c3) (fun hH => ?_)
      clear hK K hr
      simp only [Act.put, List.setIfInBounds_toArray, List.set_cons_zero, List.set_cons_succ] at hH ⊢
      refine takeG (i := 6) (v := .pointer (some ⟨g, l.length * 9, none⟩)) [] rfl rfl (by kernel_rfl) (by kernel_rfl) (by kernel_rfl) (by kernel_rfl) (by kernel_rfl) (SH_set (by decide)) (fun _ _ _ h => h) (Or.inl ⟨by rfl, ?_⟩) hH (fun hH => ?_)
      · intro w5 hSw; go_simp
      simp only [List.setIfInBounds_toArray, List.set_cons_zero, List.set_cons_succ] at hH ⊢
      refine wpAnyG_ready (rs := [7, 8]) (by kernel_rfl) (by simp) ?_
      refine AllReadyG.cons rfl (fun K hK => ?_) (AllReadyG.cons rfl (fun K hK => ?_) AllReadyG.nil)
      · go_simp
        obtain ⟨V9, hV9⟩ : ∃ V, V = (((((((((w3.setCell ⟨g, l.length * 9, none⟩ (.string x.op)).setCell ⟨g, l.length * 9 + 1, none⟩ (.slice P1 x.parts.length C1)).setCell ⟨g, l.length * 9 + 2, none⟩ (.int .i64 x.vt)).setCell ⟨g, l.length * 9 + 3, none⟩ (.int .i64 x.vn)).setCell ⟨g, l.length * 9 + 4, none⟩ (.string x.vs)).setCell ⟨g, l.length * 9 + 5, none⟩ (.string x.nm)).setCell ⟨g, l.length * 9 + 6, none⟩ (.string x.of)).setCell ⟨g, l.length * 9 + 7, none⟩ (.int .i64 x.ty)).setCell ⟨g, l.length * 9 + 8, none⟩ (.int .i64 x.at_)) := ⟨_, rfl⟩
        have PV := mkHid (show PaS W (V9.setCell ⟨pb, 0, none⟩ (.slice (some ⟨g, 0, none⟩) (l.length + 1) cap)) pb m (l ++ [x]) by rw [hV9]; exact PaM.a PM.out hpW)
        have c9 : V9.cell? ⟨pb, 0, none⟩ = some (.slice Pv l.length Cv) := by rw [hV9]; exact Off.cell ((((((((((Off.refl g g w3).set (Or.inl rfl) _).set (Or.inl rfl) _).set (Or.inl rfl) _).set (Or.inl rfl) _).set (Or.inl rfl) _).set (Or.inl rfl) _).set (Or.inl rfl) _).set (Or.inl rfl) _).set (Or.inl rfl) _) NG2 NG2 c3
        have z9' : V9.frozen? ⟨pb, 0, none⟩ = false := by rw [hV9]; simpa using z3
        rw [← hV9]
        clear hV9
        refine hK.out _ _ (fun _ => c9) (fun hH => ?_)
        clear hK K
        refine wpAnyG_ready (rs := [8]) (by kernel_rfl) (by simp) ?_
        refine AllReadyG.cons rfl (fun K hK => ?_) AllReadyG.nil
        go_simp
        refine hK.out _ _ (fun h => Bool.noConfusion (show true = false from h)) (fun hH => ?_)
        clear hK K
        refine wpAnyG_done (by kernel_rfl) ?_ _
        go_wp2_with fail
        first | go_end0 | refine bodyPost_ret (results_none rfl _ _ _) rfl ?_
        exact ⟨rfl, PV.out⟩
      · go_simp
        have PV := mkHid (PaM.b PM.out hpW)
        refine hK.out _ _ (fun h => Bool.noConfusion (show true = false from h)) (fun hH => ?_)
        clear hK K
        refine wpAnyG_ready (rs := [7]) (by kernel_rfl) (by simp) ?_
        refine AllReadyG.cons rfl (fun K hK => ?_) AllReadyG.nil
        go_simp
        refine hK.out _ _ (fun h => Bool.noConfusion (show true = false from h)) (fun hH => ?_)
        clear hK K
        refine wpAnyG_done (by kernel_rfl) ?_ _
        go_wp2_with fail
        first | go_end0 | refine bodyPost_ret (results_none rfl _ _ _) rfl ?_
        exact ⟨rfl, PV.out⟩
end Go.Proofs.YtokppkinhlcafaaGreatDoor
