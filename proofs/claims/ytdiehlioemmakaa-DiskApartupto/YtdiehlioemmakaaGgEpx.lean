/-
  The walk of lockstepref04's Copy.
-/
import Derived.Test.YtdiehlioemmakaaGgDpx
namespace Go.Proofs.Ytdiehlioemmakaa
open Go.RowKit Go.Maps Go.Joins
variable {F : Nat → Prop}

theorem row0 {w : World} {el : TypeId} {base : Nat} (hb : base ≤ w.heap.size) : (w.alloc (.cells #[] el)).ownsRow base el 2 (.slice (some ⟨w.heap.size, 0, none⟩) 0 0) 0 [] :=
  ⟨rfl, Or.inr ⟨w.heap.size, 0, #[], rfl, hb, heap_alloc_new _ _, Nat.le_refl _, by unfold maxLen; omega, rfl, rfl⟩⟩
theorem cp_run (sl el : TypeId) (zv : Value) (by' : Nat) (hsl : Try.prog.underlying sl = some (.slice el)) (hinf : (Try.prog.info? el).map (fun i => (i.zero, i.size, i.bytes)) = some (some zv, 2, by')) (hz1 : zv.cells.size = 2) (hby : by' ≤ 48)
    {w W : World} {f : Nat} {v : Value} {us : List (Value × Value)} (hrd : rd2 F w f v us) (ones : ∀ u ∈ flat2 us, u.oneCell' = true) (hl : us.length ≤ 9000000) (hg : w.grownBy W none) {B base : Nat} (hrow : W.ownsRow base el 2 (.slice (some ⟨B, 0, none⟩) 0 0) 0 []) (hb : base ≤ W.heap.size) :
    ∃ P' C' W', (∀ ty, (Builtin.append_ #[sl, sl] ty #[.slice (some ⟨B, 0, none⟩) 0 0, v]).run Try.prog W = .ok (.slice P' us.length C') W') ∧ W'.ownsRow base el 2 (.slice P' us.length C') us.length (flat2 us) ∧ W.grownBy W' (some B) := by
  obtain ⟨p, c, rfl, _, _, hpc, hc⟩ := hrd
  have hFP : (p = none ∧ us.length = 0 ∧ c = 0 ∧ flat2 us = []) ∨ ∃ ad, p = some ad ∧ (flat2 us).length = us.length * 2 ∧ (∀ j u, (flat2 us)[j]? = some u → W.cell? (ad.add j) = some u) ∧ ∀ u ∈ flat2 us, u.oneCell' = true := by
    rcases hc with hc | ⟨g, o, hp, _, hc⟩
    · subst hc
      cases p with
      | none => exact Or.inl ⟨rfl, rfl, hpc rfl, rfl⟩
      | some ad => exact Or.inr ⟨ad, rfl, rfl, fun j u hj => by simp [flat2] at hj, fun u hu => by simp [flat2] at hu⟩
    · refine Or.inr ⟨⟨g, o, none⟩, hp, flat2_len us, fun j u hj => ?_, ones⟩
      rw [add_plain]
      exact hg.cell (flat_cell hc hj) (by simp)
  obtain ⟨v4, w4, hr4, ho4, hg4, _⟩ := app2_run sl el zv by' hsl hinf hz1 hby base 0 us.length c (.slice (some ⟨B, 0, none⟩) 0 0) [] (flat2 us) p W hrow hFP (by omega) hb
  rw [Nat.zero_add, List.nil_append] at ho4
  obtain ⟨P4, C4, hv⟩ := row_form2 ho4
  subst hv
  exact ⟨P4, C4, w4, hr4, ho4, hg4⟩
theorem ways_ones {w : World} {f : Nat} {fs : List Ws} : ∀ (us : List (Value × Value)), us.length = fs.length → (∀ (i : Nat) (u : Value × Value) (x : Ws), us[i]? = some u → fs[i]? = some x → wayIn F w f u x) → ∀ u ∈ flat2 us, u.oneCell' = true := by
  intro us hul hw u hu
  unfold flat2 at hu
  obtain ⟨y, hy, hu⟩ := List.mem_flatMap.1 hu
  obtain ⟨i, hi⟩ := List.getElem?_of_mem hy
  have hlt := (List.getElem?_eq_some_iff.1 hi).1
  obtain ⟨x, hx⟩ : ∃ x, fs[i]? = some x := ⟨fs[i]'(by omega), List.getElem?_eq_getElem _⟩
  have k := hw i y x hi hx
  simp only [List.mem_cons, List.not_mem_nil, or_false] at hu
  rcases hu with rfl | rfl
  · exact rd1_cell k.1
  · exact rd1_cell k.2
theorem rd1.to {w W : World} {f f2 : Nat} {v : Value} {us : List Value} (h : rd1 F w f v us) (hg : w.grownBy W none) (hf : w.heap.size ≤ f2) : rd1 F W f2 v us := by
  obtain ⟨p, c, h1, h2, h3, h4, h5⟩ := h
  refine ⟨p, c, h1, h2, h3, h4, ?_⟩
  rcases h5 with h5 | ⟨g, o, e, hgf, h5⟩
  · exact Or.inl h5
  · cases us with
    | nil => exact Or.inl rfl
    | cons u r =>
      have hlt := World.block_lt_of_cell? w _ (h5 0 u rfl)
      exact Or.inr ⟨g, o, e, ⟨fun e2 => by simp only at hlt; omega, hgf.2⟩, fun i u hi => hg.cell (h5 i u hi) (by simp)⟩
def CyQ (F : Nat → Prop) (w : World) (s : St) (e : Ending) (w' : World) : Prop := ∃ f2, e = .returned (.pointer (some ⟨f2, 0, none⟩)) ∧ w.heap.size ≤ f2 ∧ Rf F w' f2 s ∧ w.grownBy w' none
theorem cp_mk {w W : World} {f : Nat} {s : St} {vF vW : Value} {usF usW : List (Value × Value)} (h : Rf F w f s) (hlF : usF.length = s.fs.length) (hwF : ∀ (i : Nat) (u : Value × Value) (x : List UInt8 × Nat), usF[i]? = some u → s.fs[i]? = some x → fileIn F w f u x) (hlW : usW.length = s.ways.length) (hwW : ∀ (i : Nat) (u : Value × Value) (x : Ws), usW[i]? = some u → s.ways[i]? = some x → wayIn F w f u x) (hg : w.grownBy W none)
    (rF : W.ownsRow w.heap.size 98 2 vF usF.length (flat2 usF)) (rW : W.ownsRow w.heap.size 95 2 vW usW.length (flat2 usW)) : CyQ F w s (.returned (.pointer (some ⟨W.heap.size, 0, none⟩))) (W.alloc (.cells #[.int .i64 s.q, vF, vW, .int .i64 s.left, .bool s.dead] 76)) := by
  have ga := World.grownBy_alloc W (.cells #[.int .i64 s.q, vF, vW, .int .i64 s.left, .bool s.dead] 76) none
  have gW := grTrans hg ga
  have own : ∀ {el : TypeId} {v : Value} {us : List (Value × Value)}, W.ownsRow w.heap.size el 2 v us.length (flat2 us) → rd2 F (W.alloc (.cells #[.int .i64 s.q, vF, vW, .int .i64 s.left, .bool s.dead] 76)) W.heap.size v us := fun {el v us} r => by
    have r1 := World.ownsRow.kept r ga (by cases v.ownBlock <;> simp)
    rcases r1.2 with ⟨rfl, h0⟩ | ⟨g, cap, cur, rfl, hge, hb, hc, hm, _, _⟩
    · obtain rfl : us = [] := List.eq_nil_of_length_eq_zero (by omega)
      exact ⟨none, 0, rfl, Nat.zero_le _, by omega, fun _ => rfl, Or.inl rfl⟩
    · have hlt : g < W.heap.size := by
        obtain ⟨cs, hk⟩ := own_kind r g rfl
        exact lt_of_heap hk
      refine ⟨some ⟨g, 0, none⟩, cap, rfl, hc, by unfold maxLen at hm; omega, (fun e => by cases e), Or.inr ⟨g, 0, rfl, ⟨by omega, fun hF => by have := h.fb g hF; omega⟩, fun i u hi => ?_⟩⟩
      have hi2 := (List.getElem?_eq_some_iff.1 hi).1
      obtain ⟨a1, a2⟩ := flat2_get us i u hi
      rw [Nat.zero_add]
      exact ⟨(World.ownsRow.cellAt r1 (i * 2) (by omega)).trans a1, (World.ownsRow.cellAt r1 (i * 2 + 1) (by omega)).trans a2⟩
  refine ⟨W.heap.size, rfl, hg.size, ⟨⟨vF, vW, heap_alloc_new _ _, ⟨usF, hlF, own rF, fun i u x hu hx => ?_⟩, ⟨usW, hlW, own rW, fun i u x hu hx => ?_⟩⟩, h.ne, fun i hi => Nat.lt_of_lt_of_le (h.fb i hi) gW.size⟩, gW⟩
  · have k := hwF i u x hu hx
    exact ⟨k.1, k.2.to gW hg.size⟩
  · have k := hwW i u x hu hx
    exact ⟨k.1.to gW hg.size, k.2.to gW hg.size⟩
set_option maxHeartbeats 8000000 in
set_option maxRecDepth 1000000 in
theorem refCopy_any (f : Nat) (s : St) (w : World) (h : Rf F w f s) (hb : s.ways.length ≤ 8000000) (hm : s.fs.length ≤ 8000000) :
    Calls Try.prog 9 #[.pointer (some ⟨f, 0, none⟩)] w fun e w' => CyQ F w s e w' := by
  obtain ⟨vF, vW, h1, ⟨usF, hlF, hrF, hwF⟩, ⟨usW, hlW, hrW, hwW⟩⟩ := h.fs
  obtain ⟨PF, cF, eF, _⟩ := id hrF
  obtain ⟨PW, cW, eW, _⟩ := id hrW
  subst eF
  subst eW
  have onF := flat_ones usF hlF hwF
  have onW := ways_ones usW hlW hwW
  have g0 := gr_drew w
  -- files first, then names
  have gA1 := grTrans g0 (World.grownBy_alloc w.drew (.cells #[] 98) none)
  obtain ⟨PA2, CA2, wA2, rA2, oA2, hA2⟩ := cp_run 73 98 (.agg #[.slice none 0 0, .int .i64 0]) 32 fiSlice fiInfo rfl (by decide) hrF onF (by omega) gA1 (row0 (w := w.drew) (el := 98) (base := w.heap.size) (Nat.le_refl _)) gA1.size
  have gA2 : w.grownBy wA2 none := gA1.andThen hA2 (fun j hj => by cases hj; exact Or.inl (Nat.le_refl _))
  have gA3 := grTrans gA2 (World.grownBy_alloc wA2 (.cells #[] 95) none)
  obtain ⟨PA4, CA4, wA4, rA4, oA4, hA4⟩ := cp_run 74 95 (.agg #[.slice none 0 0, .slice none 0 0]) 48 nmSlice nmInfo rfl (by decide) hrW onW (by omega) gA3 (row0 (w := wA2) (el := 95) (base := w.heap.size) gA2.size) gA3.size
  have gA4 : w.grownBy wA4 none := gA3.andThen hA4 (fun j hj => by cases hj; exact Or.inl gA2.size)
  have eA4 : wA4.ownsRow w.heap.size 98 2 (.slice PA2 usF.length CA2) usF.length (flat2 usF) := row_other (World.ownsRow.alloc oA2 (.cells #[] 95)) (row0 (w := wA2) (el := 95) (base := w.heap.size) gA2.size) (by decide) hA4
  have FA := mkHid (cp_mk h hlF hwF hlW hwW gA4 eA4 oA4)
  have GA1 := mkHid gA1
  have GwA2 := mkHid gA2
  have GA3 := mkHid gA3
  have GwA4 := mkHid gA4
  -- both beginnings, files' first
  have gB1 := grTrans gA1 (World.grownBy_alloc (w.drew.alloc (.cells #[] 98)) (.cells #[] 95) none)
  obtain ⟨PB2, CB2, wB2, rB2, oB2, hB2⟩ := cp_run 73 98 (.agg #[.slice none 0 0, .int .i64 0]) 32 fiSlice fiInfo rfl (by decide) hrF onF (by omega) gB1 (World.ownsRow.alloc (row0 (w := w.drew) (el := 98) (base := w.heap.size) (Nat.le_refl _)) (.cells #[] 95)) gB1.size
  have gB2 : w.grownBy wB2 none := gB1.andThen hB2 (fun j hj => by cases hj; exact Or.inl (Nat.le_refl _))
  have nB2 : wB2.ownsRow w.heap.size 95 2 (.slice (some ⟨(w.drew.alloc (.cells #[] 98)).heap.size, 0, none⟩) 0 0) 0 [] := row_other (row0 (w := w.drew.alloc (.cells #[] 98)) (el := 95) (base := w.heap.size) gA1.size) (World.ownsRow.alloc (row0 (w := w.drew) (el := 98) (base := w.heap.size) (Nat.le_refl _)) (.cells #[] 95)) (by decide) hB2
  obtain ⟨PB4, CB4, wB4, rB4, oB4, hB4⟩ := cp_run 74 95 (.agg #[.slice none 0 0, .slice none 0 0]) 48 nmSlice nmInfo rfl (by decide) hrW onW (by omega) gB2 nB2 gB2.size
  have gB4 : w.grownBy wB4 none := gB2.andThen hB4 (fun j hj => by cases hj; exact Or.inl gA1.size)
  have eB4 : wB4.ownsRow w.heap.size 98 2 (.slice PB2 usF.length CB2) usF.length (flat2 usF) := row_other oB2 nB2 (by decide) hB4
  have FB := mkHid (cp_mk h hlF hwF hlW hwW gB4 eB4 oB4)
  have GB1 := mkHid gB1
  have GwB2 := mkHid gB2
  have GwB4 := mkHid gB4
  -- both beginnings, names' first
  have gC0 := grTrans g0 (World.grownBy_alloc w.drew (.cells #[] 95) none)
  have gC1 := grTrans gC0 (World.grownBy_alloc (w.drew.alloc (.cells #[] 95)) (.cells #[] 98) none)
  obtain ⟨PC2, CC2, wC2, rC2, oC2, hC2⟩ := cp_run 73 98 (.agg #[.slice none 0 0, .int .i64 0]) 32 fiSlice fiInfo rfl (by decide) hrF onF (by omega) gC1 (row0 (w := w.drew.alloc (.cells #[] 95)) (el := 98) (base := w.heap.size) gC0.size) gC1.size
  have gC2 : w.grownBy wC2 none := gC1.andThen hC2 (fun j hj => by cases hj; exact Or.inl gC0.size)
  have nC2 : wC2.ownsRow w.heap.size 95 2 (.slice (some ⟨w.drew.heap.size, 0, none⟩) 0 0) 0 [] := row_other (World.ownsRow.alloc (row0 (w := w.drew) (el := 95) (base := w.heap.size) (Nat.le_refl _)) (.cells #[] 98)) (row0 (w := w.drew.alloc (.cells #[] 95)) (el := 98) (base := w.heap.size) gC0.size) (by decide) hC2
  obtain ⟨PC4, CC4, wC4, rC4, oC4, hC4⟩ := cp_run 74 95 (.agg #[.slice none 0 0, .slice none 0 0]) 48 nmSlice nmInfo rfl (by decide) hrW onW (by omega) gC2 nC2 gC2.size
  have gC4 : w.grownBy wC4 none := gC2.andThen hC4 (fun j hj => by cases hj; exact Or.inl (Nat.le_refl _))
  have eC4 : wC4.ownsRow w.heap.size 98 2 (.slice PC2 usF.length CC2) usF.length (flat2 usF) := row_other oC2 nC2 (by decide) hC4
  have FC := mkHid (cp_mk h hlF hwF hlW hwW gC4 eC4 oC4)
  have GC0 := mkHid gC0
  have GC1 := mkHid gC1
  have GwC2 := mkHid gC2
  have GwC4 := mkHid gC4
  obtain ⟨nF, hnF⟩ : ∃ nF, nF = usF.length := ⟨_, rfl⟩
  obtain ⟨nW, hnW⟩ : ∃ nW, nW = usW.length := ⟨_, rfl⟩
  rw [← hnF] at h1 rA2 rB2 rC2 FA FB FC
  rw [← hnW] at h1 rA4 rB4 rC4 FA FB FC
  obtain ⟨k0, k1, k2, k3, k4, _⟩ := RB.c h1
  rw [show (w.drew.alloc (.cells #[] 98)).heap.size = w.heap.size + 1 by simp] at rB4
  rw [show (w.drew.alloc (.cells #[] 95)).heap.size = w.heap.size + 1 by simp] at rC2
  have KS : Hid (∀ W, w.grownBy W none → (fun w' : World => w'.cell? ⟨f, 0, none⟩ = some (.int .i64 s.q) ∧ w'.cell? ⟨f, 1, none⟩ = some (.slice PF nF cF) ∧ w'.cell? ⟨f, 2, none⟩ = some (.slice PW nW cW) ∧ w'.cell? ⟨f, 3, none⟩ = some (.int .i64 s.left) ∧ w'.cell? ⟨f, 4, none⟩ = some (.bool s.dead)) W) := fun W g => ⟨g.cell k0 (by simp), g.cell k1 (by simp), g.cell k2 (by simp), g.cell k3 (by simp), g.cell k4 (by simp)⟩
  clear h h1 hlF hrF hwF hlW hrW hwW onF onW g0 gA1 oA2 hA2 gA2 gA3 oA4 hA4 gA4 eA4 gB1 oB2 hB2 gB2 nB2 oB4 hB4 gB4 eB4 gC0 gC1 oC2 hC2 gC2 nC2 oC4 hC4 gC4 eC4 k0 k1 k2 k3 k4 hnF hnW hb hm
  go_enter Try.func9, Try.ntmps9
  go_wp2_with fail
  refine wp_region_noPanic ?_
  refine wp_region_held_drew (S := fun w' : World => w'.cell? ⟨f, 0, none⟩ = some (.int .i64 s.q) ∧ w'.cell? ⟨f, 1, none⟩ = some (.slice PF nF cF) ∧ w'.cell? ⟨f, 2, none⟩ = some (.slice PW nW cW) ∧ w'.cell? ⟨f, 3, none⟩ = some (.int .i64 s.left) ∧ w'.cell? ⟨f, 4, none⟩ = some (.bool s.dead)) (by kernel_rfl) (KS.out w.drew (gr_drew w)) (fun hH => ?_)
  refine tKx (i := 0) (v := .pointer (some ⟨f, 0, none⟩)) rfl rfl (by kernel_rfl) (fun _ _ _ h => h) ?_ hH ?_
  · intro w5 hSw; obtain ⟨c0, c1, c2, c3, c4⟩ := hSw; go_simp
  simp only [zA9, zB9, zC9]
  refine tKx (i := 1) (v := .pointer (some ⟨f, 0, none⟩)) rfl rfl (by kernel_rfl) (fun _ _ _ h => h) ?_ hH ?_
  · intro w5 hSw; obtain ⟨c0, c1, c2, c3, c4⟩ := hSw; go_simp
  simp only [zA9, zB9, zC9]
  refine tKx (i := 2) (v := .pointer (some ⟨f, 0, none⟩)) rfl rfl (by kernel_rfl) (fun _ _ _ h => h) ?_ hH ?_
  · intro w5 hSw; obtain ⟨c0, c1, c2, c3, c4⟩ := hSw; go_simp
  simp only [zA9, zB9, zC9]
  refine tKx (i := 3) (v := .int .i64 s.q) rfl rfl (by kernel_rfl) (fun _ _ _ h => h) ?_ hH ?_
  · intro w5 hSw; obtain ⟨c0, c1, c2, c3, c4⟩ := hSw; go_simp
  simp only [zA9, zB9, zC9]
  refine tKx (i := 5) (v := .pointer (some ⟨f, 0, none⟩)) rfl rfl (by kernel_rfl) (fun _ _ _ h => h) ?_ hH ?_
  · intro w5 hSw; obtain ⟨c0, c1, c2, c3, c4⟩ := hSw; go_simp
  simp only [zA9, zB9, zC9]
  refine tKx (i := 6) (v := .pointer (some ⟨f, 0, none⟩)) rfl rfl (by kernel_rfl) (fun _ _ _ h => h) ?_ hH ?_
  · intro w5 hSw; obtain ⟨c0, c1, c2, c3, c4⟩ := hSw; go_simp
  simp only [zA9, zB9, zC9]
  refine tKx (i := 7) (v := .pointer (some ⟨f, 1, none⟩)) rfl rfl (by kernel_rfl) (fun _ _ _ h => h) ?_ hH ?_
  · intro w5 hSw; obtain ⟨c0, c1, c2, c3, c4⟩ := hSw; go_simp
  simp only [zA9, zB9, zC9]
  refine tKx (i := 8) (v := .slice PF nF cF) rfl rfl (by kernel_rfl) (fun _ _ _ h => h) ?_ hH ?_
  · intro w5 hSw; obtain ⟨c0, c1, c2, c3, c4⟩ := hSw; go_simp
  simp only [zA9, zB9, zC9]
  refine tKx (i := 11) (v := .pointer (some ⟨f, 0, none⟩)) rfl rfl (by kernel_rfl) (fun _ _ _ h => h) ?_ hH ?_
  · intro w5 hSw; obtain ⟨c0, c1, c2, c3, c4⟩ := hSw; go_simp
  simp only [zA9, zB9, zC9]
  refine tKx (i := 12) (v := .pointer (some ⟨f, 0, none⟩)) rfl rfl (by kernel_rfl) (fun _ _ _ h => h) ?_ hH ?_
  · intro w5 hSw; obtain ⟨c0, c1, c2, c3, c4⟩ := hSw; go_simp
  simp only [zA9, zB9, zC9]
  refine tKx (i := 13) (v := .pointer (some ⟨f, 2, none⟩)) rfl rfl (by kernel_rfl) (fun _ _ _ h => h) ?_ hH ?_
  · intro w5 hSw; obtain ⟨c0, c1, c2, c3, c4⟩ := hSw; go_simp
  simp only [zA9, zB9, zC9]
  refine tKx (i := 14) (v := .slice PW nW cW) rfl rfl (by kernel_rfl) (fun _ _ _ h => h) ?_ hH ?_
  · intro w5 hSw; obtain ⟨c0, c1, c2, c3, c4⟩ := hSw; go_simp
  simp only [zA9, zB9, zC9]
  refine tKx (i := 16) (v := .pointer (some ⟨f, 0, none⟩)) rfl rfl (by kernel_rfl) (fun _ _ _ h => h) ?_ hH ?_
  · intro w5 hSw; obtain ⟨c0, c1, c2, c3, c4⟩ := hSw; go_simp
  simp only [zA9, zB9, zC9]
  refine tKx (i := 17) (v := .pointer (some ⟨f, 0, none⟩)) rfl rfl (by kernel_rfl) (fun _ _ _ h => h) ?_ hH ?_
  · intro w5 hSw; obtain ⟨c0, c1, c2, c3, c4⟩ := hSw; go_simp
  simp only [zA9, zB9, zC9]
  refine tKx (i := 18) (v := .pointer (some ⟨f, 3, none⟩)) rfl rfl (by kernel_rfl) (fun _ _ _ h => h) ?_ hH ?_
  · intro w5 hSw; obtain ⟨c0, c1, c2, c3, c4⟩ := hSw; go_simp
  simp only [zA9, zB9, zC9]
  refine tKx (i := 19) (v := .int .i64 s.left) rfl rfl (by kernel_rfl) (fun _ _ _ h => h) ?_ hH ?_
  · intro w5 hSw; obtain ⟨c0, c1, c2, c3, c4⟩ := hSw; go_simp
  simp only [zA9, zB9, zC9]
  refine tKx (i := 20) (v := .pointer (some ⟨f, 0, none⟩)) rfl rfl (by kernel_rfl) (fun _ _ _ h => h) ?_ hH ?_
  · intro w5 hSw; obtain ⟨c0, c1, c2, c3, c4⟩ := hSw; go_simp
  simp only [zA9, zB9, zC9]
  refine tKx (i := 21) (v := .pointer (some ⟨f, 0, none⟩)) rfl rfl (by kernel_rfl) (fun _ _ _ h => h) ?_ hH ?_
  · intro w5 hSw; obtain ⟨c0, c1, c2, c3, c4⟩ := hSw; go_simp
  simp only [zA9, zB9, zC9]
  refine tKx (i := 22) (v := .pointer (some ⟨f, 4, none⟩)) rfl rfl (by kernel_rfl) (fun _ _ _ h => h) ?_ hH ?_
  · intro w5 hSw; obtain ⟨c0, c1, c2, c3, c4⟩ := hSw; go_simp
  simp only [zA9, zB9, zC9]
  refine tKx (i := 23) (v := .bool s.dead) rfl rfl (by kernel_rfl) (fun _ _ _ h => h) ?_ hH ?_
  · intro w5 hSw; obtain ⟨c0, c1, c2, c3, c4⟩ := hSw; go_simp
  simp only [zA9, zB9, zC9]
  refine wpAnyH_ready (rs := [4, 10]) (by kernel_rfl) (by simp) ?_
  refine AllReadyH.cons rfl (fun K hK => ?_) (AllReadyH.cons rfl (fun K hK => ?_) AllReadyH.nil)
  · go_simp
    refine hK.out _ _ (KS.out _ GA1.out) (fun hH => ?_)
    clear hK K
    refine wpAnyH_ready (rs := [9, 10]) (by kernel_rfl) (by simp) ?_
    refine AllReadyH.cons rfl (fun K hK => ?_) (AllReadyH.cons rfl (fun K hK => ?_) AllReadyH.nil)
    · refine step_app 73 rfl (.tmp 7) (.tmp 11) rfl rfl rfl rA2 ?_
      refine hK.out _ _ (KS.out _ GwA2.out) (fun hH => ?_)
      clear hK K
      go_simp
      refine wpAnyH_ready (rs := [10]) (by kernel_rfl) (by simp) ?_
      refine AllReadyH.cons rfl (fun K hK => ?_) AllReadyH.nil
      go_simp
      refine hK.out _ _ (KS.out _ GA3.out) (fun hH => ?_)
      clear hK K
      refine wpAnyH_ready (rs := [15]) (by kernel_rfl) (by simp) ?_
      refine AllReadyH.cons rfl (fun K hK => ?_) AllReadyH.nil
      refine step_app 74 rfl (.tmp 13) (.tmp 17) rfl rfl rfl rA4 ?_
      refine hK.out _ _ (KS.out _ GwA4.out) (fun hH => ?_)
      clear hK K
      go_simp
      refine tKx (i := 24) (v := .agg #[.int .i64 s.q, .slice PA2 nF CA2, .slice PA4 nW CA4, .int .i64 s.left, .bool s.dead]) rfl rfl (by kernel_rfl) (fun _ _ _ h => h) ?_ hH ?_
      · intro w5 hSw; obtain ⟨c0, c1, c2, c3, c4⟩ := hSw; go_simp
      simp only [zA9, zB9, zC9]
      refine wpAnyH_ready (rs := [25]) (by kernel_rfl) (by simp) ?_
      refine AllReadyH.cons rfl (fun K hK => ?_) AllReadyH.nil
      go_simp
      refine hK.out _ _ (KS.out _ (grTrans GwA4.out (World.grownBy_alloc _ _ none))) (fun hH => ?_)
      clear hK K
      refine tKx (i := 26) (v := .pointer (some ⟨wA4.heap.size, 0, none⟩)) rfl rfl (by kernel_rfl) (fun _ _ _ h => h) ?_ hH ?_
      · intro w5 hSw; obtain ⟨c0, c1, c2, c3, c4⟩ := hSw; go_simp
      simp only [zA9, zB9, zC9]
      refine wpAnyH_done (by kernel_rfl) ?_ _
      refine NoPanic.normal ?_
      go_wp2_with fail
      go_ret
      exact FA.out
    · go_simp
      refine hK.out _ _ (KS.out _ GB1.out) (fun hH => ?_)
      clear hK K
      refine wpAnyH_ready (rs := [9]) (by kernel_rfl) (by simp) ?_
      refine AllReadyH.cons rfl (fun K hK => ?_) AllReadyH.nil
      refine step_app 73 rfl (.tmp 7) (.tmp 11) rfl rfl rfl rB2 ?_
      refine hK.out _ _ (KS.out _ GwB2.out) (fun hH => ?_)
      clear hK K
      go_simp
      refine wpAnyH_ready (rs := [15]) (by kernel_rfl) (by simp) ?_
      refine AllReadyH.cons rfl (fun K hK => ?_) AllReadyH.nil
      refine step_app 74 rfl (.tmp 13) (.tmp 17) rfl rfl rfl rB4 ?_
      refine hK.out _ _ (KS.out _ GwB4.out) (fun hH => ?_)
      clear hK K
      go_simp
      refine tKx (i := 24) (v := .agg #[.int .i64 s.q, .slice PB2 nF CB2, .slice PB4 nW CB4, .int .i64 s.left, .bool s.dead]) rfl rfl (by kernel_rfl) (fun _ _ _ h => h) ?_ hH ?_
      · intro w5 hSw; obtain ⟨c0, c1, c2, c3, c4⟩ := hSw; go_simp
      simp only [zA9, zB9, zC9]
      refine wpAnyH_ready (rs := [25]) (by kernel_rfl) (by simp) ?_
      refine AllReadyH.cons rfl (fun K hK => ?_) AllReadyH.nil
      go_simp
      refine hK.out _ _ (KS.out _ (grTrans GwB4.out (World.grownBy_alloc _ _ none))) (fun hH => ?_)
      clear hK K
      refine tKx (i := 26) (v := .pointer (some ⟨wB4.heap.size, 0, none⟩)) rfl rfl (by kernel_rfl) (fun _ _ _ h => h) ?_ hH ?_
      · intro w5 hSw; obtain ⟨c0, c1, c2, c3, c4⟩ := hSw; go_simp
      simp only [zA9, zB9, zC9]
      refine wpAnyH_done (by kernel_rfl) ?_ _
      refine NoPanic.normal ?_
      go_wp2_with fail
      go_ret
      exact FB.out
  · go_simp
    refine hK.out _ _ (KS.out _ GC0.out) (fun hH => ?_)
    clear hK K
    refine wpAnyH_ready (rs := [4]) (by kernel_rfl) (by simp) ?_
    refine AllReadyH.cons rfl (fun K hK => ?_) AllReadyH.nil
    go_simp
    refine hK.out _ _ (KS.out _ GC1.out) (fun hH => ?_)
    clear hK K
    refine wpAnyH_ready (rs := [9]) (by kernel_rfl) (by simp) ?_
    refine AllReadyH.cons rfl (fun K hK => ?_) AllReadyH.nil
    refine step_app 73 rfl (.tmp 7) (.tmp 11) rfl rfl rfl rC2 ?_
    refine hK.out _ _ (KS.out _ GwC2.out) (fun hH => ?_)
    clear hK K
    go_simp
    refine wpAnyH_ready (rs := [15]) (by kernel_rfl) (by simp) ?_
    refine AllReadyH.cons rfl (fun K hK => ?_) AllReadyH.nil
    refine step_app 74 rfl (.tmp 13) (.tmp 17) rfl rfl rfl rC4 ?_
    refine hK.out _ _ (KS.out _ GwC4.out) (fun hH => ?_)
    clear hK K
    go_simp
    refine tKx (i := 24) (v := .agg #[.int .i64 s.q, .slice PC2 nF CC2, .slice PC4 nW CC4, .int .i64 s.left, .bool s.dead]) rfl rfl (by kernel_rfl) (fun _ _ _ h => h) ?_ hH ?_
    · intro w5 hSw; obtain ⟨c0, c1, c2, c3, c4⟩ := hSw; go_simp
    simp only [zA9, zB9, zC9]
    refine wpAnyH_ready (rs := [25]) (by kernel_rfl) (by simp) ?_
    refine AllReadyH.cons rfl (fun K hK => ?_) AllReadyH.nil
    go_simp
    refine hK.out _ _ (KS.out _ (grTrans GwC4.out (World.grownBy_alloc _ _ none))) (fun hH => ?_)
    clear hK K
    refine tKx (i := 26) (v := .pointer (some ⟨wC4.heap.size, 0, none⟩)) rfl rfl (by kernel_rfl) (fun _ _ _ h => h) ?_ hH ?_
    · intro w5 hSw; obtain ⟨c0, c1, c2, c3, c4⟩ := hSw; go_simp
    simp only [zA9, zB9, zC9]
    refine wpAnyH_done (by kernel_rfl) ?_ _
    refine NoPanic.normal ?_
    go_wp2_with fail
    go_ret
    exact FC.out
end Go.Proofs.Ytdiehlioemmakaa

