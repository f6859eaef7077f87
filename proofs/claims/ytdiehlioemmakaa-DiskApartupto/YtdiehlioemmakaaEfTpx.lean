/-
  The walk of lockstepref04's Create.
-/
import Derived.Test.YtdiehlioemmakaaUJ
namespace Go.Proofs.Ytdiehlioemmakaa
open Go.RowKit Go.Maps Go.Joins
variable {F : Nat → Prop}

def crE (n : List UInt8) (s : St) : Int := if nmOk n = false then 6 else if 0 ≤ fnd n s.now then 41 else if 64 ≤ s.now.length then 43 else if (stp s).2 = true then 44 else 0
def crS (n : List UInt8) (s : St) : St := if nmOk n = false then s else if 0 ≤ fnd n s.now then s else if 64 ≤ s.now.length then s else if (stp s).2 = true then (stp s).1 else { (stp s).1 with fs := (stp s).1.fs ++ [([], 0)], ways := (stp s).1.ways ++ [wth n ((stp s).1.fs.length : Int) false (stp s).1.now] }
theorem fld0 (a b : Value) (w : World) : (Instr.field 95 (.agg #[a, b]) 0).run Try.prog w = .ok a w := by kernel_rfl
/-- elements of two cells behind those of one's own: what the append does -/
theorem app2_run (sl el : TypeId) (zv : Value) (by' : Nat) (hsl : Try.prog.underlying sl = some (.slice el)) (hinf : (Try.prog.info? el).map (fun i => (i.zero, i.size, i.bytes)) = some (some zv, 2, by')) (hz1 : zv.cells.size = 2) (hby : by' ≤ 48)
    (base n m c : Nat) (v : Value) (xs news : List Value) (P : Option Addr) (w : World) (hown : w.ownsRow base el 2 v n xs) (hP : (P = none ∧ m = 0 ∧ c = 0 ∧ news = []) ∨ ∃ ad, P = some ad ∧ news.length = m * 2 ∧ (∀ j u, news[j]? = some u → w.cell? (ad.add j) = some u) ∧ ∀ u ∈ news, u.oneCell' = true) (hl : n + m ≤ 10000000) (hb : base ≤ w.heap.size) :
    ∃ v' w', (∀ ty, (Builtin.append_ #[sl, sl] ty #[v, .slice P m c]).run Try.prog w = .ok v' w') ∧ w'.ownsRow base el 2 v' (n + m) (xs ++ news) ∧ w.grownBy w' v.ownBlock ∧ ∀ g, v'.ownBlock = some g → v.ownBlock = some g ∨ w.heap.size ≤ g := by
  obtain ⟨i0, hi, hz0, hzs, hz2⟩ := info_parts hinf
  rcases hP with ⟨rfl, rfl, rfl, rfl⟩ | ⟨ad, rfl, hm, hc, h1⟩
  · refine ⟨v, w, fun ty => run_append_owned_none (P := Try.prog) (w := w) base sl ty el i0 2 hsl hi v n xs hown, by rw [List.append_nil]; exact hown, ⟨rfl, rfl, rfl, Nat.le_refl _, fun _ _ _ => rfl⟩, fun g hg => Or.inl hg⟩
  · have hbb : (n + m) * by' ≤ 140737488355328 := by
      have : by' * (n + m) ≤ 48 * 10000000 := Nat.mul_le_mul hby hl
      rw [Nat.mul_comm]; omega
    have key : ∀ ty, ∃ v' w', (Builtin.append_ #[sl, sl] ty #[v, .slice (some ad) m c]).run Try.prog w = .ok v' w' ∧ w'.ownsRow base el 2 v' (n + m) (xs ++ news) ∧ w.grownBy w' v.ownBlock ∧ (v' = .slice none 0 0 ↔ v = .slice none 0 0 ∧ m = 0) ∧ (v'.ownBlock = v.ownBlock ∨ v'.ownBlock = some w.heap.size) := fun ty =>
      run_append_own_at (P := Try.prog) w base sl ty el i0 zv 2 by' hsl hi hz0 hzs hz2 hz1 (by decide) v n xs hown ad m c news hm hc h1 (by unfold maxLen; omega) hbb hb
    obtain ⟨v', w', h1, h2, h3, _, h5⟩ := key 0
    refine ⟨v', w', fun ty => h1, h2, h3, fun g hg => ?_⟩
    rcases h5 with h5 | h5
    · exact Or.inl (h5.symm.trans hg)
    · rw [h5] at hg; cases hg; exact Or.inr (Nat.le_refl _)
theorem flat_ones {w : World} {f : Nat} {fs : List (List UInt8 × Nat)} : ∀ (us : List (Value × Value)), us.length = fs.length → (∀ (i : Nat) (u : Value × Value) (x : List UInt8 × Nat), us[i]? = some u → fs[i]? = some x → fileIn F w f u x) → ∀ u ∈ flat2 us, u.oneCell' = true := by
  intro us hul hw u hu
  obtain ⟨k, hk⟩ := List.getElem?_of_mem hu
  have hkl := (List.getElem?_eq_some_iff.1 hk).1
  rw [flat2_len] at hkl
  obtain ⟨i, hi⟩ : ∃ i, k = i * 2 ∨ k = i * 2 + 1 := ⟨k / 2, by omega⟩
  obtain ⟨y, hy⟩ : ∃ y, us[i]? = some y := ⟨us[i]'(by omega), List.getElem?_eq_getElem _⟩
  obtain ⟨x, hx⟩ : ∃ x, fs[i]? = some x := ⟨fs[i]'(by omega), List.getElem?_eq_getElem _⟩
  have hf := hw i y x hy hx
  obtain ⟨a1, a2⟩ := flat2_get us i y hy
  rcases hi with rfl | rfl
  · rw [a1] at hk; cases hk; exact rd1_cell hf.2
  · rw [a2] at hk; cases hk; rw [hf.1]; rfl
theorem flat_cell {w : World} {g o j : Nat} {us : List (Value × Value)} {u : Value} (hc : ∀ i u, us[i]? = some u → w.cell? ⟨g, o + i * 2, none⟩ = some u.1 ∧ w.cell? ⟨g, o + i * 2 + 1, none⟩ = some u.2) (hj : (flat2 us)[j]? = some u) : w.cell? ⟨g, o + j, none⟩ = some u := by
  have hkl := (List.getElem?_eq_some_iff.1 hj).1
  rw [flat2_len] at hkl
  obtain ⟨i, hi⟩ : ∃ i, j = i * 2 ∨ j = i * 2 + 1 := ⟨j / 2, by omega⟩
  obtain ⟨y, hy⟩ : ∃ y, us[i]? = some y := ⟨us[i]'(by omega), List.getElem?_eq_getElem _⟩
  obtain ⟨a1, a2⟩ := flat2_get us i y hy
  rcases hi with rfl | rfl
  · rw [a1] at hj; cases hj; exact (hc i y hy).1
  · rw [a2] at hj; cases hj; exact (hc i y hy).2
/-- one file more -/
theorem fil_mk {w W : World} {f n : Nat} {s : St} {x : List UInt8 × Nat} {vF vW v : Value} {us : List (Value × Value)} {u1 u2 : Value} (fb : ∀ i, F i → i < w.heap.size) (hb : RB w f s.q s.left vF vW s.dead) (hW : listIn F (wayIn F) w f vW s.ways) (hne : s.ways ≠ []) (hl : us.length = s.fs.length)
    (hw : ∀ (i : Nat) (u : Value × Value) (x : List UInt8 × Nat), us[i]? = some u → s.fs[i]? = some x → fileIn F w f u x) (hx : ∀ W, fileIn F W f (u1, u2) x) (hn : us.length = n) (k : Keep f w W) (hB : RB W f s.q s.left vF vW s.dead)
    (row : W.ownsRow w.heap.size 98 2 v (n + 1) (flat2 us ++ [u1, u2])) :
    Rf F (W.setCell ⟨f, 1, none⟩ v) f { s with fs := s.fs ++ [x] } ∧ Keep f w (W.setCell ⟨f, 1, none⟩ v) := by
  have K : Keep f w (W.setCell ⟨f, 1, none⟩ v) := k.trans (Keep.set W f 1 v)
  have hf : f < w.heap.size := lt_of_heap hb
  have e : flat2 us ++ [u1, u2] = flat2 (us ++ [(u1, u2)]) := by rw [flat2_app]; rfl
  rw [e] at row
  refine ⟨⟨⟨v, vW, (hB.set).2.2.1 v, ⟨us ++ [(u1, u2)], by simp [hl], rd2_own (row_set row hf) hf fb, fun i u y hu hy => ?_⟩, listIn.kept (R := wayIn F) (fun h k => wayIn.kept h k) hW K⟩, hne, fun i hi => Nat.lt_of_lt_of_le (fb i hi) K.size⟩, K⟩
  rcases Nat.lt_or_ge i us.length with h | h
  · rw [List.getElem?_append_left h] at hu
    rw [List.getElem?_append_left (by omega)] at hy
    exact (hw i u y hu hy).kept K
  · rw [List.getElem?_append_right h] at hu
    rw [List.getElem?_append_right (by omega)] at hy
    have h0 : i - us.length = 0 := by
      have := (List.getElem?_eq_some_iff.1 hu).1
      simp at this; omega
    rw [h0] at hu
    rw [← hl, h0] at hy
    simp at hu hy
    subst hu hy
    exact hx _
/-- all files copied, and an empty one behind them -/
theorem fil_run {w : World} {f : Nat} {s : St} (h : Rf F w f s) (hm : s.fs.length ≤ 9000000) : ∃ vF vW P c, RB w f s.q s.left vF vW s.dead ∧ vF = .slice P s.fs.length c ∧ ∃ v4 w4, (∀ ty, (Builtin.append_ #[73, 73] ty #[.slice (some ⟨w.heap.size, 0, none⟩) 0 0, vF]).run Try.prog (w.alloc (.cells #[] 98)) = .ok v4 w4) ∧ RB w4 f s.q s.left vF vW s.dead ∧
    ∃ P5 C5 w5, (∀ ty, (Builtin.append_ #[73, 73] ty #[v4, .slice (some ⟨w4.heap.size, 0, none⟩) 1 1]).run Try.prog (w4.alloc (.cells #[.slice none 0 0, .int .i64 0] 98)) = .ok (.slice P5 (s.fs.length + 1) C5) w5) ∧ RB w5 f s.q s.left vF vW s.dead ∧ Rf F (w5.setCell ⟨f, 1, none⟩ (.slice P5 (s.fs.length + 1) C5)) f { s with fs := s.fs ++ [([], 0)] } ∧ Keep f w (w5.setCell ⟨f, 1, none⟩ (.slice P5 (s.fs.length + 1) C5)) ∧ ∃ P4 N4 C4, v4 = .slice P4 N4 C4 := by
  obtain ⟨vF, vW, h1, ⟨us, hul, ⟨p, c, hv, _, _, hpc, hc⟩, hw⟩, hW⟩ := h.fs
  have hf := lt_of_heap h1
  have hFP : (p = none ∧ us.length = 0 ∧ c = 0 ∧ flat2 us = []) ∨ ∃ ad, p = some ad ∧ (flat2 us).length = us.length * 2 ∧ (∀ j u, (flat2 us)[j]? = some u → (w.alloc (.cells #[] 98)).cell? (ad.add j) = some u) ∧ ∀ u ∈ flat2 us, u.oneCell' = true := by
    have ones : ∀ u ∈ flat2 us, u.oneCell' = true := fun u hu => flat_ones us hul hw u hu
    rcases hc with hc | ⟨g, o, hp, _, hc⟩
    · subst hc
      cases p with
      | none => exact Or.inl ⟨rfl, rfl, hpc rfl, rfl⟩
      | some ad => exact Or.inr ⟨ad, rfl, rfl, fun j u hj => by simp [flat2] at hj, fun u hu => by simp [flat2] at hu⟩
    · refine Or.inr ⟨⟨g, o, none⟩, hp, flat2_len us, fun j u hj => ?_, ones⟩
      rw [add_plain]
      exact (World.grownBy_alloc w _ none).cell (flat_cell hc hj) (by simp)
  obtain ⟨v4, w4, hr4, ho4, hg4, hn4⟩ := app2_run 73 98 (.agg #[.slice none 0 0, .int .i64 0]) 32 fiSlice fiInfo rfl (by decide) w.heap.size 0 us.length c (.slice (some ⟨w.heap.size, 0, none⟩) 0 0) [] (flat2 us) p (w.alloc (.cells #[] 98)) ⟨rfl, Or.inr ⟨w.heap.size, 0, #[], rfl, Nat.le_refl _, heap_alloc_new _ _, Nat.le_refl _, by unfold maxLen; omega, rfl, rfl⟩⟩ hFP (by omega) (by simp)
  rw [Nat.zero_add, List.nil_append] at ho4
  have kb4 : Below w.heap.size w w4 := ((Below.refl _ w).alloc (Nat.le_refl _) _).trans (below_own hg4 (by simp) (fun g hg => by simp [Value.ownBlock] at hg; omega))
  have lv4 : ∀ gg, v4.ownBlock = some gg → w.heap.size ≤ gg := own_ge ho4
  have R4 : RB w4 f s.q s.left vF vW s.dead := (kb4.block f hf).trans h1
  have s4 := kb4.size
  obtain ⟨v5, w5, hr5, ho5, hg5, hn5⟩ := app2_run 73 98 (.agg #[.slice none 0 0, .int .i64 0]) 32 fiSlice fiInfo rfl (by decide) w.heap.size us.length 1 1 v4 (flat2 us) [.slice none 0 0, .int .i64 0] (some ⟨w4.heap.size, 0, none⟩) (w4.alloc (.cells #[.slice none 0 0, .int .i64 0] 98)) (ho4.alloc _) (Or.inr ⟨_, rfl, rfl, one_cells (heap_alloc_new _ _), by intro u hu; simp at hu; rcases hu with rfl | rfl <;> rfl⟩) (by omega) (by simp; omega)
  have kb5 : Below w.heap.size w w5 := (kb4.trans ((Below.refl _ w4).alloc (by omega) _)).trans (below_own hg5 (by simp; omega) lv4)
  have R5 : RB w5 f s.q s.left vF vW s.dead := (kb5.block f hf).trans h1
  obtain ⟨P5, C5, rfl⟩ := row_form2 ho5
  obtain ⟨P4, C4, hv4⟩ := row_form2 ho4
  have fin := fil_mk (x := ([], 0)) h.fb h1 hW h.ne hul hw (fun W => ⟨rfl, none, 0, rfl, Nat.le_refl _, by omega, fun _ => rfl, Or.inl rfl⟩) rfl (⟨kb5.os, kb5.tape, kb5.output, kb5.size, fun i hi _ => kb5.block i hi⟩ : Keep f w w5) R5 ho5
  rw [hul] at hv hr5 fin
  refine ⟨vF, vW, p, c, h1, hv, v4, w4, by rw [hv, ← hul]; exact hr4, R4, P5, C5, w5, hr5, R5, fin.1, fin.2, P4, _, C4, hv4⟩
set_option maxHeartbeats 8000000 in
set_option maxRecDepth 1000000 in
theorem refCreate_any (f : Nat) (s : St) (n : List UInt8) (w : World) (h : Rf F w f s) (hl : -9223372036854775808 ≤ s.left ∧ s.left ≤ 9223372036854775807) (hb : s.ways.length ≤ 8000000) (hn : s.now.length ≤ 3900000) (hm : s.fs.length ≤ 8000000) :
    Calls Try.prog 30 #[.pointer (some ⟨f, 0, none⟩), .string ⟨n.toArray⟩] w fun e w' => e = .returned (.int .i64 (crE n s)) ∧ Rf F w' f (crS n s) ∧ Keep f w w' := by
  have NM : Hid (∀ w, Calls Try.prog 64 #[.string ⟨n.toArray⟩] w fun e w' => e = .returned (.bool (nmOk n)) ∧ w' = w) := fun w => refName_any n w
  obtain ⟨pN, cN, pI, cI, hway, hfind, hnow⟩ := now_rf h (by omega) (by omega)
  have FD : Hid (∀ w', w.grownBy w' none → Calls Try.prog 66 #[.agg #[.slice pN s.now.length cN, .slice pI s.now.length cI], .string ⟨n.toArray⟩] w' fun e w'' => e = .returned (.int .i64 (fnd n s.now)) ∧ w'.grownBy w'' none) := fun w' g => hfind n w' g
  have NW := mkHid hnow
  have FL := fun w' => fld0 (.slice pN s.now.length cN) (.slice pI s.now.length cI) w'
  have H := mkHid h
  have hS : Hid (∀ w1, w.grownBy w1 none → Calls Try.prog 67 #[.pointer (some ⟨f, 0, none⟩)] w1 fun e w' => e = .returned (.bool (stp s).2) ∧ Rf F w' f (stp s).1 ∧ Keep f w1 w') := fun w1 g => stops_rf (h.grown g) hl
  clear hway hfind hnow
  cases hok : nmOk n with
  | false =>
    rw [hok] at NM
    have r1 : crE n s = 6 := by unfold crE; rw [hok]; rfl
    have r2 : crS n s = s := by unfold crS; rw [hok]; rfl
    rw [r1, r2]
    clear r1 r2 FD NW hS h
    go_enter Try.func30, Try.ntmps30
    go_wp2_with fail
    refine (NM.out _).mono ?_
    rintro e wx ⟨rfl, hwx⟩; have hwx2 := hwx.symm; subst hwx2; clear hwx
    go_wp2_with fail
    go_ret
    exact ⟨rfl, H.out, Keep.refl f _⟩
  | true =>
    rw [hok] at NM
    by_cases hf0 : 0 ≤ fnd n s.now
    · have r1 : crE n s = 41 := by unfold crE; rw [hok, if_neg (by simp), if_pos hf0]
      have r2 : crS n s = s := by unfold crS; rw [hok, if_neg (by simp), if_pos hf0]
      rw [r1, r2]
      generalize fnd n s.now = FN at *
      clear r1 r2 hS h
      go_enter Try.func30, Try.ntmps30
      go_wp2_with fail
      refine (NM.out _).mono ?_
      rintro e wx ⟨rfl, hwx⟩; have hwx2 := hwx.symm; subst hwx2; clear hwx
      go_wp2_with fail
      refine (NW.out _ (grRefl _)).mono ?_
      rintro e w1 ⟨rfl, g1⟩
      go_wp2_with fail
      refine (FD.out _ g1).mono ?_
      rintro e w2 ⟨rfl, g2⟩
      have G2 := grTrans g1 g2
      clear g1 g2
      go_wp2_with fail
      go_ret
      exact ⟨rfl, H.out.grown G2, Keep.grown G2⟩
    by_cases h64 : 64 ≤ s.now.length
    · have r1 : crE n s = 43 := by unfold crE; rw [hok, if_neg (by simp), if_neg hf0, if_pos h64]
      have r2 : crS n s = s := by unfold crS; rw [hok, if_neg (by simp), if_neg hf0, if_pos h64]
      rw [r1, r2]
      have h64i : (64 : Int) ≤ ((s.now.length : Nat) : Int) := by omega
      generalize fnd n s.now = FN at *
      generalize s.now.length = NL at *
      clear r1 r2 hS h
      go_enter Try.func30, Try.ntmps30
      go_wp2_with fail
      refine (NM.out _).mono ?_
      rintro e wx ⟨rfl, hwx⟩; have hwx2 := hwx.symm; subst hwx2; clear hwx
      go_wp2_with fail
      refine (NW.out _ (grRefl _)).mono ?_
      rintro e w1 ⟨rfl, g1⟩
      go_wp2_with fail
      refine (FD.out _ g1).mono ?_
      rintro e w2 ⟨rfl, g2⟩
      have G2 := grTrans g1 g2
      clear g1 g2
      go_wp2_with fail
      refine (NW.out _ G2).mono ?_
      rintro e w3 ⟨rfl, g3⟩
      have G3 := grTrans G2 g3
      clear G2 g3
      go_wp2_with fail
      go_ret
      exact ⟨rfl, H.out.grown G3, Keep.grown G3⟩
    have h64i : ¬ (64 : Int) ≤ ((s.now.length : Nat) : Int) := by omega
    cases hd : (stp s).2 with
    | true =>
      rw [hd] at hS
      have r1 : crE n s = 44 := by unfold crE; rw [hok, if_neg (by simp), if_neg hf0, if_neg h64, if_pos hd]
      have r2 : crS n s = (stp s).1 := by unfold crS; rw [hok, if_neg (by simp), if_neg hf0, if_neg h64, if_pos hd]
      rw [r1, r2]
      generalize fnd n s.now = FN at *
      generalize s.now.length = NL at *
      clear r1 r2 h
      go_enter Try.func30, Try.ntmps30
      go_wp2_with fail
      refine (NM.out _).mono ?_
      rintro e wx ⟨rfl, hwx⟩; have hwx2 := hwx.symm; subst hwx2; clear hwx
      go_wp2_with fail
      refine (NW.out _ (grRefl _)).mono ?_
      rintro e w1 ⟨rfl, g1⟩
      go_wp2_with fail
      refine (FD.out _ g1).mono ?_
      rintro e w2 ⟨rfl, g2⟩
      have G2 := grTrans g1 g2
      clear g1 g2
      go_wp2_with fail
      refine (NW.out _ G2).mono ?_
      rintro e w3 ⟨rfl, g3⟩
      have G3 := grTrans G2 g3
      clear G2 g3
      go_wp2_with fail
      refine (hS.out _ G3).mono ?_
      rintro e w4 ⟨rfl, R4, k4⟩
      have R4' := mkHid R4
      clear R4
      go_wp2_with fail
      go_ret
      exact ⟨rfl, R4'.out, (Keep.grown G3).trans k4⟩
    | false =>
      rw [hd] at hS
      have r1 : crE n s = 0 := by unfold crE; rw [hok, if_neg (by simp), if_neg hf0, if_neg h64, if_neg (by rw [hd]; simp)]
      have r2 : crS n s = { (stp s).1 with fs := (stp s).1.fs ++ [([], 0)], ways := (stp s).1.ways ++ [wth n ((stp s).1.fs.length : Int) false (stp s).1.now] } := by unfold crS; rw [hok, if_neg (by simp), if_neg hf0, if_neg h64, if_neg (by rw [hd]; simp)]
      rw [r1, r2]
      have hm2 : (stp s).1.fs.length ≤ 8000000 := by rw [(stp_ways s).2.1]; exact hm
      have hb2 : (stp s).1.ways.length ≤ 8000000 := by rw [(stp_ways s).1]; exact hb
      have hn2 : (stp s).1.now.length ≤ 3900000 := by unfold St.now; rw [(stp_ways s).1]; exact hn
      generalize fnd n s.now = FN at *
      generalize s.now.length = NL at *
      generalize (stp s).1 = s' at *
      clear r1 r2 h
      go_enter Try.func30, Try.ntmps30
      go_wp2_with fail
      refine (NM.out _).mono ?_
      rintro e wx ⟨rfl, hwx⟩; have hwx2 := hwx.symm; subst hwx2; clear hwx
      go_wp2_with fail
      refine (NW.out _ (grRefl _)).mono ?_
      rintro e w1 ⟨rfl, g1⟩
      go_wp2_with fail
      refine (FD.out _ g1).mono ?_
      rintro e w2 ⟨rfl, g2⟩
      have G2 := grTrans g1 g2
      clear g1 g2
      go_wp2_with fail
      refine (NW.out _ G2).mono ?_
      rintro e w3 ⟨rfl, g3⟩
      have G3 := grTrans G2 g3
      clear G2 g3
      go_wp2_with fail
      refine (hS.out _ G3).mono ?_
      rintro e w4 ⟨rfl, R4, k4⟩
      have K4 : Hid (Keep f w w4) := (Keep.grown G3).trans k4
      clear k4 G3
      obtain ⟨vF, vW, p, c, hRB, hvF, v5, w5, hr5, hRB5, P6, C6, w6, hr6, hRB6, R7, k7, P5, N5, C5, hv5⟩ := fil_run R4 (by omega)
      subst hv5
      rw [hvF] at hr5 hRB hRB5 hRB6
      obtain ⟨_, z1, _, _, _, zf⟩ := RB.c hRB
      have zf1 := zf 1
      obtain ⟨_, y1, _, _, _, yf⟩ := RB.c hRB6
      have yf1 := yf 1
      have hlt6 := lt_of_heap hRB6
      have a1 : (w4.alloc (.cells #[] 98)).cell? ⟨f, 1, none⟩ = some (.slice p s'.fs.length c) := (World.grownBy_alloc w4 _ none).cell z1 (by simp)
      obtain ⟨w7, hw7⟩ : ∃ w7, w7 = w6.setCell ⟨f, 1, none⟩ (.slice P6 (s'.fs.length + 1) C6) := ⟨_, rfl⟩
      have x1 : w7.cell? ⟨f, 1, none⟩ = some (.slice P6 (s'.fs.length + 1) C6) := by rw [hw7]; exact (RB.c ((RB.set hRB6).2.2.1 _)).2.1
      rw [← hw7] at R7 k7
      obtain ⟨pN7, cN7, pI7, cI7, hway7, _, hnow7⟩ := now_rf R7 (show s'.ways.length ≤ 9000000 by omega) (show s'.now.length ≤ 9000000 by omega)
      have enow : ({ s' with fs := s'.fs ++ [([], 0)] } : St).now = s'.now := rfl
      rw [enow] at hway7 hnow7
      have NW7 := mkHid hnow7
      have WT7 : Hid (∀ w8, w7.grownBy w8 none → Calls Try.prog 69 #[.agg #[.slice pN7 s'.now.length cN7, .slice pI7 s'.now.length cI7], .string ⟨n.toArray⟩, .int .i64 (s'.fs.length : Int)] w8 (withP w8 (wth n (s'.fs.length : Int) false s'.now))) := fun w8 g => by
        have := with_way hway7 (by omega) n (s'.fs.length : Int) (Or.inr ⟨_, rfl⟩) g
        rw [decide_eq_false (show ¬ ((s'.fs.length : Int) < 0) by omega)] at this
        exact this
      have R7' := mkHid R7
      have K7 := mkHid k7
      have hf7 := R7.lt
      have HB := mkHid hb2
      generalize s'.now.length = NL2 at *
      have hsub0 : IntKind.i64.wrap (s'.fs.length : Int) = (s'.fs.length : Int) := by rw [IntKind.wrap_i64]; omega
      have hsub : IntKind.i64.wrap (((s'.fs.length + 1 : Nat) : Int) - 1) = (s'.fs.length : Int) := by rw [IntKind.wrap_i64]; omega
      have hsub2 : wrap64 (((s'.fs.length + 1 : Nat) : Int) - 1) = (s'.fs.length : Int) := by unfold wrap64; omega
      have hsub3 : IntKind.i64.wrap ((s'.fs.length : Int) + 1 - 1) = (s'.fs.length : Int) := by rw [IntKind.wrap_i64]; omega
      clear hRB hRB5 hRB6 hway7 hnow7 R4 R7 k7 hvF zf yf enow hS NW FD hb2 hn2 hm2
      go_wp2_with (first
        | (at_builtin; refine list_app 73 rfl (.tmp 25) (.tmp 29) rfl rfl rfl hr5 ?_)
        | (at_builtin; refine list_app 73 rfl (.tmp 30) (.tmp 32) rfl rfl rfl hr6 ?_))
      rw [← hw7]
      clear hw7 hr5 hr6
      refine wp_region_noPanic ?_
      refine wp_region_held_drew (S := fun w' => w'.cell? ⟨f, 1, none⟩ = some (.slice P6 (s'.fs.length + 1) C6)) (by kernel_rfl) (x1) (fun hH => ?_)
      refine tKx (i := 0) (v := .pointer (some ⟨f, 0, none⟩)) rfl rfl (by kernel_rfl) (fun _ _ _ h => h) ?_ hH ?_
      · intro w5 hSw; go_simp
      simp only [zA9, zB9, zC9]
      refine tKx (i := 1) (v := .pointer (some ⟨f, 0, none⟩)) rfl rfl (by kernel_rfl) (fun _ _ _ h => h) ?_ hH ?_
      · intro w5 hSw; go_simp
      simp only [zA9, zB9, zC9]
      refine tKx (i := 3) (v := .string ⟨n.toArray⟩) rfl rfl (by kernel_rfl) (fun _ _ _ h => h) ?_ hH ?_
      · intro w5 hSw; go_simp
      simp only [zA9, zB9, zC9]
      refine tKx (i := 4) (v := .pointer (some ⟨f, 0, none⟩)) rfl rfl (by kernel_rfl) (fun _ _ _ h => h) ?_ hH ?_
      · intro w5 hSw; go_simp
      simp only [zA9, zB9, zC9]
      refine tKx (i := 5) (v := .pointer (some ⟨f, 0, none⟩)) rfl rfl (by kernel_rfl) (fun _ _ _ h => h) ?_ hH ?_
      · intro w5 hSw; go_simp
      simp only [zA9, zB9, zC9]
      refine tKx (i := 6) (v := .pointer (some ⟨f, 1, none⟩)) rfl rfl (by kernel_rfl) (fun _ _ _ h => h) ?_ hH ?_
      · intro w5 hSw; go_simp
      simp only [zA9, zB9, zC9]
      refine tKx (i := 7) (v := .slice P6 (s'.fs.length + 1) C6) rfl rfl (by kernel_rfl) (fun _ _ _ h => h) ?_ hH ?_
      · intro w5 hSw; go_simp
      simp only [zA9, zB9, zC9]
      refine tKx (i := 8) (v := .int .i64 ((s'.fs.length + 1 : Nat) : Int)) rfl rfl (by kernel_rfl) (fun _ _ _ h => h) ?_ hH ?_
      · intro w5 hSw; go_simp
      simp only [zA9, zB9, zC9]
      refine tKx (i := 9) (v := .int .i64 (s'.fs.length : Int)) rfl rfl (by kernel_rfl) (fun _ _ _ h => h) ?_ hH ?_
      · intro w5 hSw; go_simp
      simp only [zA9, zB9, zC9]
      refine wpAnyH_ready (rs := [2]) (by kernel_rfl) (by simp) ?_
      refine AllReadyH.cons rfl (fun K hK => ?_) AllReadyH.nil
      go_simp
      go_at_call 65
      have gd : w7.grownBy w7.drew none := ⟨rfl, rfl, rfl, Nat.le_refl _, fun _ _ _ => rfl⟩
      refine (NW7.out _ gd).mono ?_
      rintro e w8 ⟨rfl, g8⟩
      go_wp2_with fail
      have G8 := grTrans gd g8
      clear gd g8
      have hH9 := hH
      clear hH
      refine hK.out _ _ (G8.cell x1 (by simp)) (fun hH => ?_)
      clear hK K
      refine wpAnyH_ready (rs := [10]) (by kernel_rfl) (by simp) ?_
      refine AllReadyH.cons rfl (fun K hK => ?_) AllReadyH.nil
      go_simp
      go_at_call 69
      refine (WT7.out _ G8).mono ?_
      intro e w9 h9
      obtain ⟨u1, u2, rfl, g9, hW⟩ := h9.way (Nat.lt_of_lt_of_le hf7 G8.size) (fun i hi => Nat.lt_of_lt_of_le (R7'.out.fb i hi) G8.size)
      have G9 := grTrans G8 g9
      have hW' := mkHid hW
      clear h9 hW
      go_wp2_with fail
      clear hH9
      have hH9 := hH
      clear hH
      refine hK.out _ _ (G9.cell x1 (by simp)) (fun hH => ?_)
      clear hK K
      refine wpAnyH_ready (rs := [11]) (by kernel_rfl) (by simp) ?_
      refine AllReadyH.cons rfl (fun K hK => ?_) AllReadyH.nil
      go_simp
      go_at_call 68
      refine (changes_more f { s' with fs := s'.fs ++ [([], 0)] } _ u1 u2 w9 (R7'.out.grown G9) hW'.out (Nat.le_trans HB.out (by omega))).mono ?_
      rintro e w10 ⟨rfl, R10, k10, c10⟩
      have R10' := mkHid R10
      clear R10
      go_wp2_with fail
      refine hK.out _ _ (c10.trans (G9.cell x1 (by simp))) (fun _ => ?_)
      clear hK K
      refine wpAnyH_done (by kernel_rfl) ?_ _
      refine NoPanic.normal ?_
      go_wp2_with fail
      go_ret
      exact ⟨rfl, R10'.out, ((K4.out.trans K7.out).trans (Keep.grown G9)).trans k10⟩
end Go.Proofs.Ytdiehlioemmakaa

