/-
  The walk of lockstepref04's Crash, file by file.
-/
import Derived.Test.YtdiehlioemmakaaEfUpx
namespace Go.Proofs.Ytdiehlioemmakaa
open Go.RowKit Go.Maps Go.Joins
variable {F : Nat → Prop}

theorem crF_step {keeps : List Int} {t i j : Nat} {W : Ws} {nm : List UInt8} {fs : List (List UInt8 × Nat)} {x : List UInt8 × Nat} (hW : W[i]? = some (nm, j)) (hx : fs[j]? = some x) : crF keeps t (W.drop i) fs = crF keeps (rx keeps t x).2 (W.drop (i + 1)) (fs.set j (rx keeps t x).1) := by
  have hi := (List.getElem?_eq_some_iff.1 hW).1
  have e1 : W.drop i = (nm, j) :: W.drop (i + 1) := by
    have h2 := hW
    rw [List.getElem?_eq_getElem hi, Option.some.injEq] at h2
    rw [List.drop_eq_getElem_cons hi, h2]
  have e2 : fs.getD j ([], 0) = x := by rw [List.getD_eq_getElem?_getD, hx]; rfl
  rw [e1]
  show crF keeps (rx keeps t (fs.getD j ([], 0))).2 _ (fs.set j (rx keeps t (fs.getD j ([], 0))).1) = _
  rw [e2]
theorem xset {wr A : World} {f X j : Nat} {u : Value} (k : Keep f wr A) (hf : A.heap[f]? = wr.heap[f]?) (hX : wr.heap.size ≤ X) (hXf : X ≠ f) : Keep f wr (A.setCell ⟨X, j, none⟩ u) ∧ (A.setCell ⟨X, j, none⟩ u).heap[f]? = wr.heap[f]? :=
  ⟨k.more (grown_setCell A ⟨X, j, none⟩ u) (fun i e => by simp at e; omega), (heap_setCell_other A ⟨X, j, none⟩ f u (fun e => hXf e.symm)).trans hf⟩
theorem all_set {fs : List (List UInt8 × Nat)} {j : Nat} {x : List UInt8 × Nat} (h : ∀ x ∈ fs, x.2 ≤ x.1.length ∧ x.1.length ≤ 100000000) (hx : x.2 ≤ x.1.length ∧ x.1.length ≤ 100000000) : ∀ y ∈ fs.set j x, y.2 ≤ y.1.length ∧ y.1.length ≤ 100000000 := by
  intro y hy
  rcases List.mem_or_eq_of_mem_set hy with h1 | rfl
  · exact h y h1
  · exact hx
theorem wrI {z : Int} {k : Nat} (h : z = (k : Int)) (hk : k ≤ 1000000000000) : IntKind.i64.wrap z = (k : Int) := by rw [h, IntKind.wrap_i64]; omega
theorem intIn.keep {w w' : World} {f : Nat} {P : Option Addr} {l : List Int} (h : intIn w P l) (hk : Keep f w w') (hf : l ≠ [] → ∀ a, P = some a → a.block ≠ f) : intIn w' P l := by
  rcases h with h | ⟨g, off, e, hc⟩
  · exact Or.inl h
  · exact Or.inr ⟨g, off, e, fun i x hx => hk.cell (F := fun _ => False) ⟨hf (by intro e0; rw [e0] at hx; simp at hx) _ e, id⟩ (hc i x hx)⟩
set_option maxHeartbeats 8000000 in
set_option maxRecDepth 1000000 in
theorem refCrash_any (f : Nat) (s : St) (keeps : List Int) (Pk : Option Addr) (Ck : Nat) (names : Int) (w : World) (h : Rf F w f s) (hn : -9223372036854775808 ≤ names ∧ names ≤ 9223372036854775807) (hb : s.ways.length ≤ 9000000) (hm : s.fs.length ≤ 9000000) (hok : ∀ W ∈ s.ways, W.length ≤ 1000 ∧ ∀ p ∈ W, p.2 < s.fs.length) (hfs : ∀ x ∈ s.fs, x.2 ≤ x.1.length ∧ x.1.length ≤ 100000000) (hk : intIn w Pk keeps) (hkf : keeps ≠ [] → ∀ a, Pk = some a → a.block ≠ f) (hkr : ∀ x ∈ keeps, -9223372036854775808 ≤ x ∧ x ≤ 9223372036854775807) (hkl : keeps.length ≤ 1000000000) :
    Calls Try.prog 24 #[.pointer (some ⟨f, 0, none⟩), .slice Pk keeps.length Ck, .int .i64 names] w fun e w' => e = .returned (.tuple #[]) ∧ Rf F w' f (crashS keeps names s) ∧ Keep f w w' := by
  obtain ⟨KL, hKLe⟩ : ∃ KL, KL = keeps.length := ⟨_, rfl⟩
  rw [← hKLe]
  have HKL := mkHid hKLe
  rw [← hKLe] at hkl
  clear hKLe
  have hpos : 0 < s.ways.length := List.length_pos_iff.2 h.ne
  obtain ⟨KW, hKW⟩ : ∃ KW, KW = lft names s.ways.length := ⟨_, rfl⟩
  have hKl : KW < s.ways.length := by rw [hKW]; exact lft_lt names hpos
  obtain ⟨W, hW⟩ : ∃ W, s.ways[KW]? = some W := ⟨s.ways[KW], List.getElem?_eq_getElem hKl⟩
  have hWD : s.ways.getD KW [] = W := by rw [List.getD_eq_getElem?_getD, hW]; rfl
  have hres : crashS keeps names s = { s with fs := crF keeps 0 W s.fs, ways := [W], left := 0, dead := false } := by unfold crashS; rw [← hKW, hWD]
  rw [hres]
  obtain ⟨hWl, hWn⟩ := hok W (List.mem_of_getElem? hW)
  have LF : Hid (∀ w, Calls Try.prog 59 #[.int .i64 names, .int .i64 (s.ways.length : Int)] w fun e w' => e = .returned (.int .i64 (KW : Int)) ∧ w' = w) := fun w => hKW ▸ left_any names s.ways.length w hpos (by omega) hn
  obtain ⟨g, o, c, vN, vI, vF, hRB, y1, y2, hway, hgf, hFl⟩ := way_at h hW
  have ST := mkHid (refStop_any f s.q s.left 0 vF (.slice (some ⟨g, o, none⟩) s.ways.length c) s.dead w hRB)
  have hfw := lt_of_heap hRB
  have fbw := mkHid h.fb
  obtain ⟨PI, cI, hvI, hvIc⟩ := rd1_int hway.2
  have hway' := mkHid hway
  have hFl' := mkHid hFl
  have HK := mkHid hk
  have HKF := mkHid hkf
  have HKR := mkHid hkr
  have HWN := mkHid hWn
  have HFS := mkHid hfs
  have HM := mkHid hm
  have HI := mkHid hvIc
  obtain ⟨vNP, hvN⟩ : ∃ P c, vN = .slice P W.length c := by
    obtain ⟨P, c, e⟩ := rd1_one hway.1
    rw [List.length_map] at e
    exact ⟨P, c, e⟩
  obtain ⟨vNC, hvN⟩ := hvN
  have u1 : (KW : Int) < (s.ways.length : Int) := by omega
  have u2 : (s.ways.length : Int) ≤ 9000000 := by omega
  generalize s.ways.length = NW at *
  clear h hb hn hok hfs hk hkf hkr hm hKW hKl hWD hres hway hFl hvIc hpos hW hWn
  subst hvN hvI
  go_enter Try.func24, Try.ntmps24
  go_wp2_with fail
  refine ST.out.mono ?_
  rintro e w1 ⟨rfl, hB1, k1⟩
  have K1 := mkHid k1
  have s1 := k1.size
  have q1 : w1.cell? ⟨g, o + KW * 2, none⟩ = some (.slice vNP W.length vNC) := cellC k1 y1 hgf
  have q2 : w1.cell? ⟨g, o + KW * 2 + 1, none⟩ = some (.slice PI W.length cI) := cellC k1 y2 hgf
  obtain ⟨_, _, q3, _, _, _⟩ := RB.c hB1
  have HB1 := mkHid hB1
  have gA : ∀ u v : Value, w1.grownBy (w1.alloc (.cells #[u, v] 95)).drew none := fun u v => by
    have h := World.grownBy_alloc w1 (.cells #[u, v] 95) none
    exact ⟨h.os, h.tape, h.output, h.size, h.block⟩
  have hS : ∀ u v : Value, (fun w' : World => w'.cell? ⟨f, 2, none⟩ = some (.slice (some ⟨g, o, none⟩) NW c) ∧ w'.cell? ⟨g, o + KW * 2, none⟩ = some (.slice vNP W.length vNC) ∧ w'.cell? ⟨g, o + KW * 2 + 1, none⟩ = some (.slice PI W.length cI)) (w1.alloc (.cells #[u, v] 95)).drew := fun u v => ⟨(gA u v).cell q3 (by simp), (gA u v).cell q1 (by simp), (gA u v).cell q2 (by simp)⟩
  have HS := mkHid hS
  -- behind the first two statements
  have NEXT : Hid (∀ W3, W3 = (((w1.setCell ⟨f, 2, none⟩ (.slice (some ⟨w1.heap.size + 1, 0, none⟩) 1 1)).alloc (.cells #[.slice vNP W.length vNC, .slice PI W.length cI] 95)).alloc (.cells #[.slice vNP W.length vNC, .slice PI W.length cI] 95)).drew → Rf F W3 f { s with ways := [W], left := 0, dead := false } ∧ Keep f w W3 ∧ W3.heap[w1.heap.size]? = some (.cells #[.slice vNP W.length vNC, .slice PI W.length cI] 95 (0, 0))) := by
    intro W3 hW3
    have hEq : W3 = (((w1.alloc (.cells #[.slice vNP W.length vNC, .slice PI W.length cI] 95)).alloc (.cells #[.slice vNP W.length vNC, .slice PI W.length cI] 95)).drew).setCell ⟨f, 2, none⟩ (.slice (some ⟨w1.heap.size + 1, 0, none⟩) 1 1) := by
      rw [hW3, ← World.setCell_alloc_past (w := w1) (.cells #[.slice vNP W.length vNC, .slice PI W.length cI] 95) f 2 (.slice (some ⟨w1.heap.size + 1, 0, none⟩) 1 1) (by omega), ← World.setCell_alloc_past (w := w1.alloc (.cells #[.slice vNP W.length vNC, .slice PI W.length cI] 95)) (.cells #[.slice vNP W.length vNC, .slice PI W.length cI] 95) f 2 (.slice (some ⟨w1.heap.size + 1, 0, none⟩) 1 1) (by simp; omega)]
      rfl
    rw [hEq]
    have kA : Keep f w (((w1.alloc (.cells #[.slice vNP W.length vNC, .slice PI W.length cI] 95)).alloc (.cells #[.slice vNP W.length vNC, .slice PI W.length cI] 95)).drew) := (k1.trans ((Keep.alloc _).trans (Keep.alloc _))).trans (Keep.grown (w' := ((w1.alloc (.cells #[.slice vNP W.length vNC, .slice PI W.length cI] 95)).alloc (.cells #[.slice vNP W.length vNC, .slice PI W.length cI] 95)).drew) ⟨rfl, rfl, rfl, Nat.le_refl _, fun _ _ _ => rfl⟩)
    have hb0 : (((w1.alloc (.cells #[.slice vNP W.length vNC, .slice PI W.length cI] 95)).alloc (.cells #[.slice vNP W.length vNC, .slice PI W.length cI] 95)).drew).heap[w1.heap.size]? = some (.cells #[.slice vNP W.length vNC, .slice PI W.length cI] 95 (0, 0)) := hAlloc (heap_alloc_new w1 _) _
    have hb1 : (((w1.alloc (.cells #[.slice vNP W.length vNC, .slice PI W.length cI] 95)).alloc (.cells #[.slice vNP W.length vNC, .slice PI W.length cI] 95)).drew).heap[w1.heap.size + 1]? = some (.cells #[.slice vNP W.length vNC, .slice PI W.length cI] 95 (0, 0)) := by
      have := heap_alloc_new (w1.alloc (.cells #[.slice vNP W.length vNC, .slice PI W.length cI] 95)) (.cells #[.slice vNP W.length vNC, .slice PI W.length cI] 95)
      rw [show (w1.alloc (.cells #[.slice vNP W.length vNC, .slice PI W.length cI] 95)).heap.size = w1.heap.size + 1 by simp] at this
      exact this
    have hB : RB (((w1.alloc (.cells #[.slice vNP W.length vNC, .slice PI W.length cI] 95)).alloc (.cells #[.slice vNP W.length vNC, .slice PI W.length cI] 95)).drew) f s.q 0 vF (.slice (some ⟨g, o, none⟩) NW c) false := hAlloc (hAlloc HB1.out _) _
    have fin := cr_mk (s := s) fbw.out hfw hFl'.out hway'.out kA hB hb1 (by omega)
    exact ⟨fin.1, fin.2, (heap_setCell_other _ ⟨f, 2, none⟩ _ _ (show w1.heap.size ≠ f by omega)).trans hb0⟩
  have hBx : RB (((w1.alloc (.cells #[.slice vNP W.length vNC, .slice PI W.length cI] 95)).alloc (.cells #[.slice vNP W.length vNC, .slice PI W.length cI] 95)).drew) f s.q 0 vF (.slice (some ⟨g, o, none⟩) NW c) false := hAlloc (hAlloc hB1 _) _
  obtain ⟨_, _, r3, _, _, rf⟩ := RB.c hBx
  have rf2 := rf 2
  have rlt : f < w1.heap.size := by omega
  clear hS gA hB1 k1 hBx rf
  go_wp2_with fail
  refine wp_region_noPanic ?_
  refine wp_region_held_drew (S := fun w' => w'.cell? ⟨f, 2, none⟩ = some (.slice (some ⟨g, o, none⟩) NW c) ∧ w'.cell? ⟨g, o + KW * 2, none⟩ = some (.slice vNP W.length vNC) ∧ w'.cell? ⟨g, o + KW * 2 + 1, none⟩ = some (.slice PI W.length cI)) (by kernel_rfl) (⟨q3, q1, q2⟩) (fun hH => ?_)
  refine tKx (i := 0) (v := .pointer (some ⟨f, 0, none⟩)) rfl rfl (by kernel_rfl) (fun _ _ _ h => h) ?_ hH ?_
  · intro w5 hSw; obtain ⟨hv1, hv2, hv3⟩ := hSw; go_simp
  simp only [zA9, zB9, zC9]
  refine tKx (i := 1) (v := .pointer (some ⟨f, 0, none⟩)) rfl rfl (by kernel_rfl) (fun _ _ _ h => h) ?_ hH ?_
  · intro w5 hSw; obtain ⟨hv1, hv2, hv3⟩ := hSw; go_simp
  simp only [zA9, zB9, zC9]
  refine tKx (i := 2) (v := .pointer (some ⟨f, 2, none⟩)) rfl rfl (by kernel_rfl) (fun _ _ _ h => h) ?_ hH ?_
  · intro w5 hSw; obtain ⟨hv1, hv2, hv3⟩ := hSw; go_simp
  simp only [zA9, zB9, zC9]
  refine tKx (i := 3) (v := .slice (some ⟨g, o, none⟩) NW c) rfl rfl (by kernel_rfl) (fun _ _ _ h => h) ?_ hH ?_
  · intro w5 hSw; obtain ⟨hv1, hv2, hv3⟩ := hSw; go_simp
  simp only [zA9, zB9, zC9]
  refine tKx (i := 4) (v := .int .i64 names) rfl rfl (by kernel_rfl) (fun _ _ _ h => h) ?_ hH ?_
  · intro w5 hSw; obtain ⟨hv1, hv2, hv3⟩ := hSw; go_simp
  simp only [zA9, zB9, zC9]
  refine tKx (i := 5) (v := .pointer (some ⟨f, 0, none⟩)) rfl rfl (by kernel_rfl) (fun _ _ _ h => h) ?_ hH ?_
  · intro w5 hSw; obtain ⟨hv1, hv2, hv3⟩ := hSw; go_simp
  simp only [zA9, zB9, zC9]
  refine tKx (i := 6) (v := .pointer (some ⟨f, 0, none⟩)) rfl rfl (by kernel_rfl) (fun _ _ _ h => h) ?_ hH ?_
  · intro w5 hSw; obtain ⟨hv1, hv2, hv3⟩ := hSw; go_simp
  simp only [zA9, zB9, zC9]
  refine tKx (i := 7) (v := .pointer (some ⟨f, 2, none⟩)) rfl rfl (by kernel_rfl) (fun _ _ _ h => h) ?_ hH ?_
  · intro w5 hSw; obtain ⟨hv1, hv2, hv3⟩ := hSw; go_simp
  simp only [zA9, zB9, zC9]
  refine tKx (i := 8) (v := .slice (some ⟨g, o, none⟩) NW c) rfl rfl (by kernel_rfl) (fun _ _ _ h => h) ?_ hH ?_
  · intro w5 hSw; obtain ⟨hv1, hv2, hv3⟩ := hSw; go_simp
  simp only [zA9, zB9, zC9]
  refine tKx (i := 9) (v := .int .i64 (NW : Int)) rfl rfl (by kernel_rfl) (fun _ _ _ h => h) ?_ hH ?_
  · intro w5 hSw; obtain ⟨hv1, hv2, hv3⟩ := hSw; go_simp
  simp only [zA9, zB9, zC9]
  refine wpAnyH_ready (rs := [10, 13]) (by kernel_rfl) (by simp) ?_
  refine AllReadyH.cons rfl (fun K hK => ?_) (AllReadyH.cons rfl (fun K hK => ?_) AllReadyH.nil)
  · go_simp
    go_at_call 59
    refine (LF.out _).mono ?_
    rintro e wx ⟨rfl, hwx⟩; have hwx2 := hwx.symm; subst hwx2; clear hwx
    go_wp2_with fail
    refine hK.out _ _ hH (fun hH => ?_)
    clear hK K
    refine tKx (i := 11) (v := .pointer (some ⟨g, o + KW * 2, none⟩)) rfl rfl (by kernel_rfl) (fun _ _ _ h => h) ?_ hH ?_
    · intro w5 hSw; obtain ⟨hv1, hv2, hv3⟩ := hSw; go_simp
    simp only [zA9, zB9, zC9]
    refine tKx (i := 12) (v := .agg #[.slice vNP W.length vNC, .slice PI W.length cI]) rfl rfl (by kernel_rfl) (fun _ _ _ h => h) ?_ hH ?_
    · intro w5 hSw; obtain ⟨hv1, hv2, hv3⟩ := hSw; go_simp
    simp only [zA9, zB9, zC9]
    refine wpAnyH_ready (rs := [13]) (by kernel_rfl) (by simp) ?_
    refine AllReadyH.cons rfl (fun K hK => ?_) AllReadyH.nil
    go_simp
    refine hK.out _ _ (HS.out _ _) (fun _ => ?_)
    clear hK K hH
    refine wpAnyH_ready (rs := [14]) (by kernel_rfl) (by simp) ?_
    refine AllReadyH.cons rfl (fun K hK => ?_) AllReadyH.nil
    go_simp
    refine hK.out _ _ (HS.out _ _) (fun _ => ?_)
    clear hK K
    refine wpAnyH_done (by kernel_rfl) ?_ _
    refine NoPanic.normal ?_
    clear HS q1 q2 q3 y1 y2 LF ST HB1 u1 u2
    go_wp2_with fail
    obtain ⟨w3, hw3⟩ : ∃ w3 : World, w3 = (((w1.setCell ⟨f, 2, none⟩ (.slice (some ⟨w1.heap.size + 1, 0, none⟩) 1 1)).alloc (.cells #[.slice vNP W.length vNC, .slice PI W.length cI] 95)).alloc (.cells #[.slice vNP W.length vNC, .slice PI W.length cI] 95)).drew := ⟨_, rfl⟩
    rw [← hw3]
    obtain ⟨R3, k3, hb3⟩ := NEXT.out w3 hw3
    have R3' := mkHid R3
    have K3 := mkHid k3
    have HB3 := mkHid hb3
    obtain ⟨B, hBe⟩ : ∃ B, B = w1.heap.size := ⟨_, rfl⟩
    have hBf : B ≠ f := by omega
    have hBw : w.heap.size ≤ B := by omega
    rw [← hBe] at HB3 ⊢
    clear NEXT R3 k3 hb3 hw3 hBe r3 rf2 rlt K1 s1
    go_loopw [7, 8, 9, 10, 11] (fun s7 s8 _ _ _ wr => ∃ (t i : Nat) (fs : List (List UInt8 × Nat)), s7 = .int .i64 (t : Int) ∧ s8 = .int .i64 (i : Int) ∧ i ≤ W.length ∧ t ≤ i ∧ Hid (crF keeps t (W.drop i) fs = crF keeps 0 W s.fs) ∧ Hid (fs.length = s.fs.length) ∧ Hid (∀ x ∈ fs, x.2 ≤ x.1.length ∧ x.1.length ≤ 100000000) ∧ Hid (Rf F wr f { s with fs := fs, ways := [W], left := 0, dead := false }) ∧ Hid (Keep f w wr) ∧ Hid (wr.heap[B]? = some (.cells #[.slice vNP W.length vNC, .slice PI W.length cI] 95 (0, 0)))) (fun _ s8 _ _ _ _ => W.length - (intOf s8).toNat)
    case atStart => exact ⟨0, 0, s.fs, rfl, rfl, Nat.zero_le _, Nat.le_refl _, rfl, rfl, HFS, R3', K3, HB3⟩
    case round =>
      obtain ⟨t, i, fs, rfl, rfl, hi, hti, HC, HL, HX, RR, KR, HB⟩ := hrel
      have bx1 : wr.cell? ⟨B, 1, none⟩ = some (.slice PI W.length cI) := (cell_of_block HB.out 1).trans rfl
      by_cases hlt : i < W.length
      · have hlti : (i : Int) < (W.length : Int) := by omega
        obtain ⟨⟨nm, j⟩, hWi⟩ : ∃ p, W[i]? = some p := ⟨W[i], List.getElem?_eq_getElem hlt⟩
        have hj : j < fs.length := by have h1 : fs.length = s.fs.length := HL.out; have h2 := HWN.out (nm, j) (List.mem_of_getElem? hWi); simp only at h2; omega
        obtain ⟨⟨x1, x2⟩, hx⟩ : ∃ x, fs[j]? = some x := ⟨fs[j], List.getElem?_eq_getElem hj⟩
        obtain ⟨hx2, hx1⟩ := HX.out _ (List.mem_of_getElem? hx)
        simp only at hx2 hx1
        obtain ⟨gI, oI, hPI, hgI, hcI⟩ : ∃ gI oI, PI = some ⟨gI, oI, none⟩ ∧ gI ≠ f ∧ wr.cell? ⟨gI, oI + i, none⟩ = some (.int .i64 (j : Int)) := by
          rcases HI.out with h | ⟨gI, oI, e, hg, hc⟩
          · rw [h] at hlt; simp at hlt
          · exact ⟨gI, oI, e, hg, cellC KR.out (hc i (nm, j) hWi) hg⟩
        subst hPI
        obtain ⟨gF, oF, cF, vW, pB, cB, hRBr, z1, z2, hrd⟩ := file_at RR.out hx
        obtain ⟨_, z0, _, _, _, _⟩ := RB.c hRBr
        obtain ⟨L, hL⟩ : ∃ L, L = x1.length := ⟨_, rfl⟩
        have hM : fs.length ≤ 9000000 := by have h1 : fs.length = s.fs.length := HL.out; have h2 : s.fs.length ≤ 9000000 := HM.out; omega
        obtain ⟨M, hMe⟩ : ∃ M, M = fs.length := ⟨_, rfl⟩
        simp only at z0 z1 z2 hrd
        rw [← hL] at z1 hrd hx1 hx2
        rw [← hMe] at z0 hj hM
        have HLL := mkHid hL
        have HRD := mkHid hrd
        have hji : (j : Int) < (M : Int) := by omega
        have hMi : (M : Int) ≤ 9000000 := by omega
        have HSTEP := mkHid (crF_step (keeps := keeps) (t := t) hWi hx)
        have hjj : Hid (j < fs.length) := by show _ < _; omega
        have hMM : Hid (fs.length ≤ 9000000) := by show _ ≤ _; omega
        have rsz := KR.out.size
        -- the file's variable
        have gB : ∀ u v : Value, wr.grownBy (wr.alloc (.cells #[u, v] 98)).drew none := fun u v => by
          have h := World.grownBy_alloc wr (.cells #[u, v] 98) none
          exact ⟨h.os, h.tape, h.output, h.size, h.block⟩
        have hS7 : ∀ u v : Value, (fun w' : World => w'.cell? ⟨f, 1, none⟩ = some (.slice (some ⟨gF, oF, none⟩) M cF) ∧ w'.cell? ⟨B, 1, none⟩ = some (.slice (some ⟨gI, oI, none⟩) W.length cI) ∧ w'.cell? ⟨gI, oI + i, none⟩ = some (.int .i64 (j : Int)) ∧ w'.cell? ⟨gF, oF + j * 2, none⟩ = some (.slice pB L cB) ∧ w'.cell? ⟨gF, oF + j * 2 + 1, none⟩ = some (.int .i64 (x2 : Int))) (wr.alloc (.cells #[u, v] 98)).drew := fun u v => ⟨(gB u v).cell z0 (by simp), (gB u v).cell bx1 (by simp), (gB u v).cell hcI (by simp), (gB u v).cell z1 (by simp), (gB u v).cell z2 (by simp)⟩
        have HS7 := mkHid hS7
        obtain ⟨X, hXe⟩ : ∃ X, X = wr.heap.size := ⟨_, rfl⟩
        have hXf : X ≠ f := by omega
        have hXB : X ≠ B := by have := lt_of_heap HB.out; omega
        have hXI : X ≠ gI := by have := World.block_lt_of_cell? wr _ hcI; simp only at this; omega
        have kA : Keep f w (wr.alloc (.cells #[.slice pB L cB, .int .i64 (x2 : Int)] 98)).drew := KR.out.trans (Keep.grown (gB _ _))
        have bA : (wr.alloc (.cells #[.slice pB L cB, .int .i64 (x2 : Int)] 98)).drew.heap[X]? = some (.cells #[.slice pB L cB, .int .i64 (x2 : Int)] 98 (0, 0)) := by rw [hXe]; exact heap_alloc_new _ _
        have RA : Rf F (wr.alloc (.cells #[.slice pB L cB, .int .i64 (x2 : Int)] 98)).drew f { s with fs := fs, ways := [W], left := 0, dead := false } := RR.out.grown (gB _ _)
        have cA : (wr.alloc (.cells #[.slice pB L cB, .int .i64 (x2 : Int)] 98)).drew.cell? ⟨B, 1, none⟩ = some (.slice (some ⟨gI, oI, none⟩) W.length cI) := (gB _ _).cell bx1 (by simp)
        have dA : (wr.alloc (.cells #[.slice pB L cB, .int .i64 (x2 : Int)] 98)).drew.cell? ⟨gI, oI + i, none⟩ = some (.int .i64 (j : Int)) := (gB _ _).cell hcI (by simp)
        have rA : rd1 F (wr.alloc (.cells #[.slice pB L cB, .int .i64 (x2 : Int)] 98)).drew f (.slice pB L cB) (by8 x1) := hrd.kept (Keep.grown (gB _ _))
        have eA : (wr.alloc (.cells #[.slice pB L cB, .int .i64 (x2 : Int)] 98)).drew.heap[B]? = _ := ((gB _ _).block B (lt_of_heap HB.out) (by simp)).trans HB.out
        have FINR : Hid (∀ W', Keep f wr W' → W'.heap[f]? = wr.heap[f]? → Rf F W' f { s with fs := fs, ways := [W], left := 0, dead := false }) := by
          obtain ⟨vF', vW', hRB', hF', hW'⟩ := RR.out.fs
          exact fun W' k e => Rf.of (s := { s with fs := fs, ways := [W], left := 0, dead := false }) RR.out.fb hF' hW' RR.out.ne k (e.trans hRB') rfl rfl
        have KRA : Hid (Keep f wr (wr.alloc (.cells #[.slice pB L cB, .int .i64 (x2 : Int)] 98)).drew ∧ (wr.alloc (.cells #[.slice pB L cB, .int .i64 (x2 : Int)] 98)).drew.heap[f]? = wr.heap[f]?) := ⟨Keep.grown (gB _ _), (gB _ _).block f (lt_of_heap hRBr) (by simp)⟩
        have hXr : wr.heap.size ≤ X := by omega
        have KR' := mkHid KR.out
        have KA := mkHid kA
        have BA := mkHid bA
        have RA' := mkHid RA
        have CA := mkHid cA
        have DA := mkHid dA
        have RDA := mkHid rA
        have EA := mkHid eA
        obtain ⟨D, hD⟩ : ∃ D, D = L - x2 := ⟨_, rfl⟩
        have HD := mkHid hD
        have nw1 : IntKind.i64.wrap ((L : Int) - (x2 : Int)) = (D : Int) := wrI (by omega) (by omega)
        clear gB hS7 kA bA RA cA dA rA eA hrd hRBr KR RR HB hL hMe hx rsz hD
        go_wp2_with fail
        refine wp_region_noPanic ?_
        refine wp_region_held_drew (S := fun w' => w'.cell? ⟨f, 1, none⟩ = some (.slice (some ⟨gF, oF, none⟩) M cF) ∧ w'.cell? ⟨B, 1, none⟩ = some (.slice (some ⟨gI, oI, none⟩) W.length cI) ∧ w'.cell? ⟨gI, oI + i, none⟩ = some (.int .i64 (j : Int)) ∧ w'.cell? ⟨gF, oF + j * 2, none⟩ = some (.slice pB L cB) ∧ w'.cell? ⟨gF, oF + j * 2 + 1, none⟩ = some (.int .i64 (x2 : Int))) (by kernel_rfl) (⟨z0, bx1, hcI, z1, z2⟩) (fun hH => ?_)
        refine tKx (i := 0) (v := .pointer (some ⟨f, 0, none⟩)) rfl rfl (by kernel_rfl) (fun _ _ _ h => h) ?_ hH ?_
        · intro w5 hSw; obtain ⟨hv1, hv2, hv3, hv4, hv5⟩ := hSw; go_simp
        simp only [zA9, zB9, zC9]
        refine tKx (i := 1) (v := .pointer (some ⟨f, 0, none⟩)) rfl rfl (by kernel_rfl) (fun _ _ _ h => h) ?_ hH ?_
        · intro w5 hSw; obtain ⟨hv1, hv2, hv3, hv4, hv5⟩ := hSw; go_simp
        simp only [zA9, zB9, zC9]
        refine tKx (i := 2) (v := .pointer (some ⟨f, 1, none⟩)) rfl rfl (by kernel_rfl) (fun _ _ _ h => h) ?_ hH ?_
        · intro w5 hSw; obtain ⟨hv1, hv2, hv3, hv4, hv5⟩ := hSw; go_simp
        simp only [zA9, zB9, zC9]
        refine tKx (i := 3) (v := .slice (some ⟨gF, oF, none⟩) M cF) rfl rfl (by kernel_rfl) (fun _ _ _ h => h) ?_ hH ?_
        · intro w5 hSw; obtain ⟨hv1, hv2, hv3, hv4, hv5⟩ := hSw; go_simp
        simp only [zA9, zB9, zC9]
        refine tKx (i := 4) (v := .pointer (some ⟨B, 1, none⟩)) rfl rfl (by kernel_rfl) (fun _ _ _ h => h) ?_ hH ?_
        · intro w5 hSw; obtain ⟨hv1, hv2, hv3, hv4, hv5⟩ := hSw; go_simp
        simp only [zA9, zB9, zC9]
        refine tKx (i := 5) (v := .slice (some ⟨gI, oI, none⟩) W.length cI) rfl rfl (by kernel_rfl) (fun _ _ _ h => h) ?_ hH ?_
        · intro w5 hSw; obtain ⟨hv1, hv2, hv3, hv4, hv5⟩ := hSw; go_simp
        simp only [zA9, zB9, zC9]
        refine tKx (i := 6) (v := .int .i64 (i : Int)) rfl rfl (by kernel_rfl) (fun _ _ _ h => h) ?_ hH ?_
        · intro w5 hSw; obtain ⟨hv1, hv2, hv3, hv4, hv5⟩ := hSw; go_simp
        simp only [zA9, zB9, zC9]
        refine tKx (i := 7) (v := .pointer (some ⟨gI, oI + i, none⟩)) rfl rfl (by kernel_rfl) (fun _ _ _ h => h) ?_ hH ?_
        · intro w5 hSw; obtain ⟨hv1, hv2, hv3, hv4, hv5⟩ := hSw; go_simp
        simp only [zA9, zB9, zC9]
        refine tKx (i := 8) (v := .int .i64 (j : Int)) rfl rfl (by kernel_rfl) (fun _ _ _ h => h) ?_ hH ?_
        · intro w5 hSw; obtain ⟨hv1, hv2, hv3, hv4, hv5⟩ := hSw; go_simp
        simp only [zA9, zB9, zC9]
        refine tKx (i := 9) (v := .pointer (some ⟨gF, oF + j * 2, none⟩)) rfl rfl (by kernel_rfl) (fun _ _ _ h => h) ?_ hH ?_
        · intro w5 hSw; obtain ⟨hv1, hv2, hv3, hv4, hv5⟩ := hSw; go_simp
        simp only [zA9, zB9, zC9]
        refine tKx (i := 10) (v := .agg #[.slice pB L cB, .int .i64 (x2 : Int)]) rfl rfl (by kernel_rfl) (fun _ _ _ h => h) ?_ hH ?_
        · intro w5 hSw; obtain ⟨hv1, hv2, hv3, hv4, hv5⟩ := hSw; go_simp
        simp only [zA9, zB9, zC9]
        refine wpAnyH_ready (rs := [11]) (by kernel_rfl) (by simp) ?_
        refine AllReadyH.cons rfl (fun K hK => ?_) AllReadyH.nil
        go_simp
        refine hK.out _ _ (HS7.out _ _) (fun _ => ?_)
        clear hK K hH
        refine wpAnyH_ready (rs := [12]) (by kernel_rfl) (by simp) ?_
        refine AllReadyH.cons rfl (fun K hK => ?_) AllReadyH.nil
        go_simp
        refine hK.out _ _ (HS7.out _ _) (fun _ => ?_)
        clear hK K
        refine wpAnyH_done (by kernel_rfl) ?_ _
        refine NoPanic.normal ?_
        clear HS7 z0 z1 z2 bx1 hcI
        rw [← hXe]
        obtain ⟨wa, hwa⟩ : ∃ wa, wa = (wr.alloc (.cells #[.slice pB L cB, .int .i64 (x2 : Int)] 98)).drew := ⟨_, rfl⟩
        rw [← hwa] at KA BA RA' CA DA RDA EA KRA ⊢
        clear hwa hXe RA' RDA KA
        have xa0 : wa.cell? ⟨X, 0, none⟩ = some (.slice pB L cB) := (cell_of_block BA.out 0).trans rfl
        have xa1 : wa.cell? ⟨X, 1, none⟩ = some (.int .i64 (x2 : Int)) := (cell_of_block BA.out 1).trans rfl
        have xaf : ∀ i, wa.frozen? ⟨X, i, none⟩ = false := fun i => unfrozen_of_block BA.out i
        have xaf0 := xaf 0
        have xaf1 := xaf 1
        have xal := lt_of_heap BA.out
        clear xaf
        by_cases hnz : x2 < L
        · have hLx : L = x1.length := HLL.out
          obtain ⟨KK, hKK⟩ : ∃ KK, KK = rk keeps t (x1, x2) := ⟨_, rfl⟩
          have hKL : KK ≤ L := by rw [hKK, hLx]; exact rk_le (by show x2 < x1.length; omega)
          have hDD : D = L - x2 := HD.out
          have nzi : (0 : Int) < (D : Int) := by omega
          have RDX : Hid (∀ W', Keep f wr W' → rd1 F W' f (.slice pB KK cB) (by8 (x1.take KK))) := fun W' k => rd1_take (HRD.out.kept k) hKL hLx
          have HRX : Hid (crF keeps t (W.drop i) fs = crF keeps (t + 1) (W.drop (i + 1)) (fs.set j (x1.take KK, KK))) := by
            have h1 := HSTEP.out
            have h3 : rx keeps t (x1, x2) = ((x1.take KK, KK), t + 1) := by unfold rx; rw [if_pos (by show x2 < x1.length; omega), hKK]
            rw [h3] at h1
            exact h1
          have HZZ : Hid ((x1.take KK, KK).2 ≤ (x1.take KK, KK).1.length ∧ (x1.take KK, KK).1.length ≤ 100000000) := by show KK ≤ (x1.take KK).length ∧ (x1.take KK).length ≤ _; rw [List.length_take]; omega
          obtain ⟨kv, hkv⟩ : ∃ kv, kv = (if keeps = [] then 0 else keeps.getD (t % keeps.length) 0) := ⟨_, rfl⟩
          have hKK2 : KK = x2 + lft kv (D + 1) := by rw [hKK, hkv, hDD, hLx]; rfl
          obtain ⟨lf, hlf⟩ : ∃ lf, lf = lft kv (D + 1) := ⟨_, rfl⟩
          rw [← hlf] at hKK2
          have hkvr : -9223372036854775808 ≤ kv ∧ kv ≤ 9223372036854775807 := by
            rw [hkv]
            split
            · omega
            · rename_i hne
              have hp : 0 < keeps.length := List.length_pos_iff.2 hne
              have hlt := Nat.mod_lt t hp
              rw [List.getD_eq_getElem?_getD, List.getElem?_eq_getElem hlt]
              exact HKR.out _ (List.getElem_mem hlt)
          have LFT : Hid (∀ w, Calls Try.prog 59 #[.int .i64 kv, .int .i64 ((D + 1 : Nat) : Int)] w fun e w' => e = .returned (.int .i64 (lf : Int)) ∧ w' = w) := fun w => hlf ▸ left_any kv (D + 1) w (by omega) (by omega) hkvr
          have a1 : IntKind.i64.wrap ((D : Int) + 1) = ((D + 1 : Nat) : Int) := wrI (by omega) (by omega)
          have a3 : IntKind.i64.wrap ((x2 : Int) + (lf : Int)) = (KK : Int) := wrI (by omega) (by omega)
          have a5 : IntKind.i64.wrap (KK : Int) = (KK : Int) := wrI rfl (Nat.le_trans hKL (Nat.le_trans hx1 (by decide)))
          have hLc : L ≤ cB := (rd_in HRD.out HLL.out (Keep.refl f wr) 0).2.2.1
          have hKc : ¬ cB < KK := Nat.not_lt.2 (Nat.le_trans hKL hLc)
          have hz0 := sl_none cB pB
          have KWA : Hid (Keep f w wa) := KR'.out.trans KRA.out.1
          -- behind the store
          have hzz : (wa.setCell ⟨X, 0, none⟩ (.slice pB KK cB)).drew.heap[X]? = some (.cells #[.slice pB KK cB, .int .i64 (x2 : Int)] 98 (0, 0)) := (heap_setCell_same wa _ 0 _ _ _ BA.out).trans rfl
          have kzz := xset (j := 0) (u := .slice pB KK cB) KRA.out.1 KRA.out.2 hXr hXf
          have KZ : Hid (Keep f wr (wa.setCell ⟨X, 0, none⟩ (.slice pB KK cB)).drew ∧ (wa.setCell ⟨X, 0, none⟩ (.slice pB KK cB)).drew.heap[f]? = wr.heap[f]?) := ⟨kzz.1.trans (Keep.grown ⟨rfl, rfl, rfl, Nat.le_refl _, fun _ _ _ => rfl⟩), kzz.2⟩
          have BZ := mkHid hzz
          have EZ : Hid ((wa.setCell ⟨X, 0, none⟩ (.slice pB KK cB)).drew.heap[B]? = _) := (heap_setCell_other wa ⟨X, 0, none⟩ B _ (fun e => hXB e.symm)).trans EA.out
          have DZ : Hid ((wa.setCell ⟨X, 0, none⟩ (.slice pB KK cB)).drew.cell? ⟨gI, oI + i, none⟩ = some (.int .i64 (j : Int))) := (World.cell?_of_block (w := wa) (heap_setCell_other wa ⟨X, 0, none⟩ gI _ (fun e => hXI e.symm))).trans DA.out
          have zx1 : (wa.setCell ⟨X, 0, none⟩ (.slice pB KK cB)).drew.cell? ⟨X, 1, none⟩ = some (.int .i64 (x2 : Int)) := (cell_of_block hzz 1).trans rfl
          clear hzz kzz hKK hlf hLx hKK2 hkvr hLc hDD hKL hnz
          by_cases hke : keeps = []
          · have kv0 : kv = 0 := by rw [hkv, if_pos hke]
            subst kv0
            have kl0 : ¬ (0 : Int) < (KL : Int) := by have : KL = keeps.length := HKL.out; rw [this, hke]; simp
            clear hkv hke
            go_wp2_with fail
            refine wp_region_noPanic ?_
            refine wp_region_G (S := SG 11 11 (fun w' => w'.cell? ⟨X, 0, none⟩ = some (.slice pB L cB)) (fun _ => True) (fun w' => w'.cell? ⟨X, 1, none⟩ = some (.int .i64 (x2 : Int)))) (by kernel_rfl) (⟨fun _ => xa0, fun _ => trivial, xa1⟩) (fun hH => ?_)
            simp only [Array.replicate, List.size_toArray, List.length_cons, List.length_nil, List.replicate, Nat.zero_add, Nat.reduceAdd] at hH ⊢
            refine takeG (i := 0) (v := .pointer (some ⟨X, 0, none⟩)) [] rfl rfl (by kernel_rfl) (by kernel_rfl) (by kernel_rfl) (by kernel_rfl) (by kernel_rfl) (SG_set (by decide) (by decide)) (fun _ _ _ h => h) (Or.inl ⟨by rfl, ?_⟩) hH (fun hH => ?_)
            · intro w5 hSw; go_simp
            simp only [zA9, zB9, zC9] at hH ⊢
            refine takeG (i := 1) (v := .slice pB L cB) [11] rfl rfl (by kernel_rfl) (by kernel_rfl) (by kernel_rfl) (by kernel_rfl) (by kernel_rfl) (SG_set (by decide) (by decide)) (fun _ _ _ h => h) (Or.inl ⟨by rfl, ?_⟩) hH (fun hH => ?_)
            · intro w5 hSw; obtain ⟨L5, hU5, hA5, _⟩ := hSw; have a5 := hA5 (hU5 _ (by simp)); go_simp
            simp only [zA9, zB9, zC9] at hH ⊢
            refine takeG (i := 2) (v := .pointer (some ⟨X, 1, none⟩)) [] rfl rfl (by kernel_rfl) (by kernel_rfl) (by kernel_rfl) (by kernel_rfl) (by kernel_rfl) (SG_set (by decide) (by decide)) (fun _ _ _ h => h) (Or.inl ⟨by rfl, ?_⟩) hH (fun hH => ?_)
            · intro w5 hSw; go_simp
            simp only [zA9, zB9, zC9] at hH ⊢
            refine takeG (i := 3) (v := .int .i64 (x2 : Int)) [] rfl rfl (by kernel_rfl) (by kernel_rfl) (by kernel_rfl) (by kernel_rfl) (by kernel_rfl) (SG_set (by decide) (by decide)) (fun _ _ _ h => h) (Or.inl ⟨by rfl, ?_⟩) hH (fun hH => ?_)
            · intro w5 hSw; obtain ⟨L5, hU5, hA5, _, e1⟩ := hSw; go_simp
            simp only [zA9, zB9, zC9] at hH ⊢
            refine takeG (i := 4) (v := .int .i64 0) [] rfl rfl (by kernel_rfl) (by kernel_rfl) (by kernel_rfl) (by kernel_rfl) (by kernel_rfl) (SG_set (by decide) (by decide)) (fun _ _ _ h => h) (Or.inl ⟨by rfl, ?_⟩) hH (fun hH => ?_)
            · intro w5 hSw; go_simp
            simp only [zA9, zB9, zC9] at hH ⊢
            refine takeG (i := 5) (v := .int .i64 (D : Int)) [] rfl rfl (by kernel_rfl) (by kernel_rfl) (by kernel_rfl) (by kernel_rfl) (by kernel_rfl) (SG_set (by decide) (by decide)) (fun _ _ _ h => h) (Or.inl ⟨by rfl, ?_⟩) hH (fun hH => ?_)
            · intro w5 hSw; go_simp
            simp only [zA9, zB9, zC9] at hH ⊢
            refine takeG (i := 6) (v := .int .i64 ((D + 1 : Nat) : Int)) [] rfl rfl (by kernel_rfl) (by kernel_rfl) (by kernel_rfl) (by kernel_rfl) (by kernel_rfl) (SG_set (by decide) (by decide)) (fun _ _ _ h => h) (Or.inl ⟨by rfl, ?_⟩) hH (fun hH => ?_)
            · intro w5 hSw; go_simp
            simp only [zA9, zB9, zC9] at hH ⊢
            refine wpAnyG_ready (rs := [7]) (by kernel_rfl) (by simp) ?_
            refine AllReadyG.cons rfl (fun K hK => ?_) AllReadyG.nil
            go_simp
            go_at_call 59
            refine (LFT.out _).mono ?_
            rintro e wx ⟨rfl, hwx⟩; have hwx2 := hwx.symm; subst hwx2; clear hwx
            go_wp2_with fail
            refine hK.out _ _ (hH) (fun hH => ?_)
            clear hK K
            simp only [zA9, zB9, zC9] at hH ⊢
            refine takeG (i := 8) (v := .int .i64 (KK : Int)) [] rfl rfl (by kernel_rfl) (by kernel_rfl) (by kernel_rfl) (by kernel_rfl) (by kernel_rfl) (SG_set (by decide) (by decide)) (fun _ _ _ h => h) (Or.inl ⟨by rfl, ?_⟩) hH (fun hH => ?_)
            · intro w5 hSw; go_simp
            simp only [zA9, zB9, zC9] at hH ⊢
            refine takeG (i := 9) (v := .slice pB KK cB) [] rfl rfl (by kernel_rfl) (by kernel_rfl) (by kernel_rfl) (by kernel_rfl) (by kernel_rfl) (SG_set (by decide) (by decide)) (fun _ _ _ h => h) (Or.inl ⟨by rfl, ?_⟩) hH (fun hH => ?_)
            · intro w5 hSw; go_simp
            simp only [zA9, zB9, zC9] at hH ⊢
            refine takeG (i := 10) (v := .pointer (some ⟨X, 0, none⟩)) [] rfl rfl (by kernel_rfl) (by kernel_rfl) (by kernel_rfl) (by kernel_rfl) (by kernel_rfl) (SG_set (by decide) (by decide)) (fun _ _ _ h => h) (Or.inl ⟨by rfl, ?_⟩) hH (fun hH => ?_)
            · intro w5 hSw; go_simp
            simp only [zA9, zB9, zC9] at hH ⊢
            refine wpAnyG_ready (rs := [11]) (by kernel_rfl) (by simp) ?_
            refine AllReadyG.cons rfl (fun K hK => ?_) AllReadyG.nil
            go_simp
            refine hK.out _ _ (⟨fun h => by simp at h, fun _ => trivial, zx1⟩) (fun hH => ?_)
            clear hK K
            simp only [zA9, zB9, zC9] at hH ⊢
            refine wpAnyG_done (by kernel_rfl) ?_ _
            refine NoPanic.normal ?_
            obtain ⟨wz, hwz⟩ : ∃ wz, wz = (wa.setCell ⟨X, 0, none⟩ (.slice pB KK cB)).drew := ⟨_, rfl⟩
            rw [← hwz] at KZ BZ EZ DZ ⊢
            clear hwz zx1 hH xa0 xa1 xaf0 xaf1
            have hz : wz.heap[X]? = some (.cells #[.slice pB KK cB, .int .i64 (x2 : Int)] 98 (0, 0)) := BZ.out
            have hb : (wz.setCell ⟨X, 1, none⟩ (.int .i64 (KK : Int))).heap[X]? = some (.cells #[.slice pB KK cB, .int .i64 (KK : Int)] 98 (0, 0)) := (heap_setCell_same wz _ 1 _ _ _ hz).trans rfl
            obtain ⟨kb, fb⟩ := xset (j := 1) (u := .int .i64 (KK : Int)) KZ.out.1 KZ.out.2 hXr hXf
            have y0 : wz.cell? ⟨X, 0, none⟩ = some (.slice pB KK cB) := (cell_of_block hz 0).trans rfl
            have y1 : wz.cell? ⟨X, 1, none⟩ = some (.int .i64 (x2 : Int)) := (cell_of_block hz 1).trans rfl
            have y1f := unfrozen_of_block hz 1
            have yl := lt_of_heap hz
            have v0 : (wz.setCell ⟨X, 1, none⟩ (.int .i64 (KK : Int))).cell? ⟨X, 0, none⟩ = some (.slice pB KK cB) := (cell_of_block hb 0).trans rfl
            have v1 : (wz.setCell ⟨X, 1, none⟩ (.int .i64 (KK : Int))).cell? ⟨X, 1, none⟩ = some (.int .i64 (KK : Int)) := (cell_of_block hb 1).trans rfl
            have vB : (wz.setCell ⟨X, 1, none⟩ (.int .i64 (KK : Int))).heap[B]? = _ := (heap_setCell_other wz ⟨X, 1, none⟩ B _ (fun e => hXB e.symm)).trans EZ.out
            have vB1 : (wz.setCell ⟨X, 1, none⟩ (.int .i64 (KK : Int))).cell? ⟨B, 1, none⟩ = some (.slice (some ⟨gI, oI, none⟩) W.length cI) := (cell_of_block vB 1).trans rfl
            have vI : (wz.setCell ⟨X, 1, none⟩ (.int .i64 (KK : Int))).cell? ⟨gI, oI + i, none⟩ = some (.int .i64 (j : Int)) := (World.cell?_of_block (heap_setCell_other wz ⟨X, 1, none⟩ gI _ (fun e => hXI e.symm))).trans DZ.out
            have CALL : Hid (Calls Try.prog 60 #[.pointer (some ⟨f, 0, none⟩), .int .i64 (j : Int), .agg #[.slice pB KK cB, .int .i64 (KK : Int)]] (wz.setCell ⟨X, 1, none⟩ (.int .i64 (KK : Int))).drew fun e w' => e = .returned (.tuple #[]) ∧ Rf F w' f { s with fs := fs.set j ((x1.take KK), KK), ways := [W], left := 0, dead := false } ∧ Keep f (wz.setCell ⟨X, 1, none⟩ (.int .i64 (KK : Int))).drew w') := set_any f j { s with fs := fs, ways := [W], left := 0, dead := false } ((x1.take KK), KK) _ _ _ ((FINR.out _ kb fb).grown ⟨rfl, rfl, rfl, Nat.le_refl _, fun _ _ _ => rfl⟩) ⟨rfl, RDX.out _ (kb.trans (Keep.grown (w' := (wz.setCell ⟨X, 1, none⟩ (.int .i64 (KK : Int))).drew) ⟨rfl, rfl, rfl, Nat.le_refl _, fun _ _ _ => rfl⟩))⟩ hjj.out hMM.out
            have KB : Hid (Keep f w (wz.setCell ⟨X, 1, none⟩ (.int .i64 (KK : Int))).drew) := (KR'.out.trans kb).trans (Keep.grown ⟨rfl, rfl, rfl, Nat.le_refl _, fun _ _ _ => rfl⟩)
            have VB := mkHid vB
            clear hz hb kb fb vB
            go_wp2_with fail
            obtain ⟨wb, hwb⟩ : ∃ wb, wb = wz.setCell ⟨X, 1, none⟩ (.int .i64 (KK : Int)) := ⟨_, rfl⟩
            rw [← hwb] at CALL KB VB v0 v1 vB1 vI ⊢
            clear hwb
            refine wp_region_noPanic ?_
            refine wp_region_held_drew (S := fun w' => w'.cell? ⟨B, 1, none⟩ = some (.slice (some ⟨gI, oI, none⟩) W.length cI) ∧ w'.cell? ⟨gI, oI + i, none⟩ = some (.int .i64 (j : Int)) ∧ w'.cell? ⟨X, 0, none⟩ = some (.slice pB KK cB) ∧ w'.cell? ⟨X, 1, none⟩ = some (.int .i64 (KK : Int))) (by kernel_rfl) (⟨vB1, vI, v0, v1⟩) (fun hH => ?_)
            refine tKx (i := 0) (v := .pointer (some ⟨f, 0, none⟩)) rfl rfl (by kernel_rfl) (fun _ _ _ h => h) ?_ hH ?_
            · intro w5 hSw; obtain ⟨hv1, hv2, hv3, hv4⟩ := hSw; go_simp
            simp only [zA9, zB9, zC9]
            refine tKx (i := 1) (v := .pointer (some ⟨B, 1, none⟩)) rfl rfl (by kernel_rfl) (fun _ _ _ h => h) ?_ hH ?_
            · intro w5 hSw; obtain ⟨hv1, hv2, hv3, hv4⟩ := hSw; go_simp
            simp only [zA9, zB9, zC9]
            refine tKx (i := 2) (v := .slice (some ⟨gI, oI, none⟩) W.length cI) rfl rfl (by kernel_rfl) (fun _ _ _ h => h) ?_ hH ?_
            · intro w5 hSw; obtain ⟨hv1, hv2, hv3, hv4⟩ := hSw; go_simp
            simp only [zA9, zB9, zC9]
            refine tKx (i := 3) (v := .int .i64 (i : Int)) rfl rfl (by kernel_rfl) (fun _ _ _ h => h) ?_ hH ?_
            · intro w5 hSw; obtain ⟨hv1, hv2, hv3, hv4⟩ := hSw; go_simp
            simp only [zA9, zB9, zC9]
            refine tKx (i := 4) (v := .pointer (some ⟨gI, oI + i, none⟩)) rfl rfl (by kernel_rfl) (fun _ _ _ h => h) ?_ hH ?_
            · intro w5 hSw; obtain ⟨hv1, hv2, hv3, hv4⟩ := hSw; go_simp
            simp only [zA9, zB9, zC9]
            refine tKx (i := 5) (v := .int .i64 (j : Int)) rfl rfl (by kernel_rfl) (fun _ _ _ h => h) ?_ hH ?_
            · intro w5 hSw; obtain ⟨hv1, hv2, hv3, hv4⟩ := hSw; go_simp
            simp only [zA9, zB9, zC9]
            refine tKx (i := 6) (v := .agg #[.slice pB KK cB, .int .i64 (KK : Int)]) rfl rfl (by kernel_rfl) (fun _ _ _ h => h) ?_ hH ?_
            · intro w5 hSw; obtain ⟨hv1, hv2, hv3, hv4⟩ := hSw; go_simp
            simp only [zA9, zB9, zC9]
            refine wpAnyH_ready (rs := [7]) (by kernel_rfl) (by simp) ?_
            refine AllReadyH.cons rfl (fun K hK => ?_) AllReadyH.nil
            go_simp
            go_at_call 60
            refine CALL.out.mono ?_
            rintro e w6 ⟨rfl, R6, k6⟩
            have R6' := mkHid R6
            have B6 : Hid (w6.heap[B]? = some (.cells #[.slice vNP W.length vNC, .slice (some ⟨gI, oI, none⟩) W.length cI] 95 (0, 0))) := (k6.block B (lt_of_heap VB.out) hBf).trans VB.out
            have K6 : Hid (Keep f w w6) := KB.out.trans k6
            clear R6
            go_wp2_with fail
            refine hK.out _ _ ⟨cellC k6 vB1 hBf, cellC k6 vI hgI, cellC k6 v0 hXf, cellC k6 v1 hXf⟩ (fun _ => ?_)
            clear hK K hH k6
            refine wpAnyH_done (by kernel_rfl) ?_ _
            refine NoPanic.normal ?_
            go_wp2_with fail
            go_roundw
            case rel => exact ⟨(t + 1), i + 1, fs.set j ((x1.take KK), KK), by first | rfl | (congr 1; omega), by go_num, hlt, by omega, HRX.out.symm.trans HC.out, (by show _ = _; rw [List.length_set]; exact HL.out), all_set HX.out HZZ.out, R6', K6, B6⟩
            case measure => simp [intOf]; omega
          · have hp : 0 < keeps.length := List.length_pos_iff.2 hke
            have hKe : KL = keeps.length := HKL.out
            have kl0 : (0 : Int) < (KL : Int) := by omega
            obtain ⟨tk, htk⟩ : ∃ tk, tk = t % keeps.length := ⟨_, rfl⟩
            have htl : tk < keeps.length := by rw [htk]; exact Nat.mod_lt t hp
            have hkv2 : keeps[tk]? = some kv := by rw [hkv, if_neg hke, ← htk, List.getD_eq_getElem?_getD, List.getElem?_eq_getElem htl]; rfl
            obtain ⟨gk, offk, hPk, hck⟩ : ∃ gk offk, Pk = some ⟨gk, offk, none⟩ ∧ wa.cell? ⟨gk, offk + tk, none⟩ = some (.int .i64 kv) := by
              rcases HK.out.keep KWA.out HKF.out with h | ⟨gk, offk, e, hc⟩
              · exact absurd h hke
              · exact ⟨gk, offk, e, hc tk kv hkv2⟩
            subst hPk
            have e3 : (t : Int).tmod (KL : Int) = (tk : Int) := by rw [hKe, htk, Int.tmod_eq_emod_of_nonneg (by omega), Int.natCast_emod]
            have e4 : (t : Int) % (KL : Int) = (tk : Int) := by rw [hKe, htk, Int.natCast_emod]
            have e5 : ((KL : Int) == 0) = false := by rw [beq_eq_false_iff_ne]; omega
            have e6 : (tk : Int) < (KL : Int) := by omega
            have e7 : IntKind.i64.wrap (tk : Int) = (tk : Int) := wrI rfl (by omega)
            clear hkv htk hkv2 htl hke hp hKe
            go_wp2_with fail
            refine wp_region_noPanic ?_
            refine wp_region_G (S := SG 11 11 (fun w' => w'.cell? ⟨X, 0, none⟩ = some (.slice pB L cB)) (fun _ => True) (fun w' => w'.cell? ⟨X, 1, none⟩ = some (.int .i64 (x2 : Int)))) (by kernel_rfl) (⟨fun _ => xa0, fun _ => trivial, xa1⟩) (fun hH => ?_)
            simp only [Array.replicate, List.size_toArray, List.length_cons, List.length_nil, List.replicate, Nat.zero_add, Nat.reduceAdd] at hH ⊢
            refine takeG (i := 0) (v := .pointer (some ⟨X, 0, none⟩)) [] rfl rfl (by kernel_rfl) (by kernel_rfl) (by kernel_rfl) (by kernel_rfl) (by kernel_rfl) (SG_set (by decide) (by decide)) (fun _ _ _ h => h) (Or.inl ⟨by rfl, ?_⟩) hH (fun hH => ?_)
            · intro w5 hSw; go_simp
            simp only [zA9, zB9, zC9] at hH ⊢
            refine takeG (i := 1) (v := .slice pB L cB) [11] rfl rfl (by kernel_rfl) (by kernel_rfl) (by kernel_rfl) (by kernel_rfl) (by kernel_rfl) (SG_set (by decide) (by decide)) (fun _ _ _ h => h) (Or.inl ⟨by rfl, ?_⟩) hH (fun hH => ?_)
            · intro w5 hSw; obtain ⟨L5, hU5, hA5, _⟩ := hSw; have a5 := hA5 (hU5 _ (by simp)); go_simp
            simp only [zA9, zB9, zC9] at hH ⊢
            refine takeG (i := 2) (v := .pointer (some ⟨X, 1, none⟩)) [] rfl rfl (by kernel_rfl) (by kernel_rfl) (by kernel_rfl) (by kernel_rfl) (by kernel_rfl) (SG_set (by decide) (by decide)) (fun _ _ _ h => h) (Or.inl ⟨by rfl, ?_⟩) hH (fun hH => ?_)
            · intro w5 hSw; go_simp
            simp only [zA9, zB9, zC9] at hH ⊢
            refine takeG (i := 3) (v := .int .i64 (x2 : Int)) [] rfl rfl (by kernel_rfl) (by kernel_rfl) (by kernel_rfl) (by kernel_rfl) (by kernel_rfl) (SG_set (by decide) (by decide)) (fun _ _ _ h => h) (Or.inl ⟨by rfl, ?_⟩) hH (fun hH => ?_)
            · intro w5 hSw; obtain ⟨L5, hU5, hA5, _, e1⟩ := hSw; go_simp
            simp only [zA9, zB9, zC9] at hH ⊢
            refine takeG (i := 4) (v := .int .i64 kv) [] rfl rfl (by kernel_rfl) (by kernel_rfl) (by kernel_rfl) (by kernel_rfl) (by kernel_rfl) (SG_set (by decide) (by decide)) (fun _ _ _ h => h) (Or.inl ⟨by rfl, ?_⟩) hH (fun hH => ?_)
            · intro w5 hSw; go_simp
            simp only [zA9, zB9, zC9] at hH ⊢
            refine takeG (i := 5) (v := .int .i64 (D : Int)) [] rfl rfl (by kernel_rfl) (by kernel_rfl) (by kernel_rfl) (by kernel_rfl) (by kernel_rfl) (SG_set (by decide) (by decide)) (fun _ _ _ h => h) (Or.inl ⟨by rfl, ?_⟩) hH (fun hH => ?_)
            · intro w5 hSw; go_simp
            simp only [zA9, zB9, zC9] at hH ⊢
            refine takeG (i := 6) (v := .int .i64 ((D + 1 : Nat) : Int)) [] rfl rfl (by kernel_rfl) (by kernel_rfl) (by kernel_rfl) (by kernel_rfl) (by kernel_rfl) (SG_set (by decide) (by decide)) (fun _ _ _ h => h) (Or.inl ⟨by rfl, ?_⟩) hH (fun hH => ?_)
            · intro w5 hSw; go_simp
            simp only [zA9, zB9, zC9] at hH ⊢
            refine wpAnyG_ready (rs := [7]) (by kernel_rfl) (by simp) ?_
            refine AllReadyG.cons rfl (fun K hK => ?_) AllReadyG.nil
            go_simp
            go_at_call 59
            refine (LFT.out _).mono ?_
            rintro e wx ⟨rfl, hwx⟩; have hwx2 := hwx.symm; subst hwx2; clear hwx
            go_wp2_with fail
            refine hK.out _ _ (hH) (fun hH => ?_)
            clear hK K
            simp only [zA9, zB9, zC9] at hH ⊢
            refine takeG (i := 8) (v := .int .i64 (KK : Int)) [] rfl rfl (by kernel_rfl) (by kernel_rfl) (by kernel_rfl) (by kernel_rfl) (by kernel_rfl) (SG_set (by decide) (by decide)) (fun _ _ _ h => h) (Or.inl ⟨by rfl, ?_⟩) hH (fun hH => ?_)
            · intro w5 hSw; go_simp
            simp only [zA9, zB9, zC9] at hH ⊢
            refine takeG (i := 9) (v := .slice pB KK cB) [] rfl rfl (by kernel_rfl) (by kernel_rfl) (by kernel_rfl) (by kernel_rfl) (by kernel_rfl) (SG_set (by decide) (by decide)) (fun _ _ _ h => h) (Or.inl ⟨by rfl, ?_⟩) hH (fun hH => ?_)
            · intro w5 hSw; go_simp
            simp only [zA9, zB9, zC9] at hH ⊢
            refine takeG (i := 10) (v := .pointer (some ⟨X, 0, none⟩)) [] rfl rfl (by kernel_rfl) (by kernel_rfl) (by kernel_rfl) (by kernel_rfl) (by kernel_rfl) (SG_set (by decide) (by decide)) (fun _ _ _ h => h) (Or.inl ⟨by rfl, ?_⟩) hH (fun hH => ?_)
            · intro w5 hSw; go_simp
            simp only [zA9, zB9, zC9] at hH ⊢
            refine wpAnyG_ready (rs := [11]) (by kernel_rfl) (by simp) ?_
            refine AllReadyG.cons rfl (fun K hK => ?_) AllReadyG.nil
            go_simp
            refine hK.out _ _ (⟨fun h => by simp at h, fun _ => trivial, zx1⟩) (fun hH => ?_)
            clear hK K
            simp only [zA9, zB9, zC9] at hH ⊢
            refine wpAnyG_done (by kernel_rfl) ?_ _
            refine NoPanic.normal ?_
            obtain ⟨wz, hwz⟩ : ∃ wz, wz = (wa.setCell ⟨X, 0, none⟩ (.slice pB KK cB)).drew := ⟨_, rfl⟩
            rw [← hwz] at KZ BZ EZ DZ ⊢
            clear hwz zx1 hH xa0 xa1 xaf0 xaf1
            have hz : wz.heap[X]? = some (.cells #[.slice pB KK cB, .int .i64 (x2 : Int)] 98 (0, 0)) := BZ.out
            have hb : (wz.setCell ⟨X, 1, none⟩ (.int .i64 (KK : Int))).heap[X]? = some (.cells #[.slice pB KK cB, .int .i64 (KK : Int)] 98 (0, 0)) := (heap_setCell_same wz _ 1 _ _ _ hz).trans rfl
            obtain ⟨kb, fb⟩ := xset (j := 1) (u := .int .i64 (KK : Int)) KZ.out.1 KZ.out.2 hXr hXf
            have y0 : wz.cell? ⟨X, 0, none⟩ = some (.slice pB KK cB) := (cell_of_block hz 0).trans rfl
            have y1 : wz.cell? ⟨X, 1, none⟩ = some (.int .i64 (x2 : Int)) := (cell_of_block hz 1).trans rfl
            have y1f := unfrozen_of_block hz 1
            have yl := lt_of_heap hz
            have v0 : (wz.setCell ⟨X, 1, none⟩ (.int .i64 (KK : Int))).cell? ⟨X, 0, none⟩ = some (.slice pB KK cB) := (cell_of_block hb 0).trans rfl
            have v1 : (wz.setCell ⟨X, 1, none⟩ (.int .i64 (KK : Int))).cell? ⟨X, 1, none⟩ = some (.int .i64 (KK : Int)) := (cell_of_block hb 1).trans rfl
            have vB : (wz.setCell ⟨X, 1, none⟩ (.int .i64 (KK : Int))).heap[B]? = _ := (heap_setCell_other wz ⟨X, 1, none⟩ B _ (fun e => hXB e.symm)).trans EZ.out
            have vB1 : (wz.setCell ⟨X, 1, none⟩ (.int .i64 (KK : Int))).cell? ⟨B, 1, none⟩ = some (.slice (some ⟨gI, oI, none⟩) W.length cI) := (cell_of_block vB 1).trans rfl
            have vI : (wz.setCell ⟨X, 1, none⟩ (.int .i64 (KK : Int))).cell? ⟨gI, oI + i, none⟩ = some (.int .i64 (j : Int)) := (World.cell?_of_block (heap_setCell_other wz ⟨X, 1, none⟩ gI _ (fun e => hXI e.symm))).trans DZ.out
            have CALL : Hid (Calls Try.prog 60 #[.pointer (some ⟨f, 0, none⟩), .int .i64 (j : Int), .agg #[.slice pB KK cB, .int .i64 (KK : Int)]] (wz.setCell ⟨X, 1, none⟩ (.int .i64 (KK : Int))).drew fun e w' => e = .returned (.tuple #[]) ∧ Rf F w' f { s with fs := fs.set j ((x1.take KK), KK), ways := [W], left := 0, dead := false } ∧ Keep f (wz.setCell ⟨X, 1, none⟩ (.int .i64 (KK : Int))).drew w') := set_any f j { s with fs := fs, ways := [W], left := 0, dead := false } ((x1.take KK), KK) _ _ _ ((FINR.out _ kb fb).grown ⟨rfl, rfl, rfl, Nat.le_refl _, fun _ _ _ => rfl⟩) ⟨rfl, RDX.out _ (kb.trans (Keep.grown (w' := (wz.setCell ⟨X, 1, none⟩ (.int .i64 (KK : Int))).drew) ⟨rfl, rfl, rfl, Nat.le_refl _, fun _ _ _ => rfl⟩))⟩ hjj.out hMM.out
            have KB : Hid (Keep f w (wz.setCell ⟨X, 1, none⟩ (.int .i64 (KK : Int))).drew) := (KR'.out.trans kb).trans (Keep.grown ⟨rfl, rfl, rfl, Nat.le_refl _, fun _ _ _ => rfl⟩)
            have VB := mkHid vB
            clear hz hb kb fb vB
            go_wp2_with fail
            obtain ⟨wb, hwb⟩ : ∃ wb, wb = wz.setCell ⟨X, 1, none⟩ (.int .i64 (KK : Int)) := ⟨_, rfl⟩
            rw [← hwb] at CALL KB VB v0 v1 vB1 vI ⊢
            clear hwb
            refine wp_region_noPanic ?_
            refine wp_region_held_drew (S := fun w' => w'.cell? ⟨B, 1, none⟩ = some (.slice (some ⟨gI, oI, none⟩) W.length cI) ∧ w'.cell? ⟨gI, oI + i, none⟩ = some (.int .i64 (j : Int)) ∧ w'.cell? ⟨X, 0, none⟩ = some (.slice pB KK cB) ∧ w'.cell? ⟨X, 1, none⟩ = some (.int .i64 (KK : Int))) (by kernel_rfl) (⟨vB1, vI, v0, v1⟩) (fun hH => ?_)
            refine tKx (i := 0) (v := .pointer (some ⟨f, 0, none⟩)) rfl rfl (by kernel_rfl) (fun _ _ _ h => h) ?_ hH ?_
            · intro w5 hSw; obtain ⟨hv1, hv2, hv3, hv4⟩ := hSw; go_simp
            simp only [zA9, zB9, zC9]
            refine tKx (i := 1) (v := .pointer (some ⟨B, 1, none⟩)) rfl rfl (by kernel_rfl) (fun _ _ _ h => h) ?_ hH ?_
            · intro w5 hSw; obtain ⟨hv1, hv2, hv3, hv4⟩ := hSw; go_simp
            simp only [zA9, zB9, zC9]
            refine tKx (i := 2) (v := .slice (some ⟨gI, oI, none⟩) W.length cI) rfl rfl (by kernel_rfl) (fun _ _ _ h => h) ?_ hH ?_
            · intro w5 hSw; obtain ⟨hv1, hv2, hv3, hv4⟩ := hSw; go_simp
            simp only [zA9, zB9, zC9]
            refine tKx (i := 3) (v := .int .i64 (i : Int)) rfl rfl (by kernel_rfl) (fun _ _ _ h => h) ?_ hH ?_
            · intro w5 hSw; obtain ⟨hv1, hv2, hv3, hv4⟩ := hSw; go_simp
            simp only [zA9, zB9, zC9]
            refine tKx (i := 4) (v := .pointer (some ⟨gI, oI + i, none⟩)) rfl rfl (by kernel_rfl) (fun _ _ _ h => h) ?_ hH ?_
            · intro w5 hSw; obtain ⟨hv1, hv2, hv3, hv4⟩ := hSw; go_simp
            simp only [zA9, zB9, zC9]
            refine tKx (i := 5) (v := .int .i64 (j : Int)) rfl rfl (by kernel_rfl) (fun _ _ _ h => h) ?_ hH ?_
            · intro w5 hSw; obtain ⟨hv1, hv2, hv3, hv4⟩ := hSw; go_simp
            simp only [zA9, zB9, zC9]
            refine tKx (i := 6) (v := .agg #[.slice pB KK cB, .int .i64 (KK : Int)]) rfl rfl (by kernel_rfl) (fun _ _ _ h => h) ?_ hH ?_
            · intro w5 hSw; obtain ⟨hv1, hv2, hv3, hv4⟩ := hSw; go_simp
            simp only [zA9, zB9, zC9]
            refine wpAnyH_ready (rs := [7]) (by kernel_rfl) (by simp) ?_
            refine AllReadyH.cons rfl (fun K hK => ?_) AllReadyH.nil
            go_simp
            go_at_call 60
            refine CALL.out.mono ?_
            rintro e w6 ⟨rfl, R6, k6⟩
            have R6' := mkHid R6
            have B6 : Hid (w6.heap[B]? = some (.cells #[.slice vNP W.length vNC, .slice (some ⟨gI, oI, none⟩) W.length cI] 95 (0, 0))) := (k6.block B (lt_of_heap VB.out) hBf).trans VB.out
            have K6 : Hid (Keep f w w6) := KB.out.trans k6
            clear R6
            go_wp2_with fail
            refine hK.out _ _ ⟨cellC k6 vB1 hBf, cellC k6 vI hgI, cellC k6 v0 hXf, cellC k6 v1 hXf⟩ (fun _ => ?_)
            clear hK K hH k6
            refine wpAnyH_done (by kernel_rfl) ?_ _
            refine NoPanic.normal ?_
            go_wp2_with fail
            go_roundw
            case rel => exact ⟨(t + 1), i + 1, fs.set j ((x1.take KK), KK), by first | rfl | (congr 1; omega), by go_num, hlt, by omega, HRX.out.symm.trans HC.out, (by show _ = _; rw [List.length_set]; exact HL.out), all_set HX.out HZZ.out, R6', K6, B6⟩
            case measure => simp [intOf]; omega
        · have hnn : x2 = L := by omega
          have nzi : ¬ (0 : Int) < (D : Int) := by have : D = L - x2 := HD.out; omega
          have RDX : Hid (∀ W', Keep f wr W' → rd1 F W' f (.slice pB L cB) (by8 x1)) := fun W' k => HRD.out.kept k
          have HRX : Hid (crF keeps t (W.drop i) fs = crF keeps t (W.drop (i + 1)) (fs.set j (x1, L))) := by
            have h1 := HSTEP.out
            have h2 : L = x1.length := HLL.out
            have h3 : rx keeps t (x1, x2) = ((x1, L), t) := by unfold rx; rw [if_neg (by show ¬ x2 < x1.length; omega), h2]
            rw [h3] at h1
            exact h1
          have HZZ : Hid ((x1, L).2 ≤ (x1, L).1.length ∧ (x1, L).1.length ≤ 100000000) := by have h2 : L = x1.length := HLL.out; show L ≤ x1.length ∧ x1.length ≤ _; omega
          have KZ := KRA
          have BZ := BA
          have EZ := EA
          have DZ := DA
          clear hnz hnn
          have hz : wa.heap[X]? = some (.cells #[.slice pB L cB, .int .i64 (x2 : Int)] 98 (0, 0)) := BZ.out
          have hb : (wa.setCell ⟨X, 1, none⟩ (.int .i64 (L : Int))).heap[X]? = some (.cells #[.slice pB L cB, .int .i64 (L : Int)] 98 (0, 0)) := (heap_setCell_same wa _ 1 _ _ _ hz).trans rfl
          obtain ⟨kb, fb⟩ := xset (j := 1) (u := .int .i64 (L : Int)) KZ.out.1 KZ.out.2 hXr hXf
          have y0 : wa.cell? ⟨X, 0, none⟩ = some (.slice pB L cB) := (cell_of_block hz 0).trans rfl
          have y1 : wa.cell? ⟨X, 1, none⟩ = some (.int .i64 (x2 : Int)) := (cell_of_block hz 1).trans rfl
          have y1f := unfrozen_of_block hz 1
          have yl := lt_of_heap hz
          have v0 : (wa.setCell ⟨X, 1, none⟩ (.int .i64 (L : Int))).cell? ⟨X, 0, none⟩ = some (.slice pB L cB) := (cell_of_block hb 0).trans rfl
          have v1 : (wa.setCell ⟨X, 1, none⟩ (.int .i64 (L : Int))).cell? ⟨X, 1, none⟩ = some (.int .i64 (L : Int)) := (cell_of_block hb 1).trans rfl
          have vB : (wa.setCell ⟨X, 1, none⟩ (.int .i64 (L : Int))).heap[B]? = _ := (heap_setCell_other wa ⟨X, 1, none⟩ B _ (fun e => hXB e.symm)).trans EZ.out
          have vB1 : (wa.setCell ⟨X, 1, none⟩ (.int .i64 (L : Int))).cell? ⟨B, 1, none⟩ = some (.slice (some ⟨gI, oI, none⟩) W.length cI) := (cell_of_block vB 1).trans rfl
          have vI : (wa.setCell ⟨X, 1, none⟩ (.int .i64 (L : Int))).cell? ⟨gI, oI + i, none⟩ = some (.int .i64 (j : Int)) := (World.cell?_of_block (heap_setCell_other wa ⟨X, 1, none⟩ gI _ (fun e => hXI e.symm))).trans DZ.out
          have CALL : Hid (Calls Try.prog 60 #[.pointer (some ⟨f, 0, none⟩), .int .i64 (j : Int), .agg #[.slice pB L cB, .int .i64 (L : Int)]] (wa.setCell ⟨X, 1, none⟩ (.int .i64 (L : Int))).drew fun e w' => e = .returned (.tuple #[]) ∧ Rf F w' f { s with fs := fs.set j (x1, L), ways := [W], left := 0, dead := false } ∧ Keep f (wa.setCell ⟨X, 1, none⟩ (.int .i64 (L : Int))).drew w') := set_any f j { s with fs := fs, ways := [W], left := 0, dead := false } (x1, L) _ _ _ ((FINR.out _ kb fb).grown ⟨rfl, rfl, rfl, Nat.le_refl _, fun _ _ _ => rfl⟩) ⟨rfl, RDX.out _ (kb.trans (Keep.grown (w' := (wa.setCell ⟨X, 1, none⟩ (.int .i64 (L : Int))).drew) ⟨rfl, rfl, rfl, Nat.le_refl _, fun _ _ _ => rfl⟩))⟩ hjj.out hMM.out
          have KB : Hid (Keep f w (wa.setCell ⟨X, 1, none⟩ (.int .i64 (L : Int))).drew) := (KR'.out.trans kb).trans (Keep.grown ⟨rfl, rfl, rfl, Nat.le_refl _, fun _ _ _ => rfl⟩)
          have VB := mkHid vB
          clear hz hb kb fb vB
          go_wp2_with fail
          obtain ⟨wb, hwb⟩ : ∃ wb, wb = wa.setCell ⟨X, 1, none⟩ (.int .i64 (L : Int)) := ⟨_, rfl⟩
          rw [← hwb] at CALL KB VB v0 v1 vB1 vI ⊢
          clear hwb
          refine wp_region_noPanic ?_
          refine wp_region_held_drew (S := fun w' => w'.cell? ⟨B, 1, none⟩ = some (.slice (some ⟨gI, oI, none⟩) W.length cI) ∧ w'.cell? ⟨gI, oI + i, none⟩ = some (.int .i64 (j : Int)) ∧ w'.cell? ⟨X, 0, none⟩ = some (.slice pB L cB) ∧ w'.cell? ⟨X, 1, none⟩ = some (.int .i64 (L : Int))) (by kernel_rfl) (⟨vB1, vI, v0, v1⟩) (fun hH => ?_)
          refine tKx (i := 0) (v := .pointer (some ⟨f, 0, none⟩)) rfl rfl (by kernel_rfl) (fun _ _ _ h => h) ?_ hH ?_
          · intro w5 hSw; obtain ⟨hv1, hv2, hv3, hv4⟩ := hSw; go_simp
          simp only [zA9, zB9, zC9]
          refine tKx (i := 1) (v := .pointer (some ⟨B, 1, none⟩)) rfl rfl (by kernel_rfl) (fun _ _ _ h => h) ?_ hH ?_
          · intro w5 hSw; obtain ⟨hv1, hv2, hv3, hv4⟩ := hSw; go_simp
          simp only [zA9, zB9, zC9]
          refine tKx (i := 2) (v := .slice (some ⟨gI, oI, none⟩) W.length cI) rfl rfl (by kernel_rfl) (fun _ _ _ h => h) ?_ hH ?_
          · intro w5 hSw; obtain ⟨hv1, hv2, hv3, hv4⟩ := hSw; go_simp
          simp only [zA9, zB9, zC9]
          refine tKx (i := 3) (v := .int .i64 (i : Int)) rfl rfl (by kernel_rfl) (fun _ _ _ h => h) ?_ hH ?_
          · intro w5 hSw; obtain ⟨hv1, hv2, hv3, hv4⟩ := hSw; go_simp
          simp only [zA9, zB9, zC9]
          refine tKx (i := 4) (v := .pointer (some ⟨gI, oI + i, none⟩)) rfl rfl (by kernel_rfl) (fun _ _ _ h => h) ?_ hH ?_
          · intro w5 hSw; obtain ⟨hv1, hv2, hv3, hv4⟩ := hSw; go_simp
          simp only [zA9, zB9, zC9]
          refine tKx (i := 5) (v := .int .i64 (j : Int)) rfl rfl (by kernel_rfl) (fun _ _ _ h => h) ?_ hH ?_
          · intro w5 hSw; obtain ⟨hv1, hv2, hv3, hv4⟩ := hSw; go_simp
          simp only [zA9, zB9, zC9]
          refine tKx (i := 6) (v := .agg #[.slice pB L cB, .int .i64 (L : Int)]) rfl rfl (by kernel_rfl) (fun _ _ _ h => h) ?_ hH ?_
          · intro w5 hSw; obtain ⟨hv1, hv2, hv3, hv4⟩ := hSw; go_simp
          simp only [zA9, zB9, zC9]
          refine wpAnyH_ready (rs := [7]) (by kernel_rfl) (by simp) ?_
          refine AllReadyH.cons rfl (fun K hK => ?_) AllReadyH.nil
          go_simp
          go_at_call 60
          refine CALL.out.mono ?_
          rintro e w6 ⟨rfl, R6, k6⟩
          have R6' := mkHid R6
          have B6 : Hid (w6.heap[B]? = some (.cells #[.slice vNP W.length vNC, .slice (some ⟨gI, oI, none⟩) W.length cI] 95 (0, 0))) := (k6.block B (lt_of_heap VB.out) hBf).trans VB.out
          have K6 : Hid (Keep f w w6) := KB.out.trans k6
          clear R6
          go_wp2_with fail
          refine hK.out _ _ ⟨cellC k6 vB1 hBf, cellC k6 vI hgI, cellC k6 v0 hXf, cellC k6 v1 hXf⟩ (fun _ => ?_)
          clear hK K hH k6
          refine wpAnyH_done (by kernel_rfl) ?_ _
          refine NoPanic.normal ?_
          go_wp2_with fail
          go_roundw
          case rel => exact ⟨t, i + 1, fs.set j (x1, L), by first | rfl | (congr 1; omega), by go_num, hlt, by omega, HRX.out.symm.trans HC.out, (by show _ = _; rw [List.length_set]; exact HL.out), all_set HX.out HZZ.out, R6', K6, B6⟩
          case measure => simp [intOf]; omega
      · have hlti : ¬ (i : Int) < (W.length : Int) := by omega
        obtain rfl : i = W.length := by omega
        have hE : crF keeps t (W.drop W.length) fs = fs := by rw [List.drop_length]; rfl
        have hC := HC.out
        rw [hE] at hC
        have hR := RR.out
        rw [hC] at hR
        have HR2 := mkHid hR
        clear hE hC hR HC HX RR HB HL
        go_wp2_with fail
        go_end0
        exact ⟨rfl, HR2.out, KR.out⟩
  · go_simp
    refine hK.out _ _ (HS.out _ _) (fun hH => ?_)
    clear hK K
    refine wpAnyH_ready (rs := [10]) (by kernel_rfl) (by simp) ?_
    refine AllReadyH.cons rfl (fun K hK => ?_) AllReadyH.nil
    go_simp
    go_at_call 59
    refine (LF.out _).mono ?_
    rintro e wx ⟨rfl, hwx⟩; have hwx2 := hwx.symm; subst hwx2; clear hwx
    go_wp2_with fail
    refine hK.out _ _ hH (fun hH => ?_)
    clear hK K
    refine tKx (i := 11) (v := .pointer (some ⟨g, o + KW * 2, none⟩)) rfl rfl (by kernel_rfl) (fun _ _ _ h => h) ?_ hH ?_
    · intro w5 hSw; obtain ⟨hv1, hv2, hv3⟩ := hSw; go_simp
    simp only [zA9, zB9, zC9]
    refine tKx (i := 12) (v := .agg #[.slice vNP W.length vNC, .slice PI W.length cI]) rfl rfl (by kernel_rfl) (fun _ _ _ h => h) ?_ hH ?_
    · intro w5 hSw; obtain ⟨hv1, hv2, hv3⟩ := hSw; go_simp
    simp only [zA9, zB9, zC9]
    refine wpAnyH_ready (rs := [14]) (by kernel_rfl) (by simp) ?_
    refine AllReadyH.cons rfl (fun K hK => ?_) AllReadyH.nil
    go_simp
    refine hK.out _ _ (HS.out _ _) (fun _ => ?_)
    clear hK K hH
    refine wpAnyH_done (by kernel_rfl) ?_ _
    refine NoPanic.normal ?_
    clear HS q1 q2 q3 y1 y2 LF ST HB1 u1 u2
    go_wp2_with fail
    obtain ⟨w3, hw3⟩ : ∃ w3 : World, w3 = (((w1.setCell ⟨f, 2, none⟩ (.slice (some ⟨w1.heap.size + 1, 0, none⟩) 1 1)).alloc (.cells #[.slice vNP W.length vNC, .slice PI W.length cI] 95)).alloc (.cells #[.slice vNP W.length vNC, .slice PI W.length cI] 95)).drew := ⟨_, rfl⟩
    rw [← hw3]
    obtain ⟨R3, k3, hb3⟩ := NEXT.out w3 hw3
    have R3' := mkHid R3
    have K3 := mkHid k3
    have HB3 := mkHid hb3
    obtain ⟨B, hBe⟩ : ∃ B, B = w1.heap.size := ⟨_, rfl⟩
    have hBf : B ≠ f := by omega
    have hBw : w.heap.size ≤ B := by omega
    rw [← hBe] at HB3 ⊢
    clear NEXT R3 k3 hb3 hw3 hBe r3 rf2 rlt K1 s1
    go_loopw [7, 8, 9, 10, 11] (fun s7 s8 _ _ _ wr => ∃ (t i : Nat) (fs : List (List UInt8 × Nat)), s7 = .int .i64 (t : Int) ∧ s8 = .int .i64 (i : Int) ∧ i ≤ W.length ∧ t ≤ i ∧ Hid (crF keeps t (W.drop i) fs = crF keeps 0 W s.fs) ∧ Hid (fs.length = s.fs.length) ∧ Hid (∀ x ∈ fs, x.2 ≤ x.1.length ∧ x.1.length ≤ 100000000) ∧ Hid (Rf F wr f { s with fs := fs, ways := [W], left := 0, dead := false }) ∧ Hid (Keep f w wr) ∧ Hid (wr.heap[B]? = some (.cells #[.slice vNP W.length vNC, .slice PI W.length cI] 95 (0, 0)))) (fun _ s8 _ _ _ _ => W.length - (intOf s8).toNat)
    case atStart => exact ⟨0, 0, s.fs, rfl, rfl, Nat.zero_le _, Nat.le_refl _, rfl, rfl, HFS, R3', K3, HB3⟩
    case round =>
      obtain ⟨t, i, fs, rfl, rfl, hi, hti, HC, HL, HX, RR, KR, HB⟩ := hrel
      have bx1 : wr.cell? ⟨B, 1, none⟩ = some (.slice PI W.length cI) := (cell_of_block HB.out 1).trans rfl
      by_cases hlt : i < W.length
      · have hlti : (i : Int) < (W.length : Int) := by omega
        obtain ⟨⟨nm, j⟩, hWi⟩ : ∃ p, W[i]? = some p := ⟨W[i], List.getElem?_eq_getElem hlt⟩
        have hj : j < fs.length := by have h1 : fs.length = s.fs.length := HL.out; have h2 := HWN.out (nm, j) (List.mem_of_getElem? hWi); simp only at h2; omega
        obtain ⟨⟨x1, x2⟩, hx⟩ : ∃ x, fs[j]? = some x := ⟨fs[j], List.getElem?_eq_getElem hj⟩
        obtain ⟨hx2, hx1⟩ := HX.out _ (List.mem_of_getElem? hx)
        simp only at hx2 hx1
        obtain ⟨gI, oI, hPI, hgI, hcI⟩ : ∃ gI oI, PI = some ⟨gI, oI, none⟩ ∧ gI ≠ f ∧ wr.cell? ⟨gI, oI + i, none⟩ = some (.int .i64 (j : Int)) := by
          rcases HI.out with h | ⟨gI, oI, e, hg, hc⟩
          · rw [h] at hlt; simp at hlt
          · exact ⟨gI, oI, e, hg, cellC KR.out (hc i (nm, j) hWi) hg⟩
        subst hPI
        obtain ⟨gF, oF, cF, vW, pB, cB, hRBr, z1, z2, hrd⟩ := file_at RR.out hx
        obtain ⟨_, z0, _, _, _, _⟩ := RB.c hRBr
        obtain ⟨L, hL⟩ : ∃ L, L = x1.length := ⟨_, rfl⟩
        have hM : fs.length ≤ 9000000 := by have h1 : fs.length = s.fs.length := HL.out; have h2 : s.fs.length ≤ 9000000 := HM.out; omega
        obtain ⟨M, hMe⟩ : ∃ M, M = fs.length := ⟨_, rfl⟩
        simp only at z0 z1 z2 hrd
        rw [← hL] at z1 hrd hx1 hx2
        rw [← hMe] at z0 hj hM
        have HLL := mkHid hL
        have HRD := mkHid hrd
        have hji : (j : Int) < (M : Int) := by omega
        have hMi : (M : Int) ≤ 9000000 := by omega
        have HSTEP := mkHid (crF_step (keeps := keeps) (t := t) hWi hx)
        have hjj : Hid (j < fs.length) := by show _ < _; omega
        have hMM : Hid (fs.length ≤ 9000000) := by show _ ≤ _; omega
        have rsz := KR.out.size
        -- the file's variable
        have gB : ∀ u v : Value, wr.grownBy (wr.alloc (.cells #[u, v] 98)).drew none := fun u v => by
          have h := World.grownBy_alloc wr (.cells #[u, v] 98) none
          exact ⟨h.os, h.tape, h.output, h.size, h.block⟩
        have hS7 : ∀ u v : Value, (fun w' : World => w'.cell? ⟨f, 1, none⟩ = some (.slice (some ⟨gF, oF, none⟩) M cF) ∧ w'.cell? ⟨B, 1, none⟩ = some (.slice (some ⟨gI, oI, none⟩) W.length cI) ∧ w'.cell? ⟨gI, oI + i, none⟩ = some (.int .i64 (j : Int)) ∧ w'.cell? ⟨gF, oF + j * 2, none⟩ = some (.slice pB L cB) ∧ w'.cell? ⟨gF, oF + j * 2 + 1, none⟩ = some (.int .i64 (x2 : Int))) (wr.alloc (.cells #[u, v] 98)).drew := fun u v => ⟨(gB u v).cell z0 (by simp), (gB u v).cell bx1 (by simp), (gB u v).cell hcI (by simp), (gB u v).cell z1 (by simp), (gB u v).cell z2 (by simp)⟩
        have HS7 := mkHid hS7
        obtain ⟨X, hXe⟩ : ∃ X, X = wr.heap.size := ⟨_, rfl⟩
        have hXf : X ≠ f := by omega
        have hXB : X ≠ B := by have := lt_of_heap HB.out; omega
        have hXI : X ≠ gI := by have := World.block_lt_of_cell? wr _ hcI; simp only at this; omega
        have kA : Keep f w (wr.alloc (.cells #[.slice pB L cB, .int .i64 (x2 : Int)] 98)).drew := KR.out.trans (Keep.grown (gB _ _))
        have bA : (wr.alloc (.cells #[.slice pB L cB, .int .i64 (x2 : Int)] 98)).drew.heap[X]? = some (.cells #[.slice pB L cB, .int .i64 (x2 : Int)] 98 (0, 0)) := by rw [hXe]; exact heap_alloc_new _ _
        have RA : Rf F (wr.alloc (.cells #[.slice pB L cB, .int .i64 (x2 : Int)] 98)).drew f { s with fs := fs, ways := [W], left := 0, dead := false } := RR.out.grown (gB _ _)
        have cA : (wr.alloc (.cells #[.slice pB L cB, .int .i64 (x2 : Int)] 98)).drew.cell? ⟨B, 1, none⟩ = some (.slice (some ⟨gI, oI, none⟩) W.length cI) := (gB _ _).cell bx1 (by simp)
        have dA : (wr.alloc (.cells #[.slice pB L cB, .int .i64 (x2 : Int)] 98)).drew.cell? ⟨gI, oI + i, none⟩ = some (.int .i64 (j : Int)) := (gB _ _).cell hcI (by simp)
        have rA : rd1 F (wr.alloc (.cells #[.slice pB L cB, .int .i64 (x2 : Int)] 98)).drew f (.slice pB L cB) (by8 x1) := hrd.kept (Keep.grown (gB _ _))
        have eA : (wr.alloc (.cells #[.slice pB L cB, .int .i64 (x2 : Int)] 98)).drew.heap[B]? = _ := ((gB _ _).block B (lt_of_heap HB.out) (by simp)).trans HB.out
        have FINR : Hid (∀ W', Keep f wr W' → W'.heap[f]? = wr.heap[f]? → Rf F W' f { s with fs := fs, ways := [W], left := 0, dead := false }) := by
          obtain ⟨vF', vW', hRB', hF', hW'⟩ := RR.out.fs
          exact fun W' k e => Rf.of (s := { s with fs := fs, ways := [W], left := 0, dead := false }) RR.out.fb hF' hW' RR.out.ne k (e.trans hRB') rfl rfl
        have KRA : Hid (Keep f wr (wr.alloc (.cells #[.slice pB L cB, .int .i64 (x2 : Int)] 98)).drew ∧ (wr.alloc (.cells #[.slice pB L cB, .int .i64 (x2 : Int)] 98)).drew.heap[f]? = wr.heap[f]?) := ⟨Keep.grown (gB _ _), (gB _ _).block f (lt_of_heap hRBr) (by simp)⟩
        have hXr : wr.heap.size ≤ X := by omega
        have KR' := mkHid KR.out
        have KA := mkHid kA
        have BA := mkHid bA
        have RA' := mkHid RA
        have CA := mkHid cA
        have DA := mkHid dA
        have RDA := mkHid rA
        have EA := mkHid eA
        obtain ⟨D, hD⟩ : ∃ D, D = L - x2 := ⟨_, rfl⟩
        have HD := mkHid hD
        have nw1 : IntKind.i64.wrap ((L : Int) - (x2 : Int)) = (D : Int) := wrI (by omega) (by omega)
        clear gB hS7 kA bA RA cA dA rA eA hrd hRBr KR RR HB hL hMe hx rsz hD
        go_wp2_with fail
        refine wp_region_noPanic ?_
        refine wp_region_held_drew (S := fun w' => w'.cell? ⟨f, 1, none⟩ = some (.slice (some ⟨gF, oF, none⟩) M cF) ∧ w'.cell? ⟨B, 1, none⟩ = some (.slice (some ⟨gI, oI, none⟩) W.length cI) ∧ w'.cell? ⟨gI, oI + i, none⟩ = some (.int .i64 (j : Int)) ∧ w'.cell? ⟨gF, oF + j * 2, none⟩ = some (.slice pB L cB) ∧ w'.cell? ⟨gF, oF + j * 2 + 1, none⟩ = some (.int .i64 (x2 : Int))) (by kernel_rfl) (⟨z0, bx1, hcI, z1, z2⟩) (fun hH => ?_)
        refine tKx (i := 0) (v := .pointer (some ⟨f, 0, none⟩)) rfl rfl (by kernel_rfl) (fun _ _ _ h => h) ?_ hH ?_
        · intro w5 hSw; obtain ⟨hv1, hv2, hv3, hv4, hv5⟩ := hSw; go_simp
        simp only [zA9, zB9, zC9]
        refine tKx (i := 1) (v := .pointer (some ⟨f, 0, none⟩)) rfl rfl (by kernel_rfl) (fun _ _ _ h => h) ?_ hH ?_
        · intro w5 hSw; obtain ⟨hv1, hv2, hv3, hv4, hv5⟩ := hSw; go_simp
        simp only [zA9, zB9, zC9]
        refine tKx (i := 2) (v := .pointer (some ⟨f, 1, none⟩)) rfl rfl (by kernel_rfl) (fun _ _ _ h => h) ?_ hH ?_
        · intro w5 hSw; obtain ⟨hv1, hv2, hv3, hv4, hv5⟩ := hSw; go_simp
        simp only [zA9, zB9, zC9]
        refine tKx (i := 3) (v := .slice (some ⟨gF, oF, none⟩) M cF) rfl rfl (by kernel_rfl) (fun _ _ _ h => h) ?_ hH ?_
        · intro w5 hSw; obtain ⟨hv1, hv2, hv3, hv4, hv5⟩ := hSw; go_simp
        simp only [zA9, zB9, zC9]
        refine tKx (i := 4) (v := .pointer (some ⟨B, 1, none⟩)) rfl rfl (by kernel_rfl) (fun _ _ _ h => h) ?_ hH ?_
        · intro w5 hSw; obtain ⟨hv1, hv2, hv3, hv4, hv5⟩ := hSw; go_simp
        simp only [zA9, zB9, zC9]
        refine tKx (i := 5) (v := .slice (some ⟨gI, oI, none⟩) W.length cI) rfl rfl (by kernel_rfl) (fun _ _ _ h => h) ?_ hH ?_
        · intro w5 hSw; obtain ⟨hv1, hv2, hv3, hv4, hv5⟩ := hSw; go_simp
        simp only [zA9, zB9, zC9]
        refine tKx (i := 6) (v := .int .i64 (i : Int)) rfl rfl (by kernel_rfl) (fun _ _ _ h => h) ?_ hH ?_
        · intro w5 hSw; obtain ⟨hv1, hv2, hv3, hv4, hv5⟩ := hSw; go_simp
        simp only [zA9, zB9, zC9]
        refine tKx (i := 7) (v := .pointer (some ⟨gI, oI + i, none⟩)) rfl rfl (by kernel_rfl) (fun _ _ _ h => h) ?_ hH ?_
        · intro w5 hSw; obtain ⟨hv1, hv2, hv3, hv4, hv5⟩ := hSw; go_simp
        simp only [zA9, zB9, zC9]
        refine tKx (i := 8) (v := .int .i64 (j : Int)) rfl rfl (by kernel_rfl) (fun _ _ _ h => h) ?_ hH ?_
        · intro w5 hSw; obtain ⟨hv1, hv2, hv3, hv4, hv5⟩ := hSw; go_simp
        simp only [zA9, zB9, zC9]
        refine tKx (i := 9) (v := .pointer (some ⟨gF, oF + j * 2, none⟩)) rfl rfl (by kernel_rfl) (fun _ _ _ h => h) ?_ hH ?_
        · intro w5 hSw; obtain ⟨hv1, hv2, hv3, hv4, hv5⟩ := hSw; go_simp
        simp only [zA9, zB9, zC9]
        refine tKx (i := 10) (v := .agg #[.slice pB L cB, .int .i64 (x2 : Int)]) rfl rfl (by kernel_rfl) (fun _ _ _ h => h) ?_ hH ?_
        · intro w5 hSw; obtain ⟨hv1, hv2, hv3, hv4, hv5⟩ := hSw; go_simp
        simp only [zA9, zB9, zC9]
        refine wpAnyH_ready (rs := [11]) (by kernel_rfl) (by simp) ?_
        refine AllReadyH.cons rfl (fun K hK => ?_) AllReadyH.nil
        go_simp
        refine hK.out _ _ (HS7.out _ _) (fun _ => ?_)
        clear hK K hH
        refine wpAnyH_ready (rs := [12]) (by kernel_rfl) (by simp) ?_
        refine AllReadyH.cons rfl (fun K hK => ?_) AllReadyH.nil
        go_simp
        refine hK.out _ _ (HS7.out _ _) (fun _ => ?_)
        clear hK K
        refine wpAnyH_done (by kernel_rfl) ?_ _
        refine NoPanic.normal ?_
        clear HS7 z0 z1 z2 bx1 hcI
        rw [← hXe]
        obtain ⟨wa, hwa⟩ : ∃ wa, wa = (wr.alloc (.cells #[.slice pB L cB, .int .i64 (x2 : Int)] 98)).drew := ⟨_, rfl⟩
        rw [← hwa] at KA BA RA' CA DA RDA EA KRA ⊢
        clear hwa hXe RA' RDA KA
        have xa0 : wa.cell? ⟨X, 0, none⟩ = some (.slice pB L cB) := (cell_of_block BA.out 0).trans rfl
        have xa1 : wa.cell? ⟨X, 1, none⟩ = some (.int .i64 (x2 : Int)) := (cell_of_block BA.out 1).trans rfl
        have xaf : ∀ i, wa.frozen? ⟨X, i, none⟩ = false := fun i => unfrozen_of_block BA.out i
        have xaf0 := xaf 0
        have xaf1 := xaf 1
        have xal := lt_of_heap BA.out
        clear xaf
        by_cases hnz : x2 < L
        · have hLx : L = x1.length := HLL.out
          obtain ⟨KK, hKK⟩ : ∃ KK, KK = rk keeps t (x1, x2) := ⟨_, rfl⟩
          have hKL : KK ≤ L := by rw [hKK, hLx]; exact rk_le (by show x2 < x1.length; omega)
          have hDD : D = L - x2 := HD.out
          have nzi : (0 : Int) < (D : Int) := by omega
          have RDX : Hid (∀ W', Keep f wr W' → rd1 F W' f (.slice pB KK cB) (by8 (x1.take KK))) := fun W' k => rd1_take (HRD.out.kept k) hKL hLx
          have HRX : Hid (crF keeps t (W.drop i) fs = crF keeps (t + 1) (W.drop (i + 1)) (fs.set j (x1.take KK, KK))) := by
            have h1 := HSTEP.out
            have h3 : rx keeps t (x1, x2) = ((x1.take KK, KK), t + 1) := by unfold rx; rw [if_pos (by show x2 < x1.length; omega), hKK]
            rw [h3] at h1
            exact h1
          have HZZ : Hid ((x1.take KK, KK).2 ≤ (x1.take KK, KK).1.length ∧ (x1.take KK, KK).1.length ≤ 100000000) := by show KK ≤ (x1.take KK).length ∧ (x1.take KK).length ≤ _; rw [List.length_take]; omega
          obtain ⟨kv, hkv⟩ : ∃ kv, kv = (if keeps = [] then 0 else keeps.getD (t % keeps.length) 0) := ⟨_, rfl⟩
          have hKK2 : KK = x2 + lft kv (D + 1) := by rw [hKK, hkv, hDD, hLx]; rfl
          obtain ⟨lf, hlf⟩ : ∃ lf, lf = lft kv (D + 1) := ⟨_, rfl⟩
          rw [← hlf] at hKK2
          have hkvr : -9223372036854775808 ≤ kv ∧ kv ≤ 9223372036854775807 := by
            rw [hkv]
            split
            · omega
            · rename_i hne
              have hp : 0 < keeps.length := List.length_pos_iff.2 hne
              have hlt := Nat.mod_lt t hp
              rw [List.getD_eq_getElem?_getD, List.getElem?_eq_getElem hlt]
              exact HKR.out _ (List.getElem_mem hlt)
          have LFT : Hid (∀ w, Calls Try.prog 59 #[.int .i64 kv, .int .i64 ((D + 1 : Nat) : Int)] w fun e w' => e = .returned (.int .i64 (lf : Int)) ∧ w' = w) := fun w => hlf ▸ left_any kv (D + 1) w (by omega) (by omega) hkvr
          have a1 : IntKind.i64.wrap ((D : Int) + 1) = ((D + 1 : Nat) : Int) := wrI (by omega) (by omega)
          have a3 : IntKind.i64.wrap ((x2 : Int) + (lf : Int)) = (KK : Int) := wrI (by omega) (by omega)
          have a5 : IntKind.i64.wrap (KK : Int) = (KK : Int) := wrI rfl (Nat.le_trans hKL (Nat.le_trans hx1 (by decide)))
          have hLc : L ≤ cB := (rd_in HRD.out HLL.out (Keep.refl f wr) 0).2.2.1
          have hKc : ¬ cB < KK := Nat.not_lt.2 (Nat.le_trans hKL hLc)
          have hz0 := sl_none cB pB
          have KWA : Hid (Keep f w wa) := KR'.out.trans KRA.out.1
          -- behind the store
          have hzz : (wa.setCell ⟨X, 0, none⟩ (.slice pB KK cB)).drew.heap[X]? = some (.cells #[.slice pB KK cB, .int .i64 (x2 : Int)] 98 (0, 0)) := (heap_setCell_same wa _ 0 _ _ _ BA.out).trans rfl
          have kzz := xset (j := 0) (u := .slice pB KK cB) KRA.out.1 KRA.out.2 hXr hXf
          have KZ : Hid (Keep f wr (wa.setCell ⟨X, 0, none⟩ (.slice pB KK cB)).drew ∧ (wa.setCell ⟨X, 0, none⟩ (.slice pB KK cB)).drew.heap[f]? = wr.heap[f]?) := ⟨kzz.1.trans (Keep.grown ⟨rfl, rfl, rfl, Nat.le_refl _, fun _ _ _ => rfl⟩), kzz.2⟩
          have BZ := mkHid hzz
          have EZ : Hid ((wa.setCell ⟨X, 0, none⟩ (.slice pB KK cB)).drew.heap[B]? = _) := (heap_setCell_other wa ⟨X, 0, none⟩ B _ (fun e => hXB e.symm)).trans EA.out
          have DZ : Hid ((wa.setCell ⟨X, 0, none⟩ (.slice pB KK cB)).drew.cell? ⟨gI, oI + i, none⟩ = some (.int .i64 (j : Int))) := (World.cell?_of_block (w := wa) (heap_setCell_other wa ⟨X, 0, none⟩ gI _ (fun e => hXI e.symm))).trans DA.out
          have zx1 : (wa.setCell ⟨X, 0, none⟩ (.slice pB KK cB)).drew.cell? ⟨X, 1, none⟩ = some (.int .i64 (x2 : Int)) := (cell_of_block hzz 1).trans rfl
          clear hzz kzz hKK hlf hLx hKK2 hkvr hLc hDD hKL hnz
          by_cases hke : keeps = []
          · have kv0 : kv = 0 := by rw [hkv, if_pos hke]
            subst kv0
            have kl0 : ¬ (0 : Int) < (KL : Int) := by have : KL = keeps.length := HKL.out; rw [this, hke]; simp
            clear hkv hke
            go_wp2_with fail
            refine wp_region_noPanic ?_
            refine wp_region_G (S := SG 11 11 (fun w' => w'.cell? ⟨X, 0, none⟩ = some (.slice pB L cB)) (fun _ => True) (fun w' => w'.cell? ⟨X, 1, none⟩ = some (.int .i64 (x2 : Int)))) (by kernel_rfl) (⟨fun _ => xa0, fun _ => trivial, xa1⟩) (fun hH => ?_)
            simp only [Array.replicate, List.size_toArray, List.length_cons, List.length_nil, List.replicate, Nat.zero_add, Nat.reduceAdd] at hH ⊢
            refine takeG (i := 0) (v := .pointer (some ⟨X, 0, none⟩)) [] rfl rfl (by kernel_rfl) (by kernel_rfl) (by kernel_rfl) (by kernel_rfl) (by kernel_rfl) (SG_set (by decide) (by decide)) (fun _ _ _ h => h) (Or.inl ⟨by rfl, ?_⟩) hH (fun hH => ?_)
            · intro w5 hSw; go_simp
            simp only [zA9, zB9, zC9] at hH ⊢
            refine takeG (i := 1) (v := .slice pB L cB) [11] rfl rfl (by kernel_rfl) (by kernel_rfl) (by kernel_rfl) (by kernel_rfl) (by kernel_rfl) (SG_set (by decide) (by decide)) (fun _ _ _ h => h) (Or.inl ⟨by rfl, ?_⟩) hH (fun hH => ?_)
            · intro w5 hSw; obtain ⟨L5, hU5, hA5, _⟩ := hSw; have a5 := hA5 (hU5 _ (by simp)); go_simp
            simp only [zA9, zB9, zC9] at hH ⊢
            refine takeG (i := 2) (v := .pointer (some ⟨X, 1, none⟩)) [] rfl rfl (by kernel_rfl) (by kernel_rfl) (by kernel_rfl) (by kernel_rfl) (by kernel_rfl) (SG_set (by decide) (by decide)) (fun _ _ _ h => h) (Or.inl ⟨by rfl, ?_⟩) hH (fun hH => ?_)
            · intro w5 hSw; go_simp
            simp only [zA9, zB9, zC9] at hH ⊢
            refine takeG (i := 3) (v := .int .i64 (x2 : Int)) [] rfl rfl (by kernel_rfl) (by kernel_rfl) (by kernel_rfl) (by kernel_rfl) (by kernel_rfl) (SG_set (by decide) (by decide)) (fun _ _ _ h => h) (Or.inl ⟨by rfl, ?_⟩) hH (fun hH => ?_)
            · intro w5 hSw; obtain ⟨L5, hU5, hA5, _, e1⟩ := hSw; go_simp
            simp only [zA9, zB9, zC9] at hH ⊢
            refine takeG (i := 4) (v := .int .i64 0) [] rfl rfl (by kernel_rfl) (by kernel_rfl) (by kernel_rfl) (by kernel_rfl) (by kernel_rfl) (SG_set (by decide) (by decide)) (fun _ _ _ h => h) (Or.inl ⟨by rfl, ?_⟩) hH (fun hH => ?_)
            · intro w5 hSw; go_simp
            simp only [zA9, zB9, zC9] at hH ⊢
            refine takeG (i := 5) (v := .int .i64 (D : Int)) [] rfl rfl (by kernel_rfl) (by kernel_rfl) (by kernel_rfl) (by kernel_rfl) (by kernel_rfl) (SG_set (by decide) (by decide)) (fun _ _ _ h => h) (Or.inl ⟨by rfl, ?_⟩) hH (fun hH => ?_)
            · intro w5 hSw; go_simp
            simp only [zA9, zB9, zC9] at hH ⊢
            refine takeG (i := 6) (v := .int .i64 ((D + 1 : Nat) : Int)) [] rfl rfl (by kernel_rfl) (by kernel_rfl) (by kernel_rfl) (by kernel_rfl) (by kernel_rfl) (SG_set (by decide) (by decide)) (fun _ _ _ h => h) (Or.inl ⟨by rfl, ?_⟩) hH (fun hH => ?_)
            · intro w5 hSw; go_simp
            simp only [zA9, zB9, zC9] at hH ⊢
            refine wpAnyG_ready (rs := [7]) (by kernel_rfl) (by simp) ?_
            refine AllReadyG.cons rfl (fun K hK => ?_) AllReadyG.nil
            go_simp
            go_at_call 59
            refine (LFT.out _).mono ?_
            rintro e wx ⟨rfl, hwx⟩; have hwx2 := hwx.symm; subst hwx2; clear hwx
            go_wp2_with fail
            refine hK.out _ _ (hH) (fun hH => ?_)
            clear hK K
            simp only [zA9, zB9, zC9] at hH ⊢
            refine takeG (i := 8) (v := .int .i64 (KK : Int)) [] rfl rfl (by kernel_rfl) (by kernel_rfl) (by kernel_rfl) (by kernel_rfl) (by kernel_rfl) (SG_set (by decide) (by decide)) (fun _ _ _ h => h) (Or.inl ⟨by rfl, ?_⟩) hH (fun hH => ?_)
            · intro w5 hSw; go_simp
            simp only [zA9, zB9, zC9] at hH ⊢
            refine takeG (i := 9) (v := .slice pB KK cB) [] rfl rfl (by kernel_rfl) (by kernel_rfl) (by kernel_rfl) (by kernel_rfl) (by kernel_rfl) (SG_set (by decide) (by decide)) (fun _ _ _ h => h) (Or.inl ⟨by rfl, ?_⟩) hH (fun hH => ?_)
            · intro w5 hSw; go_simp
            simp only [zA9, zB9, zC9] at hH ⊢
            refine takeG (i := 10) (v := .pointer (some ⟨X, 0, none⟩)) [] rfl rfl (by kernel_rfl) (by kernel_rfl) (by kernel_rfl) (by kernel_rfl) (by kernel_rfl) (SG_set (by decide) (by decide)) (fun _ _ _ h => h) (Or.inl ⟨by rfl, ?_⟩) hH (fun hH => ?_)
            · intro w5 hSw; go_simp
            simp only [zA9, zB9, zC9] at hH ⊢
            refine wpAnyG_ready (rs := [11]) (by kernel_rfl) (by simp) ?_
            refine AllReadyG.cons rfl (fun K hK => ?_) AllReadyG.nil
            go_simp
            refine hK.out _ _ (⟨fun h => by simp at h, fun _ => trivial, zx1⟩) (fun hH => ?_)
            clear hK K
            simp only [zA9, zB9, zC9] at hH ⊢
            refine wpAnyG_done (by kernel_rfl) ?_ _
            refine NoPanic.normal ?_
            obtain ⟨wz, hwz⟩ : ∃ wz, wz = (wa.setCell ⟨X, 0, none⟩ (.slice pB KK cB)).drew := ⟨_, rfl⟩
            rw [← hwz] at KZ BZ EZ DZ ⊢
            clear hwz zx1 hH xa0 xa1 xaf0 xaf1
            have hz : wz.heap[X]? = some (.cells #[.slice pB KK cB, .int .i64 (x2 : Int)] 98 (0, 0)) := BZ.out
            have hb : (wz.setCell ⟨X, 1, none⟩ (.int .i64 (KK : Int))).heap[X]? = some (.cells #[.slice pB KK cB, .int .i64 (KK : Int)] 98 (0, 0)) := (heap_setCell_same wz _ 1 _ _ _ hz).trans rfl
            obtain ⟨kb, fb⟩ := xset (j := 1) (u := .int .i64 (KK : Int)) KZ.out.1 KZ.out.2 hXr hXf
            have y0 : wz.cell? ⟨X, 0, none⟩ = some (.slice pB KK cB) := (cell_of_block hz 0).trans rfl
            have y1 : wz.cell? ⟨X, 1, none⟩ = some (.int .i64 (x2 : Int)) := (cell_of_block hz 1).trans rfl
            have y1f := unfrozen_of_block hz 1
            have yl := lt_of_heap hz
            have v0 : (wz.setCell ⟨X, 1, none⟩ (.int .i64 (KK : Int))).cell? ⟨X, 0, none⟩ = some (.slice pB KK cB) := (cell_of_block hb 0).trans rfl
            have v1 : (wz.setCell ⟨X, 1, none⟩ (.int .i64 (KK : Int))).cell? ⟨X, 1, none⟩ = some (.int .i64 (KK : Int)) := (cell_of_block hb 1).trans rfl
            have vB : (wz.setCell ⟨X, 1, none⟩ (.int .i64 (KK : Int))).heap[B]? = _ := (heap_setCell_other wz ⟨X, 1, none⟩ B _ (fun e => hXB e.symm)).trans EZ.out
            have vB1 : (wz.setCell ⟨X, 1, none⟩ (.int .i64 (KK : Int))).cell? ⟨B, 1, none⟩ = some (.slice (some ⟨gI, oI, none⟩) W.length cI) := (cell_of_block vB 1).trans rfl
            have vI : (wz.setCell ⟨X, 1, none⟩ (.int .i64 (KK : Int))).cell? ⟨gI, oI + i, none⟩ = some (.int .i64 (j : Int)) := (World.cell?_of_block (heap_setCell_other wz ⟨X, 1, none⟩ gI _ (fun e => hXI e.symm))).trans DZ.out
            have CALL : Hid (Calls Try.prog 60 #[.pointer (some ⟨f, 0, none⟩), .int .i64 (j : Int), .agg #[.slice pB KK cB, .int .i64 (KK : Int)]] (wz.setCell ⟨X, 1, none⟩ (.int .i64 (KK : Int))).drew fun e w' => e = .returned (.tuple #[]) ∧ Rf F w' f { s with fs := fs.set j ((x1.take KK), KK), ways := [W], left := 0, dead := false } ∧ Keep f (wz.setCell ⟨X, 1, none⟩ (.int .i64 (KK : Int))).drew w') := set_any f j { s with fs := fs, ways := [W], left := 0, dead := false } ((x1.take KK), KK) _ _ _ ((FINR.out _ kb fb).grown ⟨rfl, rfl, rfl, Nat.le_refl _, fun _ _ _ => rfl⟩) ⟨rfl, RDX.out _ (kb.trans (Keep.grown (w' := (wz.setCell ⟨X, 1, none⟩ (.int .i64 (KK : Int))).drew) ⟨rfl, rfl, rfl, Nat.le_refl _, fun _ _ _ => rfl⟩))⟩ hjj.out hMM.out
            have KB : Hid (Keep f w (wz.setCell ⟨X, 1, none⟩ (.int .i64 (KK : Int))).drew) := (KR'.out.trans kb).trans (Keep.grown ⟨rfl, rfl, rfl, Nat.le_refl _, fun _ _ _ => rfl⟩)
            have VB := mkHid vB
            clear hz hb kb fb vB
            go_wp2_with fail
            obtain ⟨wb, hwb⟩ : ∃ wb, wb = wz.setCell ⟨X, 1, none⟩ (.int .i64 (KK : Int)) := ⟨_, rfl⟩
            rw [← hwb] at CALL KB VB v0 v1 vB1 vI ⊢
            clear hwb
            refine wp_region_noPanic ?_
            refine wp_region_held_drew (S := fun w' => w'.cell? ⟨B, 1, none⟩ = some (.slice (some ⟨gI, oI, none⟩) W.length cI) ∧ w'.cell? ⟨gI, oI + i, none⟩ = some (.int .i64 (j : Int)) ∧ w'.cell? ⟨X, 0, none⟩ = some (.slice pB KK cB) ∧ w'.cell? ⟨X, 1, none⟩ = some (.int .i64 (KK : Int))) (by kernel_rfl) (⟨vB1, vI, v0, v1⟩) (fun hH => ?_)
            refine tKx (i := 0) (v := .pointer (some ⟨f, 0, none⟩)) rfl rfl (by kernel_rfl) (fun _ _ _ h => h) ?_ hH ?_
            · intro w5 hSw; obtain ⟨hv1, hv2, hv3, hv4⟩ := hSw; go_simp
            simp only [zA9, zB9, zC9]
            refine tKx (i := 1) (v := .pointer (some ⟨B, 1, none⟩)) rfl rfl (by kernel_rfl) (fun _ _ _ h => h) ?_ hH ?_
            · intro w5 hSw; obtain ⟨hv1, hv2, hv3, hv4⟩ := hSw; go_simp
            simp only [zA9, zB9, zC9]
            refine tKx (i := 2) (v := .slice (some ⟨gI, oI, none⟩) W.length cI) rfl rfl (by kernel_rfl) (fun _ _ _ h => h) ?_ hH ?_
            · intro w5 hSw; obtain ⟨hv1, hv2, hv3, hv4⟩ := hSw; go_simp
            simp only [zA9, zB9, zC9]
            refine tKx (i := 3) (v := .int .i64 (i : Int)) rfl rfl (by kernel_rfl) (fun _ _ _ h => h) ?_ hH ?_
            · intro w5 hSw; obtain ⟨hv1, hv2, hv3, hv4⟩ := hSw; go_simp
            simp only [zA9, zB9, zC9]
            refine tKx (i := 4) (v := .pointer (some ⟨gI, oI + i, none⟩)) rfl rfl (by kernel_rfl) (fun _ _ _ h => h) ?_ hH ?_
            · intro w5 hSw; obtain ⟨hv1, hv2, hv3, hv4⟩ := hSw; go_simp
            simp only [zA9, zB9, zC9]
            refine tKx (i := 5) (v := .int .i64 (j : Int)) rfl rfl (by kernel_rfl) (fun _ _ _ h => h) ?_ hH ?_
            · intro w5 hSw; obtain ⟨hv1, hv2, hv3, hv4⟩ := hSw; go_simp
            simp only [zA9, zB9, zC9]
            refine tKx (i := 6) (v := .agg #[.slice pB KK cB, .int .i64 (KK : Int)]) rfl rfl (by kernel_rfl) (fun _ _ _ h => h) ?_ hH ?_
            · intro w5 hSw; obtain ⟨hv1, hv2, hv3, hv4⟩ := hSw; go_simp
            simp only [zA9, zB9, zC9]
            refine wpAnyH_ready (rs := [7]) (by kernel_rfl) (by simp) ?_
            refine AllReadyH.cons rfl (fun K hK => ?_) AllReadyH.nil
            go_simp
            go_at_call 60
            refine CALL.out.mono ?_
            rintro e w6 ⟨rfl, R6, k6⟩
            have R6' := mkHid R6
            have B6 : Hid (w6.heap[B]? = some (.cells #[.slice vNP W.length vNC, .slice (some ⟨gI, oI, none⟩) W.length cI] 95 (0, 0))) := (k6.block B (lt_of_heap VB.out) hBf).trans VB.out
            have K6 : Hid (Keep f w w6) := KB.out.trans k6
            clear R6
            go_wp2_with fail
            refine hK.out _ _ ⟨cellC k6 vB1 hBf, cellC k6 vI hgI, cellC k6 v0 hXf, cellC k6 v1 hXf⟩ (fun _ => ?_)
            clear hK K hH k6
            refine wpAnyH_done (by kernel_rfl) ?_ _
            refine NoPanic.normal ?_
            go_wp2_with fail
            go_roundw
            case rel => exact ⟨(t + 1), i + 1, fs.set j ((x1.take KK), KK), by first | rfl | (congr 1; omega), by go_num, hlt, by omega, HRX.out.symm.trans HC.out, (by show _ = _; rw [List.length_set]; exact HL.out), all_set HX.out HZZ.out, R6', K6, B6⟩
            case measure => simp [intOf]; omega
          · have hp : 0 < keeps.length := List.length_pos_iff.2 hke
            have hKe : KL = keeps.length := HKL.out
            have kl0 : (0 : Int) < (KL : Int) := by omega
            obtain ⟨tk, htk⟩ : ∃ tk, tk = t % keeps.length := ⟨_, rfl⟩
            have htl : tk < keeps.length := by rw [htk]; exact Nat.mod_lt t hp
            have hkv2 : keeps[tk]? = some kv := by rw [hkv, if_neg hke, ← htk, List.getD_eq_getElem?_getD, List.getElem?_eq_getElem htl]; rfl
            obtain ⟨gk, offk, hPk, hck⟩ : ∃ gk offk, Pk = some ⟨gk, offk, none⟩ ∧ wa.cell? ⟨gk, offk + tk, none⟩ = some (.int .i64 kv) := by
              rcases HK.out.keep KWA.out HKF.out with h | ⟨gk, offk, e, hc⟩
              · exact absurd h hke
              · exact ⟨gk, offk, e, hc tk kv hkv2⟩
            subst hPk
            have e3 : (t : Int).tmod (KL : Int) = (tk : Int) := by rw [hKe, htk, Int.tmod_eq_emod_of_nonneg (by omega), Int.natCast_emod]
            have e4 : (t : Int) % (KL : Int) = (tk : Int) := by rw [hKe, htk, Int.natCast_emod]
            have e5 : ((KL : Int) == 0) = false := by rw [beq_eq_false_iff_ne]; omega
            have e6 : (tk : Int) < (KL : Int) := by omega
            have e7 : IntKind.i64.wrap (tk : Int) = (tk : Int) := wrI rfl (by omega)
            clear hkv htk hkv2 htl hke hp hKe
            go_wp2_with fail
            refine wp_region_noPanic ?_
            refine wp_region_G (S := SG 11 11 (fun w' => w'.cell? ⟨X, 0, none⟩ = some (.slice pB L cB)) (fun _ => True) (fun w' => w'.cell? ⟨X, 1, none⟩ = some (.int .i64 (x2 : Int)))) (by kernel_rfl) (⟨fun _ => xa0, fun _ => trivial, xa1⟩) (fun hH => ?_)
            simp only [Array.replicate, List.size_toArray, List.length_cons, List.length_nil, List.replicate, Nat.zero_add, Nat.reduceAdd] at hH ⊢
            refine takeG (i := 0) (v := .pointer (some ⟨X, 0, none⟩)) [] rfl rfl (by kernel_rfl) (by kernel_rfl) (by kernel_rfl) (by kernel_rfl) (by kernel_rfl) (SG_set (by decide) (by decide)) (fun _ _ _ h => h) (Or.inl ⟨by rfl, ?_⟩) hH (fun hH => ?_)
            · intro w5 hSw; go_simp
            simp only [zA9, zB9, zC9] at hH ⊢
            refine takeG (i := 1) (v := .slice pB L cB) [11] rfl rfl (by kernel_rfl) (by kernel_rfl) (by kernel_rfl) (by kernel_rfl) (by kernel_rfl) (SG_set (by decide) (by decide)) (fun _ _ _ h => h) (Or.inl ⟨by rfl, ?_⟩) hH (fun hH => ?_)
            · intro w5 hSw; obtain ⟨L5, hU5, hA5, _⟩ := hSw; have a5 := hA5 (hU5 _ (by simp)); go_simp
            simp only [zA9, zB9, zC9] at hH ⊢
            refine takeG (i := 2) (v := .pointer (some ⟨X, 1, none⟩)) [] rfl rfl (by kernel_rfl) (by kernel_rfl) (by kernel_rfl) (by kernel_rfl) (by kernel_rfl) (SG_set (by decide) (by decide)) (fun _ _ _ h => h) (Or.inl ⟨by rfl, ?_⟩) hH (fun hH => ?_)
            · intro w5 hSw; go_simp
            simp only [zA9, zB9, zC9] at hH ⊢
            refine takeG (i := 3) (v := .int .i64 (x2 : Int)) [] rfl rfl (by kernel_rfl) (by kernel_rfl) (by kernel_rfl) (by kernel_rfl) (by kernel_rfl) (SG_set (by decide) (by decide)) (fun _ _ _ h => h) (Or.inl ⟨by rfl, ?_⟩) hH (fun hH => ?_)
            · intro w5 hSw; obtain ⟨L5, hU5, hA5, _, e1⟩ := hSw; go_simp
            simp only [zA9, zB9, zC9] at hH ⊢
            refine takeG (i := 4) (v := .int .i64 kv) [] rfl rfl (by kernel_rfl) (by kernel_rfl) (by kernel_rfl) (by kernel_rfl) (by kernel_rfl) (SG_set (by decide) (by decide)) (fun _ _ _ h => h) (Or.inl ⟨by rfl, ?_⟩) hH (fun hH => ?_)
            · intro w5 hSw; go_simp
            simp only [zA9, zB9, zC9] at hH ⊢
            refine takeG (i := 5) (v := .int .i64 (D : Int)) [] rfl rfl (by kernel_rfl) (by kernel_rfl) (by kernel_rfl) (by kernel_rfl) (by kernel_rfl) (SG_set (by decide) (by decide)) (fun _ _ _ h => h) (Or.inl ⟨by rfl, ?_⟩) hH (fun hH => ?_)
            · intro w5 hSw; go_simp
            simp only [zA9, zB9, zC9] at hH ⊢
            refine takeG (i := 6) (v := .int .i64 ((D + 1 : Nat) : Int)) [] rfl rfl (by kernel_rfl) (by kernel_rfl) (by kernel_rfl) (by kernel_rfl) (by kernel_rfl) (SG_set (by decide) (by decide)) (fun _ _ _ h => h) (Or.inl ⟨by rfl, ?_⟩) hH (fun hH => ?_)
            · intro w5 hSw; go_simp
            simp only [zA9, zB9, zC9] at hH ⊢
            refine wpAnyG_ready (rs := [7]) (by kernel_rfl) (by simp) ?_
            refine AllReadyG.cons rfl (fun K hK => ?_) AllReadyG.nil
            go_simp
            go_at_call 59
            refine (LFT.out _).mono ?_
            rintro e wx ⟨rfl, hwx⟩; have hwx2 := hwx.symm; subst hwx2; clear hwx
            go_wp2_with fail
            refine hK.out _ _ (hH) (fun hH => ?_)
            clear hK K
            simp only [zA9, zB9, zC9] at hH ⊢
            refine takeG (i := 8) (v := .int .i64 (KK : Int)) [] rfl rfl (by kernel_rfl) (by kernel_rfl) (by kernel_rfl) (by kernel_rfl) (by kernel_rfl) (SG_set (by decide) (by decide)) (fun _ _ _ h => h) (Or.inl ⟨by rfl, ?_⟩) hH (fun hH => ?_)
            · intro w5 hSw; go_simp
            simp only [zA9, zB9, zC9] at hH ⊢
            refine takeG (i := 9) (v := .slice pB KK cB) [] rfl rfl (by kernel_rfl) (by kernel_rfl) (by kernel_rfl) (by kernel_rfl) (by kernel_rfl) (SG_set (by decide) (by decide)) (fun _ _ _ h => h) (Or.inl ⟨by rfl, ?_⟩) hH (fun hH => ?_)
            · intro w5 hSw; go_simp
            simp only [zA9, zB9, zC9] at hH ⊢
            refine takeG (i := 10) (v := .pointer (some ⟨X, 0, none⟩)) [] rfl rfl (by kernel_rfl) (by kernel_rfl) (by kernel_rfl) (by kernel_rfl) (by kernel_rfl) (SG_set (by decide) (by decide)) (fun _ _ _ h => h) (Or.inl ⟨by rfl, ?_⟩) hH (fun hH => ?_)
            · intro w5 hSw; go_simp
            simp only [zA9, zB9, zC9] at hH ⊢
            refine wpAnyG_ready (rs := [11]) (by kernel_rfl) (by simp) ?_
            refine AllReadyG.cons rfl (fun K hK => ?_) AllReadyG.nil
            go_simp
            refine hK.out _ _ (⟨fun h => by simp at h, fun _ => trivial, zx1⟩) (fun hH => ?_)
            clear hK K
            simp only [zA9, zB9, zC9] at hH ⊢
            refine wpAnyG_done (by kernel_rfl) ?_ _
            refine NoPanic.normal ?_
            obtain ⟨wz, hwz⟩ : ∃ wz, wz = (wa.setCell ⟨X, 0, none⟩ (.slice pB KK cB)).drew := ⟨_, rfl⟩
            rw [← hwz] at KZ BZ EZ DZ ⊢
            clear hwz zx1 hH xa0 xa1 xaf0 xaf1
            have hz : wz.heap[X]? = some (.cells #[.slice pB KK cB, .int .i64 (x2 : Int)] 98 (0, 0)) := BZ.out
            have hb : (wz.setCell ⟨X, 1, none⟩ (.int .i64 (KK : Int))).heap[X]? = some (.cells #[.slice pB KK cB, .int .i64 (KK : Int)] 98 (0, 0)) := (heap_setCell_same wz _ 1 _ _ _ hz).trans rfl
            obtain ⟨kb, fb⟩ := xset (j := 1) (u := .int .i64 (KK : Int)) KZ.out.1 KZ.out.2 hXr hXf
            have y0 : wz.cell? ⟨X, 0, none⟩ = some (.slice pB KK cB) := (cell_of_block hz 0).trans rfl
            have y1 : wz.cell? ⟨X, 1, none⟩ = some (.int .i64 (x2 : Int)) := (cell_of_block hz 1).trans rfl
            have y1f := unfrozen_of_block hz 1
            have yl := lt_of_heap hz
            have v0 : (wz.setCell ⟨X, 1, none⟩ (.int .i64 (KK : Int))).cell? ⟨X, 0, none⟩ = some (.slice pB KK cB) := (cell_of_block hb 0).trans rfl
            have v1 : (wz.setCell ⟨X, 1, none⟩ (.int .i64 (KK : Int))).cell? ⟨X, 1, none⟩ = some (.int .i64 (KK : Int)) := (cell_of_block hb 1).trans rfl
            have vB : (wz.setCell ⟨X, 1, none⟩ (.int .i64 (KK : Int))).heap[B]? = _ := (heap_setCell_other wz ⟨X, 1, none⟩ B _ (fun e => hXB e.symm)).trans EZ.out
            have vB1 : (wz.setCell ⟨X, 1, none⟩ (.int .i64 (KK : Int))).cell? ⟨B, 1, none⟩ = some (.slice (some ⟨gI, oI, none⟩) W.length cI) := (cell_of_block vB 1).trans rfl
            have vI : (wz.setCell ⟨X, 1, none⟩ (.int .i64 (KK : Int))).cell? ⟨gI, oI + i, none⟩ = some (.int .i64 (j : Int)) := (World.cell?_of_block (heap_setCell_other wz ⟨X, 1, none⟩ gI _ (fun e => hXI e.symm))).trans DZ.out
            have CALL : Hid (Calls Try.prog 60 #[.pointer (some ⟨f, 0, none⟩), .int .i64 (j : Int), .agg #[.slice pB KK cB, .int .i64 (KK : Int)]] (wz.setCell ⟨X, 1, none⟩ (.int .i64 (KK : Int))).drew fun e w' => e = .returned (.tuple #[]) ∧ Rf F w' f { s with fs := fs.set j ((x1.take KK), KK), ways := [W], left := 0, dead := false } ∧ Keep f (wz.setCell ⟨X, 1, none⟩ (.int .i64 (KK : Int))).drew w') := set_any f j { s with fs := fs, ways := [W], left := 0, dead := false } ((x1.take KK), KK) _ _ _ ((FINR.out _ kb fb).grown ⟨rfl, rfl, rfl, Nat.le_refl _, fun _ _ _ => rfl⟩) ⟨rfl, RDX.out _ (kb.trans (Keep.grown (w' := (wz.setCell ⟨X, 1, none⟩ (.int .i64 (KK : Int))).drew) ⟨rfl, rfl, rfl, Nat.le_refl _, fun _ _ _ => rfl⟩))⟩ hjj.out hMM.out
            have KB : Hid (Keep f w (wz.setCell ⟨X, 1, none⟩ (.int .i64 (KK : Int))).drew) := (KR'.out.trans kb).trans (Keep.grown ⟨rfl, rfl, rfl, Nat.le_refl _, fun _ _ _ => rfl⟩)
            have VB := mkHid vB
            clear hz hb kb fb vB
            go_wp2_with fail
            obtain ⟨wb, hwb⟩ : ∃ wb, wb = wz.setCell ⟨X, 1, none⟩ (.int .i64 (KK : Int)) := ⟨_, rfl⟩
            rw [← hwb] at CALL KB VB v0 v1 vB1 vI ⊢
            clear hwb
            refine wp_region_noPanic ?_
            refine wp_region_held_drew (S := fun w' => w'.cell? ⟨B, 1, none⟩ = some (.slice (some ⟨gI, oI, none⟩) W.length cI) ∧ w'.cell? ⟨gI, oI + i, none⟩ = some (.int .i64 (j : Int)) ∧ w'.cell? ⟨X, 0, none⟩ = some (.slice pB KK cB) ∧ w'.cell? ⟨X, 1, none⟩ = some (.int .i64 (KK : Int))) (by kernel_rfl) (⟨vB1, vI, v0, v1⟩) (fun hH => ?_)
            refine tKx (i := 0) (v := .pointer (some ⟨f, 0, none⟩)) rfl rfl (by kernel_rfl) (fun _ _ _ h => h) ?_ hH ?_
            · intro w5 hSw; obtain ⟨hv1, hv2, hv3, hv4⟩ := hSw; go_simp
            simp only [zA9, zB9, zC9]
            refine tKx (i := 1) (v := .pointer (some ⟨B, 1, none⟩)) rfl rfl (by kernel_rfl) (fun _ _ _ h => h) ?_ hH ?_
            · intro w5 hSw; obtain ⟨hv1, hv2, hv3, hv4⟩ := hSw; go_simp
            simp only [zA9, zB9, zC9]
            refine tKx (i := 2) (v := .slice (some ⟨gI, oI, none⟩) W.length cI) rfl rfl (by kernel_rfl) (fun _ _ _ h => h) ?_ hH ?_
            · intro w5 hSw; obtain ⟨hv1, hv2, hv3, hv4⟩ := hSw; go_simp
            simp only [zA9, zB9, zC9]
            refine tKx (i := 3) (v := .int .i64 (i : Int)) rfl rfl (by kernel_rfl) (fun _ _ _ h => h) ?_ hH ?_
            · intro w5 hSw; obtain ⟨hv1, hv2, hv3, hv4⟩ := hSw; go_simp
            simp only [zA9, zB9, zC9]
            refine tKx (i := 4) (v := .pointer (some ⟨gI, oI + i, none⟩)) rfl rfl (by kernel_rfl) (fun _ _ _ h => h) ?_ hH ?_
            · intro w5 hSw; obtain ⟨hv1, hv2, hv3, hv4⟩ := hSw; go_simp
            simp only [zA9, zB9, zC9]
            refine tKx (i := 5) (v := .int .i64 (j : Int)) rfl rfl (by kernel_rfl) (fun _ _ _ h => h) ?_ hH ?_
            · intro w5 hSw; obtain ⟨hv1, hv2, hv3, hv4⟩ := hSw; go_simp
            simp only [zA9, zB9, zC9]
            refine tKx (i := 6) (v := .agg #[.slice pB KK cB, .int .i64 (KK : Int)]) rfl rfl (by kernel_rfl) (fun _ _ _ h => h) ?_ hH ?_
            · intro w5 hSw; obtain ⟨hv1, hv2, hv3, hv4⟩ := hSw; go_simp
            simp only [zA9, zB9, zC9]
            refine wpAnyH_ready (rs := [7]) (by kernel_rfl) (by simp) ?_
            refine AllReadyH.cons rfl (fun K hK => ?_) AllReadyH.nil
            go_simp
            go_at_call 60
            refine CALL.out.mono ?_
            rintro e w6 ⟨rfl, R6, k6⟩
            have R6' := mkHid R6
            have B6 : Hid (w6.heap[B]? = some (.cells #[.slice vNP W.length vNC, .slice (some ⟨gI, oI, none⟩) W.length cI] 95 (0, 0))) := (k6.block B (lt_of_heap VB.out) hBf).trans VB.out
            have K6 : Hid (Keep f w w6) := KB.out.trans k6
            clear R6
            go_wp2_with fail
            refine hK.out _ _ ⟨cellC k6 vB1 hBf, cellC k6 vI hgI, cellC k6 v0 hXf, cellC k6 v1 hXf⟩ (fun _ => ?_)
            clear hK K hH k6
            refine wpAnyH_done (by kernel_rfl) ?_ _
            refine NoPanic.normal ?_
            go_wp2_with fail
            go_roundw
            case rel => exact ⟨(t + 1), i + 1, fs.set j ((x1.take KK), KK), by first | rfl | (congr 1; omega), by go_num, hlt, by omega, HRX.out.symm.trans HC.out, (by show _ = _; rw [List.length_set]; exact HL.out), all_set HX.out HZZ.out, R6', K6, B6⟩
            case measure => simp [intOf]; omega
        · have hnn : x2 = L := by omega
          have nzi : ¬ (0 : Int) < (D : Int) := by have : D = L - x2 := HD.out; omega
          have RDX : Hid (∀ W', Keep f wr W' → rd1 F W' f (.slice pB L cB) (by8 x1)) := fun W' k => HRD.out.kept k
          have HRX : Hid (crF keeps t (W.drop i) fs = crF keeps t (W.drop (i + 1)) (fs.set j (x1, L))) := by
            have h1 := HSTEP.out
            have h2 : L = x1.length := HLL.out
            have h3 : rx keeps t (x1, x2) = ((x1, L), t) := by unfold rx; rw [if_neg (by show ¬ x2 < x1.length; omega), h2]
            rw [h3] at h1
            exact h1
          have HZZ : Hid ((x1, L).2 ≤ (x1, L).1.length ∧ (x1, L).1.length ≤ 100000000) := by have h2 : L = x1.length := HLL.out; show L ≤ x1.length ∧ x1.length ≤ _; omega
          have KZ := KRA
          have BZ := BA
          have EZ := EA
          have DZ := DA
          clear hnz hnn
          have hz : wa.heap[X]? = some (.cells #[.slice pB L cB, .int .i64 (x2 : Int)] 98 (0, 0)) := BZ.out
          have hb : (wa.setCell ⟨X, 1, none⟩ (.int .i64 (L : Int))).heap[X]? = some (.cells #[.slice pB L cB, .int .i64 (L : Int)] 98 (0, 0)) := (heap_setCell_same wa _ 1 _ _ _ hz).trans rfl
          obtain ⟨kb, fb⟩ := xset (j := 1) (u := .int .i64 (L : Int)) KZ.out.1 KZ.out.2 hXr hXf
          have y0 : wa.cell? ⟨X, 0, none⟩ = some (.slice pB L cB) := (cell_of_block hz 0).trans rfl
          have y1 : wa.cell? ⟨X, 1, none⟩ = some (.int .i64 (x2 : Int)) := (cell_of_block hz 1).trans rfl
          have y1f := unfrozen_of_block hz 1
          have yl := lt_of_heap hz
          have v0 : (wa.setCell ⟨X, 1, none⟩ (.int .i64 (L : Int))).cell? ⟨X, 0, none⟩ = some (.slice pB L cB) := (cell_of_block hb 0).trans rfl
          have v1 : (wa.setCell ⟨X, 1, none⟩ (.int .i64 (L : Int))).cell? ⟨X, 1, none⟩ = some (.int .i64 (L : Int)) := (cell_of_block hb 1).trans rfl
          have vB : (wa.setCell ⟨X, 1, none⟩ (.int .i64 (L : Int))).heap[B]? = _ := (heap_setCell_other wa ⟨X, 1, none⟩ B _ (fun e => hXB e.symm)).trans EZ.out
          have vB1 : (wa.setCell ⟨X, 1, none⟩ (.int .i64 (L : Int))).cell? ⟨B, 1, none⟩ = some (.slice (some ⟨gI, oI, none⟩) W.length cI) := (cell_of_block vB 1).trans rfl
          have vI : (wa.setCell ⟨X, 1, none⟩ (.int .i64 (L : Int))).cell? ⟨gI, oI + i, none⟩ = some (.int .i64 (j : Int)) := (World.cell?_of_block (heap_setCell_other wa ⟨X, 1, none⟩ gI _ (fun e => hXI e.symm))).trans DZ.out
          have CALL : Hid (Calls Try.prog 60 #[.pointer (some ⟨f, 0, none⟩), .int .i64 (j : Int), .agg #[.slice pB L cB, .int .i64 (L : Int)]] (wa.setCell ⟨X, 1, none⟩ (.int .i64 (L : Int))).drew fun e w' => e = .returned (.tuple #[]) ∧ Rf F w' f { s with fs := fs.set j (x1, L), ways := [W], left := 0, dead := false } ∧ Keep f (wa.setCell ⟨X, 1, none⟩ (.int .i64 (L : Int))).drew w') := set_any f j { s with fs := fs, ways := [W], left := 0, dead := false } (x1, L) _ _ _ ((FINR.out _ kb fb).grown ⟨rfl, rfl, rfl, Nat.le_refl _, fun _ _ _ => rfl⟩) ⟨rfl, RDX.out _ (kb.trans (Keep.grown (w' := (wa.setCell ⟨X, 1, none⟩ (.int .i64 (L : Int))).drew) ⟨rfl, rfl, rfl, Nat.le_refl _, fun _ _ _ => rfl⟩))⟩ hjj.out hMM.out
          have KB : Hid (Keep f w (wa.setCell ⟨X, 1, none⟩ (.int .i64 (L : Int))).drew) := (KR'.out.trans kb).trans (Keep.grown ⟨rfl, rfl, rfl, Nat.le_refl _, fun _ _ _ => rfl⟩)
          have VB := mkHid vB
          clear hz hb kb fb vB
          go_wp2_with fail
          obtain ⟨wb, hwb⟩ : ∃ wb, wb = wa.setCell ⟨X, 1, none⟩ (.int .i64 (L : Int)) := ⟨_, rfl⟩
          rw [← hwb] at CALL KB VB v0 v1 vB1 vI ⊢
          clear hwb
          refine wp_region_noPanic ?_
          refine wp_region_held_drew (S := fun w' => w'.cell? ⟨B, 1, none⟩ = some (.slice (some ⟨gI, oI, none⟩) W.length cI) ∧ w'.cell? ⟨gI, oI + i, none⟩ = some (.int .i64 (j : Int)) ∧ w'.cell? ⟨X, 0, none⟩ = some (.slice pB L cB) ∧ w'.cell? ⟨X, 1, none⟩ = some (.int .i64 (L : Int))) (by kernel_rfl) (⟨vB1, vI, v0, v1⟩) (fun hH => ?_)
          refine tKx (i := 0) (v := .pointer (some ⟨f, 0, none⟩)) rfl rfl (by kernel_rfl) (fun _ _ _ h => h) ?_ hH ?_
          · intro w5 hSw; obtain ⟨hv1, hv2, hv3, hv4⟩ := hSw; go_simp
          simp only [zA9, zB9, zC9]
          refine tKx (i := 1) (v := .pointer (some ⟨B, 1, none⟩)) rfl rfl (by kernel_rfl) (fun _ _ _ h => h) ?_ hH ?_
          · intro w5 hSw; obtain ⟨hv1, hv2, hv3, hv4⟩ := hSw; go_simp
          simp only [zA9, zB9, zC9]
          refine tKx (i := 2) (v := .slice (some ⟨gI, oI, none⟩) W.length cI) rfl rfl (by kernel_rfl) (fun _ _ _ h => h) ?_ hH ?_
          · intro w5 hSw; obtain ⟨hv1, hv2, hv3, hv4⟩ := hSw; go_simp
          simp only [zA9, zB9, zC9]
          refine tKx (i := 3) (v := .int .i64 (i : Int)) rfl rfl (by kernel_rfl) (fun _ _ _ h => h) ?_ hH ?_
          · intro w5 hSw; obtain ⟨hv1, hv2, hv3, hv4⟩ := hSw; go_simp
          simp only [zA9, zB9, zC9]
          refine tKx (i := 4) (v := .pointer (some ⟨gI, oI + i, none⟩)) rfl rfl (by kernel_rfl) (fun _ _ _ h => h) ?_ hH ?_
          · intro w5 hSw; obtain ⟨hv1, hv2, hv3, hv4⟩ := hSw; go_simp
          simp only [zA9, zB9, zC9]
          refine tKx (i := 5) (v := .int .i64 (j : Int)) rfl rfl (by kernel_rfl) (fun _ _ _ h => h) ?_ hH ?_
          · intro w5 hSw; obtain ⟨hv1, hv2, hv3, hv4⟩ := hSw; go_simp
          simp only [zA9, zB9, zC9]
          refine tKx (i := 6) (v := .agg #[.slice pB L cB, .int .i64 (L : Int)]) rfl rfl (by kernel_rfl) (fun _ _ _ h => h) ?_ hH ?_
          · intro w5 hSw; obtain ⟨hv1, hv2, hv3, hv4⟩ := hSw; go_simp
          simp only [zA9, zB9, zC9]
          refine wpAnyH_ready (rs := [7]) (by kernel_rfl) (by simp) ?_
          refine AllReadyH.cons rfl (fun K hK => ?_) AllReadyH.nil
          go_simp
          go_at_call 60
          refine CALL.out.mono ?_
          rintro e w6 ⟨rfl, R6, k6⟩
          have R6' := mkHid R6
          have B6 : Hid (w6.heap[B]? = some (.cells #[.slice vNP W.length vNC, .slice (some ⟨gI, oI, none⟩) W.length cI] 95 (0, 0))) := (k6.block B (lt_of_heap VB.out) hBf).trans VB.out
          have K6 : Hid (Keep f w w6) := KB.out.trans k6
          clear R6
          go_wp2_with fail
          refine hK.out _ _ ⟨cellC k6 vB1 hBf, cellC k6 vI hgI, cellC k6 v0 hXf, cellC k6 v1 hXf⟩ (fun _ => ?_)
          clear hK K hH k6
          refine wpAnyH_done (by kernel_rfl) ?_ _
          refine NoPanic.normal ?_
          go_wp2_with fail
          go_roundw
          case rel => exact ⟨t, i + 1, fs.set j (x1, L), by first | rfl | (congr 1; omega), by go_num, hlt, by omega, HRX.out.symm.trans HC.out, (by show _ = _; rw [List.length_set]; exact HL.out), all_set HX.out HZZ.out, R6', K6, B6⟩
          case measure => simp [intOf]; omega
      · have hlti : ¬ (i : Int) < (W.length : Int) := by omega
        obtain rfl : i = W.length := by omega
        have hE : crF keeps t (W.drop W.length) fs = fs := by rw [List.drop_length]; rfl
        have hC := HC.out
        rw [hE] at hC
        have hR := RR.out
        rw [hC] at hR
        have HR2 := mkHid hR
        clear hE hC hR HC HX RR HB HL
        go_wp2_with fail
        go_end0
        exact ⟨rfl, HR2.out, KR.out⟩
end Go.Proofs.Ytdiehlioemmakaa

