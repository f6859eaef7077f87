/-
  The walk of simfs's Clone.
-/
import Derived.Test.YtdiehlioemmakaaUN
namespace Go.Proofs.Ytdiehlioemmakaa
open Go.RowKit Go.Maps Go.Joins

theorem Dsk.clone {P : Nat → Prop} {w W : World} {base f : Nat} {q st : Int} {mo : Option Nat} {xs : List (List UInt8 × Fl)} {us : List Ux} (d : Dsk P w base f q st mo xs us) (g : w.grownBy W none) {f2 m2 : Nat} {ys : List (List UInt8 × Fl)} {ov2 : Value} (hF : FsAt W f2 q (some m2) ov2 st) (hfn : w.heap.size ≤ f2) (hr : W.ownsRow base 72 1 ov2 us.length (us.map Ux.val)) (hrn : ∀ g, ov2.ownBlock = some g → w.heap.size ≤ g) (hm : Mp W m2 ys) (hmn : w.heap.size ≤ m2) (hfl : Fls W base (ys.map (·.2))) (hf2 : ∀ z ∈ ys.map (·.2), w.heap.size ≤ z.b ∧ ∀ g, z.v.ownBlock = some g → w.heap.size ≤ g) : Dsk (ext (lostS us) w W) W base f2 q st (some m2) ys us := by
  have dW := d.kept g
  have hlb : ∀ y ∈ us.flatMap Ux.lost, y.b < w.heap.size ∧ ∀ g, y.v.ownBlock = some g → g < w.heap.size := fun y hy => by
    have ok := d.fl.ok y (List.mem_append_right _ hy)
    refine ⟨lt_of_heap ok.at_, fun g hg => ?_⟩
    obtain ⟨cs, hk⟩ := own_kind ok.row g hg
    exact lt_of_heap hk
  have nb := List.pairwise_append.1 dW.fl.nb
  have nv := List.pairwise_append.1 dW.fl.nv
  refine ⟨Nat.le_trans d.bs g.size, ext_bd d.bs g.size (fun i hi => d.pb i (d.lostP hi)), ext_new hfn (lt_of_heap hF), ⟨ov2, hF, hr, fun g' hg => ?_⟩, fun m' e => ?_, (fun e => by cases e), ⟨fun x hx => ?_, List.pairwise_append.2 ⟨hfl.nb, nb.2.1, fun x hx y hy e => ?_⟩, List.pairwise_append.2 ⟨hfl.nv, nv.2.1, fun x hx y hy g' hg e => ?_⟩⟩, fun x hx => ?_, fun u hu => ?_⟩
  · obtain ⟨cs, hk⟩ := own_kind hr g' hg
    exact ext_new (hrn g' hg) (lt_of_heap hk)
  · cases e
    obtain ⟨es, c, hk⟩ := hm.kind
    exact ⟨ext_new hmn (lt_of_heap hk), hm⟩
  · rcases List.mem_append.1 hx with hx | hx
    · exact hfl.ok x hx
    · exact dW.fl.ok x (List.mem_append_right _ hx)
  · have := (hf2 x hx).1; have := (hlb y hy).1; omega
  · have := (hf2 x hx).2 g' hg; have := (hlb y hy).2 g' e; omega
  · rcases List.mem_append.1 hx with hx | hx
    · refine ⟨ext_new (hf2 x hx).1 (lt_of_heap (hfl.ok x hx).at_), fun g' hg => ?_⟩
      obtain ⟨cs, hk⟩ := own_kind (hfl.ok x hx).row g' hg
      exact ext_new ((hf2 x hx).2 g' hg) (lt_of_heap hk)
    · exact ⟨ext_le (Or.inr ⟨x, hx, Or.inl rfl⟩), fun g' hg => ext_le (Or.inr ⟨x, hx, Or.inr hg⟩)⟩
  · have k := dW.un u hu
    exact ⟨ext_le (Or.inl ⟨u, hu, Or.inl rfl⟩), k.c, fun y hy => ⟨ext_le (Or.inl ⟨u, hu, Or.inr (Or.inl ⟨y, hy, rfl⟩)⟩), (k.r y hy).2⟩, fun z hz => ⟨ext_le (Or.inl ⟨u, hu, Or.inr (Or.inr ⟨z, hz, rfl⟩)⟩), (k.l z hz).2⟩⟩
theorem Mp.keptR {w w' : World} {m : Nat} {ys : List (List UInt8 × Fl)} {row : Option Nat} (h : Mp w m ys) (hg : w.grownBy w' row) (hr : some m ≠ row) : Mp w' m ys := by
  unfold Mp at h ⊢
  exact World.ownsMap.kept h hg hr
theorem Mp.kept {w w' : World} {m : Nat} {ys : List (List UInt8 × Fl)} (h : Mp w m ys) (hg : w.grownBy w' none) : Mp w' m ys := h.keptR hg (by simp)
theorem key_str {x : ByteArray} {n : List UInt8} (h : keyOf Try.prog 9 (.string x) = some (.string n)) : x = ⟨n.toArray⟩ := by
  have e : x.data.toList = n := by
    obtain ⟨s, e1, e2, _⟩ := WideMaps.string_of_keyOf strT h
    cases e1; cases e2; rfl
  rw [← e]
theorem mkHint (w : World) (n : Int) : (Instr.makeMap 64 (some (.int .i64 n))).run Try.prog w = .ok (.map (some w.heap.size)) (w.alloc (.map #[] 0)) := by
  simp [Instr.makeMap, run_underlying mapT, asInt, asIntOf]
/-- how far the files are copied -/
structure CpQ (w wr : World) (base m2 : Nat) (A B : Ab') : Prop where
  h : ∃ ys, Mp wr m2 ys ∧ Fls wr base (ys.map (·.2)) ∧ absX ys = B ∧ ∀ z ∈ ys.map (·.2), w.heap.size ≤ z.b ∧ ∀ g, z.v.ownBlock = some g → w.heap.size ≤ g
  g : w.grownBy wr none
def ClQ {P : Nat → Prop} {w : World} {base f : Nat} {q st : Int} {mo : Option Nat} {xs : List (List UInt8 × Fl)} {us : List Ux} (_ : Dsk P w base f q st mo xs us) (e : Ending) (w' : World) : Prop := ∃ f2 m2 xs2, e = .returned (.pointer (some ⟨f2, 0, none⟩)) ∧ absX xs2 = absX xs ∧ Dsk (ext (lostS us) w w') w' base f2 q st (some m2) xs2 us ∧ w.grownBy w' none ∧ w.heap.size ≤ f2
set_option maxHeartbeats 8000000 in
set_option maxRecDepth 1000000 in
theorem Clone_dsk {P : Nat → Prop} (base f : Nat) (q st : Int) (mo : Option Nat) (xs : List (List UInt8 × Fl)) (us : List Ux) (w : World) (so : SrtN xs) (hl : xs.length ≤ 64) (hn : ∀ p ∈ xs, p.1.length ≤ 64) (hu : us.length ≤ 9000000) (d : Dsk P w base f q st mo xs us) :
    Calls Try.prog 8 #[.pointer (some ⟨f, 0, none⟩)] w fun e w' => ClQ d e w' := by
  obtain ⟨ov, h1, h2, h3⟩ := d.fs
  obtain ⟨Po, Co, hov⟩ := row_form h2
  subst hov
  obtain ⟨N, hN⟩ : ∃ N, N = us.length := ⟨_, rfl⟩
  have HN := mkHid hN
  rw [← hN] at h1 h2 hu
  obtain ⟨c0, c1, c2, c3, cf⟩ := h1.c
  have H2 := mkHid h2
  cases mo with
  | none =>
    have hmn := d.mn rfl
    have LN := fun ty => d.len ty
    have mk := mkHint w (((xs.length : Nat) : Int))
    obtain ⟨M2, hM2⟩ : ∃ M2, M2 = w.heap.size := ⟨_, rfl⟩
    obtain ⟨W1, hW1⟩ : ∃ W1, W1 = (w.alloc (.map #[] 0)).alloc (.mapIter none 0 #[] 0) := ⟨_, rfl⟩
    have hit : W1.heap[(w.alloc (.map #[] 0)).heap.size]? = some (.mapIter none 0 #[] 0) := by rw [hW1]; exact heap_alloc_new _ _
    have g1 : w.grownBy W1 none := by rw [hW1]; exact grTrans (World.grownBy_alloc w _ none) (World.grownBy_alloc _ _ none)
    have HQ0 : Hid (CpQ w W1 base M2 (absX xs) (absX xs)) := by
      refine ⟨⟨[], ?_, ⟨fun x hx => by simp at hx, List.Pairwise.nil, List.Pairwise.nil⟩, by rw [hmn.1], fun z hz => by simp at hz⟩, g1⟩
      have m0 : Mp (w.alloc (.map #[] 0)) w.heap.size [] := World.ownsMap_made w Try.prog 9 ptrR
      rw [hW1, hM2]
      exact m0.kept (World.grownBy_alloc _ _ none)
    have HM2 : Hid (w.heap.size ≤ M2) := by rw [hM2]; exact Nat.le_refl _
    have k0 := g1.cell c0 (by simp)
    have k2 := g1.cell c2 (by simp)
    have k3 := g1.cell c3 (by simp)
    have CB : Hid (∀ W, W1.grownBy W none → Calls Try.prog 28 #[.slice Po N Co] W fun e w' => ∃ v', e = .returned v' ∧ w'.ownsRow W.heap.size 72 1 v' N (us.map Ux.val) ∧ W.grownBy w' none) := fun W hg => CloneB_any base N (.slice Po N Co) (us.map Ux.val) W (World.ownsRow.kept H2.out (grTrans g1 hg) (by cases (Value.slice Po N Co).ownBlock <;> simp)) hu (fun u hu => by obtain ⟨x, _, rfl⟩ := List.mem_map.1 hu; exact uxv_one x)
    obtain ⟨r, hr⟩ : ∃ r, r = (w.alloc (.map #[] 0)).heap.size := ⟨_, rfl⟩
    rw [← hr] at hit
    clear h1 h2 h3 so hl hn g1 hmn hN
    have hflt := lt_of_heap d.fs.choose_spec.1
    go_enter Try.func8, Try.ntmps8
    go_wp2_with (first
      | (at_range; refine wpList_range_none _ rfl _ 64 9 68 rfl mapT rfl ?_)
      | go_in)
    rw [← hW1, ← hr, ← hM2]
    clear hW1 hr hM2 mk
    go_frame
    go_loopw [] (fun wr => wr = W1) (fun _ => 0)
    case atStart => rfl
    case round =>
      obtain rfl := hrel
      have HQ := HQ0
      go_wp2_with (first
        | (at_next; refine wpList_next_none _ rfl _ rfl r rfl hit ?_)
        | go_in)
      refine wp_region_noPanic ?_
      refine wp_region_held_drew (S := fun w' : World => w'.cell? ⟨f, 0, none⟩ = some (.int .i64 q) ∧ w'.cell? ⟨f, 2, none⟩ = some (.slice Po N Co) ∧ w'.cell? ⟨f, 3, none⟩ = some (.int .i64 st)) (by kernel_rfl) (⟨k0, k2, k3⟩) (fun hH => ?_)
      refine tKx (i := 0) (v := .pointer (some ⟨f, 0, none⟩)) rfl rfl (by kernel_rfl) (fun _ _ _ h => h) ?_ hH ?_
      · intro w5 hSw; obtain ⟨c0, c2, c3⟩ := hSw; go_simp
      simp only [zA9, zB9, zC9]
      refine tKx (i := 1) (v := .pointer (some ⟨f, 0, none⟩)) rfl rfl (by kernel_rfl) (fun _ _ _ h => h) ?_ hH ?_
      · intro w5 hSw; obtain ⟨c0, c2, c3⟩ := hSw; go_simp
      simp only [zA9, zB9, zC9]
      refine tKx (i := 2) (v := .pointer (some ⟨f, 0, none⟩)) rfl rfl (by kernel_rfl) (fun _ _ _ h => h) ?_ hH ?_
      · intro w5 hSw; obtain ⟨c0, c2, c3⟩ := hSw; go_simp
      simp only [zA9, zB9, zC9]
      refine tKx (i := 3) (v := .int .i64 q) rfl rfl (by kernel_rfl) (fun _ _ _ h => h) ?_ hH ?_
      · intro w5 hSw; obtain ⟨c0, c2, c3⟩ := hSw; go_simp
      simp only [zA9, zB9, zC9]
      refine tKx (i := 4) (v := .map (some M2)) rfl rfl (by kernel_rfl) (fun _ _ _ h => h) ?_ hH ?_
      · intro w5 hSw; obtain ⟨c0, c2, c3⟩ := hSw; go_simp
      simp only [zA9, zB9, zC9]
      refine tKx (i := 5) (v := .pointer (some ⟨f, 0, none⟩)) rfl rfl (by kernel_rfl) (fun _ _ _ h => h) ?_ hH ?_
      · intro w5 hSw; obtain ⟨c0, c2, c3⟩ := hSw; go_simp
      simp only [zA9, zB9, zC9]
      refine tKx (i := 6) (v := .pointer (some ⟨f, 0, none⟩)) rfl rfl (by kernel_rfl) (fun _ _ _ h => h) ?_ hH ?_
      · intro w5 hSw; obtain ⟨c0, c2, c3⟩ := hSw; go_simp
      simp only [zA9, zB9, zC9]
      refine tKx (i := 7) (v := .pointer (some ⟨f, 2, none⟩)) rfl rfl (by kernel_rfl) (fun _ _ _ h => h) ?_ hH ?_
      · intro w5 hSw; obtain ⟨c0, c2, c3⟩ := hSw; go_simp
      simp only [zA9, zB9, zC9]
      refine tKx (i := 8) (v := .slice Po N Co) rfl rfl (by kernel_rfl) (fun _ _ _ h => h) ?_ hH ?_
      · intro w5 hSw; obtain ⟨c0, c2, c3⟩ := hSw; go_simp
      simp only [zA9, zB9, zC9]
      refine tKx (i := 10) (v := .pointer (some ⟨f, 0, none⟩)) rfl rfl (by kernel_rfl) (fun _ _ _ h => h) ?_ hH ?_
      · intro w5 hSw; obtain ⟨c0, c2, c3⟩ := hSw; go_simp
      simp only [zA9, zB9, zC9]
      refine tKx (i := 11) (v := .pointer (some ⟨f, 0, none⟩)) rfl rfl (by kernel_rfl) (fun _ _ _ h => h) ?_ hH ?_
      · intro w5 hSw; obtain ⟨c0, c2, c3⟩ := hSw; go_simp
      simp only [zA9, zB9, zC9]
      refine tKx (i := 12) (v := .pointer (some ⟨f, 3, none⟩)) rfl rfl (by kernel_rfl) (fun _ _ _ h => h) ?_ hH ?_
      · intro w5 hSw; obtain ⟨c0, c2, c3⟩ := hSw; go_simp
      simp only [zA9, zB9, zC9]
      refine tKx (i := 13) (v := .int .i64 st) rfl rfl (by kernel_rfl) (fun _ _ _ h => h) ?_ hH ?_
      · intro w5 hSw; obtain ⟨c0, c2, c3⟩ := hSw; go_simp
      simp only [zA9, zB9, zC9]
      refine wpAnyH_ready (rs := [9]) (by kernel_rfl) (by simp) ?_
      refine AllReadyH.cons rfl (fun K hK => ?_) AllReadyH.nil
      go_simp
      go_at_call 28
      refine (CB.out wr.drew (gr_drew wr)).mono ?_
      rintro e w4 ⟨v4, rfl, r4, g4⟩
      obtain ⟨P4, C4, hv4⟩ := row_form r4
      have hv4' : v4 = .slice P4 N C4 := hv4
      subst hv4'
      have G4 := mkHid (grTrans (gr_drew wr) g4)
      have R4 := mkHid r4
      clear r4 g4 hv4
      go_wp2_with fail
      refine hK.out _ _ ⟨G4.out.cell k0 (by simp), G4.out.cell k2 (by simp), G4.out.cell k3 (by simp)⟩ (fun hH => ?_)
      clear hK K
      refine tKx (i := 14) (v := .agg #[.int .i64 q, .map (some M2), .slice P4 N C4, .int .i64 st]) rfl rfl (by kernel_rfl) (fun _ _ _ h => h) ?_ hH ?_
      · intro w5 hSw; obtain ⟨c0, c2, c3⟩ := hSw; go_simp
      simp only [zA9, zB9, zC9]
      refine wpAnyH_ready (rs := [15]) (by kernel_rfl) (by simp) ?_
      refine AllReadyH.cons rfl (fun K hK => ?_) AllReadyH.nil
      go_simp
      have ga := World.grownBy_alloc w4 (.cells #[.int .i64 q, .map (some M2), .slice P4 N C4, .int .i64 st] 67) none
      have FIN : Hid (ClQ d (.returned (.pointer (some ⟨w4.heap.size, 0, none⟩))) (w4.alloc (.cells #[.int .i64 q, .map (some M2), .slice P4 N C4, .int .i64 st] 67))) := by
        obtain ⟨⟨ys, mp, fl, ab, nw⟩, gr⟩ := HQ.out
        have gW := grTrans (grTrans gr G4.out) ga
        have g24 := grTrans G4.out ga
        refine ⟨w4.heap.size, M2, ys, rfl, ab, d.clone gW (heap_alloc_new _ _) (Nat.le_trans gr.size G4.out.size) ?_ (fun g hg => ?_) (mp.kept g24) HM2.out (fl.kept g24 (fun r e => by cases e)) nw, gW, Nat.le_trans gr.size G4.out.size⟩
        · refine rebase (World.ownsRow.kept (show w4.ownsRow _ 72 1 (.slice P4 N C4) us.length _ from by rw [← show N = us.length from HN.out]; exact R4.out) ga (by cases (Value.slice P4 N C4).ownBlock <;> simp)) (fun g hg => ?_)
          rcases R4.out.2 with ⟨e, _⟩ | ⟨g', _, _, e, hge, _⟩
          · rw [e] at hg; cases hg
          · rw [e] at hg; cases hg; exact Nat.le_trans (Nat.le_trans d.bs gr.size) hge
        · rcases R4.out.2 with ⟨e, _⟩ | ⟨g', _, _, e, hge, _⟩
          · rw [e] at hg; cases hg
          · rw [e] at hg; cases hg; exact Nat.le_trans gr.size hge
      have K4 : Hid ((w4.alloc (.cells #[.int .i64 q, .map (some M2), .slice P4 N C4, .int .i64 st] 67)).cell? ⟨f, 0, none⟩ = some (.int .i64 q) ∧ (w4.alloc (.cells #[.int .i64 q, .map (some M2), .slice P4 N C4, .int .i64 st] 67)).cell? ⟨f, 2, none⟩ = some (.slice Po N Co) ∧ (w4.alloc (.cells #[.int .i64 q, .map (some M2), .slice P4 N C4, .int .i64 st] 67)).cell? ⟨f, 3, none⟩ = some (.int .i64 st)) := ⟨ga.cell (G4.out.cell k0 (by simp)) (by simp), ga.cell (G4.out.cell k2 (by simp)) (by simp), ga.cell (G4.out.cell k3 (by simp)) (by simp)⟩
      clear ga
      refine hK.out _ _ K4.out (fun hH => ?_)
      clear hK K
      refine tKx (i := 16) (v := .pointer (some ⟨w4.heap.size, 0, none⟩)) rfl rfl (by kernel_rfl) (fun _ _ _ h => h) ?_ hH ?_
      · intro w5 hSw; obtain ⟨c0, c2, c3⟩ := hSw; go_simp
      simp only [zA9, zB9, zC9]
      refine wpAnyH_done (by kernel_rfl) ?_ _
      refine NoPanic.normal ?_
      go_wp2_with fail
      go_ret
      exact FIN.out
  | some m =>
    have LN := fun ty => d.len ty
    have mk := mkHint w (((xs.length : Nat) : Int))
    have hm := (d.mp m rfl).2
    have hnd := hm.names
    obtain ⟨M2, hM2⟩ : ∃ M2, M2 = w.heap.size := ⟨_, rfl⟩
    obtain ⟨W0, hW0⟩ : ∃ W0, W0 = w.alloc (.map #[] 0) := ⟨_, rfl⟩
    have g0 : w.grownBy W0 none := by rw [hW0]; exact World.grownBy_alloc w _ none
    have m0 : Mp W0 M2 [] := by rw [hW0, hM2]; exact World.ownsMap_made w Try.prog 9 ptrR
    have hmW : (w.alloc (.map #[] 0)).ownsMap Try.prog 9 ptrR m xs.length (DataW.map (xs.map ent)) := by
      unfold Mp at hm
      exact hm.kept (World.grownBy_alloc w _ none) (by simp)
    have HM2 : Hid (w.heap.size ≤ M2) := by rw [hM2]; exact Nat.le_refl _
    have hMm : M2 ≠ m := by
      obtain ⟨es, c, hk⟩ := hm.kind
      have := lt_of_heap hk
      rw [hM2]; omega
    obtain ⟨r, hr⟩ : ∃ r, r = W0.heap.size := ⟨_, rfl⟩
    have hrw : w.heap.size ≤ r := by rw [hr]; exact g0.size
    have hrM : r ≠ M2 := by rw [hr, hM2, hW0]; simp
    have HQ0 : Hid (∀ W, W0.grownBy W none → CpQ w W base M2 (absX xs) []) := fun W g => ⟨⟨[], m0.kept g, ⟨fun x hx => by simp at hx, List.Pairwise.nil, List.Pairwise.nil⟩, rfl, fun z hz => by simp at hz⟩, grTrans g0 g⟩
    have CB0 : Hid (∀ wr, w.grownBy wr none → ∀ W, wr.grownBy W none → Calls Try.prog 28 #[.slice Po N Co] W fun e w' => ∃ v', e = .returned v' ∧ w'.ownsRow W.heap.size 72 1 v' N (us.map Ux.val) ∧ W.grownBy w' none) := fun wr h1 W hg => CloneB_any base N (.slice Po N Co) (us.map Ux.val) W (World.ownsRow.kept H2.out (grTrans h1 hg) (by cases (Value.slice Po N Co).ownBlock <;> simp)) hu (fun u hu => by obtain ⟨x, _, rfl⟩ := List.mem_map.1 hu; exact uxv_one x)
    have K0 : Hid (∀ wr, w.grownBy wr none → wr.cell? ⟨f, 0, none⟩ = some (.int .i64 q) ∧ wr.cell? ⟨f, 2, none⟩ = some (.slice Po N Co) ∧ wr.cell? ⟨f, 3, none⟩ = some (.int .i64 st)) := fun wr g => ⟨g.cell c0 (by simp), g.cell c2 (by simp), g.cell c3 (by simp)⟩
    have c1W := g0.cell c1 (by simp)
    have SO := mkHid (abs_srt.2 so)
    have HNM := mkHid hn
    have FLK : Hid (∀ p ∈ xs, FlOk w base p.2) := fun p hp => d.fl.ok p.2 (List.mem_append_left _ (List.mem_map_of_mem hp))
    have HBS := mkHid d.bs
    have hflt := lt_of_heap h1
    clear h1 h2 h3 so hn g0 m0 hN hm
    go_enter Try.func8, Try.ntmps8
    go_wp2_with (first
      | (at_range; refine wpList_range_own _ rfl _ 64 rfl 9 68 keyS mapT ptrR m xs.length _ rfl hmW ?_; intro w0 hrg0 hg0 hs0)
      | go_in)
    rw [← hW0] at hrg0 hg0 hs0 ⊢
    rw [← hr] at hrg0 ⊢
    rw [← hM2]
    clear mk hmW hM2 hr hW0
    go_frame
    go_loopw [4, 5] (fun _ _ wr => ∃ (left : Lit → Bool) (cnt : Nat), wr.ranges Try.prog 9 ptrR m r xs.length (DataW.map (xs.map ent)) left cnt ∧ Hid (CpQ w wr base M2 (absX xs) (gone left (absX xs)))) (fun _ _ wr => wr.rangeLeft m r)
    case atStart => exact ⟨_, _, hrg0, by
      have := HQ0.out w0 hg0
      rw [gone_none (fun p hp => by
        obtain ⟨x, hx, rfl⟩ := List.mem_map.1 hp
        exact has_ent hx)]
      exact this⟩
    case round =>
      obtain ⟨left, cnt, hrg, HQ⟩ := hrel
      go_wp2_with (first
        | (at_next; refine wpList_next_ranges _ rfl _ rfl 9 keyS ptrR Value.string Value.pointer (fun key kl hk => keyStr hk) (fun v y hv => by rcases ptrR_inv hv with ⟨rfl, _⟩ | ⟨b, rfl, _⟩ <;> exact ⟨_, rfl⟩) m r xs.length _ _ _ rfl hrg ?_ ?_)
        | go_in)
      · intro _ hl0
        rw [gone_all hl0] at HQ
        obtain ⟨k0, k2, k3⟩ := K0.out wr HQ.out.g
        have CB := mkHid (CB0.out wr HQ.out.g)
        clear hrg
        go_wp2_with fail
        refine wp_region_noPanic ?_
        refine wp_region_held_drew (S := fun w' : World => w'.cell? ⟨f, 0, none⟩ = some (.int .i64 q) ∧ w'.cell? ⟨f, 2, none⟩ = some (.slice Po N Co) ∧ w'.cell? ⟨f, 3, none⟩ = some (.int .i64 st)) (by kernel_rfl) (⟨k0, k2, k3⟩) (fun hH => ?_)
        refine tKx (i := 0) (v := .pointer (some ⟨f, 0, none⟩)) rfl rfl (by kernel_rfl) (fun _ _ _ h => h) ?_ hH ?_
        · intro w5 hSw; obtain ⟨c0, c2, c3⟩ := hSw; go_simp
        simp only [zA9, zB9, zC9]
        refine tKx (i := 1) (v := .pointer (some ⟨f, 0, none⟩)) rfl rfl (by kernel_rfl) (fun _ _ _ h => h) ?_ hH ?_
        · intro w5 hSw; obtain ⟨c0, c2, c3⟩ := hSw; go_simp
        simp only [zA9, zB9, zC9]
        refine tKx (i := 2) (v := .pointer (some ⟨f, 0, none⟩)) rfl rfl (by kernel_rfl) (fun _ _ _ h => h) ?_ hH ?_
        · intro w5 hSw; obtain ⟨c0, c2, c3⟩ := hSw; go_simp
        simp only [zA9, zB9, zC9]
        refine tKx (i := 3) (v := .int .i64 q) rfl rfl (by kernel_rfl) (fun _ _ _ h => h) ?_ hH ?_
        · intro w5 hSw; obtain ⟨c0, c2, c3⟩ := hSw; go_simp
        simp only [zA9, zB9, zC9]
        refine tKx (i := 4) (v := .map (some M2)) rfl rfl (by kernel_rfl) (fun _ _ _ h => h) ?_ hH ?_
        · intro w5 hSw; obtain ⟨c0, c2, c3⟩ := hSw; go_simp
        simp only [zA9, zB9, zC9]
        refine tKx (i := 5) (v := .pointer (some ⟨f, 0, none⟩)) rfl rfl (by kernel_rfl) (fun _ _ _ h => h) ?_ hH ?_
        · intro w5 hSw; obtain ⟨c0, c2, c3⟩ := hSw; go_simp
        simp only [zA9, zB9, zC9]
        refine tKx (i := 6) (v := .pointer (some ⟨f, 0, none⟩)) rfl rfl (by kernel_rfl) (fun _ _ _ h => h) ?_ hH ?_
        · intro w5 hSw; obtain ⟨c0, c2, c3⟩ := hSw; go_simp
        simp only [zA9, zB9, zC9]
        refine tKx (i := 7) (v := .pointer (some ⟨f, 2, none⟩)) rfl rfl (by kernel_rfl) (fun _ _ _ h => h) ?_ hH ?_
        · intro w5 hSw; obtain ⟨c0, c2, c3⟩ := hSw; go_simp
        simp only [zA9, zB9, zC9]
        refine tKx (i := 8) (v := .slice Po N Co) rfl rfl (by kernel_rfl) (fun _ _ _ h => h) ?_ hH ?_
        · intro w5 hSw; obtain ⟨c0, c2, c3⟩ := hSw; go_simp
        simp only [zA9, zB9, zC9]
        refine tKx (i := 10) (v := .pointer (some ⟨f, 0, none⟩)) rfl rfl (by kernel_rfl) (fun _ _ _ h => h) ?_ hH ?_
        · intro w5 hSw; obtain ⟨c0, c2, c3⟩ := hSw; go_simp
        simp only [zA9, zB9, zC9]
        refine tKx (i := 11) (v := .pointer (some ⟨f, 0, none⟩)) rfl rfl (by kernel_rfl) (fun _ _ _ h => h) ?_ hH ?_
        · intro w5 hSw; obtain ⟨c0, c2, c3⟩ := hSw; go_simp
        simp only [zA9, zB9, zC9]
        refine tKx (i := 12) (v := .pointer (some ⟨f, 3, none⟩)) rfl rfl (by kernel_rfl) (fun _ _ _ h => h) ?_ hH ?_
        · intro w5 hSw; obtain ⟨c0, c2, c3⟩ := hSw; go_simp
        simp only [zA9, zB9, zC9]
        refine tKx (i := 13) (v := .int .i64 st) rfl rfl (by kernel_rfl) (fun _ _ _ h => h) ?_ hH ?_
        · intro w5 hSw; obtain ⟨c0, c2, c3⟩ := hSw; go_simp
        simp only [zA9, zB9, zC9]
        refine wpAnyH_ready (rs := [9]) (by kernel_rfl) (by simp) ?_
        refine AllReadyH.cons rfl (fun K hK => ?_) AllReadyH.nil
        go_simp
        go_at_call 28
        refine (CB.out wr.drew (gr_drew wr)).mono ?_
        rintro e w4 ⟨v4, rfl, r4, g4⟩
        obtain ⟨P4, C4, hv4⟩ := row_form r4
        have hv4' : v4 = .slice P4 N C4 := hv4
        subst hv4'
        have G4 := mkHid (grTrans (gr_drew wr) g4)
        have R4 := mkHid r4
        clear r4 g4 hv4
        go_wp2_with fail
        refine hK.out _ _ ⟨G4.out.cell k0 (by simp), G4.out.cell k2 (by simp), G4.out.cell k3 (by simp)⟩ (fun hH => ?_)
        clear hK K
        refine tKx (i := 14) (v := .agg #[.int .i64 q, .map (some M2), .slice P4 N C4, .int .i64 st]) rfl rfl (by kernel_rfl) (fun _ _ _ h => h) ?_ hH ?_
        · intro w5 hSw; obtain ⟨c0, c2, c3⟩ := hSw; go_simp
        simp only [zA9, zB9, zC9]
        refine wpAnyH_ready (rs := [15]) (by kernel_rfl) (by simp) ?_
        refine AllReadyH.cons rfl (fun K hK => ?_) AllReadyH.nil
        go_simp
        have ga := World.grownBy_alloc w4 (.cells #[.int .i64 q, .map (some M2), .slice P4 N C4, .int .i64 st] 67) none
        have FIN : Hid (ClQ d (.returned (.pointer (some ⟨w4.heap.size, 0, none⟩))) (w4.alloc (.cells #[.int .i64 q, .map (some M2), .slice P4 N C4, .int .i64 st] 67))) := by
          obtain ⟨⟨ys, mp, fl, ab, nw⟩, gr⟩ := HQ.out
          have gW := grTrans (grTrans gr G4.out) ga
          have g24 := grTrans G4.out ga
          refine ⟨w4.heap.size, M2, ys, rfl, ab, d.clone gW (heap_alloc_new _ _) (Nat.le_trans gr.size G4.out.size) ?_ (fun g hg => ?_) (mp.kept g24) HM2.out (fl.kept g24 (fun r e => by cases e)) nw, gW, Nat.le_trans gr.size G4.out.size⟩
          · refine rebase (World.ownsRow.kept (show w4.ownsRow _ 72 1 (.slice P4 N C4) us.length _ from by rw [← show N = us.length from HN.out]; exact R4.out) ga (by cases (Value.slice P4 N C4).ownBlock <;> simp)) (fun g hg => ?_)
            rcases R4.out.2 with ⟨e, _⟩ | ⟨g', _, _, e, hge, _⟩
            · rw [e] at hg; cases hg
            · rw [e] at hg; cases hg; exact Nat.le_trans (Nat.le_trans d.bs gr.size) hge
          · rcases R4.out.2 with ⟨e, _⟩ | ⟨g', _, _, e, hge, _⟩
            · rw [e] at hg; cases hg
            · rw [e] at hg; cases hg; exact Nat.le_trans gr.size hge
        have K4 : Hid ((w4.alloc (.cells #[.int .i64 q, .map (some M2), .slice P4 N C4, .int .i64 st] 67)).cell? ⟨f, 0, none⟩ = some (.int .i64 q) ∧ (w4.alloc (.cells #[.int .i64 q, .map (some M2), .slice P4 N C4, .int .i64 st] 67)).cell? ⟨f, 2, none⟩ = some (.slice Po N Co) ∧ (w4.alloc (.cells #[.int .i64 q, .map (some M2), .slice P4 N C4, .int .i64 st] 67)).cell? ⟨f, 3, none⟩ = some (.int .i64 st)) := ⟨ga.cell (G4.out.cell k0 (by simp)) (by simp), ga.cell (G4.out.cell k2 (by simp)) (by simp), ga.cell (G4.out.cell k3 (by simp)) (by simp)⟩
        clear ga
        refine hK.out _ _ K4.out (fun hH => ?_)
        clear hK K
        refine tKx (i := 16) (v := .pointer (some ⟨w4.heap.size, 0, none⟩)) rfl rfl (by kernel_rfl) (fun _ _ _ h => h) ?_ hH ?_
        · intro w5 hSw; obtain ⟨c0, c2, c3⟩ := hSw; go_simp
        simp only [zA9, zB9, zC9]
        refine wpAnyH_done (by kernel_rfl) ?_ _
        refine NoPanic.normal ?_
        go_wp2_with fail
        go_ret
        exact FIN.out
      · intro x c kl y yp w1 cnt1 hkey hlk hv hat hrg1 hlt1 hg1 hs1 hen
        obtain ⟨p, hp, rfl, hy⟩ := found hat
        have hx : x = ⟨p.1.toArray⟩ := key_str hkey
        have hc : c = some ⟨p.2.b, 0, none⟩ := by
          rcases ptrR_inv hv with ⟨_, e⟩ | ⟨b, e1, e2⟩
          · cases e; cases hy
          · cases e2
            have : (b : Int) = (p.2.b : Int) := by simpa using hy
            have : b = p.2.b := by omega
            cases e1; rw [this]
        subst hc
        subst hx
        obtain ⟨⟨ys, mp, fl, ab, nw⟩, gr⟩ := HQ.out
        have g1 : w.grownBy w1 none := gr.andThen hg1 (fun j hj => by cases hj; exact Or.inl hrw)
        have hrk : other wr.heap[r]? := by
          obtain ⟨es, clock, since, seen, c0, hb, _, _, _, hr5, _⟩ := hrg
          rw [hr5]; exact fun cs fr => ⟨by simp, by simp⟩
        have mp1 : Mp w1 M2 ys := mp.keptR hg1 (by simp; exact fun e => hrM e.symm)
        have fl1 : Fls w1 base (ys.map (·.2)) := fl.kept hg1 (fun r' e => by cases e; exact hrk)
        have okp : FlOk w1 base p.2 := (FLK.out p hp).kept g1 (by simp) (by cases p.2.v.ownBlock <;> simp)
        have CP := mkHid (copied_ok base p.2 w1 okp (Nat.le_trans HBS.out g1.size))
        have hll := HNM.out p hp
        have ST : Hid (∀ b v w2, w1.heap.size ≤ b → FlOk w2 base ⟨b, v, p.2.l, p.2.k⟩ → (∀ g, v.ownBlock = some g → w1.heap.size ≤ g) → w1.grownBy w2 none → ∃ w3, (Instr.mapUpdate 64 (.map (some M2)) (.string ⟨p.1.toArray⟩) (.pointer (some ⟨b, 0, none⟩))).run Try.prog w2 = .ok () w3 ∧ w3.ranges Try.prog 9 ptrR m r xs.length (DataW.map (xs.map ent)) (fun z => left z && !z.sameKey (.string p.1)) cnt1 ∧ CpQ w w3 base M2 (absX xs) (gone (fun z => left z && !z.sameKey (.string p.1)) (absX xs))) := fun b v w2 hb ok2 hv2 g2 => by
          have hyl : ys.length ≤ 64 := by
            rw [← abs_len, ab]
            refine Nat.le_trans (List.length_filter_le _ _) ?_
            rw [abs_len]; exact hl
          obtain ⟨w3, run3, mp3, g3⟩ := (mp1.kept g2).store p.1 ⟨b, v, p.2.l, p.2.k⟩ (by unfold maxLen; omega) (by omega)
          obtain ⟨es, ck, hk⟩ := (mp1.kept g2).kind
          have oth : ∀ r', (some M2 : Option Nat) = some r' → other w2.heap[r']? := fun r' e => by cases e; rw [hk]; exact fun cs fr => ⟨by simp, by simp⟩
          have ok3 : FlOk w3 base ⟨b, v, p.2.l, p.2.k⟩ := by
            refine ok2.kept g3 (fun e => ?_) ?_
            · cases e; rw [ok2.at_] at hk; cases hk
            · cases hv9 : v.ownBlock with
              | none => exact Or.inl rfl
              | some g =>
                refine Or.inr (fun e => ?_)
                cases e
                obtain ⟨cs, hk2⟩ := own_kind ok2.row _ hv9
                rw [hk2] at hk; cases hk
          have fl3 := (fl1.kept g2 (fun r' e => by cases e)).kept g3 oth
          have hdel : delN p.1 ys = ys := List.filter_eq_self.2 (fun z hz => by
            have hm5 : (z.1, (z.2.l, z.2.k)) ∈ gone left (absX xs) := by rw [← ab]; exact List.mem_map.2 ⟨z, hz, rfl⟩
            have h6 := (List.mem_filter.1 hm5).2
            have hne : z.1 ≠ p.1 := fun e => by
              have h7 : (!left (.string z.1)) = true := h6
              rw [e, hlk] at h7; cases h7
            simp [hne])
          have hperm : ((putN p.1 (⟨b, v, p.2.l, p.2.k⟩ : Fl) ys).map (·.2)).Perm (⟨b, v, p.2.l, p.2.k⟩ :: ys.map (·.2)) := by
            have := (put_perm p.1 (⟨b, v, p.2.l, p.2.k⟩ : Fl) ys).map (·.2)
            rw [hdel] at this
            exact this
          have hne : ∀ z ∈ ys.map (·.2), z.b ≠ b ∧ ∀ g, z.v.ownBlock = some g → v.ownBlock ≠ some g := fun z hz => by
            have okz := fl1.ok z hz
            refine ⟨fun e => ?_, fun g hg e => ?_⟩
            · have := lt_of_heap okz.at_; omega
            · obtain ⟨cs, hk2⟩ := own_kind okz.row g hg
              have := lt_of_heap hk2; have := hv2 g e; omega
          refine ⟨w3, run3, (hrg1.kept g2 (by simp) (by simp)).kept g3 (by simp; exact fun e => hMm e.symm) (by simp; exact hrM), ⟨_, mp3, ?_, ?_, fun z hz => ?_⟩, ?_⟩
          · have f4 : Fls w3 base ((⟨b, v, p.2.l, p.2.k⟩ : Fl) :: ys.map fun x : List UInt8 × Fl => x.2) := Fls.add (w := w3) (A := []) (B := ys.map fun x : List UInt8 × Fl => x.2) fl3 ok3 (fun z hz => (hne z (by simpa using hz)).1) (fun z hz => (hne z (by simpa using hz)).2) rfl
            exact f4.perm hperm.symm
          · rw [abs_put, ab]
            exact (gone_step (p := (p.1, (p.2.l, p.2.k))) SO.out (List.mem_map.2 ⟨p, hp, rfl⟩) hlk).symm
          · rcases List.mem_cons.1 (hperm.mem_iff.1 hz) with rfl | hz
            · exact ⟨Nat.le_trans g1.size hb, fun g hg => Nat.le_trans g1.size (hv2 g hg)⟩
            · exact nw z hz
          · exact (grTrans g1 g2).andThen g3 (fun j hj => by cases hj; exact Or.inl HM2.out)
        have HL := mkHid hrg.left_eq
        clear hat hv hkey hy ab nw mp fl gr mp1 fl1 okp hrk hrg
        go_wp2_with fail
        refine CP.out.mono ?_
        rintro e w2 ⟨b, v2, rfl, hb2, ok2, hf2, g2⟩
        obtain ⟨w3, run3, rg3, cq3⟩ := ST.out b v2 w2 hb2 ok2 hf2 g2
        have HR3 := mkHid rg3
        have HC3 := mkHid cq3
        clear rg3 cq3 ST CP ok2 hf2 g2 hrg1
        go_wp2_with fail
        go_roundw
        case rel => exact ⟨_, cnt1, HR3.out, HC3⟩
        case measure => rw [HR3.out.left_eq, HL.out]; exact hlt1
end Go.Proofs.Ytdiehlioemmakaa

