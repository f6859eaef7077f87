/-
  What a pair tells of itself: Stands.
-/
import Derived.Test.YtdiehlioemmakaaGgEpx
namespace Go.Proofs.Ytdiehlioemmakaa
open Go.RowKit Go.Maps Go.Joins

set_option maxHeartbeats 4000000 in
set_option maxRecDepth 1000000 in
theorem Open_dv {P : Nat → Prop} (base f : Nat) (q st : Int) (mo : Option Nat) (xs : List (List UInt8 × Fl)) (us : List Ux) (w : World) (d : Dv P w base f q st mo xs us) :
    Calls Try.prog 18 #[.pointer (some ⟨f, 0, none⟩)] w fun e w' => e = .returned (.int .i64 (us.length : Int)) ∧ w' = w := by
  obtain ⟨ov, h1, h2, _⟩ := d.fs
  obtain ⟨Po, Co, rfl⟩ := row_form h2
  obtain ⟨c0, c1, c2, c3, cf⟩ := h1.c
  clear d h1 h2
  go_enter Try.func18, Try.ntmps18
  go_wp2_with fail
  go_ret
  exact ⟨rfl, rfl⟩
set_option maxHeartbeats 8000000 in
set_option maxRecDepth 1000000 in
theorem Used_dv {P : Nat → Prop} (base f : Nat) (q st : Int) (mo : Option Nat) (xs : List (List UInt8 × Fl)) (us : List Ux) (w : World) (hu : usedL xs ≤ 1000000000000) (d : Dv P w base f q st mo xs us) :
    Calls Try.prog 48 #[.pointer (some ⟨f, 0, none⟩)] w fun e w' => e = .returned (.int .i64 (usedL xs : Int)) ∧ w.grownBy w' none := by
  obtain ⟨ov, h1, h2, h3⟩ := d.fs
  cases mo with
  | some m => exact Used_any f m base q st ov xs w h1 (d.mp m rfl).2 (fun p hp => d.fl.ok p.2 (List.mem_map_of_mem hp)) hu
  | none =>
    have hx := (d.mn rfl).1
    subst hx
    obtain ⟨c0, c1, c2, c3, cf⟩ := h1.c
    obtain ⟨W1, hW1⟩ : ∃ W1, W1 = w.alloc (.mapIter none 0 #[] 0) := ⟨_, rfl⟩
    have hit : W1.heap[w.heap.size]? = some (.mapIter none 0 #[] 0) := by rw [hW1]; exact heap_alloc_new _ _
    have g1 : w.grownBy W1 none := by rw [hW1]; exact World.grownBy_alloc w _ none
    have G1 := mkHid g1
    clear h1 h2 h3 c0 c2 c3 d hu g1
    show Calls _ _ _ _ fun e w' => e = .returned (.int .i64 0) ∧ w.grownBy w' none
    go_enter Try.func48, Try.ntmps48
    go_wp2_with (first
      | (at_range; refine wpList_range_none _ rfl _ 64 9 68 rfl mapT rfl ?_)
      | go_in)
    rw [← hW1]
    clear hW1
    go_frame
    go_loopw [3] (fun s3 wr => s3 = .int .i64 0 ∧ wr = W1) (fun _ _ => 0)
    case atStart => exact ⟨rfl, rfl⟩
    case round =>
      obtain ⟨rfl, rfl⟩ := hrel
      go_wp2_with (first
        | (at_next; refine wpList_next_none _ rfl _ rfl w.heap.size rfl hit ?_)
        | go_in)
      go_wp2_with fail
      go_ret
      exact ⟨rfl, G1.out⟩
/-- a pair that stands, in blocks that G does not hold -/
structure Pr (G : Nat → Prop) (w : World) (fp fr pr : Nat) (s : St) : Prop where
  d : ∃ (Pv : Nat → Prop) (base : Nat) (st : Int) (mo : Option Nat) (xs : List (List UInt8 × Fl)) (us : List Ux), Dv Pv w base fp s.q st mo xs us ∧ Jn s st xs us ∧ ∀ i, Pv i → ¬ G i
  r : Rf G w fr s
  nf : ¬ G fr
  p : w.heap[pr]? = some (.cells #[.pointer (some ⟨fp, 0, none⟩), .pointer (some ⟨fr, 0, none⟩)] 34 (0, 0))
  np : ¬ G pr
  bd : s.ways.length ≤ 2000001 ∧ s.fs.length ≤ 2000000
theorem Pr.away {G : Nat → Prop} {w w' : World} {fp fr pr : Nat} {s : St} (h : Pr G w fp fr pr s) (hc : Chg G w w') : Pr (ext G w w') w' fp fr pr s := by
  obtain ⟨Pv, base, st, mo, xs, us, dv, j, hn⟩ := h.d
  have nw : ∀ i, i < w.heap.size → ¬ G i → ¬ ext G w w' i := fun i hi hg he => by
    rcases he with he | he
    · exact hg he
    · omega
  have hfr : fr < w.heap.size := by obtain ⟨_, _, hh, _⟩ := h.r.fs; exact lt_of_heap hh
  exact ⟨⟨Pv, base, st, mo, xs, us, dv.away hc hn, j, fun i hi => nw i (dv.pb i hi).2 (hn i hi)⟩, h.r.away hc h.nf, nw fr hfr h.nf, hc.at_ h.p h.np, nw pr (lt_of_heap h.p) h.np, h.bd⟩
theorem Pr.less {G G' : Nat → Prop} {w : World} {fp fr pr : Nat} {s : St} (h : Pr G w fp fr pr s) (hs : ∀ i, G' i → G i) : Pr G' w fp fr pr s := by
  obtain ⟨Pv, base, st, mo, xs, us, dv, j, hn⟩ := h.d
  exact ⟨⟨Pv, base, st, mo, xs, us, dv, j, fun i hi hg => hn i hi (hs i hg)⟩, h.r.less hs, fun hg => h.nf (hs _ hg), h.p, fun hg => h.np (hs _ hg), h.bd⟩
theorem Pr.grow {G : Nat → Prop} {w w' : World} {fp fr pr : Nat} {s : St} (h : Pr G w fp fr pr s) (hg : w.grownBy w' none) : Pr G w' fp fr pr s := by
  obtain ⟨Pv, base, st, mo, xs, us, dv, j, hn⟩ := h.d
  exact ⟨⟨Pv, base, st, mo, xs, us, dv.kept hg, j, hn⟩, h.r.grown hg, h.nf, (hg.block pr (lt_of_heap h.p) (by simp)).trans h.p, h.np, h.bd⟩
theorem Both.pr {P : Nat → Prop} {w : World} {base fp fr pr N : Nat} {s : St} (h : Both P w base fp fr pr s N) : Pr (fun _ => False) w fp fr pr s := by
  obtain ⟨st, mo, xs, us, d, j⟩ := h.d
  exact ⟨⟨_, base, st, mo, xs, us, d.view, j, fun _ _ e => e⟩, h.r.less (fun _ e => e.elim), id, h.p, id, by have := h.bd; omega⟩
/-- an image that is being spoilt -/
def ixV (s : List UInt8) : List UInt8 × Fl := (s, ⟨0, .slice none 0 0, [], 0⟩)
theorem entsV_set : ∀ (zs : List (List UInt8 × Fl)) (i : Nat) (z : List UInt8 × Fl), entsV (zs.set i z) = (((entsV zs).set (i * 3) (.string ⟨z.1.toArray⟩)).set (i * 3 + 1) z.2.v).set (i * 3 + 2) (.int .i64 (z.2.k : Int))
  | [], i, z => by simp [entsV]
  | a :: r, 0, z => by simp [entsV]
  | a :: r, i + 1, z => by
    have ih := entsV_set r i z
    have e0 : (i + 1) * 3 = (i * 3) + 3 := by omega
    show [.string ⟨a.1.toArray⟩, a.2.v, .int .i64 (a.2.k : Int)] ++ entsV (r.set i z) = ((([.string ⟨a.1.toArray⟩, a.2.v, .int .i64 (a.2.k : Int)] ++ entsV r).set ((i + 1) * 3) _).set ((i + 1) * 3 + 1) _).set ((i + 1) * 3 + 2) _
    rw [e0, show i * 3 + 3 + 1 = (i * 3 + 1) + 3 by omega, show i * 3 + 3 + 2 = (i * 3 + 2) + 3 by omega, ih]
    simp [List.set_cons_succ]
theorem imgX.spoil {w w2 : World} {base g C L : Nat} {zs : List (List UInt8 × Fl)} (h : imgX w base (.slice (some ⟨g, 0, none⟩) L C) zs) (hL : zs.length = L) {i : Nat} {z : List UInt8 × Fl} (hz : zs[i]? = some z) (hc : Chg (fun j => z.2.v.ownBlock = some j) w w2) (n : List UInt8) :
    imgX (((w2.setCell ⟨g, i * 3, none⟩ (.string ⟨n.toArray⟩)).setCell ⟨g, i * 3 + 1, none⟩ (.slice none 0 0)).setCell ⟨g, i * 3 + 2, none⟩ (.int .i64 0)) base (.slice (some ⟨g, 0, none⟩) L C) (zs.set i (ixV n)) ∧ Chg (fun j => j = g ∨ z.2.v.ownBlock = some j) w (((w2.setCell ⟨g, i * 3, none⟩ (.string ⟨n.toArray⟩)).setCell ⟨g, i * 3 + 1, none⟩ (.slice none 0 0)).setCell ⟨g, i * 3 + 2, none⟩ (.int .i64 0)) := by
  have hi := (List.getElem?_eq_some_iff.1 hz).1
  have hg : (Value.slice (some ⟨g, 0, none⟩) L C).ownBlock = some g := rfl
  have ng : ¬ z.2.v.ownBlock = some g := fun e => by
    obtain ⟨cs, k1⟩ := own_kind h.row g hg
    obtain ⟨cs2, k2⟩ := own_kind (h.im.by_ z (List.mem_of_getElem? hz)) g e
    rw [k1] at k2; simp at k2
  have r0 : w2.ownsRow base 50 3 (.slice (some ⟨g, 0, none⟩) L C) zs.length (entsV zs) := hc.row h.row (fun g' hg' e => by cases hg'; exact ng e)
  rw [hL] at r0
  obtain ⟨r1, g1⟩ := World.ownsRow.stored r0 (i * 3) (.string ⟨n.toArray⟩)
  obtain ⟨r2, g2⟩ := World.ownsRow.stored r1 (i * 3 + 1) (.slice none 0 0)
  obtain ⟨r3, g3⟩ := World.ownsRow.stored r2 (i * 3 + 2) (.int .i64 0)
  have cg : ∀ {a b : World}, a.grownBy b (Value.slice (some ⟨g, 0, none⟩) L C).ownBlock → Chg (fun j => j = g) a b := fun k => (Chg.of_grown k).mono (fun j _ e => by cases e; rfl)
  have c3 := ((cg g1).trans (cg g2)).trans (cg g3)
  have call : Chg (fun j => j = g ∨ z.2.v.ownBlock = some j) w _ := (hc.mono (fun j _ e => Or.inr e)).trans (c3.mono (fun j _ e => Or.inl e))
  refine ⟨⟨⟨?_, fun y hy => ?_⟩, ?_, fun y hy => ?_⟩, call⟩
  · rw [List.length_set, hL, entsV_set]; exact r3
  · obtain ⟨j, hj⟩ := List.getElem?_of_mem hy
    by_cases hij : i = j
    · subst hij
      rw [List.getElem?_set_self hi] at hj
      cases hj; exact ownsB_nil _ _
    · rw [List.getElem?_set_ne hij] at hj
      have oy := h.im.by_ y (List.mem_of_getElem? hj)
      refine call.row oy (fun g' hg' e => ?_)
      rcases e with rfl | e
      · obtain ⟨cs, k1⟩ := own_kind h.row _ hg
        obtain ⟨cs2, k2⟩ := own_kind oy _ hg'
        rw [k1] at k2; simp at k2
      · have hjl := (List.getElem?_eq_some_iff.1 hj).1
        have ez : zs[i] = z := (List.getElem?_eq_some_iff.1 hz).2
        have ey : zs[j] = y := (List.getElem?_eq_some_iff.1 hj).2
        rcases Nat.lt_or_gt_of_ne hij with hlt | hlt
        · have := List.pairwise_iff_getElem.1 h.nv i j hi hjl hlt g'
          rw [ez, ey] at this
          exact this e hg'
        · have := List.pairwise_iff_getElem.1 h.nv j i hjl hi hlt g'
          rw [ez, ey] at this
          exact this hg' e
  · refine List.pairwise_iff_getElem.2 (fun a b ha hb hab g' h1 h2 => ?_)
    rw [List.length_set] at ha hb
    rw [List.getElem_set] at h1 h2
    split at h1
    · cases h1
    · split at h2
      · cases h2
      · exact List.pairwise_iff_getElem.1 h.nv a b ha hb hab g' h1 h2
  · obtain ⟨j, hj⟩ := List.getElem?_of_mem hy
    by_cases hij : i = j
    · subst hij
      rw [List.getElem?_set_self hi] at hj
      cases hj; exact Nat.zero_le _
    · rw [List.getElem?_set_ne hij] at hj
      exact h.ll y (List.mem_of_getElem? hj)
/-- the names being spoilt -/
def SlQ (w wr : World) (b : Nat) (P : Option Addr) (L C k : Nat) (NS : List Value) : Prop := (∃ ss, wr.ownsRow b 9 1 (.slice P L C) L ss ∧ ∀ j, k ≤ j → ss[j]? = NS[j]?) ∧ w.grownBy wr none
set_option maxHeartbeats 8000000 in
set_option maxRecDepth 1000000 in
theorem refList_w {F : Nat → Prop} {f : Nat} {s : St} {w : World} (h : Rf F w f s) (hb : s.ways.length ≤ 9000000) (hn : s.now.length ≤ 64) :
    ∃ P C, rd1 F w f (.slice P s.now.length C) (s.now.map fun p => strV p.1) ∧ ∀ W, w.grownBy W none → Calls Try.prog 51 #[.pointer (some ⟨f, 0, none⟩)] W fun e w' => e = .returned (.slice P s.now.length C) ∧ W.grownBy w' none := by
  obtain ⟨pN, cN, pI, cI, hway, _, hnow⟩ := now_rf h hb (by omega)
  refine ⟨pN, cN, hway.1, fun W g => ?_⟩
  have NW := mkHid (hnow W g)
  obtain ⟨N, hN⟩ : ∃ N, N = s.now.length := ⟨_, rfl⟩
  rw [← hN] at NW ⊢
  clear h hb hn hway hnow hN
  go_enter Try.func51, Try.ntmps51
  go_wp2_with fail
  refine NW.out.mono ?_
  rintro e w1 ⟨rfl, g1⟩
  have G1 := mkHid g1
  have fl : (Instr.field 95 (.agg #[.slice pN N cN, .slice pI N cI]) 0).run Try.prog w1 = .ok (.slice pN N cN) w1 := by kernel_rfl
  clear g1
  go_wp2_with fail
  go_ret
  exact ⟨rfl, G1.out⟩
set_option maxHeartbeats 8000000 in
set_option maxRecDepth 1000000 in
theorem Stands_any {G : Nat → Prop} {w : World} {fp fr pr : Nat} {s : St} (h : Pr G w fp fr pr s) : Calls Try.prog 11 #[.pointer (some ⟨pr, 0, none⟩)] w fun e w' => e = .returned (.bool true) ∧ w.grownBy w' none := by
  obtain ⟨Pv, base, st, mo, xs, us, dv, j, _⟩ := h.d
  have hbd := h.bd
  have hnl := j.len
  obtain ⟨L, hL⟩ : ∃ L, L = s.now.length := ⟨_, rfl⟩
  have hLb : L ≤ 64 := by omega
  have hxl : xs.length = L := by omega
  have hul := j.ul
  obtain ⟨U, hU⟩ : ∃ U, U = usd s.fs s.now := ⟨_, rfl⟩
  have hux : usedL xs = U := by rw [← used_abs, j.ab, usd_abs, hU]
  have hUb : U ≤ 1000000000000 := by rw [hU]; have := usd_le j.fl s.now; omega
  obtain ⟨O, hO⟩ : ∃ O, O = us.length := ⟨_, rfl⟩
  obtain ⟨A, hA⟩ : ∃ A, A = absW s.fs s.now := ⟨_, rfl⟩
  have hAx : absX xs = A := by rw [hA]; exact j.ab
  obtain ⟨Pw, Cw, hrd, hlist⟩ := refList_w h.r (by omega) (by omega)
  obtain ⟨NS, hNS⟩ : ∃ NS : List Value, NS = (xs.map (·.1)).map encStr := ⟨_, rfl⟩
  have hNS2 : (s.now.map fun p => strV p.1) = NS := by
    have e1 : xs.map (·.1) = s.now.map (·.1) := by
      rw [← abs_names, j.ab]; unfold absW; rw [List.map_map]; rfl
    rw [hNS, e1, List.map_map]; rfl
  have hNl : NS.length = L := by rw [hNS, List.length_map, List.length_map]; exact hxl
  have US : Hid (∀ W, w.grownBy W none → Calls Try.prog 48 #[.pointer (some ⟨fp, 0, none⟩)] W fun e w' => e = .returned (.int .i64 (U : Int)) ∧ W.grownBy w' none) := fun W g => by
    have := Used_dv base fp s.q st mo xs us W (by omega) (dv.kept g)
    rw [hux] at this; exact this
  have UR : Hid (∀ W, w.grownBy W none → Calls Try.prog 49 #[.pointer (some ⟨fr, 0, none⟩)] W fun e w' => e = .returned (.int .i64 (U : Int)) ∧ W.grownBy w' none) := fun W g => by
    have := refUsed_any fr s W (h.r.grown g) (by omega) (by omega) (by omega) j.ok (by omega)
    rw [← hU] at this; exact this
  have OS : Hid (∀ W, w.grownBy W none → Calls Try.prog 18 #[.pointer (some ⟨fp, 0, none⟩)] W fun e w' => e = .returned (.int .i64 (O : Int)) ∧ w' = W) := fun W g => by
    have := Open_dv base fp s.q st mo xs us W (dv.kept g)
    rw [← hO] at this; exact this
  have OR : Hid (∀ W, w.grownBy W none → Calls Try.prog 50 #[.pointer (some ⟨fr, 0, none⟩)] W fun e w' => e = .returned (.int .i64 (O : Int)) ∧ w' = W) := fun W g => by
    have := refOpen_any fr s W (h.r.grown g) (by omega)
    rw [show s.ways.length - 1 = O by omega] at this; exact this
  have LS : Hid (∀ W, w.grownBy W none → Calls Try.prog 21 #[.pointer (some ⟨fp, 0, none⟩)] W fun e w' => ∃ v, e = .returned v ∧ w'.ownsRow W.heap.size 9 1 v L NS ∧ W.grownBy w' none) := fun W g => by
    have := List_dv base fp s.q st mo xs us W j.so (by omega) (dv.kept g)
    rw [hxl, ← hNS] at this; exact this
  have LR : Hid (∀ W, w.grownBy W none → Calls Try.prog 51 #[.pointer (some ⟨fr, 0, none⟩)] W fun e w' => e = .returned (.slice Pw L Cw) ∧ W.grownBy w' none) := fun W g => by
    have := hlist W g
    rw [← hL] at this; exact this
  have IS : Hid (∀ W, w.grownBy W none → Calls Try.prog 16 #[.pointer (some ⟨fp, 0, none⟩)] W fun e w' => ImX W xs e w') := fun W g => by
    refine Image_dv base fp s.q st mo xs us W j.so (by omega) (fun p hp => ?_) (dv.kept g)
    have h2 : p.1.length ≤ 64 := (nm_len (j.names (p.1, (p.2.l, p.2.k)) (List.mem_map.2 ⟨p, hp, rfl⟩))).2
    omega
  have IR : Hid (∀ W, w.grownBy W none → Calls Try.prog 52 #[.pointer (some ⟨fr, 0, none⟩)] W fun e w' => RiQ W L A e w') := fun W g => by
    have := refImage_any fr s W (h.r.grown g) (by omega) (by omega) (by omega) j.ok
    rw [← hL, ← hA] at this; exact this
  have WN : Hid (∀ (i : Nat) (n : List UInt8), NS[i]? = some (.string ⟨n.toArray⟩) → ∃ gw ow, Pw = some ⟨gw, ow, none⟩ ∧ w.cell? ⟨gw, ow + i, none⟩ = some (.string ⟨n.toArray⟩)) := fun i n hi => by
    rw [hNS2] at hrd
    obtain ⟨p, c, e, _, _, _, hc⟩ := hrd
    simp only [Value.slice.injEq] at e
    obtain ⟨rfl, _, rfl⟩ := e
    rcases hc with hc | ⟨g, o, e, _, hc⟩
    · rw [hc] at hi; simp at hi
    · exact ⟨g, o, e, hc i _ hi⟩
  have NF : Hid (∀ i, i < L → ∃ n : List UInt8, NS[i]? = some (.string ⟨n.toArray⟩)) := fun i hi => by
    obtain ⟨x, hx⟩ : ∃ x, xs[i]? = some x := ⟨xs[i]'(by omega), List.getElem?_eq_getElem _⟩
    exact ⟨x.1, by rw [hNS, List.getElem?_map, List.getElem?_map, hx]; rfl⟩
  have k0 : w.cell? ⟨pr, 0, none⟩ = some (.pointer (some ⟨fp, 0, none⟩)) := (cell_of_block h.p 0).trans rfl
  have k1 : w.cell? ⟨pr, 1, none⟩ = some (.pointer (some ⟨fr, 0, none⟩)) := (cell_of_block h.p 1).trans rfl
  have KS : Hid (∀ W, w.grownBy W none → (fun w' : World => w'.cell? ⟨pr, 0, none⟩ = some (.pointer (some ⟨fp, 0, none⟩)) ∧ w'.cell? ⟨pr, 1, none⟩ = some (.pointer (some ⟨fr, 0, none⟩))) W) := fun W g => ⟨g.cell k0 (by simp), g.cell k1 (by simp)⟩
  have HNL := mkHid hNl
  have HAX := mkHid hAx
  have HAL : Hid (A.length = L) := by rw [hA, absW_len]; exact hL.symm
  have hprw := lt_of_heap h.p
  have G0 := mkHid (gr_drew w)
  clear h dv j hbd hnl hul hux hUb hU hO hA hAx hrd hlist hNS hNS2 hNl hxl k0 k1 hL
  go_enter Try.func11, Try.ntmps11
  go_wp2_with fail
  refine wp_region_noPanic ?_
  refine wp_region_held_drew (S := fun w' : World => w'.cell? ⟨pr, 0, none⟩ = some (.pointer (some ⟨fp, 0, none⟩)) ∧ w'.cell? ⟨pr, 1, none⟩ = some (.pointer (some ⟨fr, 0, none⟩))) (by kernel_rfl) (KS.out _ G0.out) (fun hH => ?_)
  refine tKx (i := 0) (v := .pointer (some ⟨pr, 0, none⟩)) rfl rfl (by kernel_rfl) (fun _ _ _ h => h) ?_ hH ?_
  · intro w5 hSw; obtain ⟨c0, c1⟩ := hSw; go_simp
  simp only [zA9, zB9, zC9]
  refine tKx (i := 1) (v := .pointer (some ⟨pr, 0, none⟩)) rfl rfl (by kernel_rfl) (fun _ _ _ h => h) ?_ hH ?_
  · intro w5 hSw; obtain ⟨c0, c1⟩ := hSw; go_simp
  simp only [zA9, zB9, zC9]
  refine tKx (i := 2) (v := .pointer (some ⟨pr, 0, none⟩)) rfl rfl (by kernel_rfl) (fun _ _ _ h => h) ?_ hH ?_
  · intro w5 hSw; obtain ⟨c0, c1⟩ := hSw; go_simp
  simp only [zA9, zB9, zC9]
  refine tKx (i := 3) (v := .pointer (some ⟨fp, 0, none⟩)) rfl rfl (by kernel_rfl) (fun _ _ _ h => h) ?_ hH ?_
  · intro w5 hSw; obtain ⟨c0, c1⟩ := hSw; go_simp
  simp only [zA9, zB9, zC9]
  refine tKx (i := 5) (v := .pointer (some ⟨pr, 0, none⟩)) rfl rfl (by kernel_rfl) (fun _ _ _ h => h) ?_ hH ?_
  · intro w5 hSw; obtain ⟨c0, c1⟩ := hSw; go_simp
  simp only [zA9, zB9, zC9]
  refine tKx (i := 6) (v := .pointer (some ⟨pr, 0, none⟩)) rfl rfl (by kernel_rfl) (fun _ _ _ h => h) ?_ hH ?_
  · intro w5 hSw; obtain ⟨c0, c1⟩ := hSw; go_simp
  simp only [zA9, zB9, zC9]
  refine tKx (i := 7) (v := .pointer (some ⟨pr, 1, none⟩)) rfl rfl (by kernel_rfl) (fun _ _ _ h => h) ?_ hH ?_
  · intro w5 hSw; obtain ⟨c0, c1⟩ := hSw; go_simp
  simp only [zA9, zB9, zC9]
  refine tKx (i := 8) (v := .pointer (some ⟨fr, 0, none⟩)) rfl rfl (by kernel_rfl) (fun _ _ _ h => h) ?_ hH ?_
  · intro w5 hSw; obtain ⟨c0, c1⟩ := hSw; go_simp
  simp only [zA9, zB9, zC9]
  refine wpAnyH_ready (rs := [4]) (by kernel_rfl) (by simp) ?_
  refine AllReadyH.cons rfl (fun K hK => ?_) AllReadyH.nil
  go_simp
  go_at_call 48
  refine (US.out _ G0.out).mono ?_
  rintro e w1 ⟨rfl, g⟩
  have G1 := mkHid (grTrans G0.out g)
  clear g
  go_wp2_with fail
  refine hK.out _ _ (KS.out _ G1.out) (fun hH => ?_)
  clear hK K
  refine wpAnyH_ready (rs := [9]) (by kernel_rfl) (by simp) ?_
  refine AllReadyH.cons rfl (fun K hK => ?_) AllReadyH.nil
  go_simp
  go_at_call 49
  refine (UR.out _ G1.out).mono ?_
  rintro e w2 ⟨rfl, g⟩
  have G2 := mkHid (grTrans G1.out g)
  clear g
  go_wp2_with fail
  refine hK.out _ _ (KS.out _ G2.out) (fun hH => ?_)
  clear hK K
  refine tKx (i := 10) (v := .bool false) rfl rfl (by kernel_rfl) (fun _ _ _ h => h) ?_ hH ?_
  · intro w5 hSw; obtain ⟨c0, c1⟩ := hSw; go_simp
  simp only [zA9, zB9, zC9]
  refine tKx (i := 11) (v := .bool false) rfl rfl (by kernel_rfl) (fun _ _ _ h => h) ?_ hH ?_
  · intro w5 hSw; obtain ⟨c0, c1⟩ := hSw; go_simp
  simp only [zA9, zB9, zC9]
  refine tKx (i := 12) (v := .pointer (some ⟨pr, 0, none⟩)) rfl rfl (by kernel_rfl) (fun _ _ _ h => h) ?_ hH ?_
  · intro w5 hSw; obtain ⟨c0, c1⟩ := hSw; go_simp
  simp only [zA9, zB9, zC9]
  refine tKx (i := 13) (v := .pointer (some ⟨pr, 0, none⟩)) rfl rfl (by kernel_rfl) (fun _ _ _ h => h) ?_ hH ?_
  · intro w5 hSw; obtain ⟨c0, c1⟩ := hSw; go_simp
  simp only [zA9, zB9, zC9]
  refine tKx (i := 14) (v := .pointer (some ⟨pr, 0, none⟩)) rfl rfl (by kernel_rfl) (fun _ _ _ h => h) ?_ hH ?_
  · intro w5 hSw; obtain ⟨c0, c1⟩ := hSw; go_simp
  simp only [zA9, zB9, zC9]
  refine tKx (i := 15) (v := .pointer (some ⟨fp, 0, none⟩)) rfl rfl (by kernel_rfl) (fun _ _ _ h => h) ?_ hH ?_
  · intro w5 hSw; obtain ⟨c0, c1⟩ := hSw; go_simp
  simp only [zA9, zB9, zC9]
  refine tKx (i := 17) (v := .pointer (some ⟨pr, 0, none⟩)) rfl rfl (by kernel_rfl) (fun _ _ _ h => h) ?_ hH ?_
  · intro w5 hSw; obtain ⟨c0, c1⟩ := hSw; go_simp
  simp only [zA9, zB9, zC9]
  refine tKx (i := 18) (v := .pointer (some ⟨pr, 0, none⟩)) rfl rfl (by kernel_rfl) (fun _ _ _ h => h) ?_ hH ?_
  · intro w5 hSw; obtain ⟨c0, c1⟩ := hSw; go_simp
  simp only [zA9, zB9, zC9]
  refine tKx (i := 19) (v := .pointer (some ⟨pr, 1, none⟩)) rfl rfl (by kernel_rfl) (fun _ _ _ h => h) ?_ hH ?_
  · intro w5 hSw; obtain ⟨c0, c1⟩ := hSw; go_simp
  simp only [zA9, zB9, zC9]
  refine tKx (i := 20) (v := .pointer (some ⟨fr, 0, none⟩)) rfl rfl (by kernel_rfl) (fun _ _ _ h => h) ?_ hH ?_
  · intro w5 hSw; obtain ⟨c0, c1⟩ := hSw; go_simp
  simp only [zA9, zB9, zC9]
  refine wpAnyH_ready (rs := [16]) (by kernel_rfl) (by simp) ?_
  refine AllReadyH.cons rfl (fun K hK => ?_) AllReadyH.nil
  go_simp
  go_at_call 18
  refine (OS.out _ G2.out).mono ?_
  rintro e wx ⟨rfl, hwx⟩; have hwx2 := hwx.symm; subst hwx2; clear hwx
  go_wp2_with fail
  refine hK.out _ _ (KS.out _ G2.out) (fun hH => ?_)
  clear hK K
  refine wpAnyH_ready (rs := [21]) (by kernel_rfl) (by simp) ?_
  refine AllReadyH.cons rfl (fun K hK => ?_) AllReadyH.nil
  go_simp
  go_at_call 50
  refine (OR.out _ G2.out).mono ?_
  rintro e wx ⟨rfl, hwx⟩; have hwx2 := hwx.symm; subst hwx2; clear hwx
  go_wp2_with fail
  refine hK.out _ _ (KS.out _ G2.out) (fun hH => ?_)
  clear hK K
  refine tKx (i := 22) (v := .bool false) rfl rfl (by kernel_rfl) (fun _ _ _ h => h) ?_ hH ?_
  · intro w5 hSw; obtain ⟨c0, c1⟩ := hSw; go_simp
  simp only [zA9, zB9, zC9]
  refine tKx (i := 23) (v := .bool false) rfl rfl (by kernel_rfl) (fun _ _ _ h => h) ?_ hH ?_
  · intro w5 hSw; obtain ⟨c0, c1⟩ := hSw; go_simp
  simp only [zA9, zB9, zC9]
  refine wpAnyH_done (by kernel_rfl) ?_ _
  refine NoPanic.normal ?_
  clear US UR OS OR
  have G3 := mkHid (grTrans G2.out (gr_drew w2))
  go_wp2_with fail
  refine wp_region_noPanic ?_
  refine wp_region_held_drew (S := fun w' : World => w'.cell? ⟨pr, 0, none⟩ = some (.pointer (some ⟨fp, 0, none⟩)) ∧ w'.cell? ⟨pr, 1, none⟩ = some (.pointer (some ⟨fr, 0, none⟩))) (by kernel_rfl) (KS.out _ G3.out) (fun hH => ?_)
  refine tKx (i := 0) (v := .pointer (some ⟨pr, 0, none⟩)) rfl rfl (by kernel_rfl) (fun _ _ _ h => h) ?_ hH ?_
  · intro w5 hSw; obtain ⟨c0, c1⟩ := hSw; go_simp
  simp only [zA9, zB9, zC9]
  refine tKx (i := 1) (v := .pointer (some ⟨pr, 0, none⟩)) rfl rfl (by kernel_rfl) (fun _ _ _ h => h) ?_ hH ?_
  · intro w5 hSw; obtain ⟨c0, c1⟩ := hSw; go_simp
  simp only [zA9, zB9, zC9]
  refine tKx (i := 2) (v := .pointer (some ⟨pr, 0, none⟩)) rfl rfl (by kernel_rfl) (fun _ _ _ h => h) ?_ hH ?_
  · intro w5 hSw; obtain ⟨c0, c1⟩ := hSw; go_simp
  simp only [zA9, zB9, zC9]
  refine tKx (i := 3) (v := .pointer (some ⟨fp, 0, none⟩)) rfl rfl (by kernel_rfl) (fun _ _ _ h => h) ?_ hH ?_
  · intro w5 hSw; obtain ⟨c0, c1⟩ := hSw; go_simp
  simp only [zA9, zB9, zC9]
  refine tKx (i := 5) (v := .pointer (some ⟨pr, 0, none⟩)) rfl rfl (by kernel_rfl) (fun _ _ _ h => h) ?_ hH ?_
  · intro w5 hSw; obtain ⟨c0, c1⟩ := hSw; go_simp
  simp only [zA9, zB9, zC9]
  refine tKx (i := 6) (v := .pointer (some ⟨pr, 0, none⟩)) rfl rfl (by kernel_rfl) (fun _ _ _ h => h) ?_ hH ?_
  · intro w5 hSw; obtain ⟨c0, c1⟩ := hSw; go_simp
  simp only [zA9, zB9, zC9]
  refine tKx (i := 7) (v := .pointer (some ⟨pr, 1, none⟩)) rfl rfl (by kernel_rfl) (fun _ _ _ h => h) ?_ hH ?_
  · intro w5 hSw; obtain ⟨c0, c1⟩ := hSw; go_simp
  simp only [zA9, zB9, zC9]
  refine tKx (i := 8) (v := .pointer (some ⟨fr, 0, none⟩)) rfl rfl (by kernel_rfl) (fun _ _ _ h => h) ?_ hH ?_
  · intro w5 hSw; obtain ⟨c0, c1⟩ := hSw; go_simp
  simp only [zA9, zB9, zC9]
  refine wpAnyH_ready (rs := [4]) (by kernel_rfl) (by simp) ?_
  refine AllReadyH.cons rfl (fun K hK => ?_) AllReadyH.nil
  go_simp
  go_at_call 21
  refine (LS.out _ G3.out).mono ?_
  rintro e w4 ⟨v4, rfl, o4, g4⟩
  obtain ⟨Pl, Cl, hv4⟩ := row_form o4
  have hv4' : v4 = .slice Pl L Cl := hv4
  subst hv4'
  have G4 := mkHid (grTrans G3.out g4)
  have O4 := mkHid o4
  clear g4 o4 hv4
  go_wp2_with fail
  refine hK.out _ _ (KS.out _ G4.out) (fun hH => ?_)
  clear hK K
  refine wpAnyH_ready (rs := [9]) (by kernel_rfl) (by simp) ?_
  refine AllReadyH.cons rfl (fun K hK => ?_) AllReadyH.nil
  go_simp
  go_at_call 51
  refine (LR.out _ G4.out).mono ?_
  rintro e w5 ⟨rfl, g5⟩
  have G5 := mkHid (grTrans G4.out g5)
  obtain ⟨b4, hb4⟩ : ∃ b4, b4 = w2.drew.heap.size := ⟨_, rfl⟩
  have hwb : w.heap.size ≤ b4 := by rw [hb4]; exact G3.out.size
  rw [← hb4] at O4
  have SL0 : Hid (SlQ w w5 b4 Pl L Cl 0 NS) := ⟨⟨NS, World.ownsRow.kept O4.out g5 (by cases (Value.slice Pl L Cl).ownBlock <;> simp), fun _ _ => rfl⟩, G5.out⟩
  clear O4 g5 hb4
  go_wp2_with fail
  refine hK.out _ _ (KS.out _ G5.out) (fun hH => ?_)
  clear hK K
  refine tKx (i := 10) (v := .slice Pl L Cl) rfl rfl (by kernel_rfl) (fun _ _ _ h => h) ?_ hH ?_
  · intro w5 hSw; obtain ⟨c0, c1⟩ := hSw; go_simp
  simp only [zA9, zB9, zC9]
  refine tKx (i := 11) (v := .slice Pw L Cw) rfl rfl (by kernel_rfl) (fun _ _ _ h => h) ?_ hH ?_
  · intro w5 hSw; obtain ⟨c0, c1⟩ := hSw; go_simp
  simp only [zA9, zB9, zC9]
  refine wpAnyH_done (by kernel_rfl) ?_ _
  refine NoPanic.normal ?_
  clear LS LR G3 G4
  go_wp2_with fail
  go_loopw [5] (fun s5 wr => ∃ (i : Nat), s5 = .int .i64 (i : Int) ∧ i ≤ L ∧ Hid (SlQ w wr b4 Pl L Cl i NS)) (fun s5 _ => L - (intOf s5).toNat)
  case atStart => exact ⟨0, rfl, Nat.zero_le _, SL0⟩
  case round =>
    obtain ⟨i, rfl, hi, HS⟩ := hrel
    by_cases hlt : i < L
    · have hlti : (i : Int) < (L : Int) := by omega
      obtain ⟨⟨ss, row, hss⟩, gr⟩ := HS.out
      obtain ⟨n, hn⟩ := NF.out i hlt
      obtain ⟨gw, ow, hPw, cww⟩ := WN.out i n hn
      subst hPw
      obtain ⟨gl, hgl⟩ : ∃ g, Pl = some ⟨g, 0, none⟩ := by
        rcases row.2 with ⟨e, h0⟩ | ⟨g, cap, cur, e, _⟩
        · exfalso; omega
        · cases e; exact ⟨g, rfl⟩
      subst hgl
      have cl : wr.cell? ⟨gl, i, none⟩ = some (.string ⟨n.toArray⟩) := by
        rw [World.ownsRow.cellAt row i (by omega), hss i (Nat.le_refl _)]; exact hn
      have cw := gr.cell cww (by simp)
      obtain ⟨cs, hk⟩ := own_kind row gl rfl
      have xf := unfrozen_of_block hk i
      have hll := World.block_lt_of_cell? wr _ cl
      have hlw := World.block_lt_of_cell? wr _ cw
      have hgb : b4 ≤ gl := by
        rcases row.2 with ⟨e, _⟩ | ⟨g', _, _, e, hge, _⟩
        · cases e
        · cases e; exact hge
      have J : Hid (SlQ w (wr.setCell ⟨gl, i, none⟩ (.string ⟨#[115, 112, 111, 105, 108, 116]⟩)).drew b4 (some ⟨gl, 0, none⟩) L Cl (i + 1) NS) := by
        obtain ⟨r1, g1⟩ := World.ownsRow.stored row i (.string ⟨#[115, 112, 111, 105, 108, 116]⟩)
        have gd := gr_drew (wr.setCell ⟨gl, i, none⟩ (.string ⟨#[115, 112, 111, 105, 108, 116]⟩))
        refine ⟨⟨_, World.ownsRow.kept r1 gd (by right; simp [Value.ownBlock]), fun q hq => ?_⟩, ?_⟩
        · rw [List.getElem?_set_ne (by omega)]; exact hss q (by omega)
        · exact grTrans (gr.andThen g1 (fun q hq => by cases hq; exact Or.inl (Nat.le_trans hwb hgb))) gd
      clear row hss gr hn cww hk HS
      go_wp2_with fail
      refine wp_region_noPanic ?_
      refine wp_region_held_drew (S := fun w' : World => w'.cell? ⟨gl, i, none⟩ = some (.string ⟨n.toArray⟩) ∧ w'.cell? ⟨gw, ow + i, none⟩ = some (.string ⟨n.toArray⟩)) (by kernel_rfl) (⟨cl, cw⟩) (fun hH => ?_)
      refine tKx (i := 0) (v := .slice (some ⟨gl, 0, none⟩) L Cl) rfl rfl (by kernel_rfl) (fun _ _ _ h => h) ?_ hH ?_
      · intro w5 hSw; obtain ⟨c0, c1⟩ := hSw; go_simp
      simp only [zA9, zB9, zC9]
      refine tKx (i := 1) (v := .int .i64 (i : Int)) rfl rfl (by kernel_rfl) (fun _ _ _ h => h) ?_ hH ?_
      · intro w5 hSw; obtain ⟨c0, c1⟩ := hSw; go_simp
      simp only [zA9, zB9, zC9]
      refine tKx (i := 2) (v := .pointer (some ⟨gl, i, none⟩)) rfl rfl (by kernel_rfl) (fun _ _ _ h => h) ?_ hH ?_
      · intro w5 hSw; obtain ⟨c0, c1⟩ := hSw; go_simp
      simp only [zA9, zB9, zC9]
      refine tKx (i := 3) (v := .string ⟨n.toArray⟩) rfl rfl (by kernel_rfl) (fun _ _ _ h => h) ?_ hH ?_
      · intro w5 hSw; obtain ⟨c0, c1⟩ := hSw; go_simp
      simp only [zA9, zB9, zC9]
      refine tKx (i := 4) (v := .slice (some ⟨gw, ow, none⟩) L Cw) rfl rfl (by kernel_rfl) (fun _ _ _ h => h) ?_ hH ?_
      · intro w5 hSw; obtain ⟨c0, c1⟩ := hSw; go_simp
      simp only [zA9, zB9, zC9]
      refine tKx (i := 5) (v := .int .i64 (i : Int)) rfl rfl (by kernel_rfl) (fun _ _ _ h => h) ?_ hH ?_
      · intro w5 hSw; obtain ⟨c0, c1⟩ := hSw; go_simp
      simp only [zA9, zB9, zC9]
      refine tKx (i := 6) (v := .pointer (some ⟨gw, ow + i, none⟩)) rfl rfl (by kernel_rfl) (fun _ _ _ h => h) ?_ hH ?_
      · intro w5 hSw; obtain ⟨c0, c1⟩ := hSw; go_simp
      simp only [zA9, zB9, zC9]
      refine tKx (i := 7) (v := .string ⟨n.toArray⟩) rfl rfl (by kernel_rfl) (fun _ _ _ h => h) ?_ hH ?_
      · intro w5 hSw; obtain ⟨c0, c1⟩ := hSw; go_simp
      simp only [zA9, zB9, zC9]
      refine tKx (i := 8) (v := .bool false) rfl rfl (by kernel_rfl) (fun _ _ _ h => h) ?_ hH ?_
      · intro w5 hSw; obtain ⟨c0, c1⟩ := hSw; go_simp
      simp only [zA9, zB9, zC9]
      refine wpAnyH_done (by kernel_rfl) ?_ _
      refine NoPanic.normal ?_
      clear cw
      go_wp2_with fail
      go_roundw
      case rel => exact ⟨i + 1, by go_num, hlt, J⟩
      case measure => simp [intOf]; omega
    · have hlti : ¬ (i : Int) < (L : Int) := by omega
      have GR := mkHid HS.out.2
      obtain ⟨q0, q1⟩ := KS.out _ GR.out
      have hprr := World.block_lt_of_cell? wr _ q0
      have IS5 := mkHid (IS.out _ GR.out)
      clear HS SL0 G5 WN NF IS
      go_wp2_with fail
      refine IS5.out.mono ?_
      rintro e w6 ⟨v6, zs, rfl, im6, ab6, g6⟩
      have hzl : zs.length = L := by rw [← abs_len, ab6, HAX.out]; exact HAL.out
      obtain ⟨Pi, Ci, hv6⟩ := row_formS im6.row
      rw [hzl] at hv6
      subst hv6
      have G6 := mkHid (grTrans GR.out g6)
      obtain ⟨b6, hb6⟩ : ∃ b6, b6 = wr.heap.size := ⟨_, rfl⟩
      rw [← hb6] at im6
      have hwb6 : w.heap.size ≤ b6 := by rw [hb6]; exact GR.out.size
      have IM6 := mkHid im6
      have HZL := mkHid hzl
      have HAB : Hid (absX zs = A) := ab6.trans HAX.out
      obtain ⟨p0, p1⟩ := KS.out _ G6.out
      have hpr6 := World.block_lt_of_cell? w6 _ p0
      have IR6 := mkHid (IR.out _ G6.out)
      clear im6 ab6 g6 hzl q0 q1 IS5 IR hb6
      go_wp2_with fail
      refine IR6.out.mono ?_
      rintro e w7 ⟨Pj, Cj, rfl, en7, g7⟩
      have G7 := mkHid (grTrans G6.out g7)
      have IM7 := mkHid (IM6.out.grow g7)
      have IE := mkHid (Images_any A Pi Pj Ci Cj L w7 HAL.out (by omega) (by have := IM7.out.im.en HZL.out; rw [HAB.out] at this; exact this) en7)
      clear en7 g7 IR6 p0 p1 IM6
      go_wp2_with fail
      refine IE.out.mono ?_
      rintro e w8 ⟨rfl, g8⟩
      have SP0 : Hid ((∃ zs, imgX w8 b6 (.slice Pi L Ci) zs ∧ zs.length = L) ∧ w.grownBy w8 none) := ⟨⟨zs, IM7.out.grow g8, HZL.out⟩, grTrans G7.out g8⟩
      clear g8 IE IM7 G7 HZL HAB G6 GR
      go_wp2_with fail
      go_loopw [7] (fun s7 wr => ∃ (i : Nat), s7 = .int .i64 (i : Int) ∧ i ≤ L ∧ Hid ((∃ zs, imgX wr b6 (.slice Pi L Ci) zs ∧ zs.length = L) ∧ w.grownBy wr none)) (fun s7 _ => L - (intOf s7).toNat)
      case atStart => exact ⟨0, rfl, Nat.zero_le _, SP0⟩
      case round =>
        obtain ⟨i, rfl, hi2, HP⟩ := hrel
        by_cases hlt2 : i < L
        · have hlti2 : (i : Int) < (L : Int) := by omega
          obtain ⟨⟨ys, im, hyl⟩, gq⟩ := HP.out
          obtain ⟨z, hz⟩ : ∃ z, ys[i]? = some z := ⟨ys[i]'(by omega), List.getElem?_eq_getElem _⟩
          obtain ⟨g, rfl, a0, a1, a2, Pz, Cz, ez, oz⟩ := im.im.at_ hyl hz
          rw [ez] at a1
          have SPC := mkHid (spoil_any b6 (.slice Pz z.2.l.length Cz) z.2.l wr oz (im.ll z (List.mem_of_getElem? hz)) (by
            obtain ⟨cs, hk⟩ := own_kind im.row g rfl
            have := lt_of_heap hk
            rcases im.row.2 with ⟨e, _⟩ | ⟨g', _, _, e, hge, _⟩
            · cases e
            · cases e; omega))
          have hgb : b6 ≤ g := by
            rcases im.row.2 with ⟨e, _⟩ | ⟨g', _, _, e, hge, _⟩
            · cases e
            · cases e; exact hge
          have og : ∀ q, (Value.slice Pz z.2.l.length Cz).ownBlock = some q → b6 ≤ q := fun q hq => by
            rcases oz.2 with ⟨e, _⟩ | ⟨g', _, _, e, hge, _⟩
            · rw [e] at hq; cases hq
            · rw [e] at hq; cases hq; exact hge
          have NEXT : Hid (∀ w9, Chg (fun q => (Value.slice Pz z.2.l.length Cz).ownBlock = some q) wr w9 → (∃ cs, w9.heap[g]? = some (.cells cs 50 (0, 0)) ∧ i * 3 + 2 < cs.size) ∧ (∃ zs, imgX (((w9.setCell ⟨g, i * 3, none⟩ (.string ⟨#[115, 112, 111, 105, 108, 116]⟩)).setCell ⟨g, i * 3 + 1, none⟩ (.slice none 0 0)).setCell ⟨g, i * 3 + 2, none⟩ (.int .i64 0)) b6 (.slice (some ⟨g, 0, none⟩) L Ci) zs ∧ zs.length = L) ∧ w.grownBy (((w9.setCell ⟨g, i * 3, none⟩ (.string ⟨#[115, 112, 111, 105, 108, 116]⟩)).setCell ⟨g, i * 3 + 1, none⟩ (.slice none 0 0)).setCell ⟨g, i * 3 + 2, none⟩ (.int .i64 0)) none) := fun w9 hc => by
            rw [← ez] at hc
            have sp := im.spoil hyl hz hc [115, 112, 111, 105, 108, 116]
            refine ⟨?_, ⟨_, sp.1, by rw [List.length_set]; exact hyl⟩, ?_⟩
            · have r9 := hc.row im.row (fun g' hg' e => by
                cases hg'
                obtain ⟨cs, k1⟩ := own_kind im.row g rfl
                obtain ⟨cs2, k2⟩ := own_kind oz g (by rw [← ez]; exact e)
                rw [k1] at k2; simp at k2)
              rw [hyl] at r9
              obtain ⟨cs, hk⟩ := own_kind r9 g rfl
              refine ⟨cs, hk, ?_⟩
              have h5 := World.ownsRow.cellAt r9 (i * 3 + 2) (by omega)
              have h6 : (entsV ys)[i * 3 + 2]? = some (.int .i64 (z.2.k : Int)) := entsV_at ys i z hz 2 (by omega)
              rw [h6] at h5
              have h7 := (cell_of_block hk (i * 3 + 2)).symm.trans h5
              exact (Array.getElem?_eq_some_iff.1 h7).1
            · have c2 := sp.2
              exact ⟨c2.os.trans gq.os, c2.tape.trans gq.tape, c2.output.trans gq.output, Nat.le_trans gq.size c2.size, fun q hq _ => (c2.block q (Nat.lt_of_lt_of_le hq gq.size) (fun e => by
                rcases e with e | e
                · omega
                · have := og q (by rw [← ez]; exact e); omega)).trans (gq.block q hq (by simp))⟩
          have hgl := World.block_lt_of_cell? wr _ a0
          obtain ⟨M, hM⟩ : ∃ M, M = z.2.l.length := ⟨_, rfl⟩
          rw [← hM] at a1 SPC NEXT
          clear im hyl gq hz ez oz og a0 a2 hM HP
          go_wp2_with fail
          refine SPC.out.mono ?_
          rintro e w9 ⟨rfl, c9⟩
          obtain ⟨⟨cs, hk9, hcs⟩, F1, F2⟩ := NEXT.out w9 c9
          have J9 : Hid ((∃ zs, imgX (((w9.setCell ⟨g, i * 3, none⟩ (.string ⟨#[115, 112, 111, 105, 108, 116]⟩)).setCell ⟨g, i * 3 + 1, none⟩ (.slice none 0 0)).setCell ⟨g, i * 3 + 2, none⟩ (.int .i64 0)) b6 (.slice (some ⟨g, 0, none⟩) L Ci) zs ∧ zs.length = L) ∧ w.grownBy (((w9.setCell ⟨g, i * 3, none⟩ (.string ⟨#[115, 112, 111, 105, 108, 116]⟩)).setCell ⟨g, i * 3 + 1, none⟩ (.slice none 0 0)).setCell ⟨g, i * 3 + 2, none⟩ (.int .i64 0)) none) := ⟨F1, F2⟩
          obtain ⟨y0, hy0⟩ : ∃ y, w9.cell? ⟨g, i * 3, none⟩ = some y := ⟨cs[i * 3], (cell_of_block hk9 _).trans (Array.getElem?_eq_getElem (by omega))⟩
          obtain ⟨y1, hy1⟩ : ∃ y, w9.cell? ⟨g, i * 3 + 1, none⟩ = some y := ⟨cs[i * 3 + 1], (cell_of_block hk9 _).trans (Array.getElem?_eq_getElem (by omega))⟩
          obtain ⟨y2, hy2⟩ : ∃ y, w9.cell? ⟨g, i * 3 + 2, none⟩ = some y := ⟨cs[i * 3 + 2], (cell_of_block hk9 _).trans (Array.getElem?_eq_getElem hcs)⟩
          have x0 := unfrozen_of_block hk9 (i * 3)
          have x1 := unfrozen_of_block hk9 (i * 3 + 1)
          have x2 := unfrozen_of_block hk9 (i * 3 + 2)
          have hg9 := lt_of_heap hk9
          clear F1 F2 NEXT SPC c9 hk9 hcs a1
          go_wp2_with fail
          go_roundw
          case rel => exact ⟨i + 1, by go_num, hlt2, J9⟩
          case measure => simp [intOf]; omega
        · have hlti2 : ¬ (i : Int) < (L : Int) := by omega
          have FG := mkHid HP.out.2
          clear HP
          go_wp2_with fail
          go_ret
          exact ⟨rfl, FG.out⟩
end Go.Proofs.Ytdiehlioemmakaa

