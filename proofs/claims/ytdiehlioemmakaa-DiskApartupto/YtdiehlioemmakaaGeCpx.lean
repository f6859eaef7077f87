/-
  The walk of simfs's Image.
-/
import Derived.Test.YtdiehlioemmakaaUM
import Derived.Great.BuildSlice
namespace Go.Proofs.Ytdiehlioemmakaa
open Go.RowKit Go.Maps Go.Joins

theorem entInfo : (Try.prog.info? 50).map (fun i => (i.zero, i.size, i.bytes)) = some (some (.agg #[.string ⟨#[]⟩, .slice none 0 0, .int .i64 0]), 3, 48) := by kernel_rfl
theorem entSlice : Try.prog.underlying 45 = some (.slice 50) := by kernel_rfl
/-- the cells of an image -/
def entsV (zs : List (List UInt8 × Fl)) : List Value := zs.flatMap fun z => [.string ⟨z.1.toArray⟩, z.2.v, .int .i64 (z.2.k : Int)]
theorem entsV_app (a : List (List UInt8 × Fl)) (z : List UInt8 × Fl) : entsV (a ++ [z]) = entsV a ++ [.string ⟨z.1.toArray⟩, z.2.v, .int .i64 (z.2.k : Int)] := by simp [entsV]
structure imgIn (w : World) (base : Nat) (v : Value) (zs : List (List UInt8 × Fl)) : Prop where
  row : w.ownsRow base 50 3 v zs.length (entsV zs)
  by_ : ∀ z ∈ zs, ownsB w base z.2.v z.2.l
theorem row_formS {w : World} {base size n : Nat} {e : TypeId} {v : Value} {xs : List Value} (h : w.ownsRow base e size v n xs) : ∃ P C, v = .slice P n C := by
  rcases h.2 with ⟨e, h0⟩ | ⟨g, cap, cur, e, _⟩
  · exact ⟨none, 0, by rw [e, h0]⟩
  · exact ⟨_, _, e⟩
theorem rebase {w : World} {base base' size n : Nat} {e : TypeId} {v : Value} {xs : List Value} (h : w.ownsRow base e size v n xs) (hb : ∀ g, v.ownBlock = some g → base' ≤ g) : w.ownsRow base' e size v n xs := by
  refine ⟨h.1, ?_⟩
  rcases h.2 with h2 | ⟨g, cap, cur, rfl, _, r⟩
  · exact Or.inl h2
  · exact Or.inr ⟨g, cap, cur, rfl, hb g rfl, r⟩
theorem row_other {w w' : World} {b e s n b2 e2 s2 n2 : Nat} {v v2 : Value} {xs ys : List Value} (h : w.ownsRow b e s v n xs) (h2 : w.ownsRow b2 e2 s2 v2 n2 ys) (hne : e ≠ e2) (hg : w.grownBy w' v2.ownBlock) : w'.ownsRow b e s v n xs := by
  refine World.ownsRow.kept h hg ?_
  cases hv : v.ownBlock with
  | none => exact Or.inl rfl
  | some g =>
    refine Or.inr (fun e => ?_)
    obtain ⟨c1, k1⟩ := own_kind h g hv
    obtain ⟨c2, k2⟩ := own_kind h2 g e.symm
    rw [k1] at k2
    simp at k2
    exact hne k2.2
theorem imgIn.grow {w w' : World} {base : Nat} {v : Value} {zs : List (List UInt8 × Fl)} (h : imgIn w base v zs) (hg : w.grownBy w' none) : imgIn w' base v zs :=
  ⟨World.ownsRow.kept h.row hg (by cases v.ownBlock <;> simp), fun z hz => ownG (h.by_ z hz) hg⟩
theorem lit3_run (w : World) (n : List UInt8) (P : Option Addr) (N C : Nat) (k : Int) : (Instr.buildSlice 45 1 #[(0, .agg #[.string ⟨n.toArray⟩, .slice P N C, .int .i64 k])]).run Try.prog w = .ok (.slice (some ⟨w.heap.size, 0, none⟩) 1 1) (w.alloc (.cells #[.string ⟨n.toArray⟩, .slice P N C, .int .i64 k] 50)) := by
  obtain ⟨i0, hi, hz0, hz1, hz2⟩ := info_parts entInfo
  refine run_buildSlice w 45 50 1 _ _ i0 _ entSlice hi hz0 (by rw [hz1]; omega) (by rw [hz1]; omega) ?_
  rw [hz1]
  first | kernel_rfl | (simp [Instr.fill, Value.cells]; done) | (simp [Instr.fill, Value.cells]; rfl) | go_simp
theorem step_lit3 {ops : Array Oper} {o : Oper} {a : Act} {w : World} {K : Act → World → Prop} {Q : Exit → Act → World → Prop} {E : Prop} {n : List UInt8} {P : Option Addr} {N C : Nat} {k : Int} (hgd : o.guard = none) (x : Operand) (ho : o.op = .buildSlice 45 1 #[(0, x)]) (hx : a.eval x = .agg #[.string ⟨n.toArray⟩, .slice P N C, .int .i64 k])
    (h : K (a.put o.dst (.slice (some ⟨w.heap.size, 0, none⟩) 1 1)) (w.alloc (.cells #[.string ⟨n.toArray⟩, .slice P N C, .int .i64 k] 50))) :
    if Region.wanted o (yielded ops a.tmps) = true then Oper.wp Try.prog o a w K Q else E := by
  have hwd : Region.wanted o (yielded ops a.tmps) = true := by simp [Region.wanted, hgd]
  rw [if_pos hwd]
  unfold Oper.wp execOp
  simp only [ho, Sem.run_bind, Sem.run_pure, Result.andThen_ok, List.map_toArray, List.map_cons, List.map_nil, hx, lit3_run]
  exact h
/-- an entry more -/
theorem img_app {w : World} {base : Nat} {v : Value} {zs : List (List UInt8 × Fl)} (h : imgIn w base v zs) {n : List UInt8} {Pz : Option Addr} {Cz : Nat} {Z : Fl} (hv : Z.v = .slice Pz Z.l.length Cz) (hZ : ownsB w base Z.v Z.l) (hl : zs.length ≤ 1000) (hb : base ≤ w.heap.size) {W : World} (hW : W = w.alloc (.cells #[.string ⟨n.toArray⟩, .slice Pz Z.l.length Cz, .int .i64 (Z.k : Int)] 50)) :
    ∃ v' w', (∀ ty, (Builtin.append_ #[45, 45] ty #[v, .slice (some ⟨w.heap.size, 0, none⟩) 1 1]).run Try.prog W = .ok v' w') ∧ imgIn w' base v' (zs ++ [(n, Z)]) ∧ W.grownBy w' v.ownBlock := by
  obtain ⟨i0, hi, hz0, hz1, hz2⟩ := info_parts entInfo
  have g0 : w.grownBy W none := by rw [hW]; exact World.grownBy_alloc w _ none
  have h1 := h.grow g0
  have hblk : W.heap[w.heap.size]? = some (.cells #[.string ⟨n.toArray⟩, .slice Pz Z.l.length Cz, .int .i64 (Z.k : Int)] 50 (0, 0)) := by rw [hW]; exact heap_alloc_new _ _
  have key : ∀ ty, ∃ v' w', (Builtin.append_ #[45, 45] ty #[v, .slice (some ⟨w.heap.size, 0, none⟩) 1 1]).run Try.prog W = .ok v' w' ∧ w'.ownsRow base 50 3 v' (zs.length + 1) (entsV zs ++ [.string ⟨n.toArray⟩, .slice Pz Z.l.length Cz, .int .i64 (Z.k : Int)]) ∧ W.grownBy w' v.ownBlock ∧ (v' = .slice none 0 0 ↔ v = .slice none 0 0 ∧ 1 = 0) ∧ (v'.ownBlock = v.ownBlock ∨ v'.ownBlock = some W.heap.size) := fun ty =>
    run_append_own_at (P := Try.prog) W base 45 ty 50 i0 _ 3 48 entSlice hi hz0 hz1 hz2 rfl (by decide) v zs.length (entsV zs) h1.row ⟨w.heap.size, 0, none⟩ 1 1 [.string ⟨n.toArray⟩, .slice Pz Z.l.length Cz, .int .i64 (Z.k : Int)] rfl (fun j u hj => by
      rw [add_plain, Nat.zero_add]
      rcases j with _ | _ | _ | j
      · simp at hj; subst hj; exact (cell_of_block hblk 0).trans rfl
      · simp at hj; subst hj; exact (cell_of_block hblk 1).trans rfl
      · simp at hj; subst hj; exact (cell_of_block hblk 2).trans rfl
      · simp at hj) (by intro u hu; simp at hu; rcases hu with rfl | rfl | rfl <;> rfl) (by unfold maxLen; omega) (by omega) (Nat.le_trans hb g0.size)
  obtain ⟨v', w', h2, h3, h4, _, _⟩ := key 0
  refine ⟨v', w', fun ty => h2, ⟨?_, fun z hz => ?_⟩, h4⟩
  · rw [entsV_app, List.length_append, hv]; exact h3
  · rw [List.mem_append, List.mem_singleton] at hz
    rcases hz with hz | rfl
    · exact row_other (h1.by_ z hz) h1.row (by decide) h4
    · exact row_other (ownG hZ g0) h1.row (by decide) h4
theorem abs_app (a : List (List UInt8 × Fl)) (n : List UInt8) (Z : Fl) : absX (a ++ [(n, Z)]) = absX a ++ [(n, (Z.l, Z.k))] := by simp [absX]
def ImQ (w : World) (xs : List (List UInt8 × Fl)) (e : Ending) (w' : World) : Prop := ∃ v zs, e = .returned v ∧ imgIn w' w.heap.size v zs ∧ absX zs = absX xs ∧ w.grownBy w' none
set_option maxHeartbeats 8000000 in
set_option maxRecDepth 1000000 in
theorem Image_any {P : Nat → Prop} (base f : Nat) (q st : Int) (mo : Option Nat) (xs : List (List UInt8 × Fl)) (us : List Ux) (w : World) (so : SrtN xs) (hl : xs.length ≤ 1000) (hn : ∀ p ∈ xs, p.1.length ≤ 1000000000) (d : Dsk P w base f q st mo xs us) :
    Calls Try.prog 16 #[.pointer (some ⟨f, 0, none⟩)] w fun e w' => ImQ w xs e w' := by
  have LI := mkHid (List_any base f q st mo xs us w so hl d)
  have D := mkHid d
  have SO := mkHid so
  have HN := mkHid hn
  obtain ⟨L, hL⟩ : ∃ L, L = xs.length := ⟨_, rfl⟩
  have HL := mkHid hL
  rw [← hL] at hl LI
  clear d so hn hL
  go_enter Try.func16, Try.ntmps16
  go_wp2_with fail
  refine LI.out.mono ?_
  rintro e w1 ⟨v1, rfl, o1, g1⟩
  obtain ⟨P1, C1, rfl⟩ := row_form o1
  have O1 := mkHid o1
  have G1 := mkHid g1
  have I0 : Hid (imgIn w1 w.heap.size (.slice none 0 0) []) := ⟨⟨rfl, Or.inl ⟨rfl, rfl⟩⟩, fun z hz => by simp at hz⟩
  clear o1 g1 LI
  go_wp2_with fail
  go_loopw [3, 5, 6, 10] (fun s3 _ _ s10 wr => ∃ (i : Nat) (P3 : Option Addr) (C3 : Nat) (zs : List (List UInt8 × Fl)), s3 = .slice P3 i C3 ∧ s10 = .int .i64 (i : Int) ∧ i ≤ L ∧ Hid (imgIn wr w.heap.size (.slice P3 i C3) zs ∧ zs.length = i ∧ absX zs = absX (xs.take i)) ∧ Hid (wr.ownsRow w.heap.size 9 1 (.slice P1 L C1) L ((xs.map (·.1)).map encStr)) ∧ Hid (w.grownBy wr none)) (fun _ _ _ s10 _ => L - (intOf s10).toNat)
  case atStart => exact ⟨0, none, 0, [], rfl, rfl, Nat.zero_le _, ⟨I0, rfl, rfl⟩, O1, G1⟩
  case round =>
    obtain ⟨i, P3, C3, zs, rfl, rfl, hi, HI, OR, GR⟩ := hrel
    by_cases hlt : i < L
    · have hlti : (i : Int) < (L : Int) := by omega
      obtain ⟨⟨n, X⟩, hx⟩ : ∃ p, xs[i]? = some p := ⟨xs[i]'(by have : L = xs.length := HL.out; omega), List.getElem?_eq_getElem _⟩
      have hmem := List.mem_of_getElem? hx
      have hnl : n.length ≤ 1000000000 := HN.out (n, X) hmem
      have hlook := look_in SO.out hmem
      obtain ⟨g1, hg1e⟩ : ∃ g, P1 = some ⟨g, 0, none⟩ := by
        rcases OR.out.2 with ⟨e, h0⟩ | ⟨g, cap, cur, e, _⟩
        · exfalso; omega
        · cases e; exact ⟨g, rfl⟩
      subst hg1e
      have cnm : wr.cell? ⟨g1, i, none⟩ = some (.string ⟨n.toArray⟩) := by
        rw [World.ownsRow.cellAt OR.out i (by omega), List.getElem?_map, List.getElem?_map, hx]; rfl
      have DR := D.out.kept GR.out
      obtain ⟨ov, h1, h2, _⟩ := DR.fs
      obtain ⟨c0, c1, c2, c3, cf⟩ := h1.c
      have okX : FlOk wr base X := DR.fl.ok X (List.mem_append_left _ (List.mem_map.2 ⟨(n, X), hmem, rfl⟩))
      have lk := DR.look n (by unfold maxLen; omega)
      rw [hlook] at lk
      unfold lookV at lk
      have CP := mkHid (copied_ok base X wr okX DR.bs)
      have hw1 := World.block_lt_of_cell? wr _ cnm
      have hbw := GR.out.size
      have kl := okX.kl
      have ll := okX.ll
      clear h1 h2 c0 c2 c3 cf DR okX hmem hlook
      go_wp2_with fail
      refine CP.out.mono ?_
      rintro e w2 ⟨b, v2, rfl, hb2, ok2, hf2, g2⟩
      obtain ⟨P2, C2, hP2⟩ := ok2.form
      have hP2' : v2 = .slice P2 X.l.length C2 := hP2
      subst hP2'
      obtain ⟨x0, x1, xf⟩ := ok2.c
      have gd2 : wr.grownBy w2.drew none := grTrans g2 ⟨rfl, rfl, rfl, Nat.le_refl _, fun _ _ _ => rfl⟩
      obtain ⟨W, hW⟩ : ∃ W, W = w2.drew.alloc (.cells #[.string ⟨n.toArray⟩, .slice P2 X.l.length C2, .int .i64 (X.k : Int)] 50) := ⟨_, rfl⟩
      have hsz : w.heap.size ≤ w2.drew.heap.size := Nat.le_trans hbw gd2.size
      have gW : w2.drew.grownBy W none := by rw [hW]; exact World.grownBy_alloc _ _ none
      have im2 := HI.out.1.grow gd2
      obtain ⟨v5, w5, run5, im5, g5⟩ := img_app im2 (n := n) (Z := ⟨b, .slice P2 X.l.length C2, X.l, X.k⟩) rfl (ownG (rebase ok2.row (fun g hg => Nat.le_trans hbw (hf2 g hg))) ⟨rfl, rfl, rfl, Nat.le_refl _, fun _ _ _ => rfl⟩) (by have : zs.length = i := HI.out.2.1; omega) hsz hW
      have hzl : zs.length = i := HI.out.2.1
      have row5 := im5.row
      rw [List.length_append, hzl] at row5
      obtain ⟨P5, C5, hv5⟩ := row_formS row5
      have hv5' : v5 = .slice P5 (i + 1) C5 := hv5
      subst hv5'
      have imW := im2.grow gW
      have og : ∀ g, (Value.slice P3 i C3).ownBlock = some g → w.heap.size ≤ g := fun g hg => by
        rcases im2.row.2 with ⟨e, _⟩ | ⟨g', cap, cur, e, hge, _⟩
        · rw [e] at hg; cases hg
        · rw [e] at hg; cases hg; exact hge
      have g05 : w.grownBy w5 none := by
        have gw := grTrans (grTrans GR.out gd2) gW
        exact ⟨g5.os.trans gw.os, g5.tape.trans gw.tape, g5.output.trans gw.output, Nat.le_trans gw.size g5.size, fun k hk _ => (g5.block k (Nat.lt_of_lt_of_le hk gw.size) (fun e => by have := og k e.symm; omega)).trans (gw.block k hk (by simp))⟩
      have xc : w5.cell? ⟨b, 0, none⟩ = some (.slice P2 X.l.length C2) ∧ w5.cell? ⟨b, 1, none⟩ = some (.int .i64 (X.k : Int)) := by
        have hbk : W.heap[b]? = some (.cells #[.slice P2 X.l.length C2, .int .i64 (X.k : Int)] 86 (0, 0)) := (gW.block b (lt_of_heap ok2.at_) (by simp)).trans ok2.at_
        have hb5 := (g5.block b (lt_of_heap hbk) (fun e => by
          obtain ⟨cs, hk⟩ := own_kind imW.row b e.symm
          rw [hbk] at hk; simp at hk)).trans hbk
        exact ⟨(cell_of_block hb5 0).trans rfl, (cell_of_block hb5 1).trans rfl⟩
      have xW : W.cell? ⟨b, 0, none⟩ = some (.slice P2 X.l.length C2) ∧ W.cell? ⟨b, 1, none⟩ = some (.int .i64 (X.k : Int)) := ⟨gW.cell x0 (by simp), gW.cell x1 (by simp)⟩
      have OR5 : Hid (w5.ownsRow w.heap.size 9 1 (.slice (some ⟨g1, 0, none⟩) L C1) L ((xs.map (·.1)).map encStr)) := row_other (World.ownsRow.kept OR.out (grTrans gd2 gW) (by right; simp [Value.ownBlock])) imW.row (by decide) g5
      have HI5 : Hid (imgIn w5 w.heap.size (.slice P5 (i + 1) C5) (zs ++ [(n, ⟨b, .slice P2 X.l.length C2, X.l, X.k⟩)]) ∧ (zs ++ [(n, (⟨b, .slice P2 X.l.length C2, X.l, X.k⟩ : Fl))]).length = i + 1 ∧ absX (zs ++ [(n, ⟨b, .slice P2 X.l.length C2, X.l, X.k⟩)]) = absX (xs.take (i + 1))) := by
        refine ⟨im5, by rw [List.length_append, hzl]; rfl, ?_⟩
        have h5 : absX zs = absX (xs.take i) := HI.out.2.2
        rw [abs_app, h5, List.take_add_one, hx]
        simp [absX]
      have G5 := mkHid g05
      have HX5 := mkHid xc
      have HXW := mkHid xW
      have hbl := lt_of_heap ok2.at_
      clear im2 im5 imW row5 og g05 xc xW hzl gW ok2 hf2 hP2 xf CP hx hv5
      go_wp2_with fail
      refine wp_region_noPanic ?_
      refine wp_region_held_drew (S := fun w' : World => w'.cell? ⟨b, 0, none⟩ = some (.slice P2 X.l.length C2) ∧ w'.cell? ⟨b, 1, none⟩ = some (.int .i64 (X.k : Int))) (by kernel_rfl) (⟨x0, x1⟩) (fun hH => ?_)
      refine tKx (i := 0) (v := .slice P3 i C3) rfl rfl (by kernel_rfl) (fun _ _ _ h => h) ?_ hH ?_
      · intro w5 hSw; obtain ⟨hv0, hv1⟩ := hSw; go_simp
      simp only [zA9, zB9, zC9]
      refine tKx (i := 1) (v := .string ⟨n.toArray⟩) rfl rfl (by kernel_rfl) (fun _ _ _ h => h) ?_ hH ?_
      · intro w5 hSw; obtain ⟨hv0, hv1⟩ := hSw; go_simp
      simp only [zA9, zB9, zC9]
      refine tKx (i := 2) (v := .pointer (some ⟨b, 0, none⟩)) rfl rfl (by kernel_rfl) (fun _ _ _ h => h) ?_ hH ?_
      · intro w5 hSw; obtain ⟨hv0, hv1⟩ := hSw; go_simp
      simp only [zA9, zB9, zC9]
      refine tKx (i := 3) (v := .pointer (some ⟨b, 0, none⟩)) rfl rfl (by kernel_rfl) (fun _ _ _ h => h) ?_ hH ?_
      · intro w5 hSw; obtain ⟨hv0, hv1⟩ := hSw; go_simp
      simp only [zA9, zB9, zC9]
      refine tKx (i := 4) (v := .pointer (some ⟨b, 0, none⟩)) rfl rfl (by kernel_rfl) (fun _ _ _ h => h) ?_ hH ?_
      · intro w5 hSw; obtain ⟨hv0, hv1⟩ := hSw; go_simp
      simp only [zA9, zB9, zC9]
      refine tKx (i := 5) (v := .slice P2 X.l.length C2) rfl rfl (by kernel_rfl) (fun _ _ _ h => h) ?_ hH ?_
      · intro w5 hSw; obtain ⟨hv0, hv1⟩ := hSw; go_simp
      simp only [zA9, zB9, zC9]
      refine tKx (i := 6) (v := .pointer (some ⟨b, 0, none⟩)) rfl rfl (by kernel_rfl) (fun _ _ _ h => h) ?_ hH ?_
      · intro w5 hSw; obtain ⟨hv0, hv1⟩ := hSw; go_simp
      simp only [zA9, zB9, zC9]
      refine tKx (i := 7) (v := .pointer (some ⟨b, 0, none⟩)) rfl rfl (by kernel_rfl) (fun _ _ _ h => h) ?_ hH ?_
      · intro w5 hSw; obtain ⟨hv0, hv1⟩ := hSw; go_simp
      simp only [zA9, zB9, zC9]
      refine tKx (i := 8) (v := .pointer (some ⟨b, 1, none⟩)) rfl rfl (by kernel_rfl) (fun _ _ _ h => h) ?_ hH ?_
      · intro w5 hSw; obtain ⟨hv0, hv1⟩ := hSw; go_simp
      simp only [zA9, zB9, zC9]
      refine tKx (i := 9) (v := .int .i64 (X.k : Int)) rfl rfl (by kernel_rfl) (fun _ _ _ h => h) ?_ hH ?_
      · intro w5 hSw; obtain ⟨hv0, hv1⟩ := hSw; go_simp
      simp only [zA9, zB9, zC9]
      refine tKx (i := 10) (v := .agg #[.string ⟨n.toArray⟩, .slice P2 X.l.length C2, .int .i64 (X.k : Int)]) rfl rfl (by kernel_rfl) (fun _ _ _ h => h) ?_ hH ?_
      · intro w5 hSw; obtain ⟨hv0, hv1⟩ := hSw; go_simp
      simp only [zA9, zB9, zC9]
      refine wpAnyH_ready (rs := [11]) (by kernel_rfl) (by simp) ?_
      refine AllReadyH.cons rfl (fun K hK => ?_) AllReadyH.nil
      refine step_lit3 rfl (.tmp 31) rfl rfl ?_
      rw [← hW]
      refine hK.out _ _ HXW.out (fun hH => ?_)
      clear hK K
      simp only [Act.put, List.setIfInBounds_toArray]
      refine wpAnyH_ready (rs := [12]) (by kernel_rfl) (by simp) ?_
      refine AllReadyH.cons rfl (fun K hK => ?_) AllReadyH.nil
      refine step_app 45 rfl (.tmp 21) (.tmp 32) rfl rfl rfl run5 ?_
      refine hK.out _ _ HX5.out (fun hH => ?_)
      clear hK K
      simp only [Act.put]
      refine wpAnyH_ready (rs := [13]) (by kernel_rfl) (by simp) ?_
      refine AllReadyH.cons rfl (fun K hK => ?_) AllReadyH.nil
      go_simp
      refine hK.out _ _ HX5.out (fun hH => ?_)
      clear hK K
      refine wpAnyH_done (by kernel_rfl) ?_ _
      refine NoPanic.normal ?_
      clear hH hW run5
      go_wp2_with fail
      go_roundw
      case rel => exact ⟨i + 1, P5, C5, _, rfl, by go_num, hlt, HI5, OR5, G5⟩
      case measure => simp [intOf]; omega
    · have hlti : ¬ (i : Int) < (L : Int) := by omega
      have e : i = L := by omega
      subst e
      have HE : Hid (absX zs = absX xs) := by
        have h5 : absX zs = absX (xs.take i) := HI.out.2.2
        have h6 : i = xs.length := HL.out
        rw [List.take_of_length_le (by omega)] at h5
        exact h5
      go_wp2_with fail
      go_ret
      exact ⟨_, zs, rfl, HI.out.1, HE.out, GR.out⟩
end Go.Proofs.Ytdiehlioemmakaa

