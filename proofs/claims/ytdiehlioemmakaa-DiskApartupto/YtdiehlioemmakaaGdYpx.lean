/-
  One call on both disks: Stop, Append, Crash, and what is no call.
-/
import Derived.Test.YtdiehlioemmakaaGdXpx
namespace Go.Proofs.Ytdiehlioemmakaa
open Go.RowKit Go.Maps Go.Joins

theorem gr_drew (w : World) : w.grownBy w.drew none := ⟨rfl, rfl, rfl, Nat.le_refl _, fun _ _ _ => rfl⟩
theorem Half.grow {Q : Nat → Prop} {w0 w w' : World} {base fp fr pr : Nat} {s s' : St} (h : Half Q w0 w base fp fr pr s s') (hg : w.grownBy w' none) (hb : base ≤ w0.heap.size) : Half Q w0 w' base fp fr pr s s' := by
  obtain ⟨st, mo, xs, us, d, j⟩ := h.d
  refine ⟨⟨st, mo, xs, us, d.kept hg, j⟩, h.r.grown hg, h.nf, (hg.block pr (lt_of_heap h.p) (by simp)).trans h.p, h.np, h.bl.trans ⟨hg.os, hg.tape, hg.output, hg.size, fun k hk => hg.block k (Nat.lt_of_lt_of_le hk (Nat.le_trans hb h.bl.size)) (by simp)⟩⟩
theorem BxS.grow {b fp fr pr : Nat} {k m : Int} {n t : List UInt8} {B K : Value} {w w' : World} (h : BxS b fp fr pr k m n t B K w) (hg : w.grownBy w' none) : BxS b fp fr pr k m n t B K w' := ⟨(hg.block pr (lt_of_heap h.1) (by simp)).trans h.1, (hg.block b (lt_of_heap h.2) (by simp)).trans h.2⟩
theorem BxS.chg {b fp fr pr : Nat} {k m : Int} {n t : List UInt8} {B K : Value} {S : Nat → Prop} {w w' : World} (h : BxS b fp fr pr k m n t B K w) (hc : Chg S w w') (h1 : ¬ S pr) (h2 : ¬ S b) : BxS b fp fr pr k m n t B K w' := ⟨hc.at_ h.1 h1, hc.at_ h.2 h2⟩
theorem Both.more {P : Nat → Prop} {w : World} {base fp fr pr N M : Nat} {s : St} (h : Both P w base fp fr pr s N) (hN : N ≤ M) (hM : M ≤ 2000000) : Both P w base fp fr pr s M := ⟨h.d, h.r, h.nf, h.p, h.np, ⟨by have := h.bd; omega, by have := h.bd; omega, hM⟩⟩
/-- bytes that are new since w are written over -/
theorem Both.spoilt {P : Nat → Prop} {w w1 w2 : World} {base fp fr pr N : Nat} {s : St} {S : Nat → Prop} (h : Both P w base fp fr pr s N) (hg : w.grownBy w1 none) (hc : Chg S w1 w2) (hS : ∀ i, S i → w.heap.size ≤ i) : Both P w2 base fp fr pr s N ∧ Below base w w2 := by
  have hl := h.lt
  have hC : Chg S w w2 := (Chg.of_none hg S).trans hc
  obtain ⟨st, mo, xs, us, d, j⟩ := h.d
  have hn : ∀ i, P i → ¬ S i := fun i hi hs => by have := hl.2.2.2 i hi; have := hS i hs; omega
  have r2 := ((h.r.away (Chg.of_none hg P) h.nf.1).less (F' := fun i => P i ∨ (S i ∧ i < w1.heap.size)) (fun i hi => by rcases hi with hi | hi; exact Or.inl hi; exact Or.inr ⟨hS i hi.1, hi.2⟩)).away (w' := w2) (hc.mono (fun i hi hs => Or.inr ⟨hs, hi⟩)) (fun e => by rcases e with e | e; exact h.nf.1 e; have := hS _ e.1; omega)
  refine ⟨⟨⟨st, mo, xs, us, d.away hC hn, j⟩, r2.less (fun i hi => Or.inl (Or.inl hi)), h.nf, hC.at_ h.p (fun e => by have := hS _ e; omega), h.np, h.bd⟩, ⟨hC.os, hC.tape, hC.output, hC.size, fun k hk => hC.block k (by omega) (fun e => by have := hS _ e; omega)⟩⟩
/-- the bytes that were handed to the program's disk are written over -/
theorem Half.spoilt {P Q : Nat → Prop} {w w1 w2 w3 : World} {base fp fr pr N : Nat} {s s' : St} {S : Nat → Prop} (h : Both P w base fp fr pr s N) (hg : w.grownBy w1 none) (hf : Half Q w1 w2 base fp fr pr s s') (hc : Chg P w1 w2) (hq : ∀ i, Q i → P i ∨ w1.heap.size ≤ i) (hk : Chg S w2 w3) (hS : ∀ i, S i → w.heap.size ≤ i ∧ i < w1.heap.size) : Half Q w1 w3 base fp fr pr s s' := by
  have hl := h.lt
  obtain ⟨st, mo, xs, us, d, j⟩ := hf.d
  have hn : ∀ i, Q i → ¬ S i := fun i hi hs => by
    have h2 := hS i hs
    rcases hq i hi with h1 | h1
    · have := hl.2.2.2 i h1; omega
    · omega
  have r1 := (h.r.away (Chg.of_none hg P) h.nf.1).less (F' := fun i => P i ∨ S i) (fun i hi => by rcases hi with hi | hi; exact Or.inl hi; exact Or.inr (hS i hi))
  have nfr : ¬ (P fr ∨ S fr) := fun e => by rcases e with e | e; exact h.nf.1 e; have := hS _ e; omega
  have r2 := r1.away (hc.mono (fun i _ hi => Or.inl hi)) nfr
  have r3 := (r2.less (F' := fun i => Q i ∨ S i) (fun i hi => by
    rcases hi with hi | hi
    · rcases hq i hi with h1 | h1
      · exact Or.inl (Or.inl h1)
      · exact Or.inr ⟨h1, (d.pb i hi).2⟩
    · exact Or.inl (Or.inr hi))).away (hk.mono (fun i _ hi => Or.inr hi)) (fun e => by rcases e with e | e; exact hf.nf.1 e; have := hS _ e; omega)
  refine ⟨⟨st, mo, xs, us, d.away hk hn, j⟩, r3.less (fun i hi => Or.inl (Or.inl hi)), hf.nf, hk.at_ hf.p (fun e => by have := hS _ e; omega), hf.np, hf.bl.trans ⟨hk.os, hk.tape, hk.output, hk.size, fun k hk2 => hk.block k ?_ (fun e => by have := hS _ e; omega)⟩⟩
  have := hf.bl.size
  have := hg.size
  omega
theorem lit_run (w : World) : (Instr.buildSlice 28 0 #[]).run Try.prog w = .ok (.slice (some ⟨w.heap.size, 0, none⟩) 0 0) (w.alloc (.cells #[] 3)) := by
  obtain ⟨i0, hi, hz0, hz1, hz2⟩ := info_parts intInfo
  simp [Instr.buildSlice, run_underlying intSlice, sizeOf, typeInfo, hi, newRow, Instr.fill]
  rw [show Array.map (fun _ => (default : Value)) (Array.range 0) = #[] from Array.eq_empty_of_size_eq_zero (by simp)]
theorem step_lit {ops : Array Oper} {o : Oper} {a : Act} {w : World} {K : Act → World → Prop} {Q : Exit → Act → World → Prop} {E : Prop} (hgd : o.guard = none) (ho : o.op = .buildSlice 28 0 #[])
    (h : K (a.put o.dst (.slice (some ⟨w.heap.size, 0, none⟩) 0 0)) (w.alloc (.cells #[] 3))) :
    if Region.wanted o (yielded ops a.tmps) = true then Oper.wp Try.prog o a w K Q else E := by
  have hwd : Region.wanted o (yielded ops a.tmps) = true := by simp [Region.wanted, hgd]
  rw [if_pos hwd]
  unfold Oper.wp execOp
  simp only [ho, Sem.run_bind, Sem.run_pure, Result.andThen_ok, List.map_toArray, List.map_nil, lit_run]
  exact h
/-- numbers are copied to a row of their own -/
theorem keeps_run (w : World) (l : List Int) (P : Option Addr) (C : Nat) (hk : intIn w P l) (hC : P = none → C = 0 ∧ l = []) (hl : l.length ≤ 1000000000) : ∃ P' C' w', (∀ ty, (Builtin.append_ #[28, 28] ty #[.slice (some ⟨w.heap.size, 0, none⟩) 0 0, .slice P l.length C]).run Try.prog (w.alloc (.cells #[] 3)) = .ok (.slice P' l.length C') w') ∧ intIn w' P' l ∧ (∀ a, P' = some a → w.heap.size ≤ a.block) ∧ w.grownBy w' none := by
  obtain ⟨i0, hi, hz0, hz1, hz2⟩ := info_parts intInfo
  have g0 := World.grownBy_alloc w (.cells #[] 3 (0, 0)) none
  have hown : (w.alloc (.cells #[] 3)).ownsRow w.heap.size 3 1 (.slice (some ⟨w.heap.size, 0, none⟩) 0 0) 0 [] := ⟨rfl, Or.inr ⟨w.heap.size, 0, #[], rfl, Nat.le_refl _, heap_alloc_new _ _, Nat.le_refl _, by unfold maxLen; omega, rfl, rfl⟩⟩
  cases P with
  | none =>
    obtain ⟨rfl, rfl⟩ := hC rfl
    exact ⟨_, _, _, fun ty => run_append_owned_none (P := Try.prog) (w := w.alloc (.cells #[] 3)) w.heap.size 28 ty 3 i0 1 intSlice hi _ 0 [] hown, Or.inl rfl, fun a e => by cases e; exact Nat.le_refl _, g0⟩
  | some ad =>
    have hkey : ∀ ty, ∃ v' w', (Builtin.append_ #[28, 28] ty #[.slice (some ⟨w.heap.size, 0, none⟩) 0 0, .slice (some ad) l.length C]).run Try.prog (w.alloc (.cells #[] 3)) = .ok v' w' ∧ w'.ownsRow w.heap.size 3 1 v' (0 + l.length) ([] ++ l.map fun z => Value.int .i64 z) ∧ (w.alloc (.cells #[] 3)).grownBy w' (some w.heap.size) ∧ _ ∧ _ := fun ty =>
      run_append_own_at (P := Try.prog) (w.alloc (.cells #[] 3)) w.heap.size 28 ty 3 i0 (.int .i64 0) 1 8 intSlice hi hz0 hz1 hz2 rfl (by decide) _ 0 [] hown ad l.length C (l.map fun z => Value.int .i64 z) (by simp) (fun j u hj => by
        simp only [List.getElem?_map, Option.map_eq_some_iff] at hj
        obtain ⟨x, hx, rfl⟩ := hj
        rcases hk with hk | ⟨g, off, e, hk⟩
        · rw [hk] at hx; simp at hx
        · cases e
          have := g0.cell (hk j x hx) (by simp)
          rw [add_plain]; exact this) (by intro u hu; rw [List.mem_map] at hu; obtain ⟨z, _, rfl⟩ := hu; rfl) (by unfold maxLen; omega) (by omega) (by simp)
    obtain ⟨v', w', h1, h2, h3, _, _⟩ := hkey 0
    have h2' := h2
    rw [Nat.zero_add, List.nil_append] at h2'
    obtain ⟨Q, D, rfl⟩ := row_form h2'
    refine ⟨Q, D, w', fun ty => h1, ?_, fun a e => ?_, ⟨h3.os.trans g0.os, h3.tape.trans g0.tape, h3.output.trans g0.output, Nat.le_trans g0.size h3.size, fun k hk _ => (h3.block k (Nat.lt_of_lt_of_le hk g0.size) (fun e => by cases e; omega)).trans (g0.block k hk (by simp))⟩⟩
    · rcases h2'.2 with ⟨e, h0⟩ | ⟨g, cap, cur, e, hge, hb, h5, h6, h7, h8⟩
      · exact Or.inl (List.eq_nil_of_length_eq_zero h0)
      · cases e
        refine Or.inr ⟨g, 0, rfl, fun i x hx => ?_⟩
        have hc := World.ownsRow.cellAt h2' i (by have := (List.getElem?_eq_some_iff.1 hx).1; omega)
        rw [Nat.zero_add, hc]
        simp [hx]
    · rcases h2'.2 with ⟨e2, h0⟩ | ⟨g, cap, cur, e2, hge, _⟩
      · rw [e] at e2; simp at e2
      · rw [e] at e2; simp at e2; rw [e2.1]; exact hge
set_option maxHeartbeats 8000000 in
set_option maxRecDepth 1000000 in
theorem Does_10 {P : Nat → Prop} {w : World} {base fp fr pr N : Nat} {s : St} (h : Both P w base fp fr pr s N) (hN : N < 2000000) (n t : List UInt8) (B K : Value) (m : Int) (hm : -9223372036854775808 ≤ m ∧ m ≤ 9223372036854775807) :
    Calls Try.prog 10 #[.pointer (some ⟨pr, 0, none⟩), .agg #[.int .i64 10, .string ⟨n.toArray⟩, .string ⟨t.toArray⟩, B, .int .i64 m, K]] w fun e w' => e = .returned (.bool true) ∧ DoesQ P w base fp fr pr (N + 1) w' := by
  obtain ⟨W, hW⟩ : ∃ W, W = w.alloc (.cells #[.int .i64 10, .string ⟨n.toArray⟩, .string ⟨t.toArray⟩, B, .int .i64 m, K] 30) := ⟨_, rfl⟩
  obtain ⟨h1, h2, h3, h4, h5⟩ := h.box 10 m n t (B) (K) hW
  have HB := mkHid h1.drew
  have HX : Hid (BxS w.heap.size fp fr pr 10 m n t (B) (K) W.drew) := h2
  have HL : Hid (Below base w W.drew) := h3.trans ⟨rfl, rfl, rfl, Nat.le_refl _, fun _ _ => rfl⟩
  have HGW : Hid (w.grownBy W.drew none) := by rw [hW]; exact gr_box w _
  have hbs := mkHid h1.lt.2.2.1
  have CP := mkHid (pStop h1.drew m hm)
  obtain ⟨f0, f1, f2, f3, f4, f5, f6⟩ := h2.cells
  clear h h1 h2 h3
  go_enter Try.func10, Try.ntmps10
  go_wp2_with fail
  rw [← hW]
  clear hW
  refine wp_region_noPanic ?_
  refine wp_region_held_drew (S := BxS w.heap.size fp fr pr 10 m n t B K) (by kernel_rfl) (HX.out) (fun hH => ?_)
  refine tKx (i := 0) (v := .pointer (some ⟨pr, 0, none⟩)) rfl rfl (by kernel_rfl) (fun _ _ _ h => h) ?_ hH ?_
  · intro w5 hSw; obtain ⟨c0, c1, d1, d2, d3, d4, d5⟩ := hSw.cells; go_simp
  simp only [zA9, zB9, zC9]
  refine tKx (i := 1) (v := .pointer (some ⟨pr, 0, none⟩)) rfl rfl (by kernel_rfl) (fun _ _ _ h => h) ?_ hH ?_
  · intro w5 hSw; obtain ⟨c0, c1, d1, d2, d3, d4, d5⟩ := hSw.cells; go_simp
  simp only [zA9, zB9, zC9]
  refine tKx (i := 2) (v := .pointer (some ⟨pr, 0, none⟩)) rfl rfl (by kernel_rfl) (fun _ _ _ h => h) ?_ hH ?_
  · intro w5 hSw; obtain ⟨c0, c1, d1, d2, d3, d4, d5⟩ := hSw.cells; go_simp
  simp only [zA9, zB9, zC9]
  refine tKx (i := 3) (v := .pointer (some ⟨fp, 0, none⟩)) rfl rfl (by kernel_rfl) (fun _ _ _ h => h) ?_ hH ?_
  · intro w5 hSw; obtain ⟨c0, c1, d1, d2, d3, d4, d5⟩ := hSw.cells; go_simp
  simp only [zA9, zB9, zC9]
  refine tKx (i := 4) (v := .pointer (some ⟨w.heap.size, 4, none⟩)) rfl rfl (by kernel_rfl) (fun _ _ _ h => h) ?_ hH ?_
  · intro w5 hSw; obtain ⟨c0, c1, d1, d2, d3, d4, d5⟩ := hSw.cells; go_simp
  simp only [zA9, zB9, zC9]
  refine tKx (i := 5) (v := .int .i64 m) rfl rfl (by kernel_rfl) (fun _ _ _ h => h) ?_ hH ?_
  · intro w5 hSw; obtain ⟨c0, c1, d1, d2, d3, d4, d5⟩ := hSw.cells; go_simp
  simp only [zA9, zB9, zC9]
  refine wpAnyH_ready (rs := [6]) (by kernel_rfl) (by simp) ?_
  refine AllReadyH.cons rfl (fun K hK => ?_) AllReadyH.nil
  go_simp
  go_at_call 14
  refine CP.out.mono ?_
  rintro e w2 ⟨rfl, Q, hf, hc, hq2⟩
  have HC2 := mkHid hc
  have HQ2 := mkHid hq2
  clear hq2
  have CR := mkHid (rStop HB.out hN m (hf.grow (gr_drew w2) hbs.out))
  have HX2 := mkHid (BxS.half HX.out hf hc h5)
  have HX2d := mkHid (HX2.out.grow (gr_drew w2))
  clear hf hc CP
  go_wp2_with fail
  refine hK.out _ _ HX2.out (fun _ => ?_)
  clear hK K hH
  refine wpAnyH_done (by kernel_rfl) ?_ _
  refine NoPanic.normal ?_
  go_wp2_with fail
  refine wp_region_noPanic ?_
  refine wp_region_held_drew (S := BxS w.heap.size fp fr pr 10 m n t B K) (by kernel_rfl) (HX2d.out) (fun hH => ?_)
  refine tKx (i := 0) (v := .pointer (some ⟨pr, 0, none⟩)) rfl rfl (by kernel_rfl) (fun _ _ _ h => h) ?_ hH ?_
  · intro w5 hSw; obtain ⟨c0, c1, d1, d2, d3, d4, d5⟩ := hSw.cells; go_simp
  simp only [zA9, zB9, zC9]
  refine tKx (i := 1) (v := .pointer (some ⟨pr, 0, none⟩)) rfl rfl (by kernel_rfl) (fun _ _ _ h => h) ?_ hH ?_
  · intro w5 hSw; obtain ⟨c0, c1, d1, d2, d3, d4, d5⟩ := hSw.cells; go_simp
  simp only [zA9, zB9, zC9]
  refine tKx (i := 2) (v := .pointer (some ⟨pr, 1, none⟩)) rfl rfl (by kernel_rfl) (fun _ _ _ h => h) ?_ hH ?_
  · intro w5 hSw; obtain ⟨c0, c1, d1, d2, d3, d4, d5⟩ := hSw.cells; go_simp
  simp only [zA9, zB9, zC9]
  refine tKx (i := 3) (v := .pointer (some ⟨fr, 0, none⟩)) rfl rfl (by kernel_rfl) (fun _ _ _ h => h) ?_ hH ?_
  · intro w5 hSw; obtain ⟨c0, c1, d1, d2, d3, d4, d5⟩ := hSw.cells; go_simp
  simp only [zA9, zB9, zC9]
  refine tKx (i := 4) (v := .pointer (some ⟨w.heap.size, 4, none⟩)) rfl rfl (by kernel_rfl) (fun _ _ _ h => h) ?_ hH ?_
  · intro w5 hSw; obtain ⟨c0, c1, d1, d2, d3, d4, d5⟩ := hSw.cells; go_simp
  simp only [zA9, zB9, zC9]
  refine tKx (i := 5) (v := .int .i64 m) rfl rfl (by kernel_rfl) (fun _ _ _ h => h) ?_ hH ?_
  · intro w5 hSw; obtain ⟨c0, c1, d1, d2, d3, d4, d5⟩ := hSw.cells; go_simp
  simp only [zA9, zB9, zC9]
  refine wpAnyH_ready (rs := [6]) (by kernel_rfl) (by simp) ?_
  refine AllReadyH.cons rfl (fun K hK => ?_) AllReadyH.nil
  go_simp
  go_at_call 42
  refine CR.out.mono ?_
  rintro e w3 ⟨rfl, B3, L3, K3⟩
  have HX3 := mkHid (BxS.both HX2d.out B3 K3 h4)
  have R := mkHid (⟨Q, _, B3, HL.out.trans L3, does_chg HGW.out (HC2.out.trans (Chg.of_none (gr_drew w2) _)) K3, does_sub HGW.out.size HQ2.out⟩ : DoesQ P w base fp fr pr (N + 1) w3)
  clear B3 L3 K3
  go_wp2_with fail
  refine hK.out _ _ HX3.out (fun _ => ?_)
  clear hK K hH
  refine wpAnyH_done (by kernel_rfl) ?_ _
  refine NoPanic.normal ?_
  go_wp2_with fail
  go_ret
  exact ⟨rfl, R.out⟩
set_option maxHeartbeats 8000000 in
set_option maxRecDepth 1000000 in
theorem Does_else {P : Nat → Prop} {w : World} {base fp fr pr N : Nat} {s : St} (h : Both P w base fp fr pr s N) (hN : N < 2000000) (n t : List UInt8) (B K : Value) (m : Int) (k : Int) (k0 : ¬ k = 0) (k1 : ¬ k = 1) (k2 : ¬ k = 2) (k3 : ¬ k = 3) (k4 : ¬ k = 4) (k5 : ¬ k = 5) (k6 : ¬ k = 6) (k7 : ¬ k = 7) (k8 : ¬ k = 8) (k10 : ¬ k = 10) :
    Calls Try.prog 10 #[.pointer (some ⟨pr, 0, none⟩), .agg #[.int .i64 k, .string ⟨n.toArray⟩, .string ⟨t.toArray⟩, B, .int .i64 m, K]] w fun e w' => e = .returned (.bool true) ∧ DoesQ P w base fp fr pr (N + 1) w' := by
  have hl := h.lt
  have g := World.grownBy_alloc w (.cells #[.int .i64 k, .string ⟨n.toArray⟩, .string ⟨t.toArray⟩, B, .int .i64 m, K] 30 (0, 0)) none
  have R : Hid (DoesQ P w base fp fr pr (N + 1) (w.alloc (.cells #[.int .i64 k, .string ⟨n.toArray⟩, .string ⟨t.toArray⟩, B, .int .i64 m, K] 30))) := ⟨P, s, (h.grow g).more (by omega) (by omega), ⟨g.os, g.tape, g.output, g.size, fun k hk => g.block k (by omega) (by simp)⟩, Chg.of_none g _, fun i hi => Or.inl hi⟩
  clear h g hl
  go_enter Try.func10, Try.ntmps10
  go_wp2_with fail
  go_ret
  exact ⟨rfl, R.out⟩
theorem intIn.grow {w w' : World} {P : Option Addr} {l : List Int} (h : intIn w P l) (hg : w.grownBy w' none) : intIn w' P l := by
  rcases h with h | ⟨g, off, e, hk⟩
  · exact Or.inl h
  · exact Or.inr ⟨g, off, e, fun i x hx => hg.cell (hk i x hx) (by simp)⟩
set_option maxHeartbeats 8000000 in
set_option maxRecDepth 1000000 in
theorem Does_7 {P : Nat → Prop} {w : World} {base fp fr pr N : Nat} {s : St} (h : Both P w base fp fr pr s N) (hN : N < 2000000) (n t : List UInt8) (B : Value) (m : Int) (hm : -9223372036854775808 ≤ m ∧ m ≤ 9223372036854775807) (keeps : List Int) (Pk : Option Addr) (Ck : Nat) (hk : intIn w Pk keeps) (hkb : keeps ≠ [] → ∀ a, Pk = some a → a.block < base) (hC : Pk = none → Ck = 0 ∧ keeps = []) (hkr : ∀ x ∈ keeps, -9223372036854775808 ≤ x ∧ x ≤ 9223372036854775807) (hkl : keeps.length ≤ 1000000000) :
    Calls Try.prog 10 #[.pointer (some ⟨pr, 0, none⟩), .agg #[.int .i64 7, .string ⟨n.toArray⟩, .string ⟨t.toArray⟩, B, .int .i64 m, .slice Pk keeps.length Ck]] w fun e w' => e = .returned (.bool true) ∧ DoesQ P w base fp fr pr (N + 1) w' := by
  obtain ⟨W, hW⟩ : ∃ W, W = w.alloc (.cells #[.int .i64 7, .string ⟨n.toArray⟩, .string ⟨t.toArray⟩, B, .int .i64 m, .slice Pk keeps.length Ck] 30) := ⟨_, rfl⟩
  obtain ⟨h1, h2, h3, h4, h5⟩ := h.box 7 m n t (B) (.slice Pk keeps.length Ck) hW
  have HB := mkHid h1.drew
  have HX : Hid (BxS w.heap.size fp fr pr 7 m n t (B) (.slice Pk keeps.length Ck) W.drew) := h2
  have HL : Hid (Below base w W.drew) := h3.trans ⟨rfl, rfl, rfl, Nat.le_refl _, fun _ _ => rfl⟩
  have HGW : Hid (w.grownBy W.drew none) := by rw [hW]; exact gr_box w _
  have hbs := mkHid h1.lt.2.2.1
  have HKW : intIn W.drew Pk keeps := by
    rcases hk with hk | ⟨g, off, e, hk⟩
    · exact Or.inl hk
    · refine Or.inr ⟨g, off, e, fun i x hx => ?_⟩
      rw [hW]
      exact (World.grownBy_alloc w _ none).cell (hk i x hx) (by simp)
  have hfb := h1.nf.2
  obtain ⟨P7, C7, w7, run7, in7, at7, g7⟩ := keeps_run W.drew keeps Pk Ck HKW hC hkl
  have B7 := h1.drew.grow g7
  have g1 := World.grownBy_alloc W.drew (.cells #[] 3 (0, 0)) none
  have HX1 := mkHid (BxS.grow HX.out g1)
  have HX7 := mkHid (BxS.grow HX.out g7)
  have HGW7 := mkHid (grTrans HGW.out g7)
  have HL7 : Hid (Below base w w7) := HL.out.trans ⟨g7.os, g7.tape, g7.output, g7.size, fun k hk => g7.block k (Nat.lt_of_lt_of_le hk h1.drew.lt.2.2.1) (by simp)⟩
  have hbs7 : base ≤ w7.heap.size := Nat.le_trans h1.drew.lt.2.2.1 g7.size
  have hpb7 : ∀ i, P i → base ≤ i ∧ i < W.drew.heap.size := fun i hi => by obtain ⟨_, _, _, _, d, _⟩ := h1.drew.d; exact d.pb i hi
  have CP := mkHid (pCrash B7 hN keeps P7 C7 m hm in7 (fun _ a e hp => by have := at7 a e; have := (hpb7 _ hp).2; omega) hkr hkl)
  have HI : Hid (intIn w7 Pk keeps) := by
    rcases HKW with hk | ⟨g, off, e, hk⟩
    · exact Or.inl hk
    · exact Or.inr ⟨g, off, e, fun i x hx => g7.cell (hk i x hx) (by simp)⟩
  have HB7 := mkHid B7
  have HKB : Hid (keeps ≠ [] → ∀ a, Pk = some a → ¬ P a.block) := fun ne a e hp => by have := hkb ne a e; have := (hpb7 _ hp).1; omega
  have HKF : Hid (keeps ≠ [] → ∀ a, Pk = some a → a.block ≠ fr) := fun ne a e hp => by have := hkb ne a e; omega
  clear HKW in7 at7 g1 g7 B7 hpb7 hk
  obtain ⟨f0, f1, f2, f3, f4, f5, f6⟩ := h2.cells
  clear h h1 h2 h3
  go_enter Try.func10, Try.ntmps10
  go_wp2_with fail
  rw [← hW]
  clear hW
  refine wp_region_noPanic ?_
  refine wp_region_held_drew (S := BxS w.heap.size fp fr pr 7 m n t B (.slice Pk keeps.length Ck)) (by kernel_rfl) (HX.out) (fun hH => ?_)
  refine tKx (i := 0) (v := .pointer (some ⟨pr, 0, none⟩)) rfl rfl (by kernel_rfl) (fun _ _ _ h => h) ?_ hH ?_
  · intro w5 hSw; obtain ⟨c0, c1, d1, d2, d3, d4, d5⟩ := hSw.cells; go_simp
  simp only [zA9, zB9, zC9]
  refine tKx (i := 1) (v := .pointer (some ⟨pr, 0, none⟩)) rfl rfl (by kernel_rfl) (fun _ _ _ h => h) ?_ hH ?_
  · intro w5 hSw; obtain ⟨c0, c1, d1, d2, d3, d4, d5⟩ := hSw.cells; go_simp
  simp only [zA9, zB9, zC9]
  refine tKx (i := 2) (v := .pointer (some ⟨pr, 0, none⟩)) rfl rfl (by kernel_rfl) (fun _ _ _ h => h) ?_ hH ?_
  · intro w5 hSw; obtain ⟨c0, c1, d1, d2, d3, d4, d5⟩ := hSw.cells; go_simp
  simp only [zA9, zB9, zC9]
  refine tKx (i := 3) (v := .pointer (some ⟨fp, 0, none⟩)) rfl rfl (by kernel_rfl) (fun _ _ _ h => h) ?_ hH ?_
  · intro w5 hSw; obtain ⟨c0, c1, d1, d2, d3, d4, d5⟩ := hSw.cells; go_simp
  simp only [zA9, zB9, zC9]
  refine tKx (i := 5) (v := .pointer (some ⟨w.heap.size, 5, none⟩)) rfl rfl (by kernel_rfl) (fun _ _ _ h => h) ?_ hH ?_
  · intro w5 hSw; obtain ⟨c0, c1, d1, d2, d3, d4, d5⟩ := hSw.cells; go_simp
  simp only [zA9, zB9, zC9]
  refine tKx (i := 6) (v := .slice Pk keeps.length Ck) rfl rfl (by kernel_rfl) (fun _ _ _ h => h) ?_ hH ?_
  · intro w5 hSw; obtain ⟨c0, c1, d1, d2, d3, d4, d5⟩ := hSw.cells; go_simp
  simp only [zA9, zB9, zC9]
  refine tKx (i := 8) (v := .pointer (some ⟨w.heap.size, 4, none⟩)) rfl rfl (by kernel_rfl) (fun _ _ _ h => h) ?_ hH ?_
  · intro w5 hSw; obtain ⟨c0, c1, d1, d2, d3, d4, d5⟩ := hSw.cells; go_simp
  simp only [zA9, zB9, zC9]
  refine tKx (i := 9) (v := .int .i64 m) rfl rfl (by kernel_rfl) (fun _ _ _ h => h) ?_ hH ?_
  · intro w5 hSw; obtain ⟨c0, c1, d1, d2, d3, d4, d5⟩ := hSw.cells; go_simp
  simp only [zA9, zB9, zC9]
  refine wpAnyH_ready (rs := [4]) (by kernel_rfl) (by simp) ?_
  refine AllReadyH.cons rfl (fun K hK => ?_) AllReadyH.nil
  refine step_lit rfl rfl ?_
  refine hK.out _ _ HX1.out (fun hH => ?_)
  clear hK K
  simp only [Act.put, List.setIfInBounds_toArray]
  refine wpAnyH_ready (rs := [7]) (by kernel_rfl) (by simp) ?_
  refine AllReadyH.cons rfl (fun K hK => ?_) AllReadyH.nil
  refine step_app 28 rfl (.tmp 174) (.tmp 176) rfl rfl rfl run7 ?_
  refine hK.out _ _ HX7.out (fun hH => ?_)
  clear hK K
  simp only [Act.put]
  refine wpAnyH_ready (rs := [10]) (by kernel_rfl) (by simp) ?_
  refine AllReadyH.cons rfl (fun K hK => ?_) AllReadyH.nil
  go_simp
  go_at_call 17
  refine CP.out.mono ?_
  rintro e w2 ⟨rfl, Q, hf, hc, hq2⟩
  have HC2 := mkHid hc
  have HQ2 := mkHid hq2
  clear hq2
  have CR := mkHid (rCrash HB7.out hN keeps Pk Ck m hm ((HI.out.chg hc HKB.out).grow (gr_drew w2)) HKF.out hkr hkl (hf.grow (gr_drew w2) hbs7))
  have HX2 := mkHid (BxS.half HX7.out hf hc h5)
  have HX2d := mkHid (HX2.out.grow (gr_drew w2))
  clear hf hc CP
  go_wp2_with fail
  refine hK.out _ _ HX2.out (fun _ => ?_)
  clear hK K hH
  refine wpAnyH_done (by kernel_rfl) ?_ _
  refine NoPanic.normal ?_
  go_wp2_with fail
  refine wp_region_noPanic ?_
  refine wp_region_held_drew (S := BxS w.heap.size fp fr pr 7 m n t B (.slice Pk keeps.length Ck)) (by kernel_rfl) (HX2d.out) (fun hH => ?_)
  refine tKx (i := 0) (v := .pointer (some ⟨pr, 0, none⟩)) rfl rfl (by kernel_rfl) (fun _ _ _ h => h) ?_ hH ?_
  · intro w5 hSw; obtain ⟨c0, c1, d1, d2, d3, d4, d5⟩ := hSw.cells; go_simp
  simp only [zA9, zB9, zC9]
  refine tKx (i := 1) (v := .pointer (some ⟨pr, 0, none⟩)) rfl rfl (by kernel_rfl) (fun _ _ _ h => h) ?_ hH ?_
  · intro w5 hSw; obtain ⟨c0, c1, d1, d2, d3, d4, d5⟩ := hSw.cells; go_simp
  simp only [zA9, zB9, zC9]
  refine tKx (i := 2) (v := .pointer (some ⟨pr, 1, none⟩)) rfl rfl (by kernel_rfl) (fun _ _ _ h => h) ?_ hH ?_
  · intro w5 hSw; obtain ⟨c0, c1, d1, d2, d3, d4, d5⟩ := hSw.cells; go_simp
  simp only [zA9, zB9, zC9]
  refine tKx (i := 3) (v := .pointer (some ⟨fr, 0, none⟩)) rfl rfl (by kernel_rfl) (fun _ _ _ h => h) ?_ hH ?_
  · intro w5 hSw; obtain ⟨c0, c1, d1, d2, d3, d4, d5⟩ := hSw.cells; go_simp
  simp only [zA9, zB9, zC9]
  refine tKx (i := 4) (v := .pointer (some ⟨w.heap.size, 5, none⟩)) rfl rfl (by kernel_rfl) (fun _ _ _ h => h) ?_ hH ?_
  · intro w5 hSw; obtain ⟨c0, c1, d1, d2, d3, d4, d5⟩ := hSw.cells; go_simp
  simp only [zA9, zB9, zC9]
  refine tKx (i := 5) (v := .slice Pk keeps.length Ck) rfl rfl (by kernel_rfl) (fun _ _ _ h => h) ?_ hH ?_
  · intro w5 hSw; obtain ⟨c0, c1, d1, d2, d3, d4, d5⟩ := hSw.cells; go_simp
  simp only [zA9, zB9, zC9]
  refine tKx (i := 6) (v := .pointer (some ⟨w.heap.size, 4, none⟩)) rfl rfl (by kernel_rfl) (fun _ _ _ h => h) ?_ hH ?_
  · intro w5 hSw; obtain ⟨c0, c1, d1, d2, d3, d4, d5⟩ := hSw.cells; go_simp
  simp only [zA9, zB9, zC9]
  refine tKx (i := 7) (v := .int .i64 m) rfl rfl (by kernel_rfl) (fun _ _ _ h => h) ?_ hH ?_
  · intro w5 hSw; obtain ⟨c0, c1, d1, d2, d3, d4, d5⟩ := hSw.cells; go_simp
  simp only [zA9, zB9, zC9]
  refine wpAnyH_ready (rs := [8]) (by kernel_rfl) (by simp) ?_
  refine AllReadyH.cons rfl (fun K hK => ?_) AllReadyH.nil
  go_simp
  go_at_call 24
  refine CR.out.mono ?_
  rintro e w3 ⟨rfl, B3, L3, K3⟩
  have HX3 := mkHid (BxS.both HX2d.out B3 K3 h4)
  have R := mkHid (⟨Q, _, B3, HL7.out.trans L3, does_chg HGW7.out (HC2.out.trans (Chg.of_none (gr_drew w2) _)) K3, does_sub HGW7.out.size HQ2.out⟩ : DoesQ P w base fp fr pr (N + 1) w3)
  clear B3 L3 K3
  go_wp2_with fail
  refine hK.out _ _ HX3.out (fun _ => ?_)
  clear hK K hH
  refine wpAnyH_done (by kernel_rfl) ?_ _
  refine NoPanic.normal ?_
  go_wp2_with fail
  go_ret
  exact ⟨rfl, R.out⟩
theorem own_by {w : World} {base : Nat} {P : Option Addr} {C : Nat} {l : List UInt8} (h : ownsB w base (.slice P l.length C) l) : byIn w P l ∧ (P = none → C = 0) ∧ l.length ≤ C ∧ ∀ a, P = some a → base ≤ a.block ∧ a.block < w.heap.size := by
  have h2 := h.2
  rcases h2 with ⟨e, h0⟩ | ⟨g, cap, cur, e, hge, hb, h5, h6, h7, h8⟩
  · injection e with e1 e2 e3
    subst e1
    exact ⟨Or.inl ⟨rfl, List.eq_nil_of_length_eq_zero h0⟩, fun _ => e3, by omega, fun a e => by cases e⟩
  · injection e with e1 e2 e3
    subst e1
    refine ⟨Or.inr ⟨_, rfl, fun i x hx => ?_⟩, fun e => (by cases e), by omega, fun a e => by cases e; exact ⟨hge, lt_of_heap hb⟩⟩
    have hc := World.ownsRow.cellAt h i (by have := (List.getElem?_eq_some_iff.1 hx).1; omega)
    rw [add_plain, Nat.zero_add, hc]
    simp [by8, hx]
set_option maxHeartbeats 8000000 in
set_option maxRecDepth 1000000 in
theorem Does_1 {P : Nat → Prop} {w : World} {base fp fr pr N : Nat} {s : St} (h : Both P w base fp fr pr s N) (hN : N < 2000000) (n t : List UInt8) (K : Value) (m : Int) (b : List UInt8) (Pb : Option Addr) (C : Nat) (hll : n.length ≤ 1000000000) (hin : byIn w Pb b) (hb2 : b ≠ [] → ∀ a, Pb = some a → a.block < base) (hC : Pb = none → C = 0) (hbC : b.length ≤ C) (hbl : b.length ≤ 10000000) :
    Calls Try.prog 10 #[.pointer (some ⟨pr, 0, none⟩), .agg #[.int .i64 1, .string ⟨n.toArray⟩, .string ⟨t.toArray⟩, .slice Pb b.length C, .int .i64 m, K]] w fun e w' => e = .returned (.bool true) ∧ DoesQ P w base fp fr pr (N + 1) w' := by
  obtain ⟨W, hW⟩ : ∃ W, W = w.alloc (.cells #[.int .i64 1, .string ⟨n.toArray⟩, .string ⟨t.toArray⟩, .slice Pb b.length C, .int .i64 m, K] 30) := ⟨_, rfl⟩
  obtain ⟨h1, h2, h3, h4, h5⟩ := h.box 1 m n t (.slice Pb b.length C) (K) hW
  have HB := mkHid h1.drew
  have HX : Hid (BxS w.heap.size fp fr pr 1 m n t (.slice Pb b.length C) (K) W.drew) := h2
  have HL : Hid (Below base w W.drew) := h3.trans ⟨rfl, rfl, rfl, Nat.le_refl _, fun _ _ => rfl⟩
  have HGW : Hid (w.grownBy W.drew none) := by rw [hW]; exact gr_box w _
  have hbs := mkHid h1.lt.2.2.1
  have hbW := h1.lt.2.2.1
  have HGW0 : Hid (w.grownBy W none) := by rw [hW]; exact World.grownBy_alloc w _ none
  have HL0 := mkHid h3
  have HIN : Hid (byIn W Pb b) := by rw [hW]; exact hin.kept (World.grownBy_alloc w _ none)
  have hpb : ∀ i, P i → base ≤ i ∧ i < W.heap.size := fun i hi => by obtain ⟨_, _, _, _, d, _⟩ := h1.d; exact d.pb i hi
  have HPB := mkHid hpb
  have OW := mkHid (own_any Pb C b W HIN.out hC hbl)
  have HB0 := mkHid h1
  have hprW := h1.lt.2.1
  have hbxW : w.heap.size < W.heap.size := lt_of_heap h2.2
  have hfrb := h1.nf.2
  clear hpb
  obtain ⟨f0, f1, f2, f3, f4, f5, f6⟩ := h2.cells
  clear h h1 h2 h3
  go_enter Try.func10, Try.ntmps10
  go_wp2_with fail
  rw [← hW]
  clear hW hin
  refine OW.out.mono ?_
  rintro e w1 ⟨v1, rfl, o1, g1⟩
  obtain ⟨P1, C1, rfl⟩ := own_form o1
  have OB := own_by o1
  have gd1 : W.grownBy w1.drew none := grTrans g1 (gr_drew w1)
  have HGW1 : Hid (w.grownBy w1.drew none) := grTrans HGW0.out gd1
  have B1 := mkHid (HB0.out.grow gd1)
  have HX1 : Hid (BxS w.heap.size fp fr pr 1 m n t (.slice Pb b.length C) K w1.drew) := BxS.grow (w := W) HX.out gd1
  have CP := mkHid (pAppend B1.out hN n b P1 C1 hll (OB.1.kept (gr_drew w1)) (fun a e hp => by have := (OB.2.2.2 a e).1; have := (HPB.out _ hp).2; omega) OB.2.1 OB.2.2.1)
  have HL1 : Hid (Below base w w1.drew) := HL0.out.trans ⟨gd1.os, gd1.tape, gd1.output, gd1.size, fun k hk => gd1.block k (by omega) (by simp)⟩
  have HO := mkHid o1
  have HG := mkHid gd1
  have HS : Hid (∀ i, (Value.slice P1 b.length C1).ownBlock = some i → W.heap.size ≤ i ∧ i < w1.drew.heap.size) := fun i hi => by
    cases P1 with
    | none => cases hi
    | some a => cases hi; exact OB.2.2.2 a rfl
  clear o1 g1 gd1 OB
  go_wp2_with fail
  refine wp_region_noPanic ?_
  refine wp_region_held_drew (S := BxS w.heap.size fp fr pr 1 m n t (.slice Pb b.length C) K) (by kernel_rfl) (HX1.out) (fun hH => ?_)
  refine tKx (i := 0) (v := .pointer (some ⟨pr, 0, none⟩)) rfl rfl (by kernel_rfl) (fun _ _ _ h => h) ?_ hH ?_
  · intro w5 hSw; obtain ⟨c0, c1, d1, d2, d3, d4, d5⟩ := hSw.cells; go_simp
  simp only [zA9, zB9, zC9]
  refine tKx (i := 1) (v := .pointer (some ⟨pr, 0, none⟩)) rfl rfl (by kernel_rfl) (fun _ _ _ h => h) ?_ hH ?_
  · intro w5 hSw; obtain ⟨c0, c1, d1, d2, d3, d4, d5⟩ := hSw.cells; go_simp
  simp only [zA9, zB9, zC9]
  refine tKx (i := 2) (v := .pointer (some ⟨pr, 0, none⟩)) rfl rfl (by kernel_rfl) (fun _ _ _ h => h) ?_ hH ?_
  · intro w5 hSw; obtain ⟨c0, c1, d1, d2, d3, d4, d5⟩ := hSw.cells; go_simp
  simp only [zA9, zB9, zC9]
  refine tKx (i := 3) (v := .pointer (some ⟨fp, 0, none⟩)) rfl rfl (by kernel_rfl) (fun _ _ _ h => h) ?_ hH ?_
  · intro w5 hSw; obtain ⟨c0, c1, d1, d2, d3, d4, d5⟩ := hSw.cells; go_simp
  simp only [zA9, zB9, zC9]
  refine tKx (i := 4) (v := .pointer (some ⟨w.heap.size, 1, none⟩)) rfl rfl (by kernel_rfl) (fun _ _ _ h => h) ?_ hH ?_
  · intro w5 hSw; obtain ⟨c0, c1, d1, d2, d3, d4, d5⟩ := hSw.cells; go_simp
  simp only [zA9, zB9, zC9]
  refine tKx (i := 5) (v := .string ⟨n.toArray⟩) rfl rfl (by kernel_rfl) (fun _ _ _ h => h) ?_ hH ?_
  · intro w5 hSw; obtain ⟨c0, c1, d1, d2, d3, d4, d5⟩ := hSw.cells; go_simp
  simp only [zA9, zB9, zC9]
  refine tKx (i := 6) (v := .slice P1 b.length C1) rfl rfl (by kernel_rfl) (fun _ _ _ h => h) ?_ hH ?_
  · intro w5 hSw; obtain ⟨c0, c1, d1, d2, d3, d4, d5⟩ := hSw.cells; go_simp
  simp only [zA9, zB9, zC9]
  refine wpAnyH_ready (rs := [7]) (by kernel_rfl) (by simp) ?_
  refine AllReadyH.cons rfl (fun K hK => ?_) AllReadyH.nil
  go_simp
  go_at_call 22
  refine CP.out.mono ?_
  rintro e w2 ⟨rfl, Q, hf, hc, hq⟩
  have HC2 := mkHid hc
  have HQ2 := mkHid hq
  have HX2 := mkHid (BxS.half HX1.out hf hc h5)
  have SP := mkHid (spoil_any W.heap.size (.slice P1 b.length C1) b w2 (((Chg.of_none (gr_drew w1) P).trans hc).row HO.out (fun g hg hp => by have := (HS.out g hg).1; have := (HPB.out g hp).2; omega)) (by omega) (Nat.le_trans HG.out.size hc.size))
  have HSP : Hid (∀ w3, Chg (fun i => (Value.slice P1 b.length C1).ownBlock = some i) w2 w3 → Half Q w1.drew w3 base fp fr pr s (apS n b s) ∧ byIn w3 Pb b) := fun w3 hk => ⟨Half.spoilt HB0.out HG.out hf hc hq hk HS.out, ((HIN.out.kept HG.out).chg0 hc (fun ne a e hp => by have := hb2 ne a e; have := (HPB.out _ hp).1; omega)).chg0 hk (fun ne a e hp => by have := hb2 ne a e; have := (HS.out _ hp).1; omega)⟩
  clear hf hc hq CP
  go_wp2_with fail
  refine hK.out _ _ HX2.out (fun hH => ?_)
  clear hK K
  refine tKx (i := 8) (v := .int .i64 (apE n b s)) rfl rfl (by kernel_rfl) (fun _ _ _ h => h) ?_ hH ?_
  · intro w5 hSw; obtain ⟨c0, c1, d1, d2, d3, d4, d5⟩ := hSw.cells; go_simp
  simp only [zA9, zB9, zC9]
  refine wpAnyH_done (by kernel_rfl) ?_ _
  refine NoPanic.normal ?_
  go_wp2_with fail
  refine SP.out.mono ?_
  rintro e w3 ⟨rfl, hk3⟩
  obtain ⟨hf3, in3⟩ := HSP.out w3 hk3
  have HK3 := mkHid (hk3.trans (Chg.of_none (gr_drew w3) _))
  have HX3 := mkHid ((HX2.out.chg hk3 (fun e => by have := (HS.out _ e).1; omega) (fun e => by have := (HS.out _ e).1; omega)).grow (gr_drew w3))
  have CR := mkHid (rAppend B1.out hN n b Pb C (in3.kept (gr_drew w3)) (fun ne a e => by have := hb2 ne a e; omega) hC hbC (by omega) (hf3.grow (gr_drew w3) (Nat.le_trans hbW HG.out.size)))
  clear hf3 in3 hk3 SP HSP
  go_wp2_with fail
  refine wp_region_noPanic ?_
  refine wp_region_held_drew (S := BxS w.heap.size fp fr pr 1 m n t (.slice Pb b.length C) K) (by kernel_rfl) (HX3.out) (fun hH => ?_)
  refine tKx (i := 0) (v := .int .i64 (apE n b s)) rfl rfl (by kernel_rfl) (fun _ _ _ h => h) ?_ hH ?_
  · intro w5 hSw; obtain ⟨c0, c1, d1, d2, d3, d4, d5⟩ := hSw.cells; go_simp
  simp only [zA9, zB9, zC9]
  refine tKx (i := 1) (v := .pointer (some ⟨pr, 0, none⟩)) rfl rfl (by kernel_rfl) (fun _ _ _ h => h) ?_ hH ?_
  · intro w5 hSw; obtain ⟨c0, c1, d1, d2, d3, d4, d5⟩ := hSw.cells; go_simp
  simp only [zA9, zB9, zC9]
  refine tKx (i := 2) (v := .pointer (some ⟨pr, 0, none⟩)) rfl rfl (by kernel_rfl) (fun _ _ _ h => h) ?_ hH ?_
  · intro w5 hSw; obtain ⟨c0, c1, d1, d2, d3, d4, d5⟩ := hSw.cells; go_simp
  simp only [zA9, zB9, zC9]
  refine tKx (i := 3) (v := .pointer (some ⟨pr, 1, none⟩)) rfl rfl (by kernel_rfl) (fun _ _ _ h => h) ?_ hH ?_
  · intro w5 hSw; obtain ⟨c0, c1, d1, d2, d3, d4, d5⟩ := hSw.cells; go_simp
  simp only [zA9, zB9, zC9]
  refine tKx (i := 4) (v := .pointer (some ⟨fr, 0, none⟩)) rfl rfl (by kernel_rfl) (fun _ _ _ h => h) ?_ hH ?_
  · intro w5 hSw; obtain ⟨c0, c1, d1, d2, d3, d4, d5⟩ := hSw.cells; go_simp
  simp only [zA9, zB9, zC9]
  refine tKx (i := 5) (v := .pointer (some ⟨w.heap.size, 1, none⟩)) rfl rfl (by kernel_rfl) (fun _ _ _ h => h) ?_ hH ?_
  · intro w5 hSw; obtain ⟨c0, c1, d1, d2, d3, d4, d5⟩ := hSw.cells; go_simp
  simp only [zA9, zB9, zC9]
  refine tKx (i := 6) (v := .string ⟨n.toArray⟩) rfl rfl (by kernel_rfl) (fun _ _ _ h => h) ?_ hH ?_
  · intro w5 hSw; obtain ⟨c0, c1, d1, d2, d3, d4, d5⟩ := hSw.cells; go_simp
  simp only [zA9, zB9, zC9]
  refine tKx (i := 7) (v := .pointer (some ⟨w.heap.size, 3, none⟩)) rfl rfl (by kernel_rfl) (fun _ _ _ h => h) ?_ hH ?_
  · intro w5 hSw; obtain ⟨c0, c1, d1, d2, d3, d4, d5⟩ := hSw.cells; go_simp
  simp only [zA9, zB9, zC9]
  refine tKx (i := 8) (v := .slice Pb b.length C) rfl rfl (by kernel_rfl) (fun _ _ _ h => h) ?_ hH ?_
  · intro w5 hSw; obtain ⟨c0, c1, d1, d2, d3, d4, d5⟩ := hSw.cells; go_simp
  simp only [zA9, zB9, zC9]
  refine wpAnyH_ready (rs := [9]) (by kernel_rfl) (by simp) ?_
  refine AllReadyH.cons rfl (fun K hK => ?_) AllReadyH.nil
  go_simp
  go_at_call 33
  refine CR.out.mono ?_
  rintro e w4 ⟨rfl, B3, L3, K3⟩
  have HX4 := mkHid (BxS.both HX3.out B3 K3 h4)
  have R := mkHid (⟨Q, _, B3, HL1.out.trans L3, does_chg1 HGW1.out HC2.out HK3.out (fun i e => Nat.le_trans HGW.out.size (HS.out i e).1) K3, does_sub HGW1.out.size HQ2.out⟩ : DoesQ P w base fp fr pr (N + 1) w4)
  clear B3 L3 K3
  go_wp2_with fail
  refine hK.out _ _ HX4.out (fun hH => ?_)
  clear hK K
  refine tKx (i := 10) (v := .bool true) rfl rfl (by kernel_rfl) (fun _ _ _ h => h) ?_ hH ?_
  · intro w5 hSw; obtain ⟨c0, c1, d1, d2, d3, d4, d5⟩ := hSw.cells; go_simp
  simp only [zA9, zB9, zC9]
  refine tKx (i := 11) (v := .bool true) rfl rfl (by kernel_rfl) (fun _ _ _ h => h) ?_ hH ?_
  · intro w5 hSw; obtain ⟨c0, c1, d1, d2, d3, d4, d5⟩ := hSw.cells; go_simp
  simp only [zA9, zB9, zC9]
  refine wpAnyH_done (by kernel_rfl) ?_ _
  refine NoPanic.normal ?_
  go_wp2_with fail
  go_ret
  exact ⟨rfl, R.out⟩
end Go.Proofs.Ytdiehlioemmakaa

