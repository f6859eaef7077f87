/-
  Expressions that came in; what reads as before where nothing that lay there has changed.
-/
import Derived.Test.YtokppkinhlcafaaGreatDoorRows
import Derived.Test.YtokppkinhlcafaaGreatDoorEyF
import Derived.ProofKit
import Derived.OpenShut
import Derived.WideKeyArgs
import Derived.Deep.Slices
import Derived.Deep.Strs
import Derived.ChangeOld
import Derived.Lib.SmallJoins
namespace Go.Proofs.YtokppkinhlcafaaGreatDoor
open Go.ChangeShapes Go.WideShapes Go.ChangeAt Go.RowKit Go.Lib Go.Shelf Go.Joins Go.Deep
set_option maxRecDepth 100000

theorem laidOut' : laidOutB Tryz.prog = true := by kernel_rfl
theorem all_stay {H : Type} {enc : TypeId × Value → H} {W W' : World} (hb : Below W.heap.size W W') : ∀ {ts : List TypeId} {vs : List Value} {ds : List (DataW H)} {ps : List MemPlace}, (∀ t ∈ ts, Tryz.prog.readableRec t = true ∧ t < Tryz.prog.types.size) →
    (∀ p ∈ ps, p.block < W.heap.size) → DataW.TrodAll enc Tryz.prog W 0 (fun _ => true) true ts vs ds ps → DataW.TrodAll enc Tryz.prog W' 0 (fun b => decide (b < W.heap.size)) true ts vs ds ps
  | [], [], [], _, _, _, h => h
  | t :: ts, v :: vs, d :: ds, ps, ht, hp, ⟨p, q, h1, h2, e⟩ => by
    subst e
    refine ⟨p, q, WideElems.Trod_stays laidOut' (ht t List.mem_cons_self).1 (ht t List.mem_cons_self).2 h1 (fun x hx => hb.same (hp x (List.mem_append_left _ hx))) (fun x hx => by simpa using hp x (List.mem_append_left _ hx)), ?_, rfl⟩
    exact all_stay hb (fun t h => ht t (List.mem_cons_of_mem _ h)) (fun x hx => hp x (List.mem_append_right _ hx)) h2
  | [], _ :: _, _, _, _, _, h => h.elim
  | [], [], _ :: _, _, _, _, h => h.elim
  | _ :: _, [], _, _, _, _, h => h.elim
  | _ :: _, _ :: _, [], _, _, _, h => h.elim
theorem bulk_one {H : Type} (d : DataW H) : 1 ≤ Rows.uptoBulk d := by
  cases d with
  | lit x => cases x <;> simp [Rows.uptoBulk]
  | _ => simp [Rows.uptoBulk]
theorem bulk_all {H : Type} : ∀ l : List (DataW H), l.length ≤ Rows.uptoBulkAll l
  | [] => Nat.zero_le _
  | d :: l => by
    have h1 := bulk_one d
    have h2 := bulk_all l
    simp only [Rows.uptoBulkAll, List.length_cons]; omega
theorem bulk_part {H : Type} {d : DataW H} : ∀ {l : List (DataW H)}, d ∈ l → Rows.uptoBulk d ≤ Rows.uptoBulkAll l
  | x :: r, h => by
    simp only [Rows.uptoBulkAll]
    rcases List.mem_cons.1 h with e | e
    · subst e; omega
    · have := bulk_part (l := r) e; omega
theorem cellsI : Tryz.prog.cellsOf 3 = 1 := by kernel_rfl
theorem cellsI6 : Tryz.prog.cellsOf 2 = 1 := by kernel_rfl
theorem cellsS : Tryz.prog.cellsOf 9 = 1 := by kernel_rfl
theorem cellsV : Tryz.prog.cellsOf 24 = 3 := by kernel_rfl
theorem cellsE : Tryz.prog.cellsOf 26 = 9 := by kernel_rfl
theorem cellsL : Tryz.prog.cellsOf 22 = 1 := by kernel_rfl
theorem trod_st7 {H : Type} {enc : TypeId × Value → H} {P : Program} {w : World} {base : Nat} {spare : Nat → Bool} {held : Bool} {t : TypeId} {f0 f1 f2 f3 f4 f5 f6 : Field} {fuel : Nat} {cs : List Value} {x : DataW H × List MemPlace} (ht : P.underlying t = some (.struct #[f0, f1, f2, f3, f4, f5, f6])) (h : DataW.trod enc P w base spare held fuel t cs = some x) :
    ∃ y0 y1 y2 y3 y4 y5 y6 n, fuel = n + 1 ∧ x.1 = .agg [y0.1, y1.1, y2.1, y3.1, y4.1, y5.1, y6.1] ∧ cs.length = P.cellsOf t ∧ DataW.trod enc P w base spare held n f0.type ((cs.drop f0.offset).take (P.cellsOf f0.type)) = some y0 ∧ DataW.trod enc P w base spare held n f1.type ((cs.drop f1.offset).take (P.cellsOf f1.type)) = some y1 ∧ DataW.trod enc P w base spare held n f2.type ((cs.drop f2.offset).take (P.cellsOf f2.type)) = some y2 ∧ DataW.trod enc P w base spare held n f3.type ((cs.drop f3.offset).take (P.cellsOf f3.type)) = some y3 ∧ DataW.trod enc P w base spare held n f4.type ((cs.drop f4.offset).take (P.cellsOf f4.type)) = some y4 ∧ DataW.trod enc P w base spare held n f5.type ((cs.drop f5.offset).take (P.cellsOf f5.type)) = some y5 ∧ DataW.trod enc P w base spare held n f6.type ((cs.drop f6.offset).take (P.cellsOf f6.type)) = some y6 := by
  obtain ⟨xs, n, hn, rfl, hl, hlen, hf⟩ := DataW.trod_struct ht h
  match xs, hlen with
  | [y0, y1, y2, y3, y4, y5, y6], _ => exact ⟨y0, y1, y2, y3, y4, y5, y6, n, hn, by simp, hl, by simpa using hf 0 f0 rfl, by simpa using hf 1 f1 rfl, by simpa using hf 2 f2 rfl, by simpa using hf 3 f3 rfl, by simpa using hf 4 f4 rfl, by simpa using hf 5 f5 rfl, by simpa using hf 6 f6 rfl⟩
theorem fitOf {n : Int} (h : (Lit.int .i64 n).wf = true) : fit n := by
  have := bounds_i64 h
  exact ⟨by omega, by omega⟩
/-- a value that came in -/
theorem el_va {H : Type} {enc : TypeId × Value → H} {W : World} {n : Nat} {cs : List Value} {y : DataW H × List MemPlace} (h : DataW.trod enc Tryz.prog W 0 (fun _ => true) true n 24 cs = some y) : ∃ v : Va, cs = [.int .i64 v.ty, .int .i64 v.n, .string v.s] ∧ (fit v.ty ∧ fit v.n) := by
  obtain ⟨y0, y1, y2, m, _, hl, t0, t1, t2⟩ := trod_struct3 Tryz.underlying24 h
  rw [cellsV] at hl
  match cs, hl with
  | [c0, c1, c2], _ =>
    have u0 : DataW.trod enc Tryz.prog W 0 (fun _ => true) true m 3 [c0] = some y0 := by simpa [cellsI] using t0
    have u1 : DataW.trod enc Tryz.prog W 0 (fun _ => true) true m 2 [c1] = some y1 := by simpa [cellsI6] using t1
    have u2 : DataW.trod enc Tryz.prog W 0 (fun _ => true) true m 9 [c2] = some y2 := by simpa [cellsS] using t2
    obtain ⟨a, e0, _, wa⟩ := DataW.trod_int Tryz.underlying3 u0
    obtain ⟨b, e1, _, wb⟩ := DataW.trod_int Tryz.underlying2 u1
    obtain ⟨s, e2, _, _⟩ := DataW.trod_string Tryz.underlying9 u2
    simp only [List.cons.injEq, and_true] at e0 e1 e2
    subst e0 e1 e2
    exact ⟨⟨a, b, s⟩, rfl, fitOf wa, fitOf wb⟩
theorem bulk_at {H : Type} {l : List (DataW H)} {i : Nat} {d : DataW H} (h : l[i]? = some d) : Rows.uptoBulk d ≤ Rows.uptoBulkAll l := bulk_part (List.mem_of_getElem? h)
/-- a list of expressions that came in, all its elements known -/
theorem open_exs {H : Type} {enc : TypeId × Value → H} {W : World} (N : Nat)
    (hel : ∀ (fuel : Nat) (cs : List Value) (y : DataW H × List MemPlace), fuel ≤ N → DataW.trod enc Tryz.prog W 0 (fun _ => true) true fuel 26 cs = some y → Rows.uptoBulk y.1 ≤ 1048576 → ∃ e P C, cs = exC e P C ∧ exIn W (fun q => q < W.heap.size) N e cs ∧ ∀ k, (exP k e).length ≤ Rows.uptoBulk y.1)
    {n : Nat} (hn : n ≤ N + 1) {c : Value} {y : DataW H × List MemPlace} (h : DataW.trod enc Tryz.prog W 0 (fun _ => true) true n 22 [c] = some y) (hb : Rows.uptoBulk y.1 ≤ 1048576) :
    ∃ (l : List Ex) (P : Option Addr) (C : Nat), c = .slice P l.length C ∧ (P = none → C = 0 ∧ l = []) ∧ l.length ≤ 1048576 ∧ (∀ x z, l = [x, z] → ∀ k, (exP k x).length + (exP k z).length ≤ Rows.uptoBulk y.1) ∧
      (l = [] ∨ ∃ g o, P = some ⟨g, o, none⟩ ∧ g < W.heap.size ∧ ∀ (i : Nat) (p : Ex), l[i]? = some p → ∃ Pp Cp, exIn W (fun q => q < W.heap.size) N p (exC p Pp Cp) ∧ ∀ (r : Nat) (u : Value), (exC p Pp Cp)[r]? = some u → W.cell? ⟨g, o + i * 9 + r, none⟩ = some u) := by
  rcases DataW.trod_slice exSlice h with ⟨h0, _⟩ | ⟨a, len, cap, elems, rest, m, hm, h0, hy, _, hl, hm2, hlen, hel2, _, _⟩
  · injection h0 with h0 _
    subst h0
    exact ⟨[], none, 0, rfl, fun _ => ⟨rfl, rfl⟩, by simp, fun x z hxz => by simp at hxz, Or.inl rfl⟩
  · injection h0 with h0 _
    subst h0
    have hb2 : Rows.uptoBulkAll (elems.map (·.1)) ≤ Rows.uptoBulk y.1 := by rw [hy]; simp only [Rows.uptoBulk]; omega
    have hlb : len ≤ 1048576 := by
      have := bulk_all (elems.map (·.1))
      rw [List.length_map, hlen] at this
      omega
    have each : ∀ i, i < len → ∃ v : Ex × Option Addr × Nat, (exIn W (fun q => q < W.heap.size) N v.1 (exC v.1 v.2.1 v.2.2) ∧ (∀ j u, (exC v.1 v.2.1 v.2.2)[j]? = some u → W.cell? ((a.add (i * 9)).add j) = some u)) ∧ ∀ d, (elems.map (·.1))[i]? = some d → ∀ k, (exP k v.1).length ≤ Rows.uptoBulk d := by
      intro i hi
      have h1 := hel2 i hi
      obtain ⟨el, he⟩ : ∃ el, elems[i]? = some el := ⟨_, List.getElem?_eq_getElem (by omega)⟩
      rw [he, cellsE] at h1
      obtain ⟨cs', c1, c2⟩ := Option.bind_eq_some_iff.1 h1
      obtain ⟨_, hl', hcc⟩ := World.cells?_some c1
      have hbe : Rows.uptoBulk el.1 ≤ Rows.uptoBulkAll (elems.map (·.1)) := bulk_at (i := i) (by simp [he])
      obtain ⟨e, P, C, e1, e2, e3⟩ := hel m cs' el (by omega) c2 (by omega)
      subst e1
      refine ⟨(e, P, C), ⟨e2, fun j u hj => ?_⟩, fun d hd k => ?_⟩
      · have hjl : j < 9 := (List.getElem?_eq_some_iff.1 hj).1
        rw [hcc j hjl]; exact hj
      · have : el.1 = d := by simpa [he] using hd
        rw [← this]; exact e3 k
    obtain ⟨V, hV⟩ := @choose_lt (Ex × Option Addr × Nat) ⟨(trueE, none, 0)⟩ _ _ each
    refine ⟨(List.range len).map (fun i => (V i).1), some a, cap, by simp, (fun e => by cases e), by simpa using hlb, fun x z hxz k => ?_, ?_⟩
    · have hl2 : len = 2 := by have := congrArg List.length hxz; simpa using this
      subst hl2
      have hx0 : (V 0).1 = x := by have := congrArg (·[0]?) hxz; simpa using this
      have hz1 : (V 1).1 = z := by have := congrArg (·[1]?) hxz; simpa using this
      obtain ⟨d0, d1, hee⟩ : ∃ d0 d1, elems = [d0, d1] := by
        match elems, hlen with
        | [d0, d1], _ => exact ⟨d0, d1, rfl⟩
      have b0 := (hV 0 (by omega)).2 d0.1 (by rw [hee]; rfl) k
      have b1 := (hV 1 (by omega)).2 d1.1 (by rw [hee]; rfl) k
      rw [hx0] at b0
      rw [hz1] at b1
      rw [hee] at hb2
      simp only [List.map_cons, List.map_nil, Rows.uptoBulkAll] at hb2
      omega
    · by_cases hz : len = 0
      · subst hz; exact Or.inl rfl
      · have g0 := (hV 0 (by omega)).1.2 0 _ rfl
        have hsp : a.spot = none := by simpa [Addr.add] using World.cell?_spot g0
        obtain ⟨b, off, spot⟩ := a
        simp only at hsp
        subst hsp
        refine Or.inr ⟨b, off, rfl, ?_, fun i p hp => ?_⟩
        · have := World.block_lt_of_cell? W _ g0
          rw [add_plain, add_plain] at this
          exact this
        · have hi : i < len := by have := (List.getElem?_eq_some_iff.1 hp).1; simpa using this
          have ev : (V i).1 = p := by simpa [hi] using hp
          have hv := hV i hi
          rw [ev] at hv
          refine ⟨(V i).2.1, (V i).2.2, hv.1.1, fun r u hr => ?_⟩
          have := hv.1.2 r u hr
          rw [add_plain, add_plain] at this
          exact this
/-- an expression that came in -/
theorem el_ex {H : Type} {enc : TypeId × Value → H} {W : World} : ∀ (N fuel : Nat) (cs : List Value) (y : DataW H × List MemPlace), fuel ≤ N → DataW.trod enc Tryz.prog W 0 (fun _ => true) true fuel 26 cs = some y → Rows.uptoBulk y.1 ≤ 1048576 → ∃ e P C, cs = exC e P C ∧ exIn W (fun q => q < W.heap.size) N e cs ∧ ∀ k, (exP k e).length ≤ Rows.uptoBulk y.1 := by
  intro N
  induction N with
  | zero =>
    intro fuel cs y hf h _
    obtain ⟨_, _, _, _, _, _, _, n, hn, _⟩ := trod_st7 Tryz.underlying26 h
    omega
  | succ N ih =>
    intro fuel cs y hf h hb
    obtain ⟨y0, y1, y2, y3, y4, y5, y6, n, hn, hy, hl, t0, t1, t2, t3, t4, t5, t6⟩ := trod_st7 Tryz.underlying26 h
    rw [cellsE] at hl
    match cs, hl with
    | [c0, c1, c2, c3, c4, c5, c6, c7, c8], _ =>
      have u0 : DataW.trod enc Tryz.prog W 0 (fun _ => true) true n 9 [c0] = some y0 := by simpa [cellsS] using t0
      have u1 : DataW.trod enc Tryz.prog W 0 (fun _ => true) true n 22 [c1] = some y1 := by simpa [cellsL] using t1
      have u2 : DataW.trod enc Tryz.prog W 0 (fun _ => true) true n 24 [c2, c3, c4] = some y2 := by simpa [cellsV] using t2
      have u3 : DataW.trod enc Tryz.prog W 0 (fun _ => true) true n 9 [c5] = some y3 := by simpa [cellsS] using t3
      have u4 : DataW.trod enc Tryz.prog W 0 (fun _ => true) true n 9 [c6] = some y4 := by simpa [cellsS] using t4
      have u5 : DataW.trod enc Tryz.prog W 0 (fun _ => true) true n 3 [c7] = some y5 := by simpa [cellsI] using t5
      have u6 : DataW.trod enc Tryz.prog W 0 (fun _ => true) true n 3 [c8] = some y6 := by simpa [cellsI] using t6
      have hb1 : Rows.uptoBulk y1.1 ≤ Rows.uptoBulk y.1 ∧ 1 ≤ Rows.uptoBulk y.1 := by rw [hy]; simp only [Rows.uptoBulk, Rows.uptoBulkAll]; omega
      obtain ⟨op, e0, _, _⟩ := DataW.trod_string Tryz.underlying9 u0
      obtain ⟨l, P, C, e1, hP, hll, hxz, hc⟩ := open_exs N ih (by omega) u1 (by omega)
      obtain ⟨v, e2, fv⟩ := el_va u2
      obtain ⟨nm, e3, _, _⟩ := DataW.trod_string Tryz.underlying9 u3
      obtain ⟨off, e4, _, _⟩ := DataW.trod_string Tryz.underlying9 u4
      obtain ⟨ty, e5, _, w5⟩ := DataW.trod_int Tryz.underlying3 u5
      obtain ⟨at_, e6, _, w6⟩ := DataW.trod_int Tryz.underlying3 u6
      simp only [List.cons.injEq, and_true] at e0 e2 e3 e4 e5 e6
      obtain ⟨e20, e21, e22⟩ := e2
      subst e0 e1 e20 e21 e22 e3 e4 e5 e6
      refine ⟨⟨op, v.ty, v.n, v.s, nm, off, ty, at_, l⟩, P, C, rfl, ⟨P, C, rfl, ⟨by show l.length ≤ _; omega, fv.1, fv.2, fitOf w5, fitOf w6⟩, hP, ?_⟩, fun k => ?_⟩
      · rcases hc with hc | ⟨g, o, h1, h2, h3⟩
        · exact Or.inl hc
        · refine Or.inr ⟨g, o, h1, h2, fun i p hp => ?_⟩
          obtain ⟨Pp, Cp, h4, h5⟩ := h3 i p hp
          exact ⟨_, h4, h5⟩
      · cases k with
        | zero => exact Nat.zero_le _
        | succ k =>
          by_cases hand : op = bAnd ∧ l.length = 2
          · obtain ⟨x, z, hl2⟩ : ∃ x z, l = [x, z] := by
              match l, hand.2 with
              | [x, z], _ => exact ⟨x, z, rfl⟩
            rw [exP_two (e := ⟨op, v.ty, v.n, v.s, nm, off, ty, at_, l⟩) hand.1 hl2, List.length_append]
            have := hxz x z hl2 k
            omega
          · rw [exP_one (e := ⟨op, v.ty, v.n, v.s, nm, off, ty, at_, l⟩) hand]
            exact hb1.2
/-- an expression that came in -/
theorem arg_ex {H : Type} {enc : TypeId × Value → H} {W : World} {base : Nat} {v : Value} {d : DataW H} {p : List MemPlace} (hv : Value.okWide Tryz.prog W .any base 26 v) (h : DataW.Trod enc Tryz.prog W 0 (fun _ => true) true 26 v d p) (hb : Rows.uptoBulk d ≤ 1048576) :
    ∃ (n : Nat) (e : Ex) (P : Option Addr) (C : Nat), v = exV e P C ∧ (∀ m, n ≤ m → exIn W (fun q => q < W.heap.size) m e (exC e P C)) ∧ ∀ k, (exP k e).length ≤ 1048576 := by
  obtain ⟨ca, rfl, _⟩ := okWide_struct Tryz.underlying26 hv
  obtain ⟨n, hn⟩ := h
  obtain ⟨e, P, C, e1, e2, e3⟩ := el_ex n n _ _ (Nat.le_refl _) hn hb
  have e1' : ca.toList = exC e P C := e1
  refine ⟨n, e, P, C, ?_, fun m hm => by rw [← e1]; exact e2.le hm, fun k => Nat.le_trans (e3 k) hb⟩
  cases ca
  simp only at e1'
  subst e1'
  rfl
/-- a list of expressions that came in -/
theorem arg_exs {H : Type} {enc : TypeId × Value → H} {W : World} {base : Nat} {v : Value} {d : DataW H} {p : List MemPlace} (hv : Value.okWide Tryz.prog W .any base 22 v) (h : DataW.Trod enc Tryz.prog W 0 (fun _ => true) true 22 v d p) (hb : Rows.uptoBulk d ≤ 1048576) :
    ∃ (n : Nat) (l : List Ex) (P : Option Addr) (C : Nat), v = .slice P l.length C ∧ (∀ m, n ≤ m → lIn W (fun q => q < W.heap.size) m l P C) ∧ l.length ≤ 1048576 := by
  obtain ⟨a, len, cap, rfl⟩ := okWide_slice exSlice hv
  obtain ⟨n, hn⟩ := h
  obtain ⟨l, P, C, e1, h1, h2, _, h4⟩ := open_exs n (el_ex n) (n := n) (by omega) (c := .slice a len cap) (by simpa [Value.cells] using hn) hb
  refine ⟨n, l, P, C, e1, fun m hm => ⟨h1, ?_⟩, h2⟩
  rcases h4 with h4 | ⟨g, o, h5, _, h6⟩
  · exact Or.inl h4
  · refine Or.inr ⟨g, o, h5, fun i q hq => ?_⟩
    obtain ⟨Pp, Cp, h7, h8⟩ := h6 i q hq
    exact ⟨Pp, Cp, h7.le hm, h8⟩
end Go.Proofs.YtokppkinhlcafaaGreatDoor
