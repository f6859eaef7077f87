/-
  Proved: tokens as a text are read as what they were, but for places; Print of any tokens is the answer by definition (LexPrints returns true, the input reads as it did)
  Conditions: those of the given card alone: what is read is of bulk at most the given number (the second form), and the library's tables that it lists hold what the library lays.
-/
import Derived.Test.YtfcolecglobcdaaGreatDoorCards
import Derived.Test.YtfcolecglobcdaaGreatDoorTie
import Derived.Test.YtfcolecglobcdaaGreatDoorGG
import Derived.Test.YtfcolecglobcdaaGreatDoorLrKx
import Derived.ProofKit
import Derived.OpenShut
import Derived.Lib.SmallJoins
import Derived.Deep.DeepHandedRow
import Derived.Lib.LaidTab
import Derived.LaidLaws
import Derived.Lay
import Derived.Deep.DeepWitnessRowRef
import Derived.Lib.LaidCase
import Derived.Lib.LaidIn
import Derived.Lib.LaidU8T
import Derived.PinnedBridge
namespace Go.Proofs.YtfcolecglobcdaaGreatDoor
namespace LexPrints
open Go.ChangeShapes Go.WideShapes Go.ChangeAt Go.RowKit Go.Lib Go.Shelf Go.Joins
open Go.ChangeMaps (open_string shut_string)
set_option maxRecDepth 100000

theorem own : ownKnob Tryz.prog.godebug = none := by kernel_rfl
theorem tabs {W : World} (h : laidMetH Tryz.prog Rows.lexPrintsUptoRow.laid W) : Tabs W :=
  utf8Tabs_of_readsT (U8Types.of196 Tryz.laysValid) ⟨by kernel_rfl, by kernel_rfl, by kernel_rfl, by kernel_rfl, by kernel_rfl, by kernel_rfl, by kernel_rfl⟩
    (Pinned.utf8First_eq ▸ Lib.laidMet.reads h (.tail _ (.tail _ (.tail _ (.tail _ (.tail _ (.tail _ (.tail _ (.tail _ (.head _)))))))))) (Lib.laidMet.reads h (.tail _ (.tail _ (.tail _ (.head _)))))

theorem bulk_one {H : Type} (d : DataW H) : 1 ≤ Rows.uptoBulk d := by
  cases d with
  | lit x => cases x <;> simp [Rows.uptoBulk]
  | _ => simp [Rows.uptoBulk]
theorem bulk_all {H : Type} : ∀ l : List (DataW H), l.length ≤ Rows.uptoBulkAll l
  | [] => Nat.zero_le _
  | d :: l => by
    have h1 := bulk_one d
    have h2 := bulk_all l
    simp only [Rows.uptoBulkAll, List.length_cons]; omega
theorem bulk_mem {H : Type} : ∀ {l : List (DataW H)} {d : DataW H}, d ∈ l → Rows.uptoBulk d ≤ Rows.uptoBulkAll l
  | [], _, h => by simp at h
  | x :: l, d, h => by
    simp only [Rows.uptoBulkAll]
    rcases List.mem_cons.1 h with rfl | h
    · omega
    · have := bulk_mem h
      omega
theorem bulk_slice {H : Type} (elems spare : List (DataW H)) : elems.length ≤ Rows.uptoBulk (.slice elems spare) := by
  have := bulk_all elems
  simp only [Rows.uptoBulk]; omega

theorem powData : (Rows.laid_internal_strconv_uint64pow10 : DataW Unit) = Lib.tabData .u64 Lib.pow10Tab := by kernel_rfl
theorem gPow : Tryz.prog.globalNamed "internal/strconv.uint64pow10" = some 5 := by kernel_rfl
theorem gPowType : (Tryz.prog.globals[5]?).map (·.type) = some 145 := by kernel_rfl
theorem cellsPow : Tryz.prog.cellsOf 145 = 20 := by kernel_rfl
theorem cellsU64 : Tryz.prog.cellsOf 110 = 1 := by kernel_rfl
theorem pow {W : World} (h : laidMetH Tryz.prog Rows.lexPrintsUptoRow.laid W) : Pow W := by
  obtain ⟨g, t, cs, fuel, p, hg, hty, hvar, hd⟩ := Lib.laidMet.reads h (.tail _ (.tail _ (.head _)))
  obtain rfl := Option.some.inj (gPow.symm.trans hg)
  obtain rfl := Option.some.inj (gPowType.symm.trans hty)
  rw [powData] at hd
  unfold Pow TabIs
  rw [hvar, ← cells_of_tab Tryz.underlying145 Tryz.underlying110 cellsU64 cellsPow hd]
theorem gErr : Tryz.prog.globalNamed "strconv.ErrRange" = some 9 := by kernel_rfl
theorem gErrType : (Tryz.prog.globals[9]?).map (·.type) = some 72 := by kernel_rfl
theorem rg {W : World} (h : laidMetH Tryz.prog Rows.lexPrintsUptoRow.laid W) : Rg W := by
  obtain ⟨g, t, cs, fuel, p, hg, hty, hvar, hd⟩ := Lib.laidMet.reads h (.tail _ (.tail _ (.tail _ (.tail _ (.head _)))))
  obtain rfl := Option.some.inj (gErr.symm.trans hg)
  obtain rfl := Option.some.inj (gErrType.symm.trans hty)
  obtain ⟨f2, u, v, hcs, _, _⟩ := iface_of_trod Tryz.underlying72 hd
  have h0 := World.var?_cell gErr hvar 0
  refine ⟨.iface u v, h0.trans ?_, Or.inr ⟨u, v, rfl⟩⟩
  rw [← Array.getElem?_toList, hcs]; rfl
theorem gSig : Tryz.prog.globalNamed "lockstep/lex.signs" = some 0 := by kernel_rfl
theorem gSigType : (Tryz.prog.globals[0]?).map (·.type) = some 93 := by kernel_rfl
theorem cellsStr : Tryz.prog.cellsOf 9 = 1 := by kernel_rfl
theorem sigData : (Rows.laid_lockstep_lex_signs : DataW Unit) = .agg (sgs.map fun z => .lit (.string z)) := by kernel_rfl
theorem sg {W : World} (h : laidMetH Tryz.prog Rows.lexPrintsUptoRow.laid W) : Sg W := by
  obtain ⟨g, t, cs, fuel, p, hg, hty, hvar, hd⟩ := Lib.laidMet.reads h (.tail _ (.tail _ (.tail _ (.tail _ (.tail _ (.tail _ (.head _)))))))
  obtain rfl := Option.some.inj (gSig.symm.trans hg)
  obtain rfl := Option.some.inj (gSigType.symm.trans hty)
  rw [sigData] at hd
  obtain ⟨xs, m, rfl, hx, hl, hxl, hall⟩ := DataW.trod_array Tryz.underlying93 hd
  intro i s hs
  have hi : i < 16 := by have := (List.getElem?_eq_some_iff.1 hs).1; simpa [sgs] using this
  have h1 := hall i hi
  rw [cellsStr, Nat.mul_one] at h1
  obtain ⟨y, hy⟩ : ∃ y, xs[i]? = some y := ⟨_, List.getElem?_eq_getElem (by omega)⟩
  rw [hy] at h1
  obtain ⟨s', hc, hx', _⟩ := DataW.trod_string Tryz.underlying9 h1
  have hdata : sgs.map (fun z => DataW.lit (.string z)) = xs.map (·.1) := by
    have e := congrArg Prod.fst hx
    exact DataW.agg.inj e
  have e := congrArg (fun l : List (DataW Unit) => l[i]?) hdata
  simp only [List.getElem?_map, hy, hs, Option.map_some, Option.some.injEq] at e
  have e2 : y.1 = .lit (.string s'.data.toList) := congrArg Prod.fst hx'
  rw [e2] at e
  have e3 : s = s'.data.toList := by injection e with e; injection e
  have hcell := World.var?_cell gSig hvar i
  rw [hcell, ← Array.getElem?_toList]
  have h0 := congrArg (fun l : List Value => l[0]?) hc
  simp only [List.getElem?_take, List.getElem?_drop] at h0
  rw [e3]
  simpa using h0

set_option maxRecDepth 100000 in
theorem contract (H : Type) (enc : TypeId × Value → H) (W : World) (base : Nat) (args : Array Value) (ds gs : List (DataW H)) (before : List MemPlace)
    (hval : ∀ (j : Nat) t v, Tryz.f4.params[j]? = some t → args[j]? = some v → Value.okWide Tryz.prog W .any base t v)
    (hW : DataW.Whole enc Tryz.prog Tryz.f4.params.toList Rows.lexPrintsSpec.vars false W args.toList ds gs before) (hL : laidMetH Tryz.prog Rows.lexPrintsUptoRow.laid W) (hSh : W.ShapedOpen Tryz.prog) (hk : Rows.uptoSmall H (ds ++ gs) = true) :
    Calls Tryz.prog 4 args W fun e W' => ∃ v, e = .returned v ∧ Rows.lexPrintsSpec.post enc Tryz.prog Tryz.f4 false true false false W args v W' := by
  have hW' := hW
  have hlt := hW.lt
  obtain ⟨p, q, hA0, hV, rfl, hfz, hnd⟩ := hW
  have hA : DataW.TrodAll enc Tryz.prog W 0 (fun _ => true) true Tryz.f4.params.toList args.toList ds p := hA0
  have hts : ∀ t ∈ Tryz.f4.params.toList, Tryz.prog.readableRec t = true ∧ t < Tryz.prog.types.size := by
    rw [Tryz.params4]
    intro t ht
    simp only [List.mem_cons, List.not_mem_nil, or_false] at ht
    subst ht <;> exact ⟨by kernel_rfl, of_decide_eq_true (by kernel_rfl)⟩
  rw [Tryz.params4] at hA hval
  have hB := hA
  obtain ⟨v0, vs0, d0, ds0, p0, q0, hargs, rfl, rfl, h0, r0⟩ := trodAll_cons hB
  obtain ⟨rfl, rfl, rfl⟩ := trodAll_nil r0
  obtain rfl : args = #[v0] := by cases args; simp_all
  obtain ⟨rfl, rfl⟩ := trodVars_none hV
  obtain ⟨P0, C0, L0, ev0, hP0, hn0, hz0, hc0, hs0, hd0⟩ := arg_toks (hval 0 30 v0 rfl rfl) h0
  subst ev0
  have hbk := of_decide_eq_true hk
  simp only [List.append_nil, Rows.uptoBulkAll] at hbk
  have hl0 : L0.length ≤ 1048576 ∧ ∀ t ∈ L0, t.text.length ≤ 1048576 := by
    rcases hd0 with h | ⟨D, spare, he, hle⟩
    · rw [h]; exact ⟨Nat.zero_le _, by simp⟩
    · have h1 := bulk_slice ((List.range L0.length).map D) spare
      rw [← he, List.length_map, List.length_range] at h1
      refine ⟨by omega, fun t ht => ?_⟩
      obtain ⟨i, hi⟩ := List.getElem?_of_mem ht
      obtain ⟨d0', d2, d3, d4, d5, hD⟩ := hle i t hi
      have hlt2 := (List.getElem?_eq_some_iff.1 hi).1
      have h2 := bulk_mem (l := (List.range L0.length).map D) (List.mem_map.2 ⟨i, List.mem_range.2 hlt2, rfl⟩)
      rw [hD] at h2
      simp only [Rows.uptoBulk, Rows.uptoBulkAll] at h2
      rw [he] at hbk
      simp only [Rows.uptoBulk] at hbk
      omega
  refine (LexPrints_any P0 C0 L0.length L0 W ⟨hP0, rfl, hn0, hz0, fun t ht => ⟨hs0 t ht, by have := hl0.2 t ht; omega⟩, hc0, by have := hl0.1; omega⟩ ⟨⟨Tryz.laysRepl.s1_3 W hSh, rg hL, tabs hL, sg hL⟩, pow hL⟩).mono ?_
  rintro e W' ⟨rfl, bel⟩
  have e1 : Rows.lexPrintsSpec.fn H ([d0] ++ []) = { results := [.lit (.bool true)], args := [d0] } := rfl
  refine ⟨_, rfl, _, _, _, [], (p0 ++ []), [], hW', ?_, ?_, ?_, bel.frame _, fun h => by cases h⟩
  · rw [e1]; exact trodAll_cons_mk (shut_bool Tryz.underlying4 _) trodAll_mk0
  · rw [e1]; exact all_stay bel hts (fun x hx => hlt x (List.mem_append_left _ hx)) hA0
  · rw [e1]; rfl

theorem laid_met (os : Os) : laidMet Tryz.prog Rows.lexPrintsUptoRow.laid ((World.laidAll Tryz.prog os Rows.lexPrintsUptoRow.laid).forCall (fun _ _ => 0) ⟨#[], #[.slice none 0 0], []⟩).memory :=
  laidMet_laidAll _ (by kernel_rfl) (by kernel_rfl)
theorem reads (os : Os) {H : Type} (enc : TypeId × Value → H) : ∃ places, DataW.whole enc Tryz.prog ((World.laidAll Tryz.prog os Rows.lexPrintsUptoRow.laid).forCall (fun _ _ => 0) ⟨#[], #[.slice none 0 0], []⟩).memory Tryz.f4.params.toList Rows.lexPrintsSpec.vars false (#[.slice none 0 0] : Array Value).toList 8 = some ([.nil], [], places) :=
  ⟨[], by kernel_rfl⟩

set_option maxRecDepth 100000 in
theorem lifted (os : Os) (started : os.Started) (H : Type) (enc : TypeId × Value → H) (F : Stop.Interp) :
    ReturnsInHanded {} Tryz.checked os 4 .any ((Rows.OpenSpec.upto Rows.lexPrintsSpec).preRow enc Tryz.prog Tryz.f4 Rows.lexPrintsUptoRow.domain false Rows.lexPrintsUptoRow.laid) (((Rows.OpenSpec.upto Rows.lexPrintsSpec).at F).post enc Tryz.prog Tryz.f4 false true false false) := by
  obtain ⟨places, hx⟩ := reads os enc
  refine returnsInHanded_of_row (C := Tryz.checked) (s := Rows.OpenSpec.upto Rows.lexPrintsSpec) own started (by kernel_rfl) Tryz.func4
    (witness_row_atRef (enc := enc) (C := Tryz.checked) false (World.laidAll Tryz.prog os Rows.lexPrintsUptoRow.laid) #[.slice none 0 0] (World.laidAll_os _ _ _) (by kernel_rfl) (by kernel_rfl) (by kernel_rfl)
      (OpenSpec.preRow_of_cond 8 hx (by kernel_rfl) (fun k hk => by cases hk; kernel_rfl) (by kernel_rfl) (laid_met os))) ?_
  intro W base args ds gs before hval hW _ hcond _ hL hSh _
  exact contract H enc W base args ds gs before hval hW hL hSh (hcond _ rfl)

theorem said : Rows.LexPrintsUptoSaid :=
  OpenClaim.holds_of_cond 4 Tryz.f4 rfl rfl rfl rfl rfl rfl rfl ⟨rfl, rfl, rfl, rfl, rfl⟩ rfl rfl rfl rfl rfl (by kernel_rfl) Tryz.func4 (by kernel_rfl)
    (of_decide_eq_true (by kernel_rfl)) (by unfold Func.isWrapper; first | (rw [if_pos (by decide +kernel)]; kernel_rfl) | (rw [if_neg (by decide +kernel)]; exact ⟨rfl, rfl⟩))
    (fun os started H enc _ F => by rw [OpenClaim.pre_eq_preRow]; exact lifted os started H enc F)

theorem plain (f : FuncId) (fn : Func) (hf : Tryz.pinned.checked.prog.funcNamed "lockstep/locksteplaw03.LexPrints" = some f) (hfn : Tryz.pinned.checked.prog.funcs[f]? = some fn) :
    true = Tryz.pinned.checked.prog.looks [] ∧ ∀ (j : Nat) t, fn.params[j]? = some t → Tryz.pinned.checked.prog.wantsStandIn t = false := by
  obtain rfl : f = 4 := Option.some.inj ((show Tryz.prog.funcNamed "lockstep/locksteplaw03.LexPrints" = some 4 by kernel_rfl).symm.trans hf) |>.symm
  obtain rfl : fn = Tryz.f4 := (Option.some.inj (Tryz.func4.symm.trans hfn)).symm
  refine ⟨by kernel_rfl, fun j t ht => ?_⟩
  rw [Tryz.params4] at ht
  have hm := Array.mem_of_getElem? ht
  simp only [List.mem_toArray, List.mem_cons, List.not_mem_nil, or_false] at hm
  subst hm
  exact (show Tryz.prog.wantsStandIn 30 = false by kernel_rfl)
end LexPrints

open LexPrints in
theorem lexPrintsUpto_card : Rows.LexPrintsUptoCardSaid :=
  Claim7.holds_tied_plain_at .later [] _ _ _ _ said (fun _ h => by cases h) (by kernel_rfl) (fun _ h => by cases h) lexPrintsUpto_row_tie rfl ⟨rfl, rfl⟩ (by kernel_rfl) rfl plain (by kernel_rfl)
#print axioms lexPrintsUpto_card
end Go.Proofs.YtfcolecglobcdaaGreatDoor
