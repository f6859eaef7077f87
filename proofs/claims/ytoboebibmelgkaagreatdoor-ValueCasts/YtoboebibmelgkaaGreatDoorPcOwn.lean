/-
  Proved: ValueCasts answers true and leaves what lay in memory as it was: for every value and every type value.Cast tells what the reference tells, a whole number that fits comes back from a DECIMAL, and the living call answers.
  Conditions: those of the given card alone (the library's tables that it lists hold what the library lays).
-/
import Derived.Test.YtoboebibmelgkaaGreatDoorCards
import Derived.Test.YtoboebibmelgkaaGreatDoorTie
import Derived.Test.YtoboebibmelgkaaGreatDoorPaQ
import Derived.ProofKit
import Derived.OpenShut
import Derived.Lib.SmallJoins
import Derived.Deep.DeepHandedRow
import Derived.Lib.LaidTab
import Derived.LaidLaws
import Derived.Lib.LaidIn
import Derived.Lib.LaidU8T
import Derived.PinnedBridge
namespace Go.Proofs.YtoboebibmelgkaaGreatDoor
namespace ValueCasts
open Go.ChangeShapes Go.WideShapes Go.ChangeAt Go.RowKit Go.Lib Go.Shelf Go.Joins
open Go.ChangeMaps (open_string shut_string)
set_option maxRecDepth 100000

theorem own : ownKnob Tryz.prog.godebug = none := by kernel_rfl
theorem tabs {W : World} (h : laidMetH Tryz.prog Rows.valueCastsRow.laid W) : Tabs W :=
  utf8Tabs_of_readsT (U8Types.of196 Tryz.laysValid) ⟨by kernel_rfl, by kernel_rfl, by kernel_rfl, by kernel_rfl, by kernel_rfl, by kernel_rfl, by kernel_rfl⟩
    (Pinned.utf8First_eq ▸ Lib.laidMet.reads h (.tail _ (.tail _ (.tail _ (.tail _ (.tail _ (.tail _ (.head _)))))))) (Lib.laidMet.reads h (.tail _ (.tail _ (.tail _ (.head _)))))
theorem powData : (Rows.laid_internal_strconv_uint64pow10 : DataW Unit) = Lib.tabData .u64 Lib.pow10Tab := by kernel_rfl
theorem gPow : Tryz.prog.globalNamed "internal/strconv.uint64pow10" = some 2 := by kernel_rfl
theorem gPowType : (Tryz.prog.globals[2]?).map (·.type) = some 119 := by kernel_rfl
theorem cellsPow : Tryz.prog.cellsOf 119 = 20 := by kernel_rfl
theorem cellsU64 : Tryz.prog.cellsOf 61 = 1 := by kernel_rfl
theorem pow {W : World} (h : laidMetH Tryz.prog Rows.valueCastsRow.laid W) : Pow W := by
  obtain ⟨g, t, cs, fuel, p, hg, hty, hvar, hd⟩ := Lib.laidMet.reads h (.tail _ (.tail _ (.head _)))
  obtain rfl := Option.some.inj (gPow.symm.trans hg)
  obtain rfl := Option.some.inj (gPowType.symm.trans hty)
  rw [powData] at hd
  unfold Pow TabIs
  rw [hvar, ← cells_of_tab Tryz.underlying119 Tryz.underlying61 cellsU64 cellsPow hd]
theorem cellsV : Tryz.prog.cellsOf 23 = 3 := by kernel_rfl
theorem fitOf {n : Int} (h : (Lit.int .i64 n).wf = true) : fit n := by
  have := bounds_i64 h
  exact ⟨by omega, by omega⟩
/-- a value that came in: its three fields -/
theorem openV {H : Type} {enc : TypeId × Value → H} {W : World} {base : Nat} {v : Value} {d : DataW H} {p : List MemPlace} (hv : Value.okWide Tryz.prog W .any base 23 v) (h : DataW.Trod enc Tryz.prog W 0 (fun _ => true) true 23 v d p) :
    ∃ (t n : Int) (s : ByteArray), v = .agg #[.int .i64 t, .int .i64 n, .string s] ∧ d = .agg [.lit (.int .i64 t), .lit (.int .i64 n), .lit (.string s.data.toList)] ∧ p = [] ∧ (Lit.int .i64 t).wf = true ∧ (Lit.int .i64 n).wf = true ∧ s.size ≤ maxLen := by
  obtain ⟨c0, c1, c2, y0, y1, y2, m, rfl, rfl, rfl, t0, t1, t2⟩ := open_agg3 Tryz.underlying23 (by kernel_rfl) cellsV hv h
  obtain ⟨a, e0, rfl, wa⟩ := DataW.trod_int Tryz.underlying3 t0
  obtain ⟨b, e1, rfl, wb⟩ := DataW.trod_int Tryz.underlying2 t1
  obtain ⟨s, e2, rfl, ws⟩ := DataW.trod_string Tryz.underlying9 t2
  simp only [List.cons.injEq, and_true] at e0 e1 e2
  subst e0 e1 e2
  exact ⟨a, b, s, rfl, rfl, rfl, wa, wb, ws⟩
theorem shutV {H : Type} {enc : TypeId × Value → H} {W : World} {spare : TypeId → Bool} {held : Bool} {base : Nat} {t n : Int} {s : ByteArray} (wt : (Lit.int .i64 t).wf = true) (wn : (Lit.int .i64 n).wf = true) (ws : s.size ≤ maxLen) :
    DataW.Trod enc Tryz.prog W base spare held 23 (.agg #[.int .i64 t, .int .i64 n, .string s]) (.agg [.lit (.int .i64 t), .lit (.int .i64 n), .lit (.string s.data.toList)]) [] :=
  shut_agg3 (y0 := (.lit (.int .i64 t), [])) (y1 := (.lit (.int .i64 n), [])) (y2 := (.lit (.string s.data.toList), [])) Tryz.underlying23 (by kernel_rfl) cellsV
    ⟨1, by simp [DataW.trod, Tryz.underlying3, wt]⟩ ⟨1, by simp [DataW.trod, Tryz.underlying2, wn]⟩ ⟨1, by simp [DataW.trod, Tryz.underlying9, ws]⟩

theorem gErr : Tryz.prog.globalNamed "strconv.ErrRange" = some 9 := by kernel_rfl
theorem gErrType : (Tryz.prog.globals[9]?).map (·.type) = some 97 := by kernel_rfl
theorem rg {W : World} (h : laidMetH Tryz.prog Rows.valueCastsRow.laid W) : Rg W := by
  obtain ⟨g, t, cs, fuel, p, hg, hty, hvar, hd⟩ := Lib.laidMet.reads h (.tail _ (.tail _ (.tail _ (.tail _ (.head _)))))
  obtain rfl := Option.some.inj (gErr.symm.trans hg)
  obtain rfl := Option.some.inj (gErrType.symm.trans hty)
  obtain ⟨f2, u, v, hcs, _, _⟩ := iface_of_trod Tryz.underlying97 hd
  have h0 := World.var?_cell gErr hvar 0
  refine ⟨.iface u v, h0.trans ?_, Or.inr ⟨u, v, rfl⟩⟩
  rw [← Array.getElem?_toList, hcs]; rfl

set_option maxRecDepth 100000 in
theorem contract (H : Type) (enc : TypeId × Value → H) (W : World) (base : Nat) (args : Array Value) (ds gs : List (DataW H)) (before : List MemPlace)
    (hval : ∀ (j : Nat) t v, Tryz.f3.params[j]? = some t → args[j]? = some v → Value.okWide Tryz.prog W .any base t v)
    (hW : DataW.Whole enc Tryz.prog Tryz.f3.params.toList Rows.valueCastsSpec.vars false W args.toList ds gs before) (hL : laidMetH Tryz.prog Rows.valueCastsRow.laid W) (hSh : W.ShapedOpen Tryz.prog) :
    Calls Tryz.prog 3 args W fun e W' => ∃ v, e = .returned v ∧ Rows.valueCastsSpec.post enc Tryz.prog Tryz.f3 false true false false W args v W' := by
  have hW' := hW
  obtain ⟨p, q, hA0, hV, rfl, hfz, hnd⟩ := hW
  have hA : DataW.TrodAll enc Tryz.prog W 0 (fun _ => true) true Tryz.f3.params.toList args.toList ds p := hA0
  rw [Tryz.params3] at hA hval
  obtain ⟨v0, vs0, d0, ds0, p0, q0, hargs, rfl, rfl, h0, r0⟩ := trodAll_cons hA
  obtain ⟨v1, vs1, d1, ds1, p1, q1, rfl, rfl, rfl, h1, r1⟩ := trodAll_cons r0
  obtain ⟨rfl, rfl, rfl⟩ := trodAll_nil r1
  obtain rfl : args = #[v0, v1] := by cases args; simp_all
  obtain ⟨rfl, rfl⟩ := trodVars_none hV
  obtain ⟨t0, n0, s0, rfl, rfl, rfl, wt0, wn0, ws0⟩ := openV (hval 0 23 v0 rfl rfl) h0
  obtain ⟨n1, rfl, rfl, rfl, wn1⟩ := open_int Tryz.underlying3 (hval 1 3 v1 rfl rfl) h1
  clear hA0
  simp only [List.append_nil] at hW'
  refine (ValueCasts_any ⟨t0, n0, s0⟩ n1 W (fitOf wn0) (by unfold maxLen at ws0; exact ws0) (tabs hL) (pow hL) (Tryz.laysRepl.s1_3 W hSh) (rg hL)).mono ?_
  rintro e W' ⟨rfl, bel⟩
  have e1 : Rows.valueCastsSpec.fn H ([.agg [.lit (.int .i64 t0), .lit (.int .i64 n0), .lit (.string s0.data.toList)], .lit (.int .i64 n1)] ++ []) = { results := [.lit (.bool true)], args := [.agg [.lit (.int .i64 t0), .lit (.int .i64 n0), .lit (.string s0.data.toList)], .lit (.int .i64 n1)] } := rfl
  refine ⟨_, rfl, _, _, _, [], [], [], hW', ?_, ?_, ?_, bel.frame _, fun h => by cases h⟩
  · rw [e1]; exact trodAll_cons_mk (shut_bool Tryz.underlying4 _) trodAll_mk0
  · rw [e1]; exact trodAll_cons_mk (shutV wt0 wn0 ws0) (trodAll_cons_mk (shut_int Tryz.underlying3 wn1) trodAll_mk0)
  · rw [e1]; rfl

theorem laid_met (os : Os) : laidMet Tryz.prog Rows.valueCastsRow.laid ((let w0 := World.holding Tryz.prog os ⟨#[], #[], []⟩; let put : Array Obj → Nat → Array Value → Array Obj := fun h g cs => h.modify g (fun o => match o with | .cells _ t frozen => .cells cs t frozen | o => o); let h1 := put w0.heap 6 (([0, 1, 28, 2, 29, 14, 24, 3, 30, 22, 20, 15, 25, 17, 4, 8, 31, 27, 13, 23, 21, 19, 16, 7, 26, 12, 18, 6, 11, 5, 10, 9] : List Int).map fun z => Value.int .u8 z).toArray; let h2 := put h1 7 (([0, 1, 56, 2, 57, 49, 28, 3, 61, 58, 42, 50, 38, 29, 17, 4, 62, 47, 59, 36, 45, 43, 51, 22, 53, 39, 33, 30, 24, 18, 12, 5, 63, 55, 48, 27, 60, 41, 37, 16, 46, 35, 44, 21, 52, 32, 23, 11, 54, 26, 40, 15, 34, 20, 31, 10, 25, 14, 19, 9, 13, 8, 7, 6] : List Int).map fun z => Value.int .u8 z).toArray; let h3 := put h2 2 (Lib.pow10Tab.map fun z => Value.int .u64 z).toArray; let h4 := put h3 1 ((List.range 16).flatMap fun i => [Value.int .u8 (Lib.accLo i), Value.int .u8 (Lib.accHi i)]).toArray; let h5 := put h4 9 #[.iface 150 (.pointer (some ⟨w0.heap.size + 0, 0, none⟩))]; let h6 := put h5 8 #[.iface 150 (.pointer (some ⟨w0.heap.size + 1, 0, none⟩))]; let h7 := put h6 0 (Lib.firstTab.map fun z => Value.int .u8 z).toArray; ({ w0 with heap := (h7.push (.cells #[.string ⟨#[118, 97, 108, 117, 101, 32, 111, 117, 116, 32, 111, 102, 32, 114, 97, 110, 103, 101]⟩] 152)).push (.cells #[.string ⟨#[105, 110, 118, 97, 108, 105, 100, 32, 115, 121, 110, 116, 97, 120]⟩] 152) } : World)).forCall (fun _ _ => 0) ⟨#[], #[.agg #[.int .i64 0, .int .i64 0, .string ⟨#[]⟩], .int .i64 0], []⟩).memory :=
  laidMet_of_run' 8 (by kernel_rfl) (by kernel_rfl)
theorem reads (os : Os) {H : Type} (enc : TypeId × Value → H) : ∃ places, DataW.whole enc Tryz.prog ((let w0 := World.holding Tryz.prog os ⟨#[], #[], []⟩; let put : Array Obj → Nat → Array Value → Array Obj := fun h g cs => h.modify g (fun o => match o with | .cells _ t frozen => .cells cs t frozen | o => o); let h1 := put w0.heap 6 (([0, 1, 28, 2, 29, 14, 24, 3, 30, 22, 20, 15, 25, 17, 4, 8, 31, 27, 13, 23, 21, 19, 16, 7, 26, 12, 18, 6, 11, 5, 10, 9] : List Int).map fun z => Value.int .u8 z).toArray; let h2 := put h1 7 (([0, 1, 56, 2, 57, 49, 28, 3, 61, 58, 42, 50, 38, 29, 17, 4, 62, 47, 59, 36, 45, 43, 51, 22, 53, 39, 33, 30, 24, 18, 12, 5, 63, 55, 48, 27, 60, 41, 37, 16, 46, 35, 44, 21, 52, 32, 23, 11, 54, 26, 40, 15, 34, 20, 31, 10, 25, 14, 19, 9, 13, 8, 7, 6] : List Int).map fun z => Value.int .u8 z).toArray; let h3 := put h2 2 (Lib.pow10Tab.map fun z => Value.int .u64 z).toArray; let h4 := put h3 1 ((List.range 16).flatMap fun i => [Value.int .u8 (Lib.accLo i), Value.int .u8 (Lib.accHi i)]).toArray; let h5 := put h4 9 #[.iface 150 (.pointer (some ⟨w0.heap.size + 0, 0, none⟩))]; let h6 := put h5 8 #[.iface 150 (.pointer (some ⟨w0.heap.size + 1, 0, none⟩))]; let h7 := put h6 0 (Lib.firstTab.map fun z => Value.int .u8 z).toArray; ({ w0 with heap := (h7.push (.cells #[.string ⟨#[118, 97, 108, 117, 101, 32, 111, 117, 116, 32, 111, 102, 32, 114, 97, 110, 103, 101]⟩] 152)).push (.cells #[.string ⟨#[105, 110, 118, 97, 108, 105, 100, 32, 115, 121, 110, 116, 97, 120]⟩] 152) } : World)).forCall (fun _ _ => 0) ⟨#[], #[.agg #[.int .i64 0, .int .i64 0, .string ⟨#[]⟩], .int .i64 0], []⟩).memory Tryz.f3.params.toList Rows.valueCastsSpec.vars false (#[.agg #[.int .i64 0, .int .i64 0, .string ⟨#[]⟩], .int .i64 0] : Array Value).toList 8 = some ([.agg [.lit (.int .i64 0), .lit (.int .i64 0), .lit (.string [])], .lit (.int .i64 0)], [], places) :=
  ⟨[], by kernel_rfl⟩

set_option maxRecDepth 100000 in
theorem lifted (os : Os) (started : os.Started) (H : Type) (enc : TypeId × Value → H) (F : Stop.Interp) :
    ReturnsInHanded {} Tryz.checked os 3 .any ((OpenSpec.ofChange Rows.valueCastsSpec).preRow enc Tryz.prog Tryz.f3 Rows.valueCastsRow.domain false Rows.valueCastsRow.laid) (((OpenSpec.ofChange Rows.valueCastsSpec).at F).post enc Tryz.prog Tryz.f3 false true false false) := by
  obtain ⟨places, hx⟩ := reads os enc
  refine returnsInHanded_of_row (C := Tryz.checked) (s := OpenSpec.ofChange Rows.valueCastsSpec) own started (by kernel_rfl) Tryz.func3
    (witness_row_at (enc := enc) (C := Tryz.checked) false (let w0 := World.holding Tryz.prog os ⟨#[], #[], []⟩; let put : Array Obj → Nat → Array Value → Array Obj := fun h g cs => h.modify g (fun o => match o with | .cells _ t frozen => .cells cs t frozen | o => o); let h1 := put w0.heap 6 (([0, 1, 28, 2, 29, 14, 24, 3, 30, 22, 20, 15, 25, 17, 4, 8, 31, 27, 13, 23, 21, 19, 16, 7, 26, 12, 18, 6, 11, 5, 10, 9] : List Int).map fun z => Value.int .u8 z).toArray; let h2 := put h1 7 (([0, 1, 56, 2, 57, 49, 28, 3, 61, 58, 42, 50, 38, 29, 17, 4, 62, 47, 59, 36, 45, 43, 51, 22, 53, 39, 33, 30, 24, 18, 12, 5, 63, 55, 48, 27, 60, 41, 37, 16, 46, 35, 44, 21, 52, 32, 23, 11, 54, 26, 40, 15, 34, 20, 31, 10, 25, 14, 19, 9, 13, 8, 7, 6] : List Int).map fun z => Value.int .u8 z).toArray; let h3 := put h2 2 (Lib.pow10Tab.map fun z => Value.int .u64 z).toArray; let h4 := put h3 1 ((List.range 16).flatMap fun i => [Value.int .u8 (Lib.accLo i), Value.int .u8 (Lib.accHi i)]).toArray; let h5 := put h4 9 #[.iface 150 (.pointer (some ⟨w0.heap.size + 0, 0, none⟩))]; let h6 := put h5 8 #[.iface 150 (.pointer (some ⟨w0.heap.size + 1, 0, none⟩))]; let h7 := put h6 0 (Lib.firstTab.map fun z => Value.int .u8 z).toArray; ({ w0 with heap := (h7.push (.cells #[.string ⟨#[118, 97, 108, 117, 101, 32, 111, 117, 116, 32, 111, 102, 32, 114, 97, 110, 103, 101]⟩] 152)).push (.cells #[.string ⟨#[105, 110, 118, 97, 108, 105, 100, 32, 115, 121, 110, 116, 97, 120]⟩] 152) } : World)) #[.agg #[.int .i64 0, .int .i64 0, .string ⟨#[]⟩], .int .i64 0] rfl (by kernel_rfl) (by kernel_rfl) (by kernel_rfl)
      (OpenSpec.preRow_of_cond 8 hx (by kernel_rfl) (fun k hk => by cases hk) (by kernel_rfl) (laid_met os))) ?_
  intro W base args ds gs before hval hW _ _ _ hL hSh _
  exact contract H enc W base args ds gs before hval hW hL hSh

theorem said : Rows.ValueCastsSaid :=
  OpenClaim.holds_of_cond 3 Tryz.f3 rfl rfl rfl rfl rfl rfl rfl ⟨rfl, rfl, rfl, rfl, rfl⟩ rfl rfl rfl rfl rfl (by kernel_rfl) Tryz.func3 (by kernel_rfl)
    (of_decide_eq_true (by kernel_rfl)) (by unfold Func.isWrapper; first | (rw [if_pos (by decide +kernel)]; kernel_rfl) | (rw [if_neg (by decide +kernel)]; exact ⟨rfl, rfl⟩))
    (fun os started H enc _ F => by rw [OpenClaim.pre_eq_preRow]; exact lifted os started H enc F)

theorem plain (f : FuncId) (fn : Func) (hf : Tryz.pinned.checked.prog.funcNamed "lockstep/locksteplaw01.ValueCasts" = some f) (hfn : Tryz.pinned.checked.prog.funcs[f]? = some fn) :
    true = Tryz.pinned.checked.prog.looks [] ∧ ∀ (j : Nat) t, fn.params[j]? = some t → Tryz.pinned.checked.prog.wantsStandIn t = false := by
  obtain rfl : f = 3 := Option.some.inj ((show Tryz.prog.funcNamed "lockstep/locksteplaw01.ValueCasts" = some 3 by kernel_rfl).symm.trans hf) |>.symm
  obtain rfl : fn = Tryz.f3 := (Option.some.inj (Tryz.func3.symm.trans hfn)).symm
  refine ⟨by kernel_rfl, fun j t ht => ?_⟩
  rw [Tryz.params3] at ht
  have hm := Array.mem_of_getElem? ht
  simp only [List.mem_toArray, List.mem_cons, List.not_mem_nil, or_false] at hm
  rcases hm with rfl | rfl
  · exact (show Tryz.prog.wantsStandIn 23 = false by kernel_rfl)
  · exact (show Tryz.prog.wantsStandIn 3 = false by kernel_rfl)
end ValueCasts

open ValueCasts in
theorem valueCasts_card : Rows.ValueCastsCardSaid :=
  Claim7.holds_tied_plain_at .later [] _ _ _ _ said (fun _ h => by cases h) (by kernel_rfl) (fun _ h => by cases h) valueCasts_row_tie rfl ⟨rfl, rfl⟩ (by kernel_rfl) rfl plain (by kernel_rfl)
#print axioms valueCasts_card
end Go.Proofs.YtoboebibmelgkaaGreatDoor
