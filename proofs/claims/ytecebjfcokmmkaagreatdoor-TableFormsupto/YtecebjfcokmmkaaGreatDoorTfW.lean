/-
  The walk of table.empty.
-/
import Derived.Test.YtecebjfcokmmkaaGreatDoorTfV
namespace Go.Proofs.YtecebjfcokmmkaaGreatDoor
open Go.RowKit Go.Shelf Go.Joins Go.Maps
set_option maxRecDepth 100000

theorem treeNew_any (u : Bool) (w : World) :
    Calls Tryz.prog 62 #[.bool u] w fun e w' => ∃ g, e = .returned (.pointer (some ⟨g, 0, none⟩)) ∧ w.grownBy w' none := by
  go_enter Tryz.func62, Tryz.ntmps62
  go_wp2_with fail
  exact bodyPost_ret (v := .pointer (some ⟨w.heap.size, 0, none⟩)) (by simp [results, Tryz.results62, go_sem]) rfl ⟨_, rfl, World.grownBy_alloc w _ none⟩
theorem rwTr : Rw 59 96 (.pointer none) 1 8 := ⟨by kernel_rfl, by kernel_rfl, rfl, by decide, by decide⟩
theorem mkRows (w : World) : (Instr.makeMap 58 none).run Tryz.prog w = .ok (.map (some w.heap.size)) (w.alloc (.map #[] 0)) := by kernel_rfl
theorem Fo.keptK {w w' : World} {lo gc cc gk ck : Nat} {t : Tb} {L : List Kq} {S : Nat → Prop} (h : Fo w lo t gc cc gk ck L) (hc : Chg S w w') (hn : ∀ g, S g → g < w.heap.size → kd w g ≠ 52 + 2 ∧ kd w g ≠ 46 + 2 ∧ kd w g ≠ 3 + 2) : Fo w' lo t gc cc gk ck L :=
  ⟨h.cols.kept hc (fun g e hs => by cases e; exact (hn _ hs (shr_lt h.cols)).1 (h.cols.kd _ rfl).1), h.keys.kept hc (fun g e hs => by cases e; exact (hn _ hs (shr_lt h.keys)).2.1 (h.keys.kd _ rfl).1), h.hL, fun q hq => (h.ints q hq).kept hc (fun g e hs => by cases e; exact (hn _ hs (shr_lt (h.ints q hq))).2.2 ((h.ints q hq).kd _ rfl).1), h.loc, h.lok, h.loi⟩
/-- a table of none in memory -/
structure Tx (w : World) (lo gx gm : Nat) (t : Tb) (gc cc gk ck : Nat) (L : List Kq) (vt : Value) : Prop where
  fo : Fo w lo t gc cc gk ck L
  obj : w.heap[gx]? = some (.cells #[.string t.nm, .slice (some ⟨gc, 0, none⟩) t.cs.length cc, .slice (some ⟨gk, 0, none⟩) t.ks.length ck, .int .i64 t.pa, .int .i64 t.mo, .map (some gm), vt, .int .u64 1, .slice none 0 0] 62 (0, 0))
  map : w.heap[gm]? = some (.map #[] 0)
  lox : lo ≤ gx
  lom : lo ≤ gm
theorem tyTC : 62 + 2 ≠ 52 + 2 ∧ 62 + 2 ≠ 46 + 2 ∧ 62 + 2 ≠ 3 + 2 := by decide
theorem tyRC : 96 + 2 ≠ 52 + 2 ∧ 96 + 2 ≠ 46 + 2 ∧ 96 + 2 ≠ 3 + 2 := by decide
theorem Tx.below {w w' : World} {lo gx gm gc cc gk ck : Nat} {t : Tb} {L : List Kq} {vt : Value} (h : Tx w lo gx gm t gc cc gk ck L vt) (hb : Below w.heap.size w w') : Tx w' lo gx gm t gc cc gk ck L vt :=
  ⟨h.fo.below hb, (hb.block _ (lt_of_heap h.obj)).trans h.obj, (hb.block _ (lt_of_heap h.map)).trans h.map, h.lox, h.lom⟩
/-- nothing of the table is in the blocks that changed -/
theorem Tx.kept {w w' : World} {lo gx gm gc cc gk ck : Nat} {t : Tb} {L : List Kq} {vt : Value} {S : Nat → Prop} (h : Tx w lo gx gm t gc cc gk ck L vt) (hc : Chg S w w') (hn : ∀ g, lo ≤ g → g < w.heap.size → ¬ S g) : Tx w' lo gx gm t gc cc gk ck L vt :=
  ⟨h.fo.kept hc hn, hc.at_ h.obj (hn _ h.lox (lt_of_heap h.obj)), hc.at_ h.map (hn _ h.lom (lt_of_heap h.map)), h.lox, h.lom⟩
/-- one tree more: the row of trees grows, the table's own cell is written -/
theorem Tx.tree {w w6 : World} {lo gx gm gc cc gk ck k : Nat} {t : Tb} {L : List Kq} {vt v6 : Value} {xs : List Value} (h : Tx w lo gx gm t gc cc gk ck L vt) (hs : shr w 96 1 vt k xs) (h6 : w.grownBy w6 vt.ownBlock) : Tx (w6.setCell ⟨gx, 6, none⟩ v6) lo gx gm t gc cc gk ck L v6 ∧ (∃ v, w6.cell? ⟨gx, 6, none⟩ = some v) ∧ w6.frozen? ⟨gx, 6, none⟩ = false := by
  have c6 : Chg (fun i => vt.ownBlock = some i) w w6 := Chg.of_grown h6
  have kx : kd w gx = 62 + 2 := kd_cells h.obj
  have km : kd w gm = 1 := kd_map h.map
  have hv : ∀ g, vt.ownBlock = some g → kd w g = 96 + 2 := fun g hg => (hs.kd g hg).1
  have ox : w6.heap[gx]? = _ := c6.at_ h.obj (fun e => by rw [hv gx e] at kx; exact absurd kx (by decide))
  have om : w6.heap[gm]? = _ := c6.at_ h.map (fun e => by rw [hv gm e] at km; exact absurd km (by decide))
  have f6 : Fo w6 lo t gc cc gk ck L := h.fo.keptK c6 (fun g hg _ => by rw [hv g hg]; exact tyRC)
  have cs : Chg (fun i => i = gx) w6 (w6.setCell ⟨gx, 6, none⟩ v6) := Chg.of_cell w6 ⟨gx, 6, none⟩ v6
  refine ⟨⟨f6.keptK cs (fun g hg _ => by subst hg; rw [kd_cells ox]; exact tyTC), (block_setCell ox v6).trans rfl, cs.at_ om (fun e => ?_), h.lox, h.lom⟩, ⟨_, (cell_of_block ox 6).trans rfl⟩, unfrozen_of_block ox 6⟩
  rw [e, kx] at km
  exact absurd km (by decide)
theorem Tx.cell6 {w : World} {lo gx gm gc cc gk ck : Nat} {t : Tb} {L : List Kq} {vt : Value} (h : Tx w lo gx gm t gc cc gk ck L vt) : w.cell? ⟨gx, 6, none⟩ = some vt := (cell_of_block h.obj 6).trans rfl
end Go.Proofs.YtecebjfcokmmkaaGreatDoor
