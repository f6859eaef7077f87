/-
  The walks of slices.Clone (columns, keys, whole numbers).
-/
import Derived.Test.YtecebjfcokmmkaaGreatDoorTfS
namespace Go.Proofs.YtecebjfcokmmkaaGreatDoor
open Go.RowKit Go.Shelf Go.Joins Go.Maps
set_option maxRecDepth 100000

/-- a copy of a list that is not empty -/
theorem Rw.clone {t e : TypeId} {z : Value} {sz by' : Nat} (R : Rw t e z sz by') (w : World) (ad : Addr) (n c : Nat) (xs : List Value) (hx : xs.length = n * sz) (hc : ∀ j u, xs[j]? = some u → w.cell? (ad.add j) = some u) (h0 : 0 < n) (hl : n ≤ 1000000000) :
    ∃ cap w', (∀ ty, (Builtin.append_ #[t, t] ty #[.slice (some ⟨w.heap.size, 0, none⟩) 0 0, .slice (some ad) n c]).run Tryz.prog (w.alloc (.cells #[] e)) = .ok (.slice (some ⟨w.heap.size + 1, 0, none⟩) n cap) w') ∧ shr w' e sz (.slice (some ⟨w.heap.size + 1, 0, none⟩) n cap) n xs ∧ w.grownBy w' none ∧ w'.heap.size = w.heap.size + 1 + 1 := by
  obtain ⟨i, hi, hz, hs, hb⟩ := info_parts R.inf
  have hsm := R.sm
  have hby : n * i.bytes ≤ 140737488355328 := by
    have : n * i.bytes ≤ 1000000000 * 64 := Nat.mul_le_mul hl (by omega)
    omega
  have ga := World.grownBy_alloc w (.cells #[] e) none
  subst hs
  have hr := fun ty => run_append_grow (P := Tryz.prog) (w.alloc (.cells #[] e)) t ty e i z R.sl hi hz ⟨w.heap.size, 0, none⟩ 0 0 [] (by simp) (fun j u hj => by simp at hj) ad n c xs hx (fun j u hj => ga.cell (hc j u hj) (by simp)) (by omega) (by omega) (growslice_fits (by omega) (by rw [Nat.zero_add]; exact hby))
  have hsz : (w.alloc (.cells #[] e)).heap.size = w.heap.size + 1 := by simp
  have hge := grownCap_ge (w.alloc (.cells #[] e)) (0 + n) 0 e
  have hcm := grownCap_le_maxLen (w.alloc (.cells #[] e)) (0 + n) 0 e (by unfold maxLen; omega)
  rw [hsz] at hr
  rw [Nat.zero_add] at hr hge hcm
  have hg2 : w.grownBy ((w.alloc (.cells #[] e)).drew.alloc (.cells (([] : List Value).toArray ++ xs.toArray ++ Builtin.zeroCells z.cells (grownCap (w.alloc (.cells #[] e)) n 0 e - n)) e)) none := grown_al (grown_drew ga) _
  have hat : ((w.alloc (.cells #[] e)).drew.alloc (.cells (([] : List Value).toArray ++ xs.toArray ++ Builtin.zeroCells z.cells (grownCap (w.alloc (.cells #[] e)) n 0 e - n)) e)).heap[w.heap.size + 1]? = some (.cells (([] : List Value).toArray ++ xs.toArray ++ Builtin.zeroCells z.cells (grownCap (w.alloc (.cells #[] e)) n 0 e - n)) e (0, 0)) := by
    have := heap_alloc_new (w.alloc (.cells #[] e)).drew (.cells (([] : List Value).toArray ++ xs.toArray ++ Builtin.zeroCells z.cells (grownCap (w.alloc (.cells #[] e)) n 0 e - n)) e)
    rw [show (w.alloc (.cells #[] e)).drew.heap.size = w.heap.size + 1 from hsz] at this
    exact this
  refine ⟨_, _, hr, ⟨hx, Or.inr ⟨w.heap.size + 1, 0, _, _, rfl, hat, hge, hcm, Or.inr ?_, fun j u hj => ?_⟩⟩, hg2, by simp⟩
  · rw [Array.size_append, Array.size_append, size_zeroCells, R.zs, List.size_toArray, List.size_toArray, hx, List.length_nil, Nat.zero_add, ← Nat.add_mul, Nat.zero_add]
    exact congrArg (· * i.size) (by omega)
  · have hjl := (List.getElem?_eq_some_iff.1 hj).1
    rw [Nat.zero_add, Array.getElem?_append_left (by simpa using hjl), List.append_toArray]
    simpa using hj
/-- what comes of it -/
def ClQ (w : World) (e sz n : Nat) (xs : List Value) (en : Ending) (w' : World) : Prop := ∃ cap, en = .returned (.slice (some ⟨w.heap.size + 1, 0, none⟩) n cap) ∧ shr w' e sz (.slice (some ⟨w.heap.size + 1, 0, none⟩) n cap) n xs ∧ w.grownBy w' none ∧ w'.heap.size = w.heap.size + 1 + 1
set_option maxHeartbeats 8000000 in
set_option maxRecDepth 1000000 in
theorem CloneCl (ad : Addr) (n c : Nat) (xs : List Value) (w : World) (hx : xs.length = n * 4) (hc : ∀ j u, xs[j]? = some u → w.cell? (ad.add j) = some u) (h0 : 0 < n) (hl : n ≤ 1000000000) :
    Calls Tryz.prog 50 #[.slice (some ad) n c] w fun e w' => ClQ w 52 4 n xs e w' := by
  obtain ⟨cap, w2, r, s, g, z⟩ := rwCl.clone w ad n c xs hx hc h0 hl
  have HR : Hid (ClQ w 52 4 n xs (.returned (.slice (some ⟨w.heap.size + 1, 0, none⟩) n cap)) w2) := ⟨cap, rfl, s, g, z⟩
  have ne : ∀ w, (binOp .eql 22 (.slice (some ad) n c) (.slice none 0 0)).run Tryz.prog w = .ok (.bool false) w := fun w => by kernel_rfl
  clear s g z hc hx
  go_enter Tryz.func50, Tryz.ntmps50
  go_wp2_with (at_builtin; refine wp_app 22 rfl (.tmp 5) (.tmp 6) rfl rfl rfl r ?_)
  exact bodyPost_ret (v := .slice (some ⟨w.heap.size + 1, 0, none⟩) n cap) (by simp [results, Tryz.results50, go_sem]) rfl HR.out
set_option maxHeartbeats 8000000 in
set_option maxRecDepth 1000000 in
theorem CloneKy (ad : Addr) (n c : Nat) (xs : List Value) (w : World) (hx : xs.length = n * 3) (hc : ∀ j u, xs[j]? = some u → w.cell? (ad.add j) = some u) (h0 : 0 < n) (hl : n ≤ 1000000000) :
    Calls Tryz.prog 51 #[.slice (some ad) n c] w fun e w' => ClQ w 46 3 n xs e w' := by
  obtain ⟨cap, w2, r, s, g, z⟩ := rwKy.clone w ad n c xs hx hc h0 hl
  have HR : Hid (ClQ w 46 3 n xs (.returned (.slice (some ⟨w.heap.size + 1, 0, none⟩) n cap)) w2) := ⟨cap, rfl, s, g, z⟩
  have ne : ∀ w, (binOp .eql 23 (.slice (some ad) n c) (.slice none 0 0)).run Tryz.prog w = .ok (.bool false) w := fun w => by kernel_rfl
  clear s g z hc hx
  go_enter Tryz.func51, Tryz.ntmps51
  go_wp2_with (at_builtin; refine wp_app 23 rfl (.tmp 5) (.tmp 6) rfl rfl rfl r ?_)
  exact bodyPost_ret (v := .slice (some ⟨w.heap.size + 1, 0, none⟩) n cap) (by simp [results, Tryz.results51, go_sem]) rfl HR.out
set_option maxHeartbeats 8000000 in
set_option maxRecDepth 1000000 in
theorem CloneIn (ad : Addr) (n c : Nat) (xs : List Value) (w : World) (hx : xs.length = n * 1) (hc : ∀ j u, xs[j]? = some u → w.cell? (ad.add j) = some u) (h0 : 0 < n) (hl : n ≤ 1000000000) :
    Calls Tryz.prog 52 #[.slice (some ad) n c] w fun e w' => ClQ w 3 1 n xs e w' := by
  obtain ⟨cap, w2, r, s, g, z⟩ := rwIn.clone w ad n c xs hx hc h0 hl
  have HR : Hid (ClQ w 3 1 n xs (.returned (.slice (some ⟨w.heap.size + 1, 0, none⟩) n cap)) w2) := ⟨cap, rfl, s, g, z⟩
  have ne : ∀ w, (binOp .eql 44 (.slice (some ad) n c) (.slice none 0 0)).run Tryz.prog w = .ok (.bool false) w := fun w => by kernel_rfl
  clear s g z hc hx
  go_enter Tryz.func52, Tryz.ntmps52
  go_wp2_with (at_builtin; refine wp_app 44 rfl (.tmp 5) (.tmp 6) rfl rfl rfl r ?_)
  exact bodyPost_ret (v := .slice (some ⟨w.heap.size + 1, 0, none⟩) n cap) (by simp [results, Tryz.results52, go_sem]) rfl HR.out
end Go.Proofs.YtecebjfcokmmkaaGreatDoor
