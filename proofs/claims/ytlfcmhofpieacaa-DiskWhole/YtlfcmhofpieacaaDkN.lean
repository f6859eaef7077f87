/-
  The walk of simfs.List: all names, rising.
-/
import Derived.Test.YtlfcmhofpieacaaDkM
import Derived.Test.YtlfcmhofpieacaaIter
namespace Go.Proofs.Ytlfcmhofpieacaa
open Go.RowKit Go.Maps Go.Joins Go.Sort

set_option maxHeartbeats 2000000 in
theorem List_ok (base f m : Nat) (q : Int) (xs : List (List UInt8 × Fl)) (us : List Un) (w : World) (d : Disk w base f q m xs us) (hl : xs.length ≤ 1000) (hsort : ∀ ss : List (List UInt8), ss.Perm (xs.map (·.1)) → ss.mergeSort (fun x y => decide (x ≤ y)) = xs.map (·.1)) :
    Calls Try.prog 26 #[.pointer (some ⟨f, 0, none⟩)] w fun e w' => ∃ v, e = .returned v ∧ w'.ownsRow w.heap.size 9 1 v xs.length ((xs.map (·.1)).map encStr) ∧ w.grownBy w' none := by
  obtain ⟨ov, h1, h2⟩ := d.fs
  obtain ⟨c0, c1, c2, c3, cf⟩ := h1.c
  have hm := d.mp
  have hsz : Maps.size (DataW.map (xs.map ent)) = xs.length := by rw [Maps.size_eq, List.length_map]
  clear h1 h2 c0 c2 c3 d
  refine (callsIn_wide (n := 6)).1 ?_
  have hfK : Fence.wide.fn 28 := trivial
  have hfS : Fence.wide.fn 27 := trivial
  refine callsIn_of_wp Try.func26 rfl trivial ?_ rfl
  simp only [Try.ntmps26, List.size_toArray, List.length_cons, List.length_nil, Nat.reduceAdd, Nat.reduceSub, Array.replicate_succ, Array.replicate_zero, List.push_toArray, List.append_toArray, List.nil_append, List.cons_append]
  gi_wp2_with (first
    | (gi_at_call 28; refine (Try.maps_Keys_28 _ _).mono ?_; rintro e w' ⟨rfl, rfl⟩)
    | (gi_at_call 27; refine (Try.slices_Sorted_keys_27_28 m xs.length _ ptrR w hm (by rw [hsz]; unfold maxLen; omega) (by rw [hsz]; omega)).mono ?_; rintro e w' ⟨v, ss, rfl, hS, hrow, hnil, hb⟩))
  go_ret
  have hS2 : ss.Perm (xs.map (·.1)) := by
    have e : strKeys (DataW.map (xs.map ent)) = xs.map (·.1) := by
      show (xs.map ent).map (fun p => strOf p.1) = _
      rw [List.map_map]; rfl
    rw [← e]; exact hS
  have hlen : ss.length = xs.length := by rw [hS2.length_eq, List.length_map]
  rw [hsort ss hS2, hlen] at hrow
  have hb2 : Below w.heap.size w w' := ((Below.refl _ w).alloc (Nat.le_refl _) _).trans (hb.mono (by simp))
  exact ⟨v, rfl, ownsRow_base_a hrow (by simp), ⟨hb2.os, hb2.tape, hb2.output, hb2.size, fun k hk _ => hb2.block k hk⟩⟩
end Go.Proofs.Ytlfcmhofpieacaa
