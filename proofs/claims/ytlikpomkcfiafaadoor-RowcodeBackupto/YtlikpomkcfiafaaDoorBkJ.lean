/-
  The walks of lockstepref02.Plain and PlainRow.
-/
import Derived.Test.YtlikpomkcfiafaaDoorBkI
namespace Go.Proofs.YtlikpomkcfiafaaDoor
open Go.RowKit Go.Shelf

set_option maxHeartbeats 2000000 in
set_option maxRecDepth 1000000 in
theorem Plain_any (a : Va) (w : World) :
    Calls Tryd.prog 19 #[.agg #[.int .i64 a.ty, .int .i64 a.n, .string a.s]] w fun e w' => e = .returned (.agg #[.int .i64 (pl a).ty, .int .i64 (pl a).n, .string (pl a).s]) ∧ Below w.heap.size w w' := by
  obtain ⟨ty, n, s⟩ := a
  rcases (show ty = 1 ∨ ty = 2 ∨ ty = 4 ∨ ty = 3 ∨ (ty ≠ 1 ∧ ty ≠ 2 ∧ ty ≠ 4 ∧ ty ≠ 3) by omega) with rfl | rfl | rfl | rfl | h
  · have e : pl ⟨1, n, s⟩ = ⟨1, n, ⟨#[]⟩⟩ := by simp [pl]
    rw [e]
    go_enter Tryd.func19, Tryd.ntmps19
    go_wp2_with fail
    exact bodyPost_ret (v := .agg #[.int .i64 1, .int .i64 n, .string ⟨#[]⟩]) (by simp [results, Tryd.results19, go_sem]) rfl ⟨rfl, ((Below.refl _ w).alloc (Nat.le_refl _) _).alloc (by simp) _⟩
  · have e : pl ⟨2, n, s⟩ = ⟨2, n, ⟨#[]⟩⟩ := by simp [pl]
    rw [e]
    go_enter Tryd.func19, Tryd.ntmps19
    go_wp2_with fail
    exact bodyPost_ret (v := .agg #[.int .i64 2, .int .i64 n, .string ⟨#[]⟩]) (by simp [results, Tryd.results19, go_sem]) rfl ⟨rfl, ((Below.refl _ w).alloc (Nat.le_refl _) _).alloc (by simp) _⟩
  · have e : pl ⟨4, n, s⟩ = ⟨4, n, ⟨#[]⟩⟩ := by simp [pl]
    rw [e]
    go_enter Tryd.func19, Tryd.ntmps19
    go_wp2_with fail
    exact bodyPost_ret (v := .agg #[.int .i64 4, .int .i64 n, .string ⟨#[]⟩]) (by simp [results, Tryd.results19, go_sem]) rfl ⟨rfl, ((Below.refl _ w).alloc (Nat.le_refl _) _).alloc (by simp) _⟩
  · have e : pl ⟨3, n, s⟩ = ⟨3, 0, s⟩ := by simp [pl]
    rw [e]
    go_enter Tryd.func19, Tryd.ntmps19
    go_wp2_with fail
    exact bodyPost_ret (v := .agg #[.int .i64 3, .int .i64 0, .string s]) (by simp [results, Tryd.results19, go_sem]) rfl ⟨rfl, ((Below.refl _ w).alloc (Nat.le_refl _) _).alloc (by simp) _⟩
  · have e : pl ⟨ty, n, s⟩ = ⟨ty, 0, ⟨#[]⟩⟩ := by unfold pl; simp only; rw [if_neg h.2.2.2, if_neg (by omega)]
    rw [e]
    have n1 : (ty == 1) = false := by rw [beq_eq_false_iff_ne]; exact h.1
    have n2 : (ty == 2) = false := by rw [beq_eq_false_iff_ne]; exact h.2.1
    have n4 : (ty == 4) = false := by rw [beq_eq_false_iff_ne]; exact h.2.2.1
    have n3 : (ty == 3) = false := by rw [beq_eq_false_iff_ne]; exact h.2.2.2
    clear e h
    go_enter Tryd.func19, Tryd.ntmps19
    go_wp2_with fail
    exact bodyPost_ret (v := .agg #[.int .i64 ty, .int .i64 0, .string ⟨#[]⟩]) (by simp [results, Tryd.results19, go_sem]) rfl ⟨rfl, ((Below.refl _ w).alloc (Nat.le_refl _) _).alloc (by simp) _⟩

set_option maxHeartbeats 4000000 in
set_option maxRecDepth 1000000 in
theorem PlainRow_any (p : Option Addr) (c : Nat) (la : List Va) (w : World) (hp : rowIn w p la) (hl : la.length ≤ 900) :
    Calls Tryd.prog 18 #[.slice p la.length c] w fun e w' => ∃ v', e = .returned v' ∧ ownsV w' w.heap.size v' (la.map pl) ∧ Below w.heap.size w w' := by
  go_enter Tryd.func18, Tryd.ntmps18
  go_wp2_with fail
  go_loopw [3, 4] (fun sv si wr => ∃ k : Nat, si = .int .i64 k ∧ k ≤ la.length ∧ ownsV wr w.heap.size sv ((la.take k).map pl) ∧ Below w.heap.size w wr) (fun _ si _ => la.length - (intOf si).toNat)
  case atStart => exact ⟨0, rfl, Nat.zero_le _, ownsV_nil _ _, Below.refl _ _⟩
  case round =>
    obtain ⟨k, rfl, hk, ho, hbr⟩ := hrel
    by_cases hlt : k < la.length
    · obtain ⟨x, hxk⟩ : ∃ x, la[k]? = some x := ⟨la[k], List.getElem?_eq_getElem hlt⟩
      rcases hp with rfl | ⟨g, off, rfl, hgw, hcs⟩
      · simp at hxk
      obtain ⟨c1, c2, c3⟩ := hcs k x hxk
      have d1 := (hbr.cell (p := ⟨g, off + k * 3, none⟩) hgw).trans c1
      have d2 := (hbr.cell (p := ⟨g, off + k * 3 + 1, none⟩) hgw).trans c2
      have d3 := (hbr.cell (p := ⟨g, off + k * 3 + 2, none⟩) hgw).trans c3
      have PA : Hid (Calls Tryd.prog 19 #[.agg #[.int .i64 x.ty, .int .i64 x.n, .string x.s]] wr _) := Plain_any x wr
      have hn : Hid ((la.take (k + 1)).map pl = (la.take k).map pl ++ [pl x]) := by
        show _ = _
        rw [List.take_add_one, hxk]; simp
      have hlk : ((la.take k).map pl).length ≤ 1000 := by rw [List.length_map, List.length_take]; omega
      clear c1 c2 c3 hcs hxk
      generalize (la.take k).map pl = L at *
      generalize pl x = y at *
      go_wp2_with fail
      refine PA.out.mono ?_
      rintro e w1 ⟨rfl, hb1⟩
      have B1 := hbr.trans (hb1.mono hbr.size)
      have O1 := ho.below hb1
      have S1 := B1.size
      go_wp2_with (at_builtin; refine app_v rfl (.tmp 11) (.tmp 17) rfl w.heap.size _ L y rfl O1 (by simp [Act.eval]) hlk S1 ?_; intro v6 w6 ho6 hb6 hs6)
      go_roundw
      case rel => exact ⟨k + 1, by go_num, hlt, by rw [hn.out]; exact ho6, B1.trans hb6⟩
      case measure => simp [intOf]; omega
    · have ht : la.take k = la := List.take_of_length_le (by omega)
      rw [ht] at ho
      go_wp2_with fail
      go_ret
      exact ⟨_, rfl, ho, hbr⟩
end Go.Proofs.YtlikpomkcfiafaaDoor
