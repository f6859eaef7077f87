/-
  The walks of lockstepref03.zeroless, signs and one.
-/
import Derived.Test.YtfcolecglobcdaaGreatDoorLrFx
import Derived.Lib.AppendStr
namespace Go.Proofs.YtfcolecglobcdaaGreatDoor
open Go.RowKit Go.Shelf

set_option maxHeartbeats 4000000 in
set_option maxRecDepth 1000000 in
theorem Quoted34_big (l : List UInt8) (w : World) (hs : l.length ≤ 3000000) :
    Calls Tryz.prog 26 #[.string ⟨l.toArray⟩, .int .u8 34] w fun e w' => e = .returned (.string ⟨(34 :: (qdq l ++ [34])).toArray⟩) ∧ Below w.heap.size w w' := by
  have hzl : (ByteArray.mk l.toArray).size = l.length := size_mk l
  have hli : (l.length : Int) ≤ 3000000 := by omega
  have ON : Hid (ownsB (w.alloc (.cells #[.int .u8 34] 5)) w.heap.size (.slice (some ⟨w.heap.size, 0, none⟩) 1 1) [34]) := own_one w 34
  have HQ : Hid (34 :: (qdq l ++ [34]) = [34] ++ (qdq (l.drop 0) ++ [34])) := rfl
  generalize 34 :: (qdq l ++ [34]) = U at *
  go_enter Tryz.func26, Tryz.ntmps26
  go_wp2_with fail
  go_loopw [5, 6] (fun s4 s5 wr => ∃ (k : Nat) (T : List UInt8), s5 = .int .i64 k ∧ k ≤ l.length ∧ T.length ≤ 2 * k + 1 ∧ Hid (U = T ++ (qdq (l.drop k) ++ [34])) ∧ Hid (ownsB wr w.heap.size s4 T) ∧ Hid (Below w.heap.size w wr)) (fun _ s5 _ => l.length - (intOf s5).toNat)
  case atStart => exact ⟨0, [34], rfl, Nat.zero_le _, by simp, HQ, ON, (Below.refl _ w).alloc (Nat.le_refl _) _⟩
  case round =>
    obtain ⟨k, T, rfl, hk, hTk, hd, ho, hbr⟩ := hrel
    clear HQ ON
    have sb := hbr.out.size
    by_cases hlt : k < l.length
    · obtain ⟨x, hx⟩ : ∃ x, l[k]? = some x := ⟨l[k], List.getElem?_eq_getElem hlt⟩
      have hgx := get_mk hx
      have hlti : (k : Int) < (l.length : Int) := by omega
      have hd1 := hd.out
      rw [drop_at hx] at hd1
      have ho2 := ho.out
      by_cases hx34 : x = 34
      · subst hx34
        rw [qdq, if_pos rfl] at hd1
        have hd2 : Hid (U = (T ++ [34] ++ [34]) ++ (qdq (l.drop (k + 1)) ++ [34])) := by show _ = _; rw [hd1]; simp
        clear hd hd1 ho hx
        go_wp2_with (at_builtin; first | (refine app_b rfl (.tmp 15) (.tmp 19) rfl w.heap.size _ T [34] _ rfl ho2 rfl rfl (by simp only [List.length_cons, List.length_nil]; omega) sb ?_; intro v3 w3 ho3 hb3 hs3) | (refine app_b rfl (.tmp 26) (.tmp 28) rfl w.heap.size _ (T ++ [34]) [34] _ rfl ho3 rfl rfl (by simp only [List.length_cons, List.length_nil, List.length_append]; omega) hs3 ?_; intro v4 w4 ho4 hb4 hs4))
        go_roundw
        case rel => exact ⟨k + 1, T ++ [34] ++ [34], by go_num, hlt, by simp; omega, hd2, ho4, (hbr.out.trans hb3).trans hb4⟩
        case measure => simp [intOf]; omega
      · rw [qdq, if_neg hx34] at hd1
        have hd2 : Hid (U = (T ++ [x]) ++ (qdq (l.drop (k + 1)) ++ [34])) := by show _ = _; rw [hd1]; simp
        have hxi : ((x.toNat : Int) == 34) = false := by
          rw [beq_eq_false_iff_ne]; intro e; exact hx34 (UInt8.toNat_inj.1 (by show x.toNat = 34; omega))
        clear hd hd1 ho hx
        go_wp2_with (at_builtin; refine app_b rfl (.tmp 15) (.tmp 19) rfl w.heap.size _ T [x] _ rfl ho2 rfl rfl (by simp only [List.length_cons, List.length_nil]; omega) sb ?_; intro v3 w3 ho3 hb3 hs3)
        go_roundw
        case rel => exact ⟨k + 1, T ++ [x], by go_num, hlt, by simp; omega, hd2, ho3, hbr.out.trans hb3⟩
        case measure => simp [intOf]; omega
    · have hk0 : k = l.length := by omega
      have hlti : ¬ (k : Int) < (l.length : Int) := by omega
      have hd1 := hd.out
      rw [List.drop_eq_nil_of_le (by omega)] at hd1
      have hd2 : U = T ++ [34] := hd1
      have ho2 := ho.out
      subst hd2
      clear hd hd1 ho
      go_wp2_with (at_builtin; refine app_b rfl (.tmp 30) (.tmp 32) rfl w.heap.size _ T [34] _ rfl ho2 rfl rfl (by simp only [List.length_cons, List.length_nil]; omega) sb ?_; intro v3 w3 ho3 hb3 hs3; have cv := conv_own ho3)
      go_ret
      exact ⟨rfl, hbr.out.trans hb3⟩

/-- no character of a text is 0 -/
def zl (l : List UInt8) : Bool := decide ((0 : UInt8) ∉ l)
theorem zl_ib (l : List UInt8) : zl l = decide (Lib.indexByte l 0 < 0) := by
  unfold zl
  exact decide_eq_decide.2 (ib_mem l).symm
set_option maxHeartbeats 2000000 in
set_option maxRecDepth 1000000 in
theorem zeroless_any (l : List UInt8) (w : World) (hs : l.length ≤ 9223372036854775807) :
    Calls Tryz.prog 57 #[.string ⟨l.toArray⟩] w fun e w' => e = .returned (.bool (zl l)) ∧ Below w.heap.size w w' := by
  have hzl : (ByteArray.mk l.toArray).size = l.length := size_mk l
  have hli : (l.length : Int) ≤ 9223372036854775807 := by omega
  obtain ⟨B, hB⟩ : ∃ B, B = zl l := ⟨_, rfl⟩
  rw [← hB]
  have HB : Hid (B = zl l) := hB
  clear hB
  go_enter Tryz.func57, Tryz.ntmps57
  go_wp2_with fail
  go_loopw [3] (fun s3 wr => ∃ (k : Nat), s3 = .int .i64 k ∧ k ≤ l.length ∧ Hid ((0 : UInt8) ∉ l.take k) ∧ wr = w) (fun s3 _ => l.length - (intOf s3).toNat)
  case atStart => exact ⟨0, rfl, Nat.zero_le _, (by show _ ∉ _; simp), rfl⟩
  case round =>
    obtain ⟨k, rfl, hk, hn, rfl⟩ := hrel
    by_cases hlt : k < l.length
    · obtain ⟨x, hx⟩ : ∃ x, l[k]? = some x := ⟨l[k], List.getElem?_eq_getElem hlt⟩
      have hgx := get_mk hx
      have hlti : (k : Int) < (l.length : Int) := by omega
      by_cases h0 : x = 0
      · subst h0
        have hE : B = false := by rw [HB.out]; exact decide_eq_false (fun h => h (List.mem_of_getElem? hx))
        subst hE
        clear HB hn hx
        go_wp2_with fail
        go_ret
        exact ⟨rfl, Below.refl _ _⟩
      · have hb0 : ((x.toNat : Int) == 0) = false := by
          rw [beq_eq_false_iff_ne]; intro e; exact h0 (UInt8.toNat_inj.1 (by show x.toNat = 0; omega))
        have hn2 : Hid ((0 : UInt8) ∉ l.take (k + 1)) := by
          show _ ∉ _
          rw [List.take_add_one, hx]
          intro h
          rcases List.mem_append.1 h with h | h
          · exact hn.out h
          · simp at h; exact h0 h.symm
        clear hn hx h0
        go_wp2_with fail
        go_roundw
        case rel => exact ⟨k + 1, by go_num, hlt, hn2, by trivial⟩
        case measure => simp [intOf]; omega
    · have hlti : ¬ (k : Int) < (l.length : Int) := by omega
      have hE : B = true := by
        rw [HB.out]
        have := hn.out
        rw [List.take_of_length_le (by omega)] at this
        exact decide_eq_true this
      subst hE
      clear HB hn
      go_wp2_with fail
      go_ret
      exact ⟨rfl, Below.refl _ _⟩
set_option maxHeartbeats 2000000 in
set_option maxRecDepth 1000000 in
theorem signs_any (w : World) : Calls Tryz.prog 58 #[] w fun e w' => e = .returned (.slice (some ⟨w.heap.size, 0, none⟩) 16 16) ∧ w' = w.alloc (.cells (sgs.map fun v => Value.string ⟨v.toArray⟩).toArray 9) := by
  go_enter Tryz.func58, Tryz.ntmps58
  go_wp2_with fail
  go_ret
  exact ⟨rfl, rfl⟩
theorem sgs_ok : ∀ g ∈ sgs, g ≠ [] ∧ ssz g = g.length := by decide
theorem sg_mem (x : List UInt8) : (decide (x ≠ []) && decide (ssz x = x.length)) = decide (x ∈ sgs) := by
  by_cases h : x ∈ sgs
  · obtain ⟨h1, h2⟩ := sgs_ok x h
    rw [decide_eq_true h, decide_eq_true h1, decide_eq_true h2]; rfl
  · rw [decide_eq_false h]
    by_cases h1 : x ≠ []
    · have h3 : ¬ ssz x = x.length := fun h2 => h (ssF_mem x h1 sgs h2)
      rw [decide_eq_true h1, decide_eq_false h3]; rfl
    · rw [decide_eq_false h1]; rfl
/-- what the tables hold -/
structure Pw (w : World) : Prop where
  l : LxW w
  p : Pow w
theorem Pw.below {w w' : World} (h : Pw w) (hb : Below w.heap.size w w') : Pw w' := ⟨h.l.below hb, h.p.below hb⟩
/-- a token that came in, of a size that can be -/
structure Sz (t : Ti) : Prop where
  n : fit t.v.n
  s : t.v.s.size ≤ 9223372036854775807
  x : t.text.length ≤ 9223372036854775807
/-- what one answers -/
def oneQ (B : Bool) (U : List UInt8) (base : Nat) (w : World) (e : Ending) (w' : World) : Prop := ∃ u : ByteArray, e = .returned (.tuple #[.string u, .bool B]) ∧ (B = true → u = ⟨U.toArray⟩) ∧ Below base w w'
theorem oneQ_mk {B : Bool} {U : List UInt8} {base : Nat} {w w' : World} (u : ByteArray) (h : B = true → u = ⟨U.toArray⟩) (hb : Below base w w') : oneQ B U base w (.returned (.tuple #[.string u, .bool B])) w' := ⟨u, rfl, h, hb⟩
def oneP (t : Ti) (base : Nat) (w : World) (e : Ending) (w' : World) : Prop := oneQ (okT t) (pnT t) base w e w'
set_option maxHeartbeats 2000000 in
set_option maxRecDepth 1000000 in
theorem one_word (x : List UInt8) (ty n : Int) (s : ByteArray) (p a b : Int) (w : World) :
    Calls Tryz.prog 35 #[.agg #[.int .i64 1, .string ⟨x.toArray⟩, .int .i64 ty, .int .i64 n, .string s, .int .i64 p, .int .i64 a, .int .i64 b]] w (oneP ⟨1, x, ⟨ty, n, s⟩, p, a, b⟩ w.heap.size w) := by
  have PL : Hid (∀ w, Calls Tryz.prog 13 #[.string ⟨x.toArray⟩] w fun e w' => e = .returned (.bool (plB x)) ∧ Below w.heap.size w w') := fun w => (pl_eq x).symm ▸ refPlain_any x w
  have e0 : okT ⟨1, x, ⟨ty, n, s⟩, p, a, b⟩ = plB x := rfl
  have e1 : pnT ⟨1, x, ⟨ty, n, s⟩, p, a, b⟩ = x := rfl
  unfold oneP
  rw [e0, e1]
  clear e0 e1
  generalize plB x = B at *
  have n0 := B8.new w 37 (.int .i64 1) (.string ⟨x.toArray⟩) (.int .i64 ty) (.int .i64 n) (.string s) (.int .i64 p) (.int .i64 a) (.int .i64 b)
  go_enter Tryz.func35, Tryz.ntmps35
  go_wp2_with fail
  generalize w.alloc (.cells #[.int .i64 1, .string ⟨x.toArray⟩, .int .i64 ty, .int .i64 n, .string s, .int .i64 p, .int .i64 a, .int .i64 b] 37) = w2 at *
  refine wp_region_noPanic ?_
  refine wp_region_held_drew (S := fun w' => B8 w (.int .i64 1) (.string ⟨x.toArray⟩) (.int .i64 ty) (.int .i64 n) (.string s) (.int .i64 p) (.int .i64 a) (.int .i64 b) w') (by kernel_rfl) (n0.drew) (fun hH => ?_)
  refine take_at (i := 0) (v := .pointer (some ⟨w.heap.size, 1, none⟩)) rfl rfl (by kernel_rfl) (by kernel_rfl) (by kernel_rfl) (fun _ _ _ h => h) (Or.inl ⟨by rfl, ?_⟩) hH ?_
  · intro w hSw; (try dsimp only at hSw); obtain ⟨_, a0, a1, a2, a3, a4, _, _, _, _, _, _, _, _, _, _, _⟩ := hSw.x; go_simp
  simp only [List.setIfInBounds_toArray, List.set_cons_zero, List.set_cons_succ]
  refine take_at (i := 1) (v := .string ⟨x.toArray⟩) rfl rfl (by kernel_rfl) (by kernel_rfl) (by kernel_rfl) (fun _ _ _ h => h) (Or.inl ⟨by rfl, ?_⟩) hH ?_
  · intro w hSw; (try dsimp only at hSw); obtain ⟨_, a0, a1, a2, a3, a4, _, _, _, _, _, _, _, _, _, _, _⟩ := hSw.x; go_simp
  simp only [List.setIfInBounds_toArray, List.set_cons_zero, List.set_cons_succ]
  refine take_at (i := 2) (v := .pointer (some ⟨w.heap.size, 1, none⟩)) rfl rfl (by kernel_rfl) (by kernel_rfl) (by kernel_rfl) (fun _ _ _ h => h) (Or.inl ⟨by rfl, ?_⟩) hH ?_
  · intro w hSw; (try dsimp only at hSw); obtain ⟨_, a0, a1, a2, a3, a4, _, _, _, _, _, _, _, _, _, _, _⟩ := hSw.x; go_simp
  simp only [List.setIfInBounds_toArray, List.set_cons_zero, List.set_cons_succ]
  refine take_at (i := 3) (v := .string ⟨x.toArray⟩) rfl rfl (by kernel_rfl) (by kernel_rfl) (by kernel_rfl) (fun _ _ _ h => h) (Or.inl ⟨by rfl, ?_⟩) hH ?_
  · intro w hSw; (try dsimp only at hSw); obtain ⟨_, a0, a1, a2, a3, a4, _, _, _, _, _, _, _, _, _, _, _⟩ := hSw.x; go_simp
  simp only [List.setIfInBounds_toArray, List.set_cons_zero, List.set_cons_succ]
  refine wpAnyH_ready (rs := [4]) (by kernel_rfl) (by simp) ?_
  refine AllReadyH.cons rfl (fun K hK => ?_) AllReadyH.nil
  go_simp
  go_at_call 13
  refine (PL.out _).mono ?_
  rintro e w3 ⟨rfl, hb3⟩
  go_wp2_with fail
  refine hK.out _ _ (hH.next hb3) (fun hH3 => ?_)
  clear hK K
  clear hH
  refine take_at (i := 5) (v := .string ⟨x.toArray⟩) rfl rfl (by kernel_rfl) (by kernel_rfl) (by kernel_rfl) (fun _ _ _ h => h) (Or.inl ⟨by rfl, ?_⟩) hH3 ?_
  · intro w hSw; (try dsimp only at hSw); obtain ⟨_, a0, a1, a2, a3, a4, _, _, _, _, _, _, _, _, _, _, _⟩ := hSw.x; go_simp
  simp only [List.setIfInBounds_toArray, List.set_cons_zero, List.set_cons_succ]
  refine take_at (i := 6) (v := .bool B) rfl rfl (by kernel_rfl) (by kernel_rfl) (by kernel_rfl) (fun _ _ _ h => h) (Or.inl ⟨by rfl, ?_⟩) hH3 ?_
  · intro w hSw; (try dsimp only at hSw); obtain ⟨_, a0, a1, a2, a3, a4, _, _, _, _, _, _, _, _, _, _, _⟩ := hSw.x; go_simp
  simp only [List.setIfInBounds_toArray, List.set_cons_zero, List.set_cons_succ]
  refine wpAnyH_done (by kernel_rfl) ?_ _
  refine NoPanic.normal ?_
  have B9 := hH3.b
  go_wp2_with fail
  refine bodyPost_ret (v := .tuple #[.string ⟨x.toArray⟩, .bool B]) (by simp [results, Tryz.results35, go_sem] <;> omega) rfl (oneQ_mk _ (fun _ => rfl) (B9))
set_option maxHeartbeats 2000000 in
set_option maxRecDepth 1000000 in
theorem one_param (x : List UInt8) (ty n : Int) (s : ByteArray) (p a b : Int) (w : World) (hx : x.length ≤ 3000000) :
    Calls Tryz.prog 35 #[.agg #[.int .i64 4, .string ⟨x.toArray⟩, .int .i64 ty, .int .i64 n, .string s, .int .i64 p, .int .i64 a, .int .i64 b]] w (oneP ⟨4, x, ⟨ty, n, s⟩, p, a, b⟩ w.heap.size w) := by
  have PL : Hid (∀ w, Calls Tryz.prog 13 #[.string ⟨x.toArray⟩] w fun e w' => e = .returned (.bool (plB x)) ∧ Below w.heap.size w w') := fun w => (pl_eq x).symm ▸ refPlain_any x w
  have e0 : okT ⟨4, x, ⟨ty, n, s⟩, p, a, b⟩ = plB x := rfl
  have e1 : pnT ⟨4, x, ⟨ty, n, s⟩, p, a, b⟩ = 58 :: x := rfl
  have hz : (ByteArray.mk x.toArray).size = x.length := size_mk x
  have z1 : ByteArray.mk #[58] ++ ByteArray.mk x.toArray = ByteArray.mk (58 :: x).toArray := add_mk [58] x
  have z3 : 1 + x.length ≤ 9223372036854775807 := by omega
  unfold oneP
  rw [e0, e1]
  clear e0 e1
  generalize plB x = B at *
  generalize 58 :: x = U at *
  have n0 := B8.new w 37 (.int .i64 4) (.string ⟨x.toArray⟩) (.int .i64 ty) (.int .i64 n) (.string s) (.int .i64 p) (.int .i64 a) (.int .i64 b)
  go_enter Tryz.func35, Tryz.ntmps35
  go_wp2_with fail
  generalize w.alloc (.cells #[.int .i64 4, .string ⟨x.toArray⟩, .int .i64 ty, .int .i64 n, .string s, .int .i64 p, .int .i64 a, .int .i64 b] 37) = w2 at *
  refine wp_region_noPanic ?_
  refine wp_region_held_drew (S := fun w' => B8 w (.int .i64 4) (.string ⟨x.toArray⟩) (.int .i64 ty) (.int .i64 n) (.string s) (.int .i64 p) (.int .i64 a) (.int .i64 b) w') (by kernel_rfl) (n0.drew) (fun hH => ?_)
  refine take_at (i := 0) (v := .pointer (some ⟨w.heap.size, 1, none⟩)) rfl rfl (by kernel_rfl) (by kernel_rfl) (by kernel_rfl) (fun _ _ _ h => h) (Or.inl ⟨by rfl, ?_⟩) hH ?_
  · intro w hSw; (try dsimp only at hSw); obtain ⟨_, a0, a1, a2, a3, a4, _, _, _, _, _, _, _, _, _, _, _⟩ := hSw.x; go_simp
  simp only [List.setIfInBounds_toArray, List.set_cons_zero, List.set_cons_succ]
  refine take_at (i := 1) (v := .string ⟨x.toArray⟩) rfl rfl (by kernel_rfl) (by kernel_rfl) (by kernel_rfl) (fun _ _ _ h => h) (Or.inl ⟨by rfl, ?_⟩) hH ?_
  · intro w hSw; (try dsimp only at hSw); obtain ⟨_, a0, a1, a2, a3, a4, _, _, _, _, _, _, _, _, _, _, _⟩ := hSw.x; go_simp
  simp only [List.setIfInBounds_toArray, List.set_cons_zero, List.set_cons_succ]
  refine take_at (i := 2) (v := .string ⟨U.toArray⟩) rfl rfl (by kernel_rfl) (by kernel_rfl) (by kernel_rfl) (fun _ _ _ h => h) (Or.inl ⟨by rfl, ?_⟩) hH ?_
  · intro w hSw; (try dsimp only at hSw); obtain ⟨_, a0, a1, a2, a3, a4, _, _, _, _, _, _, _, _, _, _, _⟩ := hSw.x; go_simp
  simp only [List.setIfInBounds_toArray, List.set_cons_zero, List.set_cons_succ]
  refine take_at (i := 3) (v := .pointer (some ⟨w.heap.size, 1, none⟩)) rfl rfl (by kernel_rfl) (by kernel_rfl) (by kernel_rfl) (fun _ _ _ h => h) (Or.inl ⟨by rfl, ?_⟩) hH ?_
  · intro w hSw; (try dsimp only at hSw); obtain ⟨_, a0, a1, a2, a3, a4, _, _, _, _, _, _, _, _, _, _, _⟩ := hSw.x; go_simp
  simp only [List.setIfInBounds_toArray, List.set_cons_zero, List.set_cons_succ]
  refine take_at (i := 4) (v := .string ⟨x.toArray⟩) rfl rfl (by kernel_rfl) (by kernel_rfl) (by kernel_rfl) (fun _ _ _ h => h) (Or.inl ⟨by rfl, ?_⟩) hH ?_
  · intro w hSw; (try dsimp only at hSw); obtain ⟨_, a0, a1, a2, a3, a4, _, _, _, _, _, _, _, _, _, _, _⟩ := hSw.x; go_simp
  simp only [List.setIfInBounds_toArray, List.set_cons_zero, List.set_cons_succ]
  refine wpAnyH_ready (rs := [5]) (by kernel_rfl) (by simp) ?_
  refine AllReadyH.cons rfl (fun K hK => ?_) AllReadyH.nil
  go_simp
  go_at_call 13
  refine (PL.out _).mono ?_
  rintro e w3 ⟨rfl, hb3⟩
  go_wp2_with fail
  refine hK.out _ _ (hH.next hb3) (fun hH3 => ?_)
  clear hK K
  clear hH
  refine take_at (i := 6) (v := .string ⟨U.toArray⟩) rfl rfl (by kernel_rfl) (by kernel_rfl) (by kernel_rfl) (fun _ _ _ h => h) (Or.inl ⟨by rfl, ?_⟩) hH3 ?_
  · intro w hSw; (try dsimp only at hSw); obtain ⟨_, a0, a1, a2, a3, a4, _, _, _, _, _, _, _, _, _, _, _⟩ := hSw.x; go_simp
  simp only [List.setIfInBounds_toArray, List.set_cons_zero, List.set_cons_succ]
  refine take_at (i := 7) (v := .bool B) rfl rfl (by kernel_rfl) (by kernel_rfl) (by kernel_rfl) (fun _ _ _ h => h) (Or.inl ⟨by rfl, ?_⟩) hH3 ?_
  · intro w hSw; (try dsimp only at hSw); obtain ⟨_, a0, a1, a2, a3, a4, _, _, _, _, _, _, _, _, _, _, _⟩ := hSw.x; go_simp
  simp only [List.setIfInBounds_toArray, List.set_cons_zero, List.set_cons_succ]
  refine wpAnyH_done (by kernel_rfl) ?_ _
  refine NoPanic.normal ?_
  have B9 := hH3.b
  go_wp2_with fail
  refine bodyPost_ret (v := .tuple #[.string ⟨U.toArray⟩, .bool B]) (by simp [results, Tryz.results35, go_sem] <;> omega) rfl (oneQ_mk _ (fun _ => rfl) (B9))
set_option maxHeartbeats 2000000 in
set_option maxRecDepth 1000000 in
theorem one_quoted (x : List UInt8) (ty n : Int) (s : ByteArray) (p a b : Int) (w : World) (hx : x.length ≤ 3000000) :
    Calls Tryz.prog 35 #[.agg #[.int .i64 2, .string ⟨x.toArray⟩, .int .i64 ty, .int .i64 n, .string s, .int .i64 p, .int .i64 a, .int .i64 b]] w (oneP ⟨2, x, ⟨ty, n, s⟩, p, a, b⟩ w.heap.size w) := by
  have NM : Hid (∀ w, Calls Tryz.prog 11 #[.string ⟨x.toArray⟩] w fun e w' => e = .returned (.bool (nmB x)) ∧ Below w.heap.size w w') := fun w => refName_any x w
  have QU : Hid (∀ w, Calls Tryz.prog 26 #[.string ⟨x.toArray⟩, .int .u8 34] w fun e w' => e = .returned (.string ⟨(34 :: (qdq x ++ [34])).toArray⟩) ∧ Below w.heap.size w w') := fun w => Quoted34_big x w hx
  have e0 : okT ⟨2, x, ⟨ty, n, s⟩, p, a, b⟩ = nmB x := rfl
  have e1 : pnT ⟨2, x, ⟨ty, n, s⟩, p, a, b⟩ = 34 :: (qdq x ++ [34]) := rfl
  unfold oneP
  rw [e0, e1]
  clear e0 e1
  generalize nmB x = B at *
  generalize 34 :: (qdq x ++ [34]) = U at *
  have n0 := B8.new w 37 (.int .i64 2) (.string ⟨x.toArray⟩) (.int .i64 ty) (.int .i64 n) (.string s) (.int .i64 p) (.int .i64 a) (.int .i64 b)
  go_enter Tryz.func35, Tryz.ntmps35
  go_wp2_with fail
  generalize w.alloc (.cells #[.int .i64 2, .string ⟨x.toArray⟩, .int .i64 ty, .int .i64 n, .string s, .int .i64 p, .int .i64 a, .int .i64 b] 37) = w2 at *
  refine wp_region_noPanic ?_
  refine wp_region_held_drew (S := fun w' => B8 w (.int .i64 2) (.string ⟨x.toArray⟩) (.int .i64 ty) (.int .i64 n) (.string s) (.int .i64 p) (.int .i64 a) (.int .i64 b) w') (by kernel_rfl) (n0.drew) (fun hH => ?_)
  refine take_at (i := 0) (v := .pointer (some ⟨w.heap.size, 1, none⟩)) rfl rfl (by kernel_rfl) (by kernel_rfl) (by kernel_rfl) (fun _ _ _ h => h) (Or.inl ⟨by rfl, ?_⟩) hH ?_
  · intro w hSw; (try dsimp only at hSw); obtain ⟨_, a0, a1, a2, a3, a4, _, _, _, _, _, _, _, _, _, _, _⟩ := hSw.x; go_simp
  simp only [List.setIfInBounds_toArray, List.set_cons_zero, List.set_cons_succ]
  refine take_at (i := 1) (v := .string ⟨x.toArray⟩) rfl rfl (by kernel_rfl) (by kernel_rfl) (by kernel_rfl) (fun _ _ _ h => h) (Or.inl ⟨by rfl, ?_⟩) hH ?_
  · intro w hSw; (try dsimp only at hSw); obtain ⟨_, a0, a1, a2, a3, a4, _, _, _, _, _, _, _, _, _, _, _⟩ := hSw.x; go_simp
  simp only [List.setIfInBounds_toArray, List.set_cons_zero, List.set_cons_succ]
  refine take_at (i := 3) (v := .pointer (some ⟨w.heap.size, 1, none⟩)) rfl rfl (by kernel_rfl) (by kernel_rfl) (by kernel_rfl) (fun _ _ _ h => h) (Or.inl ⟨by rfl, ?_⟩) hH ?_
  · intro w hSw; (try dsimp only at hSw); obtain ⟨_, a0, a1, a2, a3, a4, _, _, _, _, _, _, _, _, _, _, _⟩ := hSw.x; go_simp
  simp only [List.setIfInBounds_toArray, List.set_cons_zero, List.set_cons_succ]
  refine take_at (i := 4) (v := .string ⟨x.toArray⟩) rfl rfl (by kernel_rfl) (by kernel_rfl) (by kernel_rfl) (fun _ _ _ h => h) (Or.inl ⟨by rfl, ?_⟩) hH ?_
  · intro w hSw; (try dsimp only at hSw); obtain ⟨_, a0, a1, a2, a3, a4, _, _, _, _, _, _, _, _, _, _, _⟩ := hSw.x; go_simp
  simp only [List.setIfInBounds_toArray, List.set_cons_zero, List.set_cons_succ]
  refine wpAnyH_ready (rs := [2]) (by kernel_rfl) (by simp) ?_
  refine AllReadyH.cons rfl (fun K hK => ?_) AllReadyH.nil
  go_simp
  go_at_call 26
  refine (QU.out _).mono ?_
  rintro e w3 ⟨rfl, hb3⟩
  go_wp2_with fail
  refine hK.out _ _ (hH.next hb3) (fun hH3 => ?_)
  clear hK K
  clear hH
  refine wpAnyH_ready (rs := [5]) (by kernel_rfl) (by simp) ?_
  refine AllReadyH.cons rfl (fun K hK => ?_) AllReadyH.nil
  go_simp
  go_at_call 11
  refine (NM.out _).mono ?_
  rintro e w4 ⟨rfl, hb4⟩
  go_wp2_with fail
  refine hK.out _ _ (hH3.next hb4) (fun hH4 => ?_)
  clear hK K
  clear hH3
  refine take_at (i := 6) (v := .string ⟨U.toArray⟩) rfl rfl (by kernel_rfl) (by kernel_rfl) (by kernel_rfl) (fun _ _ _ h => h) (Or.inl ⟨by rfl, ?_⟩) hH4 ?_
  · intro w hSw; (try dsimp only at hSw); obtain ⟨_, a0, a1, a2, a3, a4, _, _, _, _, _, _, _, _, _, _, _⟩ := hSw.x; go_simp
  simp only [List.setIfInBounds_toArray, List.set_cons_zero, List.set_cons_succ]
  refine take_at (i := 7) (v := .bool B) rfl rfl (by kernel_rfl) (by kernel_rfl) (by kernel_rfl) (fun _ _ _ h => h) (Or.inl ⟨by rfl, ?_⟩) hH4 ?_
  · intro w hSw; (try dsimp only at hSw); obtain ⟨_, a0, a1, a2, a3, a4, _, _, _, _, _, _, _, _, _, _, _⟩ := hSw.x; go_simp
  simp only [List.setIfInBounds_toArray, List.set_cons_zero, List.set_cons_succ]
  refine wpAnyH_done (by kernel_rfl) ?_ _
  refine NoPanic.normal ?_
  have B9 := hH4.b
  go_wp2_with fail
  refine bodyPost_ret (v := .tuple #[.string ⟨U.toArray⟩, .bool B]) (by simp [results, Tryz.results35, go_sem] <;> omega) rfl (oneQ_mk _ (fun _ => rfl) (B9))
set_option maxHeartbeats 2000000 in
set_option maxRecDepth 1000000 in
theorem one_literal (x : List UInt8) (ty n : Int) (s : ByteArray) (p a b : Int) (w : World) (hn : fit n) (hs : s.size ≤ 9223372036854775807) (hP : Pw w) :
    Calls Tryz.prog 35 #[.agg #[.int .i64 3, .string ⟨x.toArray⟩, .int .i64 ty, .int .i64 n, .string s, .int .i64 p, .int .i64 a, .int .i64 b]] w (oneP ⟨3, x, ⟨ty, n, s⟩, p, a, b⟩ w.heap.size w) := by
  have e0 : okT ⟨3, x, ⟨ty, n, s⟩, p, a, b⟩ = cbL ty n s.data.toList := rfl
  have e1 : pnT ⟨3, x, ⟨ty, n, s⟩, p, a, b⟩ = prV ty n s := rfl
  unfold oneP
  rw [e0, e1]
  clear e0 e1
  have PR0 : ∀ w, Pw w → Calls Tryz.prog 56 #[.agg #[.int .i64 ty, .int .i64 n, .string s]] w fun e w' => e = .returned (pvV ty n s) ∧ Below w.heap.size w w' := fun w h => refPrint_any ty n s w hn hs h.l.t h.p h.l.m
  have B0 : Hid (∀ o1 o2, Below w.heap.size w ((w.alloc o1).alloc o2)) := fun o1 o2 => ((Below.refl _ w).alloc (Nat.le_refl _) o1).alloc (by simp) o2
  have HP : Hid (Pw w) := hP
  have hcb : cbL ty n s.data.toList = (decide (chk ty n s = 0) && (if ty = 1 ∨ ty = 2 then decide (0 ≤ n) else if ty = 3 then zl s.data.toList else false)) := by
    unfold cbL
    rw [← bytes_of s, zl_ib]
  clear hP
  by_cases hc : chk ty n s = 0
  · have PR : Hid (∀ w, Pw w → Calls Tryz.prog 56 #[.agg #[.int .i64 ty, .int .i64 n, .string s]] w fun e w' => e = .returned (.tuple #[.string ⟨(prV ty n s).toArray⟩, .int .i64 0]) ∧ Below w.heap.size w w') := fun w h => by
      have h1 := PR0 w h
      rw [show pvV ty n s = .tuple #[.string ⟨(prV ty n s).toArray⟩, .int .i64 0] from if_pos hc] at h1
      exact h1
    rw [decide_eq_true hc, Bool.true_and] at hcb
    have ZL : Hid (∀ w, Calls Tryz.prog 57 #[.string s] w fun e w' => e = .returned (.bool (zl s.data.toList)) ∧ Below w.heap.size w w') := fun w => by
      have h := zeroless_any s.data.toList w (by rw [Array.length_toList]; exact hs)
      rw [← bytes_of s] at h
      exact h
    generalize prV ty n s = U at *
    generalize cbL ty n s.data.toList = B at *
    generalize zl s.data.toList = z at *
    clear PR0 hc
    by_cases h1 : ty = 1
    · subst h1
      rw [if_pos (Or.inl rfl)] at hcb
      clear ZL
      by_cases h0 : 0 ≤ n
      · rw [decide_eq_true h0] at hcb
        subst hcb
        go_enter Tryz.func35, Tryz.ntmps35
        go_wp2_with fail
        refine (PR.out _ (HP.out.below (B0.out _ _))).mono ?_
        rintro e w1 ⟨rfl, hb1⟩
        have B1 := (B0.out _ _).trans (hb1.mono (B0.out _ _).size)
        obtain ⟨hc1, hf1⟩ := bcell hb1
        clear PR
        go_wp2_with fail
        refine bodyPost_ret (v := .tuple #[.string ⟨U.toArray⟩, .bool true]) (by simp [results, Tryz.results35, go_sem] <;> omega) rfl (oneQ_mk _ (fun _ => rfl) (B1))
      · rw [decide_eq_false h0] at hcb
        subst hcb
        go_enter Tryz.func35, Tryz.ntmps35
        go_wp2_with fail
        refine (PR.out _ (HP.out.below (B0.out _ _))).mono ?_
        rintro e w1 ⟨rfl, hb1⟩
        have B1 := (B0.out _ _).trans (hb1.mono (B0.out _ _).size)
        obtain ⟨hc1, hf1⟩ := bcell hb1
        clear PR
        go_wp2_with fail
        refine bodyPost_ret (v := .tuple #[.string ⟨U.toArray⟩, .bool false]) (by simp [results, Tryz.results35, go_sem] <;> omega) rfl (oneQ_mk _ ((fun h => by cases h)) (B1))
    by_cases h2 : ty = 2
    · subst h2
      rw [if_pos (Or.inr rfl)] at hcb
      clear ZL h1
      by_cases h0 : 0 ≤ n
      · rw [decide_eq_true h0] at hcb
        subst hcb
        go_enter Tryz.func35, Tryz.ntmps35
        go_wp2_with fail
        refine (PR.out _ (HP.out.below (B0.out _ _))).mono ?_
        rintro e w1 ⟨rfl, hb1⟩
        have B1 := (B0.out _ _).trans (hb1.mono (B0.out _ _).size)
        obtain ⟨hc1, hf1⟩ := bcell hb1
        clear PR
        go_wp2_with fail
        refine bodyPost_ret (v := .tuple #[.string ⟨U.toArray⟩, .bool true]) (by simp [results, Tryz.results35, go_sem] <;> omega) rfl (oneQ_mk _ (fun _ => rfl) (B1))
      · rw [decide_eq_false h0] at hcb
        subst hcb
        go_enter Tryz.func35, Tryz.ntmps35
        go_wp2_with fail
        refine (PR.out _ (HP.out.below (B0.out _ _))).mono ?_
        rintro e w1 ⟨rfl, hb1⟩
        have B1 := (B0.out _ _).trans (hb1.mono (B0.out _ _).size)
        obtain ⟨hc1, hf1⟩ := bcell hb1
        clear PR
        go_wp2_with fail
        refine bodyPost_ret (v := .tuple #[.string ⟨U.toArray⟩, .bool false]) (by simp [results, Tryz.results35, go_sem] <;> omega) rfl (oneQ_mk _ ((fun h => by cases h)) (B1))
    rw [if_neg (fun h => h.elim h1 h2)] at hcb
    by_cases h3 : ty = 3
    · subst h3
      rw [if_pos rfl] at hcb
      subst hcb
      clear h1 h2
      go_enter Tryz.func35, Tryz.ntmps35
      go_wp2_with fail
      refine (PR.out _ (HP.out.below (B0.out _ _))).mono ?_
      rintro e w1 ⟨rfl, hb1⟩
      have B1 := (B0.out _ _).trans (hb1.mono (B0.out _ _).size)
      obtain ⟨hc1, hf1⟩ := bcell hb1
      clear PR
      go_wp2_with fail
      refine (ZL.out _).mono ?_
      rintro e w2 ⟨rfl, hb2⟩
      have B2 := B1.trans (hb2.mono B1.size)
      go_wp2_with fail
      refine bodyPost_ret (v := .tuple #[.string ⟨U.toArray⟩, .bool B]) (by simp [results, Tryz.results35, go_sem] <;> omega) rfl (oneQ_mk _ (fun _ => rfl) (B2))
    · rw [if_neg h3] at hcb
      subst hcb
      have b1 : (ty == 1) = false := by rw [beq_eq_false_iff_ne]; exact h1
      have b2 : (ty == 2) = false := by rw [beq_eq_false_iff_ne]; exact h2
      have b3 : (ty == 3) = false := by rw [beq_eq_false_iff_ne]; exact h3
      clear ZL h1 h2 h3
      go_enter Tryz.func35, Tryz.ntmps35
      go_wp2_with fail
      refine (PR.out _ (HP.out.below (B0.out _ _))).mono ?_
      rintro e w1 ⟨rfl, hb1⟩
      have B1 := (B0.out _ _).trans (hb1.mono (B0.out _ _).size)
      obtain ⟨hc1, hf1⟩ := bcell hb1
      clear PR
      go_wp2_with fail
      refine bodyPost_ret (v := .tuple #[.string ⟨U.toArray⟩, .bool false]) (by simp [results, Tryz.results35, go_sem] <;> omega) rfl (oneQ_mk _ ((fun h => by cases h)) (B1))
  · have PR : Hid (∀ w, Pw w → Calls Tryz.prog 56 #[.agg #[.int .i64 ty, .int .i64 n, .string s]] w fun e w' => e = .returned (.tuple #[.string ⟨#[]⟩, .int .i64 (chk ty n s)]) ∧ Below w.heap.size w w') := fun w h => by
      have h1 := PR0 w h
      rw [show pvV ty n s = .tuple #[.string ⟨#[]⟩, .int .i64 (chk ty n s)] from if_neg hc] at h1
      exact h1
    rw [decide_eq_false hc, Bool.false_and] at hcb
    rw [hcb]
    have c0 : (chk ty n s == 0) = false := by rw [beq_eq_false_iff_ne]; exact hc
    have h1 : ty ≠ 1 := by
      rintro rfl
      apply hc
      unfold chk; simp
    have h2 : ty ≠ 2 := by
      rintro rfl
      apply hc
      unfold chk; simp
    have b1 : (ty == 1) = false := by rw [beq_eq_false_iff_ne]; exact h1
    have b2 : (ty == 2) = false := by rw [beq_eq_false_iff_ne]; exact h2
    generalize chk ty n s = c at *
    clear PR0 hc h1 h2 hcb
    go_enter Tryz.func35, Tryz.ntmps35
    go_wp2_with fail
    refine (PR.out _ (HP.out.below (B0.out _ _))).mono ?_
    rintro e w1 ⟨rfl, hb1⟩
    have B1 := (B0.out _ _).trans (hb1.mono (B0.out _ _).size)
    obtain ⟨hc1, hf1⟩ := bcell hb1
    clear PR
    go_wp2_with fail
    refine bodyPost_ret (v := .tuple #[.string ⟨#[]⟩, .bool false]) (by simp [results, Tryz.results35, go_sem] <;> omega) rfl (oneQ_mk _ ((fun h => by cases h)) (B1))
/-- a token's block and the signs -/
structure Sn (w : World) (x0 x1 x2 x3 x4 x5 x6 x7 v : Value) (k : Nat) (w' : World) : Prop where
  b : Below w.heap.size w w'
  x : R8 w' w.heap.size x0 x1 x2 x3 x4 x5 x6 x7
  c : w'.cell? ⟨w.heap.size + 1, k, none⟩ = some v
theorem Sn.drew {w : World} {x0 x1 x2 x3 x4 x5 x6 x7 v : Value} {k : Nat} {w' : World} (h : Sn w x0 x1 x2 x3 x4 x5 x6 x7 v k w') : Sn w x0 x1 x2 x3 x4 x5 x6 x7 v k w'.drew :=
  have hb := below_drewN (Below.refl _ w') 1
  ⟨h.b.trans (hb.mono h.b.size), h.x.below hb, (hb.cell (p := ⟨w.heap.size + 1, k, none⟩) (World.block_lt_of_cell? w' _ h.c)).trans h.c⟩
set_option maxHeartbeats 2000000 in
set_option maxRecDepth 1000000 in
theorem one_sign (x : List UInt8) (ty n : Int) (s : ByteArray) (p a b : Int) (w : World) :
    Calls Tryz.prog 35 #[.agg #[.int .i64 5, .string ⟨x.toArray⟩, .int .i64 ty, .int .i64 n, .string s, .int .i64 p, .int .i64 a, .int .i64 b]] w (oneP ⟨5, x, ⟨ty, n, s⟩, p, a, b⟩ w.heap.size w) := by
  have e0 : okT ⟨5, x, ⟨ty, n, s⟩, p, a, b⟩ = decide (x ∈ sgs) := sg_mem x
  have e1 : pnT ⟨5, x, ⟨ty, n, s⟩, p, a, b⟩ = x := rfl
  unfold oneP
  rw [e0, e1]
  clear e0 e1
  obtain ⟨D, hD⟩ : ∃ D, D = decide (x ∈ sgs) := ⟨_, rfl⟩
  rw [← hD]
  have HD : Hid (D = decide (x ∈ sgs)) := hD
  clear hD
  have SG : Hid (∀ w, Calls Tryz.prog 58 #[] w fun e w' => e = .returned (.slice (some ⟨w.heap.size, 0, none⟩) 16 16) ∧ w' = w.alloc (.cells (sgs.map fun v => Value.string ⟨v.toArray⟩).toArray 9)) := signs_any
  have hlen : sgs.length = 16 := by decide
  have n0 := B8.new w 37 (.int .i64 5) (.string ⟨x.toArray⟩) (.int .i64 ty) (.int .i64 n) (.string s) (.int .i64 p) (.int .i64 a) (.int .i64 b)
  have z0 : (w.alloc (.cells #[.int .i64 5, .string ⟨x.toArray⟩, .int .i64 ty, .int .i64 n, .string s, .int .i64 p, .int .i64 a, .int .i64 b] 37)).heap.size = w.heap.size + 1 := by simp
  go_enter Tryz.func35, Tryz.ntmps35
  go_wp2_with fail
  generalize w.alloc (.cells #[.int .i64 5, .string ⟨x.toArray⟩, .int .i64 ty, .int .i64 n, .string s, .int .i64 p, .int .i64 a, .int .i64 b] 37) = w2 at *
  refine (SG.out _).mono ?_
  rintro e w1 ⟨rfl, hw1⟩
  rw [z0]
  have hcell : ∀ (i : Nat) (v : List UInt8), sgs[i]? = some v → w1.cell? ⟨w.heap.size + 1, i, none⟩ = some (.string ⟨v.toArray⟩) := fun i v hv => by
    rw [hw1, ← z0, Joins.cell_of_block (heap_alloc_new w2 _) i]
    simp [hv]
  have m0 : B8 w (.int .i64 5) (.string ⟨x.toArray⟩) (.int .i64 ty) (.int .i64 n) (.string s) (.int .i64 p) (.int .i64 a) (.int .i64 b) w1 := n0.next (by rw [hw1]; exact (Below.refl _ w2).alloc (Nat.le_refl _) _)
  clear SG hw1 n0 z0
  go_wp2_with fail
  go_loopw [9] (fun s9 wr => ∃ (k : Nat), s9 = .int .i64 (k : Nat) ∧ k ≤ 16 ∧ Hid (∀ j v, j < k → sgs[j]? = some v → v ≠ x) ∧ Hid (Below w1.heap.size w1 wr)) (fun s9 _ => 16 - (intOf s9).toNat)
  case atStart => exact ⟨0, rfl, by omega, fun j v h => by omega, Below.refl _ _⟩
  case round =>
    obtain ⟨k, rfl, hk, ha, hbr⟩ := hrel
    by_cases hlt : k < 16
    · have hlti : (k : Int) < 16 := by omega
      obtain ⟨v, hv⟩ : ∃ v, sgs[k]? = some v := ⟨sgs[k]'(by rw [hlen]; exact hlt), List.getElem?_eq_getElem _⟩
      have hc := hcell k v hv
      have n0 : Sn w (.int .i64 5) (.string ⟨x.toArray⟩) (.int .i64 ty) (.int .i64 n) (.string s) (.int .i64 p) (.int .i64 a) (.int .i64 b) (.string ⟨v.toArray⟩) k wr := ⟨m0.b.trans (hbr.out.mono m0.b.size), m0.x.below hbr.out, (hbr.out.cell (p := ⟨w.heap.size + 1, k, none⟩) (World.block_lt_of_cell? w1 _ hc)).trans hc⟩
      have HB0 : Hid (Below w1.heap.size w1 wr) := hbr.out
      by_cases hvl : v = x
      · have hb : (v == x) = true := by rw [hvl]; simp
        have hD : D = true := by rw [HD.out]; exact decide_eq_true (by rw [← hvl]; exact List.mem_of_getElem? hv)
        subst hD
        clear hcell hv ha hvl hlen hc hbr HB0 m0
        go_wp2_with fail
        refine wp_region_noPanic ?_
        refine wp_region_held_drew (S := fun w' => Sn w (.int .i64 5) (.string ⟨x.toArray⟩) (.int .i64 ty) (.int .i64 n) (.string s) (.int .i64 p) (.int .i64 a) (.int .i64 b) (.string ⟨v.toArray⟩) k w') (by kernel_rfl) (n0.drew) (fun hH => ?_)
        refine take_at (i := 0) (v := .slice (some ⟨w.heap.size + 1, 0, none⟩) 16 16) rfl rfl (by kernel_rfl) (by kernel_rfl) (by kernel_rfl) (fun _ _ _ h => h) (Or.inl ⟨by rfl, ?_⟩) hH ?_
        · intro w hSw; (try dsimp only at hSw); obtain ⟨_, a0, a1, a2, a3, a4, _, _, _, _, _, _, _, _, _, _, _⟩ := hSw.x; have c9 := hSw.c; go_simp
        simp only [List.setIfInBounds_toArray, List.set_cons_zero, List.set_cons_succ]
        refine take_at (i := 1) (v := .int .i64 (k : Nat)) rfl rfl (by kernel_rfl) (by kernel_rfl) (by kernel_rfl) (fun _ _ _ h => h) (Or.inl ⟨by rfl, ?_⟩) hH ?_
        · intro w hSw; (try dsimp only at hSw); obtain ⟨_, a0, a1, a2, a3, a4, _, _, _, _, _, _, _, _, _, _, _⟩ := hSw.x; have c9 := hSw.c; go_simp
        simp only [List.setIfInBounds_toArray, List.set_cons_zero, List.set_cons_succ]
        refine take_at (i := 2) (v := .pointer (some ⟨w.heap.size + 1, k, none⟩)) rfl rfl (by kernel_rfl) (by kernel_rfl) (by kernel_rfl) (fun _ _ _ h => h) (Or.inl ⟨by rfl, ?_⟩) hH ?_
        · intro w hSw; (try dsimp only at hSw); obtain ⟨_, a0, a1, a2, a3, a4, _, _, _, _, _, _, _, _, _, _, _⟩ := hSw.x; have c9 := hSw.c; go_simp
        simp only [List.setIfInBounds_toArray, List.set_cons_zero, List.set_cons_succ]
        refine take_at (i := 3) (v := .string ⟨v.toArray⟩) rfl rfl (by kernel_rfl) (by kernel_rfl) (by kernel_rfl) (fun _ _ _ h => h) (Or.inl ⟨by rfl, ?_⟩) hH ?_
        · intro w hSw; (try dsimp only at hSw); obtain ⟨_, a0, a1, a2, a3, a4, _, _, _, _, _, _, _, _, _, _, _⟩ := hSw.x; have c9 := hSw.c; go_simp
        simp only [List.setIfInBounds_toArray, List.set_cons_zero, List.set_cons_succ]
        refine take_at (i := 4) (v := .pointer (some ⟨w.heap.size, 1, none⟩)) rfl rfl (by kernel_rfl) (by kernel_rfl) (by kernel_rfl) (fun _ _ _ h => h) (Or.inl ⟨by rfl, ?_⟩) hH ?_
        · intro w hSw; (try dsimp only at hSw); obtain ⟨_, a0, a1, a2, a3, a4, _, _, _, _, _, _, _, _, _, _, _⟩ := hSw.x; have c9 := hSw.c; go_simp
        simp only [List.setIfInBounds_toArray, List.set_cons_zero, List.set_cons_succ]
        refine take_at (i := 5) (v := .string ⟨x.toArray⟩) rfl rfl (by kernel_rfl) (by kernel_rfl) (by kernel_rfl) (fun _ _ _ h => h) (Or.inl ⟨by rfl, ?_⟩) hH ?_
        · intro w hSw; (try dsimp only at hSw); obtain ⟨_, a0, a1, a2, a3, a4, _, _, _, _, _, _, _, _, _, _, _⟩ := hSw.x; have c9 := hSw.c; go_simp
        simp only [List.setIfInBounds_toArray, List.set_cons_zero, List.set_cons_succ]
        refine take_at (i := 6) (v := .bool true) rfl rfl (by kernel_rfl) (by kernel_rfl) (by kernel_rfl) (fun _ _ _ h => h) (Or.inl ⟨by rfl, ?_⟩) hH ?_
        · intro w hSw; (try dsimp only at hSw); obtain ⟨_, a0, a1, a2, a3, a4, _, _, _, _, _, _, _, _, _, _, _⟩ := hSw.x; have c9 := hSw.c; go_simp
        simp only [List.setIfInBounds_toArray, List.set_cons_zero, List.set_cons_succ]
        refine wpAnyH_done (by kernel_rfl) ?_ _
        refine NoPanic.normal ?_
        have B9 := hH.b
        obtain ⟨_, a0, a1, a2, a3, a4, _, _, _, _, _, _, _, _, _, _, _⟩ := hH.x
        clear hH n0
        go_wp2_with fail
        refine bodyPost_ret (v := .tuple #[.string ⟨x.toArray⟩, .bool true]) (by simp [results, Tryz.results35, go_sem] <;> omega) rfl (oneQ_mk _ (fun _ => rfl) (B9))
      · have hb : (v == x) = false := by rw [beq_eq_false_iff_ne]; exact hvl
        have ha2 : Hid (∀ j v, j < k + 1 → sgs[j]? = some v → v ≠ x) := fun j u hj hu => by
          by_cases e : j = k
          · subst e; rw [hv] at hu; cases hu; exact hvl
          · exact ha.out j u (by omega) hu
        clear hcell hv ha hvl hlen hc hbr m0
        go_wp2_with fail
        refine wp_region_noPanic ?_
        refine wp_region_held_drew (S := fun w' => Sn w (.int .i64 5) (.string ⟨x.toArray⟩) (.int .i64 ty) (.int .i64 n) (.string s) (.int .i64 p) (.int .i64 a) (.int .i64 b) (.string ⟨v.toArray⟩) k w') (by kernel_rfl) (n0.drew) (fun hH => ?_)
        refine take_at (i := 0) (v := .slice (some ⟨w.heap.size + 1, 0, none⟩) 16 16) rfl rfl (by kernel_rfl) (by kernel_rfl) (by kernel_rfl) (fun _ _ _ h => h) (Or.inl ⟨by rfl, ?_⟩) hH ?_
        · intro w hSw; (try dsimp only at hSw); obtain ⟨_, a0, a1, a2, a3, a4, _, _, _, _, _, _, _, _, _, _, _⟩ := hSw.x; have c9 := hSw.c; go_simp
        simp only [List.setIfInBounds_toArray, List.set_cons_zero, List.set_cons_succ]
        refine take_at (i := 1) (v := .int .i64 (k : Nat)) rfl rfl (by kernel_rfl) (by kernel_rfl) (by kernel_rfl) (fun _ _ _ h => h) (Or.inl ⟨by rfl, ?_⟩) hH ?_
        · intro w hSw; (try dsimp only at hSw); obtain ⟨_, a0, a1, a2, a3, a4, _, _, _, _, _, _, _, _, _, _, _⟩ := hSw.x; have c9 := hSw.c; go_simp
        simp only [List.setIfInBounds_toArray, List.set_cons_zero, List.set_cons_succ]
        refine take_at (i := 2) (v := .pointer (some ⟨w.heap.size + 1, k, none⟩)) rfl rfl (by kernel_rfl) (by kernel_rfl) (by kernel_rfl) (fun _ _ _ h => h) (Or.inl ⟨by rfl, ?_⟩) hH ?_
        · intro w hSw; (try dsimp only at hSw); obtain ⟨_, a0, a1, a2, a3, a4, _, _, _, _, _, _, _, _, _, _, _⟩ := hSw.x; have c9 := hSw.c; go_simp
        simp only [List.setIfInBounds_toArray, List.set_cons_zero, List.set_cons_succ]
        refine take_at (i := 3) (v := .string ⟨v.toArray⟩) rfl rfl (by kernel_rfl) (by kernel_rfl) (by kernel_rfl) (fun _ _ _ h => h) (Or.inl ⟨by rfl, ?_⟩) hH ?_
        · intro w hSw; (try dsimp only at hSw); obtain ⟨_, a0, a1, a2, a3, a4, _, _, _, _, _, _, _, _, _, _, _⟩ := hSw.x; have c9 := hSw.c; go_simp
        simp only [List.setIfInBounds_toArray, List.set_cons_zero, List.set_cons_succ]
        refine take_at (i := 4) (v := .pointer (some ⟨w.heap.size, 1, none⟩)) rfl rfl (by kernel_rfl) (by kernel_rfl) (by kernel_rfl) (fun _ _ _ h => h) (Or.inl ⟨by rfl, ?_⟩) hH ?_
        · intro w hSw; (try dsimp only at hSw); obtain ⟨_, a0, a1, a2, a3, a4, _, _, _, _, _, _, _, _, _, _, _⟩ := hSw.x; have c9 := hSw.c; go_simp
        simp only [List.setIfInBounds_toArray, List.set_cons_zero, List.set_cons_succ]
        refine take_at (i := 5) (v := .string ⟨x.toArray⟩) rfl rfl (by kernel_rfl) (by kernel_rfl) (by kernel_rfl) (fun _ _ _ h => h) (Or.inl ⟨by rfl, ?_⟩) hH ?_
        · intro w hSw; (try dsimp only at hSw); obtain ⟨_, a0, a1, a2, a3, a4, _, _, _, _, _, _, _, _, _, _, _⟩ := hSw.x; have c9 := hSw.c; go_simp
        simp only [List.setIfInBounds_toArray, List.set_cons_zero, List.set_cons_succ]
        refine take_at (i := 6) (v := .bool false) rfl rfl (by kernel_rfl) (by kernel_rfl) (by kernel_rfl) (fun _ _ _ h => h) (Or.inl ⟨by rfl, ?_⟩) hH ?_
        · intro w hSw; (try dsimp only at hSw); obtain ⟨_, a0, a1, a2, a3, a4, _, _, _, _, _, _, _, _, _, _, _⟩ := hSw.x; have c9 := hSw.c; go_simp
        simp only [List.setIfInBounds_toArray, List.set_cons_zero, List.set_cons_succ]
        refine wpAnyH_done (by kernel_rfl) ?_ _
        refine NoPanic.normal ?_
        have HB1 : Hid (Below w1.heap.size w1 wr.drew) := HB0.out.trans ((below_drewN (Below.refl _ wr) 1).mono HB0.out.size)
        clear hH n0 HB0
        go_wp2_with fail
        go_roundw
        case rel => exact ⟨k + 1, by go_num, hlt, ha2, HB1⟩
        case measure => simp [intOf]; omega
    · have hlti : ¬ (k : Int) < 16 := by omega
      have hD : D = false := by
        rw [HD.out]
        exact decide_eq_false (fun h => by
          obtain ⟨j, hj⟩ := List.getElem?_of_mem h
          have hj2 := (List.getElem?_eq_some_iff.1 hj).1
          rw [hlen] at hj2
          exact ha.out j x (by omega) hj rfl)
      subst hD
      have B9 := m0.b.trans (hbr.out.mono m0.b.size)
      clear hcell ha hlen m0 hbr
      go_wp2_with fail
      refine bodyPost_ret (v := .tuple #[.string ⟨#[]⟩, .bool false]) (by simp [results, Tryz.results35, go_sem] <;> omega) rfl (oneQ_mk _ ((fun h => by cases h)) (B9))
set_option maxHeartbeats 2000000 in
set_option maxRecDepth 1000000 in
theorem one_other (k : Int) (x : List UInt8) (ty n : Int) (s : ByteArray) (p a b : Int) (w : World) (h1 : k ≠ 1) (h2 : k ≠ 2) (h3 : k ≠ 3) (h4 : k ≠ 4) (h5 : k ≠ 5) :
    Calls Tryz.prog 35 #[.agg #[.int .i64 k, .string ⟨x.toArray⟩, .int .i64 ty, .int .i64 n, .string s, .int .i64 p, .int .i64 a, .int .i64 b]] w (oneP ⟨k, x, ⟨ty, n, s⟩, p, a, b⟩ w.heap.size w) := by
  have e0 : okT ⟨k, x, ⟨ty, n, s⟩, p, a, b⟩ = false := by
    show (if k = 1 ∨ k = 4 then _ else if k = 2 then _ else if k = 3 then _ else if k = 5 then _ else false) = false
    rw [if_neg (fun h => h.elim h1 h4), if_neg h2, if_neg h3, if_neg h5]
  unfold oneP
  rw [e0]
  have b1 : (k == 1) = false := by rw [beq_eq_false_iff_ne]; exact h1
  have b2 : (k == 2) = false := by rw [beq_eq_false_iff_ne]; exact h2
  have b3 : (k == 3) = false := by rw [beq_eq_false_iff_ne]; exact h3
  have b4 : (k == 4) = false := by rw [beq_eq_false_iff_ne]; exact h4
  have b5 : (k == 5) = false := by rw [beq_eq_false_iff_ne]; exact h5
  have B0 : Hid (∀ o, Below w.heap.size w (w.alloc o)) := fun o => (Below.refl _ w).alloc (Nat.le_refl _) o
  clear e0 h1 h2 h3 h4 h5
  go_enter Tryz.func35, Tryz.ntmps35
  go_wp2_with fail
  refine bodyPost_ret (v := .tuple #[.string ⟨#[]⟩, .bool false]) (by simp [results, Tryz.results35, go_sem] <;> omega) rfl (oneQ_mk _ ((fun h => by cases h)) (B0.out _))
theorem one_any (t : Ti) (w : World) (hz : Sz t) (hx : t.text.length ≤ 3000000) (hP : Pw w) :
    Calls Tryz.prog 35 #[.agg #[.int .i64 t.kind, .string ⟨t.text.toArray⟩, .int .i64 t.v.ty, .int .i64 t.v.n, .string t.v.s, .int .i64 t.pos, .int .i64 t.line, .int .i64 t.col]] w (oneP t w.heap.size w) := by
  obtain ⟨hn, hs, _⟩ := hz
  obtain ⟨k, x, ⟨ty, n, s⟩, p, a, b⟩ := t
  by_cases h1 : k = 1
  · subst h1; exact one_word x ty n s p a b w
  by_cases h2 : k = 2
  · subst h2; exact one_quoted x ty n s p a b w hx
  by_cases h3 : k = 3
  · subst h3; exact one_literal x ty n s p a b w hn hs hP
  by_cases h4 : k = 4
  · subst h4; exact one_param x ty n s p a b w hx
  by_cases h5 : k = 5
  · subst h5; exact one_sign x ty n s p a b w
  · exact one_other k x ty n s p a b w h1 h2 h3 h4 h5
end Go.Proofs.YtfcolecglobcdaaGreatDoor
