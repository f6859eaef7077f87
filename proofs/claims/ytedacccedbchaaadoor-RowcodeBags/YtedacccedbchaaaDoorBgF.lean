/-
  The walk of lockstepref02.sorted: slices of bytes in their order.
-/
import Derived.Test.YtedacccedbchaaaDoorBgC
namespace Go.Proofs.YtedacccedbchaaaDoor
open Go.RowKit Go.Shelf

theorem take_at {P : Program} {ops : Array Oper} {Q : Exit → Act → World → Prop} {md : Region.Mode} {S : World → Prop} {i d : Nat} {oi : Oper} {v : Value} {fuel : Nat} {listed : Array Bool} {ts : Array Value} {df : List Deferred} {w : World} (hi : ops[i]? = some oi) (hd : oi.dst = some d)
    (hs : Region.noSelect ops = true) (hf : Region.free md ops listed i = true) (hr : (Region.ready md ops listed).contains i = true)
    (hQ : ∀ c a w, Q (.panic c) (a.put oi.dst v) w → Q (.panic c) a w) (hy : YieldsIf P ops S oi v ⟨ts, df⟩) (hS : S w)
    (h : wpAnyH P md ops Q S fuel (listed.setIfInBounds i true) ⟨ts.setIfInBounds d v, df⟩ w) : wpAnyH P md ops Q S (fuel + 1) listed ⟨ts, df⟩ w :=
  wpAnyH_take hi hs hf hr hQ hy hS (by rw [hd]; exact h)
theorem bvsIn.get {w : World} {P : Option Addr} {L : List Bv} (h : bvsIn w P L) {i : Nat} {b : Bv} (hb : L[i]? = some b) : ∃ g off, P = some ⟨g, off, none⟩ ∧ g < w.heap.size ∧ w.cell? ⟨g, off + i, none⟩ = some (.slice b.p b.l.length b.c) := by
  rcases h with rfl | ⟨g, off, h1, h2, h3⟩
  · simp at hb
  · exact ⟨g, off, h1, h2, h3 i b hb⟩
theorem byIn.of_below {w w' : World} {L : List Bv} (h : ∀ b ∈ L, byIn w b.p b.l) (hb : Below w.heap.size w w') : ∀ b ∈ L, byIn w' b.p b.l := fun b hm => (h b hm).below hb
theorem merge_left {A B : List Bv} {i k : Nat} {a b : Bv} (ha : A[i]? = some a) (hb : B[k]? = some b) (h : leV a b = true) : List.merge (A.drop i) (B.drop k) leV = a :: List.merge (A.drop (i + 1)) (B.drop k) leV := by
  rw [drop_at ha, drop_at hb, List.cons_merge_cons_pos _ _ _ h]
theorem merge_right {A B : List Bv} {i k : Nat} {a b : Bv} (ha : A[i]? = some a) (hb : B[k]? = some b) (h : leV a b = false) : List.merge (A.drop i) (B.drop k) leV = b :: List.merge (A.drop i) (B.drop (k + 1)) leV := by
  rw [drop_at ha, drop_at hb, List.cons_merge_cons_neg _ _ _ (by simp [h])]
theorem merge_end {A B : List Bv} {i k : Nat} {a : Bv} (ha : A[i]? = some a) (hb : B.drop k = []) : List.merge (A.drop i) (B.drop k) leV = a :: List.merge (A.drop (i + 1)) (B.drop k) leV := by
  rw [hb, List.merge_right, List.merge_right, drop_at ha]
theorem merge_end2 {A B : List Bv} {i k : Nat} {b : Bv} (hb : B[k]? = some b) (ha : A.drop i = []) : List.merge (A.drop i) (B.drop k) leV = b :: List.merge (A.drop i) (B.drop (k + 1)) leV := by
  rw [ha, List.nil_merge, List.nil_merge, drop_at hb]

set_option maxHeartbeats 2000000 in
theorem sorted_small (L : List Bv) (P : Option Addr) (C : Nat) (w : World) (h2 : L.length < 2) (hP : bvsIn w P L) (hc : L.length ≤ C) (hm : C ≤ 9223372036854775807) :
    Calls Tryd.prog 26 #[.slice P L.length C] w fun e w' => ∃ P' C' M, e = .returned (.slice P' (M : List Bv).length C') ∧ bvsIn w' P' M ∧ M.Perm L ∧ M.Pairwise (fun a b => leV a b = true) ∧ Below w.heap.size w w' ∧ M.length ≤ C' ∧ C' ≤ 9223372036854775807 := by
  have h2i : (L.length : Int) < 2 := by omega
  go_enter Tryd.func26, Tryd.ntmps26
  go_wp2_with fail
  go_ret
  refine ⟨P, C, L, rfl, hP, List.Perm.refl _, ?_, Below.refl _ _, hc, hm⟩
  match L, h2 with
  | [], _ => exact List.Pairwise.nil
  | [_], _ => exact List.pairwise_singleton _ _

set_option maxHeartbeats 8000000 in
set_option maxRecDepth 1000000 in
theorem sorted_step (L : List Bv) (g off C h : Nat) (w : World) (h2 : 2 ≤ L.length) (hh : h = L.length / 2) (hby : ∀ b ∈ L, byIn w b.p b.l) (hc : L.length ≤ C) (hm : C ≤ 9223372036854775807) (hl : L.length ≤ 65536)
    (SO : Hid (∀ W o m c, Below w.heap.size w W → (o = off ∧ m = h ∨ o = off + h ∧ m = L.length - h) → m ≤ c → c ≤ 9223372036854775807 → Calls Tryd.prog 26 #[.slice (some ⟨g, o, none⟩) m c] W fun e w' => ∃ P' C' M, e = .returned (.slice P' (M : List Bv).length C') ∧ bvsIn w' P' M ∧ M.Perm ((L.drop (o - off)).take m) ∧ M.Pairwise (fun a b => leV a b = true) ∧ Below W.heap.size W w' ∧ M.length ≤ C' ∧ C' ≤ 9223372036854775807)) :
    Calls Tryd.prog 26 #[.slice (some ⟨g, off, none⟩) L.length C] w fun e w' => ∃ P' C' M, e = .returned (.slice P' (M : List Bv).length C') ∧ bvsIn w' P' M ∧ M.Perm L ∧ M.Pairwise (fun a b => leV a b = true) ∧ Below w.heap.size w w' ∧ M.length ≤ C' ∧ C' ≤ 9223372036854775807 := by
  have h2i : ¬ (L.length : Int) < 2 := by omega
  have hq1 : (L.length : Int).tdiv 2 = (h : Int) := by rw [Int.tdiv_eq_ediv_of_nonneg (by omega)]; omega
  have hwr : IntKind.i64.wrap (h : Int) = (h : Int) := by simp [IntKind.wrap, IntKind.bits, IntKind.signed]; omega
  have hq2 : (L.length : Int) / 2 = (h : Int) := by omega
  have hle : (h : Int) ≤ (C : Int) := by omega
  have hll : (h : Int) ≤ (L.length : Int) := by omega
  have hlc : (L.length : Int) ≤ (C : Int) := by omega
  have hnc : ¬ C = h := by omega
  have HB : Hid (∀ b ∈ L, byIn w b.p b.l) := hby
  have HD : Hid (L.take h ++ L.drop h = L) := List.take_append_drop h L
  have HH : Hid (1 ≤ h ∧ h < L.length) := ⟨by omega, by omega⟩
  clear hby hh h2
  go_enter Tryd.func26, Tryd.ntmps26
  go_wp2_with fail
  refine wp_region_noPanic ?_
  refine wp_region_held_drew (S := fun w' => Below w.heap.size w w') (by kernel_rfl) (below_drewN (Below.refl _ w) 1) (fun hH0 => ?_)
  refine take_at (i := 0) (v := .slice (some ⟨g, off, none⟩) L.length C) rfl rfl (by kernel_rfl) (by kernel_rfl) (by kernel_rfl) (fun _ _ _ h => h) (Or.inl ⟨by rfl, ?_⟩) hH0 ?_
  · intro w hSw; (try dsimp only at hSw); go_simp
  simp only [List.setIfInBounds_toArray, List.set_cons_zero, List.set_cons_succ]
  refine take_at (i := 1) (v := .slice (some ⟨g, off, none⟩) L.length C) rfl rfl (by kernel_rfl) (by kernel_rfl) (by kernel_rfl) (fun _ _ _ h => h) (Or.inl ⟨by rfl, ?_⟩) hH0 ?_
  · intro w hSw; (try dsimp only at hSw); go_simp
  simp only [List.setIfInBounds_toArray, List.set_cons_zero, List.set_cons_succ]
  refine take_at (i := 2) (v := .int .i64 L.length) rfl rfl (by kernel_rfl) (by kernel_rfl) (by kernel_rfl) (fun _ _ _ h => h) (Or.inl ⟨by rfl, ?_⟩) hH0 ?_
  · intro w hSw; (try dsimp only at hSw); go_simp
  simp only [List.setIfInBounds_toArray, List.set_cons_zero, List.set_cons_succ]
  refine take_at (i := 3) (v := .int .i64 h) rfl rfl (by kernel_rfl) (by kernel_rfl) (by kernel_rfl) (fun _ _ _ h => h) (Or.inl ⟨by rfl, ?_⟩) hH0 ?_
  · intro w hSw; (try dsimp only at hSw); go_simp
  simp only [List.setIfInBounds_toArray, List.set_cons_zero, List.set_cons_succ]
  refine take_at (i := 4) (v := .slice (some ⟨g, off, none⟩) h C) rfl rfl (by kernel_rfl) (by kernel_rfl) (by kernel_rfl) (fun _ _ _ h => h) (Or.inl ⟨by rfl, ?_⟩) hH0 ?_
  · intro w hSw; (try dsimp only at hSw); go_simp
  simp only [List.setIfInBounds_toArray, List.set_cons_zero, List.set_cons_succ]
  refine take_at (i := 6) (v := .slice (some ⟨g, off, none⟩) L.length C) rfl rfl (by kernel_rfl) (by kernel_rfl) (by kernel_rfl) (fun _ _ _ h => h) (Or.inl ⟨by rfl, ?_⟩) hH0 ?_
  · intro w hSw; (try dsimp only at hSw); go_simp
  simp only [List.setIfInBounds_toArray, List.set_cons_zero, List.set_cons_succ]
  refine take_at (i := 7) (v := .slice (some ⟨g, off, none⟩) L.length C) rfl rfl (by kernel_rfl) (by kernel_rfl) (by kernel_rfl) (fun _ _ _ h => h) (Or.inl ⟨by rfl, ?_⟩) hH0 ?_
  · intro w hSw; (try dsimp only at hSw); go_simp
  simp only [List.setIfInBounds_toArray, List.set_cons_zero, List.set_cons_succ]
  refine take_at (i := 8) (v := .int .i64 L.length) rfl rfl (by kernel_rfl) (by kernel_rfl) (by kernel_rfl) (fun _ _ _ h => h) (Or.inl ⟨by rfl, ?_⟩) hH0 ?_
  · intro w hSw; (try dsimp only at hSw); go_simp
  simp only [List.setIfInBounds_toArray, List.set_cons_zero, List.set_cons_succ]
  refine take_at (i := 9) (v := .int .i64 h) rfl rfl (by kernel_rfl) (by kernel_rfl) (by kernel_rfl) (fun _ _ _ h => h) (Or.inl ⟨by rfl, ?_⟩) hH0 ?_
  · intro w hSw; (try dsimp only at hSw); go_simp
  simp only [List.setIfInBounds_toArray, List.set_cons_zero, List.set_cons_succ]
  refine take_at (i := 10) (v := .slice (some ⟨g, (off + h), none⟩) (L.length - h) (C - h)) rfl rfl (by kernel_rfl) (by kernel_rfl) (by kernel_rfl) (fun _ _ _ h => h) (Or.inl ⟨by rfl, ?_⟩) hH0 ?_
  · intro w hSw; (try dsimp only at hSw); go_simp
  simp only [List.setIfInBounds_toArray, List.set_cons_zero, List.set_cons_succ]
  obtain ⟨hh1, hh2⟩ := HH.out
  refine wpAnyH_ready (rs := [5]) (by kernel_rfl) (by simp) ?_
  refine AllReadyH.cons rfl (fun K hK => ?_) AllReadyH.nil
  go_simp
  go_at_call 26
  refine (SO.out _ off h C hH0 (Or.inl ⟨rfl, rfl⟩) (by omega) hm).mono ?_
  rintro e w5 ⟨P1, C1, A, rfl, hA1, hA2, hA3, hb5, hA4, hA5⟩
  go_wp2_with fail
  refine hK.out _ _ (Below.trans hH0 (hb5.mono hH0.size)) (fun hH1 => ?_)
  clear hK K
  refine wpAnyH_ready (rs := [11]) (by kernel_rfl) (by simp) ?_
  refine AllReadyH.cons rfl (fun K hK => ?_) AllReadyH.nil
  go_simp
  go_at_call 26
  refine (SO.out _ (off + h) (L.length - h) (C - h) hH1 (Or.inr ⟨rfl, rfl⟩) (by omega) (by omega)).mono ?_
  rintro e w6 ⟨P2, C2, B, rfl, hB1, hB2, hB3, hb6, hB4, hB5⟩
  go_wp2_with fail
  refine hK.out _ _ (Below.trans hH1 (hb6.mono hH1.size)) (fun hH2 => ?_)
  clear hK K
  refine take_at (i := 12) (v := .slice P1 A.length C1) rfl rfl (by kernel_rfl) (by kernel_rfl) (by kernel_rfl) (fun _ _ _ h => h) (Or.inl ⟨by rfl, ?_⟩) hH2 ?_
  · intro w hSw; (try dsimp only at hSw); go_simp
  simp only [List.setIfInBounds_toArray, List.set_cons_zero, List.set_cons_succ]
  refine take_at (i := 13) (v := .slice P2 B.length C2) rfl rfl (by kernel_rfl) (by kernel_rfl) (by kernel_rfl) (fun _ _ _ h => h) (Or.inl ⟨by rfl, ?_⟩) hH2 ?_
  · intro w hSw; (try dsimp only at hSw); go_simp
  simp only [List.setIfInBounds_toArray, List.set_cons_zero, List.set_cons_succ]
  refine wpAnyH_done (by kernel_rfl) ?_ _
  refine NoPanic.normal ?_
  replace hA1 := hA1.below hb6
  clear SO hb5 hb6 hH0 hH1
  have hab : A.length + B.length = L.length := by
    have e1 := hA2.length_eq
    have e2 := hB2.length_eq
    simp only [Nat.sub_self, List.drop_zero, List.length_take] at e1
    rw [show off + h - off = h by omega, List.length_take, List.length_drop] at e2
    omega
  have HP : Hid ((A ++ B).Perm L) := by
    show (A ++ B).Perm L
    have e1 := hA2
    have e2 := hB2
    rw [Nat.sub_self, List.drop_zero] at e1
    rw [show off + h - off = h by omega, List.take_of_length_le (by rw [List.length_drop]; exact Nat.le_refl _)] at e2
    exact (e1.append e2).trans (by rw [HD.out])
  have HS : Hid ((List.merge A B leV).Pairwise (fun a b => leV a b = true)) := List.pairwise_merge leV_trans leV_total A B hA3 hB3
  have HG : Hid (∀ b ∈ A ++ B, byIn w6 b.p b.l) := fun b hb => (HB.out b (HP.out.subset hb)).below hH2
  have HA : Hid (bvsIn w6 P1 A) := hA1
  have HBB : Hid (bvsIn w6 P2 B) := hB1
  have HW : Hid (Below w.heap.size w w6) := hH2
  clear hA1 hB1 hA2 hB2 hA3 hB3 HB HD HH hnc hq1 hq2 h2i hh1 hh2 hle hll hlc hwr
  go_wp2_with fail
  go_loopw [5, 6, 7] (fun sv si sk wr => ∃ (i k : Nat) (O : List Bv), si = .int .i64 i ∧ sk = .int .i64 k ∧ i ≤ A.length ∧ k ≤ B.length ∧ O.length = i + k ∧ Hid (O ++ List.merge (A.drop i) (B.drop k) leV = List.merge A B leV) ∧ Hid (ownsS wr w6.heap.size sv O) ∧ Hid (Below w6.heap.size w6 wr)) (fun _ si sk _ => A.length + B.length - (intOf si).toNat - (intOf sk).toNat)
  case atStart => exact ⟨0, 0, [], rfl, rfl, Nat.zero_le _, Nat.zero_le _, rfl, rfl, World.ownsRow_nil _ _ _ _, Below.refl _ _⟩
  case round =>
    obtain ⟨i, k, O, rfl, rfl, hi, hk, hO, hM, ho, hbr⟩ := hrel
    have bs := hbr.out.size
    by_cases hkb : k = B.length
    · subst hkb
      have hk1 : ((B.length : Int) == (B.length : Int)) = true := by simp
      by_cases hia : i < A.length
      · have hi1 : (i : Int) < (A.length : Int) := by omega
        obtain ⟨a, ha⟩ : ∃ x, A[i]? = some x := ⟨A[i], List.getElem?_eq_getElem hia⟩
        obtain ⟨ga, oa, rfl, hga, ca⟩ := HA.out.get ha
        have da := (hbr.out.cell (p := ⟨ga, oa + i, none⟩) hga).trans ca
        have hM2 : Hid ((O ++ [a]) ++ List.merge (A.drop (i + 1)) (B.drop B.length) leV = List.merge A B leV) := by
          show _ = _
          rw [← hM.out, merge_end ha (List.drop_length), List.append_assoc]; rfl
        have ho2 := ho.out
        clear ca ha hM ho
        go_wp2_with fail
        refine wp_region_noPanic ?_
        refine wp_region_held_drew (S := fun w' => Below wr.heap.size wr w') (by kernel_rfl) (below_drewN (Below.refl _ wr) 1) (fun hH0 => ?_)
        refine take_at (i := 0) (v := .int .i64 B.length) rfl rfl (by kernel_rfl) (by kernel_rfl) (by kernel_rfl) (fun _ _ _ h => h) (Or.inl ⟨by rfl, ?_⟩) hH0 ?_
        · intro w hSw; (try dsimp only at hSw); go_simp
        simp only [List.setIfInBounds_toArray, List.set_cons_zero, List.set_cons_succ]
        refine take_at (i := 1) (v := .slice P2 B.length C2) rfl rfl (by kernel_rfl) (by kernel_rfl) (by kernel_rfl) (fun _ _ _ h => h) (Or.inl ⟨by rfl, ?_⟩) hH0 ?_
        · intro w hSw; (try dsimp only at hSw); go_simp
        simp only [List.setIfInBounds_toArray, List.set_cons_zero, List.set_cons_succ]
        refine take_at (i := 2) (v := .int .i64 B.length) rfl rfl (by kernel_rfl) (by kernel_rfl) (by kernel_rfl) (fun _ _ _ h => h) (Or.inl ⟨by rfl, ?_⟩) hH0 ?_
        · intro w hSw; (try dsimp only at hSw); go_simp
        simp only [List.setIfInBounds_toArray, List.set_cons_zero, List.set_cons_succ]
        refine take_at (i := 3) (v := .bool true) rfl rfl (by kernel_rfl) (by kernel_rfl) (by kernel_rfl) (fun _ _ _ h => h) (Or.inl ⟨by rfl, ?_⟩) hH0 ?_
        · intro w hSw; (try dsimp only at hSw); go_simp
        simp only [List.setIfInBounds_toArray, List.set_cons_zero, List.set_cons_succ]
        refine take_at (i := 4) (v := .bool true) rfl rfl (by kernel_rfl) (by kernel_rfl) (by kernel_rfl) (fun _ _ _ h => h) (Or.inl ⟨by rfl, ?_⟩) hH0 ?_
        · intro w hSw; (try dsimp only at hSw); go_simp
        simp only [List.setIfInBounds_toArray, List.set_cons_zero, List.set_cons_succ]
        refine take_at (i := 5) (v := undef) rfl rfl (by kernel_rfl) (by kernel_rfl) (by kernel_rfl) (fun _ _ _ h => h) (Or.inr ⟨by rfl, rfl⟩) hH0 ?_
        simp only [List.setIfInBounds_toArray, List.set_cons_zero, List.set_cons_succ]
        refine take_at (i := 6) (v := undef) rfl rfl (by kernel_rfl) (by kernel_rfl) (by kernel_rfl) (fun _ _ _ h => h) (Or.inr ⟨by rfl, rfl⟩) hH0 ?_
        simp only [List.setIfInBounds_toArray, List.set_cons_zero, List.set_cons_succ]
        refine take_at (i := 7) (v := undef) rfl rfl (by kernel_rfl) (by kernel_rfl) (by kernel_rfl) (fun _ _ _ h => h) (Or.inr ⟨by rfl, rfl⟩) hH0 ?_
        simp only [List.setIfInBounds_toArray, List.set_cons_zero, List.set_cons_succ]
        refine take_at (i := 8) (v := undef) rfl rfl (by kernel_rfl) (by kernel_rfl) (by kernel_rfl) (fun _ _ _ h => h) (Or.inr ⟨by rfl, rfl⟩) hH0 ?_
        simp only [List.setIfInBounds_toArray, List.set_cons_zero, List.set_cons_succ]
        refine take_at (i := 9) (v := undef) rfl rfl (by kernel_rfl) (by kernel_rfl) (by kernel_rfl) (fun _ _ _ h => h) (Or.inr ⟨by rfl, rfl⟩) hH0 ?_
        simp only [List.setIfInBounds_toArray, List.set_cons_zero, List.set_cons_succ]
        refine take_at (i := 10) (v := undef) rfl rfl (by kernel_rfl) (by kernel_rfl) (by kernel_rfl) (fun _ _ _ h => h) (Or.inr ⟨by rfl, rfl⟩) hH0 ?_
        simp only [List.setIfInBounds_toArray, List.set_cons_zero, List.set_cons_succ]
        refine take_at (i := 11) (v := undef) rfl rfl (by kernel_rfl) (by kernel_rfl) (by kernel_rfl) (fun _ _ _ h => h) (Or.inr ⟨by rfl, rfl⟩) hH0 ?_
        simp only [List.setIfInBounds_toArray, List.set_cons_zero, List.set_cons_succ]
        refine take_at (i := 12) (v := undef) rfl rfl (by kernel_rfl) (by kernel_rfl) (by kernel_rfl) (fun _ _ _ h => h) (Or.inr ⟨by rfl, rfl⟩) hH0 ?_
        simp only [List.setIfInBounds_toArray, List.set_cons_zero, List.set_cons_succ]
        refine take_at (i := 13) (v := undef) rfl rfl (by kernel_rfl) (by kernel_rfl) (by kernel_rfl) (fun _ _ _ h => h) (Or.inr ⟨by rfl, rfl⟩) hH0 ?_
        simp only [List.setIfInBounds_toArray, List.set_cons_zero, List.set_cons_succ]
        refine take_at (i := 14) (v := undef) rfl rfl (by kernel_rfl) (by kernel_rfl) (by kernel_rfl) (fun _ _ _ h => h) (Or.inr ⟨by rfl, rfl⟩) hH0 ?_
        simp only [List.setIfInBounds_toArray, List.set_cons_zero, List.set_cons_succ]
        refine take_at (i := 15) (v := undef) rfl rfl (by kernel_rfl) (by kernel_rfl) (by kernel_rfl) (fun _ _ _ h => h) (Or.inr ⟨by rfl, rfl⟩) hH0 ?_
        simp only [List.setIfInBounds_toArray, List.set_cons_zero, List.set_cons_succ]
        refine take_at (i := 16) (v := undef) rfl rfl (by kernel_rfl) (by kernel_rfl) (by kernel_rfl) (fun _ _ _ h => h) (Or.inr ⟨by rfl, rfl⟩) hH0 ?_
        simp only [List.setIfInBounds_toArray, List.set_cons_zero, List.set_cons_succ]
        refine take_at (i := 17) (v := undef) rfl rfl (by kernel_rfl) (by kernel_rfl) (by kernel_rfl) (fun _ _ _ h => h) (Or.inr ⟨by rfl, rfl⟩) hH0 ?_
        simp only [List.setIfInBounds_toArray, List.set_cons_zero, List.set_cons_succ]
        refine take_at (i := 18) (v := undef) rfl rfl (by kernel_rfl) (by kernel_rfl) (by kernel_rfl) (fun _ _ _ h => h) (Or.inr ⟨by rfl, rfl⟩) hH0 ?_
        simp only [List.setIfInBounds_toArray, List.set_cons_zero, List.set_cons_succ]
        refine take_at (i := 19) (v := undef) rfl rfl (by kernel_rfl) (by kernel_rfl) (by kernel_rfl) (fun _ _ _ h => h) (Or.inr ⟨by rfl, rfl⟩) hH0 ?_
        simp only [List.setIfInBounds_toArray, List.set_cons_zero, List.set_cons_succ]
        refine take_at (i := 20) (v := undef) rfl rfl (by kernel_rfl) (by kernel_rfl) (by kernel_rfl) (fun _ _ _ h => h) (Or.inr ⟨by rfl, rfl⟩) hH0 ?_
        simp only [List.setIfInBounds_toArray, List.set_cons_zero, List.set_cons_succ]
        refine take_at (i := 21) (v := .bool true) rfl rfl (by kernel_rfl) (by kernel_rfl) (by kernel_rfl) (fun _ _ _ h => h) (Or.inl ⟨by rfl, ?_⟩) hH0 ?_
        · intro w hSw; (try dsimp only at hSw); go_simp
        simp only [List.setIfInBounds_toArray, List.set_cons_zero, List.set_cons_succ]
        refine wpAnyH_done (by kernel_rfl) ?_ _
        refine NoPanic.normal ?_
        have W8 : Below wr.heap.size wr wr.drew := below_drewN (Below.refl _ wr) 1
        have dc := (W8.cell (p := ⟨ga, oa + i, none⟩) (by first | exact hga2 | exact hgb2 | exact Nat.lt_of_lt_of_le hga bs | exact Nat.lt_of_lt_of_le hgb bs)).trans da
        have ho8 : ownsS wr.drew w6.heap.size _ O := own_below ho2 W8
        have bs8 : w6.heap.size ≤ wr.drew.heap.size := Nat.le_trans bs W8.size
        have B8 : Below w6.heap.size w6 wr.drew := hbr.out.trans (W8.mono bs)
        clear W8 da hH0
        try clear hH1
        generalize wr.drew = w8 at *
        go_wp2_with (at_builtin; refine app_s rfl (.tmp 56) (.tmp 61) rfl w6.heap.size _ O a rfl ho8 rfl (by omega) bs8 ?_; intro v9 w9 ho9 hg9)
        go_roundw
        case rel => exact ⟨i + 1, B.length, O ++ [a], by go_num, rfl, by omega, by omega, by simp; omega, hM2, ho9, B8.trans (grown_below hg9 bs8 (fun g h => (World.ownsRow.lt ho8 g h).1))⟩
        case measure => simp [intOf]; omega
      · have hi1 : ¬ (i : Int) < (A.length : Int) := by omega
        have hi0 : i = A.length := by omega
        subst hi0
        go_wp2_with fail
        go_ret
        have e := hM.out
        rw [List.drop_length, List.drop_length, List.nil_merge, List.append_nil] at e
        obtain ⟨P', C', hv, _, hc1, hc2⟩ := row_form ho.out
        have ho2 := ho.out
        rw [hv] at ho2 ⊢
        refine ⟨P', C', O, rfl, ho2.bvs.2, ?_, ?_, HW.out.trans (hbr.out.mono HW.out.size), hc1, hc2⟩
        · rw [e]; exact (List.merge_perm_append leV).trans HP.out
        · rw [e]; exact HS.out
    · have hk1 : ((k : Int) == (B.length : Int)) = false := by rw [beq_eq_false_iff_ne]; omega
      have hk2 : (k : Int) < (B.length : Int) := by omega
      obtain ⟨b, hb⟩ : ∃ x, B[k]? = some x := ⟨B[k]'(by omega), List.getElem?_eq_getElem (by omega)⟩
      obtain ⟨gb, ob, rfl, hgb, cb⟩ := HBB.out.get hb
      have db := (hbr.out.cell (p := ⟨gb, ob + k, none⟩) hgb).trans cb
      have hkl : k + 1 ≤ B.length := by omega
      by_cases hia : i < A.length
      · have hi1 : (i : Int) < (A.length : Int) := by omega
        obtain ⟨a, ha⟩ : ∃ x, A[i]? = some x := ⟨A[i], List.getElem?_eq_getElem hia⟩
        obtain ⟨ga, oa, rfl, hga, ca⟩ := HA.out.get ha
        have da := (hbr.out.cell (p := ⟨ga, oa + i, none⟩) hga).trans ca
        have hya := HG.out a (List.mem_append_left _ (List.mem_of_getElem? ha))
        have hyb := HG.out b (List.mem_append_right _ (List.mem_of_getElem? hb))
        have LS : Hid (∀ W, Below wr.heap.size wr W → Calls Tryd.prog 29 #[.slice b.p b.l.length b.c, .slice a.p a.l.length a.c] W fun e w' => e = .returned (.bool (!leV a b)) ∧ w' = W) := fun W hW => less_any b.c a.c ((hyb.below hbr.out).below hW) ((hya.below hbr.out).below hW)
        have T0 : ls2 wr ⟨ga, oa + i, none⟩ ⟨gb, ob + k, none⟩ (.slice a.p a.l.length a.c) (.slice b.p b.l.length b.c) wr := ⟨Below.refl _ _, da, db⟩
        have hga2 : ga < wr.heap.size := Nat.lt_of_lt_of_le hga bs
        have hgb2 : gb < wr.heap.size := Nat.lt_of_lt_of_le hgb bs
        have T1 := T0.up hga2 hgb2 (below_drewN (Below.refl _ wr) 1)
        by_cases hle : leV a b = true
        · have hM2 : Hid ((O ++ [a]) ++ List.merge (A.drop (i + 1)) (B.drop k) leV = List.merge A B leV) := by
            show _ = _
            rw [← hM.out, merge_left ha hb hle, List.append_assoc]; rfl
          rw [hle] at LS
          have ho2 := ho.out
          clear ca cb ha hb hM ho hya hyb T0 hle
          go_wp2_with fail
          refine wp_region_noPanic ?_
          refine wp_region_held_drew (S := fun w' => Below wr.heap.size wr w' ∧ w'.cell? ⟨ga, oa + i, none⟩ = some (.slice a.p a.l.length a.c) ∧ w'.cell? ⟨gb, ob + k, none⟩ = some (.slice b.p b.l.length b.c)) (by kernel_rfl) (T1) (fun hH0 => ?_)
          refine take_at (i := 0) (v := .int .i64 k) rfl rfl (by kernel_rfl) (by kernel_rfl) (by kernel_rfl) (fun _ _ _ h => h) (Or.inl ⟨by rfl, ?_⟩) hH0 ?_
          · intro w hSw; (try dsimp only at hSw); go_simp
          simp only [List.setIfInBounds_toArray, List.set_cons_zero, List.set_cons_succ]
          refine take_at (i := 1) (v := .slice (some ⟨gb, ob, none⟩) B.length C2) rfl rfl (by kernel_rfl) (by kernel_rfl) (by kernel_rfl) (fun _ _ _ h => h) (Or.inl ⟨by rfl, ?_⟩) hH0 ?_
          · intro w hSw; (try dsimp only at hSw); go_simp
          simp only [List.setIfInBounds_toArray, List.set_cons_zero, List.set_cons_succ]
          refine take_at (i := 2) (v := .int .i64 B.length) rfl rfl (by kernel_rfl) (by kernel_rfl) (by kernel_rfl) (fun _ _ _ h => h) (Or.inl ⟨by rfl, ?_⟩) hH0 ?_
          · intro w hSw; (try dsimp only at hSw); go_simp
          simp only [List.setIfInBounds_toArray, List.set_cons_zero, List.set_cons_succ]
          refine take_at (i := 3) (v := .bool false) rfl rfl (by kernel_rfl) (by kernel_rfl) (by kernel_rfl) (fun _ _ _ h => h) (Or.inl ⟨by rfl, ?_⟩) hH0 ?_
          · intro w hSw; (try dsimp only at hSw); go_simp
          simp only [List.setIfInBounds_toArray, List.set_cons_zero, List.set_cons_succ]
          refine take_at (i := 4) (v := .bool false) rfl rfl (by kernel_rfl) (by kernel_rfl) (by kernel_rfl) (fun _ _ _ h => h) (Or.inl ⟨by rfl, ?_⟩) hH0 ?_
          · intro w hSw; (try dsimp only at hSw); go_simp
          simp only [List.setIfInBounds_toArray, List.set_cons_zero, List.set_cons_succ]
          refine take_at (i := 5) (v := .int .i64 i) rfl rfl (by kernel_rfl) (by kernel_rfl) (by kernel_rfl) (fun _ _ _ h => h) (Or.inl ⟨by rfl, ?_⟩) hH0 ?_
          · intro w hSw; (try dsimp only at hSw); go_simp
          simp only [List.setIfInBounds_toArray, List.set_cons_zero, List.set_cons_succ]
          refine take_at (i := 6) (v := .slice (some ⟨ga, oa, none⟩) A.length C1) rfl rfl (by kernel_rfl) (by kernel_rfl) (by kernel_rfl) (fun _ _ _ h => h) (Or.inl ⟨by rfl, ?_⟩) hH0 ?_
          · intro w hSw; (try dsimp only at hSw); go_simp
          simp only [List.setIfInBounds_toArray, List.set_cons_zero, List.set_cons_succ]
          refine take_at (i := 7) (v := .int .i64 A.length) rfl rfl (by kernel_rfl) (by kernel_rfl) (by kernel_rfl) (fun _ _ _ h => h) (Or.inl ⟨by rfl, ?_⟩) hH0 ?_
          · intro w hSw; (try dsimp only at hSw); go_simp
          simp only [List.setIfInBounds_toArray, List.set_cons_zero, List.set_cons_succ]
          refine take_at (i := 8) (v := .bool true) rfl rfl (by kernel_rfl) (by kernel_rfl) (by kernel_rfl) (fun _ _ _ h => h) (Or.inl ⟨by rfl, ?_⟩) hH0 ?_
          · intro w hSw; (try dsimp only at hSw); go_simp
          simp only [List.setIfInBounds_toArray, List.set_cons_zero, List.set_cons_succ]
          refine take_at (i := 9) (v := .bool true) rfl rfl (by kernel_rfl) (by kernel_rfl) (by kernel_rfl) (fun _ _ _ h => h) (Or.inl ⟨by rfl, ?_⟩) hH0 ?_
          · intro w hSw; (try dsimp only at hSw); go_simp
          simp only [List.setIfInBounds_toArray, List.set_cons_zero, List.set_cons_succ]
          refine take_at (i := 10) (v := .slice (some ⟨gb, ob, none⟩) B.length C2) rfl rfl (by kernel_rfl) (by kernel_rfl) (by kernel_rfl) (fun _ _ _ h => h) (Or.inl ⟨by rfl, ?_⟩) hH0 ?_
          · intro w hSw; (try dsimp only at hSw); go_simp
          simp only [List.setIfInBounds_toArray, List.set_cons_zero, List.set_cons_succ]
          refine take_at (i := 11) (v := .int .i64 k) rfl rfl (by kernel_rfl) (by kernel_rfl) (by kernel_rfl) (fun _ _ _ h => h) (Or.inl ⟨by rfl, ?_⟩) hH0 ?_
          · intro w hSw; (try dsimp only at hSw); go_simp
          simp only [List.setIfInBounds_toArray, List.set_cons_zero, List.set_cons_succ]
          refine take_at (i := 12) (v := .pointer (some ⟨gb, ob + k, none⟩)) rfl rfl (by kernel_rfl) (by kernel_rfl) (by kernel_rfl) (fun _ _ _ h => h) (Or.inl ⟨by rfl, ?_⟩) hH0 ?_
          · intro w hSw; (try dsimp only at hSw); go_simp
          simp only [List.setIfInBounds_toArray, List.set_cons_zero, List.set_cons_succ]
          refine take_at (i := 13) (v := .slice b.p b.l.length b.c) rfl rfl (by kernel_rfl) (by kernel_rfl) (by kernel_rfl) (fun _ _ _ h => h) (Or.inl ⟨by rfl, ?_⟩) hH0 ?_
          · intro w hSw; (try dsimp only at hSw); obtain ⟨hS1, hS2, hS3⟩ := hSw; go_simp
          simp only [List.setIfInBounds_toArray, List.set_cons_zero, List.set_cons_succ]
          refine take_at (i := 14) (v := .slice (some ⟨ga, oa, none⟩) A.length C1) rfl rfl (by kernel_rfl) (by kernel_rfl) (by kernel_rfl) (fun _ _ _ h => h) (Or.inl ⟨by rfl, ?_⟩) hH0 ?_
          · intro w hSw; (try dsimp only at hSw); go_simp
          simp only [List.setIfInBounds_toArray, List.set_cons_zero, List.set_cons_succ]
          refine take_at (i := 15) (v := .int .i64 i) rfl rfl (by kernel_rfl) (by kernel_rfl) (by kernel_rfl) (fun _ _ _ h => h) (Or.inl ⟨by rfl, ?_⟩) hH0 ?_
          · intro w hSw; (try dsimp only at hSw); go_simp
          simp only [List.setIfInBounds_toArray, List.set_cons_zero, List.set_cons_succ]
          refine take_at (i := 16) (v := .pointer (some ⟨ga, oa + i, none⟩)) rfl rfl (by kernel_rfl) (by kernel_rfl) (by kernel_rfl) (fun _ _ _ h => h) (Or.inl ⟨by rfl, ?_⟩) hH0 ?_
          · intro w hSw; (try dsimp only at hSw); go_simp
          simp only [List.setIfInBounds_toArray, List.set_cons_zero, List.set_cons_succ]
          refine take_at (i := 17) (v := .slice a.p a.l.length a.c) rfl rfl (by kernel_rfl) (by kernel_rfl) (by kernel_rfl) (fun _ _ _ h => h) (Or.inl ⟨by rfl, ?_⟩) hH0 ?_
          · intro w hSw; (try dsimp only at hSw); obtain ⟨hS1, hS2, hS3⟩ := hSw; go_simp
          simp only [List.setIfInBounds_toArray, List.set_cons_zero, List.set_cons_succ]
          refine wpAnyH_ready (rs := [18]) (by kernel_rfl) (by simp) ?_
          refine AllReadyH.cons rfl (fun K hK => ?_) AllReadyH.nil
          go_simp
          go_at_call 29
          refine (LS.out _ hH0.1).mono ?_
          rintro e w8 ⟨rfl, hw8⟩
          go_wp2_with fail
          refine hK.out _ _ (by first | exact hH0 | (rw [hw8]; exact hH0)) (fun hH1 => ?_)
          clear hK K
          refine take_at (i := 19) (v := .bool true) rfl rfl (by kernel_rfl) (by kernel_rfl) (by kernel_rfl) (fun _ _ _ h => h) (Or.inl ⟨by rfl, ?_⟩) hH1 ?_
          · intro w hSw; (try dsimp only at hSw); go_simp
          simp only [List.setIfInBounds_toArray, List.set_cons_zero, List.set_cons_succ]
          refine take_at (i := 20) (v := .bool true) rfl rfl (by kernel_rfl) (by kernel_rfl) (by kernel_rfl) (fun _ _ _ h => h) (Or.inl ⟨by rfl, ?_⟩) hH1 ?_
          · intro w hSw; (try dsimp only at hSw); go_simp
          simp only [List.setIfInBounds_toArray, List.set_cons_zero, List.set_cons_succ]
          refine take_at (i := 21) (v := .bool true) rfl rfl (by kernel_rfl) (by kernel_rfl) (by kernel_rfl) (fun _ _ _ h => h) (Or.inl ⟨by rfl, ?_⟩) hH1 ?_
          · intro w hSw; (try dsimp only at hSw); go_simp
          simp only [List.setIfInBounds_toArray, List.set_cons_zero, List.set_cons_succ]
          refine wpAnyH_done (by kernel_rfl) ?_ _
          refine NoPanic.normal ?_
          try subst hw8
          have W8 : Below wr.heap.size wr wr.drew := below_drewN (Below.refl _ wr) 1
          have dc := (W8.cell (p := ⟨ga, oa + i, none⟩) (by first | exact hga2 | exact hgb2 | exact Nat.lt_of_lt_of_le hga bs | exact Nat.lt_of_lt_of_le hgb bs)).trans da
          have ho8 : ownsS wr.drew w6.heap.size _ O := own_below ho2 W8
          have bs8 : w6.heap.size ≤ wr.drew.heap.size := Nat.le_trans bs W8.size
          have B8 : Below w6.heap.size w6 wr.drew := hbr.out.trans (W8.mono bs)
          clear W8 da hH0
          try clear hH1
          generalize wr.drew = w8 at *
          go_wp2_with (at_builtin; refine app_s rfl (.tmp 56) (.tmp 61) rfl w6.heap.size _ O a rfl ho8 rfl (by omega) bs8 ?_; intro v9 w9 ho9 hg9)
          go_roundw
          case rel => exact ⟨i + 1, k, O ++ [a], by go_num, rfl, by omega, by omega, by simp; omega, hM2, ho9, B8.trans (grown_below hg9 bs8 (fun g h => (World.ownsRow.lt ho8 g h).1))⟩
          case measure => simp [intOf]; omega
        · have hle : leV a b = false := by simpa using hle
          have hM2 : Hid ((O ++ [b]) ++ List.merge (A.drop i) (B.drop (k + 1)) leV = List.merge A B leV) := by
            show _ = _
            rw [← hM.out, merge_right ha hb hle, List.append_assoc]; rfl
          rw [hle] at LS
          have ho2 := ho.out
          clear ca cb ha hb hM ho hya hyb T0 hle
          go_wp2_with fail
          refine wp_region_noPanic ?_
          refine wp_region_held_drew (S := fun w' => Below wr.heap.size wr w' ∧ w'.cell? ⟨ga, oa + i, none⟩ = some (.slice a.p a.l.length a.c) ∧ w'.cell? ⟨gb, ob + k, none⟩ = some (.slice b.p b.l.length b.c)) (by kernel_rfl) (T1) (fun hH0 => ?_)
          refine take_at (i := 0) (v := .int .i64 k) rfl rfl (by kernel_rfl) (by kernel_rfl) (by kernel_rfl) (fun _ _ _ h => h) (Or.inl ⟨by rfl, ?_⟩) hH0 ?_
          · intro w hSw; (try dsimp only at hSw); go_simp
          simp only [List.setIfInBounds_toArray, List.set_cons_zero, List.set_cons_succ]
          refine take_at (i := 1) (v := .slice (some ⟨gb, ob, none⟩) B.length C2) rfl rfl (by kernel_rfl) (by kernel_rfl) (by kernel_rfl) (fun _ _ _ h => h) (Or.inl ⟨by rfl, ?_⟩) hH0 ?_
          · intro w hSw; (try dsimp only at hSw); go_simp
          simp only [List.setIfInBounds_toArray, List.set_cons_zero, List.set_cons_succ]
          refine take_at (i := 2) (v := .int .i64 B.length) rfl rfl (by kernel_rfl) (by kernel_rfl) (by kernel_rfl) (fun _ _ _ h => h) (Or.inl ⟨by rfl, ?_⟩) hH0 ?_
          · intro w hSw; (try dsimp only at hSw); go_simp
          simp only [List.setIfInBounds_toArray, List.set_cons_zero, List.set_cons_succ]
          refine take_at (i := 3) (v := .bool false) rfl rfl (by kernel_rfl) (by kernel_rfl) (by kernel_rfl) (fun _ _ _ h => h) (Or.inl ⟨by rfl, ?_⟩) hH0 ?_
          · intro w hSw; (try dsimp only at hSw); go_simp
          simp only [List.setIfInBounds_toArray, List.set_cons_zero, List.set_cons_succ]
          refine take_at (i := 4) (v := .bool false) rfl rfl (by kernel_rfl) (by kernel_rfl) (by kernel_rfl) (fun _ _ _ h => h) (Or.inl ⟨by rfl, ?_⟩) hH0 ?_
          · intro w hSw; (try dsimp only at hSw); go_simp
          simp only [List.setIfInBounds_toArray, List.set_cons_zero, List.set_cons_succ]
          refine take_at (i := 5) (v := .int .i64 i) rfl rfl (by kernel_rfl) (by kernel_rfl) (by kernel_rfl) (fun _ _ _ h => h) (Or.inl ⟨by rfl, ?_⟩) hH0 ?_
          · intro w hSw; (try dsimp only at hSw); go_simp
          simp only [List.setIfInBounds_toArray, List.set_cons_zero, List.set_cons_succ]
          refine take_at (i := 6) (v := .slice (some ⟨ga, oa, none⟩) A.length C1) rfl rfl (by kernel_rfl) (by kernel_rfl) (by kernel_rfl) (fun _ _ _ h => h) (Or.inl ⟨by rfl, ?_⟩) hH0 ?_
          · intro w hSw; (try dsimp only at hSw); go_simp
          simp only [List.setIfInBounds_toArray, List.set_cons_zero, List.set_cons_succ]
          refine take_at (i := 7) (v := .int .i64 A.length) rfl rfl (by kernel_rfl) (by kernel_rfl) (by kernel_rfl) (fun _ _ _ h => h) (Or.inl ⟨by rfl, ?_⟩) hH0 ?_
          · intro w hSw; (try dsimp only at hSw); go_simp
          simp only [List.setIfInBounds_toArray, List.set_cons_zero, List.set_cons_succ]
          refine take_at (i := 8) (v := .bool true) rfl rfl (by kernel_rfl) (by kernel_rfl) (by kernel_rfl) (fun _ _ _ h => h) (Or.inl ⟨by rfl, ?_⟩) hH0 ?_
          · intro w hSw; (try dsimp only at hSw); go_simp
          simp only [List.setIfInBounds_toArray, List.set_cons_zero, List.set_cons_succ]
          refine take_at (i := 9) (v := .bool true) rfl rfl (by kernel_rfl) (by kernel_rfl) (by kernel_rfl) (fun _ _ _ h => h) (Or.inl ⟨by rfl, ?_⟩) hH0 ?_
          · intro w hSw; (try dsimp only at hSw); go_simp
          simp only [List.setIfInBounds_toArray, List.set_cons_zero, List.set_cons_succ]
          refine take_at (i := 10) (v := .slice (some ⟨gb, ob, none⟩) B.length C2) rfl rfl (by kernel_rfl) (by kernel_rfl) (by kernel_rfl) (fun _ _ _ h => h) (Or.inl ⟨by rfl, ?_⟩) hH0 ?_
          · intro w hSw; (try dsimp only at hSw); go_simp
          simp only [List.setIfInBounds_toArray, List.set_cons_zero, List.set_cons_succ]
          refine take_at (i := 11) (v := .int .i64 k) rfl rfl (by kernel_rfl) (by kernel_rfl) (by kernel_rfl) (fun _ _ _ h => h) (Or.inl ⟨by rfl, ?_⟩) hH0 ?_
          · intro w hSw; (try dsimp only at hSw); go_simp
          simp only [List.setIfInBounds_toArray, List.set_cons_zero, List.set_cons_succ]
          refine take_at (i := 12) (v := .pointer (some ⟨gb, ob + k, none⟩)) rfl rfl (by kernel_rfl) (by kernel_rfl) (by kernel_rfl) (fun _ _ _ h => h) (Or.inl ⟨by rfl, ?_⟩) hH0 ?_
          · intro w hSw; (try dsimp only at hSw); go_simp
          simp only [List.setIfInBounds_toArray, List.set_cons_zero, List.set_cons_succ]
          refine take_at (i := 13) (v := .slice b.p b.l.length b.c) rfl rfl (by kernel_rfl) (by kernel_rfl) (by kernel_rfl) (fun _ _ _ h => h) (Or.inl ⟨by rfl, ?_⟩) hH0 ?_
          · intro w hSw; (try dsimp only at hSw); obtain ⟨hS1, hS2, hS3⟩ := hSw; go_simp
          simp only [List.setIfInBounds_toArray, List.set_cons_zero, List.set_cons_succ]
          refine take_at (i := 14) (v := .slice (some ⟨ga, oa, none⟩) A.length C1) rfl rfl (by kernel_rfl) (by kernel_rfl) (by kernel_rfl) (fun _ _ _ h => h) (Or.inl ⟨by rfl, ?_⟩) hH0 ?_
          · intro w hSw; (try dsimp only at hSw); go_simp
          simp only [List.setIfInBounds_toArray, List.set_cons_zero, List.set_cons_succ]
          refine take_at (i := 15) (v := .int .i64 i) rfl rfl (by kernel_rfl) (by kernel_rfl) (by kernel_rfl) (fun _ _ _ h => h) (Or.inl ⟨by rfl, ?_⟩) hH0 ?_
          · intro w hSw; (try dsimp only at hSw); go_simp
          simp only [List.setIfInBounds_toArray, List.set_cons_zero, List.set_cons_succ]
          refine take_at (i := 16) (v := .pointer (some ⟨ga, oa + i, none⟩)) rfl rfl (by kernel_rfl) (by kernel_rfl) (by kernel_rfl) (fun _ _ _ h => h) (Or.inl ⟨by rfl, ?_⟩) hH0 ?_
          · intro w hSw; (try dsimp only at hSw); go_simp
          simp only [List.setIfInBounds_toArray, List.set_cons_zero, List.set_cons_succ]
          refine take_at (i := 17) (v := .slice a.p a.l.length a.c) rfl rfl (by kernel_rfl) (by kernel_rfl) (by kernel_rfl) (fun _ _ _ h => h) (Or.inl ⟨by rfl, ?_⟩) hH0 ?_
          · intro w hSw; (try dsimp only at hSw); obtain ⟨hS1, hS2, hS3⟩ := hSw; go_simp
          simp only [List.setIfInBounds_toArray, List.set_cons_zero, List.set_cons_succ]
          refine wpAnyH_ready (rs := [18]) (by kernel_rfl) (by simp) ?_
          refine AllReadyH.cons rfl (fun K hK => ?_) AllReadyH.nil
          go_simp
          go_at_call 29
          refine (LS.out _ hH0.1).mono ?_
          rintro e w8 ⟨rfl, hw8⟩
          go_wp2_with fail
          refine hK.out _ _ (by first | exact hH0 | (rw [hw8]; exact hH0)) (fun hH1 => ?_)
          clear hK K
          refine take_at (i := 19) (v := .bool false) rfl rfl (by kernel_rfl) (by kernel_rfl) (by kernel_rfl) (fun _ _ _ h => h) (Or.inl ⟨by rfl, ?_⟩) hH1 ?_
          · intro w hSw; (try dsimp only at hSw); go_simp
          simp only [List.setIfInBounds_toArray, List.set_cons_zero, List.set_cons_succ]
          refine take_at (i := 20) (v := .bool false) rfl rfl (by kernel_rfl) (by kernel_rfl) (by kernel_rfl) (fun _ _ _ h => h) (Or.inl ⟨by rfl, ?_⟩) hH1 ?_
          · intro w hSw; (try dsimp only at hSw); go_simp
          simp only [List.setIfInBounds_toArray, List.set_cons_zero, List.set_cons_succ]
          refine take_at (i := 21) (v := .bool false) rfl rfl (by kernel_rfl) (by kernel_rfl) (by kernel_rfl) (fun _ _ _ h => h) (Or.inl ⟨by rfl, ?_⟩) hH1 ?_
          · intro w hSw; (try dsimp only at hSw); go_simp
          simp only [List.setIfInBounds_toArray, List.set_cons_zero, List.set_cons_succ]
          refine wpAnyH_done (by kernel_rfl) ?_ _
          refine NoPanic.normal ?_
          try subst hw8
          have W8 : Below wr.heap.size wr wr.drew := below_drewN (Below.refl _ wr) 1
          have dc := (W8.cell (p := ⟨gb, ob + k, none⟩) (by first | exact hga2 | exact hgb2 | exact Nat.lt_of_lt_of_le hga bs | exact Nat.lt_of_lt_of_le hgb bs)).trans db
          have ho8 : ownsS wr.drew w6.heap.size _ O := own_below ho2 W8
          have bs8 : w6.heap.size ≤ wr.drew.heap.size := Nat.le_trans bs W8.size
          have B8 : Below w6.heap.size w6 wr.drew := hbr.out.trans (W8.mono bs)
          clear W8 db hH0
          try clear hH1
          generalize wr.drew = w8 at *
          go_wp2_with (at_builtin; refine app_s rfl (.tmp 65) (.tmp 70) rfl w6.heap.size _ O b rfl ho8 rfl (by omega) bs8 ?_; intro v9 w9 ho9 hg9)
          go_roundw
          case rel => exact ⟨i, k + 1, O ++ [b], rfl, by go_num, by omega, by omega, by simp; omega, hM2, ho9, B8.trans (grown_below hg9 bs8 (fun g h => (World.ownsRow.lt ho8 g h).1))⟩
          case measure => simp [intOf]; omega
      · have hi1 : ¬ (i : Int) < (A.length : Int) := by omega
        have hi0 : i = A.length := by omega
        subst hi0
        have hM2 : Hid ((O ++ [b]) ++ List.merge (A.drop A.length) (B.drop (k + 1)) leV = List.merge A B leV) := by
          show _ = _
          rw [← hM.out, merge_end2 hb (List.drop_length), List.append_assoc]; rfl
        have ho2 := ho.out
        clear cb hb hM ho
        go_wp2_with fail
        refine wp_region_noPanic ?_
        refine wp_region_held_drew (S := fun w' => Below wr.heap.size wr w') (by kernel_rfl) (below_drewN (Below.refl _ wr) 1) (fun hH0 => ?_)
        refine take_at (i := 0) (v := .int .i64 k) rfl rfl (by kernel_rfl) (by kernel_rfl) (by kernel_rfl) (fun _ _ _ h => h) (Or.inl ⟨by rfl, ?_⟩) hH0 ?_
        · intro w hSw; (try dsimp only at hSw); go_simp
        simp only [List.setIfInBounds_toArray, List.set_cons_zero, List.set_cons_succ]
        refine take_at (i := 1) (v := .slice (some ⟨gb, ob, none⟩) B.length C2) rfl rfl (by kernel_rfl) (by kernel_rfl) (by kernel_rfl) (fun _ _ _ h => h) (Or.inl ⟨by rfl, ?_⟩) hH0 ?_
        · intro w hSw; (try dsimp only at hSw); go_simp
        simp only [List.setIfInBounds_toArray, List.set_cons_zero, List.set_cons_succ]
        refine take_at (i := 2) (v := .int .i64 B.length) rfl rfl (by kernel_rfl) (by kernel_rfl) (by kernel_rfl) (fun _ _ _ h => h) (Or.inl ⟨by rfl, ?_⟩) hH0 ?_
        · intro w hSw; (try dsimp only at hSw); go_simp
        simp only [List.setIfInBounds_toArray, List.set_cons_zero, List.set_cons_succ]
        refine take_at (i := 3) (v := .bool false) rfl rfl (by kernel_rfl) (by kernel_rfl) (by kernel_rfl) (fun _ _ _ h => h) (Or.inl ⟨by rfl, ?_⟩) hH0 ?_
        · intro w hSw; (try dsimp only at hSw); go_simp
        simp only [List.setIfInBounds_toArray, List.set_cons_zero, List.set_cons_succ]
        refine take_at (i := 4) (v := .bool false) rfl rfl (by kernel_rfl) (by kernel_rfl) (by kernel_rfl) (fun _ _ _ h => h) (Or.inl ⟨by rfl, ?_⟩) hH0 ?_
        · intro w hSw; (try dsimp only at hSw); go_simp
        simp only [List.setIfInBounds_toArray, List.set_cons_zero, List.set_cons_succ]
        refine take_at (i := 5) (v := .int .i64 A.length) rfl rfl (by kernel_rfl) (by kernel_rfl) (by kernel_rfl) (fun _ _ _ h => h) (Or.inl ⟨by rfl, ?_⟩) hH0 ?_
        · intro w hSw; (try dsimp only at hSw); go_simp
        simp only [List.setIfInBounds_toArray, List.set_cons_zero, List.set_cons_succ]
        refine take_at (i := 6) (v := .slice P1 A.length C1) rfl rfl (by kernel_rfl) (by kernel_rfl) (by kernel_rfl) (fun _ _ _ h => h) (Or.inl ⟨by rfl, ?_⟩) hH0 ?_
        · intro w hSw; (try dsimp only at hSw); go_simp
        simp only [List.setIfInBounds_toArray, List.set_cons_zero, List.set_cons_succ]
        refine take_at (i := 7) (v := .int .i64 A.length) rfl rfl (by kernel_rfl) (by kernel_rfl) (by kernel_rfl) (fun _ _ _ h => h) (Or.inl ⟨by rfl, ?_⟩) hH0 ?_
        · intro w hSw; (try dsimp only at hSw); go_simp
        simp only [List.setIfInBounds_toArray, List.set_cons_zero, List.set_cons_succ]
        refine take_at (i := 8) (v := .bool false) rfl rfl (by kernel_rfl) (by kernel_rfl) (by kernel_rfl) (fun _ _ _ h => h) (Or.inl ⟨by rfl, ?_⟩) hH0 ?_
        · intro w hSw; (try dsimp only at hSw); go_simp
        simp only [List.setIfInBounds_toArray, List.set_cons_zero, List.set_cons_succ]
        refine take_at (i := 9) (v := .bool false) rfl rfl (by kernel_rfl) (by kernel_rfl) (by kernel_rfl) (fun _ _ _ h => h) (Or.inl ⟨by rfl, ?_⟩) hH0 ?_
        · intro w hSw; (try dsimp only at hSw); go_simp
        simp only [List.setIfInBounds_toArray, List.set_cons_zero, List.set_cons_succ]
        refine take_at (i := 10) (v := undef) rfl rfl (by kernel_rfl) (by kernel_rfl) (by kernel_rfl) (fun _ _ _ h => h) (Or.inr ⟨by rfl, rfl⟩) hH0 ?_
        simp only [List.setIfInBounds_toArray, List.set_cons_zero, List.set_cons_succ]
        refine take_at (i := 11) (v := undef) rfl rfl (by kernel_rfl) (by kernel_rfl) (by kernel_rfl) (fun _ _ _ h => h) (Or.inr ⟨by rfl, rfl⟩) hH0 ?_
        simp only [List.setIfInBounds_toArray, List.set_cons_zero, List.set_cons_succ]
        refine take_at (i := 12) (v := undef) rfl rfl (by kernel_rfl) (by kernel_rfl) (by kernel_rfl) (fun _ _ _ h => h) (Or.inr ⟨by rfl, rfl⟩) hH0 ?_
        simp only [List.setIfInBounds_toArray, List.set_cons_zero, List.set_cons_succ]
        refine take_at (i := 13) (v := undef) rfl rfl (by kernel_rfl) (by kernel_rfl) (by kernel_rfl) (fun _ _ _ h => h) (Or.inr ⟨by rfl, rfl⟩) hH0 ?_
        simp only [List.setIfInBounds_toArray, List.set_cons_zero, List.set_cons_succ]
        refine take_at (i := 14) (v := undef) rfl rfl (by kernel_rfl) (by kernel_rfl) (by kernel_rfl) (fun _ _ _ h => h) (Or.inr ⟨by rfl, rfl⟩) hH0 ?_
        simp only [List.setIfInBounds_toArray, List.set_cons_zero, List.set_cons_succ]
        refine take_at (i := 15) (v := undef) rfl rfl (by kernel_rfl) (by kernel_rfl) (by kernel_rfl) (fun _ _ _ h => h) (Or.inr ⟨by rfl, rfl⟩) hH0 ?_
        simp only [List.setIfInBounds_toArray, List.set_cons_zero, List.set_cons_succ]
        refine take_at (i := 16) (v := undef) rfl rfl (by kernel_rfl) (by kernel_rfl) (by kernel_rfl) (fun _ _ _ h => h) (Or.inr ⟨by rfl, rfl⟩) hH0 ?_
        simp only [List.setIfInBounds_toArray, List.set_cons_zero, List.set_cons_succ]
        refine take_at (i := 17) (v := undef) rfl rfl (by kernel_rfl) (by kernel_rfl) (by kernel_rfl) (fun _ _ _ h => h) (Or.inr ⟨by rfl, rfl⟩) hH0 ?_
        simp only [List.setIfInBounds_toArray, List.set_cons_zero, List.set_cons_succ]
        refine take_at (i := 18) (v := undef) rfl rfl (by kernel_rfl) (by kernel_rfl) (by kernel_rfl) (fun _ _ _ h => h) (Or.inr ⟨by rfl, rfl⟩) hH0 ?_
        simp only [List.setIfInBounds_toArray, List.set_cons_zero, List.set_cons_succ]
        refine take_at (i := 19) (v := undef) rfl rfl (by kernel_rfl) (by kernel_rfl) (by kernel_rfl) (fun _ _ _ h => h) (Or.inr ⟨by rfl, rfl⟩) hH0 ?_
        simp only [List.setIfInBounds_toArray, List.set_cons_zero, List.set_cons_succ]
        refine take_at (i := 20) (v := .bool false) rfl rfl (by kernel_rfl) (by kernel_rfl) (by kernel_rfl) (fun _ _ _ h => h) (Or.inl ⟨by rfl, ?_⟩) hH0 ?_
        · intro w hSw; (try dsimp only at hSw); go_simp
        simp only [List.setIfInBounds_toArray, List.set_cons_zero, List.set_cons_succ]
        refine take_at (i := 21) (v := .bool false) rfl rfl (by kernel_rfl) (by kernel_rfl) (by kernel_rfl) (fun _ _ _ h => h) (Or.inl ⟨by rfl, ?_⟩) hH0 ?_
        · intro w hSw; (try dsimp only at hSw); go_simp
        simp only [List.setIfInBounds_toArray, List.set_cons_zero, List.set_cons_succ]
        refine wpAnyH_done (by kernel_rfl) ?_ _
        refine NoPanic.normal ?_
        have W8 : Below wr.heap.size wr wr.drew := below_drewN (Below.refl _ wr) 1
        have dc := (W8.cell (p := ⟨gb, ob + k, none⟩) (by first | exact hga2 | exact hgb2 | exact Nat.lt_of_lt_of_le hga bs | exact Nat.lt_of_lt_of_le hgb bs)).trans db
        have ho8 : ownsS wr.drew w6.heap.size _ O := own_below ho2 W8
        have bs8 : w6.heap.size ≤ wr.drew.heap.size := Nat.le_trans bs W8.size
        have B8 : Below w6.heap.size w6 wr.drew := hbr.out.trans (W8.mono bs)
        clear W8 db hH0
        try clear hH1
        generalize wr.drew = w8 at *
        go_wp2_with (at_builtin; refine app_s rfl (.tmp 65) (.tmp 70) rfl w6.heap.size _ O b rfl ho8 rfl (by omega) bs8 ?_; intro v9 w9 ho9 hg9)
        go_roundw
        case rel => exact ⟨A.length, k + 1, O ++ [b], rfl, by go_num, by omega, by omega, by simp; omega, hM2, ho9, B8.trans (grown_below hg9 bs8 (fun g h => (World.ownsRow.lt ho8 g h).1))⟩
        case measure => simp [intOf]; omega

theorem sorted_any : ∀ (n : Nat) (L : List Bv) (P : Option Addr) (C : Nat) (w : World), L.length ≤ n → bvsIn w P L → (∀ b ∈ L, byIn w b.p b.l) → L.length ≤ C → C ≤ 9223372036854775807 → L.length ≤ 65536 →
    Calls Tryd.prog 26 #[.slice P L.length C] w fun e w' => ∃ P' C' M, e = .returned (.slice P' (M : List Bv).length C') ∧ bvsIn w' P' M ∧ M.Perm L ∧ M.Pairwise (fun a b => leV a b = true) ∧ Below w.heap.size w w' ∧ M.length ≤ C' ∧ C' ≤ 9223372036854775807
  | 0, L, P, C, w, hn, hP, _, hc, hm, _ => sorted_small L P C w (by omega) hP hc hm
  | n + 1, L, P, C, w, hn, hP, hby, hc, hm, hl => by
    by_cases h2 : L.length < 2
    · exact sorted_small L P C w h2 hP hc hm
    · rcases hP with rfl | ⟨g, off, rfl, hg, hcs⟩
      · simp at h2
      refine sorted_step L g off C (L.length / 2) w (by omega) rfl hby hc hm hl ?_
      intro W o m c hW ho hmc hcm
      have hmem : ∀ b ∈ (L.drop (o - off)).take m, b ∈ L := fun b hb => List.mem_of_mem_drop (List.mem_of_mem_take hb)
      have hlen : ((L.drop (o - off)).take m).length = m := by
        rw [List.length_take, List.length_drop]
        rcases ho with ⟨rfl, rfl⟩ | ⟨rfl, rfl⟩ <;> omega
      have hoff : off ≤ o := by omega
      have := sorted_any n ((L.drop (o - off)).take m) (some ⟨g, o, none⟩) c W (by omega) (Or.inr ⟨g, o, rfl, Nat.lt_of_lt_of_le hg hW.size, fun i b hi => by
        have hi2 : L[o - off + i]? = some b := by
          rw [List.getElem?_take] at hi
          split at hi
          · rw [List.getElem?_drop] at hi; exact hi
          · cases hi
        have := (hW.cell (p := ⟨g, off + (o - off + i), none⟩) hg).trans (hcs _ b hi2)
        rw [show off + (o - off + i) = o + i by omega] at this
        exact this⟩) (fun b hb => (hby b (hmem b hb)).below hW) (by omega) hcm (by omega)
      rw [hlen] at this
      exact this
end Go.Proofs.YtedacccedbchaaaDoor
