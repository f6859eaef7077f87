/-
  The walk of the statement LexParts where all three texts are read.
-/
import Derived.Test.YtjmlpgdgbgcmaaaGreatDoorLxU
namespace Go.Proofs.YtjmlpgdgbgcmaaaGreatDoor
open Go.RowKit Go.Shelf

/-- three lists of tokens, and the variables -/
structure Sp (w : World) (pN pL pM : Option Addr) (LN LL LM : List Tk) (w' : World) : Prop where
  b : Below w.heap.size w w'
  n : tokIn w' pN LN
  l : tokIn w' pL LL
  m : tokIn w' pM LM
theorem Sp.next {w : World} {pN pL pM : Option Addr} {LN LL LM : List Tk} {w' w'' : World} (h : Sp w pN pL pM LN LL LM w') (hb : Below w'.heap.size w' w'') : Sp w pN pL pM LN LL LM w'' := ⟨h.b.trans (hb.mono h.b.size), h.n.below hb, h.l.below hb, h.m.below hb⟩
theorem Sp.drew {w : World} {pN pL pM : Option Addr} {LN LL LM : List Tk} {w' : World} (h : Sp w pN pL pM LN LL LM w') : Sp w pN pL pM LN LL LM w'.drew := h.next (below_drewN (Below.refl _ w') 1)
/-- the answer of Tokens, opened -/
theorem TkA.open {t : Ts} {base : Nat} {e : Ending} {w : World} (h : TkA t base e w) : ∃ (p : Option Addr) (c : Nat) (L : List Tk), e = .returned (.tuple #[.slice p L.length c, .int .i64 t.pos, .int .i64 t.why]) ∧ tokIn w p L ∧ L.length ≤ c ∧ c ≤ 9223372036854775807 ∧ ((p = none ∧ L = [] ∧ c = 0) ∨ ∃ g, p = some ⟨g, 0, none⟩) ∧ (t.why = 0 → L = t.l) := by
  obtain ⟨v, rfl, ho⟩ := h
  obtain ⟨p, c, rfl, h1, h2, h3, h4⟩ := ho.read
  exact ⟨p, c, _, rfl, h1, h2, h3, h4, fun h => if_pos h⟩
set_option maxHeartbeats 4000000 in
set_option maxRecDepth 1000000 in
theorem LexParts_short (a b : List UInt8) (w : World) (AT AB : List UInt8) (pa pb pc ec : Int) (la lb lc : List Tk) (h3 : ¬ 65536 ≤ a.length + b.length) (LV : Hid (∀ w, LxW w → Calls Tryz.prog 5 #[] w fun e w' => e = .returned (.bool true) ∧ Below w.heap.size w w')) (hW : LxW w)
    (hza : (ByteArray.mk a.toArray).size = a.length) (hzb : (ByteArray.mk b.toArray).size = b.length) (z1 : ByteArray.mk a.toArray ++ ByteArray.mk #[10] = ByteArray.mk AT.toArray) (z2 : ByteArray.mk AT.toArray ++ ByteArray.mk b.toArray = ByteArray.mk AB.toArray) (z3 : a.length + 1 ≤ 9223372036854775807) (z4 : AT.length + b.length ≤ 9223372036854775807) (hzt : (ByteArray.mk AT.toArray).size = AT.length)
    (hTA : ∀ w, LxW w → Calls Tryz.prog 4 #[.string ⟨a.toArray⟩] w fun e w' => TkA ⟨la, pa, 0⟩ w.heap.size e w' ∧ Below w.heap.size w w') (hTB : ∀ w, LxW w → Calls Tryz.prog 4 #[.string ⟨b.toArray⟩] w fun e w' => TkA ⟨lb, pb, 0⟩ w.heap.size e w' ∧ Below w.heap.size w w')
    (hTC : ∀ w, LxW w → Calls Tryz.prog 4 #[.string ⟨AB.toArray⟩] w fun e w' => TkA ⟨lc, pc, ec⟩ w.heap.size e w' ∧ Below w.heap.size w w')
    (hparts : ec = 0 ∧ ∃ (T : List Tk) (e : Tk) (M : List Tk), la = T ++ [e] ∧ lc = T ++ M ∧ M.map bare = lb.map bare) :
    Calls Tryz.prog 3 #[.string ⟨a.toArray⟩, .string ⟨b.toArray⟩] w fun e w' => e = .returned (.bool true) ∧ Below w.heap.size w w' := by
  have HW : Hid (LxW w) := hW
  have TA : Hid (∀ w, LxW w → Calls Tryz.prog 4 #[.string ⟨a.toArray⟩] w fun e w' => TkA ⟨la, pa, 0⟩ w.heap.size e w' ∧ Below w.heap.size w w') := hTA
  have TB : Hid (∀ w, LxW w → Calls Tryz.prog 4 #[.string ⟨b.toArray⟩] w fun e w' => TkA ⟨lb, pb, 0⟩ w.heap.size e w' ∧ Below w.heap.size w w') := hTB
  have TC : Hid (∀ w, LxW w → Calls Tryz.prog 4 #[.string ⟨AB.toArray⟩] w fun e w' => TkA ⟨lc, pc, ec⟩ w.heap.size e w' ∧ Below w.heap.size w w') := hTC
  clear hW hTA hTB hTC
  obtain ⟨e1, T, e, M, r1, r2, r3⟩ := hparts
  subst e1 r1 r2
  have h3i : ¬ (65536 : Int) ≤ (a.length : Int) + (b.length : Int) := by omega
  have hbi : (a.length : Int) ≤ 2000000 := by omega
  have hbj : (b.length : Int) ≤ 2000000 := by omega
  have hlen : M.length = lb.length := by have := congrArg List.length r3; simpa using this
  go_enter Tryz.func3, Tryz.ntmps3
  go_wp2_with fail
  refine (TA.out _ HW.out).mono ?_
  rintro e w1 ⟨ha, hb1⟩
  obtain ⟨p1, c1, X1, rfl, i1, j1, k1, q1, l1⟩ := ha.open
  have B1 := hb1
  go_wp2_with fail
  refine (TB.out _ (HW.out.below B1)).mono ?_
  rintro e w2 ⟨ha2, hb2⟩
  obtain ⟨p2, c2, X2, rfl, i2, j2, k2, q2, l2⟩ := ha2.open
  have B2 := B1.trans (hb2.mono B1.size)
  go_wp2_with fail
  refine (TC.out _ (HW.out.below B2)).mono ?_
  rintro e w3 ⟨ha3, hb3⟩
  obtain ⟨p3, c3, X3, rfl, i3, j3, k3, q3, l3⟩ := ha3.open
  have B3 := B2.trans (hb3.mono B2.size)
  have i1' := (i1.below hb2).below hb3
  have i2' := i2.below hb3
  clear TA TB TC ha ha2 ha3 hb1 hb2 hb3 i1 i2 B1 B2
  simp only at l1 l2 l3
  have e1 := (l1 (by trivial)).symm
  have e2 := (l2 (by trivial)).symm
  have e3 := (l3 (by trivial)).symm
  clear l1 l2 l3
  subst e1 e2 e3
  have n0 : Sp w p3 p1 p2 (T ++ M) (T ++ [e]) lb w3 := ⟨B3, i3, i1', i2'⟩
  obtain ⟨K, hK⟩ : ∃ K, T.length = K := ⟨_, rfl⟩
  obtain ⟨ML, hML⟩ : ∃ ML, lb.length = ML := ⟨_, rfl⟩
  have n1 : (T ++ [e]).length = K + 1 := by simp [hK]
  have n3 : (T ++ M).length = K + ML := by simp [hK, hlen, hML]
  have hMl : M.length = ML := hlen.trans hML
  rw [n1] at j1
  rw [n3] at j3
  rw [hML] at j2
  have T1C : Hid (∀ w', Sp w p3 p1 p2 (T ++ M) (T ++ [e]) lb w' → Calls Tryz.prog 6 #[.slice p3 K c3, .slice p1 K c1, .bool true] w' fun e w'' => e = .returned (.bool true) ∧ Below w'.heap.size w' w'') := fun w' h => tokens_any p3 p1 c3 c1 K T T true w' h.n.head h.l.head hK hK (by omega) rfl (fun _ => rfl)
  have T2C : Hid (∀ (g c : Nat) w', (p3 = some ⟨g, 0, none⟩) → Sp w p3 p1 p2 (T ++ M) (T ++ [e]) lb w' → Calls Tryz.prog 6 #[.slice (some ⟨g, K * 8, none⟩) ML c, .slice p2 ML c2, .bool false] w' fun e w'' => e = .returned (.bool true) ∧ Below w'.heap.size w' w'') := fun g c w' hp h => by
    have ht := h.n
    rw [hp] at ht
    have ht2 := ht.tail
    rw [Nat.zero_add, hK] at ht2
    exact tokens_any _ p2 c c2 ML M lb false w' ht2 h.m hMl hML (by omega) r3 (by simp)
  have T3C : Hid (∀ (p : Option Addr) (c : Nat) w', ML = 0 → Sp w p3 p1 p2 (T ++ M) (T ++ [e]) lb w' → Calls Tryz.prog 6 #[.slice p 0 c, .slice p2 0 c2, .bool false] w' fun e w'' => e = .returned (.bool true) ∧ Below w'.heap.size w' w'') := fun p c w' h0 h =>
    tokens_any p p2 c c2 0 M lb false w' (Or.inl (List.eq_nil_of_length_eq_zero (hMl.trans h0))) h.m (hMl.trans h0) (hML.trans h0) (by omega) r3 (by simp)
  rw [n3, hML, hK]
  have hcase : (c3 = K ∧ ML = 0) ∨ (c3 ≠ K ∧ ∃ g, p3 = some ⟨g, 0, none⟩) := by
    by_cases hc : c3 = K
    · exact Or.inl ⟨hc, by omega⟩
    · refine Or.inr ⟨hc, ?_⟩
      rcases q3 with ⟨_, h0, h1⟩ | h
      · have := congrArg List.length h0
        rw [n3] at this
        simp at this
        omega
      · exact h
  obtain ⟨N1, hN1⟩ : ∃ n, n = K + 1 := ⟨_, rfl⟩
  rw [← hN1]
  have u1 : (N1 : Int) - 1 = (K : Int) := by omega
  have u2 : (N1 : Int) ≤ 9223372036854775807 := by omega
  have u3 : (K : Int) ≤ (c3 : Int) := by omega
  have u4 : (K : Int) ≤ (c1 : Int) := by omega
  have u5 : K ≤ c3 := by omega
  have u6 : K ≤ c1 := by omega
  have u7 : (1 : Int) ≤ (N1 : Int) := by omega
  clear j1 j2 q1 q2 q3 hN1 n1 n3 i1' i2' i3 hK hML hMl hlen r3 B3 h3 z1 z2 z3 z4 hzt hza hzb
  rcases hcase with ⟨hc, h0⟩ | ⟨hc, g3, hp3⟩
  · have hc' := hc.symm
    subst hc' h0
    clear hc
    have hwr : IntKind.i64.wrap (K : Int) = (K : Int) := by rw [IntKind.wrap_i64]; omega
    clear T2C
    go_wp2_with fail
    refine wp_region_noPanic ?_
    refine wp_region_held_drew (S := fun w' => Sp w p3 p1 p2 (T ++ M) (T ++ [e]) lb w') (by kernel_rfl) (n0.drew) (fun hH => ?_)
    refine take_at (i := 0) (v := .int .i64 0) rfl rfl (by kernel_rfl) (by kernel_rfl) (by kernel_rfl) (fun _ _ _ h => h) (Or.inl ⟨by rfl, ?_⟩) hH ?_
    · intro w hSw; (try dsimp only at hSw); go_simp
    simp only [List.setIfInBounds_toArray, List.set_cons_zero, List.set_cons_succ]
    refine take_at (i := 1) (v := .bool true) rfl rfl (by kernel_rfl) (by kernel_rfl) (by kernel_rfl) (fun _ _ _ h => h) (Or.inl ⟨by rfl, ?_⟩) hH ?_
    · intro w hSw; (try dsimp only at hSw); go_simp
    simp only [List.setIfInBounds_toArray, List.set_cons_zero, List.set_cons_succ]
    refine take_at (i := 2) (v := .bool true) rfl rfl (by kernel_rfl) (by kernel_rfl) (by kernel_rfl) (fun _ _ _ h => h) (Or.inl ⟨by rfl, ?_⟩) hH ?_
    · intro w hSw; (try dsimp only at hSw); go_simp
    simp only [List.setIfInBounds_toArray, List.set_cons_zero, List.set_cons_succ]
    refine take_at (i := 3) (v := .slice p3 K K) rfl rfl (by kernel_rfl) (by kernel_rfl) (by kernel_rfl) (fun _ _ _ h => h) (Or.inl ⟨by rfl, ?_⟩) hH ?_
    · intro w hSw; (try dsimp only at hSw); go_simp
    simp only [List.setIfInBounds_toArray, List.set_cons_zero, List.set_cons_succ]
    refine take_at (i := 4) (v := .int .i64 (K : Nat)) rfl rfl (by kernel_rfl) (by kernel_rfl) (by kernel_rfl) (fun _ _ _ h => h) (Or.inl ⟨by rfl, ?_⟩) hH ?_
    · intro w hSw; (try dsimp only at hSw); go_simp
    simp only [List.setIfInBounds_toArray, List.set_cons_zero, List.set_cons_succ]
    refine take_at (i := 5) (v := .int .i64 (K : Nat)) rfl rfl (by kernel_rfl) (by kernel_rfl) (by kernel_rfl) (fun _ _ _ h => h) (Or.inl ⟨by rfl, ?_⟩) hH ?_
    · intro w hSw; (try dsimp only at hSw); go_simp
    simp only [List.setIfInBounds_toArray, List.set_cons_zero, List.set_cons_succ]
    refine take_at (i := 6) (v := .slice p2 0 c2) rfl rfl (by kernel_rfl) (by kernel_rfl) (by kernel_rfl) (fun _ _ _ h => h) (Or.inl ⟨by rfl, ?_⟩) hH ?_
    · intro w hSw; (try dsimp only at hSw); go_simp
    simp only [List.setIfInBounds_toArray, List.set_cons_zero, List.set_cons_succ]
    refine take_at (i := 7) (v := .int .i64 0) rfl rfl (by kernel_rfl) (by kernel_rfl) (by kernel_rfl) (fun _ _ _ h => h) (Or.inl ⟨by rfl, ?_⟩) hH ?_
    · intro w hSw; (try dsimp only at hSw); go_simp
    simp only [List.setIfInBounds_toArray, List.set_cons_zero, List.set_cons_succ]
    refine take_at (i := 8) (v := .int .i64 (K : Nat)) rfl rfl (by kernel_rfl) (by kernel_rfl) (by kernel_rfl) (fun _ _ _ h => h) (Or.inl ⟨by rfl, ?_⟩) hH ?_
    · intro w hSw; (try dsimp only at hSw); go_simp
    simp only [List.setIfInBounds_toArray, List.set_cons_zero, List.set_cons_succ]
    refine take_at (i := 9) (v := .bool true) rfl rfl (by kernel_rfl) (by kernel_rfl) (by kernel_rfl) (fun _ _ _ h => h) (Or.inl ⟨by rfl, ?_⟩) hH ?_
    · intro w hSw; (try dsimp only at hSw); go_simp
    simp only [List.setIfInBounds_toArray, List.set_cons_zero, List.set_cons_succ]
    refine take_at (i := 10) (v := .bool true) rfl rfl (by kernel_rfl) (by kernel_rfl) (by kernel_rfl) (fun _ _ _ h => h) (Or.inl ⟨by rfl, ?_⟩) hH ?_
    · intro w hSw; (try dsimp only at hSw); go_simp
    simp only [List.setIfInBounds_toArray, List.set_cons_zero, List.set_cons_succ]
    refine take_at (i := 11) (v := .bool true) rfl rfl (by kernel_rfl) (by kernel_rfl) (by kernel_rfl) (fun _ _ _ h => h) (Or.inl ⟨by rfl, ?_⟩) hH ?_
    · intro w hSw; (try dsimp only at hSw); go_simp
    simp only [List.setIfInBounds_toArray, List.set_cons_zero, List.set_cons_succ]
    refine take_at (i := 12) (v := .slice p3 K K) rfl rfl (by kernel_rfl) (by kernel_rfl) (by kernel_rfl) (fun _ _ _ h => h) (Or.inl ⟨by rfl, ?_⟩) hH ?_
    · intro w hSw; (try dsimp only at hSw); go_simp
    simp only [List.setIfInBounds_toArray, List.set_cons_zero, List.set_cons_succ]
    refine take_at (i := 13) (v := .int .i64 (K : Nat)) rfl rfl (by kernel_rfl) (by kernel_rfl) (by kernel_rfl) (fun _ _ _ h => h) (Or.inl ⟨by rfl, ?_⟩) hH ?_
    · intro w hSw; (try dsimp only at hSw); go_simp
    simp only [List.setIfInBounds_toArray, List.set_cons_zero, List.set_cons_succ]
    refine take_at (i := 14) (v := .slice p3 K K) rfl rfl (by kernel_rfl) (by kernel_rfl) (by kernel_rfl) (fun _ _ _ h => h) (Or.inl ⟨by rfl, ?_⟩) hH ?_
    · intro w hSw; (try dsimp only at hSw); go_simp
    simp only [List.setIfInBounds_toArray, List.set_cons_zero, List.set_cons_succ]
    refine take_at (i := 15) (v := .slice p1 N1 c1) rfl rfl (by kernel_rfl) (by kernel_rfl) (by kernel_rfl) (fun _ _ _ h => h) (Or.inl ⟨by rfl, ?_⟩) hH ?_
    · intro w hSw; (try dsimp only at hSw); go_simp
    simp only [List.setIfInBounds_toArray, List.set_cons_zero, List.set_cons_succ]
    refine take_at (i := 16) (v := .int .i64 (K : Nat)) rfl rfl (by kernel_rfl) (by kernel_rfl) (by kernel_rfl) (fun _ _ _ h => h) (Or.inl ⟨by rfl, ?_⟩) hH ?_
    · intro w hSw; (try dsimp only at hSw); go_simp
    simp only [List.setIfInBounds_toArray, List.set_cons_zero, List.set_cons_succ]
    refine take_at (i := 17) (v := .slice p1 K c1) rfl rfl (by kernel_rfl) (by kernel_rfl) (by kernel_rfl) (fun _ _ _ h => h) (Or.inl ⟨by rfl, ?_⟩) hH ?_
    · intro w hSw; (try dsimp only at hSw); go_simp
    simp only [List.setIfInBounds_toArray, List.set_cons_zero, List.set_cons_succ]
    refine wpAnyH_ready (rs := [18]) (by kernel_rfl) (by simp) ?_
    refine AllReadyH.cons rfl (fun K hK => ?_) AllReadyH.nil
    go_simp
    go_at_call 6
    refine (T1C.out _ hH).mono ?_
    rintro e w5 ⟨rfl, hb5⟩
    go_wp2_with fail
    refine hK.out _ _ (hH.next hb5) (fun hH5 => ?_)
    clear hK K
    clear hH
    refine take_at (i := 19) (v := .bool true) rfl rfl (by kernel_rfl) (by kernel_rfl) (by kernel_rfl) (fun _ _ _ h => h) (Or.inl ⟨by rfl, ?_⟩) hH5 ?_
    · intro w hSw; (try dsimp only at hSw); go_simp
    simp only [List.setIfInBounds_toArray, List.set_cons_zero, List.set_cons_succ]
    refine take_at (i := 20) (v := .bool true) rfl rfl (by kernel_rfl) (by kernel_rfl) (by kernel_rfl) (fun _ _ _ h => h) (Or.inl ⟨by rfl, ?_⟩) hH5 ?_
    · intro w hSw; (try dsimp only at hSw); go_simp
    simp only [List.setIfInBounds_toArray, List.set_cons_zero, List.set_cons_succ]
    refine take_at (i := 21) (v := .slice p3 K K) rfl rfl (by kernel_rfl) (by kernel_rfl) (by kernel_rfl) (fun _ _ _ h => h) (Or.inl ⟨by rfl, ?_⟩) hH5 ?_
    · intro w hSw; (try dsimp only at hSw); go_simp
    simp only [List.setIfInBounds_toArray, List.set_cons_zero, List.set_cons_succ]
    refine take_at (i := 22) (v := .int .i64 (K : Nat)) rfl rfl (by kernel_rfl) (by kernel_rfl) (by kernel_rfl) (fun _ _ _ h => h) (Or.inl ⟨by rfl, ?_⟩) hH5 ?_
    · intro w hSw; (try dsimp only at hSw); go_simp
    simp only [List.setIfInBounds_toArray, List.set_cons_zero, List.set_cons_succ]
    refine take_at (i := 23) (v := .slice p3 0 0) rfl rfl (by kernel_rfl) (by kernel_rfl) (by kernel_rfl) (fun _ _ _ h => h) (Or.inl ⟨by rfl, ?_⟩) hH5 ?_
    · intro w hSw; (try dsimp only at hSw); go_simp
    simp only [List.setIfInBounds_toArray, List.set_cons_zero, List.set_cons_succ]
    refine take_at (i := 24) (v := .slice p2 0 c2) rfl rfl (by kernel_rfl) (by kernel_rfl) (by kernel_rfl) (fun _ _ _ h => h) (Or.inl ⟨by rfl, ?_⟩) hH5 ?_
    · intro w hSw; (try dsimp only at hSw); go_simp
    simp only [List.setIfInBounds_toArray, List.set_cons_zero, List.set_cons_succ]
    refine wpAnyH_ready (rs := [25]) (by kernel_rfl) (by simp) ?_
    refine AllReadyH.cons rfl (fun K hK => ?_) AllReadyH.nil
    go_simp
    go_at_call 6
    refine (T3C.out _ _ _ (by trivial) hH5).mono ?_
    rintro e w6 ⟨rfl, hb6⟩
    go_wp2_with fail
    refine hK.out _ _ (hH5.next hb6) (fun hH6 => ?_)
    clear hK K
    clear hH5
    refine take_at (i := 26) (v := .bool true) rfl rfl (by kernel_rfl) (by kernel_rfl) (by kernel_rfl) (fun _ _ _ h => h) (Or.inl ⟨by rfl, ?_⟩) hH6 ?_
    · intro w hSw; (try dsimp only at hSw); go_simp
    simp only [List.setIfInBounds_toArray, List.set_cons_zero, List.set_cons_succ]
    refine take_at (i := 27) (v := .bool true) rfl rfl (by kernel_rfl) (by kernel_rfl) (by kernel_rfl) (fun _ _ _ h => h) (Or.inl ⟨by rfl, ?_⟩) hH6 ?_
    · intro w hSw; (try dsimp only at hSw); go_simp
    simp only [List.setIfInBounds_toArray, List.set_cons_zero, List.set_cons_succ]
    refine wpAnyH_ready (rs := [28]) (by kernel_rfl) (by simp) ?_
    refine AllReadyH.cons rfl (fun K hK => ?_) AllReadyH.nil
    go_simp
    go_at_call 5
    refine (LV.out _ (HW.out.below hH6.b)).mono ?_
    rintro e w7 ⟨rfl, hb7⟩
    go_wp2_with fail
    refine hK.out _ _ (hH6.next hb7) (fun hH7 => ?_)
    clear hK K
    clear hH6
    refine take_at (i := 29) (v := .bool true) rfl rfl (by kernel_rfl) (by kernel_rfl) (by kernel_rfl) (fun _ _ _ h => h) (Or.inl ⟨by rfl, ?_⟩) hH7 ?_
    · intro w hSw; (try dsimp only at hSw); go_simp
    simp only [List.setIfInBounds_toArray, List.set_cons_zero, List.set_cons_succ]
    refine take_at (i := 30) (v := .bool true) rfl rfl (by kernel_rfl) (by kernel_rfl) (by kernel_rfl) (fun _ _ _ h => h) (Or.inl ⟨by rfl, ?_⟩) hH7 ?_
    · intro w hSw; (try dsimp only at hSw); go_simp
    simp only [List.setIfInBounds_toArray, List.set_cons_zero, List.set_cons_succ]
    refine wpAnyH_done (by kernel_rfl) ?_ _
    refine NoPanic.normal ?_
    have B9 := hH7.b
    go_wp2_with fail
    go_ret
    exact ⟨rfl, B9⟩
  · have T2D : Hid (∀ (c : Nat) w', Sp w p3 p1 p2 (T ++ M) (T ++ [e]) lb w' → Calls Tryz.prog 6 #[.slice (some ⟨g3, K * 8, none⟩) ML c, .slice p2 ML c2, .bool false] w' fun e w'' => e = .returned (.bool true) ∧ Below w'.heap.size w' w'') := fun c w' h => T2C.out g3 c w' hp3 h
    obtain ⟨N3, hN3⟩ : ∃ n, n = K + ML := ⟨_, rfl⟩
    rw [← hN3] at j3 ⊢
    have hsub : N3 - K = ML := by omega
    have hwr : IntKind.i64.wrap ((K : Int) + (ML : Int)) = (N3 : Int) := by rw [IntKind.wrap_i64]; omega
    have v1 : K ≤ N3 := by omega
    have v2 : (K : Int) ≤ (N3 : Int) := by omega
    have v3 : N3 ≤ c3 := by omega
    clear hN3 T2C T3C
    subst hp3
    go_wp2_with fail
    refine wp_region_noPanic ?_
    refine wp_region_held_drew (S := fun w' => Sp w (some ⟨g3, 0, none⟩) p1 p2 (T ++ M) (T ++ [e]) lb w') (by kernel_rfl) (n0.drew) (fun hH => ?_)
    refine take_at (i := 0) (v := .int .i64 0) rfl rfl (by kernel_rfl) (by kernel_rfl) (by kernel_rfl) (fun _ _ _ h => h) (Or.inl ⟨by rfl, ?_⟩) hH ?_
    · intro w hSw; (try dsimp only at hSw); go_simp
    simp only [List.setIfInBounds_toArray, List.set_cons_zero, List.set_cons_succ]
    refine take_at (i := 1) (v := .bool true) rfl rfl (by kernel_rfl) (by kernel_rfl) (by kernel_rfl) (fun _ _ _ h => h) (Or.inl ⟨by rfl, ?_⟩) hH ?_
    · intro w hSw; (try dsimp only at hSw); go_simp
    simp only [List.setIfInBounds_toArray, List.set_cons_zero, List.set_cons_succ]
    refine take_at (i := 2) (v := .bool true) rfl rfl (by kernel_rfl) (by kernel_rfl) (by kernel_rfl) (fun _ _ _ h => h) (Or.inl ⟨by rfl, ?_⟩) hH ?_
    · intro w hSw; (try dsimp only at hSw); go_simp
    simp only [List.setIfInBounds_toArray, List.set_cons_zero, List.set_cons_succ]
    refine take_at (i := 3) (v := .slice (some ⟨g3, 0, none⟩) N3 c3) rfl rfl (by kernel_rfl) (by kernel_rfl) (by kernel_rfl) (fun _ _ _ h => h) (Or.inl ⟨by rfl, ?_⟩) hH ?_
    · intro w hSw; (try dsimp only at hSw); go_simp
    simp only [List.setIfInBounds_toArray, List.set_cons_zero, List.set_cons_succ]
    refine take_at (i := 4) (v := .int .i64 (N3 : Nat)) rfl rfl (by kernel_rfl) (by kernel_rfl) (by kernel_rfl) (fun _ _ _ h => h) (Or.inl ⟨by rfl, ?_⟩) hH ?_
    · intro w hSw; (try dsimp only at hSw); go_simp
    simp only [List.setIfInBounds_toArray, List.set_cons_zero, List.set_cons_succ]
    refine take_at (i := 5) (v := .int .i64 (K : Nat)) rfl rfl (by kernel_rfl) (by kernel_rfl) (by kernel_rfl) (fun _ _ _ h => h) (Or.inl ⟨by rfl, ?_⟩) hH ?_
    · intro w hSw; (try dsimp only at hSw); go_simp
    simp only [List.setIfInBounds_toArray, List.set_cons_zero, List.set_cons_succ]
    refine take_at (i := 6) (v := .slice p2 ML c2) rfl rfl (by kernel_rfl) (by kernel_rfl) (by kernel_rfl) (fun _ _ _ h => h) (Or.inl ⟨by rfl, ?_⟩) hH ?_
    · intro w hSw; (try dsimp only at hSw); go_simp
    simp only [List.setIfInBounds_toArray, List.set_cons_zero, List.set_cons_succ]
    refine take_at (i := 7) (v := .int .i64 (ML : Nat)) rfl rfl (by kernel_rfl) (by kernel_rfl) (by kernel_rfl) (fun _ _ _ h => h) (Or.inl ⟨by rfl, ?_⟩) hH ?_
    · intro w hSw; (try dsimp only at hSw); go_simp
    simp only [List.setIfInBounds_toArray, List.set_cons_zero, List.set_cons_succ]
    refine take_at (i := 8) (v := .int .i64 (N3 : Nat)) rfl rfl (by kernel_rfl) (by kernel_rfl) (by kernel_rfl) (fun _ _ _ h => h) (Or.inl ⟨by rfl, ?_⟩) hH ?_
    · intro w hSw; (try dsimp only at hSw); go_simp
    simp only [List.setIfInBounds_toArray, List.set_cons_zero, List.set_cons_succ]
    refine take_at (i := 9) (v := .bool true) rfl rfl (by kernel_rfl) (by kernel_rfl) (by kernel_rfl) (fun _ _ _ h => h) (Or.inl ⟨by rfl, ?_⟩) hH ?_
    · intro w hSw; (try dsimp only at hSw); go_simp
    simp only [List.setIfInBounds_toArray, List.set_cons_zero, List.set_cons_succ]
    refine take_at (i := 10) (v := .bool true) rfl rfl (by kernel_rfl) (by kernel_rfl) (by kernel_rfl) (fun _ _ _ h => h) (Or.inl ⟨by rfl, ?_⟩) hH ?_
    · intro w hSw; (try dsimp only at hSw); go_simp
    simp only [List.setIfInBounds_toArray, List.set_cons_zero, List.set_cons_succ]
    refine take_at (i := 11) (v := .bool true) rfl rfl (by kernel_rfl) (by kernel_rfl) (by kernel_rfl) (fun _ _ _ h => h) (Or.inl ⟨by rfl, ?_⟩) hH ?_
    · intro w hSw; (try dsimp only at hSw); go_simp
    simp only [List.setIfInBounds_toArray, List.set_cons_zero, List.set_cons_succ]
    refine take_at (i := 12) (v := .slice (some ⟨g3, 0, none⟩) N3 c3) rfl rfl (by kernel_rfl) (by kernel_rfl) (by kernel_rfl) (fun _ _ _ h => h) (Or.inl ⟨by rfl, ?_⟩) hH ?_
    · intro w hSw; (try dsimp only at hSw); go_simp
    simp only [List.setIfInBounds_toArray, List.set_cons_zero, List.set_cons_succ]
    refine take_at (i := 13) (v := .int .i64 (K : Nat)) rfl rfl (by kernel_rfl) (by kernel_rfl) (by kernel_rfl) (fun _ _ _ h => h) (Or.inl ⟨by rfl, ?_⟩) hH ?_
    · intro w hSw; (try dsimp only at hSw); go_simp
    simp only [List.setIfInBounds_toArray, List.set_cons_zero, List.set_cons_succ]
    refine take_at (i := 14) (v := .slice (some ⟨g3, 0, none⟩) K c3) rfl rfl (by kernel_rfl) (by kernel_rfl) (by kernel_rfl) (fun _ _ _ h => h) (Or.inl ⟨by rfl, ?_⟩) hH ?_
    · intro w hSw; (try dsimp only at hSw); go_simp
    simp only [List.setIfInBounds_toArray, List.set_cons_zero, List.set_cons_succ]
    refine take_at (i := 15) (v := .slice p1 N1 c1) rfl rfl (by kernel_rfl) (by kernel_rfl) (by kernel_rfl) (fun _ _ _ h => h) (Or.inl ⟨by rfl, ?_⟩) hH ?_
    · intro w hSw; (try dsimp only at hSw); go_simp
    simp only [List.setIfInBounds_toArray, List.set_cons_zero, List.set_cons_succ]
    refine take_at (i := 16) (v := .int .i64 (K : Nat)) rfl rfl (by kernel_rfl) (by kernel_rfl) (by kernel_rfl) (fun _ _ _ h => h) (Or.inl ⟨by rfl, ?_⟩) hH ?_
    · intro w hSw; (try dsimp only at hSw); go_simp
    simp only [List.setIfInBounds_toArray, List.set_cons_zero, List.set_cons_succ]
    refine take_at (i := 17) (v := .slice p1 K c1) rfl rfl (by kernel_rfl) (by kernel_rfl) (by kernel_rfl) (fun _ _ _ h => h) (Or.inl ⟨by rfl, ?_⟩) hH ?_
    · intro w hSw; (try dsimp only at hSw); go_simp
    simp only [List.setIfInBounds_toArray, List.set_cons_zero, List.set_cons_succ]
    refine wpAnyH_ready (rs := [18]) (by kernel_rfl) (by simp) ?_
    refine AllReadyH.cons rfl (fun K hK => ?_) AllReadyH.nil
    go_simp
    go_at_call 6
    refine (T1C.out _ hH).mono ?_
    rintro e w5 ⟨rfl, hb5⟩
    go_wp2_with fail
    refine hK.out _ _ (hH.next hb5) (fun hH5 => ?_)
    clear hK K
    clear hH
    refine take_at (i := 19) (v := .bool true) rfl rfl (by kernel_rfl) (by kernel_rfl) (by kernel_rfl) (fun _ _ _ h => h) (Or.inl ⟨by rfl, ?_⟩) hH5 ?_
    · intro w hSw; (try dsimp only at hSw); go_simp
    simp only [List.setIfInBounds_toArray, List.set_cons_zero, List.set_cons_succ]
    refine take_at (i := 20) (v := .bool true) rfl rfl (by kernel_rfl) (by kernel_rfl) (by kernel_rfl) (fun _ _ _ h => h) (Or.inl ⟨by rfl, ?_⟩) hH5 ?_
    · intro w hSw; (try dsimp only at hSw); go_simp
    simp only [List.setIfInBounds_toArray, List.set_cons_zero, List.set_cons_succ]
    refine take_at (i := 21) (v := .slice (some ⟨g3, 0, none⟩) N3 c3) rfl rfl (by kernel_rfl) (by kernel_rfl) (by kernel_rfl) (fun _ _ _ h => h) (Or.inl ⟨by rfl, ?_⟩) hH5 ?_
    · intro w hSw; (try dsimp only at hSw); go_simp
    simp only [List.setIfInBounds_toArray, List.set_cons_zero, List.set_cons_succ]
    refine take_at (i := 22) (v := .int .i64 (K : Nat)) rfl rfl (by kernel_rfl) (by kernel_rfl) (by kernel_rfl) (fun _ _ _ h => h) (Or.inl ⟨by rfl, ?_⟩) hH5 ?_
    · intro w hSw; (try dsimp only at hSw); go_simp
    simp only [List.setIfInBounds_toArray, List.set_cons_zero, List.set_cons_succ]
    refine take_at (i := 23) (v := .slice (some ⟨g3, K * 8, none⟩) ML (c3 - K)) rfl rfl (by kernel_rfl) (by kernel_rfl) (by kernel_rfl) (fun _ _ _ h => h) (Or.inl ⟨by rfl, ?_⟩) hH5 ?_
    · intro w hSw; (try dsimp only at hSw); go_simp
    simp only [List.setIfInBounds_toArray, List.set_cons_zero, List.set_cons_succ]
    refine take_at (i := 24) (v := .slice p2 ML c2) rfl rfl (by kernel_rfl) (by kernel_rfl) (by kernel_rfl) (fun _ _ _ h => h) (Or.inl ⟨by rfl, ?_⟩) hH5 ?_
    · intro w hSw; (try dsimp only at hSw); go_simp
    simp only [List.setIfInBounds_toArray, List.set_cons_zero, List.set_cons_succ]
    refine wpAnyH_ready (rs := [25]) (by kernel_rfl) (by simp) ?_
    refine AllReadyH.cons rfl (fun K hK => ?_) AllReadyH.nil
    go_simp
    go_at_call 6
    refine (T2D.out _ _ hH5).mono ?_
    rintro e w6 ⟨rfl, hb6⟩
    go_wp2_with fail
    refine hK.out _ _ (hH5.next hb6) (fun hH6 => ?_)
    clear hK K
    clear hH5
    refine take_at (i := 26) (v := .bool true) rfl rfl (by kernel_rfl) (by kernel_rfl) (by kernel_rfl) (fun _ _ _ h => h) (Or.inl ⟨by rfl, ?_⟩) hH6 ?_
    · intro w hSw; (try dsimp only at hSw); go_simp
    simp only [List.setIfInBounds_toArray, List.set_cons_zero, List.set_cons_succ]
    refine take_at (i := 27) (v := .bool true) rfl rfl (by kernel_rfl) (by kernel_rfl) (by kernel_rfl) (fun _ _ _ h => h) (Or.inl ⟨by rfl, ?_⟩) hH6 ?_
    · intro w hSw; (try dsimp only at hSw); go_simp
    simp only [List.setIfInBounds_toArray, List.set_cons_zero, List.set_cons_succ]
    refine wpAnyH_ready (rs := [28]) (by kernel_rfl) (by simp) ?_
    refine AllReadyH.cons rfl (fun K hK => ?_) AllReadyH.nil
    go_simp
    go_at_call 5
    refine (LV.out _ (HW.out.below hH6.b)).mono ?_
    rintro e w7 ⟨rfl, hb7⟩
    go_wp2_with fail
    refine hK.out _ _ (hH6.next hb7) (fun hH7 => ?_)
    clear hK K
    clear hH6
    refine take_at (i := 29) (v := .bool true) rfl rfl (by kernel_rfl) (by kernel_rfl) (by kernel_rfl) (fun _ _ _ h => h) (Or.inl ⟨by rfl, ?_⟩) hH7 ?_
    · intro w hSw; (try dsimp only at hSw); go_simp
    simp only [List.setIfInBounds_toArray, List.set_cons_zero, List.set_cons_succ]
    refine take_at (i := 30) (v := .bool true) rfl rfl (by kernel_rfl) (by kernel_rfl) (by kernel_rfl) (fun _ _ _ h => h) (Or.inl ⟨by rfl, ?_⟩) hH7 ?_
    · intro w hSw; (try dsimp only at hSw); go_simp
    simp only [List.setIfInBounds_toArray, List.set_cons_zero, List.set_cons_succ]
    refine wpAnyH_done (by kernel_rfl) ?_ _
    refine NoPanic.normal ?_
    have B9 := hH7.b
    go_wp2_with fail
    go_ret
    exact ⟨rfl, B9⟩
end Go.Proofs.YtjmlpgdgbgcmaaaGreatDoor
