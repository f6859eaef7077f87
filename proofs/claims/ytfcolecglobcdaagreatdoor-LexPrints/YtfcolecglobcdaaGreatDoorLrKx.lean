/-
  The walk of the statement LexPrints.
-/
import Derived.Test.YtfcolecglobcdaaGreatDoorGF
import Derived.Test.YtfcolecglobcdaaGreatDoorLxU
namespace Go.Proofs.YtfcolecglobcdaaGreatDoor
open Go.RowKit Go.Shelf

theorem app_TN {ops : Array Oper} {rest : List Oper} {o : Oper} {a : Act} {w : World} {Q : Exit → Act → World → Prop} (hgd : o.guard = none) (s x : Operand)
    (ho : o.op = .call { callee := .builtin .append, args := #[s, x], argTypes := #[30, 30] })
    (L : List Ti) (N : Nat) (hN : L.length = N) (P : Option Addr) (C : Nat) (hs : a.eval s = .slice (some ⟨w.heap.size, 0, none⟩) 0 0) (hin : tokII w P L) (hC : P = none → C = 0) (hP : P = none → L = [])
    (hx : a.eval x = .slice P N C) (hl : N ≤ 3000000)
    (h : ∀ p c w', tokII w' p L → N ≤ c → Below w.heap.size w w' → wpList Tryz.prog ops Q rest (a.put o.dst (.slice p N c)) w') :
    wpList Tryz.prog ops Q (o :: rest) a (w.alloc (.cells #[] 37)) := by
  subst hN
  exact app_T hgd s x ho L P C hs hin hC hP hx hl h
/-- the answer of Tokens, opened -/
theorem TkA.open3 {t : Ts} {base : Nat} {e : Ending} {w : World} (h : TkA t base e w) : ∃ (p : Option Addr) (c : Nat) (L : List Tk), e = .returned (.tuple #[.slice p L.length c, .int .i64 t.pos, .int .i64 t.why]) ∧ tokIn w p L ∧ L.length ≤ c ∧ c ≤ 9223372036854775807 ∧ ((p = none ∧ L = [] ∧ c = 0) ∨ ∃ g, p = some ⟨g, 0, none⟩) ∧ (t.why = 0 → L = t.l) ∧ (t.why ≠ 0 → L = []) := by
  obtain ⟨v, rfl, ho⟩ := h
  obtain ⟨p, c, rfl, h1, h2, h3, h4⟩ := ho.read
  exact ⟨p, c, _, rfl, h1, h2, h3, h4, fun h => if_pos h, fun h => if_neg h⟩
/-- what came in -/
structure Inp (w : World) (P : Option Addr) (C N : Nat) (L : List Ti) : Prop where
  i : tokII w P L
  n : L.length = N
  c : P = none → C = 0
  p : P = none → L = []
  z : ∀ t ∈ L, Sz t ∧ t.text.length ≤ 3000000
  le : N ≤ C
  b : N ≤ 3000000
set_option maxHeartbeats 2000000 in
set_option maxRecDepth 1000000 in
theorem LexPrints_err (P : Option Addr) (C N : Nat) (L : List Ti) (S : List UInt8) (E : Int) (w : World) (hi : Inp w P C N L) (hS : pnS L = S) (hE : pnE L = E) (hW : Pw w) (he : E ≠ 0) :
    Calls Tryz.prog 4 #[.slice P N C] w fun e w' => e = .returned (.bool true) ∧ Below w.heap.size w w' := by
  have PA : Hid (∀ (p : Option Addr) (c : Nat) w', tokII w' p L → N ≤ c → Below w.heap.size w w' → Calls Tryz.prog 15 #[.slice p N c] w' fun e w'' => e = .returned (.tuple #[.string ⟨S.toArray⟩, .int .i64 E]) ∧ Below w'.heap.size w' w'') := fun p c w' h1 h2 hb => by
    have h := lexPrint_any p c L w' h1 (by rw [hi.n]; exact h2) (fun t ht => (hi.z t ht).1) (hW.l.below hb) (hW.p.below hb)
    rw [hS, hE, hi.n] at h
    exact h
  have PB : Hid (∀ w', Below w.heap.size w w' → Calls Tryz.prog 16 #[.slice P N C] w' fun e w'' => e = .returned (.tuple #[.string ⟨S.toArray⟩, .int .i64 E]) ∧ Below w'.heap.size w' w'') := fun w' hb => by
    have h := refPrint_tok P C L w' (hi.i.below hb) hi.z (hW.below hb)
    rw [hS, hE, hi.n] at h
    exact h
  have LV : Hid (∀ w, LxW w → Calls Tryz.prog 14 #[] w fun e w' => e = .returned (.bool true) ∧ Below w.heap.size w w') := lives_any
  have HI : Hid (tokII w P L) := hi.i
  have HN : Hid (L.length = N) := hi.n
  have HC : Hid (P = none → C = 0) := hi.c
  have HPn : Hid (P = none → L = []) := hi.p
  have HB : Hid (N ≤ 3000000) := hi.b
  have HW : Hid (LxW w) := hW.l
  have rs : (S == S) = true := by simp
  have hb : (E != 0) = true := by rw [bne_iff_ne]; exact he
  have re : (E == E) = true := by simp
  clear hi hS hE hW he
  go_enter Tryz.func4, Tryz.ntmps4
  go_wp2_with (at_builtin; refine app_TN rfl (.tmp 12) (.tmp 13) rfl L N HN.out P C rfl HI.out HC.out HPn.out rfl HB.out ?_; intro p1 c1 w1 hI1 hc1 hb1)
  refine (PA.out p1 c1 w1 hI1 hc1 hb1).mono ?_
  rintro e w2 ⟨rfl, hb2⟩
  have B2 := hb1.trans (hb2.mono hb1.size)
  clear hI1 hb2 PA
  go_wp2_with fail
  refine (PB.out _ B2).mono ?_
  rintro e w3 ⟨rfl, hb3⟩
  have B3 := B2.trans (hb3.mono B2.size)
  clear PB B2 hb3 hb1
  go_wp2_with fail
  refine (LV.out _ (HW.out.below B3)).mono ?_
  rintro e wz ⟨rfl, hbz⟩
  have BZ := B3.trans (hbz.mono B3.size)
  go_wp2_with fail
  go_ret
  exact ⟨rfl, BZ⟩
set_option maxHeartbeats 2000000 in
set_option maxRecDepth 1000000 in
theorem LexPrints_long (P : Option Addr) (C N : Nat) (L : List Ti) (S : List UInt8) (E : Int) (w : World) (hi : Inp w P C N L) (hS : pnS L = S) (hE : pnE L = E) (hW : Pw w) (he : E = 0) (hl : 65536 < S.length) :
    Calls Tryz.prog 4 #[.slice P N C] w fun e w' => e = .returned (.bool true) ∧ Below w.heap.size w w' := by
  have PA : Hid (∀ (p : Option Addr) (c : Nat) w', tokII w' p L → N ≤ c → Below w.heap.size w w' → Calls Tryz.prog 15 #[.slice p N c] w' fun e w'' => e = .returned (.tuple #[.string ⟨S.toArray⟩, .int .i64 E]) ∧ Below w'.heap.size w' w'') := fun p c w' h1 h2 hb => by
    have h := lexPrint_any p c L w' h1 (by rw [hi.n]; exact h2) (fun t ht => (hi.z t ht).1) (hW.l.below hb) (hW.p.below hb)
    rw [hS, hE, hi.n] at h
    exact h
  have PB : Hid (∀ w', Below w.heap.size w w' → Calls Tryz.prog 16 #[.slice P N C] w' fun e w'' => e = .returned (.tuple #[.string ⟨S.toArray⟩, .int .i64 E]) ∧ Below w'.heap.size w' w'') := fun w' hb => by
    have h := refPrint_tok P C L w' (hi.i.below hb) hi.z (hW.below hb)
    rw [hS, hE, hi.n] at h
    exact h
  have LV : Hid (∀ w, LxW w → Calls Tryz.prog 14 #[] w fun e w' => e = .returned (.bool true) ∧ Below w.heap.size w w') := lives_any
  have HI : Hid (tokII w P L) := hi.i
  have HN : Hid (L.length = N) := hi.n
  have HC : Hid (P = none → C = 0) := hi.c
  have HPn : Hid (P = none → L = []) := hi.p
  have HB : Hid (N ≤ 3000000) := hi.b
  have HW : Hid (LxW w) := hW.l
  have rs : (S == S) = true := by simp
  have TK : Hid (∀ w, LxW w → Calls Tryz.prog 17 #[.string ⟨S.toArray⟩] w fun e w' => TkA (tks S) w.heap.size e w' ∧ Below w.heap.size w w') := fun w h => Tokens_any S w h
  rw [tks_long hl] at TK
  have hz : (ByteArray.mk S.toArray).size = S.length := size_mk S
  have hli : (65536 : Int) < (S.length : Int) := by omega
  clear hi hS hE hW
  subst he
  go_enter Tryz.func4, Tryz.ntmps4
  go_wp2_with (at_builtin; refine app_TN rfl (.tmp 12) (.tmp 13) rfl L N HN.out P C rfl HI.out HC.out HPn.out rfl HB.out ?_; intro p1 c1 w1 hI1 hc1 hb1)
  refine (PA.out p1 c1 w1 hI1 hc1 hb1).mono ?_
  rintro e w2 ⟨rfl, hb2⟩
  have B2 := hb1.trans (hb2.mono hb1.size)
  clear hI1 hb2 PA
  go_wp2_with fail
  refine (PB.out _ B2).mono ?_
  rintro e w3 ⟨rfl, hb3⟩
  have B3 := B2.trans (hb3.mono B2.size)
  clear PB B2 hb3 hb1
  go_wp2_with fail
  refine (TK.out _ (HW.out.below B3)).mono ?_
  rintro e w4 ⟨ha, hb4⟩
  have B4 := B3.trans (hb4.mono B3.size)
  clear TK B3
  obtain ⟨q1, d1, X1, rfl, i1, j1, k1, r1, l1, m1⟩ := ha.open3
  clear ha
  have e1 := m1 (by decide)
  subst e1
  simp only
  clear l1 m1 i1 j1 k1 r1 hb4
  go_wp2_with fail
  refine (LV.out _ (HW.out.below B4)).mono ?_
  rintro e wz ⟨rfl, hbz⟩
  have BZ := B4.trans (hbz.mono B4.size)
  go_wp2_with fail
  go_ret
  exact ⟨rfl, BZ⟩
/-- the tokens that were read and those that came in -/
structure Sl (w : World) (g1 K : Nat) (P : Option Addr) (LM : List Tk) (L : List Ti) (w' : World) : Prop where
  b : Below w.heap.size w w'
  m : tokIn w' (some ⟨g1, 0, none⟩) LM
  l : tokII w' P L
  k : w'.cell? ⟨g1, K * 8, none⟩ = some (.int .i64 6)
theorem Sl.next {w : World} {g1 K : Nat} {P : Option Addr} {LM : List Tk} {L : List Ti} {w' w'' : World} (h : Sl w g1 K P LM L w') (hb : Below w'.heap.size w' w'') : Sl w g1 K P LM L w'' :=
  ⟨h.b.trans (hb.mono h.b.size), h.m.below hb, h.l.below hb, (hb.cell (p := ⟨g1, K * 8, none⟩) (World.block_lt_of_cell? w' _ h.k)).trans h.k⟩
theorem Sl.drew {w : World} {g1 K : Nat} {P : Option Addr} {LM : List Tk} {L : List Ti} {w' : World} (h : Sl w g1 K P LM L w') : Sl w g1 K P LM L w'.drew := h.next (below_drewN (Below.refl _ w') 1)
set_option maxHeartbeats 2000000 in
set_option maxRecDepth 1000000 in
theorem LexPrints_none (P : Option Addr) (C N : Nat) (L : List Ti) (S : List UInt8) (E : Int) (w : World) (hi : Inp w P C N L) (hS : pnS L = S) (hE : pnE L = E) (hW : Pw w) (he : E = 0) (M : List Ti) (T : List Tk) (e6 : Tk) (K N1 : Nat) (hT : tks S = ⟨T ++ [e6], 0, 0⟩) (h6 : e6.kind = 6) (hTM : T.map bare = M.map rdT') (hML : ∃ R, L = M ++ R) (hMK : M.length = K) (hN1 : N1 = K + 1) (hKN : K ≤ N) (h0 : N = 0) (hK : K = N) :
    Calls Tryz.prog 4 #[.slice P N C] w fun e w' => e = .returned (.bool true) ∧ Below w.heap.size w w' := by
  have PA : Hid (∀ (p : Option Addr) (c : Nat) w', tokII w' p L → N ≤ c → Below w.heap.size w w' → Calls Tryz.prog 15 #[.slice p N c] w' fun e w'' => e = .returned (.tuple #[.string ⟨S.toArray⟩, .int .i64 E]) ∧ Below w'.heap.size w' w'') := fun p c w' h1 h2 hb => by
    have h := lexPrint_any p c L w' h1 (by rw [hi.n]; exact h2) (fun t ht => (hi.z t ht).1) (hW.l.below hb) (hW.p.below hb)
    rw [hS, hE, hi.n] at h
    exact h
  have PB : Hid (∀ w', Below w.heap.size w w' → Calls Tryz.prog 16 #[.slice P N C] w' fun e w'' => e = .returned (.tuple #[.string ⟨S.toArray⟩, .int .i64 E]) ∧ Below w'.heap.size w' w'') := fun w' hb => by
    have h := refPrint_tok P C L w' (hi.i.below hb) hi.z (hW.below hb)
    rw [hS, hE, hi.n] at h
    exact h
  have LV : Hid (∀ w, LxW w → Calls Tryz.prog 14 #[] w fun e w' => e = .returned (.bool true) ∧ Below w.heap.size w w') := lives_any
  have HI : Hid (tokII w P L) := hi.i
  have HN : Hid (L.length = N) := hi.n
  have HC : Hid (P = none → C = 0) := hi.c
  have HPn : Hid (P = none → L = []) := hi.p
  have HB : Hid (N ≤ 3000000) := hi.b
  have HW : Hid (LxW w) := hW.l
  have rs : (S == S) = true := by simp
  have TK : Hid (∀ w, LxW w → Calls Tryz.prog 17 #[.string ⟨S.toArray⟩] w fun e w' => TkA (tks S) w.heap.size e w' ∧ Below w.heap.size w w') := fun w h => Tokens_any S w h
  rw [hT] at TK
  have hTK : T.length = K := by
    have := congrArg List.length hTM
    rw [List.length_map, List.length_map] at this
    omega
  have hlen : (T ++ [e6]).length = N1 := by simp [hTK, hN1]
  have TO : Hid (∀ (g1 d1 : Nat) w', Sl w g1 K P (T ++ [e6]) L w' → Calls Tryz.prog 18 #[.slice (some ⟨g1, 0, none⟩) K d1, .slice P K C, .bool false] w' fun e w'' => e = .returned (.bool true) ∧ Below w'.heap.size w' w'') := fun g1 d1 w' h => by
    obtain ⟨R, hR⟩ := hML
    have hl := h.l
    rw [hR] at hl
    exact tokens_loose _ P d1 C K T M w' h.m.head hl.head hTK hMK (by have := hi.b; omega) hTM
  have hKL : Hid ((T ++ [e6])[K]? = some e6) := by show _ = _; rw [← hTK]; simp
  have H6 : Hid (e6.kind = 6) := h6
  have HLen : Hid ((T ++ [e6]).length = N1) := hlen
  have hle := hi.le
  have u1 : (K : Int) ≤ (N : Int) := by omega
  have u2 : (N : Int) ≤ 3000000 := by have := hi.b; omega
  have u3 : (K : Int) ≤ (C : Int) := by omega
  have u4 : ((N1 : Int) == (K : Int) + 1) = true := by rw [beq_iff_eq]; omega
  have u5 : (K : Int) < (N1 : Int) := by omega
  have u6 : K ≤ N := hKN
  have u7 : K ≤ C := by omega
  have x1 : ¬ (0 : Int) < (N : Int) := by omega
  subst hK
  clear h0
  clear hi hS hE hW hT h6 hTM hML hMK hN1 hKN hTK hlen hle
  subst he
  go_enter Tryz.func4, Tryz.ntmps4
  go_wp2_with (at_builtin; refine app_TN rfl (.tmp 12) (.tmp 13) rfl L K HN.out P C rfl HI.out HC.out HPn.out rfl HB.out ?_; intro p1 c1 w1 hI1 hc1 hb1)
  refine (PA.out p1 c1 w1 hI1 hc1 hb1).mono ?_
  rintro e w2 ⟨rfl, hb2⟩
  have B2 := hb1.trans (hb2.mono hb1.size)
  clear hI1 hb2 PA
  go_wp2_with fail
  refine (PB.out _ B2).mono ?_
  rintro e w3 ⟨rfl, hb3⟩
  have B3 := B2.trans (hb3.mono B2.size)
  clear PB B2 hb3 hb1
  go_wp2_with fail
  refine (TK.out _ (HW.out.below B3)).mono ?_
  rintro e w4 ⟨ha, hb4⟩
  have B4 := B3.trans (hb4.mono B3.size)
  clear TK B3
  obtain ⟨q1, d1, X1, rfl, i1, j1, k1, r1, l1, m1⟩ := ha.open3
  clear ha
  have e1 := l1 (by first | rfl | trivial)
  subst e1
  simp only
  rw [HLen.out] at j1 ⊢
  obtain ⟨g1, rfl⟩ : ∃ g, q1 = some ⟨g, 0, none⟩ := by
    rcases r1 with ⟨_, h0, _⟩ | h
    · exact absurd h0 (by simp)
    · exact h
  have kk : w4.cell? ⟨g1, K * 8, none⟩ = some (.int .i64 6) := by
    rcases i1 with h | ⟨g, o, hp, h⟩
    · exact absurd h (by simp)
    · cases hp
      have := (h K e6 hKL.out).c0
      rw [H6.out, Nat.zero_add] at this
      exact this
  have n0 : Sl w g1 K P (T ++ [e6]) L w4 := ⟨B4, i1, HI.out.below B4, kk⟩
  have TO2 : Hid (∀ w', Sl w g1 K P (T ++ [e6]) L w' → Calls Tryz.prog 18 #[.slice (some ⟨g1, 0, none⟩) K d1, .slice P K C, .bool false] w' fun e w'' => e = .returned (.bool true) ∧ Below w'.heap.size w' w'') := fun w' h => TO.out g1 d1 w' h
  have v1 : (K : Int) ≤ (d1 : Int) := by omega
  have v2 : K ≤ d1 := by omega
  have v3 : IntKind.i64.wrap ((K : Int) + 1) = (K : Int) + 1 := by rw [IntKind.wrap_i64]; omega
  clear TO l1 m1 i1 j1 k1 r1 kk hb4 hKL H6 HLen
  go_wp2_with fail
  refine wp_region_noPanic ?_
  refine wp_region_held_drew (S := fun w' => Sl w g1 K P (T ++ [e6]) L w') (by kernel_rfl) (n0.drew) (fun hH => ?_)
  refine take_at (i := 0) (v := .slice (some ⟨g1, 0, none⟩) N1 d1) rfl rfl (by kernel_rfl) (by kernel_rfl) (by kernel_rfl) (fun _ _ _ h => h) (Or.inl ⟨by rfl, ?_⟩) hH ?_
  · intro w hSw; (try dsimp only at hSw); have kk := hSw.k; go_simp
  simp only [List.setIfInBounds_toArray, List.set_cons_zero, List.set_cons_succ]
  refine take_at (i := 1) (v := .int .i64 (N1 : Nat)) rfl rfl (by kernel_rfl) (by kernel_rfl) (by kernel_rfl) (fun _ _ _ h => h) (Or.inl ⟨by rfl, ?_⟩) hH ?_
  · intro w hSw; (try dsimp only at hSw); have kk := hSw.k; go_simp
  simp only [List.setIfInBounds_toArray, List.set_cons_zero, List.set_cons_succ]
  refine take_at (i := 2) (v := .int .i64 (K : Nat)) rfl rfl (by kernel_rfl) (by kernel_rfl) (by kernel_rfl) (fun _ _ _ h => h) (Or.inl ⟨by rfl, ?_⟩) hH ?_
  · intro w hSw; (try dsimp only at hSw); have kk := hSw.k; go_simp
  simp only [List.setIfInBounds_toArray, List.set_cons_zero, List.set_cons_succ]
  refine take_at (i := 3) (v := .int .i64 ((K : Int) + 1)) rfl rfl (by kernel_rfl) (by kernel_rfl) (by kernel_rfl) (fun _ _ _ h => h) (Or.inl ⟨by rfl, ?_⟩) hH ?_
  · intro w hSw; (try dsimp only at hSw); have kk := hSw.k; go_simp
  simp only [List.setIfInBounds_toArray, List.set_cons_zero, List.set_cons_succ]
  refine take_at (i := 4) (v := .bool true) rfl rfl (by kernel_rfl) (by kernel_rfl) (by kernel_rfl) (fun _ _ _ h => h) (Or.inl ⟨by rfl, ?_⟩) hH ?_
  · intro w hSw; (try dsimp only at hSw); have kk := hSw.k; go_simp
  simp only [List.setIfInBounds_toArray, List.set_cons_zero, List.set_cons_succ]
  refine take_at (i := 5) (v := .bool true) rfl rfl (by kernel_rfl) (by kernel_rfl) (by kernel_rfl) (fun _ _ _ h => h) (Or.inl ⟨by rfl, ?_⟩) hH ?_
  · intro w hSw; (try dsimp only at hSw); have kk := hSw.k; go_simp
  simp only [List.setIfInBounds_toArray, List.set_cons_zero, List.set_cons_succ]
  refine take_at (i := 6) (v := .slice (some ⟨g1, 0, none⟩) N1 d1) rfl rfl (by kernel_rfl) (by kernel_rfl) (by kernel_rfl) (fun _ _ _ h => h) (Or.inl ⟨by rfl, ?_⟩) hH ?_
  · intro w hSw; (try dsimp only at hSw); have kk := hSw.k; go_simp
  simp only [List.setIfInBounds_toArray, List.set_cons_zero, List.set_cons_succ]
  refine take_at (i := 7) (v := .int .i64 (K : Nat)) rfl rfl (by kernel_rfl) (by kernel_rfl) (by kernel_rfl) (fun _ _ _ h => h) (Or.inl ⟨by rfl, ?_⟩) hH ?_
  · intro w hSw; (try dsimp only at hSw); have kk := hSw.k; go_simp
  simp only [List.setIfInBounds_toArray, List.set_cons_zero, List.set_cons_succ]
  refine take_at (i := 8) (v := .pointer (some ⟨g1, K * 8, none⟩)) rfl rfl (by kernel_rfl) (by kernel_rfl) (by kernel_rfl) (fun _ _ _ h => h) (Or.inl ⟨by rfl, ?_⟩) hH ?_
  · intro w hSw; (try dsimp only at hSw); have kk := hSw.k; go_simp
  simp only [List.setIfInBounds_toArray, List.set_cons_zero, List.set_cons_succ]
  refine take_at (i := 9) (v := .pointer (some ⟨g1, K * 8, none⟩)) rfl rfl (by kernel_rfl) (by kernel_rfl) (by kernel_rfl) (fun _ _ _ h => h) (Or.inl ⟨by rfl, ?_⟩) hH ?_
  · intro w hSw; (try dsimp only at hSw); have kk := hSw.k; go_simp
  simp only [List.setIfInBounds_toArray, List.set_cons_zero, List.set_cons_succ]
  refine take_at (i := 10) (v := .int .i64 6) rfl rfl (by kernel_rfl) (by kernel_rfl) (by kernel_rfl) (fun _ _ _ h => h) (Or.inl ⟨by rfl, ?_⟩) hH ?_
  · intro w hSw; (try dsimp only at hSw); have kk := hSw.k; go_simp
  simp only [List.setIfInBounds_toArray, List.set_cons_zero, List.set_cons_succ]
  refine take_at (i := 11) (v := .bool true) rfl rfl (by kernel_rfl) (by kernel_rfl) (by kernel_rfl) (fun _ _ _ h => h) (Or.inl ⟨by rfl, ?_⟩) hH ?_
  · intro w hSw; (try dsimp only at hSw); have kk := hSw.k; go_simp
  simp only [List.setIfInBounds_toArray, List.set_cons_zero, List.set_cons_succ]
  refine take_at (i := 12) (v := .bool true) rfl rfl (by kernel_rfl) (by kernel_rfl) (by kernel_rfl) (fun _ _ _ h => h) (Or.inl ⟨by rfl, ?_⟩) hH ?_
  · intro w hSw; (try dsimp only at hSw); have kk := hSw.k; go_simp
  simp only [List.setIfInBounds_toArray, List.set_cons_zero, List.set_cons_succ]
  refine take_at (i := 13) (v := .bool true) rfl rfl (by kernel_rfl) (by kernel_rfl) (by kernel_rfl) (fun _ _ _ h => h) (Or.inl ⟨by rfl, ?_⟩) hH ?_
  · intro w hSw; (try dsimp only at hSw); have kk := hSw.k; go_simp
  simp only [List.setIfInBounds_toArray, List.set_cons_zero, List.set_cons_succ]
  refine take_at (i := 14) (v := .slice (some ⟨g1, 0, none⟩) N1 d1) rfl rfl (by kernel_rfl) (by kernel_rfl) (by kernel_rfl) (fun _ _ _ h => h) (Or.inl ⟨by rfl, ?_⟩) hH ?_
  · intro w hSw; (try dsimp only at hSw); have kk := hSw.k; go_simp
  simp only [List.setIfInBounds_toArray, List.set_cons_zero, List.set_cons_succ]
  refine take_at (i := 15) (v := .int .i64 (K : Nat)) rfl rfl (by kernel_rfl) (by kernel_rfl) (by kernel_rfl) (fun _ _ _ h => h) (Or.inl ⟨by rfl, ?_⟩) hH ?_
  · intro w hSw; (try dsimp only at hSw); have kk := hSw.k; go_simp
  simp only [List.setIfInBounds_toArray, List.set_cons_zero, List.set_cons_succ]
  refine take_at (i := 16) (v := .slice (some ⟨g1, 0, none⟩) K d1) rfl rfl (by kernel_rfl) (by kernel_rfl) (by kernel_rfl) (fun _ _ _ h => h) (Or.inl ⟨by rfl, ?_⟩) hH ?_
  · intro w hSw; (try dsimp only at hSw); have kk := hSw.k; go_simp
  simp only [List.setIfInBounds_toArray, List.set_cons_zero, List.set_cons_succ]
  refine take_at (i := 17) (v := .slice P K C) rfl rfl (by kernel_rfl) (by kernel_rfl) (by kernel_rfl) (fun _ _ _ h => h) (Or.inl ⟨by rfl, ?_⟩) hH ?_
  · intro w hSw; (try dsimp only at hSw); have kk := hSw.k; go_simp
  simp only [List.setIfInBounds_toArray, List.set_cons_zero, List.set_cons_succ]
  refine take_at (i := 18) (v := .int .i64 (K : Nat)) rfl rfl (by kernel_rfl) (by kernel_rfl) (by kernel_rfl) (fun _ _ _ h => h) (Or.inl ⟨by rfl, ?_⟩) hH ?_
  · intro w hSw; (try dsimp only at hSw); have kk := hSw.k; go_simp
  simp only [List.setIfInBounds_toArray, List.set_cons_zero, List.set_cons_succ]
  refine take_at (i := 19) (v := .slice P K C) rfl rfl (by kernel_rfl) (by kernel_rfl) (by kernel_rfl) (fun _ _ _ h => h) (Or.inl ⟨by rfl, ?_⟩) hH ?_
  · intro w hSw; (try dsimp only at hSw); have kk := hSw.k; go_simp
  simp only [List.setIfInBounds_toArray, List.set_cons_zero, List.set_cons_succ]
  refine wpAnyH_ready (rs := [20]) (by kernel_rfl) (by simp) ?_
  refine AllReadyH.cons rfl (fun K hK => ?_) AllReadyH.nil
  go_simp
  go_at_call 18
  refine (TO2.out _ hH).mono ?_
  rintro e w5 ⟨rfl, hb5⟩
  go_wp2_with fail
  refine hK.out _ _ (hH.next hb5) (fun hH5 => ?_)
  clear hK K
  clear hH
  refine take_at (i := 21) (v := .bool true) rfl rfl (by kernel_rfl) (by kernel_rfl) (by kernel_rfl) (fun _ _ _ h => h) (Or.inl ⟨by rfl, ?_⟩) hH5 ?_
  · intro w hSw; (try dsimp only at hSw); have kk := hSw.k; go_simp
  simp only [List.setIfInBounds_toArray, List.set_cons_zero, List.set_cons_succ]
  refine take_at (i := 22) (v := .bool true) rfl rfl (by kernel_rfl) (by kernel_rfl) (by kernel_rfl) (fun _ _ _ h => h) (Or.inl ⟨by rfl, ?_⟩) hH5 ?_
  · intro w hSw; (try dsimp only at hSw); have kk := hSw.k; go_simp
  simp only [List.setIfInBounds_toArray, List.set_cons_zero, List.set_cons_succ]
  refine wpAnyH_ready (rs := [23]) (by kernel_rfl) (by simp) ?_
  refine AllReadyH.cons rfl (fun K hK => ?_) AllReadyH.nil
  go_simp
  go_at_call 14
  refine (LV.out _ (HW.out.below hH5.b)).mono ?_
  rintro e w6 ⟨rfl, hb6⟩
  go_wp2_with fail
  refine hK.out _ _ (hH5.next hb6) (fun hH6 => ?_)
  clear hK K
  clear hH5
  refine take_at (i := 24) (v := .bool true) rfl rfl (by kernel_rfl) (by kernel_rfl) (by kernel_rfl) (fun _ _ _ h => h) (Or.inl ⟨by rfl, ?_⟩) hH6 ?_
  · intro w hSw; (try dsimp only at hSw); have kk := hSw.k; go_simp
  simp only [List.setIfInBounds_toArray, List.set_cons_zero, List.set_cons_succ]
  refine take_at (i := 25) (v := .bool true) rfl rfl (by kernel_rfl) (by kernel_rfl) (by kernel_rfl) (fun _ _ _ h => h) (Or.inl ⟨by rfl, ?_⟩) hH6 ?_
  · intro w hSw; (try dsimp only at hSw); have kk := hSw.k; go_simp
  simp only [List.setIfInBounds_toArray, List.set_cons_zero, List.set_cons_succ]
  refine wpAnyH_done (by kernel_rfl) ?_ _
  refine NoPanic.normal ?_
  have B9 := hH6.b
  go_wp2_with fail
  go_ret
  exact ⟨rfl, B9⟩
set_option maxHeartbeats 2000000 in
set_option maxRecDepth 1000000 in
theorem LexPrints_all (P : Option Addr) (C N : Nat) (L : List Ti) (S : List UInt8) (E : Int) (w : World) (hi : Inp w P C N L) (hS : pnS L = S) (hE : pnE L = E) (hW : Pw w) (he : E = 0) (M : List Ti) (T : List Tk) (e6 : Tk) (K N1 : Nat) (hT : tks S = ⟨T ++ [e6], 0, 0⟩) (h6 : e6.kind = 6) (hTM : T.map bare = M.map rdT') (hML : ∃ R, L = M ++ R) (hMK : M.length = K) (hN1 : N1 = K + 1) (hKN : K ≤ N) (J : Nat) (g o : Nat) (kd : Int) (hJ : N = J + 1) (hK : K = N) (hPg : P = some ⟨g, o, none⟩) (hc : w.cell? ⟨g, o + J * 8, none⟩ = some (.int .i64 kd)) (hk6 : kd ≠ 6) :
    Calls Tryz.prog 4 #[.slice P N C] w fun e w' => e = .returned (.bool true) ∧ Below w.heap.size w w' := by
  have PA : Hid (∀ (p : Option Addr) (c : Nat) w', tokII w' p L → N ≤ c → Below w.heap.size w w' → Calls Tryz.prog 15 #[.slice p N c] w' fun e w'' => e = .returned (.tuple #[.string ⟨S.toArray⟩, .int .i64 E]) ∧ Below w'.heap.size w' w'') := fun p c w' h1 h2 hb => by
    have h := lexPrint_any p c L w' h1 (by rw [hi.n]; exact h2) (fun t ht => (hi.z t ht).1) (hW.l.below hb) (hW.p.below hb)
    rw [hS, hE, hi.n] at h
    exact h
  have PB : Hid (∀ w', Below w.heap.size w w' → Calls Tryz.prog 16 #[.slice P N C] w' fun e w'' => e = .returned (.tuple #[.string ⟨S.toArray⟩, .int .i64 E]) ∧ Below w'.heap.size w' w'') := fun w' hb => by
    have h := refPrint_tok P C L w' (hi.i.below hb) hi.z (hW.below hb)
    rw [hS, hE, hi.n] at h
    exact h
  have LV : Hid (∀ w, LxW w → Calls Tryz.prog 14 #[] w fun e w' => e = .returned (.bool true) ∧ Below w.heap.size w w') := lives_any
  have HI : Hid (tokII w P L) := hi.i
  have HN : Hid (L.length = N) := hi.n
  have HC : Hid (P = none → C = 0) := hi.c
  have HPn : Hid (P = none → L = []) := hi.p
  have HB : Hid (N ≤ 3000000) := hi.b
  have HW : Hid (LxW w) := hW.l
  have rs : (S == S) = true := by simp
  have TK : Hid (∀ w, LxW w → Calls Tryz.prog 17 #[.string ⟨S.toArray⟩] w fun e w' => TkA (tks S) w.heap.size e w' ∧ Below w.heap.size w w') := fun w h => Tokens_any S w h
  rw [hT] at TK
  have hTK : T.length = K := by
    have := congrArg List.length hTM
    rw [List.length_map, List.length_map] at this
    omega
  have hlen : (T ++ [e6]).length = N1 := by simp [hTK, hN1]
  have TO : Hid (∀ (g1 d1 : Nat) w', Sl w g1 K P (T ++ [e6]) L w' → Calls Tryz.prog 18 #[.slice (some ⟨g1, 0, none⟩) K d1, .slice P K C, .bool false] w' fun e w'' => e = .returned (.bool true) ∧ Below w'.heap.size w' w'') := fun g1 d1 w' h => by
    obtain ⟨R, hR⟩ := hML
    have hl := h.l
    rw [hR] at hl
    exact tokens_loose _ P d1 C K T M w' h.m.head hl.head hTK hMK (by have := hi.b; omega) hTM
  have hKL : Hid ((T ++ [e6])[K]? = some e6) := by show _ = _; rw [← hTK]; simp
  have H6 : Hid (e6.kind = 6) := h6
  have HLen : Hid ((T ++ [e6]).length = N1) := hlen
  have hle := hi.le
  have u1 : (K : Int) ≤ (N : Int) := by omega
  have u2 : (N : Int) ≤ 3000000 := by have := hi.b; omega
  have u3 : (K : Int) ≤ (C : Int) := by omega
  have u4 : ((N1 : Int) == (K : Int) + 1) = true := by rw [beq_iff_eq]; omega
  have u5 : (K : Int) < (N1 : Int) := by omega
  have u6 : K ≤ N := hKN
  have u7 : K ≤ C := by omega
  have x1 : (0 : Int) < (N : Int) := by omega
  have x2 : (N : Int) - 1 = (J : Int) := by omega
  have x3 : (J : Int) < (N : Int) := by omega
  have w4' : (kd == 6) = false := by rw [beq_eq_false_iff_ne]; exact hk6
  have HCC : Hid (∀ w', Below w.heap.size w w' → w'.cell? ⟨g, o + J * 8, none⟩ = some (.int .i64 kd)) := fun w' hb => (hb.cell (p := ⟨g, o + J * 8, none⟩) (World.block_lt_of_cell? w _ hc)).trans hc
  subst hK hPg
  clear hJ hc hk6
  clear hi hS hE hW hT h6 hTM hML hMK hN1 hKN hTK hlen hle
  subst he
  go_enter Tryz.func4, Tryz.ntmps4
  go_wp2_with (at_builtin; refine app_TN rfl (.tmp 12) (.tmp 13) rfl L K HN.out (some ⟨g, o, none⟩) C rfl HI.out HC.out HPn.out rfl HB.out ?_; intro p1 c1 w1 hI1 hc1 hb1)
  refine (PA.out p1 c1 w1 hI1 hc1 hb1).mono ?_
  rintro e w2 ⟨rfl, hb2⟩
  have B2 := hb1.trans (hb2.mono hb1.size)
  clear hI1 hb2 PA
  go_wp2_with fail
  refine (PB.out _ B2).mono ?_
  rintro e w3 ⟨rfl, hb3⟩
  have B3 := B2.trans (hb3.mono B2.size)
  clear PB B2 hb3 hb1
  go_wp2_with fail
  refine (TK.out _ (HW.out.below B3)).mono ?_
  rintro e w4 ⟨ha, hb4⟩
  have B4 := B3.trans (hb4.mono B3.size)
  clear TK B3
  obtain ⟨q1, d1, X1, rfl, i1, j1, k1, r1, l1, m1⟩ := ha.open3
  clear ha
  have e1 := l1 (by first | rfl | trivial)
  subst e1
  simp only
  rw [HLen.out] at j1 ⊢
  obtain ⟨g1, rfl⟩ : ∃ g, q1 = some ⟨g, 0, none⟩ := by
    rcases r1 with ⟨_, h0, _⟩ | h
    · exact absurd h0 (by simp)
    · exact h
  have kk : w4.cell? ⟨g1, K * 8, none⟩ = some (.int .i64 6) := by
    rcases i1 with h | ⟨g, o, hp, h⟩
    · exact absurd h (by simp)
    · cases hp
      have := (h K e6 hKL.out).c0
      rw [H6.out, Nat.zero_add] at this
      exact this
  have n0 : Sl w g1 K (some ⟨g, o, none⟩) (T ++ [e6]) L w4 := ⟨B4, i1, HI.out.below B4, kk⟩
  have TO2 : Hid (∀ w', Sl w g1 K (some ⟨g, o, none⟩) (T ++ [e6]) L w' → Calls Tryz.prog 18 #[.slice (some ⟨g1, 0, none⟩) K d1, .slice (some ⟨g, o, none⟩) K C, .bool false] w' fun e w'' => e = .returned (.bool true) ∧ Below w'.heap.size w' w'') := fun w' h => TO.out g1 d1 w' h
  have v1 : (K : Int) ≤ (d1 : Int) := by omega
  have v2 : K ≤ d1 := by omega
  have v3 : IntKind.i64.wrap ((K : Int) + 1) = (K : Int) + 1 := by rw [IntKind.wrap_i64]; omega
  have cc := HCC.out _ B4
  clear TO l1 m1 i1 j1 k1 r1 kk hb4 hKL H6 HLen
  go_wp2_with fail
  refine wp_region_noPanic ?_
  refine wp_region_held_drew (S := fun w' => Sl w g1 K (some ⟨g, o, none⟩) (T ++ [e6]) L w') (by kernel_rfl) (n0.drew) (fun hH => ?_)
  refine take_at (i := 0) (v := .slice (some ⟨g1, 0, none⟩) N1 d1) rfl rfl (by kernel_rfl) (by kernel_rfl) (by kernel_rfl) (fun _ _ _ h => h) (Or.inl ⟨by rfl, ?_⟩) hH ?_
  · intro w hSw; (try dsimp only at hSw); have kk := hSw.k; go_simp
  simp only [List.setIfInBounds_toArray, List.set_cons_zero, List.set_cons_succ]
  refine take_at (i := 1) (v := .int .i64 (N1 : Nat)) rfl rfl (by kernel_rfl) (by kernel_rfl) (by kernel_rfl) (fun _ _ _ h => h) (Or.inl ⟨by rfl, ?_⟩) hH ?_
  · intro w hSw; (try dsimp only at hSw); have kk := hSw.k; go_simp
  simp only [List.setIfInBounds_toArray, List.set_cons_zero, List.set_cons_succ]
  refine take_at (i := 2) (v := .int .i64 (K : Nat)) rfl rfl (by kernel_rfl) (by kernel_rfl) (by kernel_rfl) (fun _ _ _ h => h) (Or.inl ⟨by rfl, ?_⟩) hH ?_
  · intro w hSw; (try dsimp only at hSw); have kk := hSw.k; go_simp
  simp only [List.setIfInBounds_toArray, List.set_cons_zero, List.set_cons_succ]
  refine take_at (i := 3) (v := .int .i64 ((K : Int) + 1)) rfl rfl (by kernel_rfl) (by kernel_rfl) (by kernel_rfl) (fun _ _ _ h => h) (Or.inl ⟨by rfl, ?_⟩) hH ?_
  · intro w hSw; (try dsimp only at hSw); have kk := hSw.k; go_simp
  simp only [List.setIfInBounds_toArray, List.set_cons_zero, List.set_cons_succ]
  refine take_at (i := 4) (v := .bool true) rfl rfl (by kernel_rfl) (by kernel_rfl) (by kernel_rfl) (fun _ _ _ h => h) (Or.inl ⟨by rfl, ?_⟩) hH ?_
  · intro w hSw; (try dsimp only at hSw); have kk := hSw.k; go_simp
  simp only [List.setIfInBounds_toArray, List.set_cons_zero, List.set_cons_succ]
  refine take_at (i := 5) (v := .bool true) rfl rfl (by kernel_rfl) (by kernel_rfl) (by kernel_rfl) (fun _ _ _ h => h) (Or.inl ⟨by rfl, ?_⟩) hH ?_
  · intro w hSw; (try dsimp only at hSw); have kk := hSw.k; go_simp
  simp only [List.setIfInBounds_toArray, List.set_cons_zero, List.set_cons_succ]
  refine take_at (i := 6) (v := .slice (some ⟨g1, 0, none⟩) N1 d1) rfl rfl (by kernel_rfl) (by kernel_rfl) (by kernel_rfl) (fun _ _ _ h => h) (Or.inl ⟨by rfl, ?_⟩) hH ?_
  · intro w hSw; (try dsimp only at hSw); have kk := hSw.k; go_simp
  simp only [List.setIfInBounds_toArray, List.set_cons_zero, List.set_cons_succ]
  refine take_at (i := 7) (v := .int .i64 (K : Nat)) rfl rfl (by kernel_rfl) (by kernel_rfl) (by kernel_rfl) (fun _ _ _ h => h) (Or.inl ⟨by rfl, ?_⟩) hH ?_
  · intro w hSw; (try dsimp only at hSw); have kk := hSw.k; go_simp
  simp only [List.setIfInBounds_toArray, List.set_cons_zero, List.set_cons_succ]
  refine take_at (i := 8) (v := .pointer (some ⟨g1, K * 8, none⟩)) rfl rfl (by kernel_rfl) (by kernel_rfl) (by kernel_rfl) (fun _ _ _ h => h) (Or.inl ⟨by rfl, ?_⟩) hH ?_
  · intro w hSw; (try dsimp only at hSw); have kk := hSw.k; go_simp
  simp only [List.setIfInBounds_toArray, List.set_cons_zero, List.set_cons_succ]
  refine take_at (i := 9) (v := .pointer (some ⟨g1, K * 8, none⟩)) rfl rfl (by kernel_rfl) (by kernel_rfl) (by kernel_rfl) (fun _ _ _ h => h) (Or.inl ⟨by rfl, ?_⟩) hH ?_
  · intro w hSw; (try dsimp only at hSw); have kk := hSw.k; go_simp
  simp only [List.setIfInBounds_toArray, List.set_cons_zero, List.set_cons_succ]
  refine take_at (i := 10) (v := .int .i64 6) rfl rfl (by kernel_rfl) (by kernel_rfl) (by kernel_rfl) (fun _ _ _ h => h) (Or.inl ⟨by rfl, ?_⟩) hH ?_
  · intro w hSw; (try dsimp only at hSw); have kk := hSw.k; go_simp
  simp only [List.setIfInBounds_toArray, List.set_cons_zero, List.set_cons_succ]
  refine take_at (i := 11) (v := .bool true) rfl rfl (by kernel_rfl) (by kernel_rfl) (by kernel_rfl) (fun _ _ _ h => h) (Or.inl ⟨by rfl, ?_⟩) hH ?_
  · intro w hSw; (try dsimp only at hSw); have kk := hSw.k; go_simp
  simp only [List.setIfInBounds_toArray, List.set_cons_zero, List.set_cons_succ]
  refine take_at (i := 12) (v := .bool true) rfl rfl (by kernel_rfl) (by kernel_rfl) (by kernel_rfl) (fun _ _ _ h => h) (Or.inl ⟨by rfl, ?_⟩) hH ?_
  · intro w hSw; (try dsimp only at hSw); have kk := hSw.k; go_simp
  simp only [List.setIfInBounds_toArray, List.set_cons_zero, List.set_cons_succ]
  refine take_at (i := 13) (v := .bool true) rfl rfl (by kernel_rfl) (by kernel_rfl) (by kernel_rfl) (fun _ _ _ h => h) (Or.inl ⟨by rfl, ?_⟩) hH ?_
  · intro w hSw; (try dsimp only at hSw); have kk := hSw.k; go_simp
  simp only [List.setIfInBounds_toArray, List.set_cons_zero, List.set_cons_succ]
  refine take_at (i := 14) (v := .slice (some ⟨g1, 0, none⟩) N1 d1) rfl rfl (by kernel_rfl) (by kernel_rfl) (by kernel_rfl) (fun _ _ _ h => h) (Or.inl ⟨by rfl, ?_⟩) hH ?_
  · intro w hSw; (try dsimp only at hSw); have kk := hSw.k; go_simp
  simp only [List.setIfInBounds_toArray, List.set_cons_zero, List.set_cons_succ]
  refine take_at (i := 15) (v := .int .i64 (K : Nat)) rfl rfl (by kernel_rfl) (by kernel_rfl) (by kernel_rfl) (fun _ _ _ h => h) (Or.inl ⟨by rfl, ?_⟩) hH ?_
  · intro w hSw; (try dsimp only at hSw); have kk := hSw.k; go_simp
  simp only [List.setIfInBounds_toArray, List.set_cons_zero, List.set_cons_succ]
  refine take_at (i := 16) (v := .slice (some ⟨g1, 0, none⟩) K d1) rfl rfl (by kernel_rfl) (by kernel_rfl) (by kernel_rfl) (fun _ _ _ h => h) (Or.inl ⟨by rfl, ?_⟩) hH ?_
  · intro w hSw; (try dsimp only at hSw); have kk := hSw.k; go_simp
  simp only [List.setIfInBounds_toArray, List.set_cons_zero, List.set_cons_succ]
  refine take_at (i := 17) (v := .slice (some ⟨g, o, none⟩) K C) rfl rfl (by kernel_rfl) (by kernel_rfl) (by kernel_rfl) (fun _ _ _ h => h) (Or.inl ⟨by rfl, ?_⟩) hH ?_
  · intro w hSw; (try dsimp only at hSw); have kk := hSw.k; go_simp
  simp only [List.setIfInBounds_toArray, List.set_cons_zero, List.set_cons_succ]
  refine take_at (i := 18) (v := .int .i64 (K : Nat)) rfl rfl (by kernel_rfl) (by kernel_rfl) (by kernel_rfl) (fun _ _ _ h => h) (Or.inl ⟨by rfl, ?_⟩) hH ?_
  · intro w hSw; (try dsimp only at hSw); have kk := hSw.k; go_simp
  simp only [List.setIfInBounds_toArray, List.set_cons_zero, List.set_cons_succ]
  refine take_at (i := 19) (v := .slice (some ⟨g, o, none⟩) K C) rfl rfl (by kernel_rfl) (by kernel_rfl) (by kernel_rfl) (fun _ _ _ h => h) (Or.inl ⟨by rfl, ?_⟩) hH ?_
  · intro w hSw; (try dsimp only at hSw); have kk := hSw.k; go_simp
  simp only [List.setIfInBounds_toArray, List.set_cons_zero, List.set_cons_succ]
  refine wpAnyH_ready (rs := [20]) (by kernel_rfl) (by simp) ?_
  refine AllReadyH.cons rfl (fun K hK => ?_) AllReadyH.nil
  go_simp
  go_at_call 18
  refine (TO2.out _ hH).mono ?_
  rintro e w5 ⟨rfl, hb5⟩
  go_wp2_with fail
  refine hK.out _ _ (hH.next hb5) (fun hH5 => ?_)
  clear hK K
  clear hH
  refine take_at (i := 21) (v := .bool true) rfl rfl (by kernel_rfl) (by kernel_rfl) (by kernel_rfl) (fun _ _ _ h => h) (Or.inl ⟨by rfl, ?_⟩) hH5 ?_
  · intro w hSw; (try dsimp only at hSw); have kk := hSw.k; go_simp
  simp only [List.setIfInBounds_toArray, List.set_cons_zero, List.set_cons_succ]
  refine take_at (i := 22) (v := .bool true) rfl rfl (by kernel_rfl) (by kernel_rfl) (by kernel_rfl) (fun _ _ _ h => h) (Or.inl ⟨by rfl, ?_⟩) hH5 ?_
  · intro w hSw; (try dsimp only at hSw); have kk := hSw.k; go_simp
  simp only [List.setIfInBounds_toArray, List.set_cons_zero, List.set_cons_succ]
  refine wpAnyH_ready (rs := [23]) (by kernel_rfl) (by simp) ?_
  refine AllReadyH.cons rfl (fun K hK => ?_) AllReadyH.nil
  go_simp
  go_at_call 14
  refine (LV.out _ (HW.out.below hH5.b)).mono ?_
  rintro e w6 ⟨rfl, hb6⟩
  go_wp2_with fail
  refine hK.out _ _ (hH5.next hb6) (fun hH6 => ?_)
  clear hK K
  clear hH5
  refine take_at (i := 24) (v := .bool true) rfl rfl (by kernel_rfl) (by kernel_rfl) (by kernel_rfl) (fun _ _ _ h => h) (Or.inl ⟨by rfl, ?_⟩) hH6 ?_
  · intro w hSw; (try dsimp only at hSw); have kk := hSw.k; go_simp
  simp only [List.setIfInBounds_toArray, List.set_cons_zero, List.set_cons_succ]
  refine take_at (i := 25) (v := .bool true) rfl rfl (by kernel_rfl) (by kernel_rfl) (by kernel_rfl) (fun _ _ _ h => h) (Or.inl ⟨by rfl, ?_⟩) hH6 ?_
  · intro w hSw; (try dsimp only at hSw); have kk := hSw.k; go_simp
  simp only [List.setIfInBounds_toArray, List.set_cons_zero, List.set_cons_succ]
  refine wpAnyH_done (by kernel_rfl) ?_ _
  refine NoPanic.normal ?_
  have B9 := hH6.b
  go_wp2_with fail
  go_ret
  exact ⟨rfl, B9⟩
set_option maxHeartbeats 2000000 in
set_option maxRecDepth 1000000 in
theorem LexPrints_end (P : Option Addr) (C N : Nat) (L : List Ti) (S : List UInt8) (E : Int) (w : World) (hi : Inp w P C N L) (hS : pnS L = S) (hE : pnE L = E) (hW : Pw w) (he : E = 0) (M : List Ti) (T : List Tk) (e6 : Tk) (K N1 : Nat) (hT : tks S = ⟨T ++ [e6], 0, 0⟩) (h6 : e6.kind = 6) (hTM : T.map bare = M.map rdT') (hML : ∃ R, L = M ++ R) (hMK : M.length = K) (hN1 : N1 = K + 1) (hKN : K ≤ N) (g o : Nat) (hK : N = K + 1) (hPg : P = some ⟨g, o, none⟩) (hc : w.cell? ⟨g, o + K * 8, none⟩ = some (.int .i64 6)) :
    Calls Tryz.prog 4 #[.slice P N C] w fun e w' => e = .returned (.bool true) ∧ Below w.heap.size w w' := by
  have PA : Hid (∀ (p : Option Addr) (c : Nat) w', tokII w' p L → N ≤ c → Below w.heap.size w w' → Calls Tryz.prog 15 #[.slice p N c] w' fun e w'' => e = .returned (.tuple #[.string ⟨S.toArray⟩, .int .i64 E]) ∧ Below w'.heap.size w' w'') := fun p c w' h1 h2 hb => by
    have h := lexPrint_any p c L w' h1 (by rw [hi.n]; exact h2) (fun t ht => (hi.z t ht).1) (hW.l.below hb) (hW.p.below hb)
    rw [hS, hE, hi.n] at h
    exact h
  have PB : Hid (∀ w', Below w.heap.size w w' → Calls Tryz.prog 16 #[.slice P N C] w' fun e w'' => e = .returned (.tuple #[.string ⟨S.toArray⟩, .int .i64 E]) ∧ Below w'.heap.size w' w'') := fun w' hb => by
    have h := refPrint_tok P C L w' (hi.i.below hb) hi.z (hW.below hb)
    rw [hS, hE, hi.n] at h
    exact h
  have LV : Hid (∀ w, LxW w → Calls Tryz.prog 14 #[] w fun e w' => e = .returned (.bool true) ∧ Below w.heap.size w w') := lives_any
  have HI : Hid (tokII w P L) := hi.i
  have HN : Hid (L.length = N) := hi.n
  have HC : Hid (P = none → C = 0) := hi.c
  have HPn : Hid (P = none → L = []) := hi.p
  have HB : Hid (N ≤ 3000000) := hi.b
  have HW : Hid (LxW w) := hW.l
  have rs : (S == S) = true := by simp
  have TK : Hid (∀ w, LxW w → Calls Tryz.prog 17 #[.string ⟨S.toArray⟩] w fun e w' => TkA (tks S) w.heap.size e w' ∧ Below w.heap.size w w') := fun w h => Tokens_any S w h
  rw [hT] at TK
  have hTK : T.length = K := by
    have := congrArg List.length hTM
    rw [List.length_map, List.length_map] at this
    omega
  have hlen : (T ++ [e6]).length = N1 := by simp [hTK, hN1]
  have TO : Hid (∀ (g1 d1 : Nat) w', Sl w g1 K P (T ++ [e6]) L w' → Calls Tryz.prog 18 #[.slice (some ⟨g1, 0, none⟩) K d1, .slice P K C, .bool false] w' fun e w'' => e = .returned (.bool true) ∧ Below w'.heap.size w' w'') := fun g1 d1 w' h => by
    obtain ⟨R, hR⟩ := hML
    have hl := h.l
    rw [hR] at hl
    exact tokens_loose _ P d1 C K T M w' h.m.head hl.head hTK hMK (by have := hi.b; omega) hTM
  have hKL : Hid ((T ++ [e6])[K]? = some e6) := by show _ = _; rw [← hTK]; simp
  have H6 : Hid (e6.kind = 6) := h6
  have HLen : Hid ((T ++ [e6]).length = N1) := hlen
  have hle := hi.le
  have u1 : (K : Int) ≤ (N : Int) := by omega
  have u2 : (N : Int) ≤ 3000000 := by have := hi.b; omega
  have u3 : (K : Int) ≤ (C : Int) := by omega
  have u4 : ((N1 : Int) == (K : Int) + 1) = true := by rw [beq_iff_eq]; omega
  have u5 : (K : Int) < (N1 : Int) := by omega
  have u6 : K ≤ N := hKN
  have u7 : K ≤ C := by omega
  have x1 : (0 : Int) < (N : Int) := by omega
  have x2 : (N : Int) - 1 = (K : Int) := by omega
  have x3 : (K : Int) < (N : Int) := by omega
  have HCC : Hid (∀ w', Below w.heap.size w w' → w'.cell? ⟨g, o + K * 8, none⟩ = some (.int .i64 6)) := fun w' hb => (hb.cell (p := ⟨g, o + K * 8, none⟩) (World.block_lt_of_cell? w _ hc)).trans hc
  subst hPg
  clear hK hc
  clear hi hS hE hW hT h6 hTM hML hMK hN1 hKN hTK hlen hle
  subst he
  go_enter Tryz.func4, Tryz.ntmps4
  go_wp2_with (at_builtin; refine app_TN rfl (.tmp 12) (.tmp 13) rfl L N HN.out (some ⟨g, o, none⟩) C rfl HI.out HC.out HPn.out rfl HB.out ?_; intro p1 c1 w1 hI1 hc1 hb1)
  refine (PA.out p1 c1 w1 hI1 hc1 hb1).mono ?_
  rintro e w2 ⟨rfl, hb2⟩
  have B2 := hb1.trans (hb2.mono hb1.size)
  clear hI1 hb2 PA
  go_wp2_with fail
  refine (PB.out _ B2).mono ?_
  rintro e w3 ⟨rfl, hb3⟩
  have B3 := B2.trans (hb3.mono B2.size)
  clear PB B2 hb3 hb1
  go_wp2_with fail
  refine (TK.out _ (HW.out.below B3)).mono ?_
  rintro e w4 ⟨ha, hb4⟩
  have B4 := B3.trans (hb4.mono B3.size)
  clear TK B3
  obtain ⟨q1, d1, X1, rfl, i1, j1, k1, r1, l1, m1⟩ := ha.open3
  clear ha
  have e1 := l1 (by first | rfl | trivial)
  subst e1
  simp only
  rw [HLen.out] at j1 ⊢
  obtain ⟨g1, rfl⟩ : ∃ g, q1 = some ⟨g, 0, none⟩ := by
    rcases r1 with ⟨_, h0, _⟩ | h
    · exact absurd h0 (by simp)
    · exact h
  have kk : w4.cell? ⟨g1, K * 8, none⟩ = some (.int .i64 6) := by
    rcases i1 with h | ⟨g, o, hp, h⟩
    · exact absurd h (by simp)
    · cases hp
      have := (h K e6 hKL.out).c0
      rw [H6.out, Nat.zero_add] at this
      exact this
  have n0 : Sl w g1 K (some ⟨g, o, none⟩) (T ++ [e6]) L w4 := ⟨B4, i1, HI.out.below B4, kk⟩
  have TO2 : Hid (∀ w', Sl w g1 K (some ⟨g, o, none⟩) (T ++ [e6]) L w' → Calls Tryz.prog 18 #[.slice (some ⟨g1, 0, none⟩) K d1, .slice (some ⟨g, o, none⟩) K C, .bool false] w' fun e w'' => e = .returned (.bool true) ∧ Below w'.heap.size w' w'') := fun w' h => TO.out g1 d1 w' h
  have v1 : (K : Int) ≤ (d1 : Int) := by omega
  have v2 : K ≤ d1 := by omega
  have v3 : IntKind.i64.wrap ((K : Int) + 1) = (K : Int) + 1 := by rw [IntKind.wrap_i64]; omega
  have cc := HCC.out _ B4
  clear TO l1 m1 i1 j1 k1 r1 kk hb4 hKL H6 HLen
  go_wp2_with fail
  refine wp_region_noPanic ?_
  refine wp_region_held_drew (S := fun w' => Sl w g1 K (some ⟨g, o, none⟩) (T ++ [e6]) L w') (by kernel_rfl) (n0.drew) (fun hH => ?_)
  refine take_at (i := 0) (v := .slice (some ⟨g1, 0, none⟩) N1 d1) rfl rfl (by kernel_rfl) (by kernel_rfl) (by kernel_rfl) (fun _ _ _ h => h) (Or.inl ⟨by rfl, ?_⟩) hH ?_
  · intro w hSw; (try dsimp only at hSw); have kk := hSw.k; go_simp
  simp only [List.setIfInBounds_toArray, List.set_cons_zero, List.set_cons_succ]
  refine take_at (i := 1) (v := .int .i64 (N1 : Nat)) rfl rfl (by kernel_rfl) (by kernel_rfl) (by kernel_rfl) (fun _ _ _ h => h) (Or.inl ⟨by rfl, ?_⟩) hH ?_
  · intro w hSw; (try dsimp only at hSw); have kk := hSw.k; go_simp
  simp only [List.setIfInBounds_toArray, List.set_cons_zero, List.set_cons_succ]
  refine take_at (i := 2) (v := .int .i64 (K : Nat)) rfl rfl (by kernel_rfl) (by kernel_rfl) (by kernel_rfl) (fun _ _ _ h => h) (Or.inl ⟨by rfl, ?_⟩) hH ?_
  · intro w hSw; (try dsimp only at hSw); have kk := hSw.k; go_simp
  simp only [List.setIfInBounds_toArray, List.set_cons_zero, List.set_cons_succ]
  refine take_at (i := 3) (v := .int .i64 ((K : Int) + 1)) rfl rfl (by kernel_rfl) (by kernel_rfl) (by kernel_rfl) (fun _ _ _ h => h) (Or.inl ⟨by rfl, ?_⟩) hH ?_
  · intro w hSw; (try dsimp only at hSw); have kk := hSw.k; go_simp
  simp only [List.setIfInBounds_toArray, List.set_cons_zero, List.set_cons_succ]
  refine take_at (i := 4) (v := .bool true) rfl rfl (by kernel_rfl) (by kernel_rfl) (by kernel_rfl) (fun _ _ _ h => h) (Or.inl ⟨by rfl, ?_⟩) hH ?_
  · intro w hSw; (try dsimp only at hSw); have kk := hSw.k; go_simp
  simp only [List.setIfInBounds_toArray, List.set_cons_zero, List.set_cons_succ]
  refine take_at (i := 5) (v := .bool true) rfl rfl (by kernel_rfl) (by kernel_rfl) (by kernel_rfl) (fun _ _ _ h => h) (Or.inl ⟨by rfl, ?_⟩) hH ?_
  · intro w hSw; (try dsimp only at hSw); have kk := hSw.k; go_simp
  simp only [List.setIfInBounds_toArray, List.set_cons_zero, List.set_cons_succ]
  refine take_at (i := 6) (v := .slice (some ⟨g1, 0, none⟩) N1 d1) rfl rfl (by kernel_rfl) (by kernel_rfl) (by kernel_rfl) (fun _ _ _ h => h) (Or.inl ⟨by rfl, ?_⟩) hH ?_
  · intro w hSw; (try dsimp only at hSw); have kk := hSw.k; go_simp
  simp only [List.setIfInBounds_toArray, List.set_cons_zero, List.set_cons_succ]
  refine take_at (i := 7) (v := .int .i64 (K : Nat)) rfl rfl (by kernel_rfl) (by kernel_rfl) (by kernel_rfl) (fun _ _ _ h => h) (Or.inl ⟨by rfl, ?_⟩) hH ?_
  · intro w hSw; (try dsimp only at hSw); have kk := hSw.k; go_simp
  simp only [List.setIfInBounds_toArray, List.set_cons_zero, List.set_cons_succ]
  refine take_at (i := 8) (v := .pointer (some ⟨g1, K * 8, none⟩)) rfl rfl (by kernel_rfl) (by kernel_rfl) (by kernel_rfl) (fun _ _ _ h => h) (Or.inl ⟨by rfl, ?_⟩) hH ?_
  · intro w hSw; (try dsimp only at hSw); have kk := hSw.k; go_simp
  simp only [List.setIfInBounds_toArray, List.set_cons_zero, List.set_cons_succ]
  refine take_at (i := 9) (v := .pointer (some ⟨g1, K * 8, none⟩)) rfl rfl (by kernel_rfl) (by kernel_rfl) (by kernel_rfl) (fun _ _ _ h => h) (Or.inl ⟨by rfl, ?_⟩) hH ?_
  · intro w hSw; (try dsimp only at hSw); have kk := hSw.k; go_simp
  simp only [List.setIfInBounds_toArray, List.set_cons_zero, List.set_cons_succ]
  refine take_at (i := 10) (v := .int .i64 6) rfl rfl (by kernel_rfl) (by kernel_rfl) (by kernel_rfl) (fun _ _ _ h => h) (Or.inl ⟨by rfl, ?_⟩) hH ?_
  · intro w hSw; (try dsimp only at hSw); have kk := hSw.k; go_simp
  simp only [List.setIfInBounds_toArray, List.set_cons_zero, List.set_cons_succ]
  refine take_at (i := 11) (v := .bool true) rfl rfl (by kernel_rfl) (by kernel_rfl) (by kernel_rfl) (fun _ _ _ h => h) (Or.inl ⟨by rfl, ?_⟩) hH ?_
  · intro w hSw; (try dsimp only at hSw); have kk := hSw.k; go_simp
  simp only [List.setIfInBounds_toArray, List.set_cons_zero, List.set_cons_succ]
  refine take_at (i := 12) (v := .bool true) rfl rfl (by kernel_rfl) (by kernel_rfl) (by kernel_rfl) (fun _ _ _ h => h) (Or.inl ⟨by rfl, ?_⟩) hH ?_
  · intro w hSw; (try dsimp only at hSw); have kk := hSw.k; go_simp
  simp only [List.setIfInBounds_toArray, List.set_cons_zero, List.set_cons_succ]
  refine take_at (i := 13) (v := .bool true) rfl rfl (by kernel_rfl) (by kernel_rfl) (by kernel_rfl) (fun _ _ _ h => h) (Or.inl ⟨by rfl, ?_⟩) hH ?_
  · intro w hSw; (try dsimp only at hSw); have kk := hSw.k; go_simp
  simp only [List.setIfInBounds_toArray, List.set_cons_zero, List.set_cons_succ]
  refine take_at (i := 14) (v := .slice (some ⟨g1, 0, none⟩) N1 d1) rfl rfl (by kernel_rfl) (by kernel_rfl) (by kernel_rfl) (fun _ _ _ h => h) (Or.inl ⟨by rfl, ?_⟩) hH ?_
  · intro w hSw; (try dsimp only at hSw); have kk := hSw.k; go_simp
  simp only [List.setIfInBounds_toArray, List.set_cons_zero, List.set_cons_succ]
  refine take_at (i := 15) (v := .int .i64 (K : Nat)) rfl rfl (by kernel_rfl) (by kernel_rfl) (by kernel_rfl) (fun _ _ _ h => h) (Or.inl ⟨by rfl, ?_⟩) hH ?_
  · intro w hSw; (try dsimp only at hSw); have kk := hSw.k; go_simp
  simp only [List.setIfInBounds_toArray, List.set_cons_zero, List.set_cons_succ]
  refine take_at (i := 16) (v := .slice (some ⟨g1, 0, none⟩) K d1) rfl rfl (by kernel_rfl) (by kernel_rfl) (by kernel_rfl) (fun _ _ _ h => h) (Or.inl ⟨by rfl, ?_⟩) hH ?_
  · intro w hSw; (try dsimp only at hSw); have kk := hSw.k; go_simp
  simp only [List.setIfInBounds_toArray, List.set_cons_zero, List.set_cons_succ]
  refine take_at (i := 17) (v := .slice (some ⟨g, o, none⟩) N C) rfl rfl (by kernel_rfl) (by kernel_rfl) (by kernel_rfl) (fun _ _ _ h => h) (Or.inl ⟨by rfl, ?_⟩) hH ?_
  · intro w hSw; (try dsimp only at hSw); have kk := hSw.k; go_simp
  simp only [List.setIfInBounds_toArray, List.set_cons_zero, List.set_cons_succ]
  refine take_at (i := 18) (v := .int .i64 (K : Nat)) rfl rfl (by kernel_rfl) (by kernel_rfl) (by kernel_rfl) (fun _ _ _ h => h) (Or.inl ⟨by rfl, ?_⟩) hH ?_
  · intro w hSw; (try dsimp only at hSw); have kk := hSw.k; go_simp
  simp only [List.setIfInBounds_toArray, List.set_cons_zero, List.set_cons_succ]
  refine take_at (i := 19) (v := .slice (some ⟨g, o, none⟩) K C) rfl rfl (by kernel_rfl) (by kernel_rfl) (by kernel_rfl) (fun _ _ _ h => h) (Or.inl ⟨by rfl, ?_⟩) hH ?_
  · intro w hSw; (try dsimp only at hSw); have kk := hSw.k; go_simp
  simp only [List.setIfInBounds_toArray, List.set_cons_zero, List.set_cons_succ]
  refine wpAnyH_ready (rs := [20]) (by kernel_rfl) (by simp) ?_
  refine AllReadyH.cons rfl (fun K hK => ?_) AllReadyH.nil
  go_simp
  go_at_call 18
  refine (TO2.out _ hH).mono ?_
  rintro e w5 ⟨rfl, hb5⟩
  go_wp2_with fail
  refine hK.out _ _ (hH.next hb5) (fun hH5 => ?_)
  clear hK K
  clear hH
  refine take_at (i := 21) (v := .bool true) rfl rfl (by kernel_rfl) (by kernel_rfl) (by kernel_rfl) (fun _ _ _ h => h) (Or.inl ⟨by rfl, ?_⟩) hH5 ?_
  · intro w hSw; (try dsimp only at hSw); have kk := hSw.k; go_simp
  simp only [List.setIfInBounds_toArray, List.set_cons_zero, List.set_cons_succ]
  refine take_at (i := 22) (v := .bool true) rfl rfl (by kernel_rfl) (by kernel_rfl) (by kernel_rfl) (fun _ _ _ h => h) (Or.inl ⟨by rfl, ?_⟩) hH5 ?_
  · intro w hSw; (try dsimp only at hSw); have kk := hSw.k; go_simp
  simp only [List.setIfInBounds_toArray, List.set_cons_zero, List.set_cons_succ]
  refine wpAnyH_ready (rs := [23]) (by kernel_rfl) (by simp) ?_
  refine AllReadyH.cons rfl (fun K hK => ?_) AllReadyH.nil
  go_simp
  go_at_call 14
  refine (LV.out _ (HW.out.below hH5.b)).mono ?_
  rintro e w6 ⟨rfl, hb6⟩
  go_wp2_with fail
  refine hK.out _ _ (hH5.next hb6) (fun hH6 => ?_)
  clear hK K
  clear hH5
  refine take_at (i := 24) (v := .bool true) rfl rfl (by kernel_rfl) (by kernel_rfl) (by kernel_rfl) (fun _ _ _ h => h) (Or.inl ⟨by rfl, ?_⟩) hH6 ?_
  · intro w hSw; (try dsimp only at hSw); have kk := hSw.k; go_simp
  simp only [List.setIfInBounds_toArray, List.set_cons_zero, List.set_cons_succ]
  refine take_at (i := 25) (v := .bool true) rfl rfl (by kernel_rfl) (by kernel_rfl) (by kernel_rfl) (fun _ _ _ h => h) (Or.inl ⟨by rfl, ?_⟩) hH6 ?_
  · intro w hSw; (try dsimp only at hSw); have kk := hSw.k; go_simp
  simp only [List.setIfInBounds_toArray, List.set_cons_zero, List.set_cons_succ]
  refine wpAnyH_done (by kernel_rfl) ?_ _
  refine NoPanic.normal ?_
  have B9 := hH6.b
  go_wp2_with fail
  go_ret
  exact ⟨rfl, B9⟩
theorem LexPrints_any (P : Option Addr) (C N : Nat) (L : List Ti) (w : World) (hi : Inp w P C N L) (hW : Pw w) :
    Calls Tryz.prog 4 #[.slice P N C] w fun e w' => e = .returned (.bool true) ∧ Below w.heap.size w w' := by
  by_cases he : pnE L = 0
  · by_cases hl : 65536 < (pnS L).length
    · exact LexPrints_long P C N L _ _ w hi rfl rfl hW he hl
    · obtain ⟨h1, h2⟩ := pn_read (fun t ht => (hi.z t ht).1.n) he (by omega)
      have h3 := tks_pos (pnS L) h1
      obtain ⟨T, R, h4, h5, h6⟩ := List.map_eq_append_iff.1 h2
      obtain ⟨e6, rfl, h7⟩ : ∃ e6, R = [e6] ∧ bare e6 = (6, [], v0) := by
        rcases R with _ | ⟨e, _ | ⟨f, R⟩⟩
        · simp at h6
        · exact ⟨e, rfl, by simpa using h6⟩
        · simp at h6
      have hT : tks (pnS L) = ⟨T ++ [e6], 0, 0⟩ := by
        generalize tks (pnS L) = t at *
        obtain ⟨tl, tp, tw⟩ := t
        simp only at h1 h3 h4
        subst h1 h4
        rw [h3]
      have h8 : e6.kind = 6 := congrArg Prod.fst h7
      rcases snoc_cases L with rfl | ⟨M, t, rfl⟩
      · exact LexPrints_none P C N [] _ _ w hi rfl rfl hW he [] T e6 N (N + 1) hT h8 h5 ⟨[], rfl⟩ (by have := hi.n; simpa using this) rfl (Nat.le_refl _) (by have := hi.n; simpa using this.symm) rfl
      · obtain ⟨g, o, hPe, hx⟩ := hi.i.at (last_at M t)
        have c0 := (hx _ _ (last_at M t)).c0
        have hn := hi.n
        simp only [List.length_append, List.length_cons, List.length_nil] at hn
        by_cases hk : t.kind = 6
        · rw [cutE_end hk] at h5
          rw [hk] at c0
          exact LexPrints_end P C N (M ++ [t]) _ _ w hi rfl rfl hW he M T e6 M.length (M.length + 1) hT h8 h5 ⟨[t], rfl⟩ rfl rfl (by omega) g o (by omega) hPe c0
        · rw [cutE_not hk] at h5
          exact LexPrints_all P C N (M ++ [t]) _ _ w hi rfl rfl hW he (M ++ [t]) T e6 N (N + 1) hT h8 h5 ⟨[], by simp⟩ (by simp; omega) rfl (Nat.le_refl _) M.length g o t.kind (by omega) rfl hPe c0 hk
  · exact LexPrints_err P C N L _ _ w hi rfl rfl hW he
end Go.Proofs.YtfcolecglobcdaaGreatDoor
