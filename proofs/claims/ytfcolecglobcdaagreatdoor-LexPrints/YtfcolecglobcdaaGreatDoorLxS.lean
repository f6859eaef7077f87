/-
  Tokens of a list, read; the walk of tokens, of lists that are the same.
-/
import Derived.Test.YtfcolecglobcdaaGreatDoorLxR
namespace Go.Proofs.YtfcolecglobcdaaGreatDoor
open Go.RowKit Go.Shelf

/-- a token lies at a place -/
structure T8 (w : World) (g o : Nat) (t : Tk) : Prop where
  c0 : w.cell? ⟨g, o, none⟩ = some (.int .i64 t.kind)
  c1 : w.cell? ⟨g, o + 1, none⟩ = some (.string ⟨t.text.toArray⟩)
  c2 : w.cell? ⟨g, o + 2, none⟩ = some (.int .i64 t.v.ty)
  c3 : w.cell? ⟨g, o + 3, none⟩ = some (.int .i64 t.v.n)
  c4 : w.cell? ⟨g, o + 4, none⟩ = some (.string t.v.s)
  c5 : w.cell? ⟨g, o + 5, none⟩ = some (.int .i64 (t.pos : Nat))
  c6 : w.cell? ⟨g, o + 6, none⟩ = some (.int .i64 (t.line : Nat))
  c7 : w.cell? ⟨g, o + 7, none⟩ = some (.int .i64 (t.col : Nat))
theorem T8.below {w w' : World} {g o : Nat} {t : Tk} (h : T8 w g o t) (hb : Below w.heap.size w w') : T8 w' g o t := by
  have hl := World.block_lt_of_cell? w _ h.c0
  exact ⟨(hb.cell (p := ⟨g, o, none⟩) hl).trans h.c0, (hb.cell (p := ⟨g, o + 1, none⟩) hl).trans h.c1, (hb.cell (p := ⟨g, o + 2, none⟩) hl).trans h.c2, (hb.cell (p := ⟨g, o + 3, none⟩) hl).trans h.c3, (hb.cell (p := ⟨g, o + 4, none⟩) hl).trans h.c4, (hb.cell (p := ⟨g, o + 5, none⟩) hl).trans h.c5, (hb.cell (p := ⟨g, o + 6, none⟩) hl).trans h.c6, (hb.cell (p := ⟨g, o + 7, none⟩) hl).trans h.c7⟩
/-- tokens lie in a row -/
def tokIn (w : World) (p : Option Addr) (L : List Tk) : Prop := L = [] ∨ ∃ g o, p = some ⟨g, o, none⟩ ∧ ∀ i t, L[i]? = some t → T8 w g (o + i * 8) t
theorem tokIn.below {w w' : World} {p : Option Addr} {L : List Tk} (h : tokIn w p L) (hb : Below w.heap.size w w') : tokIn w' p L := by
  rcases h with h | ⟨g, o, hp, h⟩
  · exact Or.inl h
  · exact Or.inr ⟨g, o, hp, fun i t ht => (h i t ht).below hb⟩
theorem tokIn.head {w : World} {p : Option Addr} {L M : List Tk} (h : tokIn w p (L ++ M)) : tokIn w p L := by
  rcases h with h | ⟨g, o, hp, h⟩
  · exact Or.inl (List.append_eq_nil_iff.1 h).1
  · exact Or.inr ⟨g, o, hp, fun i t ht => h i t (by rw [List.getElem?_append_left (List.getElem?_eq_some_iff.1 ht).1]; exact ht)⟩
theorem tokIn.tail {w : World} {g o : Nat} {L M : List Tk} (h : tokIn w (some ⟨g, o, none⟩) (L ++ M)) : tokIn w (some ⟨g, o + L.length * 8, none⟩) M := by
  rcases h with h | ⟨g', o', hp, h⟩
  · exact Or.inl (List.append_eq_nil_iff.1 h).2
  · cases hp
    refine Or.inr ⟨g, o + L.length * 8, rfl, fun i t ht => ?_⟩
    have h1 := h (L.length + i) t (by rw [List.getElem?_append_right (by omega)]; simpa using ht)
    rw [Nat.add_mul, ← Nat.add_assoc] at h1
    exact h1
theorem ownsT.read {w : World} {base : Nat} {v : Value} {l : List Tk} (h : ownsT w base v l) : ∃ (p : Option Addr) (c : Nat), v = .slice p l.length c ∧ tokIn w p l ∧ l.length ≤ c ∧ c ≤ 9223372036854775807 ∧ ((p = none ∧ l = [] ∧ c = 0) ∨ ∃ g, p = some ⟨g, 0, none⟩) := by
  rcases h.2 with ⟨rfl, h0⟩ | ⟨g, cap, cur, rfl, hb, hcur, h1, h2, h3, h4⟩
  · obtain rfl : l = [] := List.eq_nil_of_length_eq_zero h0
    exact ⟨none, 0, rfl, Or.inl rfl, Nat.le_refl _, Nat.zero_le _, Or.inl ⟨rfl, rfl, rfl⟩⟩
  · refine ⟨some ⟨g, 0, none⟩, cap, rfl, Or.inr ⟨g, 0, rfl, fun i t ht => ?_⟩, h1, by unfold maxLen at h2; exact h2, Or.inr ⟨g, rfl⟩⟩
    have hi := (List.getElem?_eq_some_iff.1 ht).1
    have k : ∀ r, r < 8 → (flatT l)[i * 8 + r]? = (cellsT t)[r]? := fun r hr => flatT_get l i t r ht hr
    rw [Nat.zero_add]
    refine ⟨?_, ?_, ?_, ?_, ?_, ?_, ?_, ?_⟩
    · rw [World.ownsRow.cellAt h _ (by omega)]; exact k 0 (by omega)
    · rw [World.ownsRow.cellAt h _ (by omega)]; exact k 1 (by omega)
    · rw [World.ownsRow.cellAt h _ (by omega)]; exact k 2 (by omega)
    · rw [World.ownsRow.cellAt h _ (by omega)]; exact k 3 (by omega)
    · rw [World.ownsRow.cellAt h _ (by omega)]; exact k 4 (by omega)
    · rw [World.ownsRow.cellAt h _ (by omega)]; exact k 5 (by omega)
    · rw [World.ownsRow.cellAt h _ (by omega)]; exact k 6 (by omega)
    · rw [World.ownsRow.cellAt h _ (by omega)]; exact k 7 (by omega)
/-- two tokens, read -/
structure R2 (w : World) (g1 o1 g2 o2 : Nat) (t u : Tk) (w' : World) : Prop where
  b : Below w.heap.size w w'
  x : T8 w' g1 o1 t
  y : T8 w' g2 o2 u
theorem R2.next {w : World} {g1 o1 g2 o2 : Nat} {t u : Tk} {w' w'' : World} (h : R2 w g1 o1 g2 o2 t u w') (hb : Below w'.heap.size w' w'') : R2 w g1 o1 g2 o2 t u w'' := ⟨h.b.trans (hb.mono h.b.size), h.x.below hb, h.y.below hb⟩
theorem R2.drew {w : World} {g1 o1 g2 o2 : Nat} {t u : Tk} {w' : World} (h : R2 w g1 o1 g2 o2 t u w') : R2 w g1 o1 g2 o2 t u w'.drew := h.next (below_drewN (Below.refl _ w') 1)
set_option maxHeartbeats 2000000 in
set_option maxRecDepth 1000000 in
theorem tokens_any (p1 p2 : Option Addr) (c1 c2 N : Nat) (L1 L2 : List Tk) (ab : Bool) (w : World) (h1 : tokIn w p1 L1) (h2 : tokIn w p2 L2) (n1 : L1.length = N) (n2 : L2.length = N) (hN : N ≤ 9223372036854775807) (hbare : L1.map bare = L2.map bare) (hab : ab = true → L1 = L2) :
    Calls Tryz.prog 18 #[.slice p1 N c1, .slice p2 N c2, .bool ab] w fun e w' => e = .returned (.bool true) ∧ Below w.heap.size w w' := by
  have SM : Hid (∀ (t u : Tk) w, bare t = bare u → (ab = true → t = u) → Calls Tryz.prog 38 #[.agg #[.int .i64 t.kind, .string ⟨t.text.toArray⟩, .int .i64 t.v.ty, .int .i64 t.v.n, .string t.v.s, .int .i64 (t.pos : Nat), .int .i64 (t.line : Nat), .int .i64 (t.col : Nat)], .agg #[.int .i64 u.kind, .string ⟨u.text.toArray⟩, .int .i64 u.v.ty, .int .i64 u.v.n, .string u.v.s, .int .i64 (u.pos : Nat), .int .i64 (u.line : Nat), .int .i64 (u.col : Nat)], .bool ab] w fun e w' => e = .returned (.bool true) ∧ Below w.heap.size w w') := fun t u w hbt hat => by
    cases ab with
    | true => rw [← hat rfl]; exact same_at t w
    | false =>
      obtain ⟨k, x, v, p, a, b⟩ := t
      obtain ⟨k', x', v', p', a', b'⟩ := u
      simp only [bare, Prod.mk.injEq] at hbt
      obtain ⟨rfl, rfl, rfl⟩ := hbt
      exact same_bare k x v p a b p' a' b' w
  have HB1 : Hid (∀ (i : Nat) (t u : Tk), L1[i]? = some t → L2[i]? = some u → bare t = bare u ∧ (ab = true → t = u)) := fun (i : Nat) t u ht hu => by
    refine ⟨?_, fun h => ?_⟩
    · have e := congrArg (fun l : List (Int × List UInt8 × Va) => l[i]?) hbare
      simp only [List.getElem?_map, ht, hu, Option.map_some] at e
      exact Option.some.inj e
    · rw [hab h, hu] at ht; exact (Option.some.inj ht).symm
  have H1 : Hid (tokIn w p1 L1) := h1
  have H2 : Hid (tokIn w p2 L2) := h2
  have HN1 : Hid (L1.length = N) := n1
  have HN2 : Hid (L2.length = N) := n2
  have hne : ((N : Int) != (N : Int)) = false := by simp
  clear h1 h2 hbare hab n1 n2
  go_enter Tryz.func18, Tryz.ntmps18
  go_wp2_with fail
  go_loopw [7] (fun s7 wr => ∃ (k : Nat), s7 = .int .i64 k ∧ k ≤ N ∧ Hid (Below w.heap.size w wr)) (fun s7 _ => N - (intOf s7).toNat)
  case atStart => exact ⟨0, rfl, Nat.zero_le _, Below.refl _ _⟩
  case round =>
    obtain ⟨k, rfl, hk, hbr⟩ := hrel
    by_cases hlt : k < N
    · have hlti : (k : Int) < (N : Int) := by omega
      obtain ⟨t, ht⟩ : ∃ t, L1[k]? = some t := ⟨L1[k]'(by rw [HN1.out]; exact hlt), List.getElem?_eq_getElem _⟩
      obtain ⟨u, hu⟩ : ∃ u, L2[k]? = some u := ⟨L2[k]'(by rw [HN2.out]; exact hlt), List.getElem?_eq_getElem _⟩
      obtain ⟨g1, o1, rfl, x1⟩ : ∃ g o, p1 = some ⟨g, o, none⟩ ∧ ∀ i t, L1[i]? = some t → T8 wr g (o + i * 8) t := by
        rcases H1.out.below hbr.out with h | h
        · rw [h] at ht; simp at ht
        · exact h
      obtain ⟨g2, o2, rfl, x2⟩ : ∃ g o, p2 = some ⟨g, o, none⟩ ∧ ∀ i t, L2[i]? = some t → T8 wr g (o + i * 8) t := by
        rcases H2.out.below hbr.out with h | h
        · rw [h] at hu; simp at hu
        · exact h
      have y1 := x1 k t ht
      have y2 := x2 k u hu
      have SA : Hid (∀ w, Calls Tryz.prog 38 #[.agg #[.int .i64 t.kind, .string ⟨t.text.toArray⟩, .int .i64 t.v.ty, .int .i64 t.v.n, .string t.v.s, .int .i64 (t.pos : Nat), .int .i64 (t.line : Nat), .int .i64 (t.col : Nat)], .agg #[.int .i64 u.kind, .string ⟨u.text.toArray⟩, .int .i64 u.v.ty, .int .i64 u.v.n, .string u.v.s, .int .i64 (u.pos : Nat), .int .i64 (u.line : Nat), .int .i64 (u.col : Nat)], .bool ab] w fun e w' => e = .returned (.bool true) ∧ Below w.heap.size w w') := fun w => SM.out t u w (HB1.out k t u ht hu).1 (HB1.out k t u ht hu).2
      have n0 : R2 w g1 (o1 + k * 8) g2 (o2 + k * 8) t u wr := ⟨hbr.out, y1, y2⟩
      clear x1 x2 y1 y2 ht hu SM HB1 H1 H2 hbr HN1 HN2
      go_wp2_with fail
      refine wp_region_noPanic ?_
      refine wp_region_held_drew (S := fun w' => R2 w g1 (o1 + k * 8) g2 (o2 + k * 8) t u w') (by kernel_rfl) (n0.drew) (fun hH => ?_)
      refine take_at (i := 0) (v := .slice (some ⟨g1, o1, none⟩) N c1) rfl rfl (by kernel_rfl) (by kernel_rfl) (by kernel_rfl) (fun _ _ _ h => h) (Or.inl ⟨by rfl, ?_⟩) hH ?_
      · intro w hSw; (try dsimp only at hSw); obtain ⟨a0, a1, a2, a3, a4, a5, a6, a7⟩ := hSw.x; obtain ⟨d0, d1, d2, d3, d4, d5, d6, d7⟩ := hSw.y; go_simp
      simp only [List.setIfInBounds_toArray, List.set_cons_zero, List.set_cons_succ]
      refine take_at (i := 1) (v := .int .i64 (k : Nat)) rfl rfl (by kernel_rfl) (by kernel_rfl) (by kernel_rfl) (fun _ _ _ h => h) (Or.inl ⟨by rfl, ?_⟩) hH ?_
      · intro w hSw; (try dsimp only at hSw); obtain ⟨a0, a1, a2, a3, a4, a5, a6, a7⟩ := hSw.x; obtain ⟨d0, d1, d2, d3, d4, d5, d6, d7⟩ := hSw.y; go_simp
      simp only [List.setIfInBounds_toArray, List.set_cons_zero, List.set_cons_succ]
      refine take_at (i := 2) (v := .pointer (some ⟨g1, o1 + k * 8, none⟩)) rfl rfl (by kernel_rfl) (by kernel_rfl) (by kernel_rfl) (fun _ _ _ h => h) (Or.inl ⟨by rfl, ?_⟩) hH ?_
      · intro w hSw; (try dsimp only at hSw); obtain ⟨a0, a1, a2, a3, a4, a5, a6, a7⟩ := hSw.x; obtain ⟨d0, d1, d2, d3, d4, d5, d6, d7⟩ := hSw.y; go_simp
      simp only [List.setIfInBounds_toArray, List.set_cons_zero, List.set_cons_succ]
      refine take_at (i := 3) (v := .agg #[.int .i64 t.kind, .string ⟨t.text.toArray⟩, .int .i64 t.v.ty, .int .i64 t.v.n, .string t.v.s, .int .i64 (t.pos : Nat), .int .i64 (t.line : Nat), .int .i64 (t.col : Nat)]) rfl rfl (by kernel_rfl) (by kernel_rfl) (by kernel_rfl) (fun _ _ _ h => h) (Or.inl ⟨by rfl, ?_⟩) hH ?_
      · intro w hSw; (try dsimp only at hSw); obtain ⟨a0, a1, a2, a3, a4, a5, a6, a7⟩ := hSw.x; obtain ⟨d0, d1, d2, d3, d4, d5, d6, d7⟩ := hSw.y; go_simp
      simp only [List.setIfInBounds_toArray, List.set_cons_zero, List.set_cons_succ]
      refine take_at (i := 4) (v := .slice (some ⟨g2, o2, none⟩) N c2) rfl rfl (by kernel_rfl) (by kernel_rfl) (by kernel_rfl) (fun _ _ _ h => h) (Or.inl ⟨by rfl, ?_⟩) hH ?_
      · intro w hSw; (try dsimp only at hSw); obtain ⟨a0, a1, a2, a3, a4, a5, a6, a7⟩ := hSw.x; obtain ⟨d0, d1, d2, d3, d4, d5, d6, d7⟩ := hSw.y; go_simp
      simp only [List.setIfInBounds_toArray, List.set_cons_zero, List.set_cons_succ]
      refine take_at (i := 5) (v := .int .i64 (k : Nat)) rfl rfl (by kernel_rfl) (by kernel_rfl) (by kernel_rfl) (fun _ _ _ h => h) (Or.inl ⟨by rfl, ?_⟩) hH ?_
      · intro w hSw; (try dsimp only at hSw); obtain ⟨a0, a1, a2, a3, a4, a5, a6, a7⟩ := hSw.x; obtain ⟨d0, d1, d2, d3, d4, d5, d6, d7⟩ := hSw.y; go_simp
      simp only [List.setIfInBounds_toArray, List.set_cons_zero, List.set_cons_succ]
      refine take_at (i := 6) (v := .pointer (some ⟨g2, o2 + k * 8, none⟩)) rfl rfl (by kernel_rfl) (by kernel_rfl) (by kernel_rfl) (fun _ _ _ h => h) (Or.inl ⟨by rfl, ?_⟩) hH ?_
      · intro w hSw; (try dsimp only at hSw); obtain ⟨a0, a1, a2, a3, a4, a5, a6, a7⟩ := hSw.x; obtain ⟨d0, d1, d2, d3, d4, d5, d6, d7⟩ := hSw.y; go_simp
      simp only [List.setIfInBounds_toArray, List.set_cons_zero, List.set_cons_succ]
      refine take_at (i := 7) (v := .agg #[.int .i64 u.kind, .string ⟨u.text.toArray⟩, .int .i64 u.v.ty, .int .i64 u.v.n, .string u.v.s, .int .i64 (u.pos : Nat), .int .i64 (u.line : Nat), .int .i64 (u.col : Nat)]) rfl rfl (by kernel_rfl) (by kernel_rfl) (by kernel_rfl) (fun _ _ _ h => h) (Or.inl ⟨by rfl, ?_⟩) hH ?_
      · intro w hSw; (try dsimp only at hSw); obtain ⟨a0, a1, a2, a3, a4, a5, a6, a7⟩ := hSw.x; obtain ⟨d0, d1, d2, d3, d4, d5, d6, d7⟩ := hSw.y; go_simp
      simp only [List.setIfInBounds_toArray, List.set_cons_zero, List.set_cons_succ]
      refine take_at (i := 8) (v := .bool ab) rfl rfl (by kernel_rfl) (by kernel_rfl) (by kernel_rfl) (fun _ _ _ h => h) (Or.inl ⟨by rfl, ?_⟩) hH ?_
      · intro w hSw; (try dsimp only at hSw); obtain ⟨a0, a1, a2, a3, a4, a5, a6, a7⟩ := hSw.x; obtain ⟨d0, d1, d2, d3, d4, d5, d6, d7⟩ := hSw.y; go_simp
      simp only [List.setIfInBounds_toArray, List.set_cons_zero, List.set_cons_succ]
      refine wpAnyH_ready (rs := [9]) (by kernel_rfl) (by simp) ?_
      refine AllReadyH.cons rfl (fun K hK => ?_) AllReadyH.nil
      go_simp
      go_at_call 38
      refine (SA.out _).mono ?_
      rintro e w5 ⟨rfl, hb5⟩
      go_wp2_with fail
      refine hK.out _ _ (hH.next hb5) (fun hH5 => ?_)
      clear hK K
      clear hH
      refine take_at (i := 10) (v := .bool false) rfl rfl (by kernel_rfl) (by kernel_rfl) (by kernel_rfl) (fun _ _ _ h => h) (Or.inl ⟨by rfl, ?_⟩) hH5 ?_
      · intro w hSw; (try dsimp only at hSw); obtain ⟨a0, a1, a2, a3, a4, a5, a6, a7⟩ := hSw.x; obtain ⟨d0, d1, d2, d3, d4, d5, d6, d7⟩ := hSw.y; go_simp
      simp only [List.setIfInBounds_toArray, List.set_cons_zero, List.set_cons_succ]
      refine wpAnyH_done (by kernel_rfl) ?_ _
      refine NoPanic.normal ?_
      have B9 := hH5.b
      clear hH5
      go_wp2_with fail
      go_roundw
      case rel => exact ⟨k + 1, by go_num, hlt, B9⟩
      case measure => simp [intOf]; omega
    · have hlti : ¬ (k : Int) < (N : Int) := by omega
      have hb := hbr.out
      clear SM HB1 H1 H2 hbr
      go_wp2_with fail
      go_ret
      exact ⟨rfl, hb⟩
end Go.Proofs.YtfcolecglobcdaaGreatDoor
