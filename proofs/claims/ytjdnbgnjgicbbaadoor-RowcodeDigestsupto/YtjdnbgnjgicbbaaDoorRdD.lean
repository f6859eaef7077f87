/-
  The walk of lockstepref02.bytes: the bytes of a value that can be.
-/
import Derived.Test.YtjdnbgnjgicbbaaDoorRdC
import Derived.Test.YtjdnbgnjgicbbaaDoorBkG
import Derived.Deep.RegionHeld3
import Derived.BigQuiet
import Derived.Deep.QuietTactic
namespace Go.Proofs.YtjdnbgnjgicbbaaDoor
open Go.RowKit Go.Shelf

/-- the box of a value, and what lies above it -/
@[reducible] def bx (w0 : World) (G : Nat) (x : Va) (w' : World) : Prop := Below w0.heap.size w0 w' ∧ w'.cell? ⟨G, 0, none⟩ = some (.int .i64 x.ty) ∧ w'.cell? ⟨G, 1, none⟩ = some (.int .i64 x.n) ∧ w'.cell? ⟨G, 2, none⟩ = some (.string x.s)
theorem bx.next {w0 w1 w2 : World} {G : Nat} {x : Va} (h : bx w0 G x w1) (hG : G < w0.heap.size) (hb : Below w0.heap.size w1 w2) : bx w0 G x w2 :=
  ⟨h.1.trans hb, (hb.cell (p := ⟨G, 0, none⟩) hG).trans h.2.1, (hb.cell (p := ⟨G, 1, none⟩) hG).trans h.2.2.1, (hb.cell (p := ⟨G, 2, none⟩) hG).trans h.2.2.2⟩
theorem bx.up {w0 w1 w2 : World} {G : Nat} {x : Va} (h : bx w0 G x w1) (hG : G < w0.heap.size) (hb : Below w1.heap.size w1 w2) : bx w0 G x w2 := h.next hG (hb.mono h.1.size)
theorem lit_at (W : World) (base g : Nat) (x : UInt8) (z : Int) (hg : g = W.heap.size) (hz : (x.toNat : Int) = z) (hb : base ≤ W.heap.size) : ownsB (W.alloc (.cells #[.int .u8 z] 5)) base (.slice (some ⟨g, 0, none⟩) 1 1) [x] := by
  subst hg
  exact own_lit W base x z hz hb
theorem ownsB.low {w : World} {a b : Nat} {v : Value} {l : List UInt8} (h : ownsB w b v l) (hab : a ≤ b) : ownsB w a v l := by
  refine ⟨h.1, ?_⟩
  rcases h.2 with g | ⟨g, cap, cur, h1, h2, h3⟩
  · exact Or.inl g
  · exact Or.inr ⟨g, cap, cur, h1, Nat.le_trans hab h2, h3⟩
theorem below_grown0 {a b : World} (h : a.grownBy b none) : Below a.heap.size a b := ⟨h.os, h.tape, h.output, h.size, fun k hk => h.block k hk (by simp)⟩
theorem sz_alloc (w : World) (o : Obj) : w.heap.size + 1 = (w.alloc o).heap.size := by simp
/-- one byte, and others behind it: new memory -/
theorem step_first {ops : Array Oper} {o : Oper} {a : Act} {w : World} {K : Act → World → Prop} {Q : Exit → Act → World → Prop} {E : Prop}
    (hg : o.guard = none) (s x : Operand) (ho : o.op = .call { callee := .builtin .append, args := #[s, x], argTypes := #[24, 24] })
    (base g : Nat) (y : UInt8) (hs : a.eval s = .slice (some ⟨g, 0, none⟩) 1 1) (hown : ownsB w base (.slice (some ⟨g, 0, none⟩) 1 1) [y]) (vx : Value) (b2 : Nat) (news : List UInt8) (hx : a.eval x = vx) (hnews : ownsB w b2 vx news) (hne : news ≠ []) (hl : news.length ≤ 100000) (hb : base ≤ w.heap.size)
    (hK : ∀ v' w', ownsB w' base v' (y :: news) → Below w.heap.size w w' → K (a.put o.dst v') w') :
    if Region.wanted o (yielded ops a.tmps) = true then Oper.wp Tryd.prog o a w K Q else E := by
  obtain ⟨i0, hi, hz0, hz1, hz2⟩ := info_parts u8Info
  obtain ⟨gx, cap, hv, hgl, hcs⟩ := hnews.form hne
  have hp : 0 < news.length := List.length_pos_iff.2 hne
  refine step_append_grows hg s x 24 ho 5 i0 (.int .u8 0) 1 1 u8Slice hi hz0 hz1 hz2 rfl (by decide) (some ⟨g, 0, none⟩) 1 1 (by8 [y]) hs (by intro h; cases h) rfl ?_ ⟨gx, 0, none⟩ news.length cap (by8 news) (hx.trans hv) (by rw [by8_len]; omega) ?_ (by8_one _) (by omega) (by unfold maxLen; omega) (by omega) ?_
  · intro b hb j u hj
    obtain rfl := Option.some.inj hb
    have hj' := (List.getElem?_eq_some_iff.1 hj).1
    rw [by8_len] at hj'
    have ea : (⟨g, 0, none⟩ : Addr).add j = ⟨g, j, none⟩ := by simp [Addr.add]; intro h; exact h.symm
    rw [ea, World.ownsRow.cellAt hown j (by simpa using hj'), ← hj]
  · intro j u hj
    have hj' := (List.getElem?_eq_some_iff.1 hj).1
    rw [by8_len] at hj'
    have ea : (⟨gx, 0, none⟩ : Addr).add j = ⟨gx, j, none⟩ := by simp [Addr.add]; intro h; exact h.symm
    rw [ea, hcs j news[j] (List.getElem?_eq_getElem hj'), ← hj, by8_get (List.getElem?_eq_getElem hj')]
  · intro v' w' h1 h2
    refine hK v' w' (ownsB.low ?_ hb) (below_grown0 h2)
    show w'.ownsRow _ _ _ _ _ _
    have e : by8 [y] ++ by8 news = by8 (y :: news) := rfl
    rw [← e, List.length_cons, Nat.add_comm]; exact h1
theorem step_app_c {ops : Array Oper} {o : Oper} {a : Act} {w : World} {K : Act → World → Prop} {Q : Exit → Act → World → Prop} {E : Prop}
    (hg : o.guard = none) (s x : Operand) (ho : o.op = .call { callee := .builtin .append, args := #[s, x], argTypes := #[24, 24] })
    (base : Nat) (v : Value) (l news : List UInt8) (hs : a.eval s = v) (hown : ownsB w base v l) (vx : Value) (b2 : Nat) (hx : a.eval x = vx) (hnews : ownsB w b2 vx news) (hne : news ≠ []) (hl : l.length + news.length ≤ 100000000) (hb : base ≤ w.heap.size)
    (hK : ∀ v' w', ownsB w' base v' (l ++ news) → Below base w w' → K (a.put o.dst v') w') :
    if Region.wanted o (yielded ops a.tmps) = true then Oper.wp Tryd.prog o a w K Q else E :=
  step_app_b hg s x ho base v l news hs hown vx b2 hx hnews hne hl hb (fun v' w' h1 h2 => hK v' w' h1 (below_own h2 hb (own_ge hown)))
theorem num10_len (hi lo : Nat) : (num10 hi lo).length = 10 := by simp [num10, be8_len]
theorem num10_ne (hi lo : Nat) : num10 hi lo ≠ [] := by intro h; have := num10_len hi lo; rw [h] at this; cases this

set_option maxHeartbeats 4000000 in
set_option maxRecDepth 1000000 in
theorem bytes_num (x : Va) (w : World) (hf : fit x.n) (ht : x.ty = 1 ∨ x.ty = 2) :
    Calls Tryd.prog 24 #[.agg #[.int .i64 x.ty, .int .i64 x.n, .string x.s]] w fun e w' => ∃ v', e = .returned v' ∧ ownsB w' w.heap.size v' (2 :: num10 (numN x / 18446744073709551616) (numN x % 18446744073709551616) ++ [UInt8.ofNat x.ty.toNat]) ∧ Below w.heap.size w w' := by
  have NU : Hid (∀ w, Calls Tryd.prog 37 #[.agg #[.int .i64 x.ty, .int .i64 x.n, .string x.s]] w fun e w' => ∃ v', e = .returned v' ∧ ownsB w' w.heap.size v' (num10 (numN x / 18446744073709551616) (numN x % 18446744073709551616)) ∧ Below w.heap.size w w') := fun w => number_any x w hf ht
  obtain ⟨NB, hNB⟩ : ∃ NB, NB = num10 (numN x / 18446744073709551616) (numN x % 18446744073709551616) := ⟨_, rfl⟩
  have hNl : NB.length = 10 := by rw [hNB]; exact num10_len _ _
  have hNe : NB ≠ [] := by rw [hNB]; exact num10_ne _ _
  rw [← hNB] at NU ⊢
  clear hNB
  obtain ⟨y, hy⟩ : ∃ y : UInt8, y = UInt8.ofNat x.ty.toNat := ⟨_, rfl⟩
  have hy2 : ((y.toNat : Nat) : Int) = x.ty := by rw [hy]; rcases ht with h | h <;> rw [h] <;> rfl
  rw [← hy]
  clear hy
  obtain ⟨ty, n, s⟩ := x
  have R0 : Hid _ := Res.new w ty n s
  have B0 : Hid (∀ o, Below w.heap.size w (w.alloc o)) := fun o => (Below.refl _ w).alloc (Nat.le_refl _) o
  simp only at ht hy2
  have HY : Hid ((y.toNat : Int) = ty) := hy2
  clear hy2 hf
  rcases ht with rfl | rfl
  · go_enter Tryd.func24, Tryd.ntmps24
    go_wp2_with fail
    have BW := B0.out (.cells #[.int .i64 1, .int .i64 n, .string s] 23)
    have RW := R0.out
    generalize w.alloc (.cells #[.int .i64 1, .int .i64 n, .string s] 23) = w0 at *
    obtain ⟨hG, c0, c1, c2, _, _, _⟩ := RW
    have T0 : bx w0 w.heap.size ⟨1, n, s⟩ w0 := ⟨Below.refl _ _, c0, c1, c2⟩
    have T1 : bx w0 w.heap.size ⟨1, n, s⟩ w0.drew := T0.up hG (below_drewN (Below.refl _ w0) 1)
    clear R0 B0
    go_region_held3 (fun w' => Below w0.heap.size w0 w' ∧ w'.cell? ⟨w.heap.size, 0, none⟩ = some (.int .i64 1) ∧ w'.cell? ⟨w.heap.size, 1, none⟩ = some (.int .i64 n) ∧ w'.cell? ⟨w.heap.size, 2, none⟩ = some (.string s)) (first | exact T1 | exact bx.up T1 hG ((Below.refl _ w0.drew).alloc (Nat.le_refl _) _) | exact bx.up T1 hG hb5 | exact bx.up (x := ⟨1, n, s⟩) (by assumption) hG ((Below.refl _ _).alloc (Nat.le_refl _) _) | exact bx.up (x := ⟨1, n, s⟩) (by assumption) hG hb5 | exact bx.up (x := ⟨1, n, s⟩) (by assumption) hG hb6 | exact bx.next (x := ⟨1, n, s⟩) (by assumption) hG hb7 | fail) ((first | (go_at_call 37; refine (NU.out _).mono ?_; rintro e w5 ⟨v5, rfl, ho5, hb5⟩; have s4 := (show bx w0 w.heap.size ⟨1, n, s⟩ _ by assumption).1.size; replace ho5 := ho5.low s4; have s5 := Nat.le_trans s4 hb5.size; clear s4) | (refine step_first rfl (.tmp 13) (.tmp 15) rfl w0.heap.size w0.heap.size 2 rfl (by repeat (first | exact lit_at _ _ _ _ _ (by first | rfl | exact sz_alloc _ _) rfl (by first | exact Nat.le_refl _ | exact s6 | exact s5 | (simp <;> omega)) | refine ownsB.below ?_ hb5 | refine ownsB.alloc ?_ _)) v5 w0.heap.size NB rfl (by repeat (first | exact ho5 | refine ownsB.alloc ?_ _)) hNe (by omega) (by first | exact Nat.le_refl _ | exact s6 | exact s5 | (simp <;> omega)) ?_; intro v6 w6 ho6 hb6; have s6 := Nat.le_trans (show bx w0 w.heap.size ⟨1, n, s⟩ _ by assumption).1.size hb6.size) | (refine step_first rfl (.tmp 13) (.tmp 15) rfl w0.heap.size w5.heap.size 2 rfl (by repeat (first | exact lit_at _ _ _ _ _ (by first | rfl | exact sz_alloc _ _) rfl (by first | exact Nat.le_refl _ | exact s6 | exact s5 | (simp <;> omega)) | refine ownsB.below ?_ hb5 | refine ownsB.alloc ?_ _)) v5 w0.heap.size NB rfl (by repeat (first | exact ho5 | refine ownsB.alloc ?_ _)) hNe (by omega) (by first | exact Nat.le_refl _ | exact s6 | exact s5 | (simp <;> omega)) ?_; intro v6 w6 ho6 hb6; have s6 := Nat.le_trans (show bx w0 w.heap.size ⟨1, n, s⟩ _ by assumption).1.size hb6.size) | (refine step_first rfl (.tmp 13) (.tmp 15) rfl w0.heap.size (w0.heap.size + 1) 2 rfl (by repeat (first | exact lit_at _ _ _ _ _ (by first | rfl | exact sz_alloc _ _) rfl (by first | exact Nat.le_refl _ | exact s6 | exact s5 | (simp <;> omega)) | refine ownsB.below ?_ hb5 | refine ownsB.alloc ?_ _)) v5 w0.heap.size NB rfl (by repeat (first | exact ho5 | refine ownsB.alloc ?_ _)) hNe (by omega) (by first | exact Nat.le_refl _ | exact s6 | exact s5 | (simp <;> omega)) ?_; intro v6 w6 ho6 hb6; have s6 := Nat.le_trans (show bx w0 w.heap.size ⟨1, n, s⟩ _ by assumption).1.size hb6.size) | (refine step_first rfl (.tmp 13) (.tmp 15) rfl w0.heap.size (w5.heap.size + 1) 2 rfl (by repeat (first | exact lit_at _ _ _ _ _ (by first | rfl | exact sz_alloc _ _) rfl (by first | exact Nat.le_refl _ | exact s6 | exact s5 | (simp <;> omega)) | refine ownsB.below ?_ hb5 | refine ownsB.alloc ?_ _)) v5 w0.heap.size NB rfl (by repeat (first | exact ho5 | refine ownsB.alloc ?_ _)) hNe (by omega) (by first | exact Nat.le_refl _ | exact s6 | exact s5 | (simp <;> omega)) ?_; intro v6 w6 ho6 hb6; have s6 := Nat.le_trans (show bx w0 w.heap.size ⟨1, n, s⟩ _ by assumption).1.size hb6.size) | (refine step_app_c rfl (.tmp 16) (.tmp 20) rfl w0.heap.size v6 (2 :: NB) [y] rfl (by repeat (first | exact ho6 | refine ownsB.alloc ?_ _)) (.slice (some ⟨w6.heap.size, 0, none⟩) 1 1) w0.heap.size rfl (by repeat (first | exact lit_at _ _ _ _ _ (by first | rfl | exact sz_alloc _ _) (HY.out.trans (by decide)) (by first | exact Nat.le_refl _ | exact s6 | exact s5 | (simp <;> omega)) | refine ownsB.below ?_ hb6 | refine ownsB.below ?_ hb5 | refine ownsB.alloc ?_ _)) (by simp) (by simp only [List.length_cons, List.length_nil]; omega) (by first | exact Nat.le_refl _ | exact s6 | exact s5 | (simp <;> omega)) ?_; intro v7 w7 ho7 hb7) | (refine step_app_c rfl (.tmp 16) (.tmp 20) rfl w0.heap.size v6 (2 :: NB) [y] rfl (by repeat (first | exact ho6 | refine ownsB.alloc ?_ _)) (.slice (some ⟨w0.heap.size, 0, none⟩) 1 1) w0.heap.size rfl (by repeat (first | exact lit_at _ _ _ _ _ (by first | rfl | exact sz_alloc _ _) (HY.out.trans (by decide)) (by first | exact Nat.le_refl _ | exact s6 | exact s5 | (simp <;> omega)) | refine ownsB.below ?_ hb6 | refine ownsB.below ?_ hb5 | refine ownsB.alloc ?_ _)) (by simp) (by simp only [List.length_cons, List.length_nil]; omega) (by first | exact Nat.le_refl _ | exact s6 | exact s5 | (simp <;> omega)) ?_; intro v7 w7 ho7 hb7) | (refine step_app_c rfl (.tmp 16) (.tmp 20) rfl w0.heap.size v6 (2 :: NB) [y] rfl (by repeat (first | exact ho6 | refine ownsB.alloc ?_ _)) (.slice (some ⟨w5.heap.size, 0, none⟩) 1 1) w0.heap.size rfl (by repeat (first | exact lit_at _ _ _ _ _ (by first | rfl | exact sz_alloc _ _) (HY.out.trans (by decide)) (by first | exact Nat.le_refl _ | exact s6 | exact s5 | (simp <;> omega)) | refine ownsB.below ?_ hb6 | refine ownsB.below ?_ hb5 | refine ownsB.alloc ?_ _)) (by simp) (by simp only [List.length_cons, List.length_nil]; omega) (by first | exact Nat.le_refl _ | exact s6 | exact s5 | (simp <;> omega)) ?_; intro v7 w7 ho7 hb7) | (refine step_app_c rfl (.tmp 16) (.tmp 20) rfl w0.heap.size v6 (2 :: NB) [y] rfl (by repeat (first | exact ho6 | refine ownsB.alloc ?_ _)) (.slice (some ⟨(w0.heap.size + 1), 0, none⟩) 1 1) w0.heap.size rfl (by repeat (first | exact lit_at _ _ _ _ _ (by first | rfl | exact sz_alloc _ _) (HY.out.trans (by decide)) (by first | exact Nat.le_refl _ | exact s6 | exact s5 | (simp <;> omega)) | refine ownsB.below ?_ hb6 | refine ownsB.below ?_ hb5 | refine ownsB.alloc ?_ _)) (by simp) (by simp only [List.length_cons, List.length_nil]; omega) (by first | exact Nat.le_refl _ | exact s6 | exact s5 | (simp <;> omega)) ?_; intro v7 w7 ho7 hb7) | (refine step_app_c rfl (.tmp 16) (.tmp 20) rfl w0.heap.size v6 (2 :: NB) [y] rfl (by repeat (first | exact ho6 | refine ownsB.alloc ?_ _)) (.slice (some ⟨(w5.heap.size + 1), 0, none⟩) 1 1) w0.heap.size rfl (by repeat (first | exact lit_at _ _ _ _ _ (by first | rfl | exact sz_alloc _ _) (HY.out.trans (by decide)) (by first | exact Nat.le_refl _ | exact s6 | exact s5 | (simp <;> omega)) | refine ownsB.below ?_ hb6 | refine ownsB.below ?_ hb5 | refine ownsB.alloc ?_ _)) (by simp) (by simp only [List.length_cons, List.length_nil]; omega) (by first | exact Nat.le_refl _ | exact s6 | exact s5 | (simp <;> omega)) ?_; intro v7 w7 ho7 hb7) | fail))
    all_goals
      have TE : bx w0 w.heap.size ⟨1, n, s⟩ w7 := by assumption
      go_wp2_with fail
      go_ret
      exact ⟨v7, rfl, ho7.low BW.size, BW.trans (TE.1.mono BW.size)⟩
  · go_enter Tryd.func24, Tryd.ntmps24
    go_wp2_with fail
    have BW := B0.out (.cells #[.int .i64 2, .int .i64 n, .string s] 23)
    have RW := R0.out
    generalize w.alloc (.cells #[.int .i64 2, .int .i64 n, .string s] 23) = w0 at *
    obtain ⟨hG, c0, c1, c2, _, _, _⟩ := RW
    have T0 : bx w0 w.heap.size ⟨2, n, s⟩ w0 := ⟨Below.refl _ _, c0, c1, c2⟩
    have T1 : bx w0 w.heap.size ⟨2, n, s⟩ w0.drew := T0.up hG (below_drewN (Below.refl _ w0) 1)
    clear R0 B0
    go_region_held3 (fun w' => Below w0.heap.size w0 w' ∧ w'.cell? ⟨w.heap.size, 0, none⟩ = some (.int .i64 2) ∧ w'.cell? ⟨w.heap.size, 1, none⟩ = some (.int .i64 n) ∧ w'.cell? ⟨w.heap.size, 2, none⟩ = some (.string s)) (first | exact T1 | exact bx.up T1 hG ((Below.refl _ w0.drew).alloc (Nat.le_refl _) _) | exact bx.up T1 hG hb5 | exact bx.up (x := ⟨2, n, s⟩) (by assumption) hG ((Below.refl _ _).alloc (Nat.le_refl _) _) | exact bx.up (x := ⟨2, n, s⟩) (by assumption) hG hb5 | exact bx.up (x := ⟨2, n, s⟩) (by assumption) hG hb6 | exact bx.next (x := ⟨2, n, s⟩) (by assumption) hG hb7 | fail) ((first | (go_at_call 37; refine (NU.out _).mono ?_; rintro e w5 ⟨v5, rfl, ho5, hb5⟩; have s4 := (show bx w0 w.heap.size ⟨2, n, s⟩ _ by assumption).1.size; replace ho5 := ho5.low s4; have s5 := Nat.le_trans s4 hb5.size; clear s4) | (refine step_first rfl (.tmp 13) (.tmp 15) rfl w0.heap.size w0.heap.size 2 rfl (by repeat (first | exact lit_at _ _ _ _ _ (by first | rfl | exact sz_alloc _ _) rfl (by first | exact Nat.le_refl _ | exact s6 | exact s5 | (simp <;> omega)) | refine ownsB.below ?_ hb5 | refine ownsB.alloc ?_ _)) v5 w0.heap.size NB rfl (by repeat (first | exact ho5 | refine ownsB.alloc ?_ _)) hNe (by omega) (by first | exact Nat.le_refl _ | exact s6 | exact s5 | (simp <;> omega)) ?_; intro v6 w6 ho6 hb6; have s6 := Nat.le_trans (show bx w0 w.heap.size ⟨2, n, s⟩ _ by assumption).1.size hb6.size) | (refine step_first rfl (.tmp 13) (.tmp 15) rfl w0.heap.size w5.heap.size 2 rfl (by repeat (first | exact lit_at _ _ _ _ _ (by first | rfl | exact sz_alloc _ _) rfl (by first | exact Nat.le_refl _ | exact s6 | exact s5 | (simp <;> omega)) | refine ownsB.below ?_ hb5 | refine ownsB.alloc ?_ _)) v5 w0.heap.size NB rfl (by repeat (first | exact ho5 | refine ownsB.alloc ?_ _)) hNe (by omega) (by first | exact Nat.le_refl _ | exact s6 | exact s5 | (simp <;> omega)) ?_; intro v6 w6 ho6 hb6; have s6 := Nat.le_trans (show bx w0 w.heap.size ⟨2, n, s⟩ _ by assumption).1.size hb6.size) | (refine step_first rfl (.tmp 13) (.tmp 15) rfl w0.heap.size (w0.heap.size + 1) 2 rfl (by repeat (first | exact lit_at _ _ _ _ _ (by first | rfl | exact sz_alloc _ _) rfl (by first | exact Nat.le_refl _ | exact s6 | exact s5 | (simp <;> omega)) | refine ownsB.below ?_ hb5 | refine ownsB.alloc ?_ _)) v5 w0.heap.size NB rfl (by repeat (first | exact ho5 | refine ownsB.alloc ?_ _)) hNe (by omega) (by first | exact Nat.le_refl _ | exact s6 | exact s5 | (simp <;> omega)) ?_; intro v6 w6 ho6 hb6; have s6 := Nat.le_trans (show bx w0 w.heap.size ⟨2, n, s⟩ _ by assumption).1.size hb6.size) | (refine step_first rfl (.tmp 13) (.tmp 15) rfl w0.heap.size (w5.heap.size + 1) 2 rfl (by repeat (first | exact lit_at _ _ _ _ _ (by first | rfl | exact sz_alloc _ _) rfl (by first | exact Nat.le_refl _ | exact s6 | exact s5 | (simp <;> omega)) | refine ownsB.below ?_ hb5 | refine ownsB.alloc ?_ _)) v5 w0.heap.size NB rfl (by repeat (first | exact ho5 | refine ownsB.alloc ?_ _)) hNe (by omega) (by first | exact Nat.le_refl _ | exact s6 | exact s5 | (simp <;> omega)) ?_; intro v6 w6 ho6 hb6; have s6 := Nat.le_trans (show bx w0 w.heap.size ⟨2, n, s⟩ _ by assumption).1.size hb6.size) | (refine step_app_c rfl (.tmp 16) (.tmp 20) rfl w0.heap.size v6 (2 :: NB) [y] rfl (by repeat (first | exact ho6 | refine ownsB.alloc ?_ _)) (.slice (some ⟨w6.heap.size, 0, none⟩) 1 1) w0.heap.size rfl (by repeat (first | exact lit_at _ _ _ _ _ (by first | rfl | exact sz_alloc _ _) (HY.out.trans (by decide)) (by first | exact Nat.le_refl _ | exact s6 | exact s5 | (simp <;> omega)) | refine ownsB.below ?_ hb6 | refine ownsB.below ?_ hb5 | refine ownsB.alloc ?_ _)) (by simp) (by simp only [List.length_cons, List.length_nil]; omega) (by first | exact Nat.le_refl _ | exact s6 | exact s5 | (simp <;> omega)) ?_; intro v7 w7 ho7 hb7) | (refine step_app_c rfl (.tmp 16) (.tmp 20) rfl w0.heap.size v6 (2 :: NB) [y] rfl (by repeat (first | exact ho6 | refine ownsB.alloc ?_ _)) (.slice (some ⟨w0.heap.size, 0, none⟩) 1 1) w0.heap.size rfl (by repeat (first | exact lit_at _ _ _ _ _ (by first | rfl | exact sz_alloc _ _) (HY.out.trans (by decide)) (by first | exact Nat.le_refl _ | exact s6 | exact s5 | (simp <;> omega)) | refine ownsB.below ?_ hb6 | refine ownsB.below ?_ hb5 | refine ownsB.alloc ?_ _)) (by simp) (by simp only [List.length_cons, List.length_nil]; omega) (by first | exact Nat.le_refl _ | exact s6 | exact s5 | (simp <;> omega)) ?_; intro v7 w7 ho7 hb7) | (refine step_app_c rfl (.tmp 16) (.tmp 20) rfl w0.heap.size v6 (2 :: NB) [y] rfl (by repeat (first | exact ho6 | refine ownsB.alloc ?_ _)) (.slice (some ⟨w5.heap.size, 0, none⟩) 1 1) w0.heap.size rfl (by repeat (first | exact lit_at _ _ _ _ _ (by first | rfl | exact sz_alloc _ _) (HY.out.trans (by decide)) (by first | exact Nat.le_refl _ | exact s6 | exact s5 | (simp <;> omega)) | refine ownsB.below ?_ hb6 | refine ownsB.below ?_ hb5 | refine ownsB.alloc ?_ _)) (by simp) (by simp only [List.length_cons, List.length_nil]; omega) (by first | exact Nat.le_refl _ | exact s6 | exact s5 | (simp <;> omega)) ?_; intro v7 w7 ho7 hb7) | (refine step_app_c rfl (.tmp 16) (.tmp 20) rfl w0.heap.size v6 (2 :: NB) [y] rfl (by repeat (first | exact ho6 | refine ownsB.alloc ?_ _)) (.slice (some ⟨(w0.heap.size + 1), 0, none⟩) 1 1) w0.heap.size rfl (by repeat (first | exact lit_at _ _ _ _ _ (by first | rfl | exact sz_alloc _ _) (HY.out.trans (by decide)) (by first | exact Nat.le_refl _ | exact s6 | exact s5 | (simp <;> omega)) | refine ownsB.below ?_ hb6 | refine ownsB.below ?_ hb5 | refine ownsB.alloc ?_ _)) (by simp) (by simp only [List.length_cons, List.length_nil]; omega) (by first | exact Nat.le_refl _ | exact s6 | exact s5 | (simp <;> omega)) ?_; intro v7 w7 ho7 hb7) | (refine step_app_c rfl (.tmp 16) (.tmp 20) rfl w0.heap.size v6 (2 :: NB) [y] rfl (by repeat (first | exact ho6 | refine ownsB.alloc ?_ _)) (.slice (some ⟨(w5.heap.size + 1), 0, none⟩) 1 1) w0.heap.size rfl (by repeat (first | exact lit_at _ _ _ _ _ (by first | rfl | exact sz_alloc _ _) (HY.out.trans (by decide)) (by first | exact Nat.le_refl _ | exact s6 | exact s5 | (simp <;> omega)) | refine ownsB.below ?_ hb6 | refine ownsB.below ?_ hb5 | refine ownsB.alloc ?_ _)) (by simp) (by simp only [List.length_cons, List.length_nil]; omega) (by first | exact Nat.le_refl _ | exact s6 | exact s5 | (simp <;> omega)) ?_; intro v7 w7 ho7 hb7) | fail))
    all_goals
      have TE : bx w0 w.heap.size ⟨2, n, s⟩ w7 := by assumption
      go_wp2_with fail
      go_ret
      exact ⟨v7, rfl, ho7.low BW.size, BW.trans (TE.1.mono BW.size)⟩

set_option maxHeartbeats 4000000 in
set_option maxRecDepth 1000000 in
theorem bytes_null (n : Int) (s : ByteArray) (w : World) :
    Calls Tryd.prog 24 #[.agg #[.int .i64 0, .int .i64 n, .string s]] w fun e w' => ∃ v', e = .returned v' ∧ ownsB w' w.heap.size v' [1] ∧ Below w.heap.size w w' := by
  have B0 : Hid (∀ o, Below w.heap.size w (w.alloc o)) := fun o => (Below.refl _ w).alloc (Nat.le_refl _) o
  go_enter Tryd.func24, Tryd.ntmps24
  go_wp2_with fail
  have BW := B0.out (.cells #[.int .i64 0, .int .i64 n, .string s] 23)
  go_ret
  exact ⟨_, rfl, lit_at _ _ _ 1 _ (by simp) rfl (by simp), BW.alloc BW.size _⟩

set_option maxHeartbeats 4000000 in
set_option maxRecDepth 1000000 in
theorem bytes_bool (n : Nat) (s : ByteArray) (w : World) (hn : n = 0 ∨ n = 1) :
    Calls Tryd.prog 24 #[.agg #[.int .i64 4, .int .i64 (n : Int), .string s]] w fun e w' => ∃ v', e = .returned v' ∧ ownsB w' w.heap.size v' [4, UInt8.ofNat n] ∧ Below w.heap.size w w' := by
  have B0 : Hid (∀ o, Below w.heap.size w (w.alloc o)) := fun o => (Below.refl _ w).alloc (Nat.le_refl _) o
  rcases hn with rfl | rfl
  · have BW := B0.out (.cells #[.int .i64 4, .int .i64 0, .string s] 23)
    go_enter Tryd.func24, Tryd.ntmps24
    go_wp2_with fail
    go_ret
    refine ⟨_, rfl, ?_, BW.alloc BW.size _⟩
    have := lit2 (w.alloc (.cells #[.int .i64 4, .int .i64 0, .string s] 23)) w.heap.size (.int .u8 4) (.int .u8 0) (by simp)
    first | exact this | (simp at this ⊢; exact this)
  · have BW := B0.out (.cells #[.int .i64 4, .int .i64 1, .string s] 23)
    go_enter Tryd.func24, Tryd.ntmps24
    go_wp2_with fail
    go_ret
    refine ⟨_, rfl, ?_, BW.alloc BW.size _⟩
    have := lit2 (w.alloc (.cells #[.int .i64 4, .int .i64 1, .string s] 23)) w.heap.size (.int .u8 4) (.int .u8 1) (by simp)
    first | exact this | (simp at this ⊢; exact this)

set_option maxHeartbeats 4000000 in
set_option maxRecDepth 1000000 in
theorem bytes_text (n : Int) (s : ByteArray) (w : World) (hs : s.size ≤ 4096) :
    Calls Tryd.prog 24 #[.agg #[.int .i64 3, .int .i64 n, .string s]] w fun e w' => ∃ v', e = .returned v' ∧ ownsB w' w.heap.size v' (textB s) ∧ Below w.heap.size w w' := by
  have R0 : Hid _ := Res.new w 3 n s
  have B0 : Hid (∀ o, Below w.heap.size w (w.alloc o)) := fun o => (Below.refl _ w).alloc (Nat.le_refl _) o
  go_enter Tryd.func24, Tryd.ntmps24
  go_wp2_with fail
  have BW := B0.out (.cells #[.int .i64 3, .int .i64 n, .string s] 23)
  have RW := R0.out
  have hsz : (w.alloc (.cells #[.int .i64 3, .int .i64 n, .string s] 23)).heap.size = w.heap.size + 1 := by simp
  generalize w.alloc (.cells #[.int .i64 3, .int .i64 n, .string s] 23) = w0 at *
  have hG := RW.lt
  have O1 : ownsB (w0.alloc (.cells #[.int .u8 3] 5)) w0.heap.size (.slice (some ⟨w.heap.size + 1, 0, none⟩) 1 1) [3] := lit_at _ _ _ 3 _ hsz.symm rfl (Nat.le_refl _)
  have B1 : Below w0.heap.size w0 (w0.alloc (.cells #[.int .u8 3] 5)) := (Below.refl _ _).alloc (Nat.le_refl _) _
  generalize w0.alloc (.cells #[.int .u8 3] 5) = w1 at *
  go_loopw [3, 4] (fun sv si wr => ∃ k : Nat, si = .int .i64 k ∧ k ≤ s.size ∧ ownsB wr w0.heap.size sv (3 :: esc (s.data.toList.take k)) ∧ Below w0.heap.size w0 wr) (fun _ si _ => s.size - (intOf si).toNat)
  case atStart => exact ⟨0, rfl, Nat.zero_le _, O1, B1⟩
  case round =>
    obtain ⟨k, rfl, hk, ho, hbr⟩ := hrel
    have hsr := hbr.size
    obtain ⟨_, r0, r1, r2, _, _, _⟩ := RW.below hbr
    clear O1 B1
    have hll : (3 :: esc (s.data.toList.take k)).length ≤ 2000000 := by
      have h := esc_len (s.data.toList.take k)
      have e : (s.data.toList.take k).length ≤ k := by rw [List.length_take]; omega
      simp only [List.length_cons]; omega
    by_cases hlt : k < s.size
    · have hx : s.data.toList[k]? = some (s[k]'hlt) := by rw [Array.getElem?_toList]; exact Array.getElem?_eq_getElem hlt
      by_cases h0 : s[k]'hlt = 0
      · have hz : (((s[k]'hlt).toNat : Int) == 0) = true := by rw [h0]; rfl
        have hn := esc_next hx
        rw [if_pos h0] at hn
        go_wp2_with (first | (at_builtin; refine app_b rfl (.tmp 36) (.tmp 41) rfl w0.heap.size _ (3 :: esc (s.data.toList.take k)) [0] #[.int .u8 0] rfl ho rfl rfl (by simp only [List.length_cons, List.length_nil] at hll ⊢; omega) hsr ?_; intro v2 w2 ho2 hb2 hs2; have hb12 := hbr.trans hb2; obtain ⟨_, q0, q1, q2, _, _, _⟩ := RW.below hb12) | (at_builtin; refine app_b rfl (.tmp 48) (.tmp 49) rfl w0.heap.size _ (3 :: esc (s.data.toList.take k) ++ [0]) [255] #[.int .u8 255] rfl ho2 rfl rfl (by simp only [List.length_append, List.length_cons, List.length_nil] at hll ⊢; omega) hs2 ?_; intro v3 w3 ho3 hb3 hs3))
        go_roundw
        case rel => exact ⟨k + 1, by go_num, hlt, by rw [hn]; simpa using ho3, hb12.trans hb3⟩
        case measure => simp [intOf]; omega
      · have hz : (((s[k]'hlt).toNat : Int) == 0) = false := by
          rw [beq_eq_false_iff_ne]; intro h; apply h0; apply UInt8.toNat_inj.1; simpa using h
        have hn := esc_next hx
        rw [if_neg h0] at hn
        go_wp2_with (at_builtin; refine app_b rfl (.tmp 36) (.tmp 41) rfl w0.heap.size _ (3 :: esc (s.data.toList.take k)) [s[k]'hlt] #[.int .u8 ((s[k]'hlt).toNat : Int)] rfl ho rfl rfl (by simp only [List.length_cons, List.length_nil] at hll ⊢; omega) hsr ?_; intro v2 w2 ho2 hb2 hs2; have hb12 := hbr.trans hb2; obtain ⟨_, q0, q1, q2, _, _, _⟩ := RW.below hb12)
        go_roundw
        case rel => exact ⟨k + 1, by go_num, hlt, by rw [hn]; simpa using ho2, hb12⟩
        case measure => simp [intOf]; omega
    · have hks : k = s.size := by omega
      go_wp2_with (at_builtin; refine app_b rfl (.tmp 51) (.tmp 52) rfl w0.heap.size _ (3 :: esc (s.data.toList.take k)) [0, 0] #[.int .u8 0, .int .u8 0] rfl ho rfl rfl (by simp only [List.length_cons, List.length_nil] at hll ⊢; omega) hsr ?_; intro v2 w2 ho2 hb2 hs2)
      go_ret
      have hb12 := hbr.trans hb2
      refine ⟨v2, rfl, ?_, BW.trans (hb12.mono BW.size)⟩
      rw [hks, List.take_of_length_le (by rw [Array.length_toList]; exact Nat.le_refl _)] at ho2
      exact ho2.low BW.size

theorem bytes_any (x : Va) (w : World) (hf : fit x.n) (hc : x.chk = 0) :
    Calls Tryd.prog 24 #[.agg #[.int .i64 x.ty, .int .i64 x.n, .string x.s]] w fun e w' => ∃ v', e = .returned v' ∧ ownsB w' w.heap.size v' (valB x) ∧ Below w.heap.size w w' := by
  obtain ⟨ty, n, s⟩ := x
  have hc' : chk ty n s = 0 := hc
  have ht := chk_ty hc'
  rcases (show ty = 0 ∨ (ty = 1 ∨ ty = 2) ∨ ty = 3 ∨ ty = 4 by omega) with rfl | h | rfl | rfl
  · have e : valB ⟨0, n, s⟩ = [1] := by simp [valB]
    rw [e]; exact bytes_null n s w
  · have e : valB ⟨ty, n, s⟩ = 2 :: num10 (numN ⟨ty, n, s⟩ / 18446744073709551616) (numN ⟨ty, n, s⟩ % 18446744073709551616) ++ [UInt8.ofNat ty.toNat] := by
      unfold valB; rw [if_pos h]; rfl
    rw [e]; exact bytes_num ⟨ty, n, s⟩ w hf h
  · have e : valB ⟨3, n, s⟩ = textB s := by simp [valB]
    rw [chk_text] at hc'
    rw [e]; exact bytes_text n s w (chkT_zero hc').1
  · have e : valB ⟨4, n, s⟩ = [4, UInt8.ofNat n.toNat] := by simp [valB]
    have hn := chk_bool hc'
    obtain ⟨m, hm⟩ : ∃ m : Nat, n = (m : Int) := ⟨n.toNat, by omega⟩
    subst hm
    rw [e]; exact bytes_bool m s w (by omega)
end Go.Proofs.YtjdnbgnjgicbbaaDoor
