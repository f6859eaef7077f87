/-
  The document's net: a message sent, laid ahead.
-/
import Derived.Test.YtbdlamlplfogjaaNwLx
namespace Go.Proofs.Ytbdlamlplfogjaa
open Go.RowKit Go.Maps Go.Joins
variable {Q : Nat → Prop} {w w' : World} {d : Nat} {S : St} {T : Nat → Nat → List ByteArray} {R : Lr}

theorem rwBs : Rw 106 27 (.slice none 0 0) 1 24 := ⟨by kernel_rfl, by kernel_rfl, rfl, by decide, by decide⟩
theorem rwBy : Rw 27 5 (.int .u8 0) 1 1 := ⟨by kernel_rfl, by kernel_rfl, rfl, by decide, by decide⟩
/-- as rwR.push, what is put behind told later -/
theorem rwR.push' {t e : TypeId} {z : Value} {sz by' : Nat} (Rr : Rw t e z sz by') {v : Value} {n : Nat} {R1 : Nat → List Value → Prop} (h : rwR w Q e sz v n R1) (hn : n ≤ 10000000) {W : World} (gW : w.grownBy W none) {B : Nat} (hB : W.heap[B]? = some (.cells #[] e (0, 0))) (hBn : w.heap.size ≤ B) :
    ∃ p6 c6 W6, (∀ ty, (Builtin.append_ #[t, t] ty #[.slice (some ⟨B, 0, none⟩) 0 0, v]).run Try.prog W = .ok (.slice p6 n c6) W6) ∧ w.grownBy W6 none ∧ (∀ b, b ≠ B → b < W.heap.size → W6.heap[b]? = W.heap[b]?) ∧ (∀ g, (Value.slice p6 n c6).ownBlock = some g → kd W6 g = e + 2 ∧ g < W6.heap.size) ∧
      ∀ W7 B1 news, news.length = sz → (∀ u ∈ news, u.oneCell' = true) → W6.grownBy W7 none → W7.heap[B1]? = some (.cells news.toArray e (0, 0)) → ∃ p9 c9 W9, (∀ ty, (Builtin.append_ #[t, t] ty #[.slice p6 n c6, .slice (some ⟨B1, 0, none⟩) 1 1]).run Try.prog W7 = .ok (.slice p9 (n + 1) c9) W9) ∧ w.grownBy W9 none ∧ (∀ b, b ≠ B → b < W.heap.size → W9.heap[b]? = W7.heap[b]?) ∧ W7.grownBy W9 (Value.slice p6 n c6).ownBlock ∧
        ∀ (Q' : Nat → Prop), (∀ x, w.heap.size ≤ x → x < W9.heap.size → Q' x) → ∀ (R2 : Nat → List Value → Prop), (∀ k ys, k < n → R1 k ys → R2 k ys) → R2 n news → rwR W9 Q' e sz (.slice p9 (n + 1) c9) (n + 1) R2 := by
  obtain ⟨xs, s1, s2, s3, s4⟩ := h
  obtain ⟨v6, W6, hr, t6, g6, o6⟩ := Rr.cp s1 s3 gW hB (by omega)
  obtain ⟨p6, c6, rfl, _⟩ := t6.form
  have gA : w.grownBy W6 none := grown_new gW g6 (fun g hg => by cases hg; exact hBn)
  refine ⟨p6, c6, W6, hr, gA, fun b hb1 hb2 => g6.block b hb2 (fun e => by cases e; exact hb1 rfl), t6.kd, fun W7 B1 news hnl h1 g7 hB1 => ?_⟩
  have t7 := t6.kept (Chg.of_none g7 (fun _ => False)) (fun _ _ e => e)
  obtain ⟨v9, W9, hr9, t9, g9, o9⟩ := Rr.app (c := 1) t7 (m := 1) (news := news) (by omega) (one_of hB1) h1 (by omega) (by omega)
  obtain ⟨p9, c9, rfl, _⟩ := t9.form
  have ob : ∀ g, (Value.slice p6 n c6).ownBlock = some g → w.heap.size ≤ g ∧ (g = B ∨ W.heap.size ≤ g) := fun g hg => by
    rcases (o6 g hg).1 with e | e
    · exact ⟨by rw [e]; exact hBn, Or.inl e⟩
    · exact ⟨Nat.le_trans gW.size e, Or.inr e⟩
  have gB : w.grownBy W9 none := grown_new (grown_none_trans gA g7) g9 (fun g hg => (ob g hg).1)
  refine ⟨p9, c9, W9, hr9, gB, fun b hb1 hb2 => g9.block b (Nat.lt_of_lt_of_le hb2 (Nat.le_trans g6.size g7.size)) (fun e => ?_), g9, fun Q' hq R2 hr2 hnw => ⟨xs ++ news, t9, fun g hg => hq g ?_ (t9.kd g hg).2, fun u hu => ?_, fun k hk => ?_⟩⟩
  · rcases (ob b e.symm).2 with e1 | e1
    · exact hb1 e1
    · omega
  · rcases o9 with e | ⟨g', e, h2, _⟩
    · exact (ob g (by rw [← e]; exact hg)).1
    · rw [hg] at e; cases e
      exact Nat.le_trans (Nat.le_trans gA.size g7.size) h2
  · rcases List.mem_append.1 hu with e | e
    · exact s3 u e
    · exact h1 u e
  · by_cases e : k < n
    · rw [(take_at_app s1.1 hnl).1 e]; exact hr2 k _ e (s4 k e)
    · obtain rfl : k = n := by omega
      rw [(take_at_app (k := 0) s1.1 hnl).2]; exact hnw
/-- bytes copied into a row of their own -/
theorem bytes_lay {p : Option Addr} {l : List UInt8} {q : Nat} (hby : byA w p l) (hnl : p = none → l.length = 0 ∧ q = 0) (hl : l.length ≤ 10000000) {B : Nat} (hB : w.heap[B]? = some (.cells #[] 5 (0, 0))) :
    ∃ p2 c2 W2, (∀ ty, (Builtin.append_ #[27, 27] ty #[.slice (some ⟨B, 0, none⟩) 0 0, .slice p l.length q]).run Try.prog w = .ok (.slice p2 l.length c2) W2) ∧ w.grownBy W2 (some B) ∧ bys W2 p2 l ∧ ∀ a, p2 = some a → (a.block = B ∨ w.heap.size ≤ a.block) ∧ a.block < W2.heap.size ∧ kd W2 a.block = 5 + 2 := by
  have src : srcS w 1 p l.length q (by8 l) := by
    cases p with
    | none =>
      obtain ⟨h1, h2⟩ := hnl rfl
      have : l = [] := List.eq_nil_of_length_eq_zero h1
      subst this
      exact Or.inl ⟨rfl, rfl, h2, rfl⟩
    | some ad => exact Or.inr ⟨ad, rfl, by rw [by8_len]; omega, hby.cells ad rfl, by8_one _⟩
  obtain ⟨v2, W2, r2, ow2, g2, o2⟩ := rwBy.more (row_none hB) src (by omega)
  rw [Nat.zero_add, List.nil_append] at ow2
  obtain ⟨t2, l2⟩ := ownsRow_shr ow2
  obtain ⟨p2, c2, e2, _, _, e4, _⟩ := t2.form
  subst e2
  refine ⟨p2, c2, W2, r2, g2, ?_, fun a ha => ?_⟩
  · cases p2 with
    | none =>
      have := (e4 rfl).1
      exact Or.inl ⟨rfl, List.eq_nil_of_length_eq_zero this⟩
    | some a =>
      obtain ⟨g, o, rfl, hc⟩ := t2.cell
      refine Or.inr ⟨g, o, rfl, fun i x hx => hc i _ ?_⟩
      simp [by8, hx]
  · subst ha
    refine ⟨?_, l2 _ rfl, (t2.kd _ rfl).1⟩
    rcases o2 _ rfl with e | e
    · simp [Value.ownBlock] at e; exact Or.inl e.symm
    · exact Or.inr e
theorem RU.then {Q2 : Nat → Prop} {W : World} (hb : ∀ i, Q i → i < w.heap.size) (hc : Chg (hbq Q w) w W) (hq : ∀ i, Q2 i → ext Q w W i) (h : RU Q2 W d S T w') : RU Q w d S T w' := by
  obtain ⟨R, h1, h2⟩ := h
  refine ⟨R, h1.away (Chg.refl (fun _ => False) _) (fun _ _ e => e) (fun x hx => ?_) (ext_pb hb (Nat.le_trans hc.size h2.size)), hb_trans hc h2 hq⟩
  rcases hx with e | e
  · rcases hq x e with e1 | e1
    · exact Or.inl e1
    · exact Or.inr ⟨e1.1, Nat.lt_of_lt_of_le e1.2 h2.size⟩
  · exact Or.inr ⟨Nat.le_trans hc.size e.1, e.2⟩
end Go.Proofs.Ytbdlamlplfogjaa
namespace Go.Proofs.Ytbdlamlplfogjaa
open Go.RowKit Go.Maps Go.Joins
variable {Q : Nat → Prop} {w w' : World} {d : Nat} {S : St} {T : Nat → Nat → List ByteArray} {R : Lr}

set_option maxHeartbeats 4000000 in
set_option maxRecDepth 100000 in
theorem rSend_no (h : RL Q w d S T R) (f t : Int) (v : Value) (hno : ¬ (isS S f = true ∧ 0 ≤ t ∧ t < S.N)) : Calls Try.prog 31 #[.pointer (some ⟨d, 0, none⟩), .int .i64 f, .int .i64 t, v] w (REQ Q w d S T 60) := by
  have H1 := mkHid (rNode_any h t)
  have H2 := mkHid (rIs_any h f)
  have U := mkHid (h.up (grown_refl _))
  by_cases ht : 0 ≤ t ∧ t < S.N
  · have hf : isS S f = false := by
      cases hs : isS S f with
      | false => rfl
      | true => exact absurd ⟨hs, ht⟩ hno
    rw [decide_eq_true ht] at H1
    rw [hf] at H2
    clear h hno ht hf
    go_enter Try.func31, Try.ntmps31
    go_wp2_with fail
    refine H1.out.mono ?_
    rintro e w1 ⟨rfl, hwx⟩; have hwx2 := hwx.symm; subst hwx2; clear hwx
    go_wp2_with fail
    refine H2.out.mono ?_
    rintro e w1 ⟨rfl, hwx⟩; have hwx2 := hwx.symm; subst hwx2; clear hwx
    go_wp2_with fail
    go_ret
    exact ⟨rfl, U.out⟩
  · rw [decide_eq_false ht] at H1
    clear h hno ht H2
    go_enter Try.func31, Try.ntmps31
    go_wp2_with fail
    refine H1.out.mono ?_
    rintro e w1 ⟨rfl, hwx⟩; have hwx2 := hwx.symm; subst hwx2; clear hwx
    go_wp2_with fail
    go_ret
    exact ⟨rfl, U.out⟩
set_option maxHeartbeats 4000000 in
set_option maxRecDepth 100000 in
theorem rSend_long (h : RL Q w d S T R) {i j : Nat} (hs : isS S (i : Int) = true) (hj : j < S.N) {p : Option Addr} {l : List UInt8} {q : Nat} (ht : (S.wy i j).t ≤ (T i j).length) (hT : (T i j).length ≤ 5000000) (hlong : 65536 < l.length ∨ 4096 ≤ (T i j).length - (S.wy i j).t) : Calls Try.prog 31 #[.pointer (some ⟨d, 0, none⟩), .int .i64 (i : Int), .int .i64 (j : Int), .slice p l.length q] w (REQ Q w d S T 2) := by
  obtain ⟨i', hi', hi, _⟩ := isS_in hs
  obtain rfl : i = i' := by omega
  have H1 := mkHid (rNode_any h (j : Int))
  have H2 := mkHid (rIs_any h (i : Int))
  rw [decide_eq_true (show 0 ≤ (j : Int) ∧ (j : Int) < (S.N : Int) by omega)] at H1
  rw [hs] at H2
  obtain ⟨c0, c1, c2, c3, _⟩ := h.cs
  obtain ⟨y0, y1, y2, y3, y4, yf⟩ := h.ycell hi hj
  obtain ⟨ps, cs, he, _⟩ := (h.sr i j hi hj).form
  have i1 : (i : Int) < (S.N : Int) := by omega
  have i2 : (j : Int) < (S.N : Int) := by omega
  rw [he] at y2
  have U : Hid (∀ o, RU Q w d S T (w.alloc o)) := fun o => h.up (grown_al (grown_refl _) _)
  obtain ⟨TL, hTL⟩ : ∃ TL, TL = (T i j).length := ⟨_, rfl⟩
  rw [← hTL] at y2 ht hT hlong
  have i3 : IntKind.i64.wrap ((TL : Int) - ((S.wy i j).t : Int)) = (TL : Int) - ((S.wy i j).t : Int) := by rw [IntKind.wrap_i64]; omega
  by_cases h1 : 65536 < l.length
  · have i4 : (65536 : Int) < (l.length : Int) := by omega
    clear h hs he hTL hlong yf
    go_enter Try.func31, Try.ntmps31
    go_wp2_with fail
    refine H1.out.mono ?_
    rintro e w1 ⟨rfl, hwx⟩; have hwx2 := hwx.symm; subst hwx2; clear hwx
    go_wp2_with fail
    refine H2.out.mono ?_
    rintro e w1 ⟨rfl, hwx⟩; have hwx2 := hwx.symm; subst hwx2; clear hwx
    go_wp2_with fail
    go_ret
    exact ⟨rfl, U.out _⟩
  · have i4 : ¬ (65536 : Int) < (l.length : Int) := by omega
    have i5 : (4096 : Int) ≤ (TL : Int) - ((S.wy i j).t : Int) := by omega
    clear h hs he hTL hlong yf
    go_enter Try.func31, Try.ntmps31
    go_wp2_with fail
    refine H1.out.mono ?_
    rintro e w1 ⟨rfl, hwx⟩; have hwx2 := hwx.symm; subst hwx2; clear hwx
    go_wp2_with fail
    refine H2.out.mono ?_
    rintro e w1 ⟨rfl, hwx⟩; have hwx2 := hwx.symm; subst hwx2; clear hwx
    go_wp2_with fail
    go_ret
    exact ⟨rfl, U.out _⟩
end Go.Proofs.Ytbdlamlplfogjaa
