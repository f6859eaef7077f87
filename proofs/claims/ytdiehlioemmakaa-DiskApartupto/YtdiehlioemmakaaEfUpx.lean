/-
  The walk of lockstepref04's Crash.
-/
import Derived.Test.YtdiehlioemmakaaEfTpx
import Derived.Test.YtdiehlioemmakaaUD
namespace Go.Proofs.Ytdiehlioemmakaa
open Go.RowKit Go.Maps Go.Joins
variable {F : Nat → Prop}

/-- how many bytes of a file stay -/
def rk (keeps : List Int) (t : Nat) (x : List UInt8 × Nat) : Nat := x.2 + lft (if keeps = [] then 0 else keeps.getD (t % keeps.length) 0) (x.1.length - x.2 + 1)
/-- a file behind a crash, and whether a number of the script was asked for it -/
def rx (keeps : List Int) (t : Nat) (x : List UInt8 × Nat) : (List UInt8 × Nat) × Nat := if x.2 < x.1.length then ((x.1.take (rk keeps t x), rk keeps t x), t + 1) else ((x.1, x.1.length), t)
/-- all files behind a crash -/
def crF (keeps : List Int) : Nat → Ws → List (List UInt8 × Nat) → List (List UInt8 × Nat)
  | _, [], fs => fs
  | t, p :: r, fs => crF keeps (rx keeps t (fs.getD p.2 ([], 0))).2 r (fs.set p.2 (rx keeps t (fs.getD p.2 ([], 0))).1)
def crashS (keeps : List Int) (names : Int) (s : St) : St := { s with fs := crF keeps 0 (s.ways.getD (lft names s.ways.length) []) s.fs, ways := [s.ways.getD (lft names s.ways.length) []], left := 0, dead := false }
theorem lft_lt (k : Int) {n : Nat} (hn : 0 < n) : lft k n < n := by
  unfold lft
  split
  · exact hn
  · have h1 := Int.emod_lt_of_pos k (show 0 < (n : Int) by omega)
    have h2 := Int.emod_nonneg k (show (n : Int) ≠ 0 by omega)
    omega
theorem rk_le {keeps : List Int} {t : Nat} {x : List UInt8 × Nat} (h : x.2 < x.1.length) : rk keeps t x ≤ x.1.length := by
  unfold rk
  have := lft_lt (if keeps = [] then 0 else keeps.getD (t % keeps.length) 0) (show 0 < x.1.length - x.2 + 1 by omega)
  omega
theorem crF_len (keeps : List Int) : ∀ (t : Nat) (W : Ws) (fs : List (List UInt8 × Nat)), (crF keeps t W fs).length = fs.length
  | _, [], _ => rfl
  | t, p :: r, fs => by show (crF keeps _ r _).length = _; rw [crF_len, List.length_set]
theorem rd1_take {w : World} {f : Nat} {l : List UInt8} {p : Option Addr} {c L k : Nat} (h : rd1 F w f (.slice p L c) (by8 l)) (hk : k ≤ L) (hL : L = l.length) : rd1 F w f (.slice p k c) (by8 (l.take k)) := by
  subst hL
  obtain ⟨q, d, e, h1, h2, h3, h4⟩ := h
  simp only [Value.slice.injEq] at e
  obtain ⟨rfl, _, rfl⟩ := e
  have e4 : (by8 l).length = l.length := by8_len l
  have e5 : (by8 (l.take k)).length = k := by rw [by8_len, List.length_take]; omega
  refine ⟨p, c, by rw [e5], by rw [e5]; omega, h2, h3, ?_⟩
  rcases h4 with h4 | ⟨g, o, hp, hg, h4⟩
  · refine Or.inl (List.eq_nil_of_length_eq_zero ?_)
    rw [e5]
    have : l.length = 0 := by rw [← e4, h4]; rfl
    omega
  · refine Or.inr ⟨g, o, hp, hg, fun i u hi => h4 i u ?_⟩
    rw [by8_take, List.getElem?_take] at hi
    split at hi
    · exact hi
    · simp at hi
theorem way_at {w : World} {f : Nat} {s : St} (h : Rf F w f s) {K : Nat} {W : Ws} (hK : s.ways[K]? = some W) : ∃ g o c vN vI vF, RB w f s.q s.left vF (.slice (some ⟨g, o, none⟩) s.ways.length c) s.dead ∧ w.cell? ⟨g, o + K * 2, none⟩ = some vN ∧ w.cell? ⟨g, o + K * 2 + 1, none⟩ = some vI ∧ wayIn F w f (vN, vI) W ∧ g ≠ f ∧ listIn F (fileIn F) w f vF s.fs := by
  obtain ⟨vF, vW, h1, hFl, us, hl, ⟨p, c, hv, _, _, _, hc⟩, hw⟩ := h.fs
  have hi := (List.getElem?_eq_some_iff.1 hK).1
  rcases hc with hc | ⟨g, o, rfl, hgf, hc⟩
  · rw [hc] at hl; simp at hl; omega
  obtain ⟨u, hu⟩ : ∃ u, us[K]? = some u := ⟨us[K]'(by omega), List.getElem?_eq_getElem _⟩
  obtain ⟨k1, k2⟩ := hc K u hu
  rw [hv, hl] at h1
  exact ⟨g, o, c, u.1, u.2, vF, h1, k1, k2, hw K u W hu hK, hgf.1, hFl⟩
/-- one way alone -/
theorem cr_mk {w W2 : World} {f b : Nat} {s : St} {x : Ws} {vF vW u1 u2 : Value} (fb : ∀ i, F i → i < w.heap.size) (hf : f < w.heap.size) (hF : listIn F (fileIn F) w f vF s.fs) (hx : wayIn F w f (u1, u2) x) (k : Keep f w W2) (hB : RB W2 f s.q 0 vF vW false) (hb : W2.heap[b]? = some (.cells #[u1, u2] 95 (0, 0))) (hbw : w.heap.size ≤ b) :
    Rf F (W2.setCell ⟨f, 2, none⟩ (.slice (some ⟨b, 0, none⟩) 1 1)) f { s with ways := [x], left := 0, dead := false } ∧ Keep f w (W2.setCell ⟨f, 2, none⟩ (.slice (some ⟨b, 0, none⟩) 1 1)) := by
  have K : Keep f w (W2.setCell ⟨f, 2, none⟩ (.slice (some ⟨b, 0, none⟩) 1 1)) := k.trans (Keep.set W2 f 2 _)
  have hb2 : (W2.setCell ⟨f, 2, none⟩ (.slice (some ⟨b, 0, none⟩) 1 1)).heap[b]? = some (.cells #[u1, u2] 95 (0, 0)) := (heap_setCell_other _ ⟨f, 2, none⟩ b _ (show b ≠ f by omega)).trans hb
  refine ⟨⟨⟨vF, _, (hB.set).2.2.2 _, listIn.kept (R := fileIn F) (fun h k => fileIn.kept h k) hF K, [(u1, u2)], rfl, ⟨some ⟨b, 0, none⟩, 1, rfl, Nat.le_refl _, by omega, (fun e => by cases e), Or.inr ⟨b, 0, rfl, ⟨by omega, fun h => by have := fb b h; omega⟩, fun i u hi => ?_⟩⟩, fun i u y hu hy => ?_⟩, by simp, fun i hi => Nat.lt_of_lt_of_le (fb i hi) K.size⟩, K⟩
  · obtain rfl : i = 0 := by have := (List.getElem?_eq_some_iff.1 hi).1; simp at this; omega
    simp at hi; subst hi
    exact ⟨(cell_of_block hb2 0).trans rfl, (cell_of_block hb2 1).trans rfl⟩
  · obtain rfl : i = 0 := by have := (List.getElem?_eq_some_iff.1 hu).1; simp at this; omega
    simp at hu hy; subst hu hy
    exact hx.kept K
theorem rd1_int {w : World} {f : Nat} {v : Value} {W : Ws} (h : rd1 F w f v (W.map fun p => intV p.2)) : ∃ P c, v = .slice P W.length c ∧ (W = [] ∨ ∃ g o, P = some ⟨g, o, none⟩ ∧ g ≠ f ∧ ∀ i p, W[i]? = some p → w.cell? ⟨g, o + i, none⟩ = some (.int .i64 (p.2 : Int))) := by
  obtain ⟨p, c, e, _, _, _, h5⟩ := h
  rw [List.length_map] at e
  refine ⟨p, c, e, ?_⟩
  rcases h5 with h5 | ⟨g, o, hp, hg, h5⟩
  · exact Or.inl (List.map_eq_nil_iff.1 h5)
  · exact Or.inr ⟨g, o, hp, hg.1, fun i q hq => h5 i _ (by rw [List.getElem?_map, hq]; rfl)⟩
end Go.Proofs.Ytdiehlioemmakaa

