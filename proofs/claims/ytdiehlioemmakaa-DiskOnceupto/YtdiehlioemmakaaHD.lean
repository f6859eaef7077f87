/-
  The walks of lockstepref04's now and find on the document's disk, and of at.
-/
import Derived.Test.YtdiehlioemmakaaHC
import Derived.Test.YtdiehlioemmakaaEfEx
namespace Go.Proofs.Ytdiehlioemmakaa
open Go.RowKit
variable {F : Nat → Prop}

set_option maxHeartbeats 2000000 in
set_option maxRecDepth 1000000 in
theorem find_nil (p1 p2 : Option Addr) (c1 c2 : Nat) (s : List UInt8) (w : World) :
    Calls Try.prog 66 #[.agg #[.slice p1 0 c1, .slice p2 0 c2], .string ⟨s.toArray⟩] w fun e w' => e = .returned (.int .i64 (fnd s [])) ∧ w.grownBy w' none := by
  have hg := World.grownBy_alloc w (.cells #[.slice p1 0 c1, .slice p2 0 c2] 95) none
  have hB : (w.alloc (.cells #[.slice p1 0 c1, .slice p2 0 c2] 95)).heap[w.heap.size]? = some (.cells #[.slice p1 0 c1, .slice p2 0 c2] 95 (0, 0)) := heap_alloc_new _ _
  have x0 := (Joins.cell_of_block hB 0).trans rfl
  have x1 := (Joins.cell_of_block hB 1).trans rfl
  show Calls _ _ _ _ fun e w' => e = .returned (.int .i64 (-1)) ∧ _
  go_enter Try.func66, Try.ntmps66
  go_wp2_with fail
  generalize w.alloc (.cells #[.slice p1 0 c1, .slice p2 0 c2] 95) = w2 at *
  go_loopw [5] (fun s5 wr => s5 = .int .i64 0 ∧ wr = w2) (fun _ _ => 0)
  case atStart => exact ⟨rfl, rfl⟩
  case round =>
    obtain ⟨rfl, rfl⟩ := hrel
    go_wp2_with fail
    go_ret
    exact ⟨rfl, hg⟩
/-- a way's two slices, and how it is looked through -/
theorem find_way {w : World} {f : Nat} {u : Value × Value} {l : Ws} (h : wayIn F w f u l) (hb : l.length ≤ 9000000) : ∃ pN cN pI cI, u = (.slice pN l.length cN, .slice pI l.length cI) ∧ ∀ (s : List UInt8) (w' : World), w.grownBy w' none → Calls Try.prog 66 #[.agg #[.slice pN l.length cN, .slice pI l.length cI], .string ⟨s.toArray⟩] w' fun e w'' => e = .returned (.int .i64 (fnd s l)) ∧ w'.grownBy w'' none := by
  obtain ⟨⟨pN, cN, e1, _, _, _, h1⟩, ⟨pI, cI, e2, _, _, _, h2⟩⟩ := h
  rw [List.length_map] at e1 e2
  refine ⟨pN, cN, pI, cI, by rw [← e1, ← e2], fun s w' hg => ?_⟩
  by_cases hl : l = []
  · subst hl
    exact find_nil pN pI cN cI s w'
  · rcases h1 with h1 | ⟨g1, o1, rfl, _, h1⟩
    · exact absurd (List.map_eq_nil_iff.1 h1) hl
    rcases h2 with h2 | ⟨g2, o2, rfl, _, h2⟩
    · exact absurd (List.map_eq_nil_iff.1 h2) hl
    refine find_any g1 o1 g2 o2 l.length cN cI l s w' rfl hb (fun i p hp => ⟨hg.cell (h1 i _ ?_) (by simp), hg.cell (h2 i _ ?_) (by simp)⟩)
    · rw [List.getElem?_map, hp]; rfl
    · rw [List.getElem?_map, hp]; rfl
/-- the names as they are -/
theorem now_rf {w : World} {f : Nat} {s : St} (h : Rf F w f s) (hb : s.ways.length ≤ 9000000) (hn : s.now.length ≤ 9000000) : ∃ pN cN pI cI, wayIn F w f (.slice pN s.now.length cN, .slice pI s.now.length cI) s.now ∧ (∀ (n : List UInt8) (w' : World), w.grownBy w' none → Calls Try.prog 66 #[.agg #[.slice pN s.now.length cN, .slice pI s.now.length cI], .string ⟨n.toArray⟩] w' fun e w'' => e = .returned (.int .i64 (fnd n s.now)) ∧ w'.grownBy w'' none) ∧
    ∀ w', w.grownBy w' none → Calls Try.prog 65 #[.pointer (some ⟨f, 0, none⟩)] w' fun e w'' => e = .returned (.agg #[.slice pN s.now.length cN, .slice pI s.now.length cI]) ∧ w'.grownBy w'' none := by
  obtain ⟨vF, vW, h1, _, us, hl, ⟨p, c, rfl, _, _, _, hc⟩, hw⟩ := h.fs
  have hne : us ≠ [] := fun e => h.ne (List.eq_nil_of_length_eq_zero (by rw [← hl, e]; rfl))
  rcases hc with hc | ⟨g, o, rfl, _, hc⟩
  · exact absurd hc hne
  have hpos : 0 < us.length := List.length_pos_iff.2 hne
  obtain ⟨u, hu⟩ : ∃ u, us[us.length - 1]? = some u := ⟨us[us.length - 1]'(by omega), List.getElem?_eq_getElem _⟩
  have hx : s.ways[us.length - 1]? = some s.now := by
    unfold St.now
    rw [List.getLastD_eq_getLast?, List.getLast?_eq_getElem?, hl, List.getElem?_eq_getElem (by omega)]; rfl
  have hw1 := hw _ u _ hu hx
  obtain ⟨pN, cN, pI, cI, rfl, hf⟩ := find_way hw1 hn
  obtain ⟨k1, k2⟩ := hc _ _ hu
  refine ⟨pN, cN, pI, cI, hw1, hf, fun w' hg => ?_⟩
  exact now_any f g o us.length c (us.length - 1) s.q s.left vF pN pI _ cN _ cI s.dead w' ((hg.block f (lt_of_heap h1) (by simp)).trans h1) (by omega) (by omega) (hg.cell k1 (by simp)) (hg.cell k2 (by simp))
def atE (n : List UInt8) (l : Ws) : Int := if nmOk n = false then 6 else if fnd n l < 0 then 40 else 0
def atI (n : List UInt8) (l : Ws) : Int := if nmOk n = false then 0 else if fnd n l < 0 then 0 else fnd n l
set_option maxHeartbeats 2000000 in
set_option maxRecDepth 1000000 in
theorem at_any (f : Nat) (s : St) (n : List UInt8) (w : World) (h : Rf F w f s) (hb : s.ways.length ≤ 9000000) (hn : s.now.length ≤ 9000000) :
    Calls Try.prog 70 #[.pointer (some ⟨f, 0, none⟩), .string ⟨n.toArray⟩] w fun e w' => e = .returned (.tuple #[.int .i64 (atI n s.now), .int .i64 (atE n s.now)]) ∧ w.grownBy w' none := by
  obtain ⟨pN, cN, pI, cI, _, hf, hw⟩ := now_rf h hb hn
  have NM : Hid (∀ w, Calls Try.prog 64 #[.string ⟨n.toArray⟩] w fun e w' => e = .returned (.bool (nmOk n)) ∧ w' = w) := fun w => refName_any n w
  have NW : Hid (∀ w', w.grownBy w' none → Calls Try.prog 65 #[.pointer (some ⟨f, 0, none⟩)] w' fun e w'' => e = .returned (.agg #[.slice pN s.now.length cN, .slice pI s.now.length cI]) ∧ w'.grownBy w'' none) := hw
  have FD : Hid (∀ w', w.grownBy w' none → Calls Try.prog 66 #[.agg #[.slice pN s.now.length cN, .slice pI s.now.length cI], .string ⟨n.toArray⟩] w' fun e w'' => e = .returned (.int .i64 (fnd n s.now)) ∧ w'.grownBy w'' none) := fun w' h => hf n w' h
  have G0 : w.grownBy w none := ⟨rfl, rfl, rfl, Nat.le_refl _, fun _ _ _ => rfl⟩
  unfold atI atE
  generalize s.now.length = N1 at *
  generalize fnd n s.now = F at *
  cases hB : nmOk n with
  | false =>
    rw [hB] at NM
    simp only [if_true]
    clear NW FD hf hw
    go_enter Try.func70, Try.ntmps70
    go_wp2_with fail
    refine (NM.out _).mono ?_
    rintro e w1 ⟨rfl, hw1⟩; have hw2 := hw1.symm; subst hw2; clear hw1
    go_wp2_with fail
    go_ret2
    exact ⟨rfl, G0⟩
  | true =>
    rw [hB] at NM
    simp only [Bool.true_eq_false, if_false]
    clear hf hw
    by_cases hF : F < 0
    · rw [if_pos hF, if_pos hF]
      go_enter Try.func70, Try.ntmps70
      go_wp2_with fail
      refine (NM.out _).mono ?_
      rintro e w1 ⟨rfl, hw1⟩; have hw2 := hw1.symm; subst hw2; clear hw1
      go_wp2_with fail
      refine (NW.out _ G0).mono ?_
      rintro e w2 ⟨rfl, g2⟩
      go_wp2_with fail
      refine (FD.out _ g2).mono ?_
      rintro e w3 ⟨rfl, g3⟩
      have G3 : w.grownBy w3 none := ⟨g3.os.trans g2.os, g3.tape.trans g2.tape, g3.output.trans g2.output, Nat.le_trans g2.size g3.size, fun k hk hn => (g3.block k (Nat.lt_of_lt_of_le hk g2.size) hn).trans (g2.block k hk hn)⟩
      go_wp2_with fail
      go_ret2
      exact ⟨rfl, G3⟩
    · rw [if_neg hF, if_neg hF]
      go_enter Try.func70, Try.ntmps70
      go_wp2_with fail
      refine (NM.out _).mono ?_
      rintro e w1 ⟨rfl, hw1⟩; have hw2 := hw1.symm; subst hw2; clear hw1
      go_wp2_with fail
      refine (NW.out _ G0).mono ?_
      rintro e w2 ⟨rfl, g2⟩
      go_wp2_with fail
      refine (FD.out _ g2).mono ?_
      rintro e w3 ⟨rfl, g3⟩
      have G3 : w.grownBy w3 none := ⟨g3.os.trans g2.os, g3.tape.trans g2.tape, g3.output.trans g2.output, Nat.le_trans g2.size g3.size, fun k hk hn => (g3.block k (Nat.lt_of_lt_of_le hk g2.size) hn).trans (g2.block k hk hn)⟩
      go_wp2_with fail
      go_ret2
      exact ⟨rfl, G3⟩
end Go.Proofs.Ytdiehlioemmakaa
namespace Go.Proofs.Ytdiehlioemmakaa
open Go.RowKit

set_option maxHeartbeats 2000000 in
set_option maxRecDepth 1000000 in
theorem refStop_any (f : Nat) (q left n : Int) (vF vW : Value) (dead : Bool) (w : World) (h : RB w f q left vF vW dead) :
    Calls Try.prog 42 #[.pointer (some ⟨f, 0, none⟩), .int .i64 n] w fun e w' => e = .returned (.tuple #[]) ∧ RB w' f q n vF vW false ∧ Keep f w w' := by
  obtain ⟨c0, c1, c2, c3, c4, fr⟩ := h.c
  have h3 := (h.set).1 n
  have h4 := (h3.set).2.1 false
  obtain ⟨_, _, _, d3, d4, dr⟩ := h3.c
  have f3 := fr 3
  have g4 := dr 4
  have K : Keep f w ((w.setCell ⟨f, 3, none⟩ (.int .i64 n)).setCell ⟨f, 4, none⟩ (.bool false)) := (Keep.set w f 3 _).trans (Keep.set _ f 4 _)
  clear h h3 fr dr
  go_enter Try.func42, Try.ntmps42
  go_wp2_with fail
  go_end0
  exact ⟨rfl, h4, K⟩
/-- a number's remainder; of one below 0: 0 -/
def lft (k : Int) (n : Nat) : Nat := if k < 0 then 0 else (k % (n : Int)).toNat
set_option maxHeartbeats 2000000 in
set_option maxRecDepth 1000000 in
theorem left_any (k : Int) (n : Nat) (w : World) (hn : 0 < n) (hn2 : n ≤ 1000000000000) (hk : -9223372036854775808 ≤ k ∧ k ≤ 9223372036854775807) :
    Calls Try.prog 59 #[.int .i64 k, .int .i64 (n : Int)] w fun e w' => e = .returned (.int .i64 (lft k n : Int)) ∧ w' = w := by
  by_cases h0 : k < 0
  · have e : lft k n = 0 := if_pos h0
    rw [e]
    go_enter Try.func59, Try.ntmps59
    go_wp2_with fail
    go_ret
    exact ⟨rfl, rfl⟩
  · have hm : 0 ≤ k % (n : Int) := Int.emod_nonneg _ (by omega)
    have hm2 : k % (n : Int) < (n : Int) := Int.emod_lt_of_pos _ (by omega)
    have e : (lft k n : Int) = k % (n : Int) := by unfold lft; rw [if_neg h0]; omega
    rw [e]
    obtain ⟨K, rfl⟩ : ∃ K : Nat, k = K := ⟨k.toNat, by omega⟩
    have hne : ((n : Int) == 0) = false := by rw [beq_eq_false_iff_ne]; omega
    have hne2 : (n : Int) ≠ 0 := by omega
    have hw : IntKind.i64.wrap ((K : Int) % (n : Int)) = (K : Int) % (n : Int) := by rw [IntKind.wrap_i64]; omega
    go_enter Try.func59, Try.ntmps59
    go_wp2_with fail
    go_ret
    exact ⟨by simp, rfl⟩
end Go.Proofs.Ytdiehlioemmakaa
namespace Go.Proofs.Ytdiehlioemmakaa
open Go.RowKit
variable {F : Nat → Prop}

def flat2 (us : List (Value × Value)) : List Value := us.flatMap fun u => [u.1, u.2]
theorem flat2_len : ∀ us : List (Value × Value), (flat2 us).length = us.length * 2
  | [] => rfl
  | u :: us => by
    show ([u.1, u.2] ++ flat2 us).length = _
    rw [List.length_append, flat2_len us, List.length_cons]; simp; omega
theorem flat2_app (a b : List (Value × Value)) : flat2 (a ++ b) = flat2 a ++ flat2 b := by simp [flat2]
theorem flat2_get : ∀ (us : List (Value × Value)) (i : Nat) (u : Value × Value), us[i]? = some u → (flat2 us)[i * 2]? = some u.1 ∧ (flat2 us)[i * 2 + 1]? = some u.2
  | [], i, u, h => by simp at h
  | x :: us, 0, u, h => by simp at h; subst h; exact ⟨rfl, rfl⟩
  | x :: us, i + 1, u, h => by
    simp at h
    have ih := flat2_get us i u h
    have e : flat2 (x :: us) = x.1 :: x.2 :: flat2 us := rfl
    rw [e]
    have e1 : (i + 1) * 2 = i * 2 + 1 + 1 := by omega
    rw [e1]
    exact ⟨by simpa using ih.1, by simpa using ih.2⟩
theorem flat2_in {w : World} {g o : Nat} {us : List (Value × Value)} (h : ∀ (i : Nat) u, us[i]? = some u → w.cell? ⟨g, o + i * 2, none⟩ = some u.1 ∧ w.cell? ⟨g, o + i * 2 + 1, none⟩ = some u.2) : ∀ j y, (flat2 us)[j]? = some y → w.cell? ((⟨g, o, none⟩ : Addr).add j) = some y := by
  intro j y hj
  have hl := (List.getElem?_eq_some_iff.1 hj).1
  rw [flat2_len] at hl
  have hv : us[j / 2]? = some us[j / 2] := List.getElem?_eq_getElem (by omega)
  obtain ⟨a1, a2⟩ := flat2_get us (j / 2) _ hv
  obtain ⟨b1, b2⟩ := h _ _ hv
  rw [add_plain]
  rcases (show j % 2 = 0 ∨ j % 2 = 1 by omega) with z | z
  · have e : j = j / 2 * 2 := by omega
    rw [e] at hj ⊢
    rw [a1] at hj; cases hj; exact b1
  · have e : j = j / 2 * 2 + 1 := by omega
    rw [e] at hj ⊢
    rw [a2] at hj; cases hj
    rw [← Nat.add_assoc]; exact b2
theorem nmInfo : (Try.prog.info? 95).map (fun i => (i.zero, i.size, i.bytes)) = some (some (.agg #[.slice none 0 0, .slice none 0 0]), 2, 48) := by kernel_rfl
theorem nmSlice : Try.prog.underlying 74 = some (.slice 95) := by kernel_rfl
/-- elements of two cells at the end of a row of one's own, as a step -/
theorem step_two (sl el : TypeId) (zv : Value) (by' : Nat) (hsl : Try.prog.underlying sl = some (.slice el)) (hinf : (Try.prog.info? el).map (fun i => (i.zero, i.size, i.bytes)) = some (some zv, 2, by')) (hz1 : zv.cells.size = 2)
    {ops : Array Oper} {o : Oper} {a : Act} {w : World} {K : Act → World → Prop} {Q : Exit → Act → World → Prop} {E : Prop}
    (hgd : o.guard = none) (s x : Operand) (ho : o.op = .call { callee := .builtin .append, args := #[s, x], argTypes := #[sl, sl] })
    (base n m c : Nat) (v : Value) (xs news : List Value) (ad : Addr) (hs : a.eval s = v) (hown : w.ownsRow base el 2 v n xs)
    (hx : a.eval x = .slice (some ad) m c) (hm : news.length = m * 2) (hnews : ∀ j u, news[j]? = some u → w.cell? (ad.add j) = some u) (h1 : ∀ u ∈ news, u.oneCell' = true) (hl : n + m ≤ 10000000) (hb : base ≤ w.heap.size) (hby : by' ≤ 48)
    (h : ∀ v' w', w'.ownsRow base el 2 v' (n + m) (xs ++ news) → w.grownBy w' v.ownBlock → K (a.put o.dst v') w') :
    if Region.wanted o (yielded ops a.tmps) = true then Oper.wp Try.prog o a w K Q else E := by
  have hwd : Region.wanted o (yielded ops a.tmps) = true := by simp [Region.wanted, hgd]
  rw [if_pos hwd]
  obtain ⟨i0, hi, h0, h1', h2⟩ := info_parts hinf
  refine wp_append_own w s x sl ho base el i0 zv 2 by' hsl hi h0 h1' h2 hz1 (by decide) v n xs hs hown ad m c news hx hm hnews h1 (by unfold maxLen; omega) ?_ hb ?_
  · have : by' * (n + m) ≤ 48 * 10000000 := Nat.mul_le_mul hby hl
    rw [Nat.mul_comm]; omega
  · intro v' w' k1 k2 _
    exact h v' w' k1 k2
theorem cell_setH {w : World} {b o c j : Nat} {u v : Value} (hb : b ≠ c) (h : w.cell? ⟨b, o, none⟩ = some u) : (w.setCell ⟨c, j, none⟩ v).cell? ⟨b, o, none⟩ = some u := by
  have := heap_setCell_other w ⟨c, j, none⟩ b v hb
  unfold World.cell? at h ⊢
  simp only at h this ⊢
  rw [this]; exact h
theorem one_cells {w : World} {b : Nat} {x y : Value} {t : TypeId} (h : w.heap[b]? = some (.cells #[x, y] t (0, 0))) : ∀ j u, [x, y][j]? = some u → w.cell? ((⟨b, 0, none⟩ : Addr).add j) = some u := by
  intro j u hj
  rw [add_plain, Nat.zero_add]
  rcases j with _ | _ | j
  · simp at hj; subst hj; exact (Joins.cell_of_block h 0).trans rfl
  · simp at hj; subst hj; exact (Joins.cell_of_block h 1).trans rfl
  · simp at hj
theorem row_form2 {w : World} {base n : Nat} {e : TypeId} {v : Value} {xs : List Value} (h : w.ownsRow base e 2 v n xs) : ∃ P C, v = .slice P n C := by
  rcases h.2 with ⟨e, h0⟩ | ⟨g, cap, cur, e, _⟩
  · exact ⟨none, 0, by rw [e, h0]⟩
  · exact ⟨_, _, e⟩
theorem rd2_own {w : World} {base f n : Nat} {v : Value} {us : List (Value × Value)} {e : TypeId} (h : w.ownsRow base e 2 v n (flat2 us)) (hf : f < base) (hF : ∀ i, F i → i < base) : rd2 F w f v us := by
  have hl := h.1
  rw [flat2_len] at hl
  have hn : us.length = n := by omega
  rcases h.2 with ⟨rfl, h0⟩ | ⟨g, cap, cur, rfl, hg, _, hc, hm, _, _⟩
  · obtain rfl : us = [] := List.eq_nil_of_length_eq_zero (by omega)
    exact ⟨none, 0, rfl, Nat.zero_le _, by omega, fun _ => rfl, Or.inl rfl⟩
  · refine ⟨some ⟨g, 0, none⟩, cap, by rw [hn], by omega, by unfold maxLen at hm; omega, (fun e => by cases e), Or.inr ⟨g, 0, rfl, ⟨by omega, fun h => by have := hF g h; omega⟩, fun i u hi => ?_⟩⟩
    have hi2 := (List.getElem?_eq_some_iff.1 hi).1
    obtain ⟨a1, a2⟩ := flat2_get us i u hi
    rw [Nat.zero_add]
    exact ⟨(World.ownsRow.cellAt h (i * 2) (by omega)).trans a1, (World.ownsRow.cellAt h (i * 2 + 1) (by omega)).trans a2⟩
theorem row_set {w : World} {base e n f i : Nat} {v x : Value} {xs : List Value} (h : w.ownsRow base e 2 v n xs) (hf : f < base) : (w.setCell ⟨f, i, none⟩ x).ownsRow base e 2 v n xs := by
  refine (Chg.of_cell w ⟨f, i, none⟩ x).row h (fun g hg hh => ?_)
  have := own_ge h g hg
  simp only at hh
  omega
/-- one way more -/
theorem chg_mk {w W : World} {f n : Nat} {s : St} {x : Ws} {vF vW v : Value} {us : List (Value × Value)} {u1 u2 : Value} (fb : ∀ i, F i → i < w.heap.size) (hb : RB w f s.q s.left vF vW s.dead) (hF : listIn F (fileIn F) w f vF s.fs) (hl : us.length = s.ways.length)
    (hw : ∀ (i : Nat) (u : Value × Value) (x : Ws), us[i]? = some u → s.ways[i]? = some x → wayIn F w f u x) (hx : wayIn F w f (u1, u2) x) (hn : us.length = n) (k : Keep f w W) (hB : RB W f s.q s.left vF vW s.dead)
    (row : W.ownsRow (w.heap.size + 1) 95 2 v (n + 1) (flat2 us ++ [u1, u2])) :
    Rf F (W.setCell ⟨f, 2, none⟩ v) f { s with ways := s.ways ++ [x] } ∧ Keep f w (W.setCell ⟨f, 2, none⟩ v) := by
  have K : Keep f w (W.setCell ⟨f, 2, none⟩ v) := k.trans (Keep.set W f 2 v)
  have hf : f < w.heap.size + 1 := by have := lt_of_heap hb; omega
  have e : flat2 us ++ [u1, u2] = flat2 (us ++ [(u1, u2)]) := by rw [flat2_app]; rfl
  rw [e] at row
  refine ⟨⟨⟨vF, v, (hB.set).2.2.2 v, listIn.kept (R := fileIn F) (fun h k => fileIn.kept h k) hF K, us ++ [(u1, u2)], by simp [hl], rd2_own (row_set row hf) hf (fun i hi => by have := fb i hi; omega), fun i u y hu hy => ?_⟩, by simp, fun i hi => Nat.lt_of_lt_of_le (fb i hi) K.size⟩, K⟩
  rcases Nat.lt_or_ge i us.length with h | h
  · rw [List.getElem?_append_left h] at hu
    rw [List.getElem?_append_left (by omega)] at hy
    exact (hw i u y hu hy).kept K
  · rw [List.getElem?_append_right h] at hu
    rw [List.getElem?_append_right (by omega)] at hy
    have h0 : i - us.length = 0 := by
      have := (List.getElem?_eq_some_iff.1 hu).1
      simp at this; omega
    rw [h0] at hu
    rw [← hl, h0] at hy
    simp at hu hy
    subst hu hy
    exact hx.kept K
theorem rd1_one {w : World} {f : Nat} {v : Value} {us : List Value} (h : rd1 F w f v us) : ∃ p c, v = .slice p us.length c := by
  obtain ⟨p, c, e, _⟩ := h
  exact ⟨p, c, e⟩
theorem rd1_cell {w : World} {f : Nat} {v : Value} {us : List Value} (h : rd1 F w f v us) : v.oneCell' = true := by
  obtain ⟨p, c, e, _⟩ := h
  rw [e]; rfl
set_option maxHeartbeats 4000000 in
set_option maxRecDepth 1000000 in
theorem changes_more (f : Nat) (s : St) (x : Ws) (u1 u2 : Value) (w : World) (h : Rf F w f s) (hx : wayIn F w f (u1, u2) x) (hb : s.ways.length ≤ 9000000) :
    Calls Try.prog 68 #[.pointer (some ⟨f, 0, none⟩), .agg #[u1, u2]] w fun e w' => e = .returned (.tuple #[]) ∧ Rf F w' f { s with ways := s.ways ++ [x] } ∧ Keep f w w' ∧ w'.cell? ⟨f, 1, none⟩ = w.cell? ⟨f, 1, none⟩ := by
  obtain ⟨vF, vW, h1, hF, us, hl, ⟨p, c, rfl, _, _, _, hc⟩, hw⟩ := h.fs
  have hne : us ≠ [] := fun e => h.ne (List.eq_nil_of_length_eq_zero (by rw [← hl, e]; rfl))
  rcases hc with hc | ⟨g, o, rfl, hgf, hc⟩
  · exact absurd hc hne
  obtain ⟨pN, cN, e1⟩ := rd1_one hx.1
  obtain ⟨pI, cI, e2⟩ := rd1_one hx.2
  simp only at e1 e2
  subst e1 e2
  obtain ⟨n1, hn1⟩ : ∃ n, n = (x.map fun p => strV p.1).length := ⟨_, rfl⟩
  obtain ⟨n2, hn2⟩ : ∃ n, n = (x.map fun p => intV p.2).length := ⟨_, rfl⟩
  rw [← hn1, ← hn2] at hx ⊢
  obtain ⟨w0, hw0⟩ : ∃ y, y = w.alloc (.cells #[.slice pN n1 cN, .slice pI n2 cI] 95) := ⟨_, rfl⟩
  have k0 : Keep f w w0 := by rw [hw0]; exact Keep.alloc _
  have hB0 : w0.heap[w.heap.size]? = some (.cells #[.slice pN n1 cN, .slice pI n2 cI] 95 (0, 0)) := by rw [hw0]; exact heap_alloc_new _ _
  have sz0 : w0.heap.size = w.heap.size + 1 := by rw [hw0]; simp
  have bl0 : ∀ i, i < w.heap.size → w0.heap[i]? = w.heap[i]? := fun i hi => by rw [hw0]; exact Below.heap_alloc _ _ i hi
  have hfs := lt_of_heap h1
  have hF0 : RB w0 f s.q s.left vF (.slice (some ⟨g, o, none⟩) us.length c) s.dead := (bl0 f hfs).trans h1
  obtain ⟨_, _, cW, _, _, _⟩ := RB.c hF0
  have x0 : w0.cell? ⟨w.heap.size, 0, none⟩ = some (.slice pN n1 cN) := (Joins.cell_of_block hB0 0).trans rfl
  have x1 : w0.cell? ⟨w.heap.size, 1, none⟩ = some (.slice pI n2 cI) := (Joins.cell_of_block hB0 1).trans rfl
  have HL : Hid ((flat2 us).length = us.length * 2) := flat2_len us
  have hgs : g < w.heap.size := by
    obtain ⟨u, hu⟩ : ∃ u, us[0]? = some u := ⟨us[0]'(List.length_pos_iff.2 hne), List.getElem?_eq_getElem _⟩
    exact World.block_lt_of_cell? w _ (hc 0 u hu).1
  have hc0 : ∀ (i : Nat) u, us[i]? = some u → w0.cell? ⟨g, o + i * 2, none⟩ = some u.1 ∧ w0.cell? ⟨g, o + i * 2 + 1, none⟩ = some u.2 := fun i u hu => ⟨k0.cell hgf (hc i u hu).1, k0.cell hgf (hc i u hu).2⟩
  have HC : Hid (∀ j y, (flat2 us)[j]? = some y → w0.cell? ((⟨g, o, none⟩ : Addr).add j) = some y) := flat2_in hc0
  have HO : Hid (∀ u ∈ flat2 us, u.oneCell' = true) := by
    intro u hu
    obtain ⟨q, hq, hu⟩ := List.mem_flatMap.1 hu
    obtain ⟨i, hi, rfl⟩ := List.getElem_of_mem hq
    have hwi := hw i _ _ (List.getElem?_eq_getElem hi) (List.getElem?_eq_getElem (by omega))
    simp at hu
    rcases hu with rfl | rfl
    · exact rd1_cell hwi.1
    · exact rd1_cell hwi.2
  have HFIN : Hid (∀ W v, Below (w.heap.size + 1) w0 W → W.ownsRow (w.heap.size + 1) 95 2 v (us.length + 1) (flat2 us ++ [.slice pN n1 cN, .slice pI n2 cI]) → Rf F (W.setCell ⟨f, 2, none⟩ v) f { s with ways := s.ways ++ [x] } ∧ Keep f w (W.setCell ⟨f, 2, none⟩ v) ∧ (W.setCell ⟨f, 2, none⟩ v).cell? ⟨f, 1, none⟩ = w.cell? ⟨f, 1, none⟩) := fun W v bel row => by
    have hc := chg_mk h.fb h1 hF hl hw hx rfl (k0.trans ⟨bel.os, bel.tape, bel.output, bel.size, fun i hi _ => bel.block i (by omega)⟩) ((bel.block f (by omega)).trans hF0) row
    exact ⟨hc.1, hc.2, (RB.c ((RB.set ((bel.block f (by omega)).trans hF0)).2.2.2 v)).2.1.trans (RB.c h1).2.1.symm⟩
  have hM : us.length ≤ 9000000 := by omega
  generalize us.length = M at *
  clear h hx hw hc hc0 hF h1 hl hb hne k0 bl0 hgf hB0 hn1 hn2
  go_enter Try.func68, Try.ntmps68
  go_wp2_with fail
  rw [← hw0]
  clear hw0
  refine wp_region_noPanic ?_
  refine wp_region_G (S := SG 12 12 (fun w' => w'.cell? ⟨f, 2, none⟩ = some (.slice (some ⟨g, o, none⟩) M c)) (fun _ => True) (fun w' => w'.cell? ⟨w.heap.size, 0, none⟩ = some (.slice pN n1 cN) ∧ w'.cell? ⟨w.heap.size, 1, none⟩ = some (.slice pI n2 cI))) (by kernel_rfl) ⟨fun _ => cW, fun _ => trivial, x0, x1⟩ (fun hH => ?_)
  obtain ⟨wx, hwx⟩ : ∃ x, x = w0.drew := ⟨_, rfl⟩
  have bel0 : Below (w.heap.size + 1) w0 wx := by rw [hwx]; exact below_drewN (Below.refl _ w0) 1
  rw [← hwx] at hH ⊢
  clear hwx
  simp only [Array.replicate, List.size_toArray, List.length_cons, List.length_nil, List.replicate, Nat.zero_add, Nat.reduceAdd] at hH ⊢
  refine takeG (i := 0) (v := .pointer (some ⟨f, 0, none⟩)) [] rfl rfl (by kernel_rfl) (by kernel_rfl) (by kernel_rfl) (by kernel_rfl) (by kernel_rfl) (SG_set (by decide) (by decide)) (fun _ _ _ h => h) (Or.inl ⟨by rfl, ?_⟩) hH (fun hH => ?_)
  · intro w5 hSw; go_simp
  simp only [List.setIfInBounds_toArray, List.set_cons_zero, List.set_cons_succ] at hH ⊢
  refine takeG (i := 2) (v := .pointer (some ⟨f, 0, none⟩)) [] rfl rfl (by kernel_rfl) (by kernel_rfl) (by kernel_rfl) (by kernel_rfl) (by kernel_rfl) (SG_set (by decide) (by decide)) (fun _ _ _ h => h) (Or.inl ⟨by rfl, ?_⟩) hH (fun hH => ?_)
  · intro w5 hSw; go_simp
  simp only [List.setIfInBounds_toArray, List.set_cons_zero, List.set_cons_succ] at hH ⊢
  refine takeG (i := 3) (v := .pointer (some ⟨f, 0, none⟩)) [] rfl rfl (by kernel_rfl) (by kernel_rfl) (by kernel_rfl) (by kernel_rfl) (by kernel_rfl) (SG_set (by decide) (by decide)) (fun _ _ _ h => h) (Or.inl ⟨by rfl, ?_⟩) hH (fun hH => ?_)
  · intro w5 hSw; go_simp
  simp only [List.setIfInBounds_toArray, List.set_cons_zero, List.set_cons_succ] at hH ⊢
  refine takeG (i := 4) (v := .pointer (some ⟨f, 2, none⟩)) [] rfl rfl (by kernel_rfl) (by kernel_rfl) (by kernel_rfl) (by kernel_rfl) (by kernel_rfl) (SG_set (by decide) (by decide)) (fun _ _ _ h => h) (Or.inl ⟨by rfl, ?_⟩) hH (fun hH => ?_)
  · intro w5 hSw; go_simp
  simp only [List.setIfInBounds_toArray, List.set_cons_zero, List.set_cons_succ] at hH ⊢
  refine takeG (i := 5) (v := .slice (some ⟨g, o, none⟩) M c) [12] rfl rfl (by kernel_rfl) (by kernel_rfl) (by kernel_rfl) (by kernel_rfl) (by kernel_rfl) (SG_set (by decide) (by decide)) (fun _ _ _ h => h) (Or.inl ⟨by rfl, ?_⟩) hH (fun hH => ?_)
  · intro w5 hSw; obtain ⟨L5, hU5, hA5, _⟩ := hSw; have a5 := hA5 (hU5 _ (by simp)); go_simp
  simp only [List.setIfInBounds_toArray, List.set_cons_zero, List.set_cons_succ] at hH ⊢
  refine takeG (i := 7) (v := .agg #[.slice pN n1 cN, .slice pI n2 cI]) [] rfl rfl (by kernel_rfl) (by kernel_rfl) (by kernel_rfl) (by kernel_rfl) (by kernel_rfl) (SG_set (by decide) (by decide)) (fun _ _ _ h => h) (Or.inl ⟨by rfl, ?_⟩) hH (fun hH => ?_)
  · intro w5 hSw; obtain ⟨L5, hU5, hA5, _, e1, e2⟩ := hSw; go_simp
  simp only [List.setIfInBounds_toArray, List.set_cons_zero, List.set_cons_succ] at hH ⊢
  refine wpAnyG_ready (rs := [1, 8]) (by kernel_rfl) (by simp) ?_
  refine AllReadyG.cons rfl (fun K hK => ?_) (AllReadyG.cons rfl (fun K hK => ?_) AllReadyG.nil)
  · go_simp
    have bel_1 : Below (w.heap.size + 1) w0 (wx.alloc (.cells #[] 95)) := bel0.alloc (by have := bel0.size; omega) _
    have hb_1 : (wx.alloc (.cells #[] 95)).heap[wx.heap.size]? = some (.cells #[] 95 (0, 0)) := heap_alloc_new _ _
    have sz_1 : wx.heap.size + 1 ≤ (wx.alloc (.cells #[] 95)).heap.size := by simp
    have sw_1 := bel0.size
    refine hK.out _ _ ⟨fun _ => (bel_1.cell (p := ⟨f, 2, none⟩) (show f < w.heap.size + 1 by omega)).trans cW, fun _ => trivial, (bel_1.cell (p := ⟨w.heap.size, 0, none⟩) (show w.heap.size < w.heap.size + 1 by omega)).trans x0, (bel_1.cell (p := ⟨w.heap.size, 1, none⟩) (show w.heap.size < w.heap.size + 1 by omega)).trans x1⟩ (fun hH => ?_)
    clear hK K
    obtain ⟨w_1, hw_1⟩ : ∃ x, x = wx.alloc (.cells #[] 95) := ⟨_, rfl⟩
    rw [← hw_1] at bel_1 hb_1 sz_1  hH ⊢
    clear hw_1
    simp only [List.setIfInBounds_toArray, List.set_cons_zero, List.set_cons_succ] at hH ⊢
    refine wpAnyG_ready (rs := [6, 8]) (by kernel_rfl) (by simp) ?_
    refine AllReadyG.cons rfl (fun K hK => ?_) (AllReadyG.cons rfl (fun K hK => ?_) AllReadyG.nil)
    · have row_2 : w_1.ownsRow (w.heap.size + 1) 95 2 (.slice (some ⟨wx.heap.size, 0, none⟩) 0 0) 0 [] := ⟨rfl, Or.inr ⟨wx.heap.size, 0, #[], rfl, by omega, hb_1, Nat.le_refl _, by unfold maxLen; omega, rfl, rfl⟩⟩
      refine step_two 74 95 (.agg #[.slice none 0 0, .slice none 0 0]) 48 nmSlice nmInfo rfl rfl (.tmp 5) (.tmp 9) rfl (w.heap.size + 1) 0 M c (.slice (some ⟨wx.heap.size, 0, none⟩) 0 0) [] (flat2 us) ⟨g, o, none⟩ rfl row_2 rfl HL.out (fun j u hj => (bel_1.cell (p := (⟨g, o, none⟩ : Addr).add j) (show ((⟨g, o, none⟩ : Addr).add j).block < w.heap.size + 1 by rw [add_plain]; show g < _; omega)).trans (HC.out j u hj)) HO.out (by omega) (by have := bel_1.size; omega) (by decide) ?_
      intro v_2 w_2 hr_2 hg_2
      rw [Nat.zero_add, List.nil_append] at hr_2
      have bel_2 : Below (w.heap.size + 1) w0 w_2 := bel_1.trans (below_own hg_2 (by have := bel_1.size; omega) (own_ge row_2))
      obtain ⟨P_2, C_2, rfl⟩ := row_form2 hr_2
      refine hK.out _ _ ⟨fun _ => (bel_2.cell (p := ⟨f, 2, none⟩) (show f < w.heap.size + 1 by omega)).trans cW, fun _ => trivial, (bel_2.cell (p := ⟨w.heap.size, 0, none⟩) (show w.heap.size < w.heap.size + 1 by omega)).trans x0, (bel_2.cell (p := ⟨w.heap.size, 1, none⟩) (show w.heap.size < w.heap.size + 1 by omega)).trans x1⟩ (fun hH => ?_)
      clear hK K
      simp only [Act.put, List.setIfInBounds_toArray, List.set_cons_zero, List.set_cons_succ] at hH ⊢
      refine wpAnyG_ready (rs := [8]) (by kernel_rfl) (by simp) ?_
      refine AllReadyG.cons rfl (fun K hK => ?_) AllReadyG.nil
      go_simp
      have bel_3 : Below (w.heap.size + 1) w0 (w_2.alloc (.cells #[.slice pN n1 cN, .slice pI n2 cI] 95)) := bel_2.alloc (by have := bel_2.size; omega) _
      have hb_3 : (w_2.alloc (.cells #[.slice pN n1 cN, .slice pI n2 cI] 95)).heap[w_2.heap.size]? = some (.cells #[.slice pN n1 cN, .slice pI n2 cI] 95 (0, 0)) := heap_alloc_new _ _
      have sz_3 : w_2.heap.size + 1 ≤ (w_2.alloc (.cells #[.slice pN n1 cN, .slice pI n2 cI] 95)).heap.size := by simp
      have sw_3 := bel_2.size
      have hr_3 := World.ownsRow.alloc hr_2 (.cells #[.slice pN n1 cN, .slice pI n2 cI] 95)
      refine hK.out _ _ ⟨fun _ => (bel_3.cell (p := ⟨f, 2, none⟩) (show f < w.heap.size + 1 by omega)).trans cW, fun _ => trivial, (bel_3.cell (p := ⟨w.heap.size, 0, none⟩) (show w.heap.size < w.heap.size + 1 by omega)).trans x0, (bel_3.cell (p := ⟨w.heap.size, 1, none⟩) (show w.heap.size < w.heap.size + 1 by omega)).trans x1⟩ (fun hH => ?_)
      clear hK K
      obtain ⟨w_3, hw_3⟩ : ∃ x, x = w_2.alloc (.cells #[.slice pN n1 cN, .slice pI n2 cI] 95) := ⟨_, rfl⟩
      rw [← hw_3] at bel_3 hb_3 sz_3 hr_3 hH ⊢
      clear hw_3
      simp only [List.setIfInBounds_toArray, List.set_cons_zero, List.set_cons_succ] at hH ⊢
      refine wpAnyG_ready (rs := [9]) (by kernel_rfl) (by simp) ?_
      refine AllReadyG.cons rfl (fun K hK => ?_) AllReadyG.nil
      refine step_two 74 95 (.agg #[.slice none 0 0, .slice none 0 0]) 48 nmSlice nmInfo rfl rfl (.tmp 10) (.tmp 12) rfl (w.heap.size + 1) M 1 1 (.slice P_2 M C_2) (flat2 us) [.slice pN n1 cN, .slice pI n2 cI] ⟨w_2.heap.size, 0, none⟩ rfl hr_3 rfl rfl (one_cells hb_3) (by intro u hu; simp at hu; rcases hu with rfl | rfl <;> rfl) (by omega) (by have := bel_3.size; omega) (by decide) ?_
      intro v_4 w_4 hr_4 hg_4
      have bel_4 : Below (w.heap.size + 1) w0 w_4 := bel_3.trans (below_own hg_4 (by have := bel_3.size; omega) (own_ge hr_3))
      obtain ⟨P_4, C_4, rfl⟩ := row_form2 hr_4
      refine hK.out _ _ ⟨fun _ => (bel_4.cell (p := ⟨f, 2, none⟩) (show f < w.heap.size + 1 by omega)).trans cW, fun _ => trivial, (bel_4.cell (p := ⟨w.heap.size, 0, none⟩) (show w.heap.size < w.heap.size + 1 by omega)).trans x0, (bel_4.cell (p := ⟨w.heap.size, 1, none⟩) (show w.heap.size < w.heap.size + 1 by omega)).trans x1⟩ (fun hH => ?_)
      clear hK K
      simp only [Act.put, List.setIfInBounds_toArray, List.set_cons_zero, List.set_cons_succ] at hH ⊢
      refine takeG (i := 10) (v := .pointer (some ⟨f, 0, none⟩)) [] rfl rfl (by kernel_rfl) (by kernel_rfl) (by kernel_rfl) (by kernel_rfl) (by kernel_rfl) (SG_set (by decide) (by decide)) (fun _ _ _ h => h) (Or.inl ⟨by rfl, ?_⟩) hH (fun hH => ?_)
      · intro w5 hSw; go_simp
      simp only [List.setIfInBounds_toArray, List.set_cons_zero, List.set_cons_succ] at hH ⊢
      refine takeG (i := 11) (v := .pointer (some ⟨f, 2, none⟩)) [] rfl rfl (by kernel_rfl) (by kernel_rfl) (by kernel_rfl) (by kernel_rfl) (by kernel_rfl) (SG_set (by decide) (by decide)) (fun _ _ _ h => h) (Or.inl ⟨by rfl, ?_⟩) hH (fun hH => ?_)
      · intro w5 hSw; go_simp
      simp only [List.setIfInBounds_toArray, List.set_cons_zero, List.set_cons_succ] at hH ⊢
      have hF_4 : w_4.heap[f]? = _ := (bel_4.block f (by omega)).trans hF0
      have fin := HFIN.out _ _ bel_4 hr_4
      obtain ⟨_, _, c2_4, _, _, fr_4⟩ := RB.c hF_4
      have f2_4 := fr_4 2
      clear fr_4
      refine wpAnyG_ready (rs := [12]) (by kernel_rfl) (by simp) ?_
      refine AllReadyG.cons rfl (fun K hK => ?_) AllReadyG.nil
      go_simp
      refine hK.out _ _ ⟨fun h => by simp at h, fun _ => trivial, ?_⟩ (fun hH => ?_)
      · exact ⟨cell_setH (b := w.heap.size) (by omega) ((bel_4.cell (p := ⟨w.heap.size, 0, none⟩) (show w.heap.size < w.heap.size + 1 by omega)).trans x0), cell_setH (b := w.heap.size) (by omega) ((bel_4.cell (p := ⟨w.heap.size, 1, none⟩) (show w.heap.size < w.heap.size + 1 by omega)).trans x1)⟩
      refine wpAnyG_done (by kernel_rfl) ?_ _
      refine NoPanic.normal ?_
      go_wp2_with fail
      go_end0
      exact ⟨rfl, fin⟩
    · go_simp
      have bel_5 : Below (w.heap.size + 1) w0 (w_1.alloc (.cells #[.slice pN n1 cN, .slice pI n2 cI] 95)) := bel_1.alloc (by have := bel_1.size; omega) _
      have hb_5 : (w_1.alloc (.cells #[.slice pN n1 cN, .slice pI n2 cI] 95)).heap[w_1.heap.size]? = some (.cells #[.slice pN n1 cN, .slice pI n2 cI] 95 (0, 0)) := heap_alloc_new _ _
      have sz_5 : w_1.heap.size + 1 ≤ (w_1.alloc (.cells #[.slice pN n1 cN, .slice pI n2 cI] 95)).heap.size := by simp
      have sw_5 := bel_1.size
      have ho_5 := hAlloc hb_1 (.cells #[.slice pN n1 cN, .slice pI n2 cI] 95)
      refine hK.out _ _ ⟨fun _ => (bel_5.cell (p := ⟨f, 2, none⟩) (show f < w.heap.size + 1 by omega)).trans cW, fun _ => trivial, (bel_5.cell (p := ⟨w.heap.size, 0, none⟩) (show w.heap.size < w.heap.size + 1 by omega)).trans x0, (bel_5.cell (p := ⟨w.heap.size, 1, none⟩) (show w.heap.size < w.heap.size + 1 by omega)).trans x1⟩ (fun hH => ?_)
      clear hK K
      obtain ⟨w_5, hw_5⟩ : ∃ x, x = w_1.alloc (.cells #[.slice pN n1 cN, .slice pI n2 cI] 95) := ⟨_, rfl⟩
      rw [← hw_5] at bel_5 hb_5 sz_5 ho_5 hH ⊢
      clear hw_5
      simp only [List.setIfInBounds_toArray, List.set_cons_zero, List.set_cons_succ] at hH ⊢
      refine wpAnyG_ready (rs := [6]) (by kernel_rfl) (by simp) ?_
      refine AllReadyG.cons rfl (fun K hK => ?_) AllReadyG.nil
      have row_6 : w_5.ownsRow (w.heap.size + 1) 95 2 (.slice (some ⟨wx.heap.size, 0, none⟩) 0 0) 0 [] := ⟨rfl, Or.inr ⟨wx.heap.size, 0, #[], rfl, by omega, ho_5, Nat.le_refl _, by unfold maxLen; omega, rfl, rfl⟩⟩
      refine step_two 74 95 (.agg #[.slice none 0 0, .slice none 0 0]) 48 nmSlice nmInfo rfl rfl (.tmp 5) (.tmp 9) rfl (w.heap.size + 1) 0 M c (.slice (some ⟨wx.heap.size, 0, none⟩) 0 0) [] (flat2 us) ⟨g, o, none⟩ rfl row_6 rfl HL.out (fun j u hj => (bel_5.cell (p := (⟨g, o, none⟩ : Addr).add j) (show ((⟨g, o, none⟩ : Addr).add j).block < w.heap.size + 1 by rw [add_plain]; show g < _; omega)).trans (HC.out j u hj)) HO.out (by omega) (by have := bel_5.size; omega) (by decide) ?_
      intro v_6 w_6 hr_6 hg_6
      rw [Nat.zero_add, List.nil_append] at hr_6
      have bel_6 : Below (w.heap.size + 1) w0 w_6 := bel_5.trans (below_own hg_6 (by have := bel_5.size; omega) (own_ge row_6))
      have ho_6 : w_6.heap[w_1.heap.size]? = _ := (hg_6.block w_1.heap.size (lt_of_heap hb_5) (by simp [Value.ownBlock]; omega)).trans hb_5
      obtain ⟨P_6, C_6, rfl⟩ := row_form2 hr_6
      refine hK.out _ _ ⟨fun _ => (bel_6.cell (p := ⟨f, 2, none⟩) (show f < w.heap.size + 1 by omega)).trans cW, fun _ => trivial, (bel_6.cell (p := ⟨w.heap.size, 0, none⟩) (show w.heap.size < w.heap.size + 1 by omega)).trans x0, (bel_6.cell (p := ⟨w.heap.size, 1, none⟩) (show w.heap.size < w.heap.size + 1 by omega)).trans x1⟩ (fun hH => ?_)
      clear hK K
      simp only [Act.put, List.setIfInBounds_toArray, List.set_cons_zero, List.set_cons_succ] at hH ⊢
      refine wpAnyG_ready (rs := [9]) (by kernel_rfl) (by simp) ?_
      refine AllReadyG.cons rfl (fun K hK => ?_) AllReadyG.nil
      refine step_two 74 95 (.agg #[.slice none 0 0, .slice none 0 0]) 48 nmSlice nmInfo rfl rfl (.tmp 10) (.tmp 12) rfl (w.heap.size + 1) M 1 1 (.slice P_6 M C_6) (flat2 us) [.slice pN n1 cN, .slice pI n2 cI] ⟨w_1.heap.size, 0, none⟩ rfl hr_6 rfl rfl (one_cells ho_6) (by intro u hu; simp at hu; rcases hu with rfl | rfl <;> rfl) (by omega) (by have := bel_6.size; omega) (by decide) ?_
      intro v_7 w_7 hr_7 hg_7
      have bel_7 : Below (w.heap.size + 1) w0 w_7 := bel_6.trans (below_own hg_7 (by have := bel_6.size; omega) (own_ge hr_6))
      obtain ⟨P_7, C_7, rfl⟩ := row_form2 hr_7
      refine hK.out _ _ ⟨fun _ => (bel_7.cell (p := ⟨f, 2, none⟩) (show f < w.heap.size + 1 by omega)).trans cW, fun _ => trivial, (bel_7.cell (p := ⟨w.heap.size, 0, none⟩) (show w.heap.size < w.heap.size + 1 by omega)).trans x0, (bel_7.cell (p := ⟨w.heap.size, 1, none⟩) (show w.heap.size < w.heap.size + 1 by omega)).trans x1⟩ (fun hH => ?_)
      clear hK K
      simp only [Act.put, List.setIfInBounds_toArray, List.set_cons_zero, List.set_cons_succ] at hH ⊢
      refine takeG (i := 10) (v := .pointer (some ⟨f, 0, none⟩)) [] rfl rfl (by kernel_rfl) (by kernel_rfl) (by kernel_rfl) (by kernel_rfl) (by kernel_rfl) (SG_set (by decide) (by decide)) (fun _ _ _ h => h) (Or.inl ⟨by rfl, ?_⟩) hH (fun hH => ?_)
      · intro w5 hSw; go_simp
      simp only [List.setIfInBounds_toArray, List.set_cons_zero, List.set_cons_succ] at hH ⊢
      refine takeG (i := 11) (v := .pointer (some ⟨f, 2, none⟩)) [] rfl rfl (by kernel_rfl) (by kernel_rfl) (by kernel_rfl) (by kernel_rfl) (by kernel_rfl) (SG_set (by decide) (by decide)) (fun _ _ _ h => h) (Or.inl ⟨by rfl, ?_⟩) hH (fun hH => ?_)
      · intro w5 hSw; go_simp
      simp only [List.setIfInBounds_toArray, List.set_cons_zero, List.set_cons_succ] at hH ⊢
      have hF_7 : w_7.heap[f]? = _ := (bel_7.block f (by omega)).trans hF0
      have fin := HFIN.out _ _ bel_7 hr_7
      obtain ⟨_, _, c2_7, _, _, fr_7⟩ := RB.c hF_7
      have f2_7 := fr_7 2
      clear fr_7
      refine wpAnyG_ready (rs := [12]) (by kernel_rfl) (by simp) ?_
      refine AllReadyG.cons rfl (fun K hK => ?_) AllReadyG.nil
      go_simp
      refine hK.out _ _ ⟨fun h => by simp at h, fun _ => trivial, ?_⟩ (fun hH => ?_)
      · exact ⟨cell_setH (b := w.heap.size) (by omega) ((bel_7.cell (p := ⟨w.heap.size, 0, none⟩) (show w.heap.size < w.heap.size + 1 by omega)).trans x0), cell_setH (b := w.heap.size) (by omega) ((bel_7.cell (p := ⟨w.heap.size, 1, none⟩) (show w.heap.size < w.heap.size + 1 by omega)).trans x1)⟩
      refine wpAnyG_done (by kernel_rfl) ?_ _
      refine NoPanic.normal ?_
      go_wp2_with fail
      go_end0
      exact ⟨rfl, fin⟩
  · go_simp
    have bel_8 : Below (w.heap.size + 1) w0 (wx.alloc (.cells #[.slice pN n1 cN, .slice pI n2 cI] 95)) := bel0.alloc (by have := bel0.size; omega) _
    have hb_8 : (wx.alloc (.cells #[.slice pN n1 cN, .slice pI n2 cI] 95)).heap[wx.heap.size]? = some (.cells #[.slice pN n1 cN, .slice pI n2 cI] 95 (0, 0)) := heap_alloc_new _ _
    have sz_8 : wx.heap.size + 1 ≤ (wx.alloc (.cells #[.slice pN n1 cN, .slice pI n2 cI] 95)).heap.size := by simp
    have sw_8 := bel0.size
    refine hK.out _ _ ⟨fun _ => (bel_8.cell (p := ⟨f, 2, none⟩) (show f < w.heap.size + 1 by omega)).trans cW, fun _ => trivial, (bel_8.cell (p := ⟨w.heap.size, 0, none⟩) (show w.heap.size < w.heap.size + 1 by omega)).trans x0, (bel_8.cell (p := ⟨w.heap.size, 1, none⟩) (show w.heap.size < w.heap.size + 1 by omega)).trans x1⟩ (fun hH => ?_)
    clear hK K
    obtain ⟨w_8, hw_8⟩ : ∃ x, x = wx.alloc (.cells #[.slice pN n1 cN, .slice pI n2 cI] 95) := ⟨_, rfl⟩
    rw [← hw_8] at bel_8 hb_8 sz_8  hH ⊢
    clear hw_8
    simp only [List.setIfInBounds_toArray, List.set_cons_zero, List.set_cons_succ] at hH ⊢
    refine wpAnyG_ready (rs := [1]) (by kernel_rfl) (by simp) ?_
    refine AllReadyG.cons rfl (fun K hK => ?_) AllReadyG.nil
    go_simp
    have bel_9 : Below (w.heap.size + 1) w0 (w_8.alloc (.cells #[] 95)) := bel_8.alloc (by have := bel_8.size; omega) _
    have hb_9 : (w_8.alloc (.cells #[] 95)).heap[w_8.heap.size]? = some (.cells #[] 95 (0, 0)) := heap_alloc_new _ _
    have sz_9 : w_8.heap.size + 1 ≤ (w_8.alloc (.cells #[] 95)).heap.size := by simp
    have sw_9 := bel_8.size
    have ho_9 := hAlloc hb_8 (.cells #[] 95)
    refine hK.out _ _ ⟨fun _ => (bel_9.cell (p := ⟨f, 2, none⟩) (show f < w.heap.size + 1 by omega)).trans cW, fun _ => trivial, (bel_9.cell (p := ⟨w.heap.size, 0, none⟩) (show w.heap.size < w.heap.size + 1 by omega)).trans x0, (bel_9.cell (p := ⟨w.heap.size, 1, none⟩) (show w.heap.size < w.heap.size + 1 by omega)).trans x1⟩ (fun hH => ?_)
    clear hK K
    obtain ⟨w_9, hw_9⟩ : ∃ x, x = w_8.alloc (.cells #[] 95) := ⟨_, rfl⟩
    rw [← hw_9] at bel_9 hb_9 sz_9 ho_9 hH ⊢
    clear hw_9
    simp only [List.setIfInBounds_toArray, List.set_cons_zero, List.set_cons_succ] at hH ⊢
    refine wpAnyG_ready (rs := [6]) (by kernel_rfl) (by simp) ?_
    refine AllReadyG.cons rfl (fun K hK => ?_) AllReadyG.nil
    have row_10 : w_9.ownsRow (w.heap.size + 1) 95 2 (.slice (some ⟨w_8.heap.size, 0, none⟩) 0 0) 0 [] := ⟨rfl, Or.inr ⟨w_8.heap.size, 0, #[], rfl, by omega, hb_9, Nat.le_refl _, by unfold maxLen; omega, rfl, rfl⟩⟩
    refine step_two 74 95 (.agg #[.slice none 0 0, .slice none 0 0]) 48 nmSlice nmInfo rfl rfl (.tmp 5) (.tmp 9) rfl (w.heap.size + 1) 0 M c (.slice (some ⟨w_8.heap.size, 0, none⟩) 0 0) [] (flat2 us) ⟨g, o, none⟩ rfl row_10 rfl HL.out (fun j u hj => (bel_9.cell (p := (⟨g, o, none⟩ : Addr).add j) (show ((⟨g, o, none⟩ : Addr).add j).block < w.heap.size + 1 by rw [add_plain]; show g < _; omega)).trans (HC.out j u hj)) HO.out (by omega) (by have := bel_9.size; omega) (by decide) ?_
    intro v_10 w_10 hr_10 hg_10
    rw [Nat.zero_add, List.nil_append] at hr_10
    have bel_10 : Below (w.heap.size + 1) w0 w_10 := bel_9.trans (below_own hg_10 (by have := bel_9.size; omega) (own_ge row_10))
    have ho_10 : w_10.heap[wx.heap.size]? = _ := (hg_10.block wx.heap.size (lt_of_heap ho_9) (by simp [Value.ownBlock]; omega)).trans ho_9
    obtain ⟨P_10, C_10, rfl⟩ := row_form2 hr_10
    refine hK.out _ _ ⟨fun _ => (bel_10.cell (p := ⟨f, 2, none⟩) (show f < w.heap.size + 1 by omega)).trans cW, fun _ => trivial, (bel_10.cell (p := ⟨w.heap.size, 0, none⟩) (show w.heap.size < w.heap.size + 1 by omega)).trans x0, (bel_10.cell (p := ⟨w.heap.size, 1, none⟩) (show w.heap.size < w.heap.size + 1 by omega)).trans x1⟩ (fun hH => ?_)
    clear hK K
    simp only [Act.put, List.setIfInBounds_toArray, List.set_cons_zero, List.set_cons_succ] at hH ⊢
    refine wpAnyG_ready (rs := [9]) (by kernel_rfl) (by simp) ?_
    refine AllReadyG.cons rfl (fun K hK => ?_) AllReadyG.nil
    refine step_two 74 95 (.agg #[.slice none 0 0, .slice none 0 0]) 48 nmSlice nmInfo rfl rfl (.tmp 10) (.tmp 12) rfl (w.heap.size + 1) M 1 1 (.slice P_10 M C_10) (flat2 us) [.slice pN n1 cN, .slice pI n2 cI] ⟨wx.heap.size, 0, none⟩ rfl hr_10 rfl rfl (one_cells ho_10) (by intro u hu; simp at hu; rcases hu with rfl | rfl <;> rfl) (by omega) (by have := bel_10.size; omega) (by decide) ?_
    intro v_11 w_11 hr_11 hg_11
    have bel_11 : Below (w.heap.size + 1) w0 w_11 := bel_10.trans (below_own hg_11 (by have := bel_10.size; omega) (own_ge hr_10))
    obtain ⟨P_11, C_11, rfl⟩ := row_form2 hr_11
    refine hK.out _ _ ⟨fun _ => (bel_11.cell (p := ⟨f, 2, none⟩) (show f < w.heap.size + 1 by omega)).trans cW, fun _ => trivial, (bel_11.cell (p := ⟨w.heap.size, 0, none⟩) (show w.heap.size < w.heap.size + 1 by omega)).trans x0, (bel_11.cell (p := ⟨w.heap.size, 1, none⟩) (show w.heap.size < w.heap.size + 1 by omega)).trans x1⟩ (fun hH => ?_)
    clear hK K
    simp only [Act.put, List.setIfInBounds_toArray, List.set_cons_zero, List.set_cons_succ] at hH ⊢
    refine takeG (i := 10) (v := .pointer (some ⟨f, 0, none⟩)) [] rfl rfl (by kernel_rfl) (by kernel_rfl) (by kernel_rfl) (by kernel_rfl) (by kernel_rfl) (SG_set (by decide) (by decide)) (fun _ _ _ h => h) (Or.inl ⟨by rfl, ?_⟩) hH (fun hH => ?_)
    · intro w5 hSw; go_simp
    simp only [List.setIfInBounds_toArray, List.set_cons_zero, List.set_cons_succ] at hH ⊢
    refine takeG (i := 11) (v := .pointer (some ⟨f, 2, none⟩)) [] rfl rfl (by kernel_rfl) (by kernel_rfl) (by kernel_rfl) (by kernel_rfl) (by kernel_rfl) (SG_set (by decide) (by decide)) (fun _ _ _ h => h) (Or.inl ⟨by rfl, ?_⟩) hH (fun hH => ?_)
    · intro w5 hSw; go_simp
    simp only [List.setIfInBounds_toArray, List.set_cons_zero, List.set_cons_succ] at hH ⊢
    have hF_11 : w_11.heap[f]? = _ := (bel_11.block f (by omega)).trans hF0
    have fin := HFIN.out _ _ bel_11 hr_11
    obtain ⟨_, _, c2_11, _, _, fr_11⟩ := RB.c hF_11
    have f2_11 := fr_11 2
    clear fr_11
    refine wpAnyG_ready (rs := [12]) (by kernel_rfl) (by simp) ?_
    refine AllReadyG.cons rfl (fun K hK => ?_) AllReadyG.nil
    go_simp
    refine hK.out _ _ ⟨fun h => by simp at h, fun _ => trivial, ?_⟩ (fun hH => ?_)
    · exact ⟨cell_setH (b := w.heap.size) (by omega) ((bel_11.cell (p := ⟨w.heap.size, 0, none⟩) (show w.heap.size < w.heap.size + 1 by omega)).trans x0), cell_setH (b := w.heap.size) (by omega) ((bel_11.cell (p := ⟨w.heap.size, 1, none⟩) (show w.heap.size < w.heap.size + 1 by omega)).trans x1)⟩
    refine wpAnyG_done (by kernel_rfl) ?_ _
    refine NoPanic.normal ?_
    go_wp2_with fail
    go_end0
    exact ⟨rfl, fin⟩
theorem changes_any (f : Nat) (s : St) (x : Ws) (u1 u2 : Value) (w : World) (h : Rf F w f s) (hx : wayIn F w f (u1, u2) x) (hb : s.ways.length ≤ 9000000) :
    Calls Try.prog 68 #[.pointer (some ⟨f, 0, none⟩), .agg #[u1, u2]] w fun e w' => e = .returned (.tuple #[]) ∧ Rf F w' f { s with ways := s.ways ++ [x] } ∧ Keep f w w' :=
  (changes_more f s x u1 u2 w h hx hb).mono fun _ _ h => ⟨h.1, h.2.1, h.2.2.1⟩
end Go.Proofs.Ytdiehlioemmakaa
namespace Go.Proofs.Ytdiehlioemmakaa
open Go.RowKit
variable {F : Nat → Prop}

theorem Rf.grown {w w' : World} {f : Nat} {s : St} (h : Rf F w f s) (hg : w.grownBy w' none) : Rf F w' f s := by
  obtain ⟨vF, vW, h1, h2, h3⟩ := h.fs
  have k : Keep f w w' := Keep.grown hg
  exact ⟨⟨vF, vW, (hg.block f (lt_of_heap h1) (by simp)).trans h1, listIn.kept (R := fileIn F) (fun h k => fileIn.kept h k) h2 k, listIn.kept (R := wayIn F) (fun h k => wayIn.kept h k) h3 k⟩, h.ne, fun i hi => Nat.lt_of_lt_of_le (h.fb i hi) k.size⟩
theorem rd1_own {w : World} {base f n : Nat} {v : Value} {us : List Value} {e : TypeId} (h : w.ownsRow base e 1 v n us) (hf : f < base) (hF : ∀ i, F i → i < base) : rd1 F w f v us := by
  have hl := h.1
  have hn : us.length = n := by omega
  rcases h.2 with ⟨rfl, h0⟩ | ⟨g, cap, cur, rfl, hg, _, hc, hm, _, _⟩
  · obtain rfl : us = [] := List.eq_nil_of_length_eq_zero (by omega)
    exact ⟨none, 0, rfl, Nat.zero_le _, by omega, fun _ => rfl, Or.inl rfl⟩
  · refine ⟨some ⟨g, 0, none⟩, cap, by rw [hn], by omega, by unfold maxLen at hm; omega, (fun e => by cases e), Or.inr ⟨g, 0, rfl, ⟨by omega, fun h => by have := hF g h; omega⟩, fun i u hi => ?_⟩⟩
    have hi2 := (List.getElem?_eq_some_iff.1 hi).1
    rw [Nat.zero_add]
    exact (World.ownsRow.cellAt h i (by omega)).trans hi
/-- what with answers is a way -/
theorem withP.way {w w' : World} {E : Ws} {e : Ending} {f : Nat} (h : withP w E e w') (hf : f < w.heap.size) (hF : ∀ i, F i → i < w.heap.size) : ∃ u1 u2, e = .returned (.agg #[u1, u2]) ∧ w.grownBy w' none ∧ wayIn F w' f (u1, u2) E := by
  obtain ⟨vN, vI, he, hg, h1, h2⟩ := h
  exact ⟨vN, vI, he, hg, rd1_own h1 hf hF, rd1_own h2 hf hF⟩
/-- a way with one name more or less -/
theorem with_way {w : World} {f : Nat} {p1 p2 : Option Addr} {c1 c2 N M : Nat} {l : Ws} (h : wayIn F w f (.slice p1 N c1, .slice p2 M c2) l) (hb : l.length ≤ 4000000) (s : List UInt8) (kf : Int) (hkf : kf < 0 ∨ ∃ kn : Nat, kf = kn) {w' : World} (hg : w.grownBy w' none) :
    Calls Try.prog 69 #[.agg #[.slice p1 N c1, .slice p2 M c2], .string ⟨s.toArray⟩, .int .i64 kf] w' (withP w' (wth s kf (decide (kf < 0)) l)) := by
  obtain ⟨⟨q1, d1, e1, _, _, _, h1⟩, ⟨q2, d2, e2, _, _, _, h2⟩⟩ := h
  rw [List.length_map] at e1 e2
  simp only [Value.slice.injEq] at e1 e2
  obtain ⟨rfl, rfl, rfl⟩ := e1
  obtain ⟨rfl, rfl, rfl⟩ := e2
  refine with_any p1 p2 c1 c2 l.length l s kf w' hkf rfl hb ?_
  by_cases hl : l = []
  · exact Or.inl hl
  · rcases h1 with h1 | ⟨g1, o1, rfl, _, h1⟩
    · exact absurd (List.map_eq_nil_iff.1 h1) hl
    rcases h2 with h2 | ⟨g2, o2, rfl, _, h2⟩
    · exact absurd (List.map_eq_nil_iff.1 h2) hl
    refine Or.inr ⟨g1, o1, g2, o2, rfl, rfl, fun i p hp => ⟨hg.cell (h1 i _ ?_) (by simp), hg.cell (h2 i _ ?_) (by simp)⟩⟩
    · rw [List.getElem?_map, hp]; rfl
    · rw [List.getElem?_map, hp]; rfl
theorem stp_same (s : St) : (stp s).2 = (stp ⟨s.q, [], [], s.left, s.dead⟩).2 ∧ (stp s).1 = { s with left := (stp ⟨s.q, [], [], s.left, s.dead⟩).1.left, dead := (stp ⟨s.q, [], [], s.left, s.dead⟩).1.dead } := by
  cases s with
  | mk q fs ways left dead =>
    unfold stp
    simp only
    by_cases h1 : dead = true
    · simp [h1]
    · by_cases h2 : left = 1
      · simp [h1, h2]
      · by_cases h3 : 1 < left
        · simp [h1, h2, h3]
        · simp [h1, h2, h3]
theorem stops_rf {w : World} {f : Nat} {s : St} (h : Rf F w f s) (hl : -9223372036854775808 ≤ s.left ∧ s.left ≤ 9223372036854775807) :
    Calls Try.prog 67 #[.pointer (some ⟨f, 0, none⟩)] w fun e w' => e = .returned (.bool (stp s).2) ∧ Rf F w' f (stp s).1 ∧ Keep f w w' := by
  obtain ⟨vF, vW, h1, h2, h3⟩ := h.fs
  refine (stops_any f s.q s.left vF vW s.dead w hl h1).mono ?_
  rintro e w' ⟨rfl, hB, k⟩
  obtain ⟨e1, e2⟩ := stp_same s
  refine ⟨by rw [e1], ?_, k⟩
  rw [e2]
  exact ⟨⟨vF, vW, hB, listIn.kept (R := fileIn F) (fun h k => fileIn.kept h k) h2 k, listIn.kept (R := wayIn F) (fun h k => wayIn.kept h k) h3 k⟩, h.ne, fun i hi => Nat.lt_of_lt_of_le (h.fb i hi) k.size⟩
theorem stp_ways (s : St) : (stp s).1.ways = s.ways ∧ (stp s).1.fs = s.fs ∧ (stp s).1.q = s.q := by
  obtain ⟨_, e2⟩ := stp_same s
  rw [e2]; exact ⟨rfl, rfl, rfl⟩
set_option maxHeartbeats 4000000 in
set_option maxRecDepth 1000000 in
theorem refNew_ok (q : Int) (w : World) (fb : ∀ i, F i → i < w.heap.size) (h0 : 0 ≤ q) (h1 : q ≤ 16777216) : Calls Try.prog 26 #[.int .i64 q] w fun e w' => e = .returned (.tuple #[.pointer (some ⟨w.heap.size + 1, 0, none⟩), .int .i64 0]) ∧ Rf F w' (w.heap.size + 1) ⟨q, [], [[]], 0, false⟩ ∧ w.grownBy w' none ∧ w'.heap.size = w.heap.size + 2 := by
  obtain ⟨w1, hw1⟩ : ∃ y, y = w.alloc (.cells #[.slice none 0 0, .slice none 0 0] 95) := ⟨_, rfl⟩
  obtain ⟨w2, hw2⟩ : ∃ y, y = w1.alloc (.cells #[.int .i64 q, .slice none 0 0, .slice (some ⟨w.heap.size, 0, none⟩) 1 1, .int .i64 0, .bool false] 76) := ⟨_, rfl⟩
  have s1 : w1.heap.size = w.heap.size + 1 := by rw [hw1]; simp
  have hB : w1.heap[w.heap.size]? = some (.cells #[.slice none 0 0, .slice none 0 0] 95 (0, 0)) := by rw [hw1]; exact heap_alloc_new _ _
  have hB2 : w2.heap[w.heap.size]? = some (.cells #[.slice none 0 0, .slice none 0 0] 95 (0, 0)) := by rw [hw2]; exact (Below.heap_alloc _ _ _ (by omega)).trans hB
  have hR : w2.heap[w.heap.size + 1]? = some (.cells #[.int .i64 q, .slice none 0 0, .slice (some ⟨w.heap.size, 0, none⟩) 1 1, .int .i64 0, .bool false] 76 (0, 0)) := by rw [hw2, ← s1]; exact heap_alloc_new _ _
  have G : w.grownBy w2 none := by
    have g1 := World.grownBy_alloc w (.cells #[.slice none 0 0, .slice none 0 0] 95) none
    have g2 := World.grownBy_alloc w1 (.cells #[.int .i64 q, .slice none 0 0, .slice (some ⟨w.heap.size, 0, none⟩) 1 1, .int .i64 0, .bool false] 76) none
    rw [← hw1] at g1
    rw [← hw2] at g2
    exact ⟨g2.os.trans g1.os, g2.tape.trans g1.tape, g2.output.trans g1.output, Nat.le_trans g1.size g2.size, fun k hk hn => (g2.block k (Nat.lt_of_lt_of_le hk g1.size) hn).trans (g1.block k hk hn)⟩
  have S2 : w2.heap.size = w.heap.size + 2 := by rw [hw2]; simp [s1]
  have R : Rf F w2 (w.heap.size + 1) ⟨q, [], [[]], 0, false⟩ := by
    refine ⟨⟨_, _, hR, ⟨[], rfl, ⟨none, 0, rfl, Nat.le_refl _, by omega, fun _ => rfl, Or.inl rfl⟩, fun i u x hu _ => by simp at hu⟩, ⟨[(.slice none 0 0, .slice none 0 0)], rfl, ⟨some ⟨w.heap.size, 0, none⟩, 1, rfl, Nat.le_refl _, by omega, (fun e => by cases e), Or.inr ⟨w.heap.size, 0, rfl, ⟨by omega, fun h => by have := fb _ h; omega⟩, fun i u hi => ?_⟩⟩, fun i u x hu hx => ?_⟩⟩, by simp, fun i hi => by have := fb i hi; omega⟩
    · obtain rfl : i = 0 := by have := (List.getElem?_eq_some_iff.1 hi).1; simp at this; omega
      simp at hi; subst hi
      exact ⟨(Joins.cell_of_block hB2 0).trans rfl, (Joins.cell_of_block hB2 1).trans rfl⟩
    · obtain rfl : i = 0 := by have := (List.getElem?_eq_some_iff.1 hu).1; simp at this; omega
      simp at hu hx; subst hu hx
      exact ⟨⟨none, 0, rfl, Nat.le_refl _, by omega, fun _ => rfl, Or.inl rfl⟩, ⟨none, 0, rfl, Nat.le_refl _, by omega, fun _ => rfl, Or.inl rfl⟩⟩
  have FIN : Hid (∀ v, v = Value.pointer (some ⟨w1.heap.size, 0, none⟩) → ((Ending.returned (.tuple #[v, .int .i64 0])) = .returned (.tuple #[.pointer (some ⟨w.heap.size + 1, 0, none⟩), .int .i64 0]) ∧ Rf F w2 (w.heap.size + 1) ⟨q, [], [[]], 0, false⟩ ∧ w.grownBy w2 none ∧ w2.heap.size = w.heap.size + 2)) := fun v e => ⟨by rw [e, s1], R, G, S2⟩
  rw [hw2, hw1] at FIN
  clear R S2 G hR hB2 hB s1 hw2 hw1 w2 w1
  go_enter Try.func26, Try.ntmps26
  go_wp2_with fail
  go_ret2
  exact FIN.out _ (by simp)
set_option maxHeartbeats 4000000 in
set_option maxRecDepth 1000000 in
theorem refNew_bad (q : Int) (w : World) (h : q < 0 ∨ 16777216 < q) : Calls Try.prog 26 #[.int .i64 q] w fun e w' => e = .returned (.tuple #[.pointer none, .int .i64 1]) ∧ w' = w := by
  by_cases h0 : q < 0
  · go_enter Try.func26, Try.ntmps26
    go_wp2_with fail
    go_ret2
    exact ⟨rfl, rfl⟩
  · have h1 : 16777216 < q := by omega
    clear h
    go_enter Try.func26, Try.ntmps26
    go_wp2_with fail
    go_ret2
    exact ⟨rfl, rfl⟩
set_option maxHeartbeats 4000000 in
set_option maxRecDepth 1000000 in
theorem refOpen_any (f : Nat) (s : St) (w : World) (h : Rf F w f s) (hb : s.ways.length ≤ 9000000) : Calls Try.prog 50 #[.pointer (some ⟨f, 0, none⟩)] w fun e w' => e = .returned (.int .i64 ((s.ways.length - 1 : Nat) : Int)) ∧ w' = w := by
  obtain ⟨vF, vW, h1, _, us, hl, ⟨p, c, rfl, _, _, _, _⟩, _⟩ := h.fs
  have hp : 0 < s.ways.length := List.length_pos_iff.2 h.ne
  obtain ⟨_, _, c2, _, _, _⟩ := RB.c h1
  rw [hl] at c2
  obtain ⟨K, hK⟩ : ∃ K, s.ways.length = K + 1 := ⟨s.ways.length - 1, by omega⟩
  rw [hK] at c2 ⊢
  have e1 : K + 1 - 1 = K := by omega
  rw [e1]
  have hb2 : K + 1 ≤ 9000000 := by omega
  have u1 : ((K + 1 : Nat) : Int) - 1 = (K : Int) := by omega
  have u4 : IntKind.i64.wrap (K : Int) = (K : Int) := by rw [IntKind.wrap_i64]; omega
  clear h h1 hl hp hK e1
  go_enter Try.func50, Try.ntmps50
  go_wp2_with fail
  go_ret
  exact ⟨by first | rfl | simp, rfl⟩
end Go.Proofs.Ytdiehlioemmakaa
