/-
  The walks of lockstepref04's New, Open, SyncNames, Remove; what its disk's steps ask of each other.
-/
import Derived.Test.YtdiehlioemmakaaEfEpx
import Derived.Test.YtdiehlioemmakaaEfHpx
namespace Go.Proofs.Ytdiehlioemmakaa
open Go.RowKit
variable {F : Nat → Prop}

theorem Rf.grown {w w' : World} {f : Nat} {s : St} (h : Rf F w f s) (hg : w.grownBy w' none) : Rf F w' f s := by
  obtain ⟨vF, vW, h1, h2, h3⟩ := h.fs
  have k : Keep f w w' := Keep.grown hg
  exact ⟨⟨vF, vW, (hg.block f (lt_of_heap h1) (by simp)).trans h1, listIn.kept (R := fileIn F) (fun h k => fileIn.kept h k) h2 k, listIn.kept (R := wayIn F) (fun h k => wayIn.kept h k) h3 k⟩, h.ne, fun i hi => Nat.lt_of_lt_of_le (h.fb i hi) k.size⟩
theorem rd1_own {w : World} {base f n : Nat} {v : Value} {us : List Value} {e : TypeId} (h : w.ownsRow base e 1 v n us) (hf : f < base) (hF : ∀ i, F i → i < base) : rd1 F w f v us := by
  have hl := h.1
  have hn : us.length = n := by omega
  rcases h.2 with ⟨rfl, h0⟩ | ⟨g, cap, cur, rfl, hg, _, hc, hm, _, _⟩
  · obtain rfl : us = [] := List.eq_nil_of_length_eq_zero (by omega)
    exact ⟨none, 0, rfl, Nat.zero_le _, by omega, fun _ => rfl, Or.inl rfl⟩
  · refine ⟨some ⟨g, 0, none⟩, cap, by rw [hn], by omega, by unfold maxLen at hm; omega, (fun e => by cases e), Or.inr ⟨g, 0, rfl, ⟨by omega, fun h => by have := hF g h; omega⟩, fun i u hi => ?_⟩⟩
    have hi2 := (List.getElem?_eq_some_iff.1 hi).1
    rw [Nat.zero_add]
    exact (World.ownsRow.cellAt h i (by omega)).trans hi
/-- what with answers is a way -/
theorem withP.way {w w' : World} {E : Ws} {e : Ending} {f : Nat} (h : withP w E e w') (hf : f < w.heap.size) (hF : ∀ i, F i → i < w.heap.size) : ∃ u1 u2, e = .returned (.agg #[u1, u2]) ∧ w.grownBy w' none ∧ wayIn F w' f (u1, u2) E := by
  obtain ⟨vN, vI, he, hg, h1, h2⟩ := h
  exact ⟨vN, vI, he, hg, rd1_own h1 hf hF, rd1_own h2 hf hF⟩
/-- a way with one name more or less -/
theorem with_way {w : World} {f : Nat} {p1 p2 : Option Addr} {c1 c2 N M : Nat} {l : Ws} (h : wayIn F w f (.slice p1 N c1, .slice p2 M c2) l) (hb : l.length ≤ 4000000) (s : List UInt8) (kf : Int) (hkf : kf < 0 ∨ ∃ kn : Nat, kf = kn) {w' : World} (hg : w.grownBy w' none) :
    Calls Try.prog 69 #[.agg #[.slice p1 N c1, .slice p2 M c2], .string ⟨s.toArray⟩, .int .i64 kf] w' (withP w' (wth s kf (decide (kf < 0)) l)) := by
  obtain ⟨⟨q1, d1, e1, _, _, _, h1⟩, ⟨q2, d2, e2, _, _, _, h2⟩⟩ := h
  rw [List.length_map] at e1 e2
  simp only [Value.slice.injEq] at e1 e2
  obtain ⟨rfl, rfl, rfl⟩ := e1
  obtain ⟨rfl, rfl, rfl⟩ := e2
  refine with_any p1 p2 c1 c2 l.length l s kf w' hkf rfl hb ?_
  by_cases hl : l = []
  · exact Or.inl hl
  · rcases h1 with h1 | ⟨g1, o1, rfl, _, h1⟩
    · exact absurd (List.map_eq_nil_iff.1 h1) hl
    rcases h2 with h2 | ⟨g2, o2, rfl, _, h2⟩
    · exact absurd (List.map_eq_nil_iff.1 h2) hl
    refine Or.inr ⟨g1, o1, g2, o2, rfl, rfl, fun i p hp => ⟨hg.cell (h1 i _ ?_) (by simp), hg.cell (h2 i _ ?_) (by simp)⟩⟩
    · rw [List.getElem?_map, hp]; rfl
    · rw [List.getElem?_map, hp]; rfl
theorem stp_same (s : St) : (stp s).2 = (stp ⟨s.q, [], [], s.left, s.dead⟩).2 ∧ (stp s).1 = { s with left := (stp ⟨s.q, [], [], s.left, s.dead⟩).1.left, dead := (stp ⟨s.q, [], [], s.left, s.dead⟩).1.dead } := by
  cases s with
  | mk q fs ways left dead =>
    unfold stp
    simp only
    by_cases h1 : dead = true
    · simp [h1]
    · by_cases h2 : left = 1
      · simp [h1, h2]
      · by_cases h3 : 1 < left
        · simp [h1, h2, h3]
        · simp [h1, h2, h3]
theorem stops_rf {w : World} {f : Nat} {s : St} (h : Rf F w f s) (hl : -9223372036854775808 ≤ s.left ∧ s.left ≤ 9223372036854775807) :
    Calls Try.prog 67 #[.pointer (some ⟨f, 0, none⟩)] w fun e w' => e = .returned (.bool (stp s).2) ∧ Rf F w' f (stp s).1 ∧ Keep f w w' := by
  obtain ⟨vF, vW, h1, h2, h3⟩ := h.fs
  refine (stops_any f s.q s.left vF vW s.dead w hl h1).mono ?_
  rintro e w' ⟨rfl, hB, k⟩
  obtain ⟨e1, e2⟩ := stp_same s
  refine ⟨by rw [e1], ?_, k⟩
  rw [e2]
  exact ⟨⟨vF, vW, hB, listIn.kept (R := fileIn F) (fun h k => fileIn.kept h k) h2 k, listIn.kept (R := wayIn F) (fun h k => wayIn.kept h k) h3 k⟩, h.ne, fun i hi => Nat.lt_of_lt_of_le (h.fb i hi) k.size⟩
theorem stp_ways (s : St) : (stp s).1.ways = s.ways ∧ (stp s).1.fs = s.fs ∧ (stp s).1.q = s.q := by
  obtain ⟨_, e2⟩ := stp_same s
  rw [e2]; exact ⟨rfl, rfl, rfl⟩
set_option maxHeartbeats 4000000 in
set_option maxRecDepth 1000000 in
theorem refNew_ok (q : Int) (w : World) (fb : ∀ i, F i → i < w.heap.size) (h0 : 0 ≤ q) (h1 : q ≤ 16777216) : Calls Try.prog 26 #[.int .i64 q] w fun e w' => e = .returned (.tuple #[.pointer (some ⟨w.heap.size + 1, 0, none⟩), .int .i64 0]) ∧ Rf F w' (w.heap.size + 1) ⟨q, [], [[]], 0, false⟩ ∧ w.grownBy w' none ∧ w'.heap.size = w.heap.size + 2 := by
  obtain ⟨w1, hw1⟩ : ∃ y, y = w.alloc (.cells #[.slice none 0 0, .slice none 0 0] 95) := ⟨_, rfl⟩
  obtain ⟨w2, hw2⟩ : ∃ y, y = w1.alloc (.cells #[.int .i64 q, .slice none 0 0, .slice (some ⟨w.heap.size, 0, none⟩) 1 1, .int .i64 0, .bool false] 76) := ⟨_, rfl⟩
  have s1 : w1.heap.size = w.heap.size + 1 := by rw [hw1]; simp
  have hB : w1.heap[w.heap.size]? = some (.cells #[.slice none 0 0, .slice none 0 0] 95 (0, 0)) := by rw [hw1]; exact heap_alloc_new _ _
  have hB2 : w2.heap[w.heap.size]? = some (.cells #[.slice none 0 0, .slice none 0 0] 95 (0, 0)) := by rw [hw2]; exact (Below.heap_alloc _ _ _ (by omega)).trans hB
  have hR : w2.heap[w.heap.size + 1]? = some (.cells #[.int .i64 q, .slice none 0 0, .slice (some ⟨w.heap.size, 0, none⟩) 1 1, .int .i64 0, .bool false] 76 (0, 0)) := by rw [hw2, ← s1]; exact heap_alloc_new _ _
  have G : w.grownBy w2 none := by
    have g1 := World.grownBy_alloc w (.cells #[.slice none 0 0, .slice none 0 0] 95) none
    have g2 := World.grownBy_alloc w1 (.cells #[.int .i64 q, .slice none 0 0, .slice (some ⟨w.heap.size, 0, none⟩) 1 1, .int .i64 0, .bool false] 76) none
    rw [← hw1] at g1
    rw [← hw2] at g2
    exact ⟨g2.os.trans g1.os, g2.tape.trans g1.tape, g2.output.trans g1.output, Nat.le_trans g1.size g2.size, fun k hk hn => (g2.block k (Nat.lt_of_lt_of_le hk g1.size) hn).trans (g1.block k hk hn)⟩
  have S2 : w2.heap.size = w.heap.size + 2 := by rw [hw2]; simp [s1]
  have R : Rf F w2 (w.heap.size + 1) ⟨q, [], [[]], 0, false⟩ := by
    refine ⟨⟨_, _, hR, ⟨[], rfl, ⟨none, 0, rfl, Nat.le_refl _, by omega, fun _ => rfl, Or.inl rfl⟩, fun i u x hu _ => by simp at hu⟩, ⟨[(.slice none 0 0, .slice none 0 0)], rfl, ⟨some ⟨w.heap.size, 0, none⟩, 1, rfl, Nat.le_refl _, by omega, (fun e => by cases e), Or.inr ⟨w.heap.size, 0, rfl, ⟨by omega, fun h => by have := fb _ h; omega⟩, fun i u hi => ?_⟩⟩, fun i u x hu hx => ?_⟩⟩, by simp, fun i hi => by have := fb i hi; omega⟩
    · obtain rfl : i = 0 := by have := (List.getElem?_eq_some_iff.1 hi).1; simp at this; omega
      simp at hi; subst hi
      exact ⟨(Joins.cell_of_block hB2 0).trans rfl, (Joins.cell_of_block hB2 1).trans rfl⟩
    · obtain rfl : i = 0 := by have := (List.getElem?_eq_some_iff.1 hu).1; simp at this; omega
      simp at hu hx; subst hu hx
      exact ⟨⟨none, 0, rfl, Nat.le_refl _, by omega, fun _ => rfl, Or.inl rfl⟩, ⟨none, 0, rfl, Nat.le_refl _, by omega, fun _ => rfl, Or.inl rfl⟩⟩
  have FIN : Hid (∀ v, v = Value.pointer (some ⟨w1.heap.size, 0, none⟩) → ((Ending.returned (.tuple #[v, .int .i64 0])) = .returned (.tuple #[.pointer (some ⟨w.heap.size + 1, 0, none⟩), .int .i64 0]) ∧ Rf F w2 (w.heap.size + 1) ⟨q, [], [[]], 0, false⟩ ∧ w.grownBy w2 none ∧ w2.heap.size = w.heap.size + 2)) := fun v e => ⟨by rw [e, s1], R, G, S2⟩
  rw [hw2, hw1] at FIN
  clear R S2 G hR hB2 hB s1 hw2 hw1 w2 w1
  go_enter Try.func26, Try.ntmps26
  go_wp2_with fail
  go_ret2
  exact FIN.out _ (by simp)
set_option maxHeartbeats 4000000 in
set_option maxRecDepth 1000000 in
theorem refNew_bad (q : Int) (w : World) (h : q < 0 ∨ 16777216 < q) : Calls Try.prog 26 #[.int .i64 q] w fun e w' => e = .returned (.tuple #[.pointer none, .int .i64 1]) ∧ w' = w := by
  by_cases h0 : q < 0
  · go_enter Try.func26, Try.ntmps26
    go_wp2_with fail
    go_ret2
    exact ⟨rfl, rfl⟩
  · have h1 : 16777216 < q := by omega
    clear h
    go_enter Try.func26, Try.ntmps26
    go_wp2_with fail
    go_ret2
    exact ⟨rfl, rfl⟩
set_option maxHeartbeats 4000000 in
set_option maxRecDepth 1000000 in
theorem refOpen_any (f : Nat) (s : St) (w : World) (h : Rf F w f s) (hb : s.ways.length ≤ 9000000) : Calls Try.prog 50 #[.pointer (some ⟨f, 0, none⟩)] w fun e w' => e = .returned (.int .i64 ((s.ways.length - 1 : Nat) : Int)) ∧ w' = w := by
  obtain ⟨vF, vW, h1, _, us, hl, ⟨p, c, rfl, _, _, _, _⟩, _⟩ := h.fs
  have hp : 0 < s.ways.length := List.length_pos_iff.2 h.ne
  obtain ⟨_, _, c2, _, _, _⟩ := RB.c h1
  rw [hl] at c2
  obtain ⟨K, hK⟩ : ∃ K, s.ways.length = K + 1 := ⟨s.ways.length - 1, by omega⟩
  rw [hK] at c2 ⊢
  have e1 : K + 1 - 1 = K := by omega
  rw [e1]
  have hb2 : K + 1 ≤ 9000000 := by omega
  have u1 : ((K + 1 : Nat) : Int) - 1 = (K : Int) := by omega
  have u4 : IntKind.i64.wrap (K : Int) = (K : Int) := by rw [IntKind.wrap_i64]; omega
  clear h h1 hl hp hK e1
  go_enter Try.func50, Try.ntmps50
  go_wp2_with fail
  go_ret
  exact ⟨by first | rfl | simp, rfl⟩
end Go.Proofs.Ytdiehlioemmakaa

namespace Go.Proofs.Ytdiehlioemmakaa
open Go.RowKit
variable {F : Nat → Prop}

theorem mkHid {P : Prop} (h : P) : Hid P := h
theorem grRefl (w : World) : w.grownBy w none := ⟨rfl, rfl, rfl, Nat.le_refl _, fun _ _ _ => rfl⟩
theorem grTrans {a b c : World} (g1 : a.grownBy b none) (g2 : b.grownBy c none) : a.grownBy c none := ⟨g2.os.trans g1.os, g2.tape.trans g1.tape, g2.output.trans g1.output, Nat.le_trans g1.size g2.size, fun k hk hn => (g2.block k (Nat.lt_of_lt_of_le hk g1.size) hn).trans (g1.block k hk hn)⟩
theorem at_cases (n : List UInt8) (l : Ws) : atE n l = 6 ∨ atE n l = 40 ∨ (atE n l = 0 ∧ nmOk n = true ∧ 0 ≤ fnd n l ∧ atI n l = fnd n l) := by
  unfold atE atI
  by_cases h1 : nmOk n = false
  · left; rw [if_pos h1]
  · by_cases h2 : fnd n l < 0
    · right; left; rw [if_neg h1, if_pos h2]
    · right; right
      rw [if_neg h1, if_neg h2, if_neg h1, if_neg h2]
      exact ⟨rfl, by simpa using h1, by omega, rfl⟩
theorem stp_now (s : St) : (stp s).1.now = s.now := by unfold St.now; rw [(stp_ways s).1]
theorem Rf.lt {w : World} {f : Nat} {s : St} (h : Rf F w f s) : f < w.heap.size := by
  obtain ⟨_, _, h1, _⟩ := h.fs
  exact lt_of_heap h1
def rmE (n : List UInt8) (s : St) : Int := if atE n s.now ≠ 0 then atE n s.now else if (stp s).2 = true then 44 else 0
def rmS (n : List UInt8) (s : St) : St := if atE n s.now ≠ 0 then s else if (stp s).2 = true then (stp s).1 else { (stp s).1 with ways := (stp s).1.ways ++ [wth n (-1) true s.now] }
set_option maxHeartbeats 4000000 in
set_option maxRecDepth 1000000 in
theorem refRemove_any (f : Nat) (s : St) (n : List UInt8) (w : World) (h : Rf F w f s) (hl : -9223372036854775808 ≤ s.left ∧ s.left ≤ 9223372036854775807) (hb : s.ways.length ≤ 9000000) (hn : s.now.length ≤ 4000000) :
    Calls Try.prog 39 #[.pointer (some ⟨f, 0, none⟩), .string ⟨n.toArray⟩] w fun e w' => e = .returned (.int .i64 (rmE n s)) ∧ Rf F w' f (rmS n s) ∧ Keep f w w' := by
  have AT := at_any f s n w h hb (by omega)
  rcases at_cases n s.now with hE | hE | ⟨hE, _, hF, hI⟩
  · have r1 : rmE n s = 6 := by unfold rmE; rw [hE]; rfl
    have r2 : rmS n s = s := by unfold rmS; rw [hE]; rfl
    rw [r1, r2]
    rw [hE] at AT
    generalize atI n s.now = I at *
    have AT2 := mkHid (AT)
    clear AT r1 r2 hE
    have H : Hid (Rf F w f s) := h
    clear h hl hb hn
    go_enter Try.func39, Try.ntmps39
    go_wp2_with fail
    refine AT2.out.mono ?_
    rintro e w1 ⟨rfl, g1⟩
    go_wp2_with fail
    go_ret
    exact ⟨rfl, H.out.grown g1, Keep.grown g1⟩
  · have r1 : rmE n s = 40 := by unfold rmE; rw [hE]; rfl
    have r2 : rmS n s = s := by unfold rmS; rw [hE]; rfl
    rw [r1, r2]
    rw [hE] at AT
    generalize atI n s.now = I at *
    have AT2 := mkHid (AT)
    clear AT r1 r2 hE
    have H : Hid (Rf F w f s) := h
    clear h hl hb hn
    go_enter Try.func39, Try.ntmps39
    go_wp2_with fail
    refine AT2.out.mono ?_
    rintro e w1 ⟨rfl, g1⟩
    go_wp2_with fail
    go_ret
    exact ⟨rfl, H.out.grown g1, Keep.grown g1⟩
  · have hS : Hid (∀ w1, w.grownBy w1 none → Calls Try.prog 67 #[.pointer (some ⟨f, 0, none⟩)] w1 fun e w' => e = .returned (.bool (stp s).2) ∧ Rf F w' f (stp s).1 ∧ Keep f w1 w') := fun w1 g => stops_rf (h.grown g) hl
    have r1 : rmE n s = if (stp s).2 = true then 44 else 0 := by unfold rmE; rw [hE]; rfl
    have r2 : rmS n s = if (stp s).2 = true then (stp s).1 else { (stp s).1 with ways := (stp s).1.ways ++ [wth n (-1) true s.now] } := by unfold rmS; rw [hE]; rfl
    rw [r1, r2]
    rw [hE] at AT
    have AT2 := mkHid (AT)
    clear AT r1 r2 hE hF hI
    cases hd : (stp s).2 with
    | true =>
      rw [hd] at hS
      rw [if_pos rfl, if_pos rfl]
      clear h hl hb hn hd
      go_enter Try.func39, Try.ntmps39
      go_wp2_with fail
      refine AT2.out.mono ?_
      rintro e w1 ⟨rfl, g1⟩
      go_wp2_with fail
      refine (hS.out _ g1).mono ?_
      rintro e w2 ⟨rfl, R2, k2⟩
      go_wp2_with fail
      go_ret
      exact ⟨rfl, R2, (Keep.grown g1).trans k2⟩
    | false =>
      rw [hd] at hS
      rw [if_neg (by simp), if_neg (by simp)]
      have hb2 : (stp s).1.ways.length ≤ 9000000 := by rw [(stp_ways s).1]; exact hb
      have hn2 : (stp s).1.now.length ≤ 4000000 := by rw [stp_now]; exact hn
      have hnow := stp_now s
      rw [← hnow]
      have HB : Hid ((stp s).1.ways.length ≤ 9000000 ∧ (stp s).1.now.length ≤ 4000000) := ⟨hb2, hn2⟩
      generalize (stp s).1 = s' at *
      clear h hl hb hn hd hb2 hn2 hnow
      go_enter Try.func39, Try.ntmps39
      go_wp2_with fail
      refine AT2.out.mono ?_
      rintro e w1 ⟨rfl, g1⟩
      go_wp2_with fail
      refine (hS.out _ g1).mono ?_
      rintro e w2 ⟨rfl, R2, k2⟩
      obtain ⟨pN, cN, pI, cI, hway, _, hnow⟩ := now_rf R2 HB.out.1 (Nat.le_trans HB.out.2 (by omega))
      have HN := mkHid (hnow _ (grRefl w2))
      have HW : Hid (∀ w3, w2.grownBy w3 none → Calls Try.prog 69 #[.agg #[.slice pN s'.now.length cN, .slice pI s'.now.length cI], .string ⟨n.toArray⟩, .int .i64 (-1)] w3 (withP w3 (wth n (-1) true s'.now))) := fun w3 g => with_way hway HB.out.2 n (-1) (Or.inl (by omega)) g
      have R2' : Hid (Rf F w2 f s') := R2
      have k2' : Hid (Keep f w1 w2) := k2
      clear hway hnow R2 k2
      generalize s'.now.length = N1 at *
      go_wp2_with fail
      refine HN.out.mono ?_
      rintro e w3 ⟨rfl, g3⟩
      go_wp2_with fail
      refine (HW.out _ g3).mono ?_
      intro e w4 h4
      obtain ⟨u1, u2, rfl, g4, hW⟩ := h4.way (Nat.lt_of_lt_of_le R2'.out.lt g3.size) (fun i hi => Nat.lt_of_lt_of_le (R2'.out.fb i hi) g3.size)
      have hW' := mkHid (hW)
      clear h4 hW
      go_wp2_with fail
      refine (changes_any f s' _ u1 u2 w4 (R2'.out.grown (grTrans g3 g4)) hW'.out HB.out.1).mono ?_
      rintro e w5 ⟨rfl, R5, k5⟩
      have R5' := mkHid (R5)
      clear R5
      go_wp2_with fail
      go_ret
      exact ⟨rfl, R5'.out, (((Keep.grown g1).trans k2'.out).trans (Keep.grown (grTrans g3 g4))).trans k5⟩
end Go.Proofs.Ytdiehlioemmakaa

namespace Go.Proofs.Ytdiehlioemmakaa
open Go.RowKit
variable {F : Nat → Prop}

theorem wth_len (s : List UInt8) (k : Int) : ∀ (l : Ws) (put : Bool), (wth s k put l).length ≤ l.length + 1
  | [], put => by cases put <;> simp [wth]
  | p :: r, put => by
    have ih := wth_len s k r (put || !Op.bytesLess p.1 s)
    unfold wth
    rw [List.length_append, List.length_append, List.length_cons]
    have h2 : (if p.1 = s then ([] : Ws) else [p]).length ≤ 1 := by split <;> simp
    by_cases h : (!put && !Op.bytesLess p.1 s) = true
    · have hp : (put || !Op.bytesLess p.1 s) = true := by
        cases put <;> simp_all
      rw [if_pos h, hp]
      have ih2 := wth_true s k r
      simp only [List.length_cons, List.length_nil]
      omega
    · rw [if_neg h]
      simp only [List.length_nil]
      omega
where
  wth_true (s : List UInt8) (k : Int) : ∀ (l : Ws), (wth s k true l).length ≤ l.length
  | [] => by simp [wth]
  | p :: r => by
    have ih := wth_true s k r
    unfold wth
    rw [List.length_append, List.length_append, List.length_cons]
    have h2 : (if p.1 = s then ([] : Ws) else [p]).length ≤ 1 := by split <;> simp
    rw [if_neg (by simp)]
    simp only [Bool.true_or, List.length_nil]
    omega
theorem at_ok {n : List UInt8} {l : Ws} (h : nmOk n = true) : atE n l = 40 ∨ (atE n l = 0 ∧ atI n l = fnd n l ∧ 0 ≤ fnd n l) := by
  rcases at_cases n l with h1 | h1 | ⟨h1, _, h2, h3⟩
  · unfold atE at h1
    rw [if_neg (by rw [h]; simp)] at h1
    split at h1 <;> simp at h1
  · exact Or.inl h1
  · exact Or.inr ⟨h1, h3, h2⟩
def rnE (a b : List UInt8) (s : St) : Int := if nmOk a = false then 6 else if nmOk b = false then 6 else if atE a s.now ≠ 0 then atE a s.now else if (stp s).2 = true then 44 else 0
def rnS (a b : List UInt8) (s : St) : St := if nmOk a = false then s else if nmOk b = false then s else if atE a s.now ≠ 0 then s else if (stp s).2 = true then (stp s).1 else if a = b then (stp s).1 else { (stp s).1 with ways := (stp s).1.ways ++ [wth b (fnd a s.now) false (wth a (-1) true s.now)] }
set_option maxHeartbeats 4000000 in
set_option maxRecDepth 1000000 in
theorem refRename_any (f : Nat) (s : St) (a b : List UInt8) (w : World) (h : Rf F w f s) (hl : -9223372036854775808 ≤ s.left ∧ s.left ≤ 9223372036854775807) (hb : s.ways.length ≤ 9000000) (hn : s.now.length ≤ 3900000) :
    Calls Try.prog 37 #[.pointer (some ⟨f, 0, none⟩), .string ⟨a.toArray⟩, .string ⟨b.toArray⟩] w fun e w' => e = .returned (.int .i64 (rnE a b s)) ∧ Rf F w' f (rnS a b s) ∧ Keep f w w' := by
  have AT := at_any f s a w h hb (by omega)
  have NA : Hid (∀ w, Calls Try.prog 64 #[.string ⟨a.toArray⟩] w fun e w' => e = .returned (.bool (nmOk a)) ∧ w' = w) := fun w => refName_any a w
  have NB : Hid (∀ w, Calls Try.prog 64 #[.string ⟨b.toArray⟩] w fun e w' => e = .returned (.bool (nmOk b)) ∧ w' = w) := fun w => refName_any b w
  have H := mkHid h
  cases ha : nmOk a with
  | false =>
    rw [ha] at NA
    have r1 : rnE a b s = 6 := by unfold rnE; simp [ha]
    have r2 : rnS a b s = s := by unfold rnS; simp [ha]
    rw [r1, r2]
    clear r1 r2
    clear AT NB ha h hl hb hn
    go_enter Try.func37, Try.ntmps37
    go_wp2_with fail
    refine (NA.out _).mono ?_
    rintro e w1 ⟨rfl, hw1⟩; have hw2 := hw1.symm; subst hw2; clear hw1
    go_wp2_with fail
    go_ret
    exact ⟨rfl, H.out, Keep.refl f w⟩
  | true =>
    rw [ha] at NA
    cases hbb : nmOk b with
    | false =>
      rw [hbb] at NB
      have r1 : rnE a b s = 6 := by unfold rnE; simp [ha, hbb]
      have r2 : rnS a b s = s := by unfold rnS; simp [ha, hbb]
      rw [r1, r2]
      clear r1 r2
      clear AT ha h hl hb hn
      go_enter Try.func37, Try.ntmps37
      go_wp2_with fail
      refine (NA.out _).mono ?_
      rintro e w1 ⟨rfl, hw1⟩; have hw2 := hw1.symm; subst hw2; clear hw1
      go_wp2_with fail
      refine (NB.out _).mono ?_
      rintro e w1 ⟨rfl, hw1⟩; have hw2 := hw1.symm; subst hw2; clear hw1
      go_wp2_with fail
      go_ret
      exact ⟨rfl, H.out, Keep.refl f w⟩
    | true =>
      rw [hbb] at NB
      rcases at_ok (l := s.now) ha with hE | ⟨hE, hI, hF⟩
      · rw [hE] at AT
        have r1 : rnE a b s = 40 := by unfold rnE; simp [ha, hbb, hE]
        have r2 : rnS a b s = s := by unfold rnS; simp [ha, hbb, hE]
        rw [r1, r2]
        clear r1 r2
        generalize atI a s.now = I at *
        have AT2 := mkHid AT
        clear AT hE ha hbb h hl hb hn
        go_enter Try.func37, Try.ntmps37
        go_wp2_with fail
        refine (NA.out _).mono ?_
        rintro e w1 ⟨rfl, hw1⟩; have hw2 := hw1.symm; subst hw2; clear hw1
        go_wp2_with fail
        refine (NB.out _).mono ?_
        rintro e w1 ⟨rfl, hw1⟩; have hw2 := hw1.symm; subst hw2; clear hw1
        go_wp2_with fail
        refine AT2.out.mono ?_
        rintro e w1 ⟨rfl, g1⟩
        go_wp2_with fail
        go_ret
        exact ⟨rfl, H.out.grown g1, Keep.grown g1⟩
      · rw [hE] at AT
        rw [hI] at AT
        obtain ⟨kn, hkn⟩ : ∃ kn : Nat, fnd a s.now = kn := ⟨(fnd a s.now).toNat, by omega⟩
        rw [hkn] at AT
        have AT2 := mkHid AT
        have hS : Hid (∀ w1, w.grownBy w1 none → Calls Try.prog 67 #[.pointer (some ⟨f, 0, none⟩)] w1 fun e w' => e = .returned (.bool (stp s).2) ∧ Rf F w' f (stp s).1 ∧ Keep f w1 w') := fun w1 g => stops_rf (h.grown g) hl
        clear AT hI hF
        cases hd : (stp s).2 with
        | true =>
          rw [hd] at hS
          have r1 : rnE a b s = 44 := by unfold rnE; simp [ha, hbb, hE, hd]
          have r2 : rnS a b s = (stp s).1 := by unfold rnS; simp [ha, hbb, hE, hd]
          rw [r1, r2]
          clear r1 r2
          clear h hl hb hn hd ha hbb hE hkn
          go_enter Try.func37, Try.ntmps37
          go_wp2_with fail
          refine (NA.out _).mono ?_
          rintro e w1 ⟨rfl, hw1⟩; have hw2 := hw1.symm; subst hw2; clear hw1
          go_wp2_with fail
          refine (NB.out _).mono ?_
          rintro e w1 ⟨rfl, hw1⟩; have hw2 := hw1.symm; subst hw2; clear hw1
          go_wp2_with fail
          refine AT2.out.mono ?_
          rintro e w1 ⟨rfl, g1⟩
          go_wp2_with fail
          refine (hS.out _ g1).mono ?_
          rintro e w2 ⟨rfl, R2, k2⟩
          go_wp2_with fail
          go_ret
          exact ⟨rfl, R2, (Keep.grown g1).trans k2⟩
        | false =>
          rw [hd] at hS
          have r1 : rnE a b s = 0 := by unfold rnE; simp [ha, hbb, hE, hd]
          have r2 : rnS a b s = if a = b then (stp s).1 else { (stp s).1 with ways := (stp s).1.ways ++ [wth b (kn : Int) false (wth a (-1) true s.now)] } := by unfold rnS; simp [ha, hbb, hE, hd, hkn]
          rw [r1, r2]
          clear r1 r2 ha hbb hE hkn
          have hb2 : (stp s).1.ways.length ≤ 9000000 := by rw [(stp_ways s).1]; exact hb
          have hn2 : (stp s).1.now.length ≤ 3900000 := by rw [stp_now]; exact hn
          have hnow := stp_now s
          rw [← hnow]
          have HB : Hid ((stp s).1.ways.length ≤ 9000000 ∧ (stp s).1.now.length ≤ 3900000) := ⟨hb2, hn2⟩
          generalize (stp s).1 = s' at *
          clear h hl hb hn hd hb2 hn2 hnow
          by_cases hab : a = b
          · rw [if_pos hab]
            have b9 : (a == b) = true := by rw [hab]; simp
            clear hab
            go_enter Try.func37, Try.ntmps37
            go_wp2_with fail
            refine (NA.out _).mono ?_
            rintro e w1 ⟨rfl, hw1⟩; have hw2 := hw1.symm; subst hw2; clear hw1
            go_wp2_with fail
            refine (NB.out _).mono ?_
            rintro e w1 ⟨rfl, hw1⟩; have hw2 := hw1.symm; subst hw2; clear hw1
            go_wp2_with fail
            refine AT2.out.mono ?_
            rintro e w1 ⟨rfl, g1⟩
            go_wp2_with fail
            refine (hS.out _ g1).mono ?_
            rintro e w2 ⟨rfl, R2, k2⟩
            go_wp2_with fail
            go_ret
            exact ⟨rfl, R2, (Keep.grown g1).trans k2⟩
          · rw [if_neg hab]
            have b9 : (a == b) = false := by rw [beq_eq_false_iff_ne]; exact hab
            clear hab
            go_enter Try.func37, Try.ntmps37
            go_wp2_with fail
            refine (NA.out _).mono ?_
            rintro e w1 ⟨rfl, hw1⟩; have hw2 := hw1.symm; subst hw2; clear hw1
            go_wp2_with fail
            refine (NB.out _).mono ?_
            rintro e w1 ⟨rfl, hw1⟩; have hw2 := hw1.symm; subst hw2; clear hw1
            go_wp2_with fail
            refine AT2.out.mono ?_
            rintro e w1 ⟨rfl, g1⟩
            go_wp2_with fail
            refine (hS.out _ g1).mono ?_
            rintro e w2 ⟨rfl, R2, k2⟩
            obtain ⟨pN, cN, pI, cI, hway, _, hnow⟩ := now_rf R2 HB.out.1 (Nat.le_trans HB.out.2 (by omega))
            have HN := mkHid (hnow _ (grRefl w2))
            have HW : Hid (∀ w3, w2.grownBy w3 none → Calls Try.prog 69 #[.agg #[.slice pN s'.now.length cN, .slice pI s'.now.length cI], .string ⟨a.toArray⟩, .int .i64 (-1)] w3 (withP w3 (wth a (-1) true s'.now))) := fun w3 g => with_way hway (Nat.le_trans HB.out.2 (by omega)) a (-1) (Or.inl (by omega)) g
            have HL : Hid ((wth a (-1) true s'.now).length ≤ 4000000) := Nat.le_trans (wth_len _ _ _ _) (by have := HB.out.2; omega)
            have R2' := mkHid R2
            have k2' := mkHid k2
            clear hway hnow R2 k2
            generalize s'.now.length = N1 at *
            go_wp2_with fail
            refine HN.out.mono ?_
            rintro e w3 ⟨rfl, g3⟩
            go_wp2_with fail
            refine (HW.out _ g3).mono ?_
            intro e w4 h4
            obtain ⟨u1, u2, rfl, g4, hW⟩ := h4.way (Nat.lt_of_lt_of_le R2'.out.lt g3.size) (fun i hi => Nat.lt_of_lt_of_le (R2'.out.fb i hi) g3.size)
            obtain ⟨p1, c1, e1⟩ := rd1_one hW.1
            obtain ⟨p2, c2, e2⟩ := rd1_one hW.2
            simp only at e1 e2
            subst e1 e2
            have HW2 := mkHid (with_way hW HL.out b (kn : Int) (Or.inr ⟨kn, rfl⟩) (grRefl w4))
            have hdec : decide ((kn : Int) < 0) = false := by simp
            rw [hdec] at HW2
            clear h4 hW hdec
            generalize (List.map (fun p => strV p.1) (wth a (-1) true s'.now)).length = m1 at *
            generalize (List.map (fun p => intV p.2) (wth a (-1) true s'.now)).length = m2 at *
            go_wp2_with fail
            refine HW2.out.mono ?_
            intro e w5 h5
            obtain ⟨u1, u2, rfl, g5, hW⟩ := h5.way (Nat.lt_of_lt_of_le R2'.out.lt (Nat.le_trans g3.size g4.size)) (fun i hi => Nat.lt_of_lt_of_le (R2'.out.fb i hi) (Nat.le_trans g3.size g4.size))
            have hW' := mkHid hW
            clear h5 hW
            go_wp2_with fail
            refine (changes_any f s' _ u1 u2 w5 (R2'.out.grown (grTrans (grTrans g3 g4) g5)) hW'.out HB.out.1).mono ?_
            rintro e w6 ⟨rfl, R5, k5⟩
            have R5' := mkHid R5
            clear R5
            go_wp2_with fail
            go_ret
            exact ⟨rfl, R5'.out, (((Keep.grown g1).trans k2'.out).trans (Keep.grown (grTrans (grTrans g3 g4) g5))).trans k5⟩
end Go.Proofs.Ytdiehlioemmakaa

namespace Go.Proofs.Ytdiehlioemmakaa
open Go.RowKit
variable {F : Nat → Prop}

def syE (s : St) : Int := if (stp s).2 = true then 44 else 0
def syS (s : St) : St := if (stp s).2 = true then (stp s).1 else { (stp s).1 with ways := [(stp s).1.now] }
theorem sy_mk {w : World} {f g o c K : Nat} {s : St} {vF : Value} {us : List (Value × Value)} (fb : ∀ i, F i → i < w.heap.size) (hb : RB w f s.q s.left vF (.slice (some ⟨g, o, none⟩) us.length c) s.dead) (hF : listIn F (fileIn F) w f vF s.fs) (hl : us.length = s.ways.length) (hK : us.length = K + 1) (hc : us.length ≤ c) (hcc : c ≤ 9223372036854775807) (hg : g ≠ f ∧ ¬ F g)
    (hu : ∀ (i : Nat) u, us[i]? = some u → w.cell? ⟨g, o + i * 2, none⟩ = some u.1 ∧ w.cell? ⟨g, o + i * 2 + 1, none⟩ = some u.2) (hw : ∀ (i : Nat) (u : Value × Value) (x : Ws), us[i]? = some u → s.ways[i]? = some x → wayIn F w f u x) :
    Rf F (w.setCell ⟨f, 2, none⟩ (.slice (some ⟨g, o + K * 2, none⟩) 1 (c - K))) f { s with ways := [s.now] } := by
  have k := Keep.set w f 2 (.slice (some ⟨g, o + K * 2, none⟩) 1 (c - K))
  obtain ⟨u, hu1⟩ : ∃ u, us[K]? = some u := ⟨us[K]'(by omega), List.getElem?_eq_getElem _⟩
  have hx : s.ways[K]? = some s.now := by
    unfold St.now
    rw [List.getLastD_eq_getLast?, List.getLast?_eq_getElem?, ← hl, hK, Nat.add_sub_cancel, List.getElem?_eq_getElem (by omega)]; rfl
  have hw1 := hw K u _ hu1 hx
  obtain ⟨k1, k2⟩ := hu K u hu1
  refine ⟨⟨vF, _, (hb.set).2.2.2 _, listIn.kept (R := fileIn F) (fun h k => fileIn.kept h k) hF k, [u], rfl, ⟨some ⟨g, o + K * 2, none⟩, c - K, rfl, (show 1 ≤ c - K by omega), by omega, (fun e => by cases e), Or.inr ⟨g, o + K * 2, rfl, hg, fun i y hi => ?_⟩⟩, fun i y x hy hx => ?_⟩, by simp, fun i hi => Nat.lt_of_lt_of_le (fb i hi) k.size⟩
  · obtain rfl : i = 0 := by have := (List.getElem?_eq_some_iff.1 hi).1; simp at this; omega
    simp at hi; subst hi
    exact ⟨k.cell hg k1, k.cell hg k2⟩
  · obtain rfl : i = 0 := by have := (List.getElem?_eq_some_iff.1 hy).1; simp at this; omega
    simp at hy hx; subst hy hx
    exact hw1.kept k
set_option maxHeartbeats 4000000 in
set_option maxRecDepth 1000000 in
theorem refSyncNames_any (f : Nat) (s : St) (w : World) (h : Rf F w f s) (hl : -9223372036854775808 ≤ s.left ∧ s.left ≤ 9223372036854775807) (hb : s.ways.length ≤ 9000000) :
    Calls Try.prog 41 #[.pointer (some ⟨f, 0, none⟩)] w fun e w' => e = .returned (.int .i64 (syE s)) ∧ Rf F w' f (syS s) ∧ Keep f w w' := by
  have hS := mkHid (stops_rf h hl)
  cases hd : (stp s).2 with
  | true =>
    rw [hd] at hS
    have r1 : syE s = 44 := by unfold syE; rw [hd]; rfl
    have r2 : syS s = (stp s).1 := by unfold syS; rw [hd]; rfl
    rw [r1, r2]
    clear r1 r2 hd h hl hb
    go_enter Try.func41, Try.ntmps41
    go_wp2_with fail
    refine hS.out.mono ?_
    rintro e w2 ⟨rfl, R2, k2⟩
    go_wp2_with fail
    go_ret
    exact ⟨rfl, R2, k2⟩
  | false =>
    rw [hd] at hS
    have r1 : syE s = 0 := by unfold syE; rw [hd]; rfl
    have r2 : syS s = { (stp s).1 with ways := [(stp s).1.now] } := by unfold syS; rw [hd]; rfl
    rw [r1, r2]
    have hb2 : (stp s).1.ways.length ≤ 9000000 := by rw [(stp_ways s).1]; exact hb
    generalize (stp s).1 = s' at *
    clear r1 r2 hd h hl hb
    go_enter Try.func41, Try.ntmps41
    go_wp2_with fail
    refine hS.out.mono ?_
    rintro e w2 ⟨rfl, R2, k2⟩
    obtain ⟨vF, vW, h1, hF, us, hl, ⟨p, c, rfl, hc1, hc2, _, hc⟩, hw⟩ := R2.fs
    have hne : us ≠ [] := fun e => R2.ne (List.eq_nil_of_length_eq_zero (by rw [← hl, e]; rfl))
    rcases hc with hc | ⟨g, o, rfl, hgf, hc⟩
    · exact absurd hc hne
    obtain ⟨N, hN⟩ : ∃ N, N = us.length := ⟨_, rfl⟩
    obtain ⟨K, hK⟩ : ∃ K, us.length = K + 1 := ⟨us.length - 1, by have := List.length_pos_iff.2 hne; omega⟩
    have FIN : Hid (Rf F (w2.drew.setCell ⟨f, 2, none⟩ (.slice (some ⟨g, o + K * 2, none⟩) (N - K) (c - K))) f { s' with ways := [s'.now] }) := by
      have e : N - K = 1 := by omega
      rw [e]
      exact sy_mk (w := w2.drew) R2.fb h1 hF hl hK hc1 hc2 hgf hc hw
    have KK : Hid (Keep f w (w2.drew.setCell ⟨f, 2, none⟩ (.slice (some ⟨g, o + K * 2, none⟩) (N - K) (c - K)))) := (k2.trans (Keep.grown (w' := w2.drew) ⟨rfl, rfl, rfl, Nat.le_refl _, fun _ _ _ => rfl⟩)).trans (Keep.set _ f 2 _)
    obtain ⟨_, _, cW, _, _, fr⟩ := RB.c h1
    have fW := fr 2
    rw [← hN] at cW
    have u1 : (N : Int) - 1 = (K : Int) := by omega
    have u2 : (K : Int) ≤ (N : Int) := by omega
    have u3 : (N : Int) ≤ (c : Int) := by omega
    have u5 : N ≤ c := by omega
    have u6 : K < N := by omega
    have u8 : (c = K) = False := by rw [eq_iff_iff]; exact ⟨fun e => by omega, False.elim⟩
    have u9 : K ≤ N := by omega
    have u4 : IntKind.i64.wrap (K : Int) = (K : Int) := by rw [IntKind.wrap_i64]; omega
    have u7 : (N : Int) ≤ 9000000 := by omega
    clear fr h1 hF hl hc1 hc2 hc hw hne hN hK hgf R2 k2 hS
    go_wp2_with fail
    refine wp_region_noPanic ?_
    refine wp_region_G (S := SG 14 14 (fun w' => w'.cell? ⟨f, 2, none⟩ = some (.slice (some ⟨g, o, none⟩) N c)) (fun _ => True) (fun _ => True)) (by kernel_rfl) ⟨fun _ => cW, fun _ => trivial, trivial⟩ (fun hH => ?_)
    have cw0 : w2.drew.cell? ⟨f, 2, none⟩ = some (.slice (some ⟨g, o, none⟩) N c) := cW
    have fw0 : w2.drew.frozen? ⟨f, 2, none⟩ = false := fW
    obtain ⟨wx, hwx⟩ : ∃ x, x = w2.drew := ⟨_, rfl⟩
    rw [← hwx] at hH cw0 fw0 FIN KK ⊢
    clear hwx
    simp only [Array.replicate, List.size_toArray, List.length_cons, List.length_nil, List.replicate, Nat.zero_add, Nat.reduceAdd] at hH ⊢
    refine takeG (i := 0) (v := .pointer (some ⟨f, 0, none⟩)) [] rfl rfl (by kernel_rfl) (by kernel_rfl) (by kernel_rfl) (by kernel_rfl) (by kernel_rfl) (SG_set (by decide) (by decide)) (fun _ _ _ h => h) (Or.inl ⟨by rfl, ?_⟩) hH (fun hH => ?_)
    · intro w5 hSw; go_simp
    simp only [zA9, zB9, zC9] at hH ⊢
    refine takeG (i := 1) (v := .pointer (some ⟨f, 0, none⟩)) [] rfl rfl (by kernel_rfl) (by kernel_rfl) (by kernel_rfl) (by kernel_rfl) (by kernel_rfl) (SG_set (by decide) (by decide)) (fun _ _ _ h => h) (Or.inl ⟨by rfl, ?_⟩) hH (fun hH => ?_)
    · intro w5 hSw; go_simp
    simp only [zA9, zB9, zC9] at hH ⊢
    refine takeG (i := 2) (v := .pointer (some ⟨f, 0, none⟩)) [] rfl rfl (by kernel_rfl) (by kernel_rfl) (by kernel_rfl) (by kernel_rfl) (by kernel_rfl) (SG_set (by decide) (by decide)) (fun _ _ _ h => h) (Or.inl ⟨by rfl, ?_⟩) hH (fun hH => ?_)
    · intro w5 hSw; go_simp
    simp only [zA9, zB9, zC9] at hH ⊢
    refine takeG (i := 3) (v := .pointer (some ⟨f, 2, none⟩)) [] rfl rfl (by kernel_rfl) (by kernel_rfl) (by kernel_rfl) (by kernel_rfl) (by kernel_rfl) (SG_set (by decide) (by decide)) (fun _ _ _ h => h) (Or.inl ⟨by rfl, ?_⟩) hH (fun hH => ?_)
    · intro w5 hSw; go_simp
    simp only [zA9, zB9, zC9] at hH ⊢
    refine takeG (i := 4) (v := .slice (some ⟨g, o, none⟩) N c) [14] rfl rfl (by kernel_rfl) (by kernel_rfl) (by kernel_rfl) (by kernel_rfl) (by kernel_rfl) (SG_set (by decide) (by decide)) (fun _ _ _ h => h) (Or.inl ⟨by rfl, ?_⟩) hH (fun hH => ?_)
    · intro w5 hSw; obtain ⟨L5, hU5, hA5, _⟩ := hSw; have a5 := hA5 (hU5 _ (by simp)); go_simp
    simp only [zA9, zB9, zC9] at hH ⊢
    refine takeG (i := 5) (v := .pointer (some ⟨f, 0, none⟩)) [] rfl rfl (by kernel_rfl) (by kernel_rfl) (by kernel_rfl) (by kernel_rfl) (by kernel_rfl) (SG_set (by decide) (by decide)) (fun _ _ _ h => h) (Or.inl ⟨by rfl, ?_⟩) hH (fun hH => ?_)
    · intro w5 hSw; go_simp
    simp only [zA9, zB9, zC9] at hH ⊢
    refine takeG (i := 6) (v := .pointer (some ⟨f, 0, none⟩)) [] rfl rfl (by kernel_rfl) (by kernel_rfl) (by kernel_rfl) (by kernel_rfl) (by kernel_rfl) (SG_set (by decide) (by decide)) (fun _ _ _ h => h) (Or.inl ⟨by rfl, ?_⟩) hH (fun hH => ?_)
    · intro w5 hSw; go_simp
    simp only [zA9, zB9, zC9] at hH ⊢
    refine takeG (i := 7) (v := .pointer (some ⟨f, 2, none⟩)) [] rfl rfl (by kernel_rfl) (by kernel_rfl) (by kernel_rfl) (by kernel_rfl) (by kernel_rfl) (SG_set (by decide) (by decide)) (fun _ _ _ h => h) (Or.inl ⟨by rfl, ?_⟩) hH (fun hH => ?_)
    · intro w5 hSw; go_simp
    simp only [zA9, zB9, zC9] at hH ⊢
    refine takeG (i := 8) (v := .slice (some ⟨g, o, none⟩) N c) [14] rfl rfl (by kernel_rfl) (by kernel_rfl) (by kernel_rfl) (by kernel_rfl) (by kernel_rfl) (SG_set (by decide) (by decide)) (fun _ _ _ h => h) (Or.inl ⟨by rfl, ?_⟩) hH (fun hH => ?_)
    · intro w5 hSw; obtain ⟨L5, hU5, hA5, _⟩ := hSw; have a5 := hA5 (hU5 _ (by simp)); go_simp
    simp only [zA9, zB9, zC9] at hH ⊢
    refine takeG (i := 9) (v := .int .i64 (N : Nat)) [] rfl rfl (by kernel_rfl) (by kernel_rfl) (by kernel_rfl) (by kernel_rfl) (by kernel_rfl) (SG_set (by decide) (by decide)) (fun _ _ _ h => h) (Or.inl ⟨by rfl, ?_⟩) hH (fun hH => ?_)
    · intro w5 hSw; go_simp
    simp only [zA9, zB9, zC9] at hH ⊢
    refine takeG (i := 10) (v := .int .i64 (K : Nat)) [] rfl rfl (by kernel_rfl) (by kernel_rfl) (by kernel_rfl) (by kernel_rfl) (by kernel_rfl) (SG_set (by decide) (by decide)) (fun _ _ _ h => h) (Or.inl ⟨by rfl, ?_⟩) hH (fun hH => ?_)
    · intro w5 hSw; go_simp
    simp only [zA9, zB9, zC9] at hH ⊢
    refine takeG (i := 11) (v := .slice (some ⟨g, o + K * 2, none⟩) (N - K) (c - K)) [] rfl rfl (by kernel_rfl) (by kernel_rfl) (by kernel_rfl) (by kernel_rfl) (by kernel_rfl) (SG_set (by decide) (by decide)) (fun _ _ _ h => h) (Or.inl ⟨by rfl, ?_⟩) hH (fun hH => ?_)
    · intro w5 hSw; go_simp
    simp only [zA9, zB9, zC9] at hH ⊢
    refine takeG (i := 12) (v := .pointer (some ⟨f, 0, none⟩)) [] rfl rfl (by kernel_rfl) (by kernel_rfl) (by kernel_rfl) (by kernel_rfl) (by kernel_rfl) (SG_set (by decide) (by decide)) (fun _ _ _ h => h) (Or.inl ⟨by rfl, ?_⟩) hH (fun hH => ?_)
    · intro w5 hSw; go_simp
    simp only [zA9, zB9, zC9] at hH ⊢
    refine takeG (i := 13) (v := .pointer (some ⟨f, 2, none⟩)) [] rfl rfl (by kernel_rfl) (by kernel_rfl) (by kernel_rfl) (by kernel_rfl) (by kernel_rfl) (SG_set (by decide) (by decide)) (fun _ _ _ h => h) (Or.inl ⟨by rfl, ?_⟩) hH (fun hH => ?_)
    · intro w5 hSw; go_simp
    simp only [zA9, zB9, zC9] at hH ⊢
    refine wpAnyG_ready (rs := [14]) (by kernel_rfl) (by simp) ?_
    refine AllReadyG.cons rfl (fun K hK => ?_) AllReadyG.nil
    go_simp
    refine hK.out _ _ ⟨fun h => by simp at h, fun _ => trivial, trivial⟩ (fun hH => ?_)
    refine wpAnyG_done (by kernel_rfl) ?_ _
    refine NoPanic.normal ?_
    clear hK hH
    have FIN2 := mkHid FIN.out
    go_wp2_with fail
    go_ret
    exact ⟨rfl, FIN2.out, KK.out⟩
end Go.Proofs.Ytdiehlioemmakaa

namespace Go.Proofs.Ytdiehlioemmakaa
open Go.RowKit
variable {F : Nat → Prop}

theorem fiInfo : (Try.prog.info? 98).map (fun i => (i.zero, i.size, i.bytes)) = some (some (.agg #[.slice none 0 0, .int .i64 0]), 2, 32) := by kernel_rfl
theorem fiSlice : Try.prog.underlying 73 = some (.slice 98) := by kernel_rfl
/-- elements of two cells at the end of a row of one's own, in a text's order -/
theorem app_two (sl el : TypeId) (zv : Value) (by' : Nat) (hsl : Try.prog.underlying sl = some (.slice el)) (hinf : (Try.prog.info? el).map (fun i => (i.zero, i.size, i.bytes)) = some (some zv, 2, by')) (hz1 : zv.cells.size = 2)
    {ops : Array Oper} {rest : List Oper} {o : Oper} {a : Act} {w : World} {Q : Exit → Act → World → Prop}
    (hgd : o.guard = none) (s x : Operand) (ho : o.op = .call { callee := .builtin .append, args := #[s, x], argTypes := #[sl, sl] })
    (base n m c : Nat) (v : Value) (xs news : List Value) (ad : Addr) (hs : a.eval s = v) (hown : w.ownsRow base el 2 v n xs)
    (hx : a.eval x = .slice (some ad) m c) (hm : news.length = m * 2) (hnews : ∀ j u, news[j]? = some u → w.cell? (ad.add j) = some u) (h1 : ∀ u ∈ news, u.oneCell' = true) (hl : n + m ≤ 10000000) (hb : base ≤ w.heap.size) (hby : by' ≤ 48)
    (h : ∀ v' w', w'.ownsRow base el 2 v' (n + m) (xs ++ news) → w.grownBy w' v.ownBlock → wpList Try.prog ops Q rest (a.put o.dst v') w') : wpList Try.prog ops Q (o :: rest) a w := by
  obtain ⟨i0, hi, h0, h1', h2⟩ := info_parts hinf
  refine wpList_append_own w hgd s x sl ho base el i0 zv 2 by' hsl hi h0 h1' h2 hz1 (by decide) v n xs hs hown ad m c news hx hm hnews h1 (by unfold maxLen; omega) ?_ hb ?_
  · have : by' * (n + m) ≤ 48 * 10000000 := Nat.mul_le_mul hby hl
    rw [Nat.mul_comm]; omega
  · intro v' w' k1 k2 _
    exact h v' w' k1 k2
theorem flat2_set : ∀ (us : List (Value × Value)) (i : Nat) (u : Value × Value), flat2 (us.set i u) = ((flat2 us).set (i * 2) u.1).set (i * 2 + 1) u.2
  | [], i, u => by simp [flat2]
  | x :: us, 0, u => rfl
  | x :: us, i + 1, u => by
    have ih := flat2_set us i u
    have e1 : (i + 1) * 2 = i * 2 + 1 + 1 := by omega
    have e2 : flat2 (x :: us) = x.1 :: x.2 :: flat2 us := rfl
    rw [e1, e2]
    show x.1 :: x.2 :: flat2 (us.set i u) = _
    rw [ih]; rfl
/-- a file in the place of one -/
theorem set_mk {w W : World} {f n i g C : Nat} {s : St} {x : List UInt8 × Nat} {vF vW : Value} {us : List (Value × Value)} {u1 u2 : Value} (fb : ∀ i, F i → i < w.heap.size) (hb : RB w f s.q s.left vF vW s.dead) (hW : listIn F (wayIn F) w f vW s.ways) (hne : s.ways ≠ []) (hl : us.length = s.fs.length)
    (hw : ∀ (i : Nat) (u : Value × Value) (x : List UInt8 × Nat), us[i]? = some u → s.fs[i]? = some x → fileIn F w f u x) (hx : fileIn F w f (u1, u2) x) (k : Keep f w W) (hB : RB W f s.q s.left (.slice (some ⟨g, 0, none⟩) n C) vW s.dead)
    (row : W.ownsRow (w.heap.size + 1) 98 2 (.slice (some ⟨g, 0, none⟩) n C) n (flat2 us)) :
    Rf F ((W.setCell ⟨g, i * 2, none⟩ u1).setCell ⟨g, i * 2 + 1, none⟩ u2) f { s with fs := s.fs.set i x } ∧ Keep f w ((W.setCell ⟨g, i * 2, none⟩ u1).setCell ⟨g, i * 2 + 1, none⟩ u2) := by
  have hf : f < w.heap.size + 1 := by have := lt_of_heap hb; omega
  have hg : w.heap.size + 1 ≤ g := own_ge row g rfl
  obtain ⟨r1, g1⟩ := World.ownsRow.stored row (i * 2) u1
  obtain ⟨r2, g2⟩ := World.ownsRow.stored r1 (i * 2 + 1) u2
  rw [← flat2_set us i (u1, u2)] at r2
  have K1 : Keep f w (W.setCell ⟨g, i * 2, none⟩ u1) := ⟨g1.os.trans k.os, g1.tape.trans k.tape, g1.output.trans k.output, Nat.le_trans k.size g1.size, fun j hj hn => (g1.block j (Nat.lt_of_lt_of_le hj k.size) (by simp; omega)).trans (k.block j hj hn)⟩
  have K : Keep f w ((W.setCell ⟨g, i * 2, none⟩ u1).setCell ⟨g, i * 2 + 1, none⟩ u2) := ⟨g2.os.trans K1.os, g2.tape.trans K1.tape, g2.output.trans K1.output, Nat.le_trans K1.size g2.size, fun j hj hn => (g2.block j (Nat.lt_of_lt_of_le hj K1.size) (by simp; omega)).trans (K1.block j hj hn)⟩
  have hB1 : RB (W.setCell ⟨g, i * 2, none⟩ u1) f s.q s.left (.slice (some ⟨g, 0, none⟩) n C) vW s.dead := (g1.block f (lt_of_heap hB) (by simp; omega)).trans hB
  have hB2 : RB ((W.setCell ⟨g, i * 2, none⟩ u1).setCell ⟨g, i * 2 + 1, none⟩ u2) f s.q s.left (.slice (some ⟨g, 0, none⟩) n C) vW s.dead := (g2.block f (lt_of_heap hB1) (by simp; omega)).trans hB1
  refine ⟨⟨⟨_, vW, hB2, ⟨us.set i (u1, u2), by simp [hl], rd2_own r2 hf (fun i hi => by have := fb i hi; omega), fun j u y hu hy => ?_⟩, listIn.kept (R := wayIn F) (fun h k => wayIn.kept h k) hW K⟩, hne, fun i hi => Nat.lt_of_lt_of_le (fb i hi) K.size⟩, K⟩
  simp only at hy
  rw [List.getElem?_set] at hu hy
  by_cases hij : i = j
  · rw [if_pos hij] at hu hy
    split at hu <;> simp at hu
    split at hy <;> simp at hy
    subst hu hy
    exact hx.kept K
  · rw [if_neg hij] at hu hy
    exact (hw j u y hu hy).kept K
set_option maxHeartbeats 4000000 in
set_option maxRecDepth 1000000 in
theorem set_any (f i : Nat) (s : St) (x : List UInt8 × Nat) (u1 u2 : Value) (w : World) (h : Rf F w f s) (hx : fileIn F w f (u1, u2) x) (hi : i < s.fs.length) (hb : s.fs.length ≤ 9000000) :
    Calls Try.prog 60 #[.pointer (some ⟨f, 0, none⟩), .int .i64 (i : Int), .agg #[u1, u2]] w fun e w' => e = .returned (.tuple #[]) ∧ Rf F w' f { s with fs := s.fs.set i x } ∧ Keep f w w' := by
  obtain ⟨vF, vW, h1, ⟨us, hl, ⟨p, c, rfl, _, _, _, hc⟩, hw⟩, hW⟩ := h.fs
  have hne : us ≠ [] := fun e => by rw [e] at hl; simp at hl; omega
  rcases hc with hc | ⟨g, o, rfl, hgf, hc⟩
  · exact absurd hc hne
  obtain ⟨e1, e2⟩ := hx
  simp only at e1
  subst e1
  have hx : fileIn F w f (u1, intV x.2) x := ⟨rfl, e2⟩
  obtain ⟨pB, cB, e3⟩ := rd1_one e2
  simp only at e3
  obtain ⟨n1, hn1⟩ : ∃ n, n = (by8 x.1).length := ⟨_, rfl⟩
  rw [← hn1] at e3
  subst e3
  unfold intV
  obtain ⟨w0, hw0⟩ : ∃ y, y = w.alloc (.cells #[(.slice pB n1 cB), (.int .i64 (x.2 : Int))] 98) := ⟨_, rfl⟩
  have k0 : Keep f w w0 := by rw [hw0]; exact Keep.alloc _
  have hB0 : w0.heap[w.heap.size]? = some (.cells #[(.slice pB n1 cB), (.int .i64 (x.2 : Int))] 98 (0, 0)) := by rw [hw0]; exact heap_alloc_new _ _
  have sz0 : w0.heap.size = w.heap.size + 1 := by rw [hw0]; simp
  have bl0 : ∀ i, i < w.heap.size → w0.heap[i]? = w.heap[i]? := fun i hi => by rw [hw0]; exact Below.heap_alloc _ _ i hi
  have hfs := lt_of_heap h1
  have hF0 : RB w0 f s.q s.left (.slice (some ⟨g, o, none⟩) us.length c) vW s.dead := (bl0 f hfs).trans h1
  obtain ⟨w1, hw1⟩ : ∃ y, y = w0.alloc (.cells #[] 98) := ⟨_, rfl⟩
  have g1 : w0.grownBy w1 none := by rw [hw1]; exact World.grownBy_alloc _ _ _
  have k1 : Keep f w w1 := k0.trans (Keep.grown g1)
  have hE : w1.ownsRow (w.heap.size + 1) 98 2 (.slice (some ⟨w.heap.size + 1, 0, none⟩) 0 0) 0 [] := by
    have : w1.heap[w.heap.size + 1]? = some (.cells #[] 98 (0, 0)) := by rw [hw1, ← sz0]; exact heap_alloc_new _ _
    exact ⟨rfl, Or.inr ⟨_, 0, #[], rfl, Nat.le_refl _, this, Nat.le_refl _, by unfold maxLen; omega, rfl, rfl⟩⟩
  have hF1 : RB w1 f s.q s.left (.slice (some ⟨g, o, none⟩) us.length c) vW s.dead := (g1.block f (by omega) (by simp)).trans hF0
  obtain ⟨_, c1, _, _, _, _⟩ := RB.c hF1
  have s1 : w.heap.size + 2 ≤ w1.heap.size := by rw [hw1]; simp; omega
  have hB1 : w1.heap[w.heap.size]? = some (.cells #[(.slice pB n1 cB), (.int .i64 (x.2 : Int))] 98 (0, 0)) := (g1.block _ (by omega) (by simp)).trans hB0
  have HO : Hid (∀ u ∈ flat2 us, u.oneCell' = true) := by
    intro u hu
    obtain ⟨q, hq, hu⟩ := List.mem_flatMap.1 hu
    obtain ⟨i, hi, rfl⟩ := List.getElem_of_mem hq
    have hwi := hw i _ _ (List.getElem?_eq_getElem hi) (List.getElem?_eq_getElem (by omega))
    simp at hu
    rcases hu with rfl | rfl
    · exact rd1_cell hwi.2
    · rw [hwi.1]; rfl
  have HC : Hid (∀ j y, (flat2 us)[j]? = some y → w1.cell? ((⟨g, o, none⟩ : Addr).add j) = some y) := flat2_in (fun i u hu => ⟨k1.cell hgf (hc i u hu).1, k1.cell hgf (hc i u hu).2⟩)
  have HL : Hid ((flat2 us).length = us.length * 2) := flat2_len us
  have hiu : i < us.length := by omega
  have hM : us.length ≤ 9000000 := by omega
  -- behind the append
  have A : Hid (∀ v' W, W.ownsRow (w.heap.size + 1) 98 2 v' (0 + us.length) ([] ++ flat2 us) → w1.grownBy W (some (w.heap.size + 1)) → ∃ g2 C2, v' = .slice (some ⟨g2, 0, none⟩) us.length C2 ∧ W.cell? ⟨f, 1, none⟩ = some (.slice (some ⟨g, o, none⟩) us.length c) ∧ W.frozen? ⟨f, 1, none⟩ = false ∧
      (∀ W', W' = W.setCell ⟨f, 1, none⟩ v' → W'.cell? ⟨f, 1, none⟩ = some v' ∧ W'.cell? ⟨w.heap.size, 0, none⟩ = some (.slice pB n1 cB) ∧ W'.cell? ⟨w.heap.size, 1, none⟩ = some ((.int .i64 (x.2 : Int))) ∧ Hid ((∃ a, W'.drew.cell? ⟨g2, i * 2, none⟩ = some a ∧ W'.drew.frozen? ⟨g2, i * 2, none⟩ = false ∧ ∃ b, W'.drew.cell? ⟨g2, i * 2 + 1, none⟩ = some b ∧ W'.drew.frozen? ⟨g2, i * 2 + 1, none⟩ = false) ∧
        w.heap.size + 1 ≤ g2 ∧ Rf F ((W'.drew.setCell ⟨g2, i * 2, none⟩ (.slice pB n1 cB)).setCell ⟨g2, i * 2 + 1, none⟩ ((.int .i64 (x.2 : Int)))) f { s with fs := s.fs.set i x } ∧ Keep f w ((W'.drew.setCell ⟨g2, i * 2, none⟩ (.slice pB n1 cB)).setCell ⟨g2, i * 2 + 1, none⟩ ((.int .i64 (x.2 : Int))))))) := by
    intro v' W hr hg
    rw [Nat.zero_add, List.nil_append] at hr
    have hr2 := hr
    rcases hr.2 with ⟨_, h0⟩ | ⟨g2, C2, cur, rfl, hgb, hcur, hn, hm, hs, ht⟩
    · omega
    have hFW : RB W f s.q s.left (.slice (some ⟨g, o, none⟩) us.length c) vW s.dead := (hg.block f (by omega) (by simp; omega)).trans hF1
    obtain ⟨_, d1, _, _, _, fr⟩ := RB.c hFW
    refine ⟨g2, C2, rfl, d1, fr 1, ?_⟩
    rintro W' rfl
    have hFW2 := (hFW.set).2.2.1 (.slice (some ⟨g2, 0, none⟩) us.length C2)
    obtain ⟨_, z1, _, _, _, _⟩ := RB.c hFW2
    have hBW : (W.setCell ⟨f, 1, none⟩ (.slice (some ⟨g2, 0, none⟩) us.length C2)).heap[w.heap.size]? = some (.cells #[(.slice pB n1 cB), (.int .i64 (x.2 : Int))] 98 (0, 0)) := (heap_setCell_other W ⟨f, 1, none⟩ w.heap.size _ (by simp; omega)).trans ((hg.block _ (by omega) (by simp)).trans hB1)
    have row := row_set (i := 1) (x := .slice (some ⟨g2, 0, none⟩) us.length C2) hr2 (show f < w.heap.size + 1 by omega)
    have kW : Keep f w (W.setCell ⟨f, 1, none⟩ (.slice (some ⟨g2, 0, none⟩) us.length C2)) := Keep.trans (b := W) ⟨hg.os.trans k1.os, hg.tape.trans k1.tape, hg.output.trans k1.output, Nat.le_trans k1.size hg.size, fun j hj hn => (hg.block j (Nat.lt_of_lt_of_le hj k1.size) (by simp; omega)).trans (k1.block j hj hn)⟩ (Keep.set W f 1 _)
    obtain ⟨a1, a2⟩ := flat2_get us i _ (List.getElem?_eq_getElem hiu)
    have q1 := (World.ownsRow.cellAt row (i * 2) (by omega)).trans a1
    have q2 := (World.ownsRow.cellAt row (i * 2 + 1) (by omega)).trans a2
    have hcu2 : (W.setCell ⟨f, 1, none⟩ (.slice (some ⟨g2, 0, none⟩) us.length C2)).heap[g2]? = some (.cells cur 98 (0, 0)) := (heap_setCell_other W ⟨f, 1, none⟩ g2 _ (by simp; omega)).trans hcur
    exact ⟨z1, (Joins.cell_of_block hBW 0).trans rfl, (Joins.cell_of_block hBW 1).trans rfl, ⟨_, q1, Joins.unfrozen_of_block hcu2 _, _, q2, Joins.unfrozen_of_block hcu2 _⟩, hgb,
      set_mk (W := (W.setCell ⟨f, 1, none⟩ (.slice (some ⟨g2, 0, none⟩) us.length C2)).drew) h.fb h1 hW h.ne hl hw hx (kW.trans (Keep.grown ⟨rfl, rfl, rfl, Nat.le_refl _, fun _ _ _ => rfl⟩)) hFW2 row⟩
  have u2 : (i : Int) < (us.length : Int) := by omega
  have sz1 := sz0
  generalize us.length = M at *
  clear hF0 hB0 bl0 k0 k1 g1 hF1 hB1 h hx hw hc hW h1 hl hb hne hgf e2 hn1 hi
  subst hw1
  subst hw0
  have sz9 := mkHid sz0
  have hE9 := mkHid hE
  have s9 := mkHid s1
  clear sz0 sz1 hE s1
  go_enter Try.func60, Try.ntmps60
  go_wp2_with (at_builtin; refine app_two 73 98 (.agg #[.slice none 0 0, .int .i64 0]) 32 fiSlice fiInfo rfl rfl (.tmp 7) (.tmp 11) rfl (w.heap.size + 1) 0 M c (.slice (some ⟨w.heap.size + 1, 0, none⟩) 0 0) [] (flat2 us) ⟨g, o, none⟩ rfl hE9.out rfl HL.out HC.out HO.out (by omega) (by have := s9.out; omega) (by decide) ?_; intro v3 w3 ho3 hg3; obtain ⟨g2, C2, hv3, d1, fr1, Y⟩ := A.out v3 w3 ho3 hg3; subst hv3)
  obtain ⟨y1, y2, y3, Z⟩ := Y _ rfl
  generalize w3.setCell ⟨f, 1, none⟩ (.slice (some ⟨g2, 0, none⟩) M C2) = w4 at *
  clear Y A ho3 hg3 d1 fr1
  refine wp_region_noPanic ?_
  refine wp_region_G (S := SG 7 7 (fun w' => w'.cell? ⟨f, 1, none⟩ = some (.slice (some ⟨g2, 0, none⟩) M C2)) (fun _ => True) (fun w' => w'.cell? ⟨w.heap.size, 0, none⟩ = some (.slice pB n1 cB) ∧ w'.cell? ⟨w.heap.size, 1, none⟩ = some ((.int .i64 (x.2 : Int))))) (by kernel_rfl) ⟨fun _ => y1, fun _ => trivial, y2, y3⟩ (fun hH => ?_)
  obtain ⟨wx, hwx⟩ : ∃ x, x = w4.drew := ⟨_, rfl⟩
  rw [← hwx] at hH Z ⊢
  clear hwx
  simp only [Array.replicate, List.size_toArray, List.length_cons, List.length_nil, List.replicate, Nat.zero_add, Nat.reduceAdd] at hH ⊢
  refine takeG (i := 0) (v := .pointer (some ⟨f, 0, none⟩)) [] rfl rfl (by kernel_rfl) (by kernel_rfl) (by kernel_rfl) (by kernel_rfl) (by kernel_rfl) (SG_set (by decide) (by decide)) (fun _ _ _ h => h) (Or.inl ⟨by rfl, ?_⟩) hH (fun hH => ?_)
  · intro w5 hSw; go_simp
  simp only [zA9, zB9, zC9] at hH ⊢
  refine takeG (i := 1) (v := .pointer (some ⟨f, 0, none⟩)) [] rfl rfl (by kernel_rfl) (by kernel_rfl) (by kernel_rfl) (by kernel_rfl) (by kernel_rfl) (SG_set (by decide) (by decide)) (fun _ _ _ h => h) (Or.inl ⟨by rfl, ?_⟩) hH (fun hH => ?_)
  · intro w5 hSw; go_simp
  simp only [zA9, zB9, zC9] at hH ⊢
  refine takeG (i := 2) (v := .pointer (some ⟨f, 1, none⟩)) [] rfl rfl (by kernel_rfl) (by kernel_rfl) (by kernel_rfl) (by kernel_rfl) (by kernel_rfl) (SG_set (by decide) (by decide)) (fun _ _ _ h => h) (Or.inl ⟨by rfl, ?_⟩) hH (fun hH => ?_)
  · intro w5 hSw; go_simp
  simp only [zA9, zB9, zC9] at hH ⊢
  refine takeG (i := 3) (v := .slice (some ⟨g2, 0, none⟩) M C2) [7] rfl rfl (by kernel_rfl) (by kernel_rfl) (by kernel_rfl) (by kernel_rfl) (by kernel_rfl) (SG_set (by decide) (by decide)) (fun _ _ _ h => h) (Or.inl ⟨by rfl, ?_⟩) hH (fun hH => ?_)
  · intro w5 hSw; obtain ⟨L5, hU5, hA5, _⟩ := hSw; have a5 := hA5 (hU5 _ (by simp)); go_simp
  simp only [zA9, zB9, zC9] at hH ⊢
  refine takeG (i := 4) (v := .int .i64 (i : Nat)) [] rfl rfl (by kernel_rfl) (by kernel_rfl) (by kernel_rfl) (by kernel_rfl) (by kernel_rfl) (SG_set (by decide) (by decide)) (fun _ _ _ h => h) (Or.inl ⟨by rfl, ?_⟩) hH (fun hH => ?_)
  · intro w5 hSw; go_simp
  simp only [zA9, zB9, zC9] at hH ⊢
  refine takeG (i := 5) (v := .agg #[(.slice pB n1 cB), (.int .i64 (x.2 : Int))]) [] rfl rfl (by kernel_rfl) (by kernel_rfl) (by kernel_rfl) (by kernel_rfl) (by kernel_rfl) (SG_set (by decide) (by decide)) (fun _ _ _ h => h) (Or.inl ⟨by rfl, ?_⟩) hH (fun hH => ?_)
  · intro w5 hSw; obtain ⟨L5, hU5, hA5, _, e1, e2⟩ := hSw; go_simp
  simp only [zA9, zB9, zC9] at hH ⊢
  refine takeG (i := 6) (v := .pointer (some ⟨g2, i * 2, none⟩)) [] rfl rfl (by kernel_rfl) (by kernel_rfl) (by kernel_rfl) (by kernel_rfl) (by kernel_rfl) (SG_set (by decide) (by decide)) (fun _ _ _ h => h) (Or.inl ⟨by rfl, ?_⟩) hH (fun hH => ?_)
  · intro w5 hSw; go_simp
  simp only [zA9, zB9, zC9] at hH ⊢
  refine wpAnyG_ready (rs := [7]) (by kernel_rfl) (by simp) ?_
  refine AllReadyG.cons rfl (fun K hK => ?_) AllReadyG.nil
  obtain ⟨⟨a0, t0, t1, b0, t2, t3⟩, hg2, FIN⟩ := Z.out
  obtain ⟨_, _, e1, e2⟩ := hH
  go_simp
  refine hK.out _ _ ⟨fun h => by simp at h, fun _ => trivial, ?_⟩ (fun hH => ?_)
  · exact ⟨cell_setH (by omega) (cell_setH (by omega) e1), cell_setH (by omega) (cell_setH (by omega) e2)⟩
  refine wpAnyG_done (by kernel_rfl) ?_ _
  refine NoPanic.normal ?_
  clear hK hH
  go_wp2_with fail
  go_end0
  exact ⟨rfl, FIN⟩
end Go.Proofs.Ytdiehlioemmakaa

namespace Go.Proofs.Ytdiehlioemmakaa
open Go.RowKit
variable {F : Nat → Prop}

/-- names stand for files that are there -/
def StOk (s : St) : Prop := ∀ p ∈ s.now, p.2 < s.fs.length
theorem fnd_mem (n : List UInt8) : ∀ l : Ws, 0 ≤ fnd n l → ∃ p ∈ l, fnd n l = (p.2 : Int)
  | [], h => by simp [fnd] at h
  | p :: r, h => by
    unfold fnd at h ⊢
    by_cases e : p.1 = n
    · rw [if_pos e]; exact ⟨p, by simp, rfl⟩
    · rw [if_neg e] at h ⊢
      obtain ⟨q, hq, e2⟩ := fnd_mem n r h
      exact ⟨q, by simp [hq], e2⟩
theorem file_at {w : World} {f : Nat} {s : St} (h : Rf F w f s) {i : Nat} {x : List UInt8 × Nat} (hx : s.fs[i]? = some x) : ∃ g o c vW pB cB, RB w f s.q s.left (.slice (some ⟨g, o, none⟩) s.fs.length c) vW s.dead ∧ w.cell? ⟨g, o + i * 2, none⟩ = some (.slice pB x.1.length cB) ∧ w.cell? ⟨g, o + i * 2 + 1, none⟩ = some (.int .i64 (x.2 : Int)) ∧ rd1 F w f (.slice pB x.1.length cB) (by8 x.1) := by
  obtain ⟨vF, vW, h1, ⟨us, hl, ⟨p, c, rfl, _, _, _, hc⟩, hw⟩, hW⟩ := h.fs
  have hi := (List.getElem?_eq_some_iff.1 hx).1
  rcases hc with hc | ⟨g, o, rfl, hgf, hc⟩
  · rw [hc] at hl; simp at hl; omega
  obtain ⟨u, hu⟩ : ∃ u, us[i]? = some u := ⟨us[i]'(by omega), List.getElem?_eq_getElem _⟩
  obtain ⟨k1, k2⟩ := hc i u hu
  obtain ⟨e1, e2⟩ := hw i u x hu hx
  obtain ⟨pB, cB, e3⟩ := rd1_one e2
  have e4 : (by8 x.1).length = x.1.length := by simp [by8]
  rw [e4] at e3
  rw [hl] at h1
  rw [e3] at k1 e2
  rw [e1] at k2
  exact ⟨g, o, c, vW, pB, cB, h1, k1, k2, e2⟩
/-- the file of a name that is there -/
theorem at_file {s : St} {n : List UInt8} (hok : StOk s) (h : atE n s.now = 0) : ∃ (i : Nat) (x : List UInt8 × Nat), atI n s.now = (i : Int) ∧ s.fs[i]? = some x ∧ fnd n s.now = (i : Int) := by
  rcases at_cases n s.now with h1 | h1 | ⟨_, _, h2, h3⟩
  · rw [h1] at h; simp at h
  · rw [h1] at h; simp at h
  · obtain ⟨p, hp, e⟩ := fnd_mem n s.now h2
    have hl := hok p hp
    exact ⟨p.2, s.fs[p.2], by rw [h3, e], List.getElem?_eq_getElem hl, e⟩
theorem at_err {n : List UInt8} {l : Ws} (h : atE n l ≠ 0) : (atE n l = 6 ∨ atE n l = 40) := by
  rcases at_cases n l with h1 | h1 | ⟨h1, _⟩
  · exact Or.inl h1
  · exact Or.inr h1
  · exact absurd h1 h
def getF (s : St) (n : List UInt8) : List UInt8 × Nat := s.fs.getD (fnd n s.now).toNat ([], 0)
set_option maxHeartbeats 4000000 in
set_option maxRecDepth 1000000 in
theorem refFast_err (f : Nat) (s : St) (n : List UInt8) (w : World) (h : Rf F w f s) (hb : s.ways.length ≤ 9000000) (hn : s.now.length ≤ 4000000) (hok : atE n s.now ≠ 0) :
    Calls Try.prog 47 #[.pointer (some ⟨f, 0, none⟩), .string ⟨n.toArray⟩] w fun e w' => e = .returned (.tuple #[.int .i64 0, .int .i64 (atE n s.now)]) ∧ w.grownBy w' none := by
  have AT := at_any f s n w h hb (by omega)
  rcases at_err hok with hE | hE
  · rw [hE] at AT ⊢
    generalize atI n s.now = I at *
    have AT2 := mkHid AT
    clear AT hE
    have H := mkHid h
    clear h hb hn hok
    go_enter Try.func47, Try.ntmps47
    go_wp2_with fail
    refine AT2.out.mono ?_
    rintro e w1 ⟨rfl, g1⟩
    go_wp2_with fail
    go_ret2
    exact ⟨rfl, g1⟩
  · rw [hE] at AT ⊢
    generalize atI n s.now = I at *
    have AT2 := mkHid AT
    clear AT hE
    have H := mkHid h
    clear h hb hn hok
    go_enter Try.func47, Try.ntmps47
    go_wp2_with fail
    refine AT2.out.mono ?_
    rintro e w1 ⟨rfl, g1⟩
    go_wp2_with fail
    go_ret2
    exact ⟨rfl, g1⟩
set_option maxHeartbeats 4000000 in
set_option maxRecDepth 1000000 in
theorem refFast_ok (f : Nat) (s : St) (n : List UInt8) (w : World) (h : Rf F w f s) (hb : s.ways.length ≤ 9000000) (hn : s.now.length ≤ 4000000) (hm : s.fs.length ≤ 9000000) (hok : StOk s) (h0 : atE n s.now = 0) :
    Calls Try.prog 47 #[.pointer (some ⟨f, 0, none⟩), .string ⟨n.toArray⟩] w fun e w' => e = .returned (.tuple #[.int .i64 ((getF s n).2 : Int), .int .i64 0]) ∧ w.grownBy w' none := by
  have AT := at_any f s n w h hb (by omega)
  obtain ⟨i, x, hI, hx, hF⟩ := at_file hok h0
  have hgx : getF s n = x := by unfold getF; rw [hF, List.getD_eq_getElem?_getD, Int.toNat_natCast, hx]; rfl
  rw [hgx]
  rw [h0, hI] at AT
  have AT2 := mkHid AT
  have hiu := (List.getElem?_eq_some_iff.1 hx).1
  have C : Hid (∀ w1, w.grownBy w1 none → ∃ g o c vW pB cB, RB w1 f s.q s.left (.slice (some ⟨g, o, none⟩) s.fs.length c) vW s.dead ∧ w1.cell? ⟨g, o + i * 2, none⟩ = some (.slice pB x.1.length cB) ∧ w1.cell? ⟨g, o + i * 2 + 1, none⟩ = some (.int .i64 (x.2 : Int)) ∧ rd1 F w1 f (.slice pB x.1.length cB) (by8 x.1)) := fun w1 g1 => file_at (h.grown g1) hx
  have u2 : (i : Int) < (s.fs.length : Int) := by omega
  have u3 : (s.fs.length : Int) ≤ 9000000 := by omega
  generalize s.fs.length = M at *
  clear AT h hb hn hm hok h0 hI hx hF hgx
  go_enter Try.func47, Try.ntmps47
  go_wp2_with fail
  refine AT2.out.mono ?_
  rintro e w1 ⟨rfl, g1⟩
  obtain ⟨g, o, c, vW, pB, cB, hR, y1, y2, _⟩ := C.out w1 g1
  obtain ⟨_, z1, _, _, _, _⟩ := RB.c hR
  clear hR C
  go_wp2_with fail
  go_ret2
  exact ⟨rfl, g1⟩
set_option maxHeartbeats 4000000 in
set_option maxRecDepth 1000000 in
theorem refRead_err (f : Nat) (s : St) (n : List UInt8) (w : World) (h : Rf F w f s) (hb : s.ways.length ≤ 9000000) (hn : s.now.length ≤ 4000000) (hok : atE n s.now ≠ 0) :
    Calls Try.prog 44 #[.pointer (some ⟨f, 0, none⟩), .string ⟨n.toArray⟩] w fun e w' => e = .returned (.tuple #[.slice none 0 0, .int .i64 (atE n s.now)]) ∧ w.grownBy w' none := by
  have AT := at_any f s n w h hb (by omega)
  rcases at_err hok with hE | hE
  · rw [hE] at AT ⊢
    generalize atI n s.now = I at *
    have AT2 := mkHid AT
    clear AT hE
    have H := mkHid h
    clear h hb hn hok
    go_enter Try.func44, Try.ntmps44
    go_wp2_with fail
    refine AT2.out.mono ?_
    rintro e w1 ⟨rfl, g1⟩
    go_wp2_with fail
    go_ret2
    exact ⟨rfl, g1⟩
  · rw [hE] at AT ⊢
    generalize atI n s.now = I at *
    have AT2 := mkHid AT
    clear AT hE
    have H := mkHid h
    clear h hb hn hok
    go_enter Try.func44, Try.ntmps44
    go_wp2_with fail
    refine AT2.out.mono ?_
    rintro e w1 ⟨rfl, g1⟩
    go_wp2_with fail
    go_ret2
    exact ⟨rfl, g1⟩
set_option maxHeartbeats 4000000 in
set_option maxRecDepth 1000000 in
theorem refRead_ok (f : Nat) (s : St) (n : List UInt8) (w : World) (h : Rf F w f s) (hb : s.ways.length ≤ 9000000) (hn : s.now.length ≤ 4000000) (hm : s.fs.length ≤ 9000000) (hok : StOk s) (h0 : atE n s.now = 0) :
    Calls Try.prog 44 #[.pointer (some ⟨f, 0, none⟩), .string ⟨n.toArray⟩] w fun e w' => (∃ v, e = .returned (.tuple #[v, .int .i64 0]) ∧ rd1 F w' f v (by8 (getF s n).1)) ∧ w.grownBy w' none := by
  have AT := at_any f s n w h hb (by omega)
  obtain ⟨i, x, hI, hx, hF⟩ := at_file hok h0
  have hgx : getF s n = x := by unfold getF; rw [hF, List.getD_eq_getElem?_getD, Int.toNat_natCast, hx]; rfl
  rw [hgx]
  rw [h0, hI] at AT
  have AT2 := mkHid AT
  have hiu := (List.getElem?_eq_some_iff.1 hx).1
  have C : Hid (∀ w1, w.grownBy w1 none → ∃ g o c vW pB cB, RB w1 f s.q s.left (.slice (some ⟨g, o, none⟩) s.fs.length c) vW s.dead ∧ w1.cell? ⟨g, o + i * 2, none⟩ = some (.slice pB x.1.length cB) ∧ w1.cell? ⟨g, o + i * 2 + 1, none⟩ = some (.int .i64 (x.2 : Int)) ∧ rd1 F w1 f (.slice pB x.1.length cB) (by8 x.1)) := fun w1 g1 => file_at (h.grown g1) hx
  have u2 : (i : Int) < (s.fs.length : Int) := by omega
  have u3 : (s.fs.length : Int) ≤ 9000000 := by omega
  generalize s.fs.length = M at *
  clear AT h hb hn hm hok h0 hI hx hF hgx
  go_enter Try.func44, Try.ntmps44
  go_wp2_with fail
  refine AT2.out.mono ?_
  rintro e w1 ⟨rfl, g1⟩
  obtain ⟨g, o, c, vW, pB, cB, hR, y1, y2, hr⟩ := C.out w1 g1
  obtain ⟨_, z1, _, _, _, _⟩ := RB.c hR
  have HR := mkHid hr
  clear hR C hr
  go_wp2_with fail
  go_ret2
  exact ⟨⟨_, rfl, HR.out⟩, g1⟩
def snE (n : List UInt8) (s : St) : Int := if atE n s.now ≠ 0 then atE n s.now else if (stp s).2 = true then 44 else 0
def snS (n : List UInt8) (s : St) : St := if atE n s.now ≠ 0 then s else if (stp s).2 = true then (stp s).1 else { (stp s).1 with fs := (stp s).1.fs.set (fnd n s.now).toNat ((getF s n).1, (getF s n).1.length) }
set_option maxHeartbeats 4000000 in
set_option maxRecDepth 1000000 in
theorem refSync_any (f : Nat) (s : St) (n : List UInt8) (w : World) (h : Rf F w f s) (hl : -9223372036854775808 ≤ s.left ∧ s.left ≤ 9223372036854775807) (hb : s.ways.length ≤ 9000000) (hn : s.now.length ≤ 4000000) (hm : s.fs.length ≤ 9000000) (hok : StOk s) :
    Calls Try.prog 40 #[.pointer (some ⟨f, 0, none⟩), .string ⟨n.toArray⟩] w fun e w' => e = .returned (.int .i64 (snE n s)) ∧ Rf F w' f (snS n s) ∧ Keep f w w' := by
  by_cases h0 : atE n s.now = 0
  case neg =>
    have r1 : snE n s = atE n s.now := by unfold snE; rw [if_pos h0]
    have r2 : snS n s = s := by unfold snS; rw [if_pos h0]
    rw [r1, r2]
    clear r1 r2
    have AT := at_any f s n w h hb (by omega)
    rcases at_err h0 with hE | hE
    · rw [hE] at AT ⊢
      generalize atI n s.now = I at *
      have AT2 := mkHid AT
      clear AT hE
      have H := mkHid h
      clear h hb hn hok h0 hl hm
      go_enter Try.func40, Try.ntmps40
      go_wp2_with fail
      refine AT2.out.mono ?_
      rintro e w1 ⟨rfl, g1⟩
      go_wp2_with fail
      go_ret
      exact ⟨rfl, H.out.grown g1, Keep.grown g1⟩
    · rw [hE] at AT ⊢
      generalize atI n s.now = I at *
      have AT2 := mkHid AT
      clear AT hE
      have H := mkHid h
      clear h hb hn hok h0 hl hm
      go_enter Try.func40, Try.ntmps40
      go_wp2_with fail
      refine AT2.out.mono ?_
      rintro e w1 ⟨rfl, g1⟩
      go_wp2_with fail
      go_ret
      exact ⟨rfl, H.out.grown g1, Keep.grown g1⟩
  have AT := at_any f s n w h hb (by omega)
  obtain ⟨i, x, hI, hx, hF⟩ := at_file hok h0
  have hgx : getF s n = x := by unfold getF; rw [hF, List.getD_eq_getElem?_getD, Int.toNat_natCast, hx]; rfl
  rw [h0, hI] at AT
  have AT2 := mkHid AT
  have hiu := (List.getElem?_eq_some_iff.1 hx).1
  have hS : Hid (∀ w1, w.grownBy w1 none → Calls Try.prog 67 #[.pointer (some ⟨f, 0, none⟩)] w1 fun e w' => e = .returned (.bool (stp s).2) ∧ Rf F w' f (stp s).1 ∧ Keep f w1 w') := fun w1 g => stops_rf (h.grown g) hl
  cases hd : (stp s).2 with
  | true =>
    rw [hd] at hS
    have r1 : snE n s = 44 := by unfold snE; simp [h0, hd]
    have r2 : snS n s = (stp s).1 := by unfold snS; simp [h0, hd]
    rw [r1, r2]
    clear AT h hl hb hn hm hok h0 hI hx hF hgx hd r1 r2
    go_enter Try.func40, Try.ntmps40
    go_wp2_with fail
    refine AT2.out.mono ?_
    rintro e w1 ⟨rfl, g1⟩
    go_wp2_with fail
    refine (hS.out _ g1).mono ?_
    rintro e w2 ⟨rfl, R2, k2⟩
    go_wp2_with fail
    go_ret
    exact ⟨rfl, R2, (Keep.grown g1).trans k2⟩
  | false =>
    rw [hd] at hS
    have r1 : snE n s = 0 := by unfold snE; simp [h0, hd]
    have r2 : snS n s = { (stp s).1 with fs := (stp s).1.fs.set i (x.1, x.1.length) } := by unfold snS; simp [h0, hd, hgx, hF]
    rw [r1, r2]
    have hx2 : (stp s).1.fs[i]? = some x := by rw [(stp_ways s).2.1]; exact hx
    have hm2 : (stp s).1.fs.length ≤ 9000000 := by rw [(stp_ways s).2.1]; exact hm
    have hi2 : i < (stp s).1.fs.length := by rw [(stp_ways s).2.1]; exact hiu
    generalize (stp s).1 = s' at *
    have u2 : (i : Int) < (s'.fs.length : Int) := by omega
    have u3 : (s'.fs.length : Int) ≤ 9000000 := by omega
    have HX := mkHid hx2
    have HM := mkHid hm2
    have HI := mkHid hi2
    clear AT h hl hb hn hm hok h0 hI hx hF hgx hd r1 r2 hx2 hiu hm2 hi2
    go_enter Try.func40, Try.ntmps40
    go_wp2_with fail
    refine AT2.out.mono ?_
    rintro e w1 ⟨rfl, g1⟩
    go_wp2_with fail
    refine (hS.out _ g1).mono ?_
    rintro e w2 ⟨rfl, R2, k2⟩
    obtain ⟨g, o, c, vW, pB, cB, hR, y1, y2, hr⟩ := file_at R2 HX.out
    obtain ⟨_, z1, _, _, _, _⟩ := RB.c hR
    obtain ⟨x1, x2⟩ := x
    obtain ⟨L, hL⟩ : ∃ L, L = x1.length := ⟨_, rfl⟩
    have hLb : (L : Int) ≤ 9223372036854775807 := by
      obtain ⟨p, c, e, q1, q2, _⟩ := hr
      have e4 : (by8 x1).length = x1.length := by simp [by8]
      rw [e4] at q1
      omega
    have hw3 : Hid (∀ W, w2.grownBy W none → Rf F W f s' ∧ fileIn F W f (.slice pB L cB, .int .i64 (L : Int)) (x1, x1.length)) := fun W g => ⟨R2.grown g, by rw [hL]; exact ⟨rfl, hr.kept (Keep.grown g)⟩⟩
    have K2 := mkHid k2
    simp only at y1 y2
    rw [← hL] at y1
    have g2 := World.grownBy_alloc w2 (.cells #[.slice none 0 0, .int .i64 0] 98) none
    clear hR hr k2 R2 hL g2
    have CALL : Hid (∀ W, w2.grownBy W none → Calls Try.prog 60 #[.pointer (some ⟨f, 0, none⟩), .int .i64 (i : Int), .agg #[.slice pB L cB, .int .i64 (L : Int)]] W fun e w' => e = .returned (.tuple #[]) ∧ Rf F w' f { s' with fs := s'.fs.set i (x1, x1.length) } ∧ Keep f W w') := fun W g => set_any f i s' _ _ _ W (hw3.out W g).1 (hw3.out W g).2 HI.out HM.out
    have GR : Hid (∀ v, w2.grownBy (w2.alloc (.cells v 98)) none) := fun v => World.grownBy_alloc _ _ _
    go_wp2_with fail
    refine (CALL.out _ (GR.out _)).mono ?_
    rintro e w5 ⟨rfl, R5, k5⟩
    have R5' := mkHid R5
    clear R5
    go_wp2_with fail
    go_ret
    exact ⟨rfl, R5'.out, (((Keep.grown g1).trans K2.out).trans (Keep.grown (GR.out _))).trans k5⟩
end Go.Proofs.Ytdiehlioemmakaa

