/-
  The walks of lockstepref04's now and find on the document's disk, and of at.
-/
import Derived.Test.YtdiehlioemmakaaUE
namespace Go.Proofs.Ytdiehlioemmakaa
open Go.RowKit
variable {F : Nat → Prop}

set_option maxHeartbeats 2000000 in
set_option maxRecDepth 1000000 in
theorem find_nil (p1 p2 : Option Addr) (c1 c2 : Nat) (s : List UInt8) (w : World) :
    Calls Try.prog 66 #[.agg #[.slice p1 0 c1, .slice p2 0 c2], .string ⟨s.toArray⟩] w fun e w' => e = .returned (.int .i64 (fnd s [])) ∧ w.grownBy w' none := by
  have hg := World.grownBy_alloc w (.cells #[.slice p1 0 c1, .slice p2 0 c2] 95) none
  have hB : (w.alloc (.cells #[.slice p1 0 c1, .slice p2 0 c2] 95)).heap[w.heap.size]? = some (.cells #[.slice p1 0 c1, .slice p2 0 c2] 95 (0, 0)) := heap_alloc_new _ _
  have x0 := (Joins.cell_of_block hB 0).trans rfl
  have x1 := (Joins.cell_of_block hB 1).trans rfl
  show Calls _ _ _ _ fun e w' => e = .returned (.int .i64 (-1)) ∧ _
  go_enter Try.func66, Try.ntmps66
  go_wp2_with fail
  generalize w.alloc (.cells #[.slice p1 0 c1, .slice p2 0 c2] 95) = w2 at *
  go_loopw [5] (fun s5 wr => s5 = .int .i64 0 ∧ wr = w2) (fun _ _ => 0)
  case atStart => exact ⟨rfl, rfl⟩
  case round =>
    obtain ⟨rfl, rfl⟩ := hrel
    go_wp2_with fail
    go_ret
    exact ⟨rfl, hg⟩
/-- a way's two slices, and how it is looked through -/
theorem find_way {w : World} {f : Nat} {u : Value × Value} {l : Ws} (h : wayIn F w f u l) (hb : l.length ≤ 9000000) : ∃ pN cN pI cI, u = (.slice pN l.length cN, .slice pI l.length cI) ∧ ∀ (s : List UInt8) (w' : World), w.grownBy w' none → Calls Try.prog 66 #[.agg #[.slice pN l.length cN, .slice pI l.length cI], .string ⟨s.toArray⟩] w' fun e w'' => e = .returned (.int .i64 (fnd s l)) ∧ w'.grownBy w'' none := by
  obtain ⟨⟨pN, cN, e1, _, _, _, h1⟩, ⟨pI, cI, e2, _, _, _, h2⟩⟩ := h
  rw [List.length_map] at e1 e2
  refine ⟨pN, cN, pI, cI, by rw [← e1, ← e2], fun s w' hg => ?_⟩
  by_cases hl : l = []
  · subst hl
    exact find_nil pN pI cN cI s w'
  · rcases h1 with h1 | ⟨g1, o1, rfl, _, h1⟩
    · exact absurd (List.map_eq_nil_iff.1 h1) hl
    rcases h2 with h2 | ⟨g2, o2, rfl, _, h2⟩
    · exact absurd (List.map_eq_nil_iff.1 h2) hl
    refine find_any g1 o1 g2 o2 l.length cN cI l s w' rfl hb (fun i p hp => ⟨hg.cell (h1 i _ ?_) (by simp), hg.cell (h2 i _ ?_) (by simp)⟩)
    · rw [List.getElem?_map, hp]; rfl
    · rw [List.getElem?_map, hp]; rfl
/-- the names as they are -/
theorem now_rf {w : World} {f : Nat} {s : St} (h : Rf F w f s) (hb : s.ways.length ≤ 9000000) (hn : s.now.length ≤ 9000000) : ∃ pN cN pI cI, wayIn F w f (.slice pN s.now.length cN, .slice pI s.now.length cI) s.now ∧ (∀ (n : List UInt8) (w' : World), w.grownBy w' none → Calls Try.prog 66 #[.agg #[.slice pN s.now.length cN, .slice pI s.now.length cI], .string ⟨n.toArray⟩] w' fun e w'' => e = .returned (.int .i64 (fnd n s.now)) ∧ w'.grownBy w'' none) ∧
    ∀ w', w.grownBy w' none → Calls Try.prog 65 #[.pointer (some ⟨f, 0, none⟩)] w' fun e w'' => e = .returned (.agg #[.slice pN s.now.length cN, .slice pI s.now.length cI]) ∧ w'.grownBy w'' none := by
  obtain ⟨vF, vW, h1, _, us, hl, ⟨p, c, rfl, _, _, _, hc⟩, hw⟩ := h.fs
  have hne : us ≠ [] := fun e => h.ne (List.eq_nil_of_length_eq_zero (by rw [← hl, e]; rfl))
  rcases hc with hc | ⟨g, o, rfl, _, hc⟩
  · exact absurd hc hne
  have hpos : 0 < us.length := List.length_pos_iff.2 hne
  obtain ⟨u, hu⟩ : ∃ u, us[us.length - 1]? = some u := ⟨us[us.length - 1]'(by omega), List.getElem?_eq_getElem _⟩
  have hx : s.ways[us.length - 1]? = some s.now := by
    unfold St.now
    rw [List.getLastD_eq_getLast?, List.getLast?_eq_getElem?, hl, List.getElem?_eq_getElem (by omega)]; rfl
  have hw1 := hw _ u _ hu hx
  obtain ⟨pN, cN, pI, cI, rfl, hf⟩ := find_way hw1 hn
  obtain ⟨k1, k2⟩ := hc _ _ hu
  refine ⟨pN, cN, pI, cI, hw1, hf, fun w' hg => ?_⟩
  exact now_any f g o us.length c (us.length - 1) s.q s.left vF pN pI _ cN _ cI s.dead w' ((hg.block f (lt_of_heap h1) (by simp)).trans h1) (by omega) (by omega) (hg.cell k1 (by simp)) (hg.cell k2 (by simp))
def atE (n : List UInt8) (l : Ws) : Int := if nmOk n = false then 6 else if fnd n l < 0 then 40 else 0
def atI (n : List UInt8) (l : Ws) : Int := if nmOk n = false then 0 else if fnd n l < 0 then 0 else fnd n l
set_option maxHeartbeats 2000000 in
set_option maxRecDepth 1000000 in
theorem at_any (f : Nat) (s : St) (n : List UInt8) (w : World) (h : Rf F w f s) (hb : s.ways.length ≤ 9000000) (hn : s.now.length ≤ 9000000) :
    Calls Try.prog 70 #[.pointer (some ⟨f, 0, none⟩), .string ⟨n.toArray⟩] w fun e w' => e = .returned (.tuple #[.int .i64 (atI n s.now), .int .i64 (atE n s.now)]) ∧ w.grownBy w' none := by
  obtain ⟨pN, cN, pI, cI, _, hf, hw⟩ := now_rf h hb hn
  have NM : Hid (∀ w, Calls Try.prog 64 #[.string ⟨n.toArray⟩] w fun e w' => e = .returned (.bool (nmOk n)) ∧ w' = w) := fun w => refName_any n w
  have NW : Hid (∀ w', w.grownBy w' none → Calls Try.prog 65 #[.pointer (some ⟨f, 0, none⟩)] w' fun e w'' => e = .returned (.agg #[.slice pN s.now.length cN, .slice pI s.now.length cI]) ∧ w'.grownBy w'' none) := hw
  have FD : Hid (∀ w', w.grownBy w' none → Calls Try.prog 66 #[.agg #[.slice pN s.now.length cN, .slice pI s.now.length cI], .string ⟨n.toArray⟩] w' fun e w'' => e = .returned (.int .i64 (fnd n s.now)) ∧ w'.grownBy w'' none) := fun w' h => hf n w' h
  have G0 : w.grownBy w none := ⟨rfl, rfl, rfl, Nat.le_refl _, fun _ _ _ => rfl⟩
  unfold atI atE
  generalize s.now.length = N1 at *
  generalize fnd n s.now = F at *
  cases hB : nmOk n with
  | false =>
    rw [hB] at NM
    simp only [if_true]
    clear NW FD hf hw
    go_enter Try.func70, Try.ntmps70
    go_wp2_with fail
    refine (NM.out _).mono ?_
    rintro e w1 ⟨rfl, hw1⟩; have hw2 := hw1.symm; subst hw2; clear hw1
    go_wp2_with fail
    go_ret2
    exact ⟨rfl, G0⟩
  | true =>
    rw [hB] at NM
    simp only [Bool.true_eq_false, if_false]
    clear hf hw
    by_cases hF : F < 0
    · rw [if_pos hF, if_pos hF]
      go_enter Try.func70, Try.ntmps70
      go_wp2_with fail
      refine (NM.out _).mono ?_
      rintro e w1 ⟨rfl, hw1⟩; have hw2 := hw1.symm; subst hw2; clear hw1
      go_wp2_with fail
      refine (NW.out _ G0).mono ?_
      rintro e w2 ⟨rfl, g2⟩
      go_wp2_with fail
      refine (FD.out _ g2).mono ?_
      rintro e w3 ⟨rfl, g3⟩
      have G3 : w.grownBy w3 none := ⟨g3.os.trans g2.os, g3.tape.trans g2.tape, g3.output.trans g2.output, Nat.le_trans g2.size g3.size, fun k hk hn => (g3.block k (Nat.lt_of_lt_of_le hk g2.size) hn).trans (g2.block k hk hn)⟩
      go_wp2_with fail
      go_ret2
      exact ⟨rfl, G3⟩
    · rw [if_neg hF, if_neg hF]
      go_enter Try.func70, Try.ntmps70
      go_wp2_with fail
      refine (NM.out _).mono ?_
      rintro e w1 ⟨rfl, hw1⟩; have hw2 := hw1.symm; subst hw2; clear hw1
      go_wp2_with fail
      refine (NW.out _ G0).mono ?_
      rintro e w2 ⟨rfl, g2⟩
      go_wp2_with fail
      refine (FD.out _ g2).mono ?_
      rintro e w3 ⟨rfl, g3⟩
      have G3 : w.grownBy w3 none := ⟨g3.os.trans g2.os, g3.tape.trans g2.tape, g3.output.trans g2.output, Nat.le_trans g2.size g3.size, fun k hk hn => (g3.block k (Nat.lt_of_lt_of_le hk g2.size) hn).trans (g2.block k hk hn)⟩
      go_wp2_with fail
      go_ret2
      exact ⟨rfl, G3⟩
end Go.Proofs.Ytdiehlioemmakaa

namespace Go.Proofs.Ytdiehlioemmakaa
open Go.RowKit

set_option maxHeartbeats 2000000 in
set_option maxRecDepth 1000000 in
theorem refStop_any (f : Nat) (q left n : Int) (vF vW : Value) (dead : Bool) (w : World) (h : RB w f q left vF vW dead) :
    Calls Try.prog 42 #[.pointer (some ⟨f, 0, none⟩), .int .i64 n] w fun e w' => e = .returned (.tuple #[]) ∧ RB w' f q n vF vW false ∧ Keep f w w' := by
  obtain ⟨c0, c1, c2, c3, c4, fr⟩ := h.c
  have h3 := (h.set).1 n
  have h4 := (h3.set).2.1 false
  obtain ⟨_, _, _, d3, d4, dr⟩ := h3.c
  have f3 := fr 3
  have g4 := dr 4
  have K : Keep f w ((w.setCell ⟨f, 3, none⟩ (.int .i64 n)).setCell ⟨f, 4, none⟩ (.bool false)) := (Keep.set w f 3 _).trans (Keep.set _ f 4 _)
  clear h h3 fr dr
  go_enter Try.func42, Try.ntmps42
  go_wp2_with fail
  go_end0
  exact ⟨rfl, h4, K⟩
/-- a number's remainder; of one below 0: 0 -/
def lft (k : Int) (n : Nat) : Nat := if k < 0 then 0 else (k % (n : Int)).toNat
set_option maxHeartbeats 2000000 in
set_option maxRecDepth 1000000 in
theorem left_any (k : Int) (n : Nat) (w : World) (hn : 0 < n) (hn2 : n ≤ 1000000000000) (hk : -9223372036854775808 ≤ k ∧ k ≤ 9223372036854775807) :
    Calls Try.prog 59 #[.int .i64 k, .int .i64 (n : Int)] w fun e w' => e = .returned (.int .i64 (lft k n : Int)) ∧ w' = w := by
  by_cases h0 : k < 0
  · have e : lft k n = 0 := if_pos h0
    rw [e]
    go_enter Try.func59, Try.ntmps59
    go_wp2_with fail
    go_ret
    exact ⟨rfl, rfl⟩
  · have hm : 0 ≤ k % (n : Int) := Int.emod_nonneg _ (by omega)
    have hm2 : k % (n : Int) < (n : Int) := Int.emod_lt_of_pos _ (by omega)
    have e : (lft k n : Int) = k % (n : Int) := by unfold lft; rw [if_neg h0]; omega
    rw [e]
    obtain ⟨K, rfl⟩ : ∃ K : Nat, k = K := ⟨k.toNat, by omega⟩
    have hne : ((n : Int) == 0) = false := by rw [beq_eq_false_iff_ne]; omega
    have hne2 : (n : Int) ≠ 0 := by omega
    have hw : IntKind.i64.wrap ((K : Int) % (n : Int)) = (K : Int) % (n : Int) := by rw [IntKind.wrap_i64]; omega
    go_enter Try.func59, Try.ntmps59
    go_wp2_with fail
    go_ret
    exact ⟨by simp, rfl⟩
end Go.Proofs.Ytdiehlioemmakaa

