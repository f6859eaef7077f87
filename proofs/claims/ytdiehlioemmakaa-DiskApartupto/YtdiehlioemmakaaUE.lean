/-
  The walks of lockstepref04's now, find and at.
-/
import Derived.Test.YtdiehlioemmakaaUD
import Derived.Test.YtdiehlioemmakaaUB
import Derived.Test.YtdiehlioemmakaaProg
import Derived.WalkKit
import Derived.OrdersHeld
import Derived.Deep.RegionHeld
import Derived.Deep.Cut
import Derived.Deep.CutRange
import Derived.Deep.RegionLaw
import Derived.Deep.RegionLawGrows
import Derived.OwnWalk
namespace Go.Proofs.Ytdiehlioemmakaa
open Go.RowKit

theorem grown_new {w w2 : World} (h : w.grownBy w2 none) (i : Nat) (v : Value) : w.grownBy (w2.setCell ⟨w.heap.size, i, none⟩ v) none :=
  ⟨h.os, h.tape, h.output, by rw [World.size_setCell]; exact h.size, fun k hk hn => (heap_setCell_other w2 ⟨w.heap.size, i, none⟩ k v (by simp; omega)).trans (h.block k hk hn)⟩
theorem drop_cons {l : Ws} {k : Nat} {p : List UInt8 × Nat} (h : l[k]? = some p) : l.drop k = p :: l.drop (k + 1) := by
  obtain ⟨hk, e⟩ := List.getElem?_eq_some_iff.1 h
  rw [List.drop_eq_getElem_cons hk, e]
theorem grown_drew {w w2 : World} {row : Option Nat} (h : w.grownBy w2 row) : w.grownBy w2.drew row := ⟨h.os, h.tape, h.output, h.size, h.block⟩
set_option maxHeartbeats 2000000 in
set_option maxRecDepth 1000000 in
theorem now_any (f g o N C K : Nat) (q left : Int) (vF : Value) (pN pI : Option Addr) (n1 c1 n2 c3 : Nat) (dead : Bool) (w : World) (h : RB w f q left vF (.slice (some ⟨g, o, none⟩) N C) dead) (hN : N = K + 1) (hb : N ≤ 9000000) (h1 : w.cell? ⟨g, o + K * 2, none⟩ = some (.slice pN n1 c1)) (h2 : w.cell? ⟨g, o + K * 2 + 1, none⟩ = some (.slice pI n2 c3)) :
    Calls Try.prog 65 #[.pointer (some ⟨f, 0, none⟩)] w fun e w' => e = .returned (.agg #[.slice pN n1 c1, .slice pI n2 c3]) ∧ w.grownBy w' none := by
  obtain ⟨_, _, c2, _, _, _⟩ := h.c
  have u1 : (N : Int) - 1 = (K : Int) := by omega
  have u2 : (K : Int) < (N : Int) := by omega
  have u3 : (N : Int) ≤ 9000000 := by omega
  have u4 : IntKind.i64.wrap (K : Int) = (K : Int) := by rw [IntKind.wrap_i64]; omega
  have hg := World.grownBy_alloc w (.cells #[.slice none 0 0, .slice none 0 0] 95) none
  have d2 := hg.cell c2 (by simp)
  have e1 := hg.cell h1 (by simp)
  have e2 := hg.cell h2 (by simp)
  have hB : (w.alloc (.cells #[.slice none 0 0, .slice none 0 0] 95)).heap[w.heap.size]? = some (.cells #[.slice none 0 0, .slice none 0 0] 95 (0, 0)) := heap_alloc_new _ _
  clear hN h
  go_enter Try.func65, Try.ntmps65
  go_wp2_with fail
  generalize hw2 : w.alloc (.cells #[.slice none 0 0, .slice none 0 0] 95) = w2 at *
  refine wp_region_noPanic ?_
  refine wp_region_held_drew (S := fun w' => w'.cell? ⟨f, 2, none⟩ = some (.slice (some ⟨g, o, none⟩) N C) ∧ w'.cell? ⟨g, o + K * 2, none⟩ = some (.slice pN n1 c1) ∧ w'.cell? ⟨g, o + K * 2 + 1, none⟩ = some (.slice pI n2 c3)) (by kernel_rfl) (⟨d2, e1, e2⟩) (fun hH => ?_)
  refine tKx (i := 0) (v := .pointer (some ⟨f, 0, none⟩)) rfl rfl (by kernel_rfl) (fun _ _ _ h => h) ?_ hH ?_
  · intro w hSw; (try dsimp only at hSw); obtain ⟨x1, x2, x3⟩ := hSw; go_simp
  simp only [zA9, zB9, zC9]
  refine tKx (i := 1) (v := .pointer (some ⟨f, 0, none⟩)) rfl rfl (by kernel_rfl) (fun _ _ _ h => h) ?_ hH ?_
  · intro w hSw; (try dsimp only at hSw); obtain ⟨x1, x2, x3⟩ := hSw; go_simp
  simp only [zA9, zB9, zC9]
  refine tKx (i := 2) (v := .pointer (some ⟨f, 2, none⟩)) rfl rfl (by kernel_rfl) (fun _ _ _ h => h) ?_ hH ?_
  · intro w hSw; (try dsimp only at hSw); obtain ⟨x1, x2, x3⟩ := hSw; go_simp
  simp only [zA9, zB9, zC9]
  refine tKx (i := 3) (v := .slice (some ⟨g, o, none⟩) N C) rfl rfl (by kernel_rfl) (fun _ _ _ h => h) ?_ hH ?_
  · intro w hSw; (try dsimp only at hSw); obtain ⟨x1, x2, x3⟩ := hSw; go_simp
  simp only [zA9, zB9, zC9]
  refine tKx (i := 4) (v := .pointer (some ⟨f, 0, none⟩)) rfl rfl (by kernel_rfl) (fun _ _ _ h => h) ?_ hH ?_
  · intro w hSw; (try dsimp only at hSw); obtain ⟨x1, x2, x3⟩ := hSw; go_simp
  simp only [zA9, zB9, zC9]
  refine tKx (i := 5) (v := .pointer (some ⟨f, 0, none⟩)) rfl rfl (by kernel_rfl) (fun _ _ _ h => h) ?_ hH ?_
  · intro w hSw; (try dsimp only at hSw); obtain ⟨x1, x2, x3⟩ := hSw; go_simp
  simp only [zA9, zB9, zC9]
  refine tKx (i := 6) (v := .pointer (some ⟨f, 2, none⟩)) rfl rfl (by kernel_rfl) (fun _ _ _ h => h) ?_ hH ?_
  · intro w hSw; (try dsimp only at hSw); obtain ⟨x1, x2, x3⟩ := hSw; go_simp
  simp only [zA9, zB9, zC9]
  refine tKx (i := 7) (v := .slice (some ⟨g, o, none⟩) N C) rfl rfl (by kernel_rfl) (fun _ _ _ h => h) ?_ hH ?_
  · intro w hSw; (try dsimp only at hSw); obtain ⟨x1, x2, x3⟩ := hSw; go_simp
  simp only [zA9, zB9, zC9]
  refine tKx (i := 8) (v := .int .i64 (N : Nat)) rfl rfl (by kernel_rfl) (fun _ _ _ h => h) ?_ hH ?_
  · intro w hSw; (try dsimp only at hSw); obtain ⟨x1, x2, x3⟩ := hSw; go_simp
  simp only [zA9, zB9, zC9]
  refine tKx (i := 9) (v := .int .i64 (K : Nat)) rfl rfl (by kernel_rfl) (fun _ _ _ h => h) ?_ hH ?_
  · intro w hSw; (try dsimp only at hSw); obtain ⟨x1, x2, x3⟩ := hSw; go_simp
  simp only [zA9, zB9, zC9]
  refine tKx (i := 10) (v := .pointer (some ⟨g, o + K * 2, none⟩)) rfl rfl (by kernel_rfl) (fun _ _ _ h => h) ?_ hH ?_
  · intro w hSw; (try dsimp only at hSw); obtain ⟨x1, x2, x3⟩ := hSw; go_simp
  simp only [zA9, zB9, zC9]
  refine tKx (i := 11) (v := .agg #[.slice pN n1 c1, .slice pI n2 c3]) rfl rfl (by kernel_rfl) (fun _ _ _ h => h) ?_ hH ?_
  · intro w hSw; (try dsimp only at hSw); obtain ⟨x1, x2, x3⟩ := hSw; go_simp
  simp only [zA9, zB9, zC9]
  refine wpAnyH_ready (rs := [12]) (by kernel_rfl) (by simp) ?_
  refine AllReadyH.cons rfl (fun K hK => ?_) AllReadyH.nil
  have x0 : w2.cell? ⟨w.heap.size, 0, none⟩ = some (.slice none 0 0) := (Joins.cell_of_block hB 0).trans rfl
  have x1 : w2.cell? ⟨w.heap.size, 1, none⟩ = some (.slice none 0 0) := (Joins.cell_of_block hB 1).trans rfl
  have z0 : w2.frozen? ⟨w.heap.size, 0, none⟩ = false := Joins.unfrozen_of_block hB 0
  have z1 : w2.frozen? ⟨w.heap.size, 1, none⟩ = false := Joins.unfrozen_of_block hB 1
  go_simp
  have G3 : w.grownBy ((w2.setCell ⟨w.heap.size, 0, none⟩ (.slice pN n1 c1)).setCell ⟨w.heap.size, 1, none⟩ (.slice pI n2 c3)).drew none := grown_drew (grown_new (grown_new hg 0 _) 1 _)
  have y0 : ((w2.setCell ⟨w.heap.size, 0, none⟩ (.slice pN n1 c1)).setCell ⟨w.heap.size, 1, none⟩ (.slice pI n2 c3)).drew.cell? ⟨w.heap.size, 0, none⟩ = some (.slice pN n1 c1) := (Joins.cell_of_block ((heap_setCell_same _ _ 1 _ _ _ (heap_setCell_same _ _ 0 _ _ _ hB)).trans rfl) 0).trans rfl
  have y1 : ((w2.setCell ⟨w.heap.size, 0, none⟩ (.slice pN n1 c1)).setCell ⟨w.heap.size, 1, none⟩ (.slice pI n2 c3)).drew.cell? ⟨w.heap.size, 1, none⟩ = some (.slice pI n2 c3) := (Joins.cell_of_block ((heap_setCell_same _ _ 1 _ _ _ (heap_setCell_same _ _ 0 _ _ _ hB)).trans rfl) 1).trans rfl
  refine hK.out _ _ ⟨G3.cell c2 (by simp), G3.cell h1 (by simp), G3.cell h2 (by simp)⟩ (fun _ => ?_)
  clear hK K hH
  refine wpAnyH_done (by kernel_rfl) ?_ _
  refine NoPanic.normal ?_
  generalize ((w2.setCell ⟨w.heap.size, 0, none⟩ (.slice pN n1 c1)).setCell ⟨w.heap.size, 1, none⟩ (.slice pI n2 c3)).drew = w3 at *
  go_wp2_with fail
  refine bodyPost_ret (v := .agg #[.slice pN n1 c1, .slice pI n2 c3]) (by simp [results, Try.results65, go_sem, y0, y1]) rfl ⟨rfl, G3⟩
set_option maxHeartbeats 2000000 in
set_option maxRecDepth 1000000 in
theorem find_any (g1 o1 g2 o2 N c1 c2 : Nat) (l : Ws) (s : List UInt8) (w : World) (hN : l.length = N) (hb : N ≤ 9000000) (h1 : ∀ (i : Nat) p, l[i]? = some p → w.cell? ⟨g1, o1 + i, none⟩ = some (strV p.1) ∧ w.cell? ⟨g2, o2 + i, none⟩ = some (intV p.2)) :
    Calls Try.prog 66 #[.agg #[.slice (some ⟨g1, o1, none⟩) N c1, .slice (some ⟨g2, o2, none⟩) N c2], .string ⟨s.toArray⟩] w fun e w' => e = .returned (.int .i64 (fnd s l)) ∧ w.grownBy w' none := by
  have hg := World.grownBy_alloc w (.cells #[.slice (some ⟨g1, o1, none⟩) N c1, .slice (some ⟨g2, o2, none⟩) N c2] 95) none
  have hB : (w.alloc (.cells #[.slice (some ⟨g1, o1, none⟩) N c1, .slice (some ⟨g2, o2, none⟩) N c2] 95)).heap[w.heap.size]? = some (.cells #[.slice (some ⟨g1, o1, none⟩) N c1, .slice (some ⟨g2, o2, none⟩) N c2] 95 (0, 0)) := heap_alloc_new _ _
  have x0 := (Joins.cell_of_block hB 0).trans rfl
  have x1 := (Joins.cell_of_block hB 1).trans rfl
  have H1 : Hid (∀ (i : Nat) p, l[i]? = some p → (w.alloc (.cells #[.slice (some ⟨g1, o1, none⟩) N c1, .slice (some ⟨g2, o2, none⟩) N c2] 95)).cell? ⟨g1, o1 + i, none⟩ = some (strV p.1) ∧ (w.alloc (.cells #[.slice (some ⟨g1, o1, none⟩) N c1, .slice (some ⟨g2, o2, none⟩) N c2] 95)).cell? ⟨g2, o2 + i, none⟩ = some (intV p.2)) := fun i p hp => ⟨hg.cell (h1 i p hp).1 (by simp), hg.cell (h1 i p hp).2 (by simp)⟩
  have HN : Hid (l.length = N) := hN
  have HG : Hid (w.grownBy (w.alloc (.cells #[.slice (some ⟨g1, o1, none⟩) N c1, .slice (some ⟨g2, o2, none⟩) N c2] 95)) none) := hg
  obtain ⟨E, hE⟩ : ∃ E, E = fnd s l := ⟨_, rfl⟩
  rw [← hE]
  have HE : Hid (E = fnd s (l.drop 0)) := hE
  have hbi : (N : Int) ≤ 9000000 := by omega
  clear hN h1 hE hg
  go_enter Try.func66, Try.ntmps66
  go_wp2_with fail
  generalize w.alloc (.cells #[.slice (some ⟨g1, o1, none⟩) N c1, .slice (some ⟨g2, o2, none⟩) N c2] 95) = w2 at *
  clear hB
  go_loopw [5] (fun s5 wr => ∃ (k : Nat), s5 = .int .i64 k ∧ k ≤ N ∧ Hid (E = fnd s (l.drop k)) ∧ wr = w2) (fun s5 _ => N - (intOf s5).toNat)
  case atStart => exact ⟨0, rfl, Nat.zero_le _, HE, rfl⟩
  case round =>
    obtain ⟨k, rfl, hk, hd, rfl⟩ := hrel
    clear HE
    by_cases hlt : k < N
    · obtain ⟨⟨a, i⟩, hx⟩ : ∃ p, l[k]? = some p := ⟨l[k]'(by rw [HN.out]; exact hlt), List.getElem?_eq_getElem _⟩
      have hlti : (k : Int) < (N : Int) := by omega
      obtain ⟨y1, y2⟩ := H1.out k _ hx
      unfold strV at y1
      unfold intV at y2
      simp only at y1 y2
      have hd1 := hd.out
      rw [drop_cons hx, fnd] at hd1
      by_cases ha : a = s
      · have hb2 : (a == s) = true := by rw [ha]; simp
        rw [if_pos ha] at hd1
        simp only at hd1
        subst hd1
        clear H1 hd ha hx
        go_wp2_with fail
        go_ret
        exact ⟨rfl, HG.out⟩
      · have hb2 : (a == s) = false := by rw [beq_eq_false_iff_ne]; exact ha
        rw [if_neg ha] at hd1
        have HD : Hid (E = fnd s (l.drop (k + 1))) := hd1
        clear H1 hd ha hx hd1
        go_wp2_with fail
        go_roundw
        case rel => exact ⟨k + 1, by go_num, hlt, HD, by trivial⟩
        case measure => simp [intOf]; omega
    · have hlti : ¬ (k : Int) < (N : Int) := by omega
      have hd1 := hd.out
      rw [List.drop_eq_nil_of_le (by rw [HN.out]; omega)] at hd1
      have hd2 : E = -1 := hd1
      subst hd2
      clear hd hd1 H1
      go_wp2_with fail
      go_ret
      exact ⟨rfl, HG.out⟩
end Go.Proofs.Ytdiehlioemmakaa

namespace Go.Proofs.Ytdiehlioemmakaa
open Go

section
variable {P : Program} {ops : Array Oper} {Q : Exit → Act → World → Prop} {md : Region.Mode} {S : Array Bool → World → Prop}

/-- whatever order is picked from here on; behind every operation that is carried out S holds of what has come up and of the world -/
def wpAnyG (P : Program) (md : Region.Mode) (ops : Array Oper) (Q : Exit → Act → World → Prop) (S : Array Bool → World → Prop) : Nat → Array Bool → Act → World → Prop
  | 0, listed, a, w => Region.ready md ops listed = [] ∧ Q .normal a w
  | fuel + 1, listed, a, w =>
    (Region.ready md ops listed = [] → Q .normal a w) ∧
    ∀ i ∈ Region.ready md ops listed, wpOp P ops Q i (fun a' w' => S (listed.setIfInBounds i true) w' ∧ wpAnyG P md ops Q S fuel (listed.setIfInBounds i true) a' w') a w
theorem wpAny_of_G : ∀ (fuel : Nat) (listed : Array Bool) (a : Act) (w : World), wpAnyG P md ops Q S fuel listed a w → wpAny P md ops Q fuel listed a w
  | 0, _, _, _, h => h
  | fuel + 1, _, _, _, h => ⟨h.1, fun i hi => wpOp_mono (fun a' w' h' => wpAny_of_G fuel _ a' w' h'.2) (h.2 i hi)⟩
/-- none of these has come up -/
def Un' (D : List Nat) (listed : Array Bool) : Prop := ∀ d ∈ D, listed.getD d true = false
/-- an operation that may come up now may be taken first, if it yields its value wherever S holds and none of those has come up that wait for it -/
theorem wpAnyG_first {i : Nat} {oi : Oper} {v : Value} (D : List Nat) (hi : ops[i]? = some oi) (hsel : ∀ (j : Nat) (o : Oper) cs b, ops[j]? = some o → o.op ≠ .select cs b)
    (hD : ∀ d ∈ D, d ≠ i ∧ ∃ od, ops[d]? = some od ∧ ∃ e ∈ od.after, Region.binds md e = true ∧ e.on = i)
    (hSi : ∀ L w, S (L.setIfInBounds i true) w → S L w)
    (hQ : ∀ c a w, Q (.panic c) (a.put oi.dst v) w → Q (.panic c) a w) :
    ∀ (fuel : Nat) (listed : Array Bool) (a : Act) (w : World),
      (∀ j oj, ops[j]? = some oj → j ≠ i → listed.getD j true = false → (∀ e ∈ oj.after, Region.binds md e = true → e.on ≠ i) → oi.apart ops oj = true) →
      i ∈ Region.ready md ops listed → YieldsIf P ops (fun w => ∃ L, Un' D L ∧ S L w) oi v a → Un' D listed → S listed w → S (listed.setIfInBounds i true) w →
      wpAnyG P md ops Q S fuel (listed.setIfInBounds i true) (a.put oi.dst v) w → wpAnyG P md ops Q S (fuel + 1) listed a w := by
  intro fuel
  induction fuel with
  | zero =>
    intro listed a w _ hr hy hU hS hS2 H
    refine ⟨fun h => (by rw [h] at hr; cases hr), fun j hj => ?_⟩
    by_cases hji : j = i
    · subst hji; exact hy.wpOp hi ⟨listed, hU, hS⟩ ⟨hS2, H⟩
    · have := ready_mono hj hji
      rw [H.1] at this
      cases this
  | succ fuel ih =>
    intro listed a w hfree hr hy hU hS hS2 H
    refine ⟨fun h => (by rw [h] at hr; cases hr), fun j hj => ?_⟩
    by_cases hji : j = i
    · subst hji; exact hy.wpOp hi ⟨listed, hU, hS⟩ ⟨hS2, H⟩
    · have h1 := H.2 j (ready_mono hj hji)
      obtain ⟨hjun, oj, hoj, hall⟩ := mem_ready.1 hj
      have hnot : ∀ e ∈ oj.after, Region.binds md e = true → e.on ≠ i := fun e he hb heq => by
        have h1 := hall e he hb
        have h0 := (mem_ready.1 hr).1
        rw [heq] at h1
        rcases Nat.lt_or_ge i listed.size with h' | h'
        · simp [h'] at h0 h1; rw [h0] at h1; cases h1
        · simp [Array.getElem?_eq_none h'] at h1
      have hjD : ∀ d ∈ D, j ≠ d := fun d hd e => by
        obtain ⟨_, od, hod, x, hx, hb, hon⟩ := hD d hd
        subst e
        rw [hoj] at hod
        cases hod
        exact hnot x hx hb hon
      have h2 := wpOp_putIf hoj (hfree j oj hoj hji hjun hnot) (fun cs b => hsel i oi cs b hi) (fun cs b => hsel j oj cs b hoj) hQ hy h1
      have hfree' : ∀ k ok, ops[k]? = some ok → k ≠ i → (listed.setIfInBounds j true).getD k true = false →
          (∀ e ∈ ok.after, Region.binds md e = true → e.on ≠ i) → oi.apart ops ok = true := fun k ok hk hki hun hno => by
        refine hfree k ok hk hki ?_ hno
        by_cases hjk : j = k
        · subst hjk; exact hjun
        · rw [getD_set_ne true hjk] at hun; exact hun
      have hU' : Un' D (listed.setIfInBounds j true) := fun d hd => by
        rw [getD_set_ne true (hjD d hd)]; exact hU d hd
      refine wpOp_mono (fun a' w' h3 => ?_) h2
      have hs3 := h3.2.1
      rw [Array.setIfInBounds_comm _ _ (Ne.symm hji)] at hs3
      refine ⟨hSi _ _ hs3, ih (listed.setIfInBounds j true) a' w' hfree' (ready_mono hr (Ne.symm hji)) h3.1 hU' (hSi _ _ hs3) hs3 ?_⟩
      rw [Array.setIfInBounds_comm _ _ hji]
      exact h3.2.2
/-- each of these comes up next -/
def AllReadyG (P : Program) (md : Region.Mode) (ops : Array Oper) (Q : Exit → Act → World → Prop) (S : Array Bool → World → Prop) (fuel : Nat) (listed : Array Bool) (a : Act) (w : World) (rs : List Nat) : Prop :=
  ∀ i ∈ rs, wpOp P ops Q i (fun a' w' => S (listed.setIfInBounds i true) w' ∧ wpAnyG P md ops Q S fuel (listed.setIfInBounds i true) a' w') a w
theorem AllReadyG.nil {fuel : Nat} {listed : Array Bool} {a : Act} {w : World} : AllReadyG P md ops Q S fuel listed a w [] := fun _ h => by cases h
theorem AllReadyG.cons {fuel : Nat} {listed : Array Bool} {a : Act} {w : World} {i : Nat} {o : Oper} {rs : List Nat} (ho : ops[i]? = some o)
    (h : ∀ K' : Act → World → Prop, Shut (∀ a w, S (listed.setIfInBounds i true) w → (S (listed.setIfInBounds i true) w → wpAnyG P md ops Q S fuel (listed.setIfInBounds i true) a w) → K' a w) → if Region.wanted o (yielded ops a.tmps) = true then Oper.wp P o a w K' Q else K' (a.put o.dst undef) w)
    (hs : AllReadyG P md ops Q S fuel listed a w rs) : AllReadyG P md ops Q S fuel listed a w (i :: rs) := fun j hj => by
  rcases List.mem_cons.1 hj with rfl | hj
  · exact wpOp_step ho (fun K' hK => h K' (fun a w hS hW => hK a w ⟨hS, hW hS⟩))
  · exact hs j hj
theorem wpAnyG_ready {rs : List Nat} {fuel : Nat} {listed : Array Bool} {a : Act} {w : World} (hr : Region.ready md ops listed = rs) (hne : rs ≠ [])
    (h : AllReadyG P md ops Q S fuel listed a w rs) : wpAnyG P md ops Q S (fuel + 1) listed a w := ⟨fun h0 => absurd (hr ▸ h0) hne, hr ▸ h⟩
theorem wpAnyG_done {listed : Array Bool} {a : Act} {w : World} (hr : Region.ready md ops listed = []) (h : Q .normal a w) :
    ∀ fuel, wpAnyG P md ops Q S fuel listed a w
  | 0 => ⟨hr, h⟩
  | _ + 1 => ⟨fun _ => h, by rw [hr]; simp⟩
theorem wp_region_G {id : Nat} {a : Act} {w : World} (hm : P.follows .mixedOrders = true) (hS : S (Array.replicate ops.size false) w.drew)
    (h : S (Array.replicate ops.size false) w.drew → wpAnyG P .any ops Q S ops.size (Array.replicate ops.size false) a w.drew) : (Code.region id ops true).wp P Q a w :=
  wp_region_any hm (wpAny_of_G _ _ _ _ (h hS))
/-- whether these wait for one, as a Bool -/
def waits (md : Region.Mode) (ops : Array Oper) (i : Nat) (D : List Nat) : Bool := D.all fun d => d != i && (match ops[d]? with | some od => od.after.any fun e => Region.binds md e && e.on == i | none => false)
theorem waits_spec {i : Nat} {D : List Nat} (h : waits md ops i D = true) : ∀ d ∈ D, d ≠ i ∧ ∃ od, ops[d]? = some od ∧ ∃ e ∈ od.after, Region.binds md e = true ∧ e.on = i := by
  intro d hd
  have h1 := List.all_eq_true.1 h d hd
  rw [Bool.and_eq_true, bne_iff_ne] at h1
  refine ⟨h1.1, ?_⟩
  have h2 := h1.2
  split at h2
  · rename_i od ho
    obtain ⟨e, he, hb⟩ := Array.any_eq_true'.1 h2
    rw [Bool.and_eq_true, beq_iff_eq] at hb
    exact ⟨od, ho, e, he, hb.1, hb.2⟩
  · cases h2
/-- S hangs on nothing but whether these have come up -/
def unB (D : List Nat) (listed : Array Bool) : Bool := D.all fun d => !listed.getD d true
theorem takeG {i d : Nat} {oi : Oper} {v : Value} {fuel : Nat} {listed : Array Bool} {ts : Array Value} {df : List Deferred} {w : World} (D : List Nat) (hi : ops[i]? = some oi) (hd : oi.dst = some d)
    (hs : Region.noSelect ops = true) (hf : Region.free md ops listed i = true) (hr : (Region.ready md ops listed).contains i = true) (hD : waits md ops i D = true) (hU : unB D listed = true)
    (hSi : ∀ L w, S (L.setIfInBounds i true) w ↔ S L w)
    (hQ : ∀ c a w, Q (.panic c) (a.put oi.dst v) w → Q (.panic c) a w) (hy : YieldsIf P ops (fun w => ∃ L, Un' D L ∧ S L w) oi v ⟨ts, df⟩) (hS : S listed w)
    (h : S (listed.setIfInBounds i true) w → wpAnyG P md ops Q S fuel (listed.setIfInBounds i true) ⟨ts.setIfInBounds d v, df⟩ w) : wpAnyG P md ops Q S (fuel + 1) listed ⟨ts, df⟩ w := by
  have hU' : Un' D listed := fun d hd => by
    have := List.all_eq_true.1 hU d hd
    simpa using this
  have hS2 := (hSi listed w).2 hS
  refine wpAnyG_first D hi (Region.noSelect_spec hs) (waits_spec hD) (fun L w => (hSi L w).1) hQ fuel listed ⟨ts, df⟩ w (Region.free_spec hi hf) (by simpa using hr) hy hU' hS hS2 ?_
  have := h hS2
  rw [hd]; exact this
end
end Go.Proofs.Ytdiehlioemmakaa

namespace Go.Proofs.Ytdiehlioemmakaa
open Go.RowKit

theorem strInfo : (Try.prog.info? 9).map (fun i => (i.zero, i.size, i.bytes)) = some (some (.string ⟨#[]⟩), 1, 16) := by kernel_rfl
theorem intInfo : (Try.prog.info? 3).map (fun i => (i.zero, i.size, i.bytes)) = some (some (.int .i64 0), 1, 8) := by kernel_rfl
theorem strSlice : Try.prog.underlying 54 = some (.slice 9) := by kernel_rfl
theorem intSlice : Try.prog.underlying 28 = some (.slice 3) := by kernel_rfl
/-- one more at the end of a row of one's own, as a step -/
theorem step_one (sl el : TypeId) (zv : Value) (by' : Nat) (hsl : Try.prog.underlying sl = some (.slice el)) (hinf : (Try.prog.info? el).map (fun i => (i.zero, i.size, i.bytes)) = some (some zv, 1, by')) (hz1 : zv.cells.size = 1)
    {ops : Array Oper} {o : Oper} {a : Act} {w : World} {K : Act → World → Prop} {Q : Exit → Act → World → Prop} {E : Prop}
    (hgd : o.guard = none) (s x : Operand) (ho : o.op = .call { callee := .builtin .append, args := #[s, x], argTypes := #[sl, sl] })
    (base n : Nat) (v : Value) (xs : List Value) (u : Value) (g : Nat) (hs : a.eval s = v) (hown : w.ownsRow base el 1 v n xs)
    (hx : a.eval x = .slice (some ⟨g, 0, none⟩) 1 1) (hg : w.cell? ⟨g, 0, none⟩ = some u) (hu : u.oneCell' = true) (hl : n ≤ 10000000) (hb : base ≤ w.heap.size) (hby : by' ≤ 16)
    (h : ∀ v' w', w'.ownsRow base el 1 v' (n + 1) (xs ++ [u]) → w.grownBy w' v.ownBlock → K (a.put o.dst v') w') :
    if Region.wanted o (yielded ops a.tmps) = true then Oper.wp Try.prog o a w K Q else E := by
  have hwd : Region.wanted o (yielded ops a.tmps) = true := by simp [Region.wanted, hgd]
  rw [if_pos hwd]
  obtain ⟨i0, hi, h0, h1, h2⟩ := info_parts hinf
  refine wp_append_own w s x sl ho base el i0 zv 1 by' hsl hi h0 h1 h2 hz1 (by decide) v n xs hs hown ⟨g, 0, none⟩ 1 1 [u] hx rfl ?_ (by intro y hy; simp at hy; subst hy; exact hu) (by unfold maxLen; omega) ?_ hb ?_
  · intro j y hj
    have : j = 0 ∧ y = u := by
      rcases j with _ | j
      · simp at hj; exact ⟨rfl, hj.symm⟩
      · simp at hj
    obtain ⟨rfl, rfl⟩ := this
    exact hg
  · have : by' * (n + 1) ≤ 16 * 10000001 := Nat.mul_le_mul hby (by omega)
    rw [Nat.mul_comm]; omega
  · intro v' w' k1 k2 _
    exact h v' w' k1 k2
theorem hAlloc {w : World} {b : Nat} {o : Obj} (h : w.heap[b]? = some o) (x : Obj) : (w.alloc x).heap[b]? = some o := (World.grownBy_alloc w x none).block b (lt_of_heap h) (by simp) |>.trans h
theorem b2cells {w : World} {b : Nat} {x y : Value} {t : TypeId} (h : w.heap[b]? = some (.cells #[x, y] t (0, 0))) : w.cell? ⟨b, 0, none⟩ = some x ∧ w.cell? ⟨b, 1, none⟩ = some y ∧ w.frozen? ⟨b, 0, none⟩ = false ∧ w.frozen? ⟨b, 1, none⟩ = false ∧ (∀ o, (w.alloc o).cell? ⟨b, 0, none⟩ = some x) ∧ (∀ o, (w.alloc o).cell? ⟨b, 1, none⟩ = some y) ∧ (∀ o o', ((w.alloc o).alloc o').cell? ⟨b, 0, none⟩ = some x) ∧ (∀ o o', ((w.alloc o).alloc o').cell? ⟨b, 1, none⟩ = some y) :=
  ⟨(Joins.cell_of_block h 0).trans rfl, (Joins.cell_of_block h 1).trans rfl, Joins.unfrozen_of_block h 0, Joins.unfrozen_of_block h 1, fun o => (Joins.cell_of_block (hAlloc h o) 0).trans rfl, fun o => (Joins.cell_of_block (hAlloc h o) 1).trans rfl, fun o o' => (Joins.cell_of_block (hAlloc (hAlloc h o) o') 0).trans rfl, fun o o' => (Joins.cell_of_block (hAlloc (hAlloc h o) o') 1).trans rfl⟩
theorem new2 (w : World) (o : Obj) (u : Value) (t : TypeId) : ((w.alloc o).alloc (.cells #[u] t)).heap[w.heap.size + 1]? = some (.cells #[u] t (0, 0)) := by
  have := heap_alloc_new (w.alloc o) (.cells #[u] t)
  rw [show (w.alloc o).heap.size = w.heap.size + 1 by simp] at this
  exact this
theorem keepK {w w' : World} {base n b : Nat} {e t : TypeId} {v : Value} {xs : List Value} {cs : Array Value} {fr : Nat × Nat} (hr : w.ownsRow base e 1 v n xs) (h : w.heap[b]? = some (.cells cs t fr)) (ht : t ≠ e) (hg : w.grownBy w' v.ownBlock) : w'.heap[b]? = some (.cells cs t fr) :=
  (hg.block b (lt_of_heap h) (fun e => by
    obtain ⟨ds, hk⟩ := own_kind hr b e.symm
    rw [h] at hk
    cases hk
    exact ht rfl)).trans h
/-- what is known while the stores have not come up -/
def SG (d1 d2 : Nat) (A B R : World → Prop) (L : Array Bool) (w : World) : Prop := (L.getD d1 true = false → A w) ∧ (L.getD d2 true = false → B w) ∧ R w
theorem SG_set {d1 d2 i : Nat} {A B R : World → Prop} (h1 : i ≠ d1) (h2 : i ≠ d2) : ∀ L w, SG d1 d2 A B R (L.setIfInBounds i true) w ↔ SG d1 d2 A B R L w := fun L w => by
  unfold SG
  rw [getD_set_ne true h1, getD_set_ne true h2]
/-- the variables of with, in memory -/
structure Out (w : World) (b0 : List Value) (A : Ws) (w' : World) : Prop where
  b : w.grownBy w' none
  sz : w.heap.size + 3 ≤ w'.heap.size
  c : w'.heap[w.heap.size]? = some (.cells b0.toArray 95 (0, 0))
  r : w'.heap[w.heap.size + 1]? = some (.cells #[.slice none 0 0, .slice none 0 0] 95 (0, 0))
  o : ∃ vN vI, w'.heap[w.heap.size + 1 + 1]? = some (.cells #[vN, vI] 95 (0, 0)) ∧ w'.ownsRow (w.heap.size + 3) 9 1 vN A.length (A.map fun p => strV p.1) ∧ w'.ownsRow (w.heap.size + 3) 3 1 vI A.length (A.map fun p => intV p.2)
theorem rowSI {w : World} {b n m : Nat} {v u : Value} {xs ys : List Value} (h : w.ownsRow b 9 1 v n xs) (k : w.ownsRow b 3 1 u m ys) : ∀ g, v.ownBlock = some g → u.ownBlock ≠ some g := by
  intro g hg e
  obtain ⟨cs, h1⟩ := own_kind h g hg
  obtain ⟨ds, h2⟩ := own_kind k g e
  rw [h1] at h2
  cases h2
theorem keptS {w w' : World} {b n m : Nat} {v u : Value} {xs ys : List Value} (h : w.ownsRow b 9 1 v n xs) (k : w.ownsRow b 3 1 u m ys) (hg : w.grownBy w' u.ownBlock) : w'.ownsRow b 9 1 v n xs :=
  World.ownsRow.kept h hg (by
    cases hv : v.ownBlock with
    | none => exact Or.inl rfl
    | some g => exact Or.inr (fun e => rowSI h k g hv e.symm))
theorem keptI {w w' : World} {b n m : Nat} {v u : Value} {xs ys : List Value} (h : w.ownsRow b 9 1 v n xs) (k : w.ownsRow b 3 1 u m ys) (hg : w.grownBy w' v.ownBlock) : w'.ownsRow b 3 1 u m ys :=
  World.ownsRow.kept k hg (by
    cases hv : u.ownBlock with
    | none => exact Or.inl rfl
    | some g => exact Or.inr (fun e => rowSI h k g e.symm hv))
/-- one more is there -/
theorem out_mk {w wr W : World} {b0 : List Value} {A : Ws} {v u vN vI : Value} {a : List UInt8} {i : Nat} (O : Out w b0 A wr) (bel : Below (w.heap.size + 3) wr W) (hB : W.heap[w.heap.size + 1 + 1]? = some (.cells #[v, u] 95 (0, 0)))
    (hN : W.ownsRow (w.heap.size + 3) 9 1 vN (A.length + 1) ((A.map fun p => strV p.1) ++ [strV a])) (hI : W.ownsRow (w.heap.size + 3) 3 1 vI (A.length + 1) ((A.map fun p => intV p.2) ++ [intV i])) :
    Out w b0 (A ++ [(a, i)]) ((W.setCell ⟨w.heap.size + 1 + 1, 0, none⟩ vN).setCell ⟨w.heap.size + 1 + 1, 1, none⟩ vI) := by
  have hB2 : ((W.setCell ⟨w.heap.size + 1 + 1, 0, none⟩ vN).setCell ⟨w.heap.size + 1 + 1, 1, none⟩ vI).heap[w.heap.size + 1 + 1]? = some (.cells #[vN, vI] 95 (0, 0)) := (heap_setCell_same _ _ 1 _ _ _ ((heap_setCell_same _ _ 0 _ _ _ hB).trans rfl)).trans rfl
  have blk : ∀ k, k ≠ w.heap.size + 1 + 1 → ((W.setCell ⟨w.heap.size + 1 + 1, 0, none⟩ vN).setCell ⟨w.heap.size + 1 + 1, 1, none⟩ vI).heap[k]? = W.heap[k]? := fun k hk => (heap_setCell_other _ ⟨w.heap.size + 1 + 1, 1, none⟩ k vI hk).trans (heap_setCell_other _ ⟨w.heap.size + 1 + 1, 0, none⟩ k vN hk)
  have gr : W.grownBy ((W.setCell ⟨w.heap.size + 1 + 1, 0, none⟩ vN).setCell ⟨w.heap.size + 1 + 1, 1, none⟩ vI) (some (w.heap.size + 1 + 1)) := ⟨rfl, rfl, rfl, by simp, fun k _ hk => blk k (fun e => hk (by rw [e]))⟩
  have own : ∀ {e : TypeId} {n : Nat} {x : Value} {xs : List Value}, W.ownsRow (w.heap.size + 3) e 1 x n xs → ((W.setCell ⟨w.heap.size + 1 + 1, 0, none⟩ vN).setCell ⟨w.heap.size + 1 + 1, 1, none⟩ vI).ownsRow (w.heap.size + 3) e 1 x n xs := fun {e n x xs} h => World.ownsRow.kept h gr (by
    cases hx : x.ownBlock with
    | none => exact Or.inl rfl
    | some g => exact Or.inr (fun e => by cases e; have := own_ge h _ hx; omega))
  have sz := bel.size
  refine ⟨⟨bel.os.trans O.b.os, bel.tape.trans O.b.tape, bel.output.trans O.b.output, ?_, fun k hk hn => ?_⟩, ?_, ?_, ?_, vN, vI, hB2, ?_, ?_⟩
  · have := O.b.size
    simp only [World.size_setCell]; omega
  · rw [blk k (by omega), bel.block k (by omega)]; exact O.b.block k hk hn
  · have := O.sz
    simp only [World.size_setCell]; omega
  · rw [blk _ (by omega), bel.block _ (by omega)]; exact O.c
  · rw [blk _ (by omega), bel.block _ (by omega)]; exact O.r
  · rw [List.map_append, List.length_append]; exact own hN
  · rw [List.map_append, List.length_append]; exact own hI
end Go.Proofs.Ytdiehlioemmakaa

