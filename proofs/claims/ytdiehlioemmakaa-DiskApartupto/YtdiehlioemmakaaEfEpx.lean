/-
  The walk of lockstepref04's with: names with one that stands for a file.
-/
import Derived.Test.YtdiehlioemmakaaUE
namespace Go.Proofs.Ytdiehlioemmakaa
open Go.RowKit

theorem cell_set {w : World} {b o c j : Nat} {u v : Value} (hb : b ≠ c) (h : w.cell? ⟨b, o, none⟩ = some u) : (w.setCell ⟨c, j, none⟩ v).cell? ⟨b, o, none⟩ = some u := by
  have := heap_setCell_other w ⟨c, j, none⟩ b v hb
  unfold World.cell? at h ⊢
  simp only at h this ⊢
  rw [this]; exact h
theorem wth_cons (s : List UInt8) (kf : Int) (put : Bool) (p : List UInt8 × Nat) (r : Ws) : wth s kf put (p :: r) = (if !put && !Op.bytesLess p.1 s then [(s, kf.toNat)] else []) ++ ((if p.1 = s then [] else [p]) ++ wth s kf (put || !Op.bytesLess p.1 s) r) := rfl
theorem out_new (w : World) (x y : Value) : Out w [x, y] [] (((w.alloc (.cells #[x, y] 95)).alloc (.cells #[.slice none 0 0, .slice none 0 0] 95)).alloc (.cells #[.slice none 0 0, .slice none 0 0] 95)) := by
  have s1 : (w.alloc (.cells #[x, y] 95)).heap.size = w.heap.size + 1 := by simp
  have s2 : ((w.alloc (.cells #[x, y] 95)).alloc (.cells #[.slice none 0 0, .slice none 0 0] 95)).heap.size = w.heap.size + 1 + 1 := by simp
  have h0 := heap_alloc_new w (.cells #[x, y] 95)
  have h1 := heap_alloc_new (w.alloc (.cells #[x, y] 95)) (.cells #[.slice none 0 0, .slice none 0 0] 95)
  have h2 := heap_alloc_new ((w.alloc (.cells #[x, y] 95)).alloc (.cells #[.slice none 0 0, .slice none 0 0] 95)) (.cells #[.slice none 0 0, .slice none 0 0] 95)
  rw [s1] at h1
  rw [s2] at h2
  have g : ∀ {u v : World}, w.grownBy u none → ∀ o, w.grownBy (u.alloc o) none := fun {u v} h o => ⟨h.os, h.tape, h.output, by simp; have := h.size; omega, fun k hk hn => ((World.grownBy_alloc u o none).block k (Nat.lt_of_lt_of_le hk h.size) (by simp)).trans (h.block k hk hn)⟩
  refine ⟨g (v := w) (g (v := w) (World.grownBy_alloc w _ none) _) _, by simp, hAlloc (hAlloc h0 _) _, hAlloc h1 _, _, _, h2, World.ownsRow_nil _ _ _ _, World.ownsRow_nil _ _ _ _⟩
/-- what with answers -/
def withP (w : World) (E : Ws) (e : Ending) (w' : World) : Prop := ∃ vN vI, e = .returned (.agg #[vN, vI]) ∧ w.grownBy w' none ∧ w'.ownsRow w.heap.size 9 1 vN E.length (E.map fun p => strV p.1) ∧ w'.ownsRow w.heap.size 3 1 vI E.length (E.map fun p => intV p.2)
theorem own_lowE {w : World} {a b e sz n : Nat} {v : Value} {xs : List Value} (h : w.ownsRow b e sz v n xs) (hab : a ≤ b) : w.ownsRow a e sz v n xs := by
  refine ⟨h.1, ?_⟩
  rcases h.2 with h2 | ⟨g, cap, cur, e1, hb, r⟩
  · exact Or.inl h2
  · exact Or.inr ⟨g, cap, cur, e1, Nat.le_trans hab hb, r⟩
/-- at the return -/
theorem out_ret {w W : World} {b0 : List Value} {A : Ws} (O : Out w b0 A W) : ∃ (P : Option Addr) (C : Nat) (P' : Option Addr) (C' : Nat), W.cell? ⟨w.heap.size + 1 + 1, 0, none⟩ = some (.slice P A.length C) ∧ W.cell? ⟨w.heap.size + 1 + 1, 1, none⟩ = some (.slice P' A.length C') ∧ W.cell? ⟨w.heap.size + 1, 0, none⟩ = some (.slice none 0 0) ∧ W.cell? ⟨w.heap.size + 1, 1, none⟩ = some (.slice none 0 0) ∧ W.frozen? ⟨w.heap.size + 1, 0, none⟩ = false ∧ W.frozen? ⟨w.heap.size + 1, 1, none⟩ = false ∧
    ((W.setCell ⟨w.heap.size + 1, 0, none⟩ (.slice P A.length C)).setCell ⟨w.heap.size + 1, 1, none⟩ (.slice P' A.length C')).cell? ⟨w.heap.size + 1, 0, none⟩ = some (.slice P A.length C) ∧ ((W.setCell ⟨w.heap.size + 1, 0, none⟩ (.slice P A.length C)).setCell ⟨w.heap.size + 1, 1, none⟩ (.slice P' A.length C')).cell? ⟨w.heap.size + 1, 1, none⟩ = some (.slice P' A.length C') ∧
    withP w A (.returned (.agg #[.slice P A.length C, .slice P' A.length C'])) ((W.setCell ⟨w.heap.size + 1, 0, none⟩ (.slice P A.length C)).setCell ⟨w.heap.size + 1, 1, none⟩ (.slice P' A.length C')) := by
  obtain ⟨vN, vI, hB, hN, hI⟩ := O.o
  obtain ⟨P, C, rfl⟩ := row_form hN
  obtain ⟨P', C', rfl⟩ := row_form hI
  obtain ⟨a0, a1, _, _, _, _, _, _⟩ := b2cells hB
  obtain ⟨r0, r1, f0, f1, _, _, _, _⟩ := b2cells O.r
  have hR : ((W.setCell ⟨w.heap.size + 1, 0, none⟩ (.slice P A.length C)).setCell ⟨w.heap.size + 1, 1, none⟩ (.slice P' A.length C')).heap[w.heap.size + 1]? = some (.cells #[.slice P A.length C, .slice P' A.length C'] 95 (0, 0)) := (heap_setCell_same _ _ 1 _ _ _ ((heap_setCell_same _ _ 0 _ _ _ O.r).trans rfl)).trans rfl
  obtain ⟨y0, y1, _, _, _, _, _, _⟩ := b2cells hR
  have blk : ∀ k, k ≠ w.heap.size + 1 → ((W.setCell ⟨w.heap.size + 1, 0, none⟩ (.slice P A.length C)).setCell ⟨w.heap.size + 1, 1, none⟩ (.slice P' A.length C')).heap[k]? = W.heap[k]? := fun k hk => (heap_setCell_other _ ⟨w.heap.size + 1, 1, none⟩ k _ hk).trans (heap_setCell_other _ ⟨w.heap.size + 1, 0, none⟩ k _ hk)
  have gr : W.grownBy ((W.setCell ⟨w.heap.size + 1, 0, none⟩ (.slice P A.length C)).setCell ⟨w.heap.size + 1, 1, none⟩ (.slice P' A.length C')) (some (w.heap.size + 1)) := ⟨rfl, rfl, rfl, by simp, fun k _ hk => blk k (fun e => hk (by rw [e]))⟩
  have own : ∀ {e : TypeId} {n : Nat} {x : Value} {xs : List Value}, W.ownsRow (w.heap.size + 3) e 1 x n xs → ((W.setCell ⟨w.heap.size + 1, 0, none⟩ (.slice P A.length C)).setCell ⟨w.heap.size + 1, 1, none⟩ (.slice P' A.length C')).ownsRow w.heap.size e 1 x n xs := fun {e n x xs} h => own_lowE (World.ownsRow.kept h gr (by
    cases hx : x.ownBlock with
    | none => exact Or.inl rfl
    | some g => exact Or.inr (fun e => by cases e; have := own_ge h _ hx; omega))) (by omega)
  refine ⟨P, C, P', C', a0, a1, r0, r1, f0, f1, y0, y1, _, _, rfl, ⟨O.b.os, O.b.tape, O.b.output, ?_, fun k hk hn => ?_⟩, own hN, own hI⟩
  · have := O.b.size
    simp only [World.size_setCell]; exact this
  · rw [blk k (by omega)]; exact O.b.block k hk hn
set_option maxHeartbeats 4000000 in
set_option maxRecDepth 1000000 in
theorem with_any (p1 p2 : Option Addr) (c1 c2 N : Nat) (l : Ws) (s : List UInt8) (kf : Int) (w : World) (hkf : kf < 0 ∨ ∃ kn : Nat, kf = kn) (hN : l.length = N) (hb : N ≤ 4000000) (hin : l = [] ∨ ∃ g1 o1 g2 o2, p1 = some ⟨g1, o1, none⟩ ∧ p2 = some ⟨g2, o2, none⟩ ∧ ∀ (i : Nat) p, l[i]? = some p → w.cell? ⟨g1, o1 + i, none⟩ = some (strV p.1) ∧ w.cell? ⟨g2, o2 + i, none⟩ = some (intV p.2)) :
    Calls Try.prog 69 #[.agg #[.slice p1 N c1, .slice p2 N c2], .string ⟨s.toArray⟩, .int .i64 kf] w (withP w (wth s kf (decide (kf < 0)) l)) := by
  have HN : Hid (l.length = N) := hN
  have HKF : Hid (kf < 0 ∨ ∃ kn : Nat, kf = kn) := hkf
  have O0 : Hid (Out w [.slice p1 N c1, .slice p2 N c2] [] (((w.alloc (.cells #[.slice p1 N c1, .slice p2 N c2] 95)).alloc (.cells #[.slice none 0 0, .slice none 0 0] 95)).alloc (.cells #[.slice none 0 0, .slice none 0 0] 95))) := out_new w _ _
  have HIN : Hid (l = [] ∨ ∃ g1 o1 g2 o2, p1 = some ⟨g1, o1, none⟩ ∧ p2 = some ⟨g2, o2, none⟩ ∧ ∀ (i : Nat) p, l[i]? = some p → w.cell? ⟨g1, o1 + i, none⟩ = some (strV p.1) ∧ w.cell? ⟨g2, o2 + i, none⟩ = some (intV p.2)) := hin
  obtain ⟨E, hE⟩ : ∃ E, E = wth s kf (decide (kf < 0)) l := ⟨_, rfl⟩
  rw [← hE]
  have HE : Hid (E = [] ++ wth s kf (decide (kf < 0)) (l.drop 0)) := hE
  have hbi : (N : Int) ≤ 4000000 := by omega
  clear hN hin hE hkf
  go_enter Try.func69, Try.ntmps69
  go_wp2_with fail
  generalize ((w.alloc (.cells #[.slice p1 N c1, .slice p2 N c2] 95)).alloc (.cells #[.slice none 0 0, .slice none 0 0] 95)).alloc (.cells #[.slice none 0 0, .slice none 0 0] 95) = w2 at *
  go_loopw [8, 9] (fun s8 s9 wr => ∃ (k : Nat) (put : Bool) (A : Ws), s9 = .int .i64 k ∧ s8 = .bool put ∧ k ≤ N ∧ A.length ≤ 2 * k ∧ Hid (E = A ++ wth s kf put (l.drop k)) ∧ Hid (kf < 0 → put = true) ∧ Hid (Out w [.slice p1 N c1, .slice p2 N c2] A wr)) (fun _ s9 _ => N - (intOf s9).toNat)
  case atStart => exact ⟨0, decide (kf < 0), [], rfl, rfl, Nat.zero_le _, Nat.zero_le _, HE, fun h => decide_eq_true h, O0⟩
  case round =>
    obtain ⟨k, put, A, rfl, rfl, hk, hAk, hd, hp, hO⟩ := hrel
    clear HE O0
    by_cases hlt : k < N
    · obtain ⟨⟨a, i⟩, hx⟩ : ∃ p, l[k]? = some p := ⟨l[k]'(by rw [HN.out]; exact hlt), List.getElem?_eq_getElem _⟩
      have hlti : (k : Int) < (N : Int) := by omega
      obtain ⟨g1, o1, g2, o2, rfl, rfl, hc⟩ : ∃ g1 o1 g2 o2, p1 = some ⟨g1, o1, none⟩ ∧ p2 = some ⟨g2, o2, none⟩ ∧ ∀ (i : Nat) p, l[i]? = some p → w.cell? ⟨g1, o1 + i, none⟩ = some (strV p.1) ∧ w.cell? ⟨g2, o2 + i, none⟩ = some (intV p.2) := by
        rcases HIN.out with h | h
        · rw [h] at hx; simp at hx
        · exact h
      obtain ⟨y1, y2⟩ := hc k _ hx
      have hl1 := World.block_lt_of_cell? w _ y1
      have hl2 := World.block_lt_of_cell? w _ y2
      simp only at hl1 hl2
      have hd1 := hd.out
      rw [drop_cons hx, wth_cons] at hd1
      clear hc HIN hx hd
      have Y : Hid (∀ {A' : Ws} {w' : World}, Out w [.slice (some ⟨g1, o1, none⟩) N c1, .slice (some ⟨g2, o2, none⟩) N c2] A' w' → w'.cell? ⟨g1, o1 + k, none⟩ = some (.string ⟨a.toArray⟩) ∧ w'.cell? ⟨g2, o2 + k, none⟩ = some (.int .i64 (i : Int)) ∧ w'.cell? ⟨w.heap.size, 0, none⟩ = some (.slice (some ⟨g1, o1, none⟩) N c1) ∧ w'.cell? ⟨w.heap.size, 1, none⟩ = some (.slice (some ⟨g2, o2, none⟩) N c2)) := fun {A' w'} h => ⟨h.b.cell y1 (by simp), h.b.cell y2 (by simp), (Joins.cell_of_block h.c 0).trans rfl, (Joins.cell_of_block h.c 1).trans rfl⟩
      clear y1 y2
      obtain ⟨y1, y2, x0, x1⟩ := Y.out hO.out
      cases put with
      | true =>
        have HD1 : Hid (E = A ++ ((if a = s then [] else [(a, i)]) ++ wth s kf true (l.drop (k + 1)))) := by show _ = _; rw [hd1]; simp
        clear hd1
        by_cases has : a = s
        · have b9 : (a == s) = true := by rw [has]; simp
          have HD : Hid (E = A ++ wth s kf true (l.drop (k + 1))) := by show _ = _; rw [HD1.out, if_pos has, List.nil_append]
          clear has
          go_wp2_with fail
          go_roundw
          case rel => exact ⟨k + 1, true, A, by go_num, rfl, hlt, by omega, HD, fun _ => rfl, hO⟩
          case measure => simp [intOf]; omega
        · have b9 : (a == s) = false := by rw [beq_eq_false_iff_ne]; exact has
          have HD : Hid (E = (A ++ [(a, i)]) ++ wth s kf true (l.drop (k + 1))) := by show _ = _; rw [HD1.out, if_neg has]; simp
          obtain ⟨vN, vI, hB2, hN2, hI2⟩ := hO.out.o
          obtain ⟨PN, CN, rfl⟩ := row_form hN2
          obtain ⟨PI, CI, rfl⟩ := row_form hI2
          obtain ⟨z0, z1, q0, q1, yc0, yc1, yc2, yc3⟩ := b2cells hB2
          have hsz := hO.out.sz
          go_wp2_with fail
          refine wp_region_noPanic ?_
          have bel0 : Below (w.heap.size + 3) wr wr.drew := below_drewN (Below.refl _ wr) 1
          have hN0 : wr.drew.ownsRow (w.heap.size + 3) 9 1 _ A.length (A.map fun p => strV p.1) := hN2
          have hI0 : wr.drew.ownsRow (w.heap.size + 3) 3 1 _ A.length (A.map fun p => intV p.2) := hI2
          refine wp_region_G (S := SG 19 21 (fun w' => w'.cell? ⟨w.heap.size + 1 + 1, 0, none⟩ = some (.slice PN A.length CN)) (fun w' => w'.cell? ⟨w.heap.size + 1 + 1, 1, none⟩ = some (.slice PI A.length CI)) (fun w' => w'.cell? ⟨w.heap.size, 0, none⟩ = some (.slice (some ⟨g1, o1, none⟩) N c1) ∧ w'.cell? ⟨w.heap.size, 1, none⟩ = some (.slice (some ⟨g2, o2, none⟩) N c2) ∧ w'.cell? ⟨g1, o1 + k, none⟩ = some (.string ⟨a.toArray⟩) ∧ w'.cell? ⟨g2, o2 + k, none⟩ = some (.int .i64 (i : Int)))) (by kernel_rfl) ⟨fun _ => z0, fun _ => z1, x0, x1, y1, y2⟩ (fun hH => ?_)
          obtain ⟨wx, hwx⟩ : ∃ x, x = wr.drew := ⟨_, rfl⟩
          rw [← hwx] at bel0 hN0 hI0 hH ⊢
          clear hwx
          simp only [Array.replicate, List.size_toArray, List.length_cons, List.length_nil, List.replicate, Nat.zero_add, Nat.reduceAdd] at hH ⊢
          refine takeG (i := 0) (v := .pointer (some ⟨w.heap.size + 1 + 1, 0, none⟩)) [] rfl rfl (by kernel_rfl) (by kernel_rfl) (by kernel_rfl) (by kernel_rfl) (by kernel_rfl) (SG_set (by decide) (by decide)) (fun _ _ _ h => h) (Or.inl ⟨by rfl, ?_⟩) hH (fun hH => ?_)
          · intro w5 hSw; go_simp
          simp only [zA9, zB9, zC9] at hH ⊢
          refine takeG (i := 1) (v := .slice PN A.length CN) [19, 21] rfl rfl (by kernel_rfl) (by kernel_rfl) (by kernel_rfl) (by kernel_rfl) (by kernel_rfl) (SG_set (by decide) (by decide)) (fun _ _ _ h => h) (Or.inl ⟨by rfl, ?_⟩) hH (fun hH => ?_)
          · intro w5 hSw; obtain ⟨L5, hU5, hA5, hB5, hR5⟩ := hSw; have a5 := hA5 (hU5 _ (by simp)); have b5 := hB5 (hU5 _ (by simp)); go_simp
          simp only [zA9, zB9, zC9] at hH ⊢
          refine takeG (i := 2) (v := .pointer (some ⟨w.heap.size, 0, none⟩)) [] rfl rfl (by kernel_rfl) (by kernel_rfl) (by kernel_rfl) (by kernel_rfl) (by kernel_rfl) (SG_set (by decide) (by decide)) (fun _ _ _ h => h) (Or.inl ⟨by rfl, ?_⟩) hH (fun hH => ?_)
          · intro w5 hSw; go_simp
          simp only [zA9, zB9, zC9] at hH ⊢
          refine takeG (i := 3) (v := .slice (some ⟨g1, o1, none⟩) N c1) [] rfl rfl (by kernel_rfl) (by kernel_rfl) (by kernel_rfl) (by kernel_rfl) (by kernel_rfl) (SG_set (by decide) (by decide)) (fun _ _ _ h => h) (Or.inl ⟨by rfl, ?_⟩) hH (fun hH => ?_)
          · intro w5 hSw; obtain ⟨L5, hU5, hA5, hB5, e1, e2, e3, e4⟩ := hSw; go_simp
          simp only [zA9, zB9, zC9] at hH ⊢
          refine takeG (i := 4) (v := .int .i64 (k : Int)) [] rfl rfl (by kernel_rfl) (by kernel_rfl) (by kernel_rfl) (by kernel_rfl) (by kernel_rfl) (SG_set (by decide) (by decide)) (fun _ _ _ h => h) (Or.inl ⟨by rfl, ?_⟩) hH (fun hH => ?_)
          · intro w5 hSw; go_simp
          simp only [zA9, zB9, zC9] at hH ⊢
          refine takeG (i := 5) (v := .pointer (some ⟨g1, o1 + k, none⟩)) [] rfl rfl (by kernel_rfl) (by kernel_rfl) (by kernel_rfl) (by kernel_rfl) (by kernel_rfl) (SG_set (by decide) (by decide)) (fun _ _ _ h => h) (Or.inl ⟨by rfl, ?_⟩) hH (fun hH => ?_)
          · intro w5 hSw; go_simp
          simp only [zA9, zB9, zC9] at hH ⊢
          refine takeG (i := 6) (v := .string ⟨a.toArray⟩) [] rfl rfl (by kernel_rfl) (by kernel_rfl) (by kernel_rfl) (by kernel_rfl) (by kernel_rfl) (SG_set (by decide) (by decide)) (fun _ _ _ h => h) (Or.inl ⟨by rfl, ?_⟩) hH (fun hH => ?_)
          · intro w5 hSw; obtain ⟨L5, hU5, hA5, hB5, e1, e2, e3, e4⟩ := hSw; go_simp
          simp only [zA9, zB9, zC9] at hH ⊢
          refine takeG (i := 9) (v := .pointer (some ⟨w.heap.size + 1 + 1, 1, none⟩)) [] rfl rfl (by kernel_rfl) (by kernel_rfl) (by kernel_rfl) (by kernel_rfl) (by kernel_rfl) (SG_set (by decide) (by decide)) (fun _ _ _ h => h) (Or.inl ⟨by rfl, ?_⟩) hH (fun hH => ?_)
          · intro w5 hSw; go_simp
          simp only [zA9, zB9, zC9] at hH ⊢
          refine takeG (i := 10) (v := .slice PI A.length CI) [19, 21] rfl rfl (by kernel_rfl) (by kernel_rfl) (by kernel_rfl) (by kernel_rfl) (by kernel_rfl) (SG_set (by decide) (by decide)) (fun _ _ _ h => h) (Or.inl ⟨by rfl, ?_⟩) hH (fun hH => ?_)
          · intro w5 hSw; obtain ⟨L5, hU5, hA5, hB5, hR5⟩ := hSw; have a5 := hA5 (hU5 _ (by simp)); have b5 := hB5 (hU5 _ (by simp)); go_simp
          simp only [zA9, zB9, zC9] at hH ⊢
          refine takeG (i := 11) (v := .pointer (some ⟨w.heap.size, 1, none⟩)) [] rfl rfl (by kernel_rfl) (by kernel_rfl) (by kernel_rfl) (by kernel_rfl) (by kernel_rfl) (SG_set (by decide) (by decide)) (fun _ _ _ h => h) (Or.inl ⟨by rfl, ?_⟩) hH (fun hH => ?_)
          · intro w5 hSw; go_simp
          simp only [zA9, zB9, zC9] at hH ⊢
          refine takeG (i := 12) (v := .slice (some ⟨g2, o2, none⟩) N c2) [] rfl rfl (by kernel_rfl) (by kernel_rfl) (by kernel_rfl) (by kernel_rfl) (by kernel_rfl) (SG_set (by decide) (by decide)) (fun _ _ _ h => h) (Or.inl ⟨by rfl, ?_⟩) hH (fun hH => ?_)
          · intro w5 hSw; obtain ⟨L5, hU5, hA5, hB5, e1, e2, e3, e4⟩ := hSw; go_simp
          simp only [zA9, zB9, zC9] at hH ⊢
          refine takeG (i := 13) (v := .int .i64 (k : Int)) [] rfl rfl (by kernel_rfl) (by kernel_rfl) (by kernel_rfl) (by kernel_rfl) (by kernel_rfl) (SG_set (by decide) (by decide)) (fun _ _ _ h => h) (Or.inl ⟨by rfl, ?_⟩) hH (fun hH => ?_)
          · intro w5 hSw; go_simp
          simp only [zA9, zB9, zC9] at hH ⊢
          refine takeG (i := 14) (v := .pointer (some ⟨g2, o2 + k, none⟩)) [] rfl rfl (by kernel_rfl) (by kernel_rfl) (by kernel_rfl) (by kernel_rfl) (by kernel_rfl) (SG_set (by decide) (by decide)) (fun _ _ _ h => h) (Or.inl ⟨by rfl, ?_⟩) hH (fun hH => ?_)
          · intro w5 hSw; go_simp
          simp only [zA9, zB9, zC9] at hH ⊢
          refine takeG (i := 15) (v := .int .i64 (i : Int)) [] rfl rfl (by kernel_rfl) (by kernel_rfl) (by kernel_rfl) (by kernel_rfl) (by kernel_rfl) (SG_set (by decide) (by decide)) (fun _ _ _ h => h) (Or.inl ⟨by rfl, ?_⟩) hH (fun hH => ?_)
          · intro w5 hSw; obtain ⟨L5, hU5, hA5, hB5, e1, e2, e3, e4⟩ := hSw; go_simp
          simp only [zA9, zB9, zC9] at hH ⊢
          refine wpAnyG_ready (rs := [7, 16]) (by kernel_rfl) (by simp) ?_
          refine AllReadyG.cons rfl (fun K hK => ?_) (AllReadyG.cons rfl (fun K hK => ?_) AllReadyG.nil)
          · go_simp
            have bel_1 : Below (w.heap.size + 3) wr (wx.alloc (.cells #[.string ⟨a.toArray⟩] 9)) := bel0.alloc (by have := bel0.size; omega) _
            have hN_1 := World.ownsRow.alloc hN0 (.cells #[.string ⟨a.toArray⟩] 9)
            have hI_1 := World.ownsRow.alloc hI0 (.cells #[.string ⟨a.toArray⟩] 9)
            have hb_1 : (wx.alloc (.cells #[.string ⟨a.toArray⟩] 9)).heap[wx.heap.size]? = some (.cells #[.string ⟨a.toArray⟩] 9 (0, 0)) := heap_alloc_new _ _
            have sw_1 := bel0.size
            refine hK.out _ _ ⟨fun _ => (bel_1.cell (p := ⟨w.heap.size + 1 + 1, 0, none⟩) (by simp)).trans z0, fun _ => (bel_1.cell (p := ⟨w.heap.size + 1 + 1, 1, none⟩) (by simp)).trans z1, (bel_1.cell (p := ⟨w.heap.size, 0, none⟩) (by simp)).trans x0, (bel_1.cell (p := ⟨w.heap.size, 1, none⟩) (by simp)).trans x1, (bel_1.cell (p := ⟨g1, o1 + k, none⟩) (show g1 < w.heap.size + 3 by omega)).trans y1, (bel_1.cell (p := ⟨g2, o2 + k, none⟩) (show g2 < w.heap.size + 3 by omega)).trans y2⟩ (fun hH => ?_)
            clear hK K
            obtain ⟨w_1, hw_1⟩ : ∃ x, x = wx.alloc (.cells #[.string ⟨a.toArray⟩] 9) := ⟨_, rfl⟩
            rw [← hw_1] at bel_1 hN_1 hI_1 hb_1 hH ⊢
            clear hw_1
            simp only [zA9, zB9, zC9] at hH ⊢
            refine wpAnyG_ready (rs := [8, 16]) (by kernel_rfl) (by simp) ?_
            refine AllReadyG.cons rfl (fun K hK => ?_) (AllReadyG.cons rfl (fun K hK => ?_) AllReadyG.nil)
            · refine step_one 54 9 (.string ⟨#[]⟩) 16 strSlice strInfo rfl rfl (.tmp 50) (.tmp 56) rfl (w.heap.size + 3) A.length (.slice PN A.length CN) (A.map fun p => strV p.1) (.string ⟨a.toArray⟩) (wx.heap.size) rfl hN_1 rfl ((Joins.cell_of_block hb_1 0).trans rfl) rfl (by omega) (by have := bel_1.size; omega) (by decide) ?_
              intro v_2 w_2 hr_2 hg_2
              have bel_2 : Below (w.heap.size + 3) wr w_2 := bel_1.trans (below_own hg_2 (by have := bel_1.size; omega) (own_ge hN_1))
              have hk_2 := keptI hN_1 hI_1 hg_2
              obtain ⟨P_2, C_2, rfl⟩ := row_form hr_2
              refine hK.out _ _ ⟨fun _ => (bel_2.cell (p := ⟨w.heap.size + 1 + 1, 0, none⟩) (by simp)).trans z0, fun _ => (bel_2.cell (p := ⟨w.heap.size + 1 + 1, 1, none⟩) (by simp)).trans z1, (bel_2.cell (p := ⟨w.heap.size, 0, none⟩) (by simp)).trans x0, (bel_2.cell (p := ⟨w.heap.size, 1, none⟩) (by simp)).trans x1, (bel_2.cell (p := ⟨g1, o1 + k, none⟩) (show g1 < w.heap.size + 3 by omega)).trans y1, (bel_2.cell (p := ⟨g2, o2 + k, none⟩) (show g2 < w.heap.size + 3 by omega)).trans y2⟩ (fun hH => ?_)
              clear hK K
              simp only [Act.put, List.setIfInBounds_toArray, List.set_cons_zero, List.set_cons_succ] at hH ⊢
              refine takeG (i := 18) (v := .pointer (some ⟨w.heap.size + 1 + 1, 0, none⟩)) [] rfl rfl (by kernel_rfl) (by kernel_rfl) (by kernel_rfl) (by kernel_rfl) (by kernel_rfl) (SG_set (by decide) (by decide)) (fun _ _ _ h => h) (Or.inl ⟨by rfl, ?_⟩) hH (fun hH => ?_)
              · intro w5 hSw; go_simp
              simp only [zA9, zB9, zC9] at hH ⊢
              refine wpAnyG_ready (rs := [16]) (by kernel_rfl) (by simp) ?_
              refine AllReadyG.cons rfl (fun K hK => ?_) AllReadyG.nil
              go_simp
              have bel_3 : Below (w.heap.size + 3) wr (w_2.alloc (.cells #[.int .i64 (i : Int)] 3)) := bel_2.alloc (by have := bel_2.size; omega) _
              have hN_3 := World.ownsRow.alloc hr_2 (.cells #[.int .i64 (i : Int)] 3)
              have hI_3 := World.ownsRow.alloc hk_2 (.cells #[.int .i64 (i : Int)] 3)
              have hb_3 : (w_2.alloc (.cells #[.int .i64 (i : Int)] 3)).heap[w_2.heap.size]? = some (.cells #[.int .i64 (i : Int)] 3 (0, 0)) := heap_alloc_new _ _
              have sw_3 := bel_2.size
              refine hK.out _ _ ⟨fun _ => (bel_3.cell (p := ⟨w.heap.size + 1 + 1, 0, none⟩) (by simp)).trans z0, fun _ => (bel_3.cell (p := ⟨w.heap.size + 1 + 1, 1, none⟩) (by simp)).trans z1, (bel_3.cell (p := ⟨w.heap.size, 0, none⟩) (by simp)).trans x0, (bel_3.cell (p := ⟨w.heap.size, 1, none⟩) (by simp)).trans x1, (bel_3.cell (p := ⟨g1, o1 + k, none⟩) (show g1 < w.heap.size + 3 by omega)).trans y1, (bel_3.cell (p := ⟨g2, o2 + k, none⟩) (show g2 < w.heap.size + 3 by omega)).trans y2⟩ (fun hH => ?_)
              clear hK K
              obtain ⟨w_3, hw_3⟩ : ∃ x, x = w_2.alloc (.cells #[.int .i64 (i : Int)] 3) := ⟨_, rfl⟩
              rw [← hw_3] at bel_3 hN_3 hI_3 hb_3 hH ⊢
              clear hw_3
              simp only [zA9, zB9, zC9] at hH ⊢
              refine wpAnyG_ready (rs := [17]) (by kernel_rfl) (by simp) ?_
              refine AllReadyG.cons rfl (fun K hK => ?_) AllReadyG.nil
              refine step_one 28 3 (.int .i64 0) 8 intSlice intInfo rfl rfl (.tmp 59) (.tmp 65) rfl (w.heap.size + 3) A.length (.slice PI A.length CI) (A.map fun p => intV p.2) (.int .i64 (i : Int)) (w_2.heap.size) rfl hI_3 rfl ((Joins.cell_of_block hb_3 0).trans rfl) rfl (by omega) (by have := bel_3.size; omega) (by decide) ?_
              intro v_4 w_4 hr_4 hg_4
              have bel_4 : Below (w.heap.size + 3) wr w_4 := bel_3.trans (below_own hg_4 (by have := bel_3.size; omega) (own_ge hI_3))
              have hk_4 := keptS hN_3 hI_3 hg_4
              obtain ⟨P_4, C_4, rfl⟩ := row_form hr_4
              refine hK.out _ _ ⟨fun _ => (bel_4.cell (p := ⟨w.heap.size + 1 + 1, 0, none⟩) (by simp)).trans z0, fun _ => (bel_4.cell (p := ⟨w.heap.size + 1 + 1, 1, none⟩) (by simp)).trans z1, (bel_4.cell (p := ⟨w.heap.size, 0, none⟩) (by simp)).trans x0, (bel_4.cell (p := ⟨w.heap.size, 1, none⟩) (by simp)).trans x1, (bel_4.cell (p := ⟨g1, o1 + k, none⟩) (show g1 < w.heap.size + 3 by omega)).trans y1, (bel_4.cell (p := ⟨g2, o2 + k, none⟩) (show g2 < w.heap.size + 3 by omega)).trans y2⟩ (fun hH => ?_)
              clear hK K
              simp only [Act.put, List.setIfInBounds_toArray, List.set_cons_zero, List.set_cons_succ] at hH ⊢
              refine wpAnyG_ready (rs := [19]) (by kernel_rfl) (by simp) ?_
              refine AllReadyG.cons rfl (fun K hK => ?_) AllReadyG.nil
              have hBz : w_4.heap[w.heap.size + 1 + 1]? = some (.cells #[.slice PN A.length CN, .slice PI A.length CI] 95 (0, 0)) := (bel_4.block (w.heap.size + 1 + 1) (by omega)).trans hB2
              have hBy : (w_4.setCell ⟨w.heap.size + 1 + 1, 0, none⟩ (.slice P_2 (A.length + 1) C_2)).heap[w.heap.size + 1 + 1]? = some (.cells #[.slice P_2 (A.length + 1) C_2, .slice PI A.length CI] 95 (0, 0)) := (heap_setCell_same _ _ 0 _ _ _ hBz).trans rfl
              obtain ⟨zz0, zz1, qq0, qq1, _, _, _, _⟩ := b2cells hBz
              have OUT := out_mk (a := a) (i := i) hO.out bel_4 hBz hk_4 hr_4
              go_simp
              refine hK.out _ _ ⟨fun h => by simp at h, fun _ => (b2cells hBy).2.1, ⟨cell_set (b := w.heap.size) (by omega) ((bel_4.cell (p := ⟨w.heap.size, 0, none⟩) (show w.heap.size < w.heap.size + 3 by omega)).trans x0), cell_set (b := w.heap.size) (by omega) ((bel_4.cell (p := ⟨w.heap.size, 1, none⟩) (show w.heap.size < w.heap.size + 3 by omega)).trans x1), cell_set (b := g1) (by omega) ((bel_4.cell (p := ⟨g1, o1 + k, none⟩) (show g1 < w.heap.size + 3 by omega)).trans y1), cell_set (b := g2) (by omega) ((bel_4.cell (p := ⟨g2, o2 + k, none⟩) (show g2 < w.heap.size + 3 by omega)).trans y2)⟩⟩ (fun hH => ?_)
              clear hK K
              simp only [zA9, zB9, zC9] at hH ⊢
              refine takeG (i := 20) (v := .pointer (some ⟨w.heap.size + 1 + 1, 1, none⟩)) [] rfl rfl (by kernel_rfl) (by kernel_rfl) (by kernel_rfl) (by kernel_rfl) (by kernel_rfl) (SG_set (by decide) (by decide)) (fun _ _ _ h => h) (Or.inl ⟨by rfl, ?_⟩) hH (fun hH => ?_)
              · intro w5 hSw; go_simp
              simp only [zA9, zB9, zC9] at hH ⊢
              refine wpAnyG_ready (rs := [21]) (by kernel_rfl) (by simp) ?_
              refine AllReadyG.cons rfl (fun K hK => ?_) AllReadyG.nil
              obtain ⟨yy0, yy1, rr0, rr1, _, _, _, _⟩ := b2cells hBy
              go_simp
              refine hK.out _ _ ⟨fun h => by simp at h, fun h => by simp at h, ⟨cell_set (b := w.heap.size) (by omega) (cell_set (b := w.heap.size) (by omega) ((bel_4.cell (p := ⟨w.heap.size, 0, none⟩) (show w.heap.size < w.heap.size + 3 by omega)).trans x0)), cell_set (b := w.heap.size) (by omega) (cell_set (b := w.heap.size) (by omega) ((bel_4.cell (p := ⟨w.heap.size, 1, none⟩) (show w.heap.size < w.heap.size + 3 by omega)).trans x1)), cell_set (b := g1) (by omega) (cell_set (b := g1) (by omega) ((bel_4.cell (p := ⟨g1, o1 + k, none⟩) (show g1 < w.heap.size + 3 by omega)).trans y1)), cell_set (b := g2) (by omega) (cell_set (b := g2) (by omega) ((bel_4.cell (p := ⟨g2, o2 + k, none⟩) (show g2 < w.heap.size + 3 by omega)).trans y2))⟩⟩ (fun hH => ?_)
              refine wpAnyG_done (by kernel_rfl) ?_ _
              refine NoPanic.normal ?_
              go_wp2_with fail
              go_roundw
              case rel => exact ⟨k + 1, true, A ++ [(a, i)], by go_num, rfl, hlt, by simp; omega, HD, fun _ => rfl, OUT⟩
              case measure => simp [intOf]; omega
            · go_simp
              have bel_5 : Below (w.heap.size + 3) wr (w_1.alloc (.cells #[.int .i64 (i : Int)] 3)) := bel_1.alloc (by have := bel_1.size; omega) _
              have hN_5 := World.ownsRow.alloc hN_1 (.cells #[.int .i64 (i : Int)] 3)
              have hI_5 := World.ownsRow.alloc hI_1 (.cells #[.int .i64 (i : Int)] 3)
              have hb_5 : (w_1.alloc (.cells #[.int .i64 (i : Int)] 3)).heap[w_1.heap.size]? = some (.cells #[.int .i64 (i : Int)] 3 (0, 0)) := heap_alloc_new _ _
              have ho_5 := hAlloc hb_1 (.cells #[.int .i64 (i : Int)] 3)
              have sw_5 := bel_1.size
              refine hK.out _ _ ⟨fun _ => (bel_5.cell (p := ⟨w.heap.size + 1 + 1, 0, none⟩) (by simp)).trans z0, fun _ => (bel_5.cell (p := ⟨w.heap.size + 1 + 1, 1, none⟩) (by simp)).trans z1, (bel_5.cell (p := ⟨w.heap.size, 0, none⟩) (by simp)).trans x0, (bel_5.cell (p := ⟨w.heap.size, 1, none⟩) (by simp)).trans x1, (bel_5.cell (p := ⟨g1, o1 + k, none⟩) (show g1 < w.heap.size + 3 by omega)).trans y1, (bel_5.cell (p := ⟨g2, o2 + k, none⟩) (show g2 < w.heap.size + 3 by omega)).trans y2⟩ (fun hH => ?_)
              clear hK K
              obtain ⟨w_5, hw_5⟩ : ∃ x, x = w_1.alloc (.cells #[.int .i64 (i : Int)] 3) := ⟨_, rfl⟩
              rw [← hw_5] at bel_5 hN_5 hI_5 hb_5 ho_5 hH ⊢
              clear hw_5
              simp only [zA9, zB9, zC9] at hH ⊢
              refine wpAnyG_ready (rs := [8]) (by kernel_rfl) (by simp) ?_
              refine AllReadyG.cons rfl (fun K hK => ?_) AllReadyG.nil
              refine step_one 54 9 (.string ⟨#[]⟩) 16 strSlice strInfo rfl rfl (.tmp 50) (.tmp 56) rfl (w.heap.size + 3) A.length (.slice PN A.length CN) (A.map fun p => strV p.1) (.string ⟨a.toArray⟩) (wx.heap.size) rfl hN_5 rfl ((Joins.cell_of_block ho_5 0).trans rfl) rfl (by omega) (by have := bel_5.size; omega) (by decide) ?_
              intro v_6 w_6 hr_6 hg_6
              have bel_6 : Below (w.heap.size + 3) wr w_6 := bel_5.trans (below_own hg_6 (by have := bel_5.size; omega) (own_ge hN_5))
              have hk_6 := keptI hN_5 hI_5 hg_6
              have ho_6 := keepK hN_5 hb_5 (by decide) hg_6
              obtain ⟨P_6, C_6, rfl⟩ := row_form hr_6
              refine hK.out _ _ ⟨fun _ => (bel_6.cell (p := ⟨w.heap.size + 1 + 1, 0, none⟩) (by simp)).trans z0, fun _ => (bel_6.cell (p := ⟨w.heap.size + 1 + 1, 1, none⟩) (by simp)).trans z1, (bel_6.cell (p := ⟨w.heap.size, 0, none⟩) (by simp)).trans x0, (bel_6.cell (p := ⟨w.heap.size, 1, none⟩) (by simp)).trans x1, (bel_6.cell (p := ⟨g1, o1 + k, none⟩) (show g1 < w.heap.size + 3 by omega)).trans y1, (bel_6.cell (p := ⟨g2, o2 + k, none⟩) (show g2 < w.heap.size + 3 by omega)).trans y2⟩ (fun hH => ?_)
              clear hK K
              simp only [Act.put, List.setIfInBounds_toArray, List.set_cons_zero, List.set_cons_succ] at hH ⊢
              refine takeG (i := 18) (v := .pointer (some ⟨w.heap.size + 1 + 1, 0, none⟩)) [] rfl rfl (by kernel_rfl) (by kernel_rfl) (by kernel_rfl) (by kernel_rfl) (by kernel_rfl) (SG_set (by decide) (by decide)) (fun _ _ _ h => h) (Or.inl ⟨by rfl, ?_⟩) hH (fun hH => ?_)
              · intro w5 hSw; go_simp
              simp only [zA9, zB9, zC9] at hH ⊢
              refine wpAnyG_ready (rs := [17]) (by kernel_rfl) (by simp) ?_
              refine AllReadyG.cons rfl (fun K hK => ?_) AllReadyG.nil
              refine step_one 28 3 (.int .i64 0) 8 intSlice intInfo rfl rfl (.tmp 59) (.tmp 65) rfl (w.heap.size + 3) A.length (.slice PI A.length CI) (A.map fun p => intV p.2) (.int .i64 (i : Int)) (w_1.heap.size) rfl hk_6 rfl ((Joins.cell_of_block ho_6 0).trans rfl) rfl (by omega) (by have := bel_6.size; omega) (by decide) ?_
              intro v_7 w_7 hr_7 hg_7
              have bel_7 : Below (w.heap.size + 3) wr w_7 := bel_6.trans (below_own hg_7 (by have := bel_6.size; omega) (own_ge hk_6))
              have hk_7 := keptS hr_6 hk_6 hg_7
              obtain ⟨P_7, C_7, rfl⟩ := row_form hr_7
              refine hK.out _ _ ⟨fun _ => (bel_7.cell (p := ⟨w.heap.size + 1 + 1, 0, none⟩) (by simp)).trans z0, fun _ => (bel_7.cell (p := ⟨w.heap.size + 1 + 1, 1, none⟩) (by simp)).trans z1, (bel_7.cell (p := ⟨w.heap.size, 0, none⟩) (by simp)).trans x0, (bel_7.cell (p := ⟨w.heap.size, 1, none⟩) (by simp)).trans x1, (bel_7.cell (p := ⟨g1, o1 + k, none⟩) (show g1 < w.heap.size + 3 by omega)).trans y1, (bel_7.cell (p := ⟨g2, o2 + k, none⟩) (show g2 < w.heap.size + 3 by omega)).trans y2⟩ (fun hH => ?_)
              clear hK K
              simp only [Act.put, List.setIfInBounds_toArray, List.set_cons_zero, List.set_cons_succ] at hH ⊢
              refine wpAnyG_ready (rs := [19]) (by kernel_rfl) (by simp) ?_
              refine AllReadyG.cons rfl (fun K hK => ?_) AllReadyG.nil
              have hBz : w_7.heap[w.heap.size + 1 + 1]? = some (.cells #[.slice PN A.length CN, .slice PI A.length CI] 95 (0, 0)) := (bel_7.block (w.heap.size + 1 + 1) (by omega)).trans hB2
              have hBy : (w_7.setCell ⟨w.heap.size + 1 + 1, 0, none⟩ (.slice P_6 (A.length + 1) C_6)).heap[w.heap.size + 1 + 1]? = some (.cells #[.slice P_6 (A.length + 1) C_6, .slice PI A.length CI] 95 (0, 0)) := (heap_setCell_same _ _ 0 _ _ _ hBz).trans rfl
              obtain ⟨zz0, zz1, qq0, qq1, _, _, _, _⟩ := b2cells hBz
              have OUT := out_mk (a := a) (i := i) hO.out bel_7 hBz hk_7 hr_7
              go_simp
              refine hK.out _ _ ⟨fun h => by simp at h, fun _ => (b2cells hBy).2.1, ⟨cell_set (b := w.heap.size) (by omega) ((bel_7.cell (p := ⟨w.heap.size, 0, none⟩) (show w.heap.size < w.heap.size + 3 by omega)).trans x0), cell_set (b := w.heap.size) (by omega) ((bel_7.cell (p := ⟨w.heap.size, 1, none⟩) (show w.heap.size < w.heap.size + 3 by omega)).trans x1), cell_set (b := g1) (by omega) ((bel_7.cell (p := ⟨g1, o1 + k, none⟩) (show g1 < w.heap.size + 3 by omega)).trans y1), cell_set (b := g2) (by omega) ((bel_7.cell (p := ⟨g2, o2 + k, none⟩) (show g2 < w.heap.size + 3 by omega)).trans y2)⟩⟩ (fun hH => ?_)
              clear hK K
              simp only [zA9, zB9, zC9] at hH ⊢
              refine takeG (i := 20) (v := .pointer (some ⟨w.heap.size + 1 + 1, 1, none⟩)) [] rfl rfl (by kernel_rfl) (by kernel_rfl) (by kernel_rfl) (by kernel_rfl) (by kernel_rfl) (SG_set (by decide) (by decide)) (fun _ _ _ h => h) (Or.inl ⟨by rfl, ?_⟩) hH (fun hH => ?_)
              · intro w5 hSw; go_simp
              simp only [zA9, zB9, zC9] at hH ⊢
              refine wpAnyG_ready (rs := [21]) (by kernel_rfl) (by simp) ?_
              refine AllReadyG.cons rfl (fun K hK => ?_) AllReadyG.nil
              obtain ⟨yy0, yy1, rr0, rr1, _, _, _, _⟩ := b2cells hBy
              go_simp
              refine hK.out _ _ ⟨fun h => by simp at h, fun h => by simp at h, ⟨cell_set (b := w.heap.size) (by omega) (cell_set (b := w.heap.size) (by omega) ((bel_7.cell (p := ⟨w.heap.size, 0, none⟩) (show w.heap.size < w.heap.size + 3 by omega)).trans x0)), cell_set (b := w.heap.size) (by omega) (cell_set (b := w.heap.size) (by omega) ((bel_7.cell (p := ⟨w.heap.size, 1, none⟩) (show w.heap.size < w.heap.size + 3 by omega)).trans x1)), cell_set (b := g1) (by omega) (cell_set (b := g1) (by omega) ((bel_7.cell (p := ⟨g1, o1 + k, none⟩) (show g1 < w.heap.size + 3 by omega)).trans y1)), cell_set (b := g2) (by omega) (cell_set (b := g2) (by omega) ((bel_7.cell (p := ⟨g2, o2 + k, none⟩) (show g2 < w.heap.size + 3 by omega)).trans y2))⟩⟩ (fun hH => ?_)
              refine wpAnyG_done (by kernel_rfl) ?_ _
              refine NoPanic.normal ?_
              go_wp2_with fail
              go_roundw
              case rel => exact ⟨k + 1, true, A ++ [(a, i)], by go_num, rfl, hlt, by simp; omega, HD, fun _ => rfl, OUT⟩
              case measure => simp [intOf]; omega
          · go_simp
            have bel_8 : Below (w.heap.size + 3) wr (wx.alloc (.cells #[.int .i64 (i : Int)] 3)) := bel0.alloc (by have := bel0.size; omega) _
            have hN_8 := World.ownsRow.alloc hN0 (.cells #[.int .i64 (i : Int)] 3)
            have hI_8 := World.ownsRow.alloc hI0 (.cells #[.int .i64 (i : Int)] 3)
            have hb_8 : (wx.alloc (.cells #[.int .i64 (i : Int)] 3)).heap[wx.heap.size]? = some (.cells #[.int .i64 (i : Int)] 3 (0, 0)) := heap_alloc_new _ _
            have sw_8 := bel0.size
            refine hK.out _ _ ⟨fun _ => (bel_8.cell (p := ⟨w.heap.size + 1 + 1, 0, none⟩) (by simp)).trans z0, fun _ => (bel_8.cell (p := ⟨w.heap.size + 1 + 1, 1, none⟩) (by simp)).trans z1, (bel_8.cell (p := ⟨w.heap.size, 0, none⟩) (by simp)).trans x0, (bel_8.cell (p := ⟨w.heap.size, 1, none⟩) (by simp)).trans x1, (bel_8.cell (p := ⟨g1, o1 + k, none⟩) (show g1 < w.heap.size + 3 by omega)).trans y1, (bel_8.cell (p := ⟨g2, o2 + k, none⟩) (show g2 < w.heap.size + 3 by omega)).trans y2⟩ (fun hH => ?_)
            clear hK K
            obtain ⟨w_8, hw_8⟩ : ∃ x, x = wx.alloc (.cells #[.int .i64 (i : Int)] 3) := ⟨_, rfl⟩
            rw [← hw_8] at bel_8 hN_8 hI_8 hb_8 hH ⊢
            clear hw_8
            simp only [zA9, zB9, zC9] at hH ⊢
            refine wpAnyG_ready (rs := [7]) (by kernel_rfl) (by simp) ?_
            refine AllReadyG.cons rfl (fun K hK => ?_) AllReadyG.nil
            go_simp
            have bel_9 : Below (w.heap.size + 3) wr (w_8.alloc (.cells #[.string ⟨a.toArray⟩] 9)) := bel_8.alloc (by have := bel_8.size; omega) _
            have hN_9 := World.ownsRow.alloc hN_8 (.cells #[.string ⟨a.toArray⟩] 9)
            have hI_9 := World.ownsRow.alloc hI_8 (.cells #[.string ⟨a.toArray⟩] 9)
            have hb_9 : (w_8.alloc (.cells #[.string ⟨a.toArray⟩] 9)).heap[w_8.heap.size]? = some (.cells #[.string ⟨a.toArray⟩] 9 (0, 0)) := heap_alloc_new _ _
            have ho_9 := hAlloc hb_8 (.cells #[.string ⟨a.toArray⟩] 9)
            have sw_9 := bel_8.size
            refine hK.out _ _ ⟨fun _ => (bel_9.cell (p := ⟨w.heap.size + 1 + 1, 0, none⟩) (by simp)).trans z0, fun _ => (bel_9.cell (p := ⟨w.heap.size + 1 + 1, 1, none⟩) (by simp)).trans z1, (bel_9.cell (p := ⟨w.heap.size, 0, none⟩) (by simp)).trans x0, (bel_9.cell (p := ⟨w.heap.size, 1, none⟩) (by simp)).trans x1, (bel_9.cell (p := ⟨g1, o1 + k, none⟩) (show g1 < w.heap.size + 3 by omega)).trans y1, (bel_9.cell (p := ⟨g2, o2 + k, none⟩) (show g2 < w.heap.size + 3 by omega)).trans y2⟩ (fun hH => ?_)
            clear hK K
            obtain ⟨w_9, hw_9⟩ : ∃ x, x = w_8.alloc (.cells #[.string ⟨a.toArray⟩] 9) := ⟨_, rfl⟩
            rw [← hw_9] at bel_9 hN_9 hI_9 hb_9 ho_9 hH ⊢
            clear hw_9
            simp only [zA9, zB9, zC9] at hH ⊢
            refine wpAnyG_ready (rs := [8]) (by kernel_rfl) (by simp) ?_
            refine AllReadyG.cons rfl (fun K hK => ?_) AllReadyG.nil
            refine step_one 54 9 (.string ⟨#[]⟩) 16 strSlice strInfo rfl rfl (.tmp 50) (.tmp 56) rfl (w.heap.size + 3) A.length (.slice PN A.length CN) (A.map fun p => strV p.1) (.string ⟨a.toArray⟩) (w_8.heap.size) rfl hN_9 rfl ((Joins.cell_of_block hb_9 0).trans rfl) rfl (by omega) (by have := bel_9.size; omega) (by decide) ?_
            intro v_10 w_10 hr_10 hg_10
            have bel_10 : Below (w.heap.size + 3) wr w_10 := bel_9.trans (below_own hg_10 (by have := bel_9.size; omega) (own_ge hN_9))
            have hk_10 := keptI hN_9 hI_9 hg_10
            have ho_10 := keepK hN_9 ho_9 (by decide) hg_10
            obtain ⟨P_10, C_10, rfl⟩ := row_form hr_10
            refine hK.out _ _ ⟨fun _ => (bel_10.cell (p := ⟨w.heap.size + 1 + 1, 0, none⟩) (by simp)).trans z0, fun _ => (bel_10.cell (p := ⟨w.heap.size + 1 + 1, 1, none⟩) (by simp)).trans z1, (bel_10.cell (p := ⟨w.heap.size, 0, none⟩) (by simp)).trans x0, (bel_10.cell (p := ⟨w.heap.size, 1, none⟩) (by simp)).trans x1, (bel_10.cell (p := ⟨g1, o1 + k, none⟩) (show g1 < w.heap.size + 3 by omega)).trans y1, (bel_10.cell (p := ⟨g2, o2 + k, none⟩) (show g2 < w.heap.size + 3 by omega)).trans y2⟩ (fun hH => ?_)
            clear hK K
            simp only [Act.put, List.setIfInBounds_toArray, List.set_cons_zero, List.set_cons_succ] at hH ⊢
            refine takeG (i := 18) (v := .pointer (some ⟨w.heap.size + 1 + 1, 0, none⟩)) [] rfl rfl (by kernel_rfl) (by kernel_rfl) (by kernel_rfl) (by kernel_rfl) (by kernel_rfl) (SG_set (by decide) (by decide)) (fun _ _ _ h => h) (Or.inl ⟨by rfl, ?_⟩) hH (fun hH => ?_)
            · intro w5 hSw; go_simp
            simp only [zA9, zB9, zC9] at hH ⊢
            refine wpAnyG_ready (rs := [17]) (by kernel_rfl) (by simp) ?_
            refine AllReadyG.cons rfl (fun K hK => ?_) AllReadyG.nil
            refine step_one 28 3 (.int .i64 0) 8 intSlice intInfo rfl rfl (.tmp 59) (.tmp 65) rfl (w.heap.size + 3) A.length (.slice PI A.length CI) (A.map fun p => intV p.2) (.int .i64 (i : Int)) (wx.heap.size) rfl hk_10 rfl ((Joins.cell_of_block ho_10 0).trans rfl) rfl (by omega) (by have := bel_10.size; omega) (by decide) ?_
            intro v_11 w_11 hr_11 hg_11
            have bel_11 : Below (w.heap.size + 3) wr w_11 := bel_10.trans (below_own hg_11 (by have := bel_10.size; omega) (own_ge hk_10))
            have hk_11 := keptS hr_10 hk_10 hg_11
            obtain ⟨P_11, C_11, rfl⟩ := row_form hr_11
            refine hK.out _ _ ⟨fun _ => (bel_11.cell (p := ⟨w.heap.size + 1 + 1, 0, none⟩) (by simp)).trans z0, fun _ => (bel_11.cell (p := ⟨w.heap.size + 1 + 1, 1, none⟩) (by simp)).trans z1, (bel_11.cell (p := ⟨w.heap.size, 0, none⟩) (by simp)).trans x0, (bel_11.cell (p := ⟨w.heap.size, 1, none⟩) (by simp)).trans x1, (bel_11.cell (p := ⟨g1, o1 + k, none⟩) (show g1 < w.heap.size + 3 by omega)).trans y1, (bel_11.cell (p := ⟨g2, o2 + k, none⟩) (show g2 < w.heap.size + 3 by omega)).trans y2⟩ (fun hH => ?_)
            clear hK K
            simp only [Act.put, List.setIfInBounds_toArray, List.set_cons_zero, List.set_cons_succ] at hH ⊢
            refine wpAnyG_ready (rs := [19]) (by kernel_rfl) (by simp) ?_
            refine AllReadyG.cons rfl (fun K hK => ?_) AllReadyG.nil
            have hBz : w_11.heap[w.heap.size + 1 + 1]? = some (.cells #[.slice PN A.length CN, .slice PI A.length CI] 95 (0, 0)) := (bel_11.block (w.heap.size + 1 + 1) (by omega)).trans hB2
            have hBy : (w_11.setCell ⟨w.heap.size + 1 + 1, 0, none⟩ (.slice P_10 (A.length + 1) C_10)).heap[w.heap.size + 1 + 1]? = some (.cells #[.slice P_10 (A.length + 1) C_10, .slice PI A.length CI] 95 (0, 0)) := (heap_setCell_same _ _ 0 _ _ _ hBz).trans rfl
            obtain ⟨zz0, zz1, qq0, qq1, _, _, _, _⟩ := b2cells hBz
            have OUT := out_mk (a := a) (i := i) hO.out bel_11 hBz hk_11 hr_11
            go_simp
            refine hK.out _ _ ⟨fun h => by simp at h, fun _ => (b2cells hBy).2.1, ⟨cell_set (b := w.heap.size) (by omega) ((bel_11.cell (p := ⟨w.heap.size, 0, none⟩) (show w.heap.size < w.heap.size + 3 by omega)).trans x0), cell_set (b := w.heap.size) (by omega) ((bel_11.cell (p := ⟨w.heap.size, 1, none⟩) (show w.heap.size < w.heap.size + 3 by omega)).trans x1), cell_set (b := g1) (by omega) ((bel_11.cell (p := ⟨g1, o1 + k, none⟩) (show g1 < w.heap.size + 3 by omega)).trans y1), cell_set (b := g2) (by omega) ((bel_11.cell (p := ⟨g2, o2 + k, none⟩) (show g2 < w.heap.size + 3 by omega)).trans y2)⟩⟩ (fun hH => ?_)
            clear hK K
            simp only [zA9, zB9, zC9] at hH ⊢
            refine takeG (i := 20) (v := .pointer (some ⟨w.heap.size + 1 + 1, 1, none⟩)) [] rfl rfl (by kernel_rfl) (by kernel_rfl) (by kernel_rfl) (by kernel_rfl) (by kernel_rfl) (SG_set (by decide) (by decide)) (fun _ _ _ h => h) (Or.inl ⟨by rfl, ?_⟩) hH (fun hH => ?_)
            · intro w5 hSw; go_simp
            simp only [zA9, zB9, zC9] at hH ⊢
            refine wpAnyG_ready (rs := [21]) (by kernel_rfl) (by simp) ?_
            refine AllReadyG.cons rfl (fun K hK => ?_) AllReadyG.nil
            obtain ⟨yy0, yy1, rr0, rr1, _, _, _, _⟩ := b2cells hBy
            go_simp
            refine hK.out _ _ ⟨fun h => by simp at h, fun h => by simp at h, ⟨cell_set (b := w.heap.size) (by omega) (cell_set (b := w.heap.size) (by omega) ((bel_11.cell (p := ⟨w.heap.size, 0, none⟩) (show w.heap.size < w.heap.size + 3 by omega)).trans x0)), cell_set (b := w.heap.size) (by omega) (cell_set (b := w.heap.size) (by omega) ((bel_11.cell (p := ⟨w.heap.size, 1, none⟩) (show w.heap.size < w.heap.size + 3 by omega)).trans x1)), cell_set (b := g1) (by omega) (cell_set (b := g1) (by omega) ((bel_11.cell (p := ⟨g1, o1 + k, none⟩) (show g1 < w.heap.size + 3 by omega)).trans y1)), cell_set (b := g2) (by omega) (cell_set (b := g2) (by omega) ((bel_11.cell (p := ⟨g2, o2 + k, none⟩) (show g2 < w.heap.size + 3 by omega)).trans y2))⟩⟩ (fun hH => ?_)
            refine wpAnyG_done (by kernel_rfl) ?_ _
            refine NoPanic.normal ?_
            go_wp2_with fail
            go_roundw
            case rel => exact ⟨k + 1, true, A ++ [(a, i)], by go_num, rfl, hlt, by simp; omega, HD, fun _ => rfl, OUT⟩
            case measure => simp [intOf]; omega
      | false =>
        obtain ⟨kn, rfl⟩ : ∃ kn : Nat, kf = kn := by
          rcases HKF.out with h | h
          · have := hp.out h; cases this
          · exact h
        by_cases hls : Op.bytesLess a s = true
        · have HD1 : Hid (E = A ++ ((if a = s then [] else [(a, i)]) ++ wth s kn false (l.drop (k + 1)))) := by show _ = _; rw [hd1]; simp [hls]
          clear hd1
          by_cases has : a = s
          · have b9 : (a == s) = true := by rw [has]; simp
            have HD : Hid (E = A ++ wth s kn false (l.drop (k + 1))) := by show _ = _; rw [HD1.out, if_pos has, List.nil_append]
            clear has
            go_wp2_with fail
            go_roundw
            case rel => exact ⟨k + 1, false, A, by go_num, rfl, hlt, by omega, HD, hp, hO⟩
            case measure => simp [intOf]; omega
          · have b9 : (a == s) = false := by rw [beq_eq_false_iff_ne]; exact has
            have HD : Hid (E = (A ++ [(a, i)]) ++ wth s kn false (l.drop (k + 1))) := by show _ = _; rw [HD1.out, if_neg has]; simp
            obtain ⟨vN, vI, hB2, hN2, hI2⟩ := hO.out.o
            obtain ⟨PN, CN, rfl⟩ := row_form hN2
            obtain ⟨PI, CI, rfl⟩ := row_form hI2
            obtain ⟨z0, z1, q0, q1, yc0, yc1, yc2, yc3⟩ := b2cells hB2
            have hsz := hO.out.sz
            go_wp2_with fail
            refine wp_region_noPanic ?_
            have bel0 : Below (w.heap.size + 3) wr wr.drew := below_drewN (Below.refl _ wr) 1
            have hN0 : wr.drew.ownsRow (w.heap.size + 3) 9 1 _ A.length (A.map fun p => strV p.1) := hN2
            have hI0 : wr.drew.ownsRow (w.heap.size + 3) 3 1 _ A.length (A.map fun p => intV p.2) := hI2
            refine wp_region_G (S := SG 19 21 (fun w' => w'.cell? ⟨w.heap.size + 1 + 1, 0, none⟩ = some (.slice PN A.length CN)) (fun w' => w'.cell? ⟨w.heap.size + 1 + 1, 1, none⟩ = some (.slice PI A.length CI)) (fun w' => w'.cell? ⟨w.heap.size, 0, none⟩ = some (.slice (some ⟨g1, o1, none⟩) N c1) ∧ w'.cell? ⟨w.heap.size, 1, none⟩ = some (.slice (some ⟨g2, o2, none⟩) N c2) ∧ w'.cell? ⟨g1, o1 + k, none⟩ = some (.string ⟨a.toArray⟩) ∧ w'.cell? ⟨g2, o2 + k, none⟩ = some (.int .i64 (i : Int)))) (by kernel_rfl) ⟨fun _ => z0, fun _ => z1, x0, x1, y1, y2⟩ (fun hH => ?_)
            obtain ⟨wx, hwx⟩ : ∃ x, x = wr.drew := ⟨_, rfl⟩
            rw [← hwx] at bel0 hN0 hI0 hH ⊢
            clear hwx
            simp only [Array.replicate, List.size_toArray, List.length_cons, List.length_nil, List.replicate, Nat.zero_add, Nat.reduceAdd] at hH ⊢
            refine takeG (i := 0) (v := .pointer (some ⟨w.heap.size + 1 + 1, 0, none⟩)) [] rfl rfl (by kernel_rfl) (by kernel_rfl) (by kernel_rfl) (by kernel_rfl) (by kernel_rfl) (SG_set (by decide) (by decide)) (fun _ _ _ h => h) (Or.inl ⟨by rfl, ?_⟩) hH (fun hH => ?_)
            · intro w5 hSw; go_simp
            simp only [zA9, zB9, zC9] at hH ⊢
            refine takeG (i := 1) (v := .slice PN A.length CN) [19, 21] rfl rfl (by kernel_rfl) (by kernel_rfl) (by kernel_rfl) (by kernel_rfl) (by kernel_rfl) (SG_set (by decide) (by decide)) (fun _ _ _ h => h) (Or.inl ⟨by rfl, ?_⟩) hH (fun hH => ?_)
            · intro w5 hSw; obtain ⟨L5, hU5, hA5, hB5, hR5⟩ := hSw; have a5 := hA5 (hU5 _ (by simp)); have b5 := hB5 (hU5 _ (by simp)); go_simp
            simp only [zA9, zB9, zC9] at hH ⊢
            refine takeG (i := 2) (v := .pointer (some ⟨w.heap.size, 0, none⟩)) [] rfl rfl (by kernel_rfl) (by kernel_rfl) (by kernel_rfl) (by kernel_rfl) (by kernel_rfl) (SG_set (by decide) (by decide)) (fun _ _ _ h => h) (Or.inl ⟨by rfl, ?_⟩) hH (fun hH => ?_)
            · intro w5 hSw; go_simp
            simp only [zA9, zB9, zC9] at hH ⊢
            refine takeG (i := 3) (v := .slice (some ⟨g1, o1, none⟩) N c1) [] rfl rfl (by kernel_rfl) (by kernel_rfl) (by kernel_rfl) (by kernel_rfl) (by kernel_rfl) (SG_set (by decide) (by decide)) (fun _ _ _ h => h) (Or.inl ⟨by rfl, ?_⟩) hH (fun hH => ?_)
            · intro w5 hSw; obtain ⟨L5, hU5, hA5, hB5, e1, e2, e3, e4⟩ := hSw; go_simp
            simp only [zA9, zB9, zC9] at hH ⊢
            refine takeG (i := 4) (v := .int .i64 (k : Int)) [] rfl rfl (by kernel_rfl) (by kernel_rfl) (by kernel_rfl) (by kernel_rfl) (by kernel_rfl) (SG_set (by decide) (by decide)) (fun _ _ _ h => h) (Or.inl ⟨by rfl, ?_⟩) hH (fun hH => ?_)
            · intro w5 hSw; go_simp
            simp only [zA9, zB9, zC9] at hH ⊢
            refine takeG (i := 5) (v := .pointer (some ⟨g1, o1 + k, none⟩)) [] rfl rfl (by kernel_rfl) (by kernel_rfl) (by kernel_rfl) (by kernel_rfl) (by kernel_rfl) (SG_set (by decide) (by decide)) (fun _ _ _ h => h) (Or.inl ⟨by rfl, ?_⟩) hH (fun hH => ?_)
            · intro w5 hSw; go_simp
            simp only [zA9, zB9, zC9] at hH ⊢
            refine takeG (i := 6) (v := .string ⟨a.toArray⟩) [] rfl rfl (by kernel_rfl) (by kernel_rfl) (by kernel_rfl) (by kernel_rfl) (by kernel_rfl) (SG_set (by decide) (by decide)) (fun _ _ _ h => h) (Or.inl ⟨by rfl, ?_⟩) hH (fun hH => ?_)
            · intro w5 hSw; obtain ⟨L5, hU5, hA5, hB5, e1, e2, e3, e4⟩ := hSw; go_simp
            simp only [zA9, zB9, zC9] at hH ⊢
            refine takeG (i := 9) (v := .pointer (some ⟨w.heap.size + 1 + 1, 1, none⟩)) [] rfl rfl (by kernel_rfl) (by kernel_rfl) (by kernel_rfl) (by kernel_rfl) (by kernel_rfl) (SG_set (by decide) (by decide)) (fun _ _ _ h => h) (Or.inl ⟨by rfl, ?_⟩) hH (fun hH => ?_)
            · intro w5 hSw; go_simp
            simp only [zA9, zB9, zC9] at hH ⊢
            refine takeG (i := 10) (v := .slice PI A.length CI) [19, 21] rfl rfl (by kernel_rfl) (by kernel_rfl) (by kernel_rfl) (by kernel_rfl) (by kernel_rfl) (SG_set (by decide) (by decide)) (fun _ _ _ h => h) (Or.inl ⟨by rfl, ?_⟩) hH (fun hH => ?_)
            · intro w5 hSw; obtain ⟨L5, hU5, hA5, hB5, hR5⟩ := hSw; have a5 := hA5 (hU5 _ (by simp)); have b5 := hB5 (hU5 _ (by simp)); go_simp
            simp only [zA9, zB9, zC9] at hH ⊢
            refine takeG (i := 11) (v := .pointer (some ⟨w.heap.size, 1, none⟩)) [] rfl rfl (by kernel_rfl) (by kernel_rfl) (by kernel_rfl) (by kernel_rfl) (by kernel_rfl) (SG_set (by decide) (by decide)) (fun _ _ _ h => h) (Or.inl ⟨by rfl, ?_⟩) hH (fun hH => ?_)
            · intro w5 hSw; go_simp
            simp only [zA9, zB9, zC9] at hH ⊢
            refine takeG (i := 12) (v := .slice (some ⟨g2, o2, none⟩) N c2) [] rfl rfl (by kernel_rfl) (by kernel_rfl) (by kernel_rfl) (by kernel_rfl) (by kernel_rfl) (SG_set (by decide) (by decide)) (fun _ _ _ h => h) (Or.inl ⟨by rfl, ?_⟩) hH (fun hH => ?_)
            · intro w5 hSw; obtain ⟨L5, hU5, hA5, hB5, e1, e2, e3, e4⟩ := hSw; go_simp
            simp only [zA9, zB9, zC9] at hH ⊢
            refine takeG (i := 13) (v := .int .i64 (k : Int)) [] rfl rfl (by kernel_rfl) (by kernel_rfl) (by kernel_rfl) (by kernel_rfl) (by kernel_rfl) (SG_set (by decide) (by decide)) (fun _ _ _ h => h) (Or.inl ⟨by rfl, ?_⟩) hH (fun hH => ?_)
            · intro w5 hSw; go_simp
            simp only [zA9, zB9, zC9] at hH ⊢
            refine takeG (i := 14) (v := .pointer (some ⟨g2, o2 + k, none⟩)) [] rfl rfl (by kernel_rfl) (by kernel_rfl) (by kernel_rfl) (by kernel_rfl) (by kernel_rfl) (SG_set (by decide) (by decide)) (fun _ _ _ h => h) (Or.inl ⟨by rfl, ?_⟩) hH (fun hH => ?_)
            · intro w5 hSw; go_simp
            simp only [zA9, zB9, zC9] at hH ⊢
            refine takeG (i := 15) (v := .int .i64 (i : Int)) [] rfl rfl (by kernel_rfl) (by kernel_rfl) (by kernel_rfl) (by kernel_rfl) (by kernel_rfl) (SG_set (by decide) (by decide)) (fun _ _ _ h => h) (Or.inl ⟨by rfl, ?_⟩) hH (fun hH => ?_)
            · intro w5 hSw; obtain ⟨L5, hU5, hA5, hB5, e1, e2, e3, e4⟩ := hSw; go_simp
            simp only [zA9, zB9, zC9] at hH ⊢
            refine wpAnyG_ready (rs := [7, 16]) (by kernel_rfl) (by simp) ?_
            refine AllReadyG.cons rfl (fun K hK => ?_) (AllReadyG.cons rfl (fun K hK => ?_) AllReadyG.nil)
            · go_simp
              have bel_1 : Below (w.heap.size + 3) wr (wx.alloc (.cells #[.string ⟨a.toArray⟩] 9)) := bel0.alloc (by have := bel0.size; omega) _
              have hN_1 := World.ownsRow.alloc hN0 (.cells #[.string ⟨a.toArray⟩] 9)
              have hI_1 := World.ownsRow.alloc hI0 (.cells #[.string ⟨a.toArray⟩] 9)
              have hb_1 : (wx.alloc (.cells #[.string ⟨a.toArray⟩] 9)).heap[wx.heap.size]? = some (.cells #[.string ⟨a.toArray⟩] 9 (0, 0)) := heap_alloc_new _ _
              have sw_1 := bel0.size
              refine hK.out _ _ ⟨fun _ => (bel_1.cell (p := ⟨w.heap.size + 1 + 1, 0, none⟩) (by simp)).trans z0, fun _ => (bel_1.cell (p := ⟨w.heap.size + 1 + 1, 1, none⟩) (by simp)).trans z1, (bel_1.cell (p := ⟨w.heap.size, 0, none⟩) (by simp)).trans x0, (bel_1.cell (p := ⟨w.heap.size, 1, none⟩) (by simp)).trans x1, (bel_1.cell (p := ⟨g1, o1 + k, none⟩) (show g1 < w.heap.size + 3 by omega)).trans y1, (bel_1.cell (p := ⟨g2, o2 + k, none⟩) (show g2 < w.heap.size + 3 by omega)).trans y2⟩ (fun hH => ?_)
              clear hK K
              obtain ⟨w_1, hw_1⟩ : ∃ x, x = wx.alloc (.cells #[.string ⟨a.toArray⟩] 9) := ⟨_, rfl⟩
              rw [← hw_1] at bel_1 hN_1 hI_1 hb_1 hH ⊢
              clear hw_1
              simp only [zA9, zB9, zC9] at hH ⊢
              refine wpAnyG_ready (rs := [8, 16]) (by kernel_rfl) (by simp) ?_
              refine AllReadyG.cons rfl (fun K hK => ?_) (AllReadyG.cons rfl (fun K hK => ?_) AllReadyG.nil)
              · refine step_one 54 9 (.string ⟨#[]⟩) 16 strSlice strInfo rfl rfl (.tmp 50) (.tmp 56) rfl (w.heap.size + 3) A.length (.slice PN A.length CN) (A.map fun p => strV p.1) (.string ⟨a.toArray⟩) (wx.heap.size) rfl hN_1 rfl ((Joins.cell_of_block hb_1 0).trans rfl) rfl (by omega) (by have := bel_1.size; omega) (by decide) ?_
                intro v_2 w_2 hr_2 hg_2
                have bel_2 : Below (w.heap.size + 3) wr w_2 := bel_1.trans (below_own hg_2 (by have := bel_1.size; omega) (own_ge hN_1))
                have hk_2 := keptI hN_1 hI_1 hg_2
                obtain ⟨P_2, C_2, rfl⟩ := row_form hr_2
                refine hK.out _ _ ⟨fun _ => (bel_2.cell (p := ⟨w.heap.size + 1 + 1, 0, none⟩) (by simp)).trans z0, fun _ => (bel_2.cell (p := ⟨w.heap.size + 1 + 1, 1, none⟩) (by simp)).trans z1, (bel_2.cell (p := ⟨w.heap.size, 0, none⟩) (by simp)).trans x0, (bel_2.cell (p := ⟨w.heap.size, 1, none⟩) (by simp)).trans x1, (bel_2.cell (p := ⟨g1, o1 + k, none⟩) (show g1 < w.heap.size + 3 by omega)).trans y1, (bel_2.cell (p := ⟨g2, o2 + k, none⟩) (show g2 < w.heap.size + 3 by omega)).trans y2⟩ (fun hH => ?_)
                clear hK K
                simp only [Act.put, List.setIfInBounds_toArray, List.set_cons_zero, List.set_cons_succ] at hH ⊢
                refine takeG (i := 18) (v := .pointer (some ⟨w.heap.size + 1 + 1, 0, none⟩)) [] rfl rfl (by kernel_rfl) (by kernel_rfl) (by kernel_rfl) (by kernel_rfl) (by kernel_rfl) (SG_set (by decide) (by decide)) (fun _ _ _ h => h) (Or.inl ⟨by rfl, ?_⟩) hH (fun hH => ?_)
                · intro w5 hSw; go_simp
                simp only [zA9, zB9, zC9] at hH ⊢
                refine wpAnyG_ready (rs := [16]) (by kernel_rfl) (by simp) ?_
                refine AllReadyG.cons rfl (fun K hK => ?_) AllReadyG.nil
                go_simp
                have bel_3 : Below (w.heap.size + 3) wr (w_2.alloc (.cells #[.int .i64 (i : Int)] 3)) := bel_2.alloc (by have := bel_2.size; omega) _
                have hN_3 := World.ownsRow.alloc hr_2 (.cells #[.int .i64 (i : Int)] 3)
                have hI_3 := World.ownsRow.alloc hk_2 (.cells #[.int .i64 (i : Int)] 3)
                have hb_3 : (w_2.alloc (.cells #[.int .i64 (i : Int)] 3)).heap[w_2.heap.size]? = some (.cells #[.int .i64 (i : Int)] 3 (0, 0)) := heap_alloc_new _ _
                have sw_3 := bel_2.size
                refine hK.out _ _ ⟨fun _ => (bel_3.cell (p := ⟨w.heap.size + 1 + 1, 0, none⟩) (by simp)).trans z0, fun _ => (bel_3.cell (p := ⟨w.heap.size + 1 + 1, 1, none⟩) (by simp)).trans z1, (bel_3.cell (p := ⟨w.heap.size, 0, none⟩) (by simp)).trans x0, (bel_3.cell (p := ⟨w.heap.size, 1, none⟩) (by simp)).trans x1, (bel_3.cell (p := ⟨g1, o1 + k, none⟩) (show g1 < w.heap.size + 3 by omega)).trans y1, (bel_3.cell (p := ⟨g2, o2 + k, none⟩) (show g2 < w.heap.size + 3 by omega)).trans y2⟩ (fun hH => ?_)
                clear hK K
                obtain ⟨w_3, hw_3⟩ : ∃ x, x = w_2.alloc (.cells #[.int .i64 (i : Int)] 3) := ⟨_, rfl⟩
                rw [← hw_3] at bel_3 hN_3 hI_3 hb_3 hH ⊢
                clear hw_3
                simp only [zA9, zB9, zC9] at hH ⊢
                refine wpAnyG_ready (rs := [17]) (by kernel_rfl) (by simp) ?_
                refine AllReadyG.cons rfl (fun K hK => ?_) AllReadyG.nil
                refine step_one 28 3 (.int .i64 0) 8 intSlice intInfo rfl rfl (.tmp 59) (.tmp 65) rfl (w.heap.size + 3) A.length (.slice PI A.length CI) (A.map fun p => intV p.2) (.int .i64 (i : Int)) (w_2.heap.size) rfl hI_3 rfl ((Joins.cell_of_block hb_3 0).trans rfl) rfl (by omega) (by have := bel_3.size; omega) (by decide) ?_
                intro v_4 w_4 hr_4 hg_4
                have bel_4 : Below (w.heap.size + 3) wr w_4 := bel_3.trans (below_own hg_4 (by have := bel_3.size; omega) (own_ge hI_3))
                have hk_4 := keptS hN_3 hI_3 hg_4
                obtain ⟨P_4, C_4, rfl⟩ := row_form hr_4
                refine hK.out _ _ ⟨fun _ => (bel_4.cell (p := ⟨w.heap.size + 1 + 1, 0, none⟩) (by simp)).trans z0, fun _ => (bel_4.cell (p := ⟨w.heap.size + 1 + 1, 1, none⟩) (by simp)).trans z1, (bel_4.cell (p := ⟨w.heap.size, 0, none⟩) (by simp)).trans x0, (bel_4.cell (p := ⟨w.heap.size, 1, none⟩) (by simp)).trans x1, (bel_4.cell (p := ⟨g1, o1 + k, none⟩) (show g1 < w.heap.size + 3 by omega)).trans y1, (bel_4.cell (p := ⟨g2, o2 + k, none⟩) (show g2 < w.heap.size + 3 by omega)).trans y2⟩ (fun hH => ?_)
                clear hK K
                simp only [Act.put, List.setIfInBounds_toArray, List.set_cons_zero, List.set_cons_succ] at hH ⊢
                refine wpAnyG_ready (rs := [19]) (by kernel_rfl) (by simp) ?_
                refine AllReadyG.cons rfl (fun K hK => ?_) AllReadyG.nil
                have hBz : w_4.heap[w.heap.size + 1 + 1]? = some (.cells #[.slice PN A.length CN, .slice PI A.length CI] 95 (0, 0)) := (bel_4.block (w.heap.size + 1 + 1) (by omega)).trans hB2
                have hBy : (w_4.setCell ⟨w.heap.size + 1 + 1, 0, none⟩ (.slice P_2 (A.length + 1) C_2)).heap[w.heap.size + 1 + 1]? = some (.cells #[.slice P_2 (A.length + 1) C_2, .slice PI A.length CI] 95 (0, 0)) := (heap_setCell_same _ _ 0 _ _ _ hBz).trans rfl
                obtain ⟨zz0, zz1, qq0, qq1, _, _, _, _⟩ := b2cells hBz
                have OUT := out_mk (a := a) (i := i) hO.out bel_4 hBz hk_4 hr_4
                go_simp
                refine hK.out _ _ ⟨fun h => by simp at h, fun _ => (b2cells hBy).2.1, ⟨cell_set (b := w.heap.size) (by omega) ((bel_4.cell (p := ⟨w.heap.size, 0, none⟩) (show w.heap.size < w.heap.size + 3 by omega)).trans x0), cell_set (b := w.heap.size) (by omega) ((bel_4.cell (p := ⟨w.heap.size, 1, none⟩) (show w.heap.size < w.heap.size + 3 by omega)).trans x1), cell_set (b := g1) (by omega) ((bel_4.cell (p := ⟨g1, o1 + k, none⟩) (show g1 < w.heap.size + 3 by omega)).trans y1), cell_set (b := g2) (by omega) ((bel_4.cell (p := ⟨g2, o2 + k, none⟩) (show g2 < w.heap.size + 3 by omega)).trans y2)⟩⟩ (fun hH => ?_)
                clear hK K
                simp only [zA9, zB9, zC9] at hH ⊢
                refine takeG (i := 20) (v := .pointer (some ⟨w.heap.size + 1 + 1, 1, none⟩)) [] rfl rfl (by kernel_rfl) (by kernel_rfl) (by kernel_rfl) (by kernel_rfl) (by kernel_rfl) (SG_set (by decide) (by decide)) (fun _ _ _ h => h) (Or.inl ⟨by rfl, ?_⟩) hH (fun hH => ?_)
                · intro w5 hSw; go_simp
                simp only [zA9, zB9, zC9] at hH ⊢
                refine wpAnyG_ready (rs := [21]) (by kernel_rfl) (by simp) ?_
                refine AllReadyG.cons rfl (fun K hK => ?_) AllReadyG.nil
                obtain ⟨yy0, yy1, rr0, rr1, _, _, _, _⟩ := b2cells hBy
                go_simp
                refine hK.out _ _ ⟨fun h => by simp at h, fun h => by simp at h, ⟨cell_set (b := w.heap.size) (by omega) (cell_set (b := w.heap.size) (by omega) ((bel_4.cell (p := ⟨w.heap.size, 0, none⟩) (show w.heap.size < w.heap.size + 3 by omega)).trans x0)), cell_set (b := w.heap.size) (by omega) (cell_set (b := w.heap.size) (by omega) ((bel_4.cell (p := ⟨w.heap.size, 1, none⟩) (show w.heap.size < w.heap.size + 3 by omega)).trans x1)), cell_set (b := g1) (by omega) (cell_set (b := g1) (by omega) ((bel_4.cell (p := ⟨g1, o1 + k, none⟩) (show g1 < w.heap.size + 3 by omega)).trans y1)), cell_set (b := g2) (by omega) (cell_set (b := g2) (by omega) ((bel_4.cell (p := ⟨g2, o2 + k, none⟩) (show g2 < w.heap.size + 3 by omega)).trans y2))⟩⟩ (fun hH => ?_)
                refine wpAnyG_done (by kernel_rfl) ?_ _
                refine NoPanic.normal ?_
                go_wp2_with fail
                go_roundw
                case rel => exact ⟨k + 1, false, A ++ [(a, i)], by go_num, rfl, hlt, by simp; omega, HD, hp, OUT⟩
                case measure => simp [intOf]; omega
              · go_simp
                have bel_5 : Below (w.heap.size + 3) wr (w_1.alloc (.cells #[.int .i64 (i : Int)] 3)) := bel_1.alloc (by have := bel_1.size; omega) _
                have hN_5 := World.ownsRow.alloc hN_1 (.cells #[.int .i64 (i : Int)] 3)
                have hI_5 := World.ownsRow.alloc hI_1 (.cells #[.int .i64 (i : Int)] 3)
                have hb_5 : (w_1.alloc (.cells #[.int .i64 (i : Int)] 3)).heap[w_1.heap.size]? = some (.cells #[.int .i64 (i : Int)] 3 (0, 0)) := heap_alloc_new _ _
                have ho_5 := hAlloc hb_1 (.cells #[.int .i64 (i : Int)] 3)
                have sw_5 := bel_1.size
                refine hK.out _ _ ⟨fun _ => (bel_5.cell (p := ⟨w.heap.size + 1 + 1, 0, none⟩) (by simp)).trans z0, fun _ => (bel_5.cell (p := ⟨w.heap.size + 1 + 1, 1, none⟩) (by simp)).trans z1, (bel_5.cell (p := ⟨w.heap.size, 0, none⟩) (by simp)).trans x0, (bel_5.cell (p := ⟨w.heap.size, 1, none⟩) (by simp)).trans x1, (bel_5.cell (p := ⟨g1, o1 + k, none⟩) (show g1 < w.heap.size + 3 by omega)).trans y1, (bel_5.cell (p := ⟨g2, o2 + k, none⟩) (show g2 < w.heap.size + 3 by omega)).trans y2⟩ (fun hH => ?_)
                clear hK K
                obtain ⟨w_5, hw_5⟩ : ∃ x, x = w_1.alloc (.cells #[.int .i64 (i : Int)] 3) := ⟨_, rfl⟩
                rw [← hw_5] at bel_5 hN_5 hI_5 hb_5 ho_5 hH ⊢
                clear hw_5
                simp only [zA9, zB9, zC9] at hH ⊢
                refine wpAnyG_ready (rs := [8]) (by kernel_rfl) (by simp) ?_
                refine AllReadyG.cons rfl (fun K hK => ?_) AllReadyG.nil
                refine step_one 54 9 (.string ⟨#[]⟩) 16 strSlice strInfo rfl rfl (.tmp 50) (.tmp 56) rfl (w.heap.size + 3) A.length (.slice PN A.length CN) (A.map fun p => strV p.1) (.string ⟨a.toArray⟩) (wx.heap.size) rfl hN_5 rfl ((Joins.cell_of_block ho_5 0).trans rfl) rfl (by omega) (by have := bel_5.size; omega) (by decide) ?_
                intro v_6 w_6 hr_6 hg_6
                have bel_6 : Below (w.heap.size + 3) wr w_6 := bel_5.trans (below_own hg_6 (by have := bel_5.size; omega) (own_ge hN_5))
                have hk_6 := keptI hN_5 hI_5 hg_6
                have ho_6 := keepK hN_5 hb_5 (by decide) hg_6
                obtain ⟨P_6, C_6, rfl⟩ := row_form hr_6
                refine hK.out _ _ ⟨fun _ => (bel_6.cell (p := ⟨w.heap.size + 1 + 1, 0, none⟩) (by simp)).trans z0, fun _ => (bel_6.cell (p := ⟨w.heap.size + 1 + 1, 1, none⟩) (by simp)).trans z1, (bel_6.cell (p := ⟨w.heap.size, 0, none⟩) (by simp)).trans x0, (bel_6.cell (p := ⟨w.heap.size, 1, none⟩) (by simp)).trans x1, (bel_6.cell (p := ⟨g1, o1 + k, none⟩) (show g1 < w.heap.size + 3 by omega)).trans y1, (bel_6.cell (p := ⟨g2, o2 + k, none⟩) (show g2 < w.heap.size + 3 by omega)).trans y2⟩ (fun hH => ?_)
                clear hK K
                simp only [Act.put, List.setIfInBounds_toArray, List.set_cons_zero, List.set_cons_succ] at hH ⊢
                refine takeG (i := 18) (v := .pointer (some ⟨w.heap.size + 1 + 1, 0, none⟩)) [] rfl rfl (by kernel_rfl) (by kernel_rfl) (by kernel_rfl) (by kernel_rfl) (by kernel_rfl) (SG_set (by decide) (by decide)) (fun _ _ _ h => h) (Or.inl ⟨by rfl, ?_⟩) hH (fun hH => ?_)
                · intro w5 hSw; go_simp
                simp only [zA9, zB9, zC9] at hH ⊢
                refine wpAnyG_ready (rs := [17]) (by kernel_rfl) (by simp) ?_
                refine AllReadyG.cons rfl (fun K hK => ?_) AllReadyG.nil
                refine step_one 28 3 (.int .i64 0) 8 intSlice intInfo rfl rfl (.tmp 59) (.tmp 65) rfl (w.heap.size + 3) A.length (.slice PI A.length CI) (A.map fun p => intV p.2) (.int .i64 (i : Int)) (w_1.heap.size) rfl hk_6 rfl ((Joins.cell_of_block ho_6 0).trans rfl) rfl (by omega) (by have := bel_6.size; omega) (by decide) ?_
                intro v_7 w_7 hr_7 hg_7
                have bel_7 : Below (w.heap.size + 3) wr w_7 := bel_6.trans (below_own hg_7 (by have := bel_6.size; omega) (own_ge hk_6))
                have hk_7 := keptS hr_6 hk_6 hg_7
                obtain ⟨P_7, C_7, rfl⟩ := row_form hr_7
                refine hK.out _ _ ⟨fun _ => (bel_7.cell (p := ⟨w.heap.size + 1 + 1, 0, none⟩) (by simp)).trans z0, fun _ => (bel_7.cell (p := ⟨w.heap.size + 1 + 1, 1, none⟩) (by simp)).trans z1, (bel_7.cell (p := ⟨w.heap.size, 0, none⟩) (by simp)).trans x0, (bel_7.cell (p := ⟨w.heap.size, 1, none⟩) (by simp)).trans x1, (bel_7.cell (p := ⟨g1, o1 + k, none⟩) (show g1 < w.heap.size + 3 by omega)).trans y1, (bel_7.cell (p := ⟨g2, o2 + k, none⟩) (show g2 < w.heap.size + 3 by omega)).trans y2⟩ (fun hH => ?_)
                clear hK K
                simp only [Act.put, List.setIfInBounds_toArray, List.set_cons_zero, List.set_cons_succ] at hH ⊢
                refine wpAnyG_ready (rs := [19]) (by kernel_rfl) (by simp) ?_
                refine AllReadyG.cons rfl (fun K hK => ?_) AllReadyG.nil
                have hBz : w_7.heap[w.heap.size + 1 + 1]? = some (.cells #[.slice PN A.length CN, .slice PI A.length CI] 95 (0, 0)) := (bel_7.block (w.heap.size + 1 + 1) (by omega)).trans hB2
                have hBy : (w_7.setCell ⟨w.heap.size + 1 + 1, 0, none⟩ (.slice P_6 (A.length + 1) C_6)).heap[w.heap.size + 1 + 1]? = some (.cells #[.slice P_6 (A.length + 1) C_6, .slice PI A.length CI] 95 (0, 0)) := (heap_setCell_same _ _ 0 _ _ _ hBz).trans rfl
                obtain ⟨zz0, zz1, qq0, qq1, _, _, _, _⟩ := b2cells hBz
                have OUT := out_mk (a := a) (i := i) hO.out bel_7 hBz hk_7 hr_7
                go_simp
                refine hK.out _ _ ⟨fun h => by simp at h, fun _ => (b2cells hBy).2.1, ⟨cell_set (b := w.heap.size) (by omega) ((bel_7.cell (p := ⟨w.heap.size, 0, none⟩) (show w.heap.size < w.heap.size + 3 by omega)).trans x0), cell_set (b := w.heap.size) (by omega) ((bel_7.cell (p := ⟨w.heap.size, 1, none⟩) (show w.heap.size < w.heap.size + 3 by omega)).trans x1), cell_set (b := g1) (by omega) ((bel_7.cell (p := ⟨g1, o1 + k, none⟩) (show g1 < w.heap.size + 3 by omega)).trans y1), cell_set (b := g2) (by omega) ((bel_7.cell (p := ⟨g2, o2 + k, none⟩) (show g2 < w.heap.size + 3 by omega)).trans y2)⟩⟩ (fun hH => ?_)
                clear hK K
                simp only [zA9, zB9, zC9] at hH ⊢
                refine takeG (i := 20) (v := .pointer (some ⟨w.heap.size + 1 + 1, 1, none⟩)) [] rfl rfl (by kernel_rfl) (by kernel_rfl) (by kernel_rfl) (by kernel_rfl) (by kernel_rfl) (SG_set (by decide) (by decide)) (fun _ _ _ h => h) (Or.inl ⟨by rfl, ?_⟩) hH (fun hH => ?_)
                · intro w5 hSw; go_simp
                simp only [zA9, zB9, zC9] at hH ⊢
                refine wpAnyG_ready (rs := [21]) (by kernel_rfl) (by simp) ?_
                refine AllReadyG.cons rfl (fun K hK => ?_) AllReadyG.nil
                obtain ⟨yy0, yy1, rr0, rr1, _, _, _, _⟩ := b2cells hBy
                go_simp
                refine hK.out _ _ ⟨fun h => by simp at h, fun h => by simp at h, ⟨cell_set (b := w.heap.size) (by omega) (cell_set (b := w.heap.size) (by omega) ((bel_7.cell (p := ⟨w.heap.size, 0, none⟩) (show w.heap.size < w.heap.size + 3 by omega)).trans x0)), cell_set (b := w.heap.size) (by omega) (cell_set (b := w.heap.size) (by omega) ((bel_7.cell (p := ⟨w.heap.size, 1, none⟩) (show w.heap.size < w.heap.size + 3 by omega)).trans x1)), cell_set (b := g1) (by omega) (cell_set (b := g1) (by omega) ((bel_7.cell (p := ⟨g1, o1 + k, none⟩) (show g1 < w.heap.size + 3 by omega)).trans y1)), cell_set (b := g2) (by omega) (cell_set (b := g2) (by omega) ((bel_7.cell (p := ⟨g2, o2 + k, none⟩) (show g2 < w.heap.size + 3 by omega)).trans y2))⟩⟩ (fun hH => ?_)
                refine wpAnyG_done (by kernel_rfl) ?_ _
                refine NoPanic.normal ?_
                go_wp2_with fail
                go_roundw
                case rel => exact ⟨k + 1, false, A ++ [(a, i)], by go_num, rfl, hlt, by simp; omega, HD, hp, OUT⟩
                case measure => simp [intOf]; omega
            · go_simp
              have bel_8 : Below (w.heap.size + 3) wr (wx.alloc (.cells #[.int .i64 (i : Int)] 3)) := bel0.alloc (by have := bel0.size; omega) _
              have hN_8 := World.ownsRow.alloc hN0 (.cells #[.int .i64 (i : Int)] 3)
              have hI_8 := World.ownsRow.alloc hI0 (.cells #[.int .i64 (i : Int)] 3)
              have hb_8 : (wx.alloc (.cells #[.int .i64 (i : Int)] 3)).heap[wx.heap.size]? = some (.cells #[.int .i64 (i : Int)] 3 (0, 0)) := heap_alloc_new _ _
              have sw_8 := bel0.size
              refine hK.out _ _ ⟨fun _ => (bel_8.cell (p := ⟨w.heap.size + 1 + 1, 0, none⟩) (by simp)).trans z0, fun _ => (bel_8.cell (p := ⟨w.heap.size + 1 + 1, 1, none⟩) (by simp)).trans z1, (bel_8.cell (p := ⟨w.heap.size, 0, none⟩) (by simp)).trans x0, (bel_8.cell (p := ⟨w.heap.size, 1, none⟩) (by simp)).trans x1, (bel_8.cell (p := ⟨g1, o1 + k, none⟩) (show g1 < w.heap.size + 3 by omega)).trans y1, (bel_8.cell (p := ⟨g2, o2 + k, none⟩) (show g2 < w.heap.size + 3 by omega)).trans y2⟩ (fun hH => ?_)
              clear hK K
              obtain ⟨w_8, hw_8⟩ : ∃ x, x = wx.alloc (.cells #[.int .i64 (i : Int)] 3) := ⟨_, rfl⟩
              rw [← hw_8] at bel_8 hN_8 hI_8 hb_8 hH ⊢
              clear hw_8
              simp only [zA9, zB9, zC9] at hH ⊢
              refine wpAnyG_ready (rs := [7]) (by kernel_rfl) (by simp) ?_
              refine AllReadyG.cons rfl (fun K hK => ?_) AllReadyG.nil
              go_simp
              have bel_9 : Below (w.heap.size + 3) wr (w_8.alloc (.cells #[.string ⟨a.toArray⟩] 9)) := bel_8.alloc (by have := bel_8.size; omega) _
              have hN_9 := World.ownsRow.alloc hN_8 (.cells #[.string ⟨a.toArray⟩] 9)
              have hI_9 := World.ownsRow.alloc hI_8 (.cells #[.string ⟨a.toArray⟩] 9)
              have hb_9 : (w_8.alloc (.cells #[.string ⟨a.toArray⟩] 9)).heap[w_8.heap.size]? = some (.cells #[.string ⟨a.toArray⟩] 9 (0, 0)) := heap_alloc_new _ _
              have ho_9 := hAlloc hb_8 (.cells #[.string ⟨a.toArray⟩] 9)
              have sw_9 := bel_8.size
              refine hK.out _ _ ⟨fun _ => (bel_9.cell (p := ⟨w.heap.size + 1 + 1, 0, none⟩) (by simp)).trans z0, fun _ => (bel_9.cell (p := ⟨w.heap.size + 1 + 1, 1, none⟩) (by simp)).trans z1, (bel_9.cell (p := ⟨w.heap.size, 0, none⟩) (by simp)).trans x0, (bel_9.cell (p := ⟨w.heap.size, 1, none⟩) (by simp)).trans x1, (bel_9.cell (p := ⟨g1, o1 + k, none⟩) (show g1 < w.heap.size + 3 by omega)).trans y1, (bel_9.cell (p := ⟨g2, o2 + k, none⟩) (show g2 < w.heap.size + 3 by omega)).trans y2⟩ (fun hH => ?_)
              clear hK K
              obtain ⟨w_9, hw_9⟩ : ∃ x, x = w_8.alloc (.cells #[.string ⟨a.toArray⟩] 9) := ⟨_, rfl⟩
              rw [← hw_9] at bel_9 hN_9 hI_9 hb_9 ho_9 hH ⊢
              clear hw_9
              simp only [zA9, zB9, zC9] at hH ⊢
              refine wpAnyG_ready (rs := [8]) (by kernel_rfl) (by simp) ?_
              refine AllReadyG.cons rfl (fun K hK => ?_) AllReadyG.nil
              refine step_one 54 9 (.string ⟨#[]⟩) 16 strSlice strInfo rfl rfl (.tmp 50) (.tmp 56) rfl (w.heap.size + 3) A.length (.slice PN A.length CN) (A.map fun p => strV p.1) (.string ⟨a.toArray⟩) (w_8.heap.size) rfl hN_9 rfl ((Joins.cell_of_block hb_9 0).trans rfl) rfl (by omega) (by have := bel_9.size; omega) (by decide) ?_
              intro v_10 w_10 hr_10 hg_10
              have bel_10 : Below (w.heap.size + 3) wr w_10 := bel_9.trans (below_own hg_10 (by have := bel_9.size; omega) (own_ge hN_9))
              have hk_10 := keptI hN_9 hI_9 hg_10
              have ho_10 := keepK hN_9 ho_9 (by decide) hg_10
              obtain ⟨P_10, C_10, rfl⟩ := row_form hr_10
              refine hK.out _ _ ⟨fun _ => (bel_10.cell (p := ⟨w.heap.size + 1 + 1, 0, none⟩) (by simp)).trans z0, fun _ => (bel_10.cell (p := ⟨w.heap.size + 1 + 1, 1, none⟩) (by simp)).trans z1, (bel_10.cell (p := ⟨w.heap.size, 0, none⟩) (by simp)).trans x0, (bel_10.cell (p := ⟨w.heap.size, 1, none⟩) (by simp)).trans x1, (bel_10.cell (p := ⟨g1, o1 + k, none⟩) (show g1 < w.heap.size + 3 by omega)).trans y1, (bel_10.cell (p := ⟨g2, o2 + k, none⟩) (show g2 < w.heap.size + 3 by omega)).trans y2⟩ (fun hH => ?_)
              clear hK K
              simp only [Act.put, List.setIfInBounds_toArray, List.set_cons_zero, List.set_cons_succ] at hH ⊢
              refine takeG (i := 18) (v := .pointer (some ⟨w.heap.size + 1 + 1, 0, none⟩)) [] rfl rfl (by kernel_rfl) (by kernel_rfl) (by kernel_rfl) (by kernel_rfl) (by kernel_rfl) (SG_set (by decide) (by decide)) (fun _ _ _ h => h) (Or.inl ⟨by rfl, ?_⟩) hH (fun hH => ?_)
              · intro w5 hSw; go_simp
              simp only [zA9, zB9, zC9] at hH ⊢
              refine wpAnyG_ready (rs := [17]) (by kernel_rfl) (by simp) ?_
              refine AllReadyG.cons rfl (fun K hK => ?_) AllReadyG.nil
              refine step_one 28 3 (.int .i64 0) 8 intSlice intInfo rfl rfl (.tmp 59) (.tmp 65) rfl (w.heap.size + 3) A.length (.slice PI A.length CI) (A.map fun p => intV p.2) (.int .i64 (i : Int)) (wx.heap.size) rfl hk_10 rfl ((Joins.cell_of_block ho_10 0).trans rfl) rfl (by omega) (by have := bel_10.size; omega) (by decide) ?_
              intro v_11 w_11 hr_11 hg_11
              have bel_11 : Below (w.heap.size + 3) wr w_11 := bel_10.trans (below_own hg_11 (by have := bel_10.size; omega) (own_ge hk_10))
              have hk_11 := keptS hr_10 hk_10 hg_11
              obtain ⟨P_11, C_11, rfl⟩ := row_form hr_11
              refine hK.out _ _ ⟨fun _ => (bel_11.cell (p := ⟨w.heap.size + 1 + 1, 0, none⟩) (by simp)).trans z0, fun _ => (bel_11.cell (p := ⟨w.heap.size + 1 + 1, 1, none⟩) (by simp)).trans z1, (bel_11.cell (p := ⟨w.heap.size, 0, none⟩) (by simp)).trans x0, (bel_11.cell (p := ⟨w.heap.size, 1, none⟩) (by simp)).trans x1, (bel_11.cell (p := ⟨g1, o1 + k, none⟩) (show g1 < w.heap.size + 3 by omega)).trans y1, (bel_11.cell (p := ⟨g2, o2 + k, none⟩) (show g2 < w.heap.size + 3 by omega)).trans y2⟩ (fun hH => ?_)
              clear hK K
              simp only [Act.put, List.setIfInBounds_toArray, List.set_cons_zero, List.set_cons_succ] at hH ⊢
              refine wpAnyG_ready (rs := [19]) (by kernel_rfl) (by simp) ?_
              refine AllReadyG.cons rfl (fun K hK => ?_) AllReadyG.nil
              have hBz : w_11.heap[w.heap.size + 1 + 1]? = some (.cells #[.slice PN A.length CN, .slice PI A.length CI] 95 (0, 0)) := (bel_11.block (w.heap.size + 1 + 1) (by omega)).trans hB2
              have hBy : (w_11.setCell ⟨w.heap.size + 1 + 1, 0, none⟩ (.slice P_10 (A.length + 1) C_10)).heap[w.heap.size + 1 + 1]? = some (.cells #[.slice P_10 (A.length + 1) C_10, .slice PI A.length CI] 95 (0, 0)) := (heap_setCell_same _ _ 0 _ _ _ hBz).trans rfl
              obtain ⟨zz0, zz1, qq0, qq1, _, _, _, _⟩ := b2cells hBz
              have OUT := out_mk (a := a) (i := i) hO.out bel_11 hBz hk_11 hr_11
              go_simp
              refine hK.out _ _ ⟨fun h => by simp at h, fun _ => (b2cells hBy).2.1, ⟨cell_set (b := w.heap.size) (by omega) ((bel_11.cell (p := ⟨w.heap.size, 0, none⟩) (show w.heap.size < w.heap.size + 3 by omega)).trans x0), cell_set (b := w.heap.size) (by omega) ((bel_11.cell (p := ⟨w.heap.size, 1, none⟩) (show w.heap.size < w.heap.size + 3 by omega)).trans x1), cell_set (b := g1) (by omega) ((bel_11.cell (p := ⟨g1, o1 + k, none⟩) (show g1 < w.heap.size + 3 by omega)).trans y1), cell_set (b := g2) (by omega) ((bel_11.cell (p := ⟨g2, o2 + k, none⟩) (show g2 < w.heap.size + 3 by omega)).trans y2)⟩⟩ (fun hH => ?_)
              clear hK K
              simp only [zA9, zB9, zC9] at hH ⊢
              refine takeG (i := 20) (v := .pointer (some ⟨w.heap.size + 1 + 1, 1, none⟩)) [] rfl rfl (by kernel_rfl) (by kernel_rfl) (by kernel_rfl) (by kernel_rfl) (by kernel_rfl) (SG_set (by decide) (by decide)) (fun _ _ _ h => h) (Or.inl ⟨by rfl, ?_⟩) hH (fun hH => ?_)
              · intro w5 hSw; go_simp
              simp only [zA9, zB9, zC9] at hH ⊢
              refine wpAnyG_ready (rs := [21]) (by kernel_rfl) (by simp) ?_
              refine AllReadyG.cons rfl (fun K hK => ?_) AllReadyG.nil
              obtain ⟨yy0, yy1, rr0, rr1, _, _, _, _⟩ := b2cells hBy
              go_simp
              refine hK.out _ _ ⟨fun h => by simp at h, fun h => by simp at h, ⟨cell_set (b := w.heap.size) (by omega) (cell_set (b := w.heap.size) (by omega) ((bel_11.cell (p := ⟨w.heap.size, 0, none⟩) (show w.heap.size < w.heap.size + 3 by omega)).trans x0)), cell_set (b := w.heap.size) (by omega) (cell_set (b := w.heap.size) (by omega) ((bel_11.cell (p := ⟨w.heap.size, 1, none⟩) (show w.heap.size < w.heap.size + 3 by omega)).trans x1)), cell_set (b := g1) (by omega) (cell_set (b := g1) (by omega) ((bel_11.cell (p := ⟨g1, o1 + k, none⟩) (show g1 < w.heap.size + 3 by omega)).trans y1)), cell_set (b := g2) (by omega) (cell_set (b := g2) (by omega) ((bel_11.cell (p := ⟨g2, o2 + k, none⟩) (show g2 < w.heap.size + 3 by omega)).trans y2))⟩⟩ (fun hH => ?_)
              refine wpAnyG_done (by kernel_rfl) ?_ _
              refine NoPanic.normal ?_
              go_wp2_with fail
              go_roundw
              case rel => exact ⟨k + 1, false, A ++ [(a, i)], by go_num, rfl, hlt, by simp; omega, HD, hp, OUT⟩
              case measure => simp [intOf]; omega
        · have hls : Op.bytesLess a s = false := by simpa using hls
          have HD1 : Hid (E = (A ++ [(s, kn)]) ++ ((if a = s then [] else [(a, i)]) ++ wth s kn true (l.drop (k + 1)))) := by show _ = _; rw [hd1]; simp [hls]
          clear hd1
          obtain ⟨vN, vI, hB2, hN2, hI2⟩ := hO.out.o
          obtain ⟨PN, CN, rfl⟩ := row_form hN2
          obtain ⟨PI, CI, rfl⟩ := row_form hI2
          obtain ⟨z0, z1, q0, q1, yc0, yc1, yc2, yc3⟩ := b2cells hB2
          have hsz := hO.out.sz
          go_upto_region 7 with fail
          go_cut [9] from 30 to 41 (fun s9 wx => s9 = .int .i64 (k : Int) ∧ Hid (Out w [.slice (some ⟨g1, o1, none⟩) N c1, .slice (some ⟨g2, o2, none⟩) N c2] (A ++ [(s, kn)]) wx))
          case first =>
            refine wp_region_noPanic ?_
            have bel0 : Below (w.heap.size + 3) wr wr.drew := below_drewN (Below.refl _ wr) 1
            have hN0 : wr.drew.ownsRow (w.heap.size + 3) 9 1 _ A.length (A.map fun p => strV p.1) := hN2
            have hI0 : wr.drew.ownsRow (w.heap.size + 3) 3 1 _ A.length (A.map fun p => intV p.2) := hI2
            refine wp_region_G (S := SG 11 13 (fun w' => w'.cell? ⟨w.heap.size + 1 + 1, 0, none⟩ = some (.slice PN A.length CN)) (fun w' => w'.cell? ⟨w.heap.size + 1 + 1, 1, none⟩ = some (.slice PI A.length CI)) (fun w' => Below (w.heap.size + 3) wr w' ∨ True)) (by kernel_rfl) ⟨fun _ => z0, fun _ => z1, Or.inr trivial⟩ (fun hH => ?_)
            obtain ⟨wx, hwx⟩ : ∃ x, x = wr.drew := ⟨_, rfl⟩
            rw [← hwx] at bel0 hN0 hI0 hH ⊢
            clear hwx
            simp only [Array.replicate, List.size_toArray, List.length_cons, List.length_nil, List.replicate, Nat.zero_add, Nat.reduceAdd] at hH ⊢
            refine takeG (i := 0) (v := .pointer (some ⟨w.heap.size + 1 + 1, 0, none⟩)) [] rfl rfl (by kernel_rfl) (by kernel_rfl) (by kernel_rfl) (by kernel_rfl) (by kernel_rfl) (SG_set (by decide) (by decide)) (fun _ _ _ h => h) (Or.inl ⟨by rfl, ?_⟩) hH (fun hH => ?_)
            · intro w5 hSw; go_simp
            simp only [zA9, zB9, zC9] at hH ⊢
            refine takeG (i := 1) (v := .slice PN A.length CN) [11, 13] rfl rfl (by kernel_rfl) (by kernel_rfl) (by kernel_rfl) (by kernel_rfl) (by kernel_rfl) (SG_set (by decide) (by decide)) (fun _ _ _ h => h) (Or.inl ⟨by rfl, ?_⟩) hH (fun hH => ?_)
            · intro w5 hSw; obtain ⟨L5, hU5, hA5, hB5, hR5⟩ := hSw; have a5 := hA5 (hU5 _ (by simp)); have b5 := hB5 (hU5 _ (by simp)); go_simp
            simp only [zA9, zB9, zC9] at hH ⊢
            refine takeG (i := 2) (v := .string ⟨s.toArray⟩) [] rfl rfl (by kernel_rfl) (by kernel_rfl) (by kernel_rfl) (by kernel_rfl) (by kernel_rfl) (SG_set (by decide) (by decide)) (fun _ _ _ h => h) (Or.inl ⟨by rfl, ?_⟩) hH (fun hH => ?_)
            · intro w5 hSw; go_simp
            simp only [zA9, zB9, zC9] at hH ⊢
            refine takeG (i := 5) (v := .pointer (some ⟨w.heap.size + 1 + 1, 1, none⟩)) [] rfl rfl (by kernel_rfl) (by kernel_rfl) (by kernel_rfl) (by kernel_rfl) (by kernel_rfl) (SG_set (by decide) (by decide)) (fun _ _ _ h => h) (Or.inl ⟨by rfl, ?_⟩) hH (fun hH => ?_)
            · intro w5 hSw; go_simp
            simp only [zA9, zB9, zC9] at hH ⊢
            refine takeG (i := 6) (v := .slice PI A.length CI) [11, 13] rfl rfl (by kernel_rfl) (by kernel_rfl) (by kernel_rfl) (by kernel_rfl) (by kernel_rfl) (SG_set (by decide) (by decide)) (fun _ _ _ h => h) (Or.inl ⟨by rfl, ?_⟩) hH (fun hH => ?_)
            · intro w5 hSw; obtain ⟨L5, hU5, hA5, hB5, hR5⟩ := hSw; have a5 := hA5 (hU5 _ (by simp)); have b5 := hB5 (hU5 _ (by simp)); go_simp
            simp only [zA9, zB9, zC9] at hH ⊢
            refine takeG (i := 7) (v := .int .i64 (kn : Int)) [] rfl rfl (by kernel_rfl) (by kernel_rfl) (by kernel_rfl) (by kernel_rfl) (by kernel_rfl) (SG_set (by decide) (by decide)) (fun _ _ _ h => h) (Or.inl ⟨by rfl, ?_⟩) hH (fun hH => ?_)
            · intro w5 hSw; go_simp
            simp only [zA9, zB9, zC9] at hH ⊢
            refine wpAnyG_ready (rs := [3, 8]) (by kernel_rfl) (by simp) ?_
            refine AllReadyG.cons rfl (fun K hK => ?_) (AllReadyG.cons rfl (fun K hK => ?_) AllReadyG.nil)
            · go_simp
              have bel_1 : Below (w.heap.size + 3) wr (wx.alloc (.cells #[.string ⟨s.toArray⟩] 9)) := bel0.alloc (by have := bel0.size; omega) _
              have hN_1 := World.ownsRow.alloc hN0 (.cells #[.string ⟨s.toArray⟩] 9)
              have hI_1 := World.ownsRow.alloc hI0 (.cells #[.string ⟨s.toArray⟩] 9)
              have hb_1 : (wx.alloc (.cells #[.string ⟨s.toArray⟩] 9)).heap[wx.heap.size]? = some (.cells #[.string ⟨s.toArray⟩] 9 (0, 0)) := heap_alloc_new _ _
              have sw_1 := bel0.size
              refine hK.out _ _ ⟨fun _ => (bel_1.cell (p := ⟨w.heap.size + 1 + 1, 0, none⟩) (by simp)).trans z0, fun _ => (bel_1.cell (p := ⟨w.heap.size + 1 + 1, 1, none⟩) (by simp)).trans z1, Or.inr trivial⟩ (fun hH => ?_)
              clear hK K
              obtain ⟨w_1, hw_1⟩ : ∃ x, x = wx.alloc (.cells #[.string ⟨s.toArray⟩] 9) := ⟨_, rfl⟩
              rw [← hw_1] at bel_1 hN_1 hI_1 hb_1 hH ⊢
              clear hw_1
              simp only [zA9, zB9, zC9] at hH ⊢
              refine wpAnyG_ready (rs := [4, 8]) (by kernel_rfl) (by simp) ?_
              refine AllReadyG.cons rfl (fun K hK => ?_) (AllReadyG.cons rfl (fun K hK => ?_) AllReadyG.nil)
              · refine step_one 54 9 (.string ⟨#[]⟩) 16 strSlice strInfo rfl rfl (.tmp 31) (.tmp 33) rfl (w.heap.size + 3) A.length (.slice PN A.length CN) (A.map fun p => strV p.1) (.string ⟨s.toArray⟩) (wx.heap.size) rfl hN_1 rfl ((Joins.cell_of_block hb_1 0).trans rfl) rfl (by omega) (by have := bel_1.size; omega) (by decide) ?_
                intro v_2 w_2 hr_2 hg_2
                have bel_2 : Below (w.heap.size + 3) wr w_2 := bel_1.trans (below_own hg_2 (by have := bel_1.size; omega) (own_ge hN_1))
                have hk_2 := keptI hN_1 hI_1 hg_2
                obtain ⟨P_2, C_2, rfl⟩ := row_form hr_2
                refine hK.out _ _ ⟨fun _ => (bel_2.cell (p := ⟨w.heap.size + 1 + 1, 0, none⟩) (by simp)).trans z0, fun _ => (bel_2.cell (p := ⟨w.heap.size + 1 + 1, 1, none⟩) (by simp)).trans z1, Or.inr trivial⟩ (fun hH => ?_)
                clear hK K
                simp only [Act.put, List.setIfInBounds_toArray, List.set_cons_zero, List.set_cons_succ] at hH ⊢
                refine takeG (i := 10) (v := .pointer (some ⟨w.heap.size + 1 + 1, 0, none⟩)) [] rfl rfl (by kernel_rfl) (by kernel_rfl) (by kernel_rfl) (by kernel_rfl) (by kernel_rfl) (SG_set (by decide) (by decide)) (fun _ _ _ h => h) (Or.inl ⟨by rfl, ?_⟩) hH (fun hH => ?_)
                · intro w5 hSw; go_simp
                simp only [zA9, zB9, zC9] at hH ⊢
                refine wpAnyG_ready (rs := [8]) (by kernel_rfl) (by simp) ?_
                refine AllReadyG.cons rfl (fun K hK => ?_) AllReadyG.nil
                go_simp
                have bel_3 : Below (w.heap.size + 3) wr (w_2.alloc (.cells #[.int .i64 (kn : Int)] 3)) := bel_2.alloc (by have := bel_2.size; omega) _
                have hN_3 := World.ownsRow.alloc hr_2 (.cells #[.int .i64 (kn : Int)] 3)
                have hI_3 := World.ownsRow.alloc hk_2 (.cells #[.int .i64 (kn : Int)] 3)
                have hb_3 : (w_2.alloc (.cells #[.int .i64 (kn : Int)] 3)).heap[w_2.heap.size]? = some (.cells #[.int .i64 (kn : Int)] 3 (0, 0)) := heap_alloc_new _ _
                have sw_3 := bel_2.size
                refine hK.out _ _ ⟨fun _ => (bel_3.cell (p := ⟨w.heap.size + 1 + 1, 0, none⟩) (by simp)).trans z0, fun _ => (bel_3.cell (p := ⟨w.heap.size + 1 + 1, 1, none⟩) (by simp)).trans z1, Or.inr trivial⟩ (fun hH => ?_)
                clear hK K
                obtain ⟨w_3, hw_3⟩ : ∃ x, x = w_2.alloc (.cells #[.int .i64 (kn : Int)] 3) := ⟨_, rfl⟩
                rw [← hw_3] at bel_3 hN_3 hI_3 hb_3 hH ⊢
                clear hw_3
                simp only [zA9, zB9, zC9] at hH ⊢
                refine wpAnyG_ready (rs := [9]) (by kernel_rfl) (by simp) ?_
                refine AllReadyG.cons rfl (fun K hK => ?_) AllReadyG.nil
                refine step_one 28 3 (.int .i64 0) 8 intSlice intInfo rfl rfl (.tmp 36) (.tmp 38) rfl (w.heap.size + 3) A.length (.slice PI A.length CI) (A.map fun p => intV p.2) (.int .i64 (kn : Int)) (w_2.heap.size) rfl hI_3 rfl ((Joins.cell_of_block hb_3 0).trans rfl) rfl (by omega) (by have := bel_3.size; omega) (by decide) ?_
                intro v_4 w_4 hr_4 hg_4
                have bel_4 : Below (w.heap.size + 3) wr w_4 := bel_3.trans (below_own hg_4 (by have := bel_3.size; omega) (own_ge hI_3))
                have hk_4 := keptS hN_3 hI_3 hg_4
                obtain ⟨P_4, C_4, rfl⟩ := row_form hr_4
                refine hK.out _ _ ⟨fun _ => (bel_4.cell (p := ⟨w.heap.size + 1 + 1, 0, none⟩) (by simp)).trans z0, fun _ => (bel_4.cell (p := ⟨w.heap.size + 1 + 1, 1, none⟩) (by simp)).trans z1, Or.inr trivial⟩ (fun hH => ?_)
                clear hK K
                simp only [Act.put, List.setIfInBounds_toArray, List.set_cons_zero, List.set_cons_succ] at hH ⊢
                refine wpAnyG_ready (rs := [11]) (by kernel_rfl) (by simp) ?_
                refine AllReadyG.cons rfl (fun K hK => ?_) AllReadyG.nil
                have hBz : w_4.heap[w.heap.size + 1 + 1]? = some (.cells #[.slice PN A.length CN, .slice PI A.length CI] 95 (0, 0)) := (bel_4.block (w.heap.size + 1 + 1) (by omega)).trans hB2
                have hBy : (w_4.setCell ⟨w.heap.size + 1 + 1, 0, none⟩ (.slice P_2 (A.length + 1) C_2)).heap[w.heap.size + 1 + 1]? = some (.cells #[.slice P_2 (A.length + 1) C_2, .slice PI A.length CI] 95 (0, 0)) := (heap_setCell_same _ _ 0 _ _ _ hBz).trans rfl
                obtain ⟨zz0, zz1, qq0, qq1, _, _, _, _⟩ := b2cells hBz
                have OUT := out_mk (a := s) (i := kn) hO.out bel_4 hBz hk_4 hr_4
                go_simp
                refine hK.out _ _ ⟨fun h => by simp at h, fun _ => (b2cells hBy).2.1, Or.inr trivial⟩ (fun hH => ?_)
                clear hK K
                simp only [zA9, zB9, zC9] at hH ⊢
                refine takeG (i := 12) (v := .pointer (some ⟨w.heap.size + 1 + 1, 1, none⟩)) [] rfl rfl (by kernel_rfl) (by kernel_rfl) (by kernel_rfl) (by kernel_rfl) (by kernel_rfl) (SG_set (by decide) (by decide)) (fun _ _ _ h => h) (Or.inl ⟨by rfl, ?_⟩) hH (fun hH => ?_)
                · intro w5 hSw; go_simp
                simp only [zA9, zB9, zC9] at hH ⊢
                refine wpAnyG_ready (rs := [13]) (by kernel_rfl) (by simp) ?_
                refine AllReadyG.cons rfl (fun K hK => ?_) AllReadyG.nil
                obtain ⟨yy0, yy1, rr0, rr1, _, _, _, _⟩ := b2cells hBy
                go_simp
                refine hK.out _ _ ⟨fun h => by simp at h, fun h => by simp at h, Or.inr trivial⟩ (fun hH => ?_)
                refine wpAnyG_done (by kernel_rfl) ?_ _
                refine NoPanic.normal ?_
                go_wp2_with fail
                go_meet
                case rel => exact ⟨rfl, OUT⟩
              · go_simp
                have bel_5 : Below (w.heap.size + 3) wr (w_1.alloc (.cells #[.int .i64 (kn : Int)] 3)) := bel_1.alloc (by have := bel_1.size; omega) _
                have hN_5 := World.ownsRow.alloc hN_1 (.cells #[.int .i64 (kn : Int)] 3)
                have hI_5 := World.ownsRow.alloc hI_1 (.cells #[.int .i64 (kn : Int)] 3)
                have hb_5 : (w_1.alloc (.cells #[.int .i64 (kn : Int)] 3)).heap[w_1.heap.size]? = some (.cells #[.int .i64 (kn : Int)] 3 (0, 0)) := heap_alloc_new _ _
                have ho_5 := hAlloc hb_1 (.cells #[.int .i64 (kn : Int)] 3)
                have sw_5 := bel_1.size
                refine hK.out _ _ ⟨fun _ => (bel_5.cell (p := ⟨w.heap.size + 1 + 1, 0, none⟩) (by simp)).trans z0, fun _ => (bel_5.cell (p := ⟨w.heap.size + 1 + 1, 1, none⟩) (by simp)).trans z1, Or.inr trivial⟩ (fun hH => ?_)
                clear hK K
                obtain ⟨w_5, hw_5⟩ : ∃ x, x = w_1.alloc (.cells #[.int .i64 (kn : Int)] 3) := ⟨_, rfl⟩
                rw [← hw_5] at bel_5 hN_5 hI_5 hb_5 ho_5 hH ⊢
                clear hw_5
                simp only [zA9, zB9, zC9] at hH ⊢
                refine wpAnyG_ready (rs := [4]) (by kernel_rfl) (by simp) ?_
                refine AllReadyG.cons rfl (fun K hK => ?_) AllReadyG.nil
                refine step_one 54 9 (.string ⟨#[]⟩) 16 strSlice strInfo rfl rfl (.tmp 31) (.tmp 33) rfl (w.heap.size + 3) A.length (.slice PN A.length CN) (A.map fun p => strV p.1) (.string ⟨s.toArray⟩) (wx.heap.size) rfl hN_5 rfl ((Joins.cell_of_block ho_5 0).trans rfl) rfl (by omega) (by have := bel_5.size; omega) (by decide) ?_
                intro v_6 w_6 hr_6 hg_6
                have bel_6 : Below (w.heap.size + 3) wr w_6 := bel_5.trans (below_own hg_6 (by have := bel_5.size; omega) (own_ge hN_5))
                have hk_6 := keptI hN_5 hI_5 hg_6
                have ho_6 := keepK hN_5 hb_5 (by decide) hg_6
                obtain ⟨P_6, C_6, rfl⟩ := row_form hr_6
                refine hK.out _ _ ⟨fun _ => (bel_6.cell (p := ⟨w.heap.size + 1 + 1, 0, none⟩) (by simp)).trans z0, fun _ => (bel_6.cell (p := ⟨w.heap.size + 1 + 1, 1, none⟩) (by simp)).trans z1, Or.inr trivial⟩ (fun hH => ?_)
                clear hK K
                simp only [Act.put, List.setIfInBounds_toArray, List.set_cons_zero, List.set_cons_succ] at hH ⊢
                refine takeG (i := 10) (v := .pointer (some ⟨w.heap.size + 1 + 1, 0, none⟩)) [] rfl rfl (by kernel_rfl) (by kernel_rfl) (by kernel_rfl) (by kernel_rfl) (by kernel_rfl) (SG_set (by decide) (by decide)) (fun _ _ _ h => h) (Or.inl ⟨by rfl, ?_⟩) hH (fun hH => ?_)
                · intro w5 hSw; go_simp
                simp only [zA9, zB9, zC9] at hH ⊢
                refine wpAnyG_ready (rs := [9]) (by kernel_rfl) (by simp) ?_
                refine AllReadyG.cons rfl (fun K hK => ?_) AllReadyG.nil
                refine step_one 28 3 (.int .i64 0) 8 intSlice intInfo rfl rfl (.tmp 36) (.tmp 38) rfl (w.heap.size + 3) A.length (.slice PI A.length CI) (A.map fun p => intV p.2) (.int .i64 (kn : Int)) (w_1.heap.size) rfl hk_6 rfl ((Joins.cell_of_block ho_6 0).trans rfl) rfl (by omega) (by have := bel_6.size; omega) (by decide) ?_
                intro v_7 w_7 hr_7 hg_7
                have bel_7 : Below (w.heap.size + 3) wr w_7 := bel_6.trans (below_own hg_7 (by have := bel_6.size; omega) (own_ge hk_6))
                have hk_7 := keptS hr_6 hk_6 hg_7
                obtain ⟨P_7, C_7, rfl⟩ := row_form hr_7
                refine hK.out _ _ ⟨fun _ => (bel_7.cell (p := ⟨w.heap.size + 1 + 1, 0, none⟩) (by simp)).trans z0, fun _ => (bel_7.cell (p := ⟨w.heap.size + 1 + 1, 1, none⟩) (by simp)).trans z1, Or.inr trivial⟩ (fun hH => ?_)
                clear hK K
                simp only [Act.put, List.setIfInBounds_toArray, List.set_cons_zero, List.set_cons_succ] at hH ⊢
                refine wpAnyG_ready (rs := [11]) (by kernel_rfl) (by simp) ?_
                refine AllReadyG.cons rfl (fun K hK => ?_) AllReadyG.nil
                have hBz : w_7.heap[w.heap.size + 1 + 1]? = some (.cells #[.slice PN A.length CN, .slice PI A.length CI] 95 (0, 0)) := (bel_7.block (w.heap.size + 1 + 1) (by omega)).trans hB2
                have hBy : (w_7.setCell ⟨w.heap.size + 1 + 1, 0, none⟩ (.slice P_6 (A.length + 1) C_6)).heap[w.heap.size + 1 + 1]? = some (.cells #[.slice P_6 (A.length + 1) C_6, .slice PI A.length CI] 95 (0, 0)) := (heap_setCell_same _ _ 0 _ _ _ hBz).trans rfl
                obtain ⟨zz0, zz1, qq0, qq1, _, _, _, _⟩ := b2cells hBz
                have OUT := out_mk (a := s) (i := kn) hO.out bel_7 hBz hk_7 hr_7
                go_simp
                refine hK.out _ _ ⟨fun h => by simp at h, fun _ => (b2cells hBy).2.1, Or.inr trivial⟩ (fun hH => ?_)
                clear hK K
                simp only [zA9, zB9, zC9] at hH ⊢
                refine takeG (i := 12) (v := .pointer (some ⟨w.heap.size + 1 + 1, 1, none⟩)) [] rfl rfl (by kernel_rfl) (by kernel_rfl) (by kernel_rfl) (by kernel_rfl) (by kernel_rfl) (SG_set (by decide) (by decide)) (fun _ _ _ h => h) (Or.inl ⟨by rfl, ?_⟩) hH (fun hH => ?_)
                · intro w5 hSw; go_simp
                simp only [zA9, zB9, zC9] at hH ⊢
                refine wpAnyG_ready (rs := [13]) (by kernel_rfl) (by simp) ?_
                refine AllReadyG.cons rfl (fun K hK => ?_) AllReadyG.nil
                obtain ⟨yy0, yy1, rr0, rr1, _, _, _, _⟩ := b2cells hBy
                go_simp
                refine hK.out _ _ ⟨fun h => by simp at h, fun h => by simp at h, Or.inr trivial⟩ (fun hH => ?_)
                refine wpAnyG_done (by kernel_rfl) ?_ _
                refine NoPanic.normal ?_
                go_wp2_with fail
                go_meet
                case rel => exact ⟨rfl, OUT⟩
            · go_simp
              have bel_8 : Below (w.heap.size + 3) wr (wx.alloc (.cells #[.int .i64 (kn : Int)] 3)) := bel0.alloc (by have := bel0.size; omega) _
              have hN_8 := World.ownsRow.alloc hN0 (.cells #[.int .i64 (kn : Int)] 3)
              have hI_8 := World.ownsRow.alloc hI0 (.cells #[.int .i64 (kn : Int)] 3)
              have hb_8 : (wx.alloc (.cells #[.int .i64 (kn : Int)] 3)).heap[wx.heap.size]? = some (.cells #[.int .i64 (kn : Int)] 3 (0, 0)) := heap_alloc_new _ _
              have sw_8 := bel0.size
              refine hK.out _ _ ⟨fun _ => (bel_8.cell (p := ⟨w.heap.size + 1 + 1, 0, none⟩) (by simp)).trans z0, fun _ => (bel_8.cell (p := ⟨w.heap.size + 1 + 1, 1, none⟩) (by simp)).trans z1, Or.inr trivial⟩ (fun hH => ?_)
              clear hK K
              obtain ⟨w_8, hw_8⟩ : ∃ x, x = wx.alloc (.cells #[.int .i64 (kn : Int)] 3) := ⟨_, rfl⟩
              rw [← hw_8] at bel_8 hN_8 hI_8 hb_8 hH ⊢
              clear hw_8
              simp only [zA9, zB9, zC9] at hH ⊢
              refine wpAnyG_ready (rs := [3]) (by kernel_rfl) (by simp) ?_
              refine AllReadyG.cons rfl (fun K hK => ?_) AllReadyG.nil
              go_simp
              have bel_9 : Below (w.heap.size + 3) wr (w_8.alloc (.cells #[.string ⟨s.toArray⟩] 9)) := bel_8.alloc (by have := bel_8.size; omega) _
              have hN_9 := World.ownsRow.alloc hN_8 (.cells #[.string ⟨s.toArray⟩] 9)
              have hI_9 := World.ownsRow.alloc hI_8 (.cells #[.string ⟨s.toArray⟩] 9)
              have hb_9 : (w_8.alloc (.cells #[.string ⟨s.toArray⟩] 9)).heap[w_8.heap.size]? = some (.cells #[.string ⟨s.toArray⟩] 9 (0, 0)) := heap_alloc_new _ _
              have ho_9 := hAlloc hb_8 (.cells #[.string ⟨s.toArray⟩] 9)
              have sw_9 := bel_8.size
              refine hK.out _ _ ⟨fun _ => (bel_9.cell (p := ⟨w.heap.size + 1 + 1, 0, none⟩) (by simp)).trans z0, fun _ => (bel_9.cell (p := ⟨w.heap.size + 1 + 1, 1, none⟩) (by simp)).trans z1, Or.inr trivial⟩ (fun hH => ?_)
              clear hK K
              obtain ⟨w_9, hw_9⟩ : ∃ x, x = w_8.alloc (.cells #[.string ⟨s.toArray⟩] 9) := ⟨_, rfl⟩
              rw [← hw_9] at bel_9 hN_9 hI_9 hb_9 ho_9 hH ⊢
              clear hw_9
              simp only [zA9, zB9, zC9] at hH ⊢
              refine wpAnyG_ready (rs := [4]) (by kernel_rfl) (by simp) ?_
              refine AllReadyG.cons rfl (fun K hK => ?_) AllReadyG.nil
              refine step_one 54 9 (.string ⟨#[]⟩) 16 strSlice strInfo rfl rfl (.tmp 31) (.tmp 33) rfl (w.heap.size + 3) A.length (.slice PN A.length CN) (A.map fun p => strV p.1) (.string ⟨s.toArray⟩) (w_8.heap.size) rfl hN_9 rfl ((Joins.cell_of_block hb_9 0).trans rfl) rfl (by omega) (by have := bel_9.size; omega) (by decide) ?_
              intro v_10 w_10 hr_10 hg_10
              have bel_10 : Below (w.heap.size + 3) wr w_10 := bel_9.trans (below_own hg_10 (by have := bel_9.size; omega) (own_ge hN_9))
              have hk_10 := keptI hN_9 hI_9 hg_10
              have ho_10 := keepK hN_9 ho_9 (by decide) hg_10
              obtain ⟨P_10, C_10, rfl⟩ := row_form hr_10
              refine hK.out _ _ ⟨fun _ => (bel_10.cell (p := ⟨w.heap.size + 1 + 1, 0, none⟩) (by simp)).trans z0, fun _ => (bel_10.cell (p := ⟨w.heap.size + 1 + 1, 1, none⟩) (by simp)).trans z1, Or.inr trivial⟩ (fun hH => ?_)
              clear hK K
              simp only [Act.put, List.setIfInBounds_toArray, List.set_cons_zero, List.set_cons_succ] at hH ⊢
              refine takeG (i := 10) (v := .pointer (some ⟨w.heap.size + 1 + 1, 0, none⟩)) [] rfl rfl (by kernel_rfl) (by kernel_rfl) (by kernel_rfl) (by kernel_rfl) (by kernel_rfl) (SG_set (by decide) (by decide)) (fun _ _ _ h => h) (Or.inl ⟨by rfl, ?_⟩) hH (fun hH => ?_)
              · intro w5 hSw; go_simp
              simp only [zA9, zB9, zC9] at hH ⊢
              refine wpAnyG_ready (rs := [9]) (by kernel_rfl) (by simp) ?_
              refine AllReadyG.cons rfl (fun K hK => ?_) AllReadyG.nil
              refine step_one 28 3 (.int .i64 0) 8 intSlice intInfo rfl rfl (.tmp 36) (.tmp 38) rfl (w.heap.size + 3) A.length (.slice PI A.length CI) (A.map fun p => intV p.2) (.int .i64 (kn : Int)) (wx.heap.size) rfl hk_10 rfl ((Joins.cell_of_block ho_10 0).trans rfl) rfl (by omega) (by have := bel_10.size; omega) (by decide) ?_
              intro v_11 w_11 hr_11 hg_11
              have bel_11 : Below (w.heap.size + 3) wr w_11 := bel_10.trans (below_own hg_11 (by have := bel_10.size; omega) (own_ge hk_10))
              have hk_11 := keptS hr_10 hk_10 hg_11
              obtain ⟨P_11, C_11, rfl⟩ := row_form hr_11
              refine hK.out _ _ ⟨fun _ => (bel_11.cell (p := ⟨w.heap.size + 1 + 1, 0, none⟩) (by simp)).trans z0, fun _ => (bel_11.cell (p := ⟨w.heap.size + 1 + 1, 1, none⟩) (by simp)).trans z1, Or.inr trivial⟩ (fun hH => ?_)
              clear hK K
              simp only [Act.put, List.setIfInBounds_toArray, List.set_cons_zero, List.set_cons_succ] at hH ⊢
              refine wpAnyG_ready (rs := [11]) (by kernel_rfl) (by simp) ?_
              refine AllReadyG.cons rfl (fun K hK => ?_) AllReadyG.nil
              have hBz : w_11.heap[w.heap.size + 1 + 1]? = some (.cells #[.slice PN A.length CN, .slice PI A.length CI] 95 (0, 0)) := (bel_11.block (w.heap.size + 1 + 1) (by omega)).trans hB2
              have hBy : (w_11.setCell ⟨w.heap.size + 1 + 1, 0, none⟩ (.slice P_10 (A.length + 1) C_10)).heap[w.heap.size + 1 + 1]? = some (.cells #[.slice P_10 (A.length + 1) C_10, .slice PI A.length CI] 95 (0, 0)) := (heap_setCell_same _ _ 0 _ _ _ hBz).trans rfl
              obtain ⟨zz0, zz1, qq0, qq1, _, _, _, _⟩ := b2cells hBz
              have OUT := out_mk (a := s) (i := kn) hO.out bel_11 hBz hk_11 hr_11
              go_simp
              refine hK.out _ _ ⟨fun h => by simp at h, fun _ => (b2cells hBy).2.1, Or.inr trivial⟩ (fun hH => ?_)
              clear hK K
              simp only [zA9, zB9, zC9] at hH ⊢
              refine takeG (i := 12) (v := .pointer (some ⟨w.heap.size + 1 + 1, 1, none⟩)) [] rfl rfl (by kernel_rfl) (by kernel_rfl) (by kernel_rfl) (by kernel_rfl) (by kernel_rfl) (SG_set (by decide) (by decide)) (fun _ _ _ h => h) (Or.inl ⟨by rfl, ?_⟩) hH (fun hH => ?_)
              · intro w5 hSw; go_simp
              simp only [zA9, zB9, zC9] at hH ⊢
              refine wpAnyG_ready (rs := [13]) (by kernel_rfl) (by simp) ?_
              refine AllReadyG.cons rfl (fun K hK => ?_) AllReadyG.nil
              obtain ⟨yy0, yy1, rr0, rr1, _, _, _, _⟩ := b2cells hBy
              go_simp
              refine hK.out _ _ ⟨fun h => by simp at h, fun h => by simp at h, Or.inr trivial⟩ (fun hH => ?_)
              refine wpAnyG_done (by kernel_rfl) ?_ _
              refine NoPanic.normal ?_
              go_wp2_with fail
              go_meet
              case rel => exact ⟨rfl, OUT⟩
          case rest =>
            obtain ⟨hs9, hO2⟩ := hcut
            subst hs9
            clear y1 y2 x0 x1 hO hB2 hN2 hI2 z0 z1 q0 q1 yc0 yc1 yc2 yc3 hsz hls
            obtain ⟨y1, y2, x0, x1⟩ := Y.out hO2.out
            have hO := hO2
            have hAk : (A ++ [(s, kn)]).length ≤ 2 * k + 1 := by simp; omega
            obtain ⟨wr, hwr⟩ : ∃ x, x = wc := ⟨_, rfl⟩
            rw [← hwr] at hO y1 y2 x0 x1 ⊢
            clear hwr hO2
            obtain ⟨A', hA'⟩ : ∃ x, x = A ++ [(s, kn)] := ⟨_, rfl⟩
            rw [← hA'] at hO HD1 hAk
            clear hA'
            by_cases has : a = s
            · have b9 : (a == s) = true := by rw [has]; simp
              have HD : Hid (E = A' ++ wth s kn true (l.drop (k + 1))) := by show _ = _; rw [HD1.out, if_pos has, List.nil_append]
              clear has
              go_wp2_with fail
              go_roundw
              case rel => exact ⟨k + 1, true, A', by go_num, rfl, hlt, by omega, HD, fun _ => rfl, hO⟩
              case measure => simp [intOf]; omega
            · have b9 : (a == s) = false := by rw [beq_eq_false_iff_ne]; exact has
              have HD : Hid (E = (A' ++ [(a, i)]) ++ wth s kn true (l.drop (k + 1))) := by show _ = _; rw [HD1.out, if_neg has]; simp
              obtain ⟨vN, vI, hB2, hN2, hI2⟩ := hO.out.o
              obtain ⟨PN, CN, rfl⟩ := row_form hN2
              obtain ⟨PI, CI, rfl⟩ := row_form hI2
              obtain ⟨z0, z1, q0, q1, yc0, yc1, yc2, yc3⟩ := b2cells hB2
              have hsz := hO.out.sz
              go_wp2_with fail
              refine wp_region_noPanic ?_
              have bel0 : Below (w.heap.size + 3) wr wr.drew := below_drewN (Below.refl _ wr) 1
              have hN0 : wr.drew.ownsRow (w.heap.size + 3) 9 1 _ A'.length (A'.map fun p => strV p.1) := hN2
              have hI0 : wr.drew.ownsRow (w.heap.size + 3) 3 1 _ A'.length (A'.map fun p => intV p.2) := hI2
              refine wp_region_G (S := SG 19 21 (fun w' => w'.cell? ⟨w.heap.size + 1 + 1, 0, none⟩ = some (.slice PN A'.length CN)) (fun w' => w'.cell? ⟨w.heap.size + 1 + 1, 1, none⟩ = some (.slice PI A'.length CI)) (fun w' => w'.cell? ⟨w.heap.size, 0, none⟩ = some (.slice (some ⟨g1, o1, none⟩) N c1) ∧ w'.cell? ⟨w.heap.size, 1, none⟩ = some (.slice (some ⟨g2, o2, none⟩) N c2) ∧ w'.cell? ⟨g1, o1 + k, none⟩ = some (.string ⟨a.toArray⟩) ∧ w'.cell? ⟨g2, o2 + k, none⟩ = some (.int .i64 (i : Int)))) (by kernel_rfl) ⟨fun _ => z0, fun _ => z1, x0, x1, y1, y2⟩ (fun hH => ?_)
              obtain ⟨wx, hwx⟩ : ∃ x, x = wr.drew := ⟨_, rfl⟩
              rw [← hwx] at bel0 hN0 hI0 hH ⊢
              clear hwx
              simp only [Array.replicate, List.size_toArray, List.length_cons, List.length_nil, List.replicate, Nat.zero_add, Nat.reduceAdd] at hH ⊢
              refine takeG (i := 0) (v := .pointer (some ⟨w.heap.size + 1 + 1, 0, none⟩)) [] rfl rfl (by kernel_rfl) (by kernel_rfl) (by kernel_rfl) (by kernel_rfl) (by kernel_rfl) (SG_set (by decide) (by decide)) (fun _ _ _ h => h) (Or.inl ⟨by rfl, ?_⟩) hH (fun hH => ?_)
              · intro w5 hSw; go_simp
              simp only [zA9, zB9, zC9] at hH ⊢
              refine takeG (i := 1) (v := .slice PN A'.length CN) [19, 21] rfl rfl (by kernel_rfl) (by kernel_rfl) (by kernel_rfl) (by kernel_rfl) (by kernel_rfl) (SG_set (by decide) (by decide)) (fun _ _ _ h => h) (Or.inl ⟨by rfl, ?_⟩) hH (fun hH => ?_)
              · intro w5 hSw; obtain ⟨L5, hU5, hA5, hB5, hR5⟩ := hSw; have a5 := hA5 (hU5 _ (by simp)); have b5 := hB5 (hU5 _ (by simp)); go_simp
              simp only [zA9, zB9, zC9] at hH ⊢
              refine takeG (i := 2) (v := .pointer (some ⟨w.heap.size, 0, none⟩)) [] rfl rfl (by kernel_rfl) (by kernel_rfl) (by kernel_rfl) (by kernel_rfl) (by kernel_rfl) (SG_set (by decide) (by decide)) (fun _ _ _ h => h) (Or.inl ⟨by rfl, ?_⟩) hH (fun hH => ?_)
              · intro w5 hSw; go_simp
              simp only [zA9, zB9, zC9] at hH ⊢
              refine takeG (i := 3) (v := .slice (some ⟨g1, o1, none⟩) N c1) [] rfl rfl (by kernel_rfl) (by kernel_rfl) (by kernel_rfl) (by kernel_rfl) (by kernel_rfl) (SG_set (by decide) (by decide)) (fun _ _ _ h => h) (Or.inl ⟨by rfl, ?_⟩) hH (fun hH => ?_)
              · intro w5 hSw; obtain ⟨L5, hU5, hA5, hB5, e1, e2, e3, e4⟩ := hSw; go_simp
              simp only [zA9, zB9, zC9] at hH ⊢
              refine takeG (i := 4) (v := .int .i64 (k : Int)) [] rfl rfl (by kernel_rfl) (by kernel_rfl) (by kernel_rfl) (by kernel_rfl) (by kernel_rfl) (SG_set (by decide) (by decide)) (fun _ _ _ h => h) (Or.inl ⟨by rfl, ?_⟩) hH (fun hH => ?_)
              · intro w5 hSw; go_simp
              simp only [zA9, zB9, zC9] at hH ⊢
              refine takeG (i := 5) (v := .pointer (some ⟨g1, o1 + k, none⟩)) [] rfl rfl (by kernel_rfl) (by kernel_rfl) (by kernel_rfl) (by kernel_rfl) (by kernel_rfl) (SG_set (by decide) (by decide)) (fun _ _ _ h => h) (Or.inl ⟨by rfl, ?_⟩) hH (fun hH => ?_)
              · intro w5 hSw; go_simp
              simp only [zA9, zB9, zC9] at hH ⊢
              refine takeG (i := 6) (v := .string ⟨a.toArray⟩) [] rfl rfl (by kernel_rfl) (by kernel_rfl) (by kernel_rfl) (by kernel_rfl) (by kernel_rfl) (SG_set (by decide) (by decide)) (fun _ _ _ h => h) (Or.inl ⟨by rfl, ?_⟩) hH (fun hH => ?_)
              · intro w5 hSw; obtain ⟨L5, hU5, hA5, hB5, e1, e2, e3, e4⟩ := hSw; go_simp
              simp only [zA9, zB9, zC9] at hH ⊢
              refine takeG (i := 9) (v := .pointer (some ⟨w.heap.size + 1 + 1, 1, none⟩)) [] rfl rfl (by kernel_rfl) (by kernel_rfl) (by kernel_rfl) (by kernel_rfl) (by kernel_rfl) (SG_set (by decide) (by decide)) (fun _ _ _ h => h) (Or.inl ⟨by rfl, ?_⟩) hH (fun hH => ?_)
              · intro w5 hSw; go_simp
              simp only [zA9, zB9, zC9] at hH ⊢
              refine takeG (i := 10) (v := .slice PI A'.length CI) [19, 21] rfl rfl (by kernel_rfl) (by kernel_rfl) (by kernel_rfl) (by kernel_rfl) (by kernel_rfl) (SG_set (by decide) (by decide)) (fun _ _ _ h => h) (Or.inl ⟨by rfl, ?_⟩) hH (fun hH => ?_)
              · intro w5 hSw; obtain ⟨L5, hU5, hA5, hB5, hR5⟩ := hSw; have a5 := hA5 (hU5 _ (by simp)); have b5 := hB5 (hU5 _ (by simp)); go_simp
              simp only [zA9, zB9, zC9] at hH ⊢
              refine takeG (i := 11) (v := .pointer (some ⟨w.heap.size, 1, none⟩)) [] rfl rfl (by kernel_rfl) (by kernel_rfl) (by kernel_rfl) (by kernel_rfl) (by kernel_rfl) (SG_set (by decide) (by decide)) (fun _ _ _ h => h) (Or.inl ⟨by rfl, ?_⟩) hH (fun hH => ?_)
              · intro w5 hSw; go_simp
              simp only [zA9, zB9, zC9] at hH ⊢
              refine takeG (i := 12) (v := .slice (some ⟨g2, o2, none⟩) N c2) [] rfl rfl (by kernel_rfl) (by kernel_rfl) (by kernel_rfl) (by kernel_rfl) (by kernel_rfl) (SG_set (by decide) (by decide)) (fun _ _ _ h => h) (Or.inl ⟨by rfl, ?_⟩) hH (fun hH => ?_)
              · intro w5 hSw; obtain ⟨L5, hU5, hA5, hB5, e1, e2, e3, e4⟩ := hSw; go_simp
              simp only [zA9, zB9, zC9] at hH ⊢
              refine takeG (i := 13) (v := .int .i64 (k : Int)) [] rfl rfl (by kernel_rfl) (by kernel_rfl) (by kernel_rfl) (by kernel_rfl) (by kernel_rfl) (SG_set (by decide) (by decide)) (fun _ _ _ h => h) (Or.inl ⟨by rfl, ?_⟩) hH (fun hH => ?_)
              · intro w5 hSw; go_simp
              simp only [zA9, zB9, zC9] at hH ⊢
              refine takeG (i := 14) (v := .pointer (some ⟨g2, o2 + k, none⟩)) [] rfl rfl (by kernel_rfl) (by kernel_rfl) (by kernel_rfl) (by kernel_rfl) (by kernel_rfl) (SG_set (by decide) (by decide)) (fun _ _ _ h => h) (Or.inl ⟨by rfl, ?_⟩) hH (fun hH => ?_)
              · intro w5 hSw; go_simp
              simp only [zA9, zB9, zC9] at hH ⊢
              refine takeG (i := 15) (v := .int .i64 (i : Int)) [] rfl rfl (by kernel_rfl) (by kernel_rfl) (by kernel_rfl) (by kernel_rfl) (by kernel_rfl) (SG_set (by decide) (by decide)) (fun _ _ _ h => h) (Or.inl ⟨by rfl, ?_⟩) hH (fun hH => ?_)
              · intro w5 hSw; obtain ⟨L5, hU5, hA5, hB5, e1, e2, e3, e4⟩ := hSw; go_simp
              simp only [zA9, zB9, zC9] at hH ⊢
              refine wpAnyG_ready (rs := [7, 16]) (by kernel_rfl) (by simp) ?_
              refine AllReadyG.cons rfl (fun K hK => ?_) (AllReadyG.cons rfl (fun K hK => ?_) AllReadyG.nil)
              · go_simp
                have bel_1 : Below (w.heap.size + 3) wr (wx.alloc (.cells #[.string ⟨a.toArray⟩] 9)) := bel0.alloc (by have := bel0.size; omega) _
                have hN_1 := World.ownsRow.alloc hN0 (.cells #[.string ⟨a.toArray⟩] 9)
                have hI_1 := World.ownsRow.alloc hI0 (.cells #[.string ⟨a.toArray⟩] 9)
                have hb_1 : (wx.alloc (.cells #[.string ⟨a.toArray⟩] 9)).heap[wx.heap.size]? = some (.cells #[.string ⟨a.toArray⟩] 9 (0, 0)) := heap_alloc_new _ _
                have sw_1 := bel0.size
                refine hK.out _ _ ⟨fun _ => (bel_1.cell (p := ⟨w.heap.size + 1 + 1, 0, none⟩) (by simp)).trans z0, fun _ => (bel_1.cell (p := ⟨w.heap.size + 1 + 1, 1, none⟩) (by simp)).trans z1, (bel_1.cell (p := ⟨w.heap.size, 0, none⟩) (by simp)).trans x0, (bel_1.cell (p := ⟨w.heap.size, 1, none⟩) (by simp)).trans x1, (bel_1.cell (p := ⟨g1, o1 + k, none⟩) (show g1 < w.heap.size + 3 by omega)).trans y1, (bel_1.cell (p := ⟨g2, o2 + k, none⟩) (show g2 < w.heap.size + 3 by omega)).trans y2⟩ (fun hH => ?_)
                clear hK K
                obtain ⟨w_1, hw_1⟩ : ∃ x, x = wx.alloc (.cells #[.string ⟨a.toArray⟩] 9) := ⟨_, rfl⟩
                rw [← hw_1] at bel_1 hN_1 hI_1 hb_1 hH ⊢
                clear hw_1
                simp only [zA9, zB9, zC9] at hH ⊢
                refine wpAnyG_ready (rs := [8, 16]) (by kernel_rfl) (by simp) ?_
                refine AllReadyG.cons rfl (fun K hK => ?_) (AllReadyG.cons rfl (fun K hK => ?_) AllReadyG.nil)
                · refine step_one 54 9 (.string ⟨#[]⟩) 16 strSlice strInfo rfl rfl (.tmp 50) (.tmp 56) rfl (w.heap.size + 3) A'.length (.slice PN A'.length CN) (A'.map fun p => strV p.1) (.string ⟨a.toArray⟩) (wx.heap.size) rfl hN_1 rfl ((Joins.cell_of_block hb_1 0).trans rfl) rfl (by omega) (by have := bel_1.size; omega) (by decide) ?_
                  intro v_2 w_2 hr_2 hg_2
                  have bel_2 : Below (w.heap.size + 3) wr w_2 := bel_1.trans (below_own hg_2 (by have := bel_1.size; omega) (own_ge hN_1))
                  have hk_2 := keptI hN_1 hI_1 hg_2
                  obtain ⟨P_2, C_2, rfl⟩ := row_form hr_2
                  refine hK.out _ _ ⟨fun _ => (bel_2.cell (p := ⟨w.heap.size + 1 + 1, 0, none⟩) (by simp)).trans z0, fun _ => (bel_2.cell (p := ⟨w.heap.size + 1 + 1, 1, none⟩) (by simp)).trans z1, (bel_2.cell (p := ⟨w.heap.size, 0, none⟩) (by simp)).trans x0, (bel_2.cell (p := ⟨w.heap.size, 1, none⟩) (by simp)).trans x1, (bel_2.cell (p := ⟨g1, o1 + k, none⟩) (show g1 < w.heap.size + 3 by omega)).trans y1, (bel_2.cell (p := ⟨g2, o2 + k, none⟩) (show g2 < w.heap.size + 3 by omega)).trans y2⟩ (fun hH => ?_)
                  clear hK K
                  simp only [Act.put, List.setIfInBounds_toArray, List.set_cons_zero, List.set_cons_succ] at hH ⊢
                  refine takeG (i := 18) (v := .pointer (some ⟨w.heap.size + 1 + 1, 0, none⟩)) [] rfl rfl (by kernel_rfl) (by kernel_rfl) (by kernel_rfl) (by kernel_rfl) (by kernel_rfl) (SG_set (by decide) (by decide)) (fun _ _ _ h => h) (Or.inl ⟨by rfl, ?_⟩) hH (fun hH => ?_)
                  · intro w5 hSw; go_simp
                  simp only [zA9, zB9, zC9] at hH ⊢
                  refine wpAnyG_ready (rs := [16]) (by kernel_rfl) (by simp) ?_
                  refine AllReadyG.cons rfl (fun K hK => ?_) AllReadyG.nil
                  go_simp
                  have bel_3 : Below (w.heap.size + 3) wr (w_2.alloc (.cells #[.int .i64 (i : Int)] 3)) := bel_2.alloc (by have := bel_2.size; omega) _
                  have hN_3 := World.ownsRow.alloc hr_2 (.cells #[.int .i64 (i : Int)] 3)
                  have hI_3 := World.ownsRow.alloc hk_2 (.cells #[.int .i64 (i : Int)] 3)
                  have hb_3 : (w_2.alloc (.cells #[.int .i64 (i : Int)] 3)).heap[w_2.heap.size]? = some (.cells #[.int .i64 (i : Int)] 3 (0, 0)) := heap_alloc_new _ _
                  have sw_3 := bel_2.size
                  refine hK.out _ _ ⟨fun _ => (bel_3.cell (p := ⟨w.heap.size + 1 + 1, 0, none⟩) (by simp)).trans z0, fun _ => (bel_3.cell (p := ⟨w.heap.size + 1 + 1, 1, none⟩) (by simp)).trans z1, (bel_3.cell (p := ⟨w.heap.size, 0, none⟩) (by simp)).trans x0, (bel_3.cell (p := ⟨w.heap.size, 1, none⟩) (by simp)).trans x1, (bel_3.cell (p := ⟨g1, o1 + k, none⟩) (show g1 < w.heap.size + 3 by omega)).trans y1, (bel_3.cell (p := ⟨g2, o2 + k, none⟩) (show g2 < w.heap.size + 3 by omega)).trans y2⟩ (fun hH => ?_)
                  clear hK K
                  obtain ⟨w_3, hw_3⟩ : ∃ x, x = w_2.alloc (.cells #[.int .i64 (i : Int)] 3) := ⟨_, rfl⟩
                  rw [← hw_3] at bel_3 hN_3 hI_3 hb_3 hH ⊢
                  clear hw_3
                  simp only [zA9, zB9, zC9] at hH ⊢
                  refine wpAnyG_ready (rs := [17]) (by kernel_rfl) (by simp) ?_
                  refine AllReadyG.cons rfl (fun K hK => ?_) AllReadyG.nil
                  refine step_one 28 3 (.int .i64 0) 8 intSlice intInfo rfl rfl (.tmp 59) (.tmp 65) rfl (w.heap.size + 3) A'.length (.slice PI A'.length CI) (A'.map fun p => intV p.2) (.int .i64 (i : Int)) (w_2.heap.size) rfl hI_3 rfl ((Joins.cell_of_block hb_3 0).trans rfl) rfl (by omega) (by have := bel_3.size; omega) (by decide) ?_
                  intro v_4 w_4 hr_4 hg_4
                  have bel_4 : Below (w.heap.size + 3) wr w_4 := bel_3.trans (below_own hg_4 (by have := bel_3.size; omega) (own_ge hI_3))
                  have hk_4 := keptS hN_3 hI_3 hg_4
                  obtain ⟨P_4, C_4, rfl⟩ := row_form hr_4
                  refine hK.out _ _ ⟨fun _ => (bel_4.cell (p := ⟨w.heap.size + 1 + 1, 0, none⟩) (by simp)).trans z0, fun _ => (bel_4.cell (p := ⟨w.heap.size + 1 + 1, 1, none⟩) (by simp)).trans z1, (bel_4.cell (p := ⟨w.heap.size, 0, none⟩) (by simp)).trans x0, (bel_4.cell (p := ⟨w.heap.size, 1, none⟩) (by simp)).trans x1, (bel_4.cell (p := ⟨g1, o1 + k, none⟩) (show g1 < w.heap.size + 3 by omega)).trans y1, (bel_4.cell (p := ⟨g2, o2 + k, none⟩) (show g2 < w.heap.size + 3 by omega)).trans y2⟩ (fun hH => ?_)
                  clear hK K
                  simp only [Act.put, List.setIfInBounds_toArray, List.set_cons_zero, List.set_cons_succ] at hH ⊢
                  refine wpAnyG_ready (rs := [19]) (by kernel_rfl) (by simp) ?_
                  refine AllReadyG.cons rfl (fun K hK => ?_) AllReadyG.nil
                  have hBz : w_4.heap[w.heap.size + 1 + 1]? = some (.cells #[.slice PN A'.length CN, .slice PI A'.length CI] 95 (0, 0)) := (bel_4.block (w.heap.size + 1 + 1) (by omega)).trans hB2
                  have hBy : (w_4.setCell ⟨w.heap.size + 1 + 1, 0, none⟩ (.slice P_2 (A'.length + 1) C_2)).heap[w.heap.size + 1 + 1]? = some (.cells #[.slice P_2 (A'.length + 1) C_2, .slice PI A'.length CI] 95 (0, 0)) := (heap_setCell_same _ _ 0 _ _ _ hBz).trans rfl
                  obtain ⟨zz0, zz1, qq0, qq1, _, _, _, _⟩ := b2cells hBz
                  have OUT := out_mk (a := a) (i := i) hO.out bel_4 hBz hk_4 hr_4
                  go_simp
                  refine hK.out _ _ ⟨fun h => by simp at h, fun _ => (b2cells hBy).2.1, ⟨cell_set (b := w.heap.size) (by omega) ((bel_4.cell (p := ⟨w.heap.size, 0, none⟩) (show w.heap.size < w.heap.size + 3 by omega)).trans x0), cell_set (b := w.heap.size) (by omega) ((bel_4.cell (p := ⟨w.heap.size, 1, none⟩) (show w.heap.size < w.heap.size + 3 by omega)).trans x1), cell_set (b := g1) (by omega) ((bel_4.cell (p := ⟨g1, o1 + k, none⟩) (show g1 < w.heap.size + 3 by omega)).trans y1), cell_set (b := g2) (by omega) ((bel_4.cell (p := ⟨g2, o2 + k, none⟩) (show g2 < w.heap.size + 3 by omega)).trans y2)⟩⟩ (fun hH => ?_)
                  clear hK K
                  simp only [zA9, zB9, zC9] at hH ⊢
                  refine takeG (i := 20) (v := .pointer (some ⟨w.heap.size + 1 + 1, 1, none⟩)) [] rfl rfl (by kernel_rfl) (by kernel_rfl) (by kernel_rfl) (by kernel_rfl) (by kernel_rfl) (SG_set (by decide) (by decide)) (fun _ _ _ h => h) (Or.inl ⟨by rfl, ?_⟩) hH (fun hH => ?_)
                  · intro w5 hSw; go_simp
                  simp only [zA9, zB9, zC9] at hH ⊢
                  refine wpAnyG_ready (rs := [21]) (by kernel_rfl) (by simp) ?_
                  refine AllReadyG.cons rfl (fun K hK => ?_) AllReadyG.nil
                  obtain ⟨yy0, yy1, rr0, rr1, _, _, _, _⟩ := b2cells hBy
                  go_simp
                  refine hK.out _ _ ⟨fun h => by simp at h, fun h => by simp at h, ⟨cell_set (b := w.heap.size) (by omega) (cell_set (b := w.heap.size) (by omega) ((bel_4.cell (p := ⟨w.heap.size, 0, none⟩) (show w.heap.size < w.heap.size + 3 by omega)).trans x0)), cell_set (b := w.heap.size) (by omega) (cell_set (b := w.heap.size) (by omega) ((bel_4.cell (p := ⟨w.heap.size, 1, none⟩) (show w.heap.size < w.heap.size + 3 by omega)).trans x1)), cell_set (b := g1) (by omega) (cell_set (b := g1) (by omega) ((bel_4.cell (p := ⟨g1, o1 + k, none⟩) (show g1 < w.heap.size + 3 by omega)).trans y1)), cell_set (b := g2) (by omega) (cell_set (b := g2) (by omega) ((bel_4.cell (p := ⟨g2, o2 + k, none⟩) (show g2 < w.heap.size + 3 by omega)).trans y2))⟩⟩ (fun hH => ?_)
                  refine wpAnyG_done (by kernel_rfl) ?_ _
                  refine NoPanic.normal ?_
                  go_wp2_with fail
                  go_roundw
                  case rel => exact ⟨k + 1, true, A' ++ [(a, i)], by go_num, rfl, hlt, by simp; omega, HD, fun _ => rfl, OUT⟩
                  case measure => simp [intOf]; omega
                · go_simp
                  have bel_5 : Below (w.heap.size + 3) wr (w_1.alloc (.cells #[.int .i64 (i : Int)] 3)) := bel_1.alloc (by have := bel_1.size; omega) _
                  have hN_5 := World.ownsRow.alloc hN_1 (.cells #[.int .i64 (i : Int)] 3)
                  have hI_5 := World.ownsRow.alloc hI_1 (.cells #[.int .i64 (i : Int)] 3)
                  have hb_5 : (w_1.alloc (.cells #[.int .i64 (i : Int)] 3)).heap[w_1.heap.size]? = some (.cells #[.int .i64 (i : Int)] 3 (0, 0)) := heap_alloc_new _ _
                  have ho_5 := hAlloc hb_1 (.cells #[.int .i64 (i : Int)] 3)
                  have sw_5 := bel_1.size
                  refine hK.out _ _ ⟨fun _ => (bel_5.cell (p := ⟨w.heap.size + 1 + 1, 0, none⟩) (by simp)).trans z0, fun _ => (bel_5.cell (p := ⟨w.heap.size + 1 + 1, 1, none⟩) (by simp)).trans z1, (bel_5.cell (p := ⟨w.heap.size, 0, none⟩) (by simp)).trans x0, (bel_5.cell (p := ⟨w.heap.size, 1, none⟩) (by simp)).trans x1, (bel_5.cell (p := ⟨g1, o1 + k, none⟩) (show g1 < w.heap.size + 3 by omega)).trans y1, (bel_5.cell (p := ⟨g2, o2 + k, none⟩) (show g2 < w.heap.size + 3 by omega)).trans y2⟩ (fun hH => ?_)
                  clear hK K
                  obtain ⟨w_5, hw_5⟩ : ∃ x, x = w_1.alloc (.cells #[.int .i64 (i : Int)] 3) := ⟨_, rfl⟩
                  rw [← hw_5] at bel_5 hN_5 hI_5 hb_5 ho_5 hH ⊢
                  clear hw_5
                  simp only [zA9, zB9, zC9] at hH ⊢
                  refine wpAnyG_ready (rs := [8]) (by kernel_rfl) (by simp) ?_
                  refine AllReadyG.cons rfl (fun K hK => ?_) AllReadyG.nil
                  refine step_one 54 9 (.string ⟨#[]⟩) 16 strSlice strInfo rfl rfl (.tmp 50) (.tmp 56) rfl (w.heap.size + 3) A'.length (.slice PN A'.length CN) (A'.map fun p => strV p.1) (.string ⟨a.toArray⟩) (wx.heap.size) rfl hN_5 rfl ((Joins.cell_of_block ho_5 0).trans rfl) rfl (by omega) (by have := bel_5.size; omega) (by decide) ?_
                  intro v_6 w_6 hr_6 hg_6
                  have bel_6 : Below (w.heap.size + 3) wr w_6 := bel_5.trans (below_own hg_6 (by have := bel_5.size; omega) (own_ge hN_5))
                  have hk_6 := keptI hN_5 hI_5 hg_6
                  have ho_6 := keepK hN_5 hb_5 (by decide) hg_6
                  obtain ⟨P_6, C_6, rfl⟩ := row_form hr_6
                  refine hK.out _ _ ⟨fun _ => (bel_6.cell (p := ⟨w.heap.size + 1 + 1, 0, none⟩) (by simp)).trans z0, fun _ => (bel_6.cell (p := ⟨w.heap.size + 1 + 1, 1, none⟩) (by simp)).trans z1, (bel_6.cell (p := ⟨w.heap.size, 0, none⟩) (by simp)).trans x0, (bel_6.cell (p := ⟨w.heap.size, 1, none⟩) (by simp)).trans x1, (bel_6.cell (p := ⟨g1, o1 + k, none⟩) (show g1 < w.heap.size + 3 by omega)).trans y1, (bel_6.cell (p := ⟨g2, o2 + k, none⟩) (show g2 < w.heap.size + 3 by omega)).trans y2⟩ (fun hH => ?_)
                  clear hK K
                  simp only [Act.put, List.setIfInBounds_toArray, List.set_cons_zero, List.set_cons_succ] at hH ⊢
                  refine takeG (i := 18) (v := .pointer (some ⟨w.heap.size + 1 + 1, 0, none⟩)) [] rfl rfl (by kernel_rfl) (by kernel_rfl) (by kernel_rfl) (by kernel_rfl) (by kernel_rfl) (SG_set (by decide) (by decide)) (fun _ _ _ h => h) (Or.inl ⟨by rfl, ?_⟩) hH (fun hH => ?_)
                  · intro w5 hSw; go_simp
                  simp only [zA9, zB9, zC9] at hH ⊢
                  refine wpAnyG_ready (rs := [17]) (by kernel_rfl) (by simp) ?_
                  refine AllReadyG.cons rfl (fun K hK => ?_) AllReadyG.nil
                  refine step_one 28 3 (.int .i64 0) 8 intSlice intInfo rfl rfl (.tmp 59) (.tmp 65) rfl (w.heap.size + 3) A'.length (.slice PI A'.length CI) (A'.map fun p => intV p.2) (.int .i64 (i : Int)) (w_1.heap.size) rfl hk_6 rfl ((Joins.cell_of_block ho_6 0).trans rfl) rfl (by omega) (by have := bel_6.size; omega) (by decide) ?_
                  intro v_7 w_7 hr_7 hg_7
                  have bel_7 : Below (w.heap.size + 3) wr w_7 := bel_6.trans (below_own hg_7 (by have := bel_6.size; omega) (own_ge hk_6))
                  have hk_7 := keptS hr_6 hk_6 hg_7
                  obtain ⟨P_7, C_7, rfl⟩ := row_form hr_7
                  refine hK.out _ _ ⟨fun _ => (bel_7.cell (p := ⟨w.heap.size + 1 + 1, 0, none⟩) (by simp)).trans z0, fun _ => (bel_7.cell (p := ⟨w.heap.size + 1 + 1, 1, none⟩) (by simp)).trans z1, (bel_7.cell (p := ⟨w.heap.size, 0, none⟩) (by simp)).trans x0, (bel_7.cell (p := ⟨w.heap.size, 1, none⟩) (by simp)).trans x1, (bel_7.cell (p := ⟨g1, o1 + k, none⟩) (show g1 < w.heap.size + 3 by omega)).trans y1, (bel_7.cell (p := ⟨g2, o2 + k, none⟩) (show g2 < w.heap.size + 3 by omega)).trans y2⟩ (fun hH => ?_)
                  clear hK K
                  simp only [Act.put, List.setIfInBounds_toArray, List.set_cons_zero, List.set_cons_succ] at hH ⊢
                  refine wpAnyG_ready (rs := [19]) (by kernel_rfl) (by simp) ?_
                  refine AllReadyG.cons rfl (fun K hK => ?_) AllReadyG.nil
                  have hBz : w_7.heap[w.heap.size + 1 + 1]? = some (.cells #[.slice PN A'.length CN, .slice PI A'.length CI] 95 (0, 0)) := (bel_7.block (w.heap.size + 1 + 1) (by omega)).trans hB2
                  have hBy : (w_7.setCell ⟨w.heap.size + 1 + 1, 0, none⟩ (.slice P_6 (A'.length + 1) C_6)).heap[w.heap.size + 1 + 1]? = some (.cells #[.slice P_6 (A'.length + 1) C_6, .slice PI A'.length CI] 95 (0, 0)) := (heap_setCell_same _ _ 0 _ _ _ hBz).trans rfl
                  obtain ⟨zz0, zz1, qq0, qq1, _, _, _, _⟩ := b2cells hBz
                  have OUT := out_mk (a := a) (i := i) hO.out bel_7 hBz hk_7 hr_7
                  go_simp
                  refine hK.out _ _ ⟨fun h => by simp at h, fun _ => (b2cells hBy).2.1, ⟨cell_set (b := w.heap.size) (by omega) ((bel_7.cell (p := ⟨w.heap.size, 0, none⟩) (show w.heap.size < w.heap.size + 3 by omega)).trans x0), cell_set (b := w.heap.size) (by omega) ((bel_7.cell (p := ⟨w.heap.size, 1, none⟩) (show w.heap.size < w.heap.size + 3 by omega)).trans x1), cell_set (b := g1) (by omega) ((bel_7.cell (p := ⟨g1, o1 + k, none⟩) (show g1 < w.heap.size + 3 by omega)).trans y1), cell_set (b := g2) (by omega) ((bel_7.cell (p := ⟨g2, o2 + k, none⟩) (show g2 < w.heap.size + 3 by omega)).trans y2)⟩⟩ (fun hH => ?_)
                  clear hK K
                  simp only [zA9, zB9, zC9] at hH ⊢
                  refine takeG (i := 20) (v := .pointer (some ⟨w.heap.size + 1 + 1, 1, none⟩)) [] rfl rfl (by kernel_rfl) (by kernel_rfl) (by kernel_rfl) (by kernel_rfl) (by kernel_rfl) (SG_set (by decide) (by decide)) (fun _ _ _ h => h) (Or.inl ⟨by rfl, ?_⟩) hH (fun hH => ?_)
                  · intro w5 hSw; go_simp
                  simp only [zA9, zB9, zC9] at hH ⊢
                  refine wpAnyG_ready (rs := [21]) (by kernel_rfl) (by simp) ?_
                  refine AllReadyG.cons rfl (fun K hK => ?_) AllReadyG.nil
                  obtain ⟨yy0, yy1, rr0, rr1, _, _, _, _⟩ := b2cells hBy
                  go_simp
                  refine hK.out _ _ ⟨fun h => by simp at h, fun h => by simp at h, ⟨cell_set (b := w.heap.size) (by omega) (cell_set (b := w.heap.size) (by omega) ((bel_7.cell (p := ⟨w.heap.size, 0, none⟩) (show w.heap.size < w.heap.size + 3 by omega)).trans x0)), cell_set (b := w.heap.size) (by omega) (cell_set (b := w.heap.size) (by omega) ((bel_7.cell (p := ⟨w.heap.size, 1, none⟩) (show w.heap.size < w.heap.size + 3 by omega)).trans x1)), cell_set (b := g1) (by omega) (cell_set (b := g1) (by omega) ((bel_7.cell (p := ⟨g1, o1 + k, none⟩) (show g1 < w.heap.size + 3 by omega)).trans y1)), cell_set (b := g2) (by omega) (cell_set (b := g2) (by omega) ((bel_7.cell (p := ⟨g2, o2 + k, none⟩) (show g2 < w.heap.size + 3 by omega)).trans y2))⟩⟩ (fun hH => ?_)
                  refine wpAnyG_done (by kernel_rfl) ?_ _
                  refine NoPanic.normal ?_
                  go_wp2_with fail
                  go_roundw
                  case rel => exact ⟨k + 1, true, A' ++ [(a, i)], by go_num, rfl, hlt, by simp; omega, HD, fun _ => rfl, OUT⟩
                  case measure => simp [intOf]; omega
              · go_simp
                have bel_8 : Below (w.heap.size + 3) wr (wx.alloc (.cells #[.int .i64 (i : Int)] 3)) := bel0.alloc (by have := bel0.size; omega) _
                have hN_8 := World.ownsRow.alloc hN0 (.cells #[.int .i64 (i : Int)] 3)
                have hI_8 := World.ownsRow.alloc hI0 (.cells #[.int .i64 (i : Int)] 3)
                have hb_8 : (wx.alloc (.cells #[.int .i64 (i : Int)] 3)).heap[wx.heap.size]? = some (.cells #[.int .i64 (i : Int)] 3 (0, 0)) := heap_alloc_new _ _
                have sw_8 := bel0.size
                refine hK.out _ _ ⟨fun _ => (bel_8.cell (p := ⟨w.heap.size + 1 + 1, 0, none⟩) (by simp)).trans z0, fun _ => (bel_8.cell (p := ⟨w.heap.size + 1 + 1, 1, none⟩) (by simp)).trans z1, (bel_8.cell (p := ⟨w.heap.size, 0, none⟩) (by simp)).trans x0, (bel_8.cell (p := ⟨w.heap.size, 1, none⟩) (by simp)).trans x1, (bel_8.cell (p := ⟨g1, o1 + k, none⟩) (show g1 < w.heap.size + 3 by omega)).trans y1, (bel_8.cell (p := ⟨g2, o2 + k, none⟩) (show g2 < w.heap.size + 3 by omega)).trans y2⟩ (fun hH => ?_)
                clear hK K
                obtain ⟨w_8, hw_8⟩ : ∃ x, x = wx.alloc (.cells #[.int .i64 (i : Int)] 3) := ⟨_, rfl⟩
                rw [← hw_8] at bel_8 hN_8 hI_8 hb_8 hH ⊢
                clear hw_8
                simp only [zA9, zB9, zC9] at hH ⊢
                refine wpAnyG_ready (rs := [7]) (by kernel_rfl) (by simp) ?_
                refine AllReadyG.cons rfl (fun K hK => ?_) AllReadyG.nil
                go_simp
                have bel_9 : Below (w.heap.size + 3) wr (w_8.alloc (.cells #[.string ⟨a.toArray⟩] 9)) := bel_8.alloc (by have := bel_8.size; omega) _
                have hN_9 := World.ownsRow.alloc hN_8 (.cells #[.string ⟨a.toArray⟩] 9)
                have hI_9 := World.ownsRow.alloc hI_8 (.cells #[.string ⟨a.toArray⟩] 9)
                have hb_9 : (w_8.alloc (.cells #[.string ⟨a.toArray⟩] 9)).heap[w_8.heap.size]? = some (.cells #[.string ⟨a.toArray⟩] 9 (0, 0)) := heap_alloc_new _ _
                have ho_9 := hAlloc hb_8 (.cells #[.string ⟨a.toArray⟩] 9)
                have sw_9 := bel_8.size
                refine hK.out _ _ ⟨fun _ => (bel_9.cell (p := ⟨w.heap.size + 1 + 1, 0, none⟩) (by simp)).trans z0, fun _ => (bel_9.cell (p := ⟨w.heap.size + 1 + 1, 1, none⟩) (by simp)).trans z1, (bel_9.cell (p := ⟨w.heap.size, 0, none⟩) (by simp)).trans x0, (bel_9.cell (p := ⟨w.heap.size, 1, none⟩) (by simp)).trans x1, (bel_9.cell (p := ⟨g1, o1 + k, none⟩) (show g1 < w.heap.size + 3 by omega)).trans y1, (bel_9.cell (p := ⟨g2, o2 + k, none⟩) (show g2 < w.heap.size + 3 by omega)).trans y2⟩ (fun hH => ?_)
                clear hK K
                obtain ⟨w_9, hw_9⟩ : ∃ x, x = w_8.alloc (.cells #[.string ⟨a.toArray⟩] 9) := ⟨_, rfl⟩
                rw [← hw_9] at bel_9 hN_9 hI_9 hb_9 ho_9 hH ⊢
                clear hw_9
                simp only [zA9, zB9, zC9] at hH ⊢
                refine wpAnyG_ready (rs := [8]) (by kernel_rfl) (by simp) ?_
                refine AllReadyG.cons rfl (fun K hK => ?_) AllReadyG.nil
                refine step_one 54 9 (.string ⟨#[]⟩) 16 strSlice strInfo rfl rfl (.tmp 50) (.tmp 56) rfl (w.heap.size + 3) A'.length (.slice PN A'.length CN) (A'.map fun p => strV p.1) (.string ⟨a.toArray⟩) (w_8.heap.size) rfl hN_9 rfl ((Joins.cell_of_block hb_9 0).trans rfl) rfl (by omega) (by have := bel_9.size; omega) (by decide) ?_
                intro v_10 w_10 hr_10 hg_10
                have bel_10 : Below (w.heap.size + 3) wr w_10 := bel_9.trans (below_own hg_10 (by have := bel_9.size; omega) (own_ge hN_9))
                have hk_10 := keptI hN_9 hI_9 hg_10
                have ho_10 := keepK hN_9 ho_9 (by decide) hg_10
                obtain ⟨P_10, C_10, rfl⟩ := row_form hr_10
                refine hK.out _ _ ⟨fun _ => (bel_10.cell (p := ⟨w.heap.size + 1 + 1, 0, none⟩) (by simp)).trans z0, fun _ => (bel_10.cell (p := ⟨w.heap.size + 1 + 1, 1, none⟩) (by simp)).trans z1, (bel_10.cell (p := ⟨w.heap.size, 0, none⟩) (by simp)).trans x0, (bel_10.cell (p := ⟨w.heap.size, 1, none⟩) (by simp)).trans x1, (bel_10.cell (p := ⟨g1, o1 + k, none⟩) (show g1 < w.heap.size + 3 by omega)).trans y1, (bel_10.cell (p := ⟨g2, o2 + k, none⟩) (show g2 < w.heap.size + 3 by omega)).trans y2⟩ (fun hH => ?_)
                clear hK K
                simp only [Act.put, List.setIfInBounds_toArray, List.set_cons_zero, List.set_cons_succ] at hH ⊢
                refine takeG (i := 18) (v := .pointer (some ⟨w.heap.size + 1 + 1, 0, none⟩)) [] rfl rfl (by kernel_rfl) (by kernel_rfl) (by kernel_rfl) (by kernel_rfl) (by kernel_rfl) (SG_set (by decide) (by decide)) (fun _ _ _ h => h) (Or.inl ⟨by rfl, ?_⟩) hH (fun hH => ?_)
                · intro w5 hSw; go_simp
                simp only [zA9, zB9, zC9] at hH ⊢
                refine wpAnyG_ready (rs := [17]) (by kernel_rfl) (by simp) ?_
                refine AllReadyG.cons rfl (fun K hK => ?_) AllReadyG.nil
                refine step_one 28 3 (.int .i64 0) 8 intSlice intInfo rfl rfl (.tmp 59) (.tmp 65) rfl (w.heap.size + 3) A'.length (.slice PI A'.length CI) (A'.map fun p => intV p.2) (.int .i64 (i : Int)) (wx.heap.size) rfl hk_10 rfl ((Joins.cell_of_block ho_10 0).trans rfl) rfl (by omega) (by have := bel_10.size; omega) (by decide) ?_
                intro v_11 w_11 hr_11 hg_11
                have bel_11 : Below (w.heap.size + 3) wr w_11 := bel_10.trans (below_own hg_11 (by have := bel_10.size; omega) (own_ge hk_10))
                have hk_11 := keptS hr_10 hk_10 hg_11
                obtain ⟨P_11, C_11, rfl⟩ := row_form hr_11
                refine hK.out _ _ ⟨fun _ => (bel_11.cell (p := ⟨w.heap.size + 1 + 1, 0, none⟩) (by simp)).trans z0, fun _ => (bel_11.cell (p := ⟨w.heap.size + 1 + 1, 1, none⟩) (by simp)).trans z1, (bel_11.cell (p := ⟨w.heap.size, 0, none⟩) (by simp)).trans x0, (bel_11.cell (p := ⟨w.heap.size, 1, none⟩) (by simp)).trans x1, (bel_11.cell (p := ⟨g1, o1 + k, none⟩) (show g1 < w.heap.size + 3 by omega)).trans y1, (bel_11.cell (p := ⟨g2, o2 + k, none⟩) (show g2 < w.heap.size + 3 by omega)).trans y2⟩ (fun hH => ?_)
                clear hK K
                simp only [Act.put, List.setIfInBounds_toArray, List.set_cons_zero, List.set_cons_succ] at hH ⊢
                refine wpAnyG_ready (rs := [19]) (by kernel_rfl) (by simp) ?_
                refine AllReadyG.cons rfl (fun K hK => ?_) AllReadyG.nil
                have hBz : w_11.heap[w.heap.size + 1 + 1]? = some (.cells #[.slice PN A'.length CN, .slice PI A'.length CI] 95 (0, 0)) := (bel_11.block (w.heap.size + 1 + 1) (by omega)).trans hB2
                have hBy : (w_11.setCell ⟨w.heap.size + 1 + 1, 0, none⟩ (.slice P_10 (A'.length + 1) C_10)).heap[w.heap.size + 1 + 1]? = some (.cells #[.slice P_10 (A'.length + 1) C_10, .slice PI A'.length CI] 95 (0, 0)) := (heap_setCell_same _ _ 0 _ _ _ hBz).trans rfl
                obtain ⟨zz0, zz1, qq0, qq1, _, _, _, _⟩ := b2cells hBz
                have OUT := out_mk (a := a) (i := i) hO.out bel_11 hBz hk_11 hr_11
                go_simp
                refine hK.out _ _ ⟨fun h => by simp at h, fun _ => (b2cells hBy).2.1, ⟨cell_set (b := w.heap.size) (by omega) ((bel_11.cell (p := ⟨w.heap.size, 0, none⟩) (show w.heap.size < w.heap.size + 3 by omega)).trans x0), cell_set (b := w.heap.size) (by omega) ((bel_11.cell (p := ⟨w.heap.size, 1, none⟩) (show w.heap.size < w.heap.size + 3 by omega)).trans x1), cell_set (b := g1) (by omega) ((bel_11.cell (p := ⟨g1, o1 + k, none⟩) (show g1 < w.heap.size + 3 by omega)).trans y1), cell_set (b := g2) (by omega) ((bel_11.cell (p := ⟨g2, o2 + k, none⟩) (show g2 < w.heap.size + 3 by omega)).trans y2)⟩⟩ (fun hH => ?_)
                clear hK K
                simp only [zA9, zB9, zC9] at hH ⊢
                refine takeG (i := 20) (v := .pointer (some ⟨w.heap.size + 1 + 1, 1, none⟩)) [] rfl rfl (by kernel_rfl) (by kernel_rfl) (by kernel_rfl) (by kernel_rfl) (by kernel_rfl) (SG_set (by decide) (by decide)) (fun _ _ _ h => h) (Or.inl ⟨by rfl, ?_⟩) hH (fun hH => ?_)
                · intro w5 hSw; go_simp
                simp only [zA9, zB9, zC9] at hH ⊢
                refine wpAnyG_ready (rs := [21]) (by kernel_rfl) (by simp) ?_
                refine AllReadyG.cons rfl (fun K hK => ?_) AllReadyG.nil
                obtain ⟨yy0, yy1, rr0, rr1, _, _, _, _⟩ := b2cells hBy
                go_simp
                refine hK.out _ _ ⟨fun h => by simp at h, fun h => by simp at h, ⟨cell_set (b := w.heap.size) (by omega) (cell_set (b := w.heap.size) (by omega) ((bel_11.cell (p := ⟨w.heap.size, 0, none⟩) (show w.heap.size < w.heap.size + 3 by omega)).trans x0)), cell_set (b := w.heap.size) (by omega) (cell_set (b := w.heap.size) (by omega) ((bel_11.cell (p := ⟨w.heap.size, 1, none⟩) (show w.heap.size < w.heap.size + 3 by omega)).trans x1)), cell_set (b := g1) (by omega) (cell_set (b := g1) (by omega) ((bel_11.cell (p := ⟨g1, o1 + k, none⟩) (show g1 < w.heap.size + 3 by omega)).trans y1)), cell_set (b := g2) (by omega) (cell_set (b := g2) (by omega) ((bel_11.cell (p := ⟨g2, o2 + k, none⟩) (show g2 < w.heap.size + 3 by omega)).trans y2))⟩⟩ (fun hH => ?_)
                refine wpAnyG_done (by kernel_rfl) ?_ _
                refine NoPanic.normal ?_
                go_wp2_with fail
                go_roundw
                case rel => exact ⟨k + 1, true, A' ++ [(a, i)], by go_num, rfl, hlt, by simp; omega, HD, fun _ => rfl, OUT⟩
                case measure => simp [intOf]; omega
    · have hlti : ¬ (k : Int) < (N : Int) := by omega
      have hd1 := hd.out
      rw [List.drop_eq_nil_of_le (by rw [HN.out]; omega)] at hd1
      have x0 : wr.cell? ⟨w.heap.size, 0, none⟩ = some (.slice p1 N c1) := (Joins.cell_of_block hO.out.c 0).trans rfl
      clear hd HIN
      cases put with
      | true =>
        have hd2 : E = A := by rw [hd1]; simp [wth]
        subst hd2
        have OUTX := hO.out
        clear hd1 hO
        obtain ⟨P9, C9, P8, C8, e0, e1, e2, e3, f0, f1, y8, y9, WP⟩ := out_ret OUTX
        go_wp2_with fail
        refine bodyPost_ret (v := .agg #[.slice P9 _ C9, .slice P8 _ C8]) (by simp [results, Try.results69, go_sem, y8, y9]) rfl WP
      | false =>
        obtain ⟨kn, rfl⟩ : ∃ kn : Nat, kf = kn := by
          rcases HKF.out with h | h
          · have := hp.out h; cases this
          · exact h
        have HD2 : Hid (E = A ++ [(s, kn)]) := by show _ = _; rw [hd1]; simp [wth]
        clear hd1
        obtain ⟨vN, vI, hB2, hN2, hI2⟩ := hO.out.o
        obtain ⟨PN, CN, rfl⟩ := row_form hN2
        obtain ⟨PI, CI, rfl⟩ := row_form hI2
        obtain ⟨z0, z1, q0, q1, yc0, yc1, yc2, yc3⟩ := b2cells hB2
        have hsz := hO.out.sz
        go_wp2_with fail
        refine wp_region_noPanic ?_
        have bel0 : Below (w.heap.size + 3) wr wr.drew := below_drewN (Below.refl _ wr) 1
        have hN0 : wr.drew.ownsRow (w.heap.size + 3) 9 1 _ A.length (A.map fun p => strV p.1) := hN2
        have hI0 : wr.drew.ownsRow (w.heap.size + 3) 3 1 _ A.length (A.map fun p => intV p.2) := hI2
        refine wp_region_G (S := SG 11 13 (fun w' => w'.cell? ⟨w.heap.size + 1 + 1, 0, none⟩ = some (.slice PN A.length CN)) (fun w' => w'.cell? ⟨w.heap.size + 1 + 1, 1, none⟩ = some (.slice PI A.length CI)) (fun w' => Below (w.heap.size + 3) wr w' ∨ True)) (by kernel_rfl) ⟨fun _ => z0, fun _ => z1, Or.inr trivial⟩ (fun hH => ?_)
        obtain ⟨wx, hwx⟩ : ∃ x, x = wr.drew := ⟨_, rfl⟩
        rw [← hwx] at bel0 hN0 hI0 hH ⊢
        clear hwx
        simp only [Array.replicate, List.size_toArray, List.length_cons, List.length_nil, List.replicate, Nat.zero_add, Nat.reduceAdd] at hH ⊢
        refine takeG (i := 0) (v := .pointer (some ⟨w.heap.size + 1 + 1, 0, none⟩)) [] rfl rfl (by kernel_rfl) (by kernel_rfl) (by kernel_rfl) (by kernel_rfl) (by kernel_rfl) (SG_set (by decide) (by decide)) (fun _ _ _ h => h) (Or.inl ⟨by rfl, ?_⟩) hH (fun hH => ?_)
        · intro w5 hSw; go_simp
        simp only [zA9, zB9, zC9] at hH ⊢
        refine takeG (i := 1) (v := .slice PN A.length CN) [11, 13] rfl rfl (by kernel_rfl) (by kernel_rfl) (by kernel_rfl) (by kernel_rfl) (by kernel_rfl) (SG_set (by decide) (by decide)) (fun _ _ _ h => h) (Or.inl ⟨by rfl, ?_⟩) hH (fun hH => ?_)
        · intro w5 hSw; obtain ⟨L5, hU5, hA5, hB5, hR5⟩ := hSw; have a5 := hA5 (hU5 _ (by simp)); have b5 := hB5 (hU5 _ (by simp)); go_simp
        simp only [zA9, zB9, zC9] at hH ⊢
        refine takeG (i := 2) (v := .string ⟨s.toArray⟩) [] rfl rfl (by kernel_rfl) (by kernel_rfl) (by kernel_rfl) (by kernel_rfl) (by kernel_rfl) (SG_set (by decide) (by decide)) (fun _ _ _ h => h) (Or.inl ⟨by rfl, ?_⟩) hH (fun hH => ?_)
        · intro w5 hSw; go_simp
        simp only [zA9, zB9, zC9] at hH ⊢
        refine takeG (i := 5) (v := .pointer (some ⟨w.heap.size + 1 + 1, 1, none⟩)) [] rfl rfl (by kernel_rfl) (by kernel_rfl) (by kernel_rfl) (by kernel_rfl) (by kernel_rfl) (SG_set (by decide) (by decide)) (fun _ _ _ h => h) (Or.inl ⟨by rfl, ?_⟩) hH (fun hH => ?_)
        · intro w5 hSw; go_simp
        simp only [zA9, zB9, zC9] at hH ⊢
        refine takeG (i := 6) (v := .slice PI A.length CI) [11, 13] rfl rfl (by kernel_rfl) (by kernel_rfl) (by kernel_rfl) (by kernel_rfl) (by kernel_rfl) (SG_set (by decide) (by decide)) (fun _ _ _ h => h) (Or.inl ⟨by rfl, ?_⟩) hH (fun hH => ?_)
        · intro w5 hSw; obtain ⟨L5, hU5, hA5, hB5, hR5⟩ := hSw; have a5 := hA5 (hU5 _ (by simp)); have b5 := hB5 (hU5 _ (by simp)); go_simp
        simp only [zA9, zB9, zC9] at hH ⊢
        refine takeG (i := 7) (v := .int .i64 (kn : Int)) [] rfl rfl (by kernel_rfl) (by kernel_rfl) (by kernel_rfl) (by kernel_rfl) (by kernel_rfl) (SG_set (by decide) (by decide)) (fun _ _ _ h => h) (Or.inl ⟨by rfl, ?_⟩) hH (fun hH => ?_)
        · intro w5 hSw; go_simp
        simp only [zA9, zB9, zC9] at hH ⊢
        refine wpAnyG_ready (rs := [3, 8]) (by kernel_rfl) (by simp) ?_
        refine AllReadyG.cons rfl (fun K hK => ?_) (AllReadyG.cons rfl (fun K hK => ?_) AllReadyG.nil)
        · go_simp
          have bel_1 : Below (w.heap.size + 3) wr (wx.alloc (.cells #[.string ⟨s.toArray⟩] 9)) := bel0.alloc (by have := bel0.size; omega) _
          have hN_1 := World.ownsRow.alloc hN0 (.cells #[.string ⟨s.toArray⟩] 9)
          have hI_1 := World.ownsRow.alloc hI0 (.cells #[.string ⟨s.toArray⟩] 9)
          have hb_1 : (wx.alloc (.cells #[.string ⟨s.toArray⟩] 9)).heap[wx.heap.size]? = some (.cells #[.string ⟨s.toArray⟩] 9 (0, 0)) := heap_alloc_new _ _
          have sw_1 := bel0.size
          refine hK.out _ _ ⟨fun _ => (bel_1.cell (p := ⟨w.heap.size + 1 + 1, 0, none⟩) (by simp)).trans z0, fun _ => (bel_1.cell (p := ⟨w.heap.size + 1 + 1, 1, none⟩) (by simp)).trans z1, Or.inr trivial⟩ (fun hH => ?_)
          clear hK K
          obtain ⟨w_1, hw_1⟩ : ∃ x, x = wx.alloc (.cells #[.string ⟨s.toArray⟩] 9) := ⟨_, rfl⟩
          rw [← hw_1] at bel_1 hN_1 hI_1 hb_1 hH ⊢
          clear hw_1
          simp only [zA9, zB9, zC9] at hH ⊢
          refine wpAnyG_ready (rs := [4, 8]) (by kernel_rfl) (by simp) ?_
          refine AllReadyG.cons rfl (fun K hK => ?_) (AllReadyG.cons rfl (fun K hK => ?_) AllReadyG.nil)
          · refine step_one 54 9 (.string ⟨#[]⟩) 16 strSlice strInfo rfl rfl (.tmp 72) (.tmp 74) rfl (w.heap.size + 3) A.length (.slice PN A.length CN) (A.map fun p => strV p.1) (.string ⟨s.toArray⟩) (wx.heap.size) rfl hN_1 rfl ((Joins.cell_of_block hb_1 0).trans rfl) rfl (by omega) (by have := bel_1.size; omega) (by decide) ?_
            intro v_2 w_2 hr_2 hg_2
            have bel_2 : Below (w.heap.size + 3) wr w_2 := bel_1.trans (below_own hg_2 (by have := bel_1.size; omega) (own_ge hN_1))
            have hk_2 := keptI hN_1 hI_1 hg_2
            obtain ⟨P_2, C_2, rfl⟩ := row_form hr_2
            refine hK.out _ _ ⟨fun _ => (bel_2.cell (p := ⟨w.heap.size + 1 + 1, 0, none⟩) (by simp)).trans z0, fun _ => (bel_2.cell (p := ⟨w.heap.size + 1 + 1, 1, none⟩) (by simp)).trans z1, Or.inr trivial⟩ (fun hH => ?_)
            clear hK K
            simp only [Act.put, List.setIfInBounds_toArray, List.set_cons_zero, List.set_cons_succ] at hH ⊢
            refine takeG (i := 10) (v := .pointer (some ⟨w.heap.size + 1 + 1, 0, none⟩)) [] rfl rfl (by kernel_rfl) (by kernel_rfl) (by kernel_rfl) (by kernel_rfl) (by kernel_rfl) (SG_set (by decide) (by decide)) (fun _ _ _ h => h) (Or.inl ⟨by rfl, ?_⟩) hH (fun hH => ?_)
            · intro w5 hSw; go_simp
            simp only [zA9, zB9, zC9] at hH ⊢
            refine wpAnyG_ready (rs := [8]) (by kernel_rfl) (by simp) ?_
            refine AllReadyG.cons rfl (fun K hK => ?_) AllReadyG.nil
            go_simp
            have bel_3 : Below (w.heap.size + 3) wr (w_2.alloc (.cells #[.int .i64 (kn : Int)] 3)) := bel_2.alloc (by have := bel_2.size; omega) _
            have hN_3 := World.ownsRow.alloc hr_2 (.cells #[.int .i64 (kn : Int)] 3)
            have hI_3 := World.ownsRow.alloc hk_2 (.cells #[.int .i64 (kn : Int)] 3)
            have hb_3 : (w_2.alloc (.cells #[.int .i64 (kn : Int)] 3)).heap[w_2.heap.size]? = some (.cells #[.int .i64 (kn : Int)] 3 (0, 0)) := heap_alloc_new _ _
            have sw_3 := bel_2.size
            refine hK.out _ _ ⟨fun _ => (bel_3.cell (p := ⟨w.heap.size + 1 + 1, 0, none⟩) (by simp)).trans z0, fun _ => (bel_3.cell (p := ⟨w.heap.size + 1 + 1, 1, none⟩) (by simp)).trans z1, Or.inr trivial⟩ (fun hH => ?_)
            clear hK K
            obtain ⟨w_3, hw_3⟩ : ∃ x, x = w_2.alloc (.cells #[.int .i64 (kn : Int)] 3) := ⟨_, rfl⟩
            rw [← hw_3] at bel_3 hN_3 hI_3 hb_3 hH ⊢
            clear hw_3
            simp only [zA9, zB9, zC9] at hH ⊢
            refine wpAnyG_ready (rs := [9]) (by kernel_rfl) (by simp) ?_
            refine AllReadyG.cons rfl (fun K hK => ?_) AllReadyG.nil
            refine step_one 28 3 (.int .i64 0) 8 intSlice intInfo rfl rfl (.tmp 77) (.tmp 79) rfl (w.heap.size + 3) A.length (.slice PI A.length CI) (A.map fun p => intV p.2) (.int .i64 (kn : Int)) (w_2.heap.size) rfl hI_3 rfl ((Joins.cell_of_block hb_3 0).trans rfl) rfl (by omega) (by have := bel_3.size; omega) (by decide) ?_
            intro v_4 w_4 hr_4 hg_4
            have bel_4 : Below (w.heap.size + 3) wr w_4 := bel_3.trans (below_own hg_4 (by have := bel_3.size; omega) (own_ge hI_3))
            have hk_4 := keptS hN_3 hI_3 hg_4
            obtain ⟨P_4, C_4, rfl⟩ := row_form hr_4
            refine hK.out _ _ ⟨fun _ => (bel_4.cell (p := ⟨w.heap.size + 1 + 1, 0, none⟩) (by simp)).trans z0, fun _ => (bel_4.cell (p := ⟨w.heap.size + 1 + 1, 1, none⟩) (by simp)).trans z1, Or.inr trivial⟩ (fun hH => ?_)
            clear hK K
            simp only [Act.put, List.setIfInBounds_toArray, List.set_cons_zero, List.set_cons_succ] at hH ⊢
            refine wpAnyG_ready (rs := [11]) (by kernel_rfl) (by simp) ?_
            refine AllReadyG.cons rfl (fun K hK => ?_) AllReadyG.nil
            have hBz : w_4.heap[w.heap.size + 1 + 1]? = some (.cells #[.slice PN A.length CN, .slice PI A.length CI] 95 (0, 0)) := (bel_4.block (w.heap.size + 1 + 1) (by omega)).trans hB2
            have hBy : (w_4.setCell ⟨w.heap.size + 1 + 1, 0, none⟩ (.slice P_2 (A.length + 1) C_2)).heap[w.heap.size + 1 + 1]? = some (.cells #[.slice P_2 (A.length + 1) C_2, .slice PI A.length CI] 95 (0, 0)) := (heap_setCell_same _ _ 0 _ _ _ hBz).trans rfl
            obtain ⟨zz0, zz1, qq0, qq1, _, _, _, _⟩ := b2cells hBz
            have OUT := out_mk (a := s) (i := kn) hO.out bel_4 hBz hk_4 hr_4
            go_simp
            refine hK.out _ _ ⟨fun h => by simp at h, fun _ => (b2cells hBy).2.1, Or.inr trivial⟩ (fun hH => ?_)
            clear hK K
            simp only [zA9, zB9, zC9] at hH ⊢
            refine takeG (i := 12) (v := .pointer (some ⟨w.heap.size + 1 + 1, 1, none⟩)) [] rfl rfl (by kernel_rfl) (by kernel_rfl) (by kernel_rfl) (by kernel_rfl) (by kernel_rfl) (SG_set (by decide) (by decide)) (fun _ _ _ h => h) (Or.inl ⟨by rfl, ?_⟩) hH (fun hH => ?_)
            · intro w5 hSw; go_simp
            simp only [zA9, zB9, zC9] at hH ⊢
            refine wpAnyG_ready (rs := [13]) (by kernel_rfl) (by simp) ?_
            refine AllReadyG.cons rfl (fun K hK => ?_) AllReadyG.nil
            obtain ⟨yy0, yy1, rr0, rr1, _, _, _, _⟩ := b2cells hBy
            go_simp
            refine hK.out _ _ ⟨fun h => by simp at h, fun h => by simp at h, Or.inr trivial⟩ (fun hH => ?_)
            refine wpAnyG_done (by kernel_rfl) ?_ _
            refine NoPanic.normal ?_
            obtain ⟨wz, hwz⟩ : ∃ x, x = (w_4.setCell ⟨w.heap.size + 1 + 1, 0, none⟩ (.slice P_2 (A.length + 1) C_2)).setCell ⟨w.heap.size + 1 + 1, 1, none⟩ (.slice P_4 (A.length + 1) C_4) := ⟨_, rfl⟩
            rw [← hwz] at OUT ⊢
            have OUTX := OUT
            rw [← HD2.out] at OUTX
            clear HD2 OUT
            clear hwz hK K hO
            obtain ⟨P9, C9, P8, C8, e0, e1, e2, e3, f0, f1, y8, y9, WP⟩ := out_ret OUTX
            go_wp2_with fail
            refine bodyPost_ret (v := .agg #[.slice P9 _ C9, .slice P8 _ C8]) (by simp [results, Try.results69, go_sem, y8, y9]) rfl WP
          · go_simp
            have bel_5 : Below (w.heap.size + 3) wr (w_1.alloc (.cells #[.int .i64 (kn : Int)] 3)) := bel_1.alloc (by have := bel_1.size; omega) _
            have hN_5 := World.ownsRow.alloc hN_1 (.cells #[.int .i64 (kn : Int)] 3)
            have hI_5 := World.ownsRow.alloc hI_1 (.cells #[.int .i64 (kn : Int)] 3)
            have hb_5 : (w_1.alloc (.cells #[.int .i64 (kn : Int)] 3)).heap[w_1.heap.size]? = some (.cells #[.int .i64 (kn : Int)] 3 (0, 0)) := heap_alloc_new _ _
            have ho_5 := hAlloc hb_1 (.cells #[.int .i64 (kn : Int)] 3)
            have sw_5 := bel_1.size
            refine hK.out _ _ ⟨fun _ => (bel_5.cell (p := ⟨w.heap.size + 1 + 1, 0, none⟩) (by simp)).trans z0, fun _ => (bel_5.cell (p := ⟨w.heap.size + 1 + 1, 1, none⟩) (by simp)).trans z1, Or.inr trivial⟩ (fun hH => ?_)
            clear hK K
            obtain ⟨w_5, hw_5⟩ : ∃ x, x = w_1.alloc (.cells #[.int .i64 (kn : Int)] 3) := ⟨_, rfl⟩
            rw [← hw_5] at bel_5 hN_5 hI_5 hb_5 ho_5 hH ⊢
            clear hw_5
            simp only [zA9, zB9, zC9] at hH ⊢
            refine wpAnyG_ready (rs := [4]) (by kernel_rfl) (by simp) ?_
            refine AllReadyG.cons rfl (fun K hK => ?_) AllReadyG.nil
            refine step_one 54 9 (.string ⟨#[]⟩) 16 strSlice strInfo rfl rfl (.tmp 72) (.tmp 74) rfl (w.heap.size + 3) A.length (.slice PN A.length CN) (A.map fun p => strV p.1) (.string ⟨s.toArray⟩) (wx.heap.size) rfl hN_5 rfl ((Joins.cell_of_block ho_5 0).trans rfl) rfl (by omega) (by have := bel_5.size; omega) (by decide) ?_
            intro v_6 w_6 hr_6 hg_6
            have bel_6 : Below (w.heap.size + 3) wr w_6 := bel_5.trans (below_own hg_6 (by have := bel_5.size; omega) (own_ge hN_5))
            have hk_6 := keptI hN_5 hI_5 hg_6
            have ho_6 := keepK hN_5 hb_5 (by decide) hg_6
            obtain ⟨P_6, C_6, rfl⟩ := row_form hr_6
            refine hK.out _ _ ⟨fun _ => (bel_6.cell (p := ⟨w.heap.size + 1 + 1, 0, none⟩) (by simp)).trans z0, fun _ => (bel_6.cell (p := ⟨w.heap.size + 1 + 1, 1, none⟩) (by simp)).trans z1, Or.inr trivial⟩ (fun hH => ?_)
            clear hK K
            simp only [Act.put, List.setIfInBounds_toArray, List.set_cons_zero, List.set_cons_succ] at hH ⊢
            refine takeG (i := 10) (v := .pointer (some ⟨w.heap.size + 1 + 1, 0, none⟩)) [] rfl rfl (by kernel_rfl) (by kernel_rfl) (by kernel_rfl) (by kernel_rfl) (by kernel_rfl) (SG_set (by decide) (by decide)) (fun _ _ _ h => h) (Or.inl ⟨by rfl, ?_⟩) hH (fun hH => ?_)
            · intro w5 hSw; go_simp
            simp only [zA9, zB9, zC9] at hH ⊢
            refine wpAnyG_ready (rs := [9]) (by kernel_rfl) (by simp) ?_
            refine AllReadyG.cons rfl (fun K hK => ?_) AllReadyG.nil
            refine step_one 28 3 (.int .i64 0) 8 intSlice intInfo rfl rfl (.tmp 77) (.tmp 79) rfl (w.heap.size + 3) A.length (.slice PI A.length CI) (A.map fun p => intV p.2) (.int .i64 (kn : Int)) (w_1.heap.size) rfl hk_6 rfl ((Joins.cell_of_block ho_6 0).trans rfl) rfl (by omega) (by have := bel_6.size; omega) (by decide) ?_
            intro v_7 w_7 hr_7 hg_7
            have bel_7 : Below (w.heap.size + 3) wr w_7 := bel_6.trans (below_own hg_7 (by have := bel_6.size; omega) (own_ge hk_6))
            have hk_7 := keptS hr_6 hk_6 hg_7
            obtain ⟨P_7, C_7, rfl⟩ := row_form hr_7
            refine hK.out _ _ ⟨fun _ => (bel_7.cell (p := ⟨w.heap.size + 1 + 1, 0, none⟩) (by simp)).trans z0, fun _ => (bel_7.cell (p := ⟨w.heap.size + 1 + 1, 1, none⟩) (by simp)).trans z1, Or.inr trivial⟩ (fun hH => ?_)
            clear hK K
            simp only [Act.put, List.setIfInBounds_toArray, List.set_cons_zero, List.set_cons_succ] at hH ⊢
            refine wpAnyG_ready (rs := [11]) (by kernel_rfl) (by simp) ?_
            refine AllReadyG.cons rfl (fun K hK => ?_) AllReadyG.nil
            have hBz : w_7.heap[w.heap.size + 1 + 1]? = some (.cells #[.slice PN A.length CN, .slice PI A.length CI] 95 (0, 0)) := (bel_7.block (w.heap.size + 1 + 1) (by omega)).trans hB2
            have hBy : (w_7.setCell ⟨w.heap.size + 1 + 1, 0, none⟩ (.slice P_6 (A.length + 1) C_6)).heap[w.heap.size + 1 + 1]? = some (.cells #[.slice P_6 (A.length + 1) C_6, .slice PI A.length CI] 95 (0, 0)) := (heap_setCell_same _ _ 0 _ _ _ hBz).trans rfl
            obtain ⟨zz0, zz1, qq0, qq1, _, _, _, _⟩ := b2cells hBz
            have OUT := out_mk (a := s) (i := kn) hO.out bel_7 hBz hk_7 hr_7
            go_simp
            refine hK.out _ _ ⟨fun h => by simp at h, fun _ => (b2cells hBy).2.1, Or.inr trivial⟩ (fun hH => ?_)
            clear hK K
            simp only [zA9, zB9, zC9] at hH ⊢
            refine takeG (i := 12) (v := .pointer (some ⟨w.heap.size + 1 + 1, 1, none⟩)) [] rfl rfl (by kernel_rfl) (by kernel_rfl) (by kernel_rfl) (by kernel_rfl) (by kernel_rfl) (SG_set (by decide) (by decide)) (fun _ _ _ h => h) (Or.inl ⟨by rfl, ?_⟩) hH (fun hH => ?_)
            · intro w5 hSw; go_simp
            simp only [zA9, zB9, zC9] at hH ⊢
            refine wpAnyG_ready (rs := [13]) (by kernel_rfl) (by simp) ?_
            refine AllReadyG.cons rfl (fun K hK => ?_) AllReadyG.nil
            obtain ⟨yy0, yy1, rr0, rr1, _, _, _, _⟩ := b2cells hBy
            go_simp
            refine hK.out _ _ ⟨fun h => by simp at h, fun h => by simp at h, Or.inr trivial⟩ (fun hH => ?_)
            refine wpAnyG_done (by kernel_rfl) ?_ _
            refine NoPanic.normal ?_
            obtain ⟨wz, hwz⟩ : ∃ x, x = (w_7.setCell ⟨w.heap.size + 1 + 1, 0, none⟩ (.slice P_6 (A.length + 1) C_6)).setCell ⟨w.heap.size + 1 + 1, 1, none⟩ (.slice P_7 (A.length + 1) C_7) := ⟨_, rfl⟩
            rw [← hwz] at OUT ⊢
            have OUTX := OUT
            rw [← HD2.out] at OUTX
            clear HD2 OUT
            clear hwz hK K hO
            obtain ⟨P9, C9, P8, C8, e0, e1, e2, e3, f0, f1, y8, y9, WP⟩ := out_ret OUTX
            go_wp2_with fail
            refine bodyPost_ret (v := .agg #[.slice P9 _ C9, .slice P8 _ C8]) (by simp [results, Try.results69, go_sem, y8, y9]) rfl WP
        · go_simp
          have bel_8 : Below (w.heap.size + 3) wr (wx.alloc (.cells #[.int .i64 (kn : Int)] 3)) := bel0.alloc (by have := bel0.size; omega) _
          have hN_8 := World.ownsRow.alloc hN0 (.cells #[.int .i64 (kn : Int)] 3)
          have hI_8 := World.ownsRow.alloc hI0 (.cells #[.int .i64 (kn : Int)] 3)
          have hb_8 : (wx.alloc (.cells #[.int .i64 (kn : Int)] 3)).heap[wx.heap.size]? = some (.cells #[.int .i64 (kn : Int)] 3 (0, 0)) := heap_alloc_new _ _
          have sw_8 := bel0.size
          refine hK.out _ _ ⟨fun _ => (bel_8.cell (p := ⟨w.heap.size + 1 + 1, 0, none⟩) (by simp)).trans z0, fun _ => (bel_8.cell (p := ⟨w.heap.size + 1 + 1, 1, none⟩) (by simp)).trans z1, Or.inr trivial⟩ (fun hH => ?_)
          clear hK K
          obtain ⟨w_8, hw_8⟩ : ∃ x, x = wx.alloc (.cells #[.int .i64 (kn : Int)] 3) := ⟨_, rfl⟩
          rw [← hw_8] at bel_8 hN_8 hI_8 hb_8 hH ⊢
          clear hw_8
          simp only [zA9, zB9, zC9] at hH ⊢
          refine wpAnyG_ready (rs := [3]) (by kernel_rfl) (by simp) ?_
          refine AllReadyG.cons rfl (fun K hK => ?_) AllReadyG.nil
          go_simp
          have bel_9 : Below (w.heap.size + 3) wr (w_8.alloc (.cells #[.string ⟨s.toArray⟩] 9)) := bel_8.alloc (by have := bel_8.size; omega) _
          have hN_9 := World.ownsRow.alloc hN_8 (.cells #[.string ⟨s.toArray⟩] 9)
          have hI_9 := World.ownsRow.alloc hI_8 (.cells #[.string ⟨s.toArray⟩] 9)
          have hb_9 : (w_8.alloc (.cells #[.string ⟨s.toArray⟩] 9)).heap[w_8.heap.size]? = some (.cells #[.string ⟨s.toArray⟩] 9 (0, 0)) := heap_alloc_new _ _
          have ho_9 := hAlloc hb_8 (.cells #[.string ⟨s.toArray⟩] 9)
          have sw_9 := bel_8.size
          refine hK.out _ _ ⟨fun _ => (bel_9.cell (p := ⟨w.heap.size + 1 + 1, 0, none⟩) (by simp)).trans z0, fun _ => (bel_9.cell (p := ⟨w.heap.size + 1 + 1, 1, none⟩) (by simp)).trans z1, Or.inr trivial⟩ (fun hH => ?_)
          clear hK K
          obtain ⟨w_9, hw_9⟩ : ∃ x, x = w_8.alloc (.cells #[.string ⟨s.toArray⟩] 9) := ⟨_, rfl⟩
          rw [← hw_9] at bel_9 hN_9 hI_9 hb_9 ho_9 hH ⊢
          clear hw_9
          simp only [zA9, zB9, zC9] at hH ⊢
          refine wpAnyG_ready (rs := [4]) (by kernel_rfl) (by simp) ?_
          refine AllReadyG.cons rfl (fun K hK => ?_) AllReadyG.nil
          refine step_one 54 9 (.string ⟨#[]⟩) 16 strSlice strInfo rfl rfl (.tmp 72) (.tmp 74) rfl (w.heap.size + 3) A.length (.slice PN A.length CN) (A.map fun p => strV p.1) (.string ⟨s.toArray⟩) (w_8.heap.size) rfl hN_9 rfl ((Joins.cell_of_block hb_9 0).trans rfl) rfl (by omega) (by have := bel_9.size; omega) (by decide) ?_
          intro v_10 w_10 hr_10 hg_10
          have bel_10 : Below (w.heap.size + 3) wr w_10 := bel_9.trans (below_own hg_10 (by have := bel_9.size; omega) (own_ge hN_9))
          have hk_10 := keptI hN_9 hI_9 hg_10
          have ho_10 := keepK hN_9 ho_9 (by decide) hg_10
          obtain ⟨P_10, C_10, rfl⟩ := row_form hr_10
          refine hK.out _ _ ⟨fun _ => (bel_10.cell (p := ⟨w.heap.size + 1 + 1, 0, none⟩) (by simp)).trans z0, fun _ => (bel_10.cell (p := ⟨w.heap.size + 1 + 1, 1, none⟩) (by simp)).trans z1, Or.inr trivial⟩ (fun hH => ?_)
          clear hK K
          simp only [Act.put, List.setIfInBounds_toArray, List.set_cons_zero, List.set_cons_succ] at hH ⊢
          refine takeG (i := 10) (v := .pointer (some ⟨w.heap.size + 1 + 1, 0, none⟩)) [] rfl rfl (by kernel_rfl) (by kernel_rfl) (by kernel_rfl) (by kernel_rfl) (by kernel_rfl) (SG_set (by decide) (by decide)) (fun _ _ _ h => h) (Or.inl ⟨by rfl, ?_⟩) hH (fun hH => ?_)
          · intro w5 hSw; go_simp
          simp only [zA9, zB9, zC9] at hH ⊢
          refine wpAnyG_ready (rs := [9]) (by kernel_rfl) (by simp) ?_
          refine AllReadyG.cons rfl (fun K hK => ?_) AllReadyG.nil
          refine step_one 28 3 (.int .i64 0) 8 intSlice intInfo rfl rfl (.tmp 77) (.tmp 79) rfl (w.heap.size + 3) A.length (.slice PI A.length CI) (A.map fun p => intV p.2) (.int .i64 (kn : Int)) (wx.heap.size) rfl hk_10 rfl ((Joins.cell_of_block ho_10 0).trans rfl) rfl (by omega) (by have := bel_10.size; omega) (by decide) ?_
          intro v_11 w_11 hr_11 hg_11
          have bel_11 : Below (w.heap.size + 3) wr w_11 := bel_10.trans (below_own hg_11 (by have := bel_10.size; omega) (own_ge hk_10))
          have hk_11 := keptS hr_10 hk_10 hg_11
          obtain ⟨P_11, C_11, rfl⟩ := row_form hr_11
          refine hK.out _ _ ⟨fun _ => (bel_11.cell (p := ⟨w.heap.size + 1 + 1, 0, none⟩) (by simp)).trans z0, fun _ => (bel_11.cell (p := ⟨w.heap.size + 1 + 1, 1, none⟩) (by simp)).trans z1, Or.inr trivial⟩ (fun hH => ?_)
          clear hK K
          simp only [Act.put, List.setIfInBounds_toArray, List.set_cons_zero, List.set_cons_succ] at hH ⊢
          refine wpAnyG_ready (rs := [11]) (by kernel_rfl) (by simp) ?_
          refine AllReadyG.cons rfl (fun K hK => ?_) AllReadyG.nil
          have hBz : w_11.heap[w.heap.size + 1 + 1]? = some (.cells #[.slice PN A.length CN, .slice PI A.length CI] 95 (0, 0)) := (bel_11.block (w.heap.size + 1 + 1) (by omega)).trans hB2
          have hBy : (w_11.setCell ⟨w.heap.size + 1 + 1, 0, none⟩ (.slice P_10 (A.length + 1) C_10)).heap[w.heap.size + 1 + 1]? = some (.cells #[.slice P_10 (A.length + 1) C_10, .slice PI A.length CI] 95 (0, 0)) := (heap_setCell_same _ _ 0 _ _ _ hBz).trans rfl
          obtain ⟨zz0, zz1, qq0, qq1, _, _, _, _⟩ := b2cells hBz
          have OUT := out_mk (a := s) (i := kn) hO.out bel_11 hBz hk_11 hr_11
          go_simp
          refine hK.out _ _ ⟨fun h => by simp at h, fun _ => (b2cells hBy).2.1, Or.inr trivial⟩ (fun hH => ?_)
          clear hK K
          simp only [zA9, zB9, zC9] at hH ⊢
          refine takeG (i := 12) (v := .pointer (some ⟨w.heap.size + 1 + 1, 1, none⟩)) [] rfl rfl (by kernel_rfl) (by kernel_rfl) (by kernel_rfl) (by kernel_rfl) (by kernel_rfl) (SG_set (by decide) (by decide)) (fun _ _ _ h => h) (Or.inl ⟨by rfl, ?_⟩) hH (fun hH => ?_)
          · intro w5 hSw; go_simp
          simp only [zA9, zB9, zC9] at hH ⊢
          refine wpAnyG_ready (rs := [13]) (by kernel_rfl) (by simp) ?_
          refine AllReadyG.cons rfl (fun K hK => ?_) AllReadyG.nil
          obtain ⟨yy0, yy1, rr0, rr1, _, _, _, _⟩ := b2cells hBy
          go_simp
          refine hK.out _ _ ⟨fun h => by simp at h, fun h => by simp at h, Or.inr trivial⟩ (fun hH => ?_)
          refine wpAnyG_done (by kernel_rfl) ?_ _
          refine NoPanic.normal ?_
          obtain ⟨wz, hwz⟩ : ∃ x, x = (w_11.setCell ⟨w.heap.size + 1 + 1, 0, none⟩ (.slice P_10 (A.length + 1) C_10)).setCell ⟨w.heap.size + 1 + 1, 1, none⟩ (.slice P_11 (A.length + 1) C_11) := ⟨_, rfl⟩
          rw [← hwz] at OUT ⊢
          have OUTX := OUT
          rw [← HD2.out] at OUTX
          clear HD2 OUT
          clear hwz hK K hO
          obtain ⟨P9, C9, P8, C8, e0, e1, e2, e3, f0, f1, y8, y9, WP⟩ := out_ret OUTX
          go_wp2_with fail
          refine bodyPost_ret (v := .agg #[.slice P9 _ C9, .slice P8 _ C8]) (by simp [results, Try.results69, go_sem, y8, y9]) rfl WP
end Go.Proofs.Ytdiehlioemmakaa

