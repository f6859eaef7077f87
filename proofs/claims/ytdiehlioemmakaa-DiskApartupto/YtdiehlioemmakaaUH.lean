/-
  The walk of lockstepref04's Used.
-/
import Derived.Test.YtdiehlioemmakaaUG
import Derived.BigQuiet
import Derived.Test.YtdiehlioemmakaaUD
import Derived.WideAt
import Derived.WideShapes
import Derived.Sort.Walk0
import Derived.Test.YtdiehlioemmakaaDkOpx
namespace Go.Proofs.Ytdiehlioemmakaa
open Go.RowKit
variable {F : Nat → Prop}

theorem grDrew (w : World) (n : Nat) : w.grownBy (w.drewN n) none := by
  have b := below_drewN (Below.refl w.heap.size w) n
  exact ⟨b.os, b.tape, b.output, b.size, fun k hk _ => b.block k hk⟩
theorem usd_app (fs : List (List UInt8 × Nat)) (p : List UInt8 × Nat) : ∀ l : Ws, usd fs (l ++ [p]) = usd fs l + (fs.getD p.2 ([], 0)).1.length
  | [] => by simp [usd]
  | q :: r => by
    have ih := usd_app fs p r
    show (fs.getD q.2 ([], 0)).1.length + usd fs (r ++ [p]) = _
    rw [ih]
    show _ = (fs.getD q.2 ([], 0)).1.length + usd fs r + _
    omega
theorem usd_take (fs : List (List UInt8 × Nat)) : ∀ (l : Ws) (k : Nat), usd fs (l.take k) ≤ usd fs l
  | [], k => by simp [usd]
  | q :: r, 0 => by simp [usd]
  | q :: r, k + 1 => by
    have ih := usd_take fs r k
    show (fs.getD q.2 ([], 0)).1.length + usd fs (r.take k) ≤ (fs.getD q.2 ([], 0)).1.length + usd fs r
    omega
set_option maxHeartbeats 4000000 in
set_option maxRecDepth 1000000 in
theorem refUsed_any (f : Nat) (s : St) (w : World) (h : Rf F w f s) (hb : s.ways.length ≤ 9000000) (hn : s.now.length ≤ 4000000) (hm : s.fs.length ≤ 9000000) (hok : StOk s) (hu : usd s.fs s.now ≤ 1000000000000) :
    Calls Try.prog 49 #[.pointer (some ⟨f, 0, none⟩)] w fun e w' => e = .returned (.int .i64 (usd s.fs s.now : Int)) ∧ w.grownBy w' none := by
  obtain ⟨pN, cN, pI, cI, hway, _, hnow⟩ := now_rf h hb (by omega)
  have NW := mkHid (hnow w (grRefl w))
  obtain ⟨N, hN⟩ : ∃ N, N = s.now.length := ⟨_, rfl⟩
  have HC : Hid (∀ W, w.grownBy W none → ∀ (k : Nat) p, s.now[k]? = some p → ∃ g2 o2 g o c vW pB cB, pI = some ⟨g2, o2, none⟩ ∧ W.cell? ⟨g2, o2 + k, none⟩ = some (.int .i64 (p.2 : Int)) ∧ RB W f s.q s.left (.slice (some ⟨g, o, none⟩) s.fs.length c) vW s.dead ∧ W.cell? ⟨g, o + p.2 * 2, none⟩ = some (.slice pB (s.fs.getD p.2 ([], 0)).1.length cB) ∧ p.2 < s.fs.length ∧ usd s.fs (s.now.take (k + 1)) = usd s.fs (s.now.take k) + (s.fs.getD p.2 ([], 0)).1.length ∧ usd s.fs (s.now.take (k + 1)) ≤ 1000000000000) := by
    intro W g1 k p hp
    obtain ⟨_, ⟨q2, d2, e2, _, _, _, h2⟩⟩ := hway
    simp only [Value.slice.injEq] at e2
    obtain ⟨rfl, _, rfl⟩ := e2
    have hps : p.2 < s.fs.length := hok p (List.mem_of_getElem? hp)
    have hx : s.fs[p.2]? = some (s.fs.getD p.2 ([], 0)) := by rw [List.getD_eq_getElem?_getD, List.getElem?_eq_getElem hps]; rfl
    rcases h2 with h2 | ⟨g2, o2, rfl, _, h2⟩
    · rw [List.map_eq_nil_iff.1 h2] at hp; simp at hp
    obtain ⟨g, o, c, vW, pB, cB, hR, y1, _, _⟩ := file_at (h.grown g1) hx
    refine ⟨g2, o2, g, o, c, vW, pB, cB, rfl, g1.cell (h2 k _ (by rw [List.getElem?_map, hp]; rfl)) (by simp), hR, y1, hps, ?_, Nat.le_trans (usd_take _ _ _) hu⟩
    rw [List.take_add_one, hp]
    exact usd_app _ _ _
  have HT : Hid (usd s.fs s.now = usd s.fs (s.now.take N)) := by show _ = _; rw [hN, List.take_length]
  have HNL : Hid (s.now.length = N) := hN.symm
  rw [← hN] at NW
  have hNb : (N : Int) ≤ 4000000 := by omega
  have hM : (s.fs.length : Int) ≤ 9000000 := by omega
  obtain ⟨E, hE⟩ : ∃ E, E = usd s.fs s.now := ⟨_, rfl⟩
  rw [← hE] at HT ⊢
  clear h hb hn hm hok hu hway hnow hN hE
  go_enter Try.func49, Try.ntmps49
  go_wp2_with fail
  refine NW.out.mono ?_
  rintro e w1 ⟨rfl, g1⟩
  have G2 := mkHid (grTrans g1 (World.grownBy_alloc w1 (.cells #[.slice pN N cN, .slice pI N cI] 95) none))
  have hB := mkHid (heap_alloc_new w1 (.cells #[.slice pN N cN, .slice pI N cI] 95))
  have b1 := (Joins.cell_of_block hB.out 1).trans rfl
  clear g1
  go_wp2_with fail
  generalize w1.alloc (.cells #[.slice pN N cN, .slice pI N cI] 95) = w2 at *
  go_loopw [3, 5] (fun s3 s5 wr => ∃ (k : Nat), s5 = .int .i64 k ∧ k ≤ N ∧ s3 = .int .i64 (usd s.fs (s.now.take k) : Int) ∧ Hid (w2.grownBy wr none)) (fun _ s5 _ => N - (intOf s5).toNat)
  case atStart => exact ⟨0, rfl, Nat.zero_le _, rfl, grRefl _⟩
  case round =>
    obtain ⟨k, rfl, hk, rfl, hgr⟩ := hrel
    have b1 := hgr.out.cell b1 (by simp)
    by_cases hlt : k < N
    · obtain ⟨p, hx⟩ : ∃ p, s.now[k]? = some p := ⟨s.now[k]'(by rw [HNL.out]; exact hlt), List.getElem?_eq_getElem _⟩
      have hlti : (k : Int) < (N : Int) := by omega
      obtain ⟨g2, o2, g, o, c, vW, pB, cB, rfl, y1, hR, y2, y3, y4, y5⟩ := HC.out _ (grTrans G2.out hgr.out) k p hx
      obtain ⟨_, z1, _, _, _, _⟩ := RB.c hR
      have y3i : (p.2 : Int) < (s.fs.length : Int) := by omega
      generalize usd s.fs (s.now.take k) = A at *
      generalize (s.fs.getD p.2 ([], 0)).1.length = L at *
      have sm : IntKind.i64.wrap ((A : Int) + (L : Int)) = (A : Int) + (L : Int) := by rw [IntKind.wrap_i64]; omega
      have HS : Hid (Value.int .i64 ((A : Int) + (L : Int)) = .int .i64 (usd s.fs (s.now.take (k + 1)) : Int)) := by show _ = _; rw [y4]; simp
      clear HC y4 y5 hR hx NW HT
      go_wp2_with fail
      go_quiet (fail)
      go_wp2_with fail
      go_roundw
      case rel => exact ⟨k + 1, by go_num, hlt, HS.out, grTrans hgr.out (grDrew _ _)⟩
      case measure => simp [intOf]; omega
    · have hlti : ¬ (k : Int) < (N : Int) := by omega
      obtain rfl : N = k := by omega
      have hT := HT.out
      rw [← hT]
      clear HC NW HT hT
      go_wp2_with fail
      go_ret
      exact ⟨rfl, grTrans G2.out hgr.out⟩
end Go.Proofs.Ytdiehlioemmakaa

namespace Go.Proofs.Ytdiehlioemmakaa
open Go.RowKit
variable {F : Nat → Prop}

theorem Keep.more {f : Nat} {w a b : World} {row : Option Nat} (k : Keep f w a) (g : a.grownBy b row) (hr : ∀ i, row = some i → w.heap.size ≤ i) : Keep f w b :=
  ⟨g.os.trans k.os, g.tape.trans k.tape, g.output.trans k.output, Nat.le_trans k.size g.size, fun j hj hn => (g.block j (Nat.lt_of_lt_of_le hj k.size) (fun e => by have := hr j e.symm; omega)).trans (k.block j hj hn)⟩
/-- the disk where only its own block has changed -/
theorem Rf.of {w W : World} {f : Nat} {s s' : St} {vF vW : Value} (fb : ∀ i, F i → i < w.heap.size) (h2 : listIn F (fileIn F) w f vF s.fs) (h3 : listIn F (wayIn F) w f vW s.ways) (hne : s.ways ≠ []) (k : Keep f w W) (hB : RB W f s'.q s'.left vF vW s'.dead) (e1 : s'.fs = s.fs) (e2 : s'.ways = s.ways) : Rf F W f s' := by
  refine ⟨⟨vF, vW, hB, ?_, ?_⟩, by rw [e2]; exact hne, fun i hi => Nat.lt_of_lt_of_le (fb i hi) k.size⟩
  · rw [e1]; exact listIn.kept (R := fileIn F) (fun h k => fileIn.kept h k) h2 k
  · rw [e2]; exact listIn.kept (R := wayIn F) (fun h k => wayIn.kept h k) h3 k
theorem by_take {w : World} {f : Nat} {l : List UInt8} {p : Option Addr} {c : Nat} (h : rd1 F w f (.slice p l.length c) (by8 l)) (k : Nat) {W : World} (hk : Keep f w W) : byIn W p (l.take k) ∧ (p = none → c = 0 ∧ l = []) ∧ l.length ≤ c ∧ c ≤ 9223372036854775807 := by
  obtain ⟨q, d, e, h1, h2, h3, h4⟩ := h
  simp only [Value.slice.injEq] at e
  obtain ⟨rfl, _, rfl⟩ := e
  have e4 : (by8 l).length = l.length := by simp [by8]
  rw [e4] at h1
  refine ⟨?_, fun e => ⟨h3 e, List.eq_nil_of_length_eq_zero (by have := h3 e; omega)⟩, h1, h2⟩
  by_cases hl : l = []
  · subst hl
    cases p with
    | none => exact Or.inl ⟨rfl, by simp⟩
    | some ad => exact Or.inr ⟨ad, rfl, fun i x hx => by simp at hx⟩
  · rcases h4 with h4 | ⟨g, o, rfl, hg, h4⟩
    · exfalso; apply hl; apply List.eq_nil_of_length_eq_zero; rw [← e4, h4]; rfl
    · refine Or.inr ⟨⟨g, o, none⟩, rfl, fun i x hx => ?_⟩
      rw [add_plain]
      have hx2 : l[i]? = some x := by
        rw [List.getElem?_take] at hx
        split at hx
        · exact hx
        · simp at hx
      exact hk.cell hg (h4 i _ (by simp [by8, hx2]))
def cuE (n : List UInt8) (k : Int) (s : St) : Int := if atE n s.now ≠ 0 then atE n s.now else if k < 0 ∨ ((getF s n).1.length : Int) < k then 1 else if (stp s).2 = true then 44 else 0
def cuS (n : List UInt8) (k : Int) (s : St) : St := if atE n s.now ≠ 0 then s else if k < 0 ∨ ((getF s n).1.length : Int) < k then s else if (stp s).2 = true then (stp s).1 else { (stp s).1 with fs := (stp s).1.fs.set (fnd n s.now).toNat ((getF s n).1.take k.toNat, min (getF s n).2 k.toNat) }
set_option maxHeartbeats 4000000 in
set_option maxRecDepth 1000000 in
theorem refCut_bad (f : Nat) (s : St) (n : List UInt8) (k : Int) (w : World) (h : Rf F w f s) (hb : s.ways.length ≤ 9000000) (hn : s.now.length ≤ 4000000) (hm : s.fs.length ≤ 9000000) (hok : StOk s) (hbad : atE n s.now ≠ 0 ∨ k < 0 ∨ ((getF s n).1.length : Int) < k) :
    Calls Try.prog 35 #[.pointer (some ⟨f, 0, none⟩), .string ⟨n.toArray⟩, .int .i64 k] w fun e w' => e = .returned (.int .i64 (cuE n k s)) ∧ Rf F w' f (cuS n k s) ∧ Keep f w w' := by
  have AT := at_any f s n w h hb (by omega)
  by_cases h0 : atE n s.now = 0
  case neg =>
    have r1 : cuE n k s = atE n s.now := by unfold cuE; rw [if_pos h0]
    have r2 : cuS n k s = s := by unfold cuS; rw [if_pos h0]
    rw [r1, r2]
    clear r1 r2
    rcases at_err h0 with hE | hE
    · rw [hE] at AT ⊢
      generalize atI n s.now = I at *
      have AT2 := mkHid AT
      clear AT hE
      have H := mkHid h
      clear h hb hn hok h0 hm hbad
      go_enter Try.func35, Try.ntmps35
      go_wp2_with fail
      refine AT2.out.mono ?_
      rintro e w1 ⟨rfl, g1⟩
      go_wp2_with fail
      go_ret
      exact ⟨rfl, H.out.grown g1, Keep.grown g1⟩
    · rw [hE] at AT ⊢
      generalize atI n s.now = I at *
      have AT2 := mkHid AT
      clear AT hE
      have H := mkHid h
      clear h hb hn hok h0 hm hbad
      go_enter Try.func35, Try.ntmps35
      go_wp2_with fail
      refine AT2.out.mono ?_
      rintro e w1 ⟨rfl, g1⟩
      go_wp2_with fail
      go_ret
      exact ⟨rfl, H.out.grown g1, Keep.grown g1⟩
  have hbad : k < 0 ∨ ((getF s n).1.length : Int) < k := hbad.resolve_left (fun e => e h0)
  have r1 : cuE n k s = 1 := by unfold cuE; simp [h0, hbad]
  have r2 : cuS n k s = s := by unfold cuS; simp [h0, hbad]
  rw [r1, r2]
  obtain ⟨i, x, hI, hx, hF⟩ := at_file hok h0
  have hgx : getF s n = x := by unfold getF; rw [hF, List.getD_eq_getElem?_getD, Int.toNat_natCast, hx]; rfl
  rw [hgx] at hbad
  rw [h0, hI] at AT
  have AT2 := mkHid AT
  have hiu := (List.getElem?_eq_some_iff.1 hx).1
  obtain ⟨L, hL⟩ : ∃ L, L = x.1.length := ⟨_, rfl⟩
  have C : Hid (∀ w1, w.grownBy w1 none → ∃ g o c vW pB cB, RB w1 f s.q s.left (.slice (some ⟨g, o, none⟩) s.fs.length c) vW s.dead ∧ w1.cell? ⟨g, o + i * 2, none⟩ = some (.slice pB L cB) ∧ w1.cell? ⟨g, o + i * 2 + 1, none⟩ = some (.int .i64 (x.2 : Int)) ∧ rd1 F w1 f (.slice pB L cB) (by8 x.1)) := by rw [hL]; exact fun w1 g1 => file_at (h.grown g1) hx
  have u2 : (i : Int) < (s.fs.length : Int) := by omega
  have u3 : (s.fs.length : Int) ≤ 9000000 := by omega
  generalize s.fs.length = M at *
  have HLL : Hid (L = x.1.length) := hL
  rw [← hL] at hbad
  have H := mkHid h
  have GA : Hid (∀ (w1 : World) v, w.grownBy w1 none → w.grownBy (w1.alloc (.cells v 98)) none) := fun w1 v g => grTrans g (World.grownBy_alloc _ _ _)
  clear AT h hb hn hm hok h0 hI hx hF hgx hL r1 r2
  by_cases hk : k < 0
  · clear hbad
    go_enter Try.func35, Try.ntmps35
    go_wp2_with fail
    refine AT2.out.mono ?_
    rintro e w1 ⟨rfl, g1⟩
    obtain ⟨g, o, c, vW', pB, cB, hR, y1, y2, hr⟩ := C.out w1 g1
    obtain ⟨_, z1, _, _, _, _⟩ := RB.c hR
    have hLb : (L : Int) ≤ 9223372036854775807 := by
      have e9 : L = x.1.length := HLL.out
      have := (by_take (HLL.out ▸ hr) 0 (Keep.refl f w1)).2.2
      omega
    have HR := mkHid hr
    clear hR hr
    go_wp2_with fail
    go_ret
    exact ⟨rfl, H.out.grown (GA.out _ _ g1), Keep.grown (GA.out _ _ g1)⟩
  · have hk2 : (L : Int) < k := hbad.resolve_left hk
    clear hbad
    go_enter Try.func35, Try.ntmps35
    go_wp2_with fail
    refine AT2.out.mono ?_
    rintro e w1 ⟨rfl, g1⟩
    obtain ⟨g, o, c, vW', pB, cB, hR, y1, y2, hr⟩ := C.out w1 g1
    obtain ⟨_, z1, _, _, _, _⟩ := RB.c hR
    have hLb : (L : Int) ≤ 9223372036854775807 := by
      have e9 : L = x.1.length := HLL.out
      have := (by_take (HLL.out ▸ hr) 0 (Keep.refl f w1)).2.2
      omega
    have HR := mkHid hr
    clear hR hr
    go_wp2_with fail
    go_ret
    exact ⟨rfl, H.out.grown (GA.out _ _ g1), Keep.grown (GA.out _ _ g1)⟩
end Go.Proofs.Ytdiehlioemmakaa

namespace Go.Proofs.Ytdiehlioemmakaa
open Go.RowKit Go.Maps Go.Joins
open Go.WideAt (bytes_irrefl bytes_total)
open Go.WideShapes (bytes_trans)

/-- names rise -/
def SrtN {α : Type} (l : List (List UInt8 × α)) : Prop := l.Pairwise fun p q => bytesBefore p.1 q.1 = true
def insN {α : Type} (n : List UInt8) (v : α) : List (List UInt8 × α) → List (List UInt8 × α)
  | [] => [(n, v)]
  | y :: r => if bytesBefore n y.1 = true then (n, v) :: y :: r else y :: insN n v r
def delN {α : Type} (n : List UInt8) (l : List (List UInt8 × α)) : List (List UInt8 × α) := l.filter fun p => !(p.1 == n)
def putN {α : Type} (n : List UInt8) (v : α) (l : List (List UInt8 × α)) : List (List UInt8 × α) := insN n v (delN n l)
def lookN {α : Type} (n : List UInt8) : List (List UInt8 × α) → Option α
  | [] => none
  | p :: r => if p.1 = n then some p.2 else lookN n r

theorem before_ne {a b : List UInt8} (h : bytesBefore a b = true) : a ≠ b := by
  intro e; subst e; rw [bytes_irrefl] at h; cases h
theorem before_as {a b : List UInt8} (h : bytesBefore a b = true) : bytesBefore b a = false := by
  cases e : bytesBefore b a
  · rfl
  · have := bytes_trans a b a h e; rw [bytes_irrefl] at this; cases this
theorem mem_del {α : Type} {n : List UInt8} {l : List (List UInt8 × α)} {p : List UInt8 × α} : p ∈ delN n l ↔ p ∈ l ∧ p.1 ≠ n := by
  unfold delN; rw [List.mem_filter]; simp
theorem del_cons {α : Type} (n : List UInt8) (p : List UInt8 × α) (r : List (List UInt8 × α)) : delN n (p :: r) = if p.1 = n then delN n r else p :: delN n r := by
  unfold delN
  rw [List.filter_cons]
  by_cases e : p.1 = n <;> simp [e]
theorem del_none {α : Type} {n : List UInt8} {l : List (List UInt8 × α)} (h : ∀ p ∈ l, p.1 ≠ n) : delN n l = l := by
  unfold delN; rw [List.filter_eq_self]; intro p hp; have := h p hp; simp [this]
theorem ins_perm {α : Type} (n : List UInt8) (v : α) : ∀ l : List (List UInt8 × α), (insN n v l).Perm ((n, v) :: l)
  | [] => List.Perm.refl _
  | y :: r => by
    unfold insN
    split
    · exact List.Perm.refl _
    · exact ((ins_perm n v r).cons y).trans (List.Perm.swap _ _ _)
theorem put_perm {α : Type} (n : List UInt8) (v : α) (l : List (List UInt8 × α)) : (putN n v l).Perm ((n, v) :: delN n l) := ins_perm n v _
theorem mem_put {α : Type} {n : List UInt8} {v : α} {l : List (List UInt8 × α)} {p : List UInt8 × α} : p ∈ putN n v l ↔ p = (n, v) ∨ (p ∈ l ∧ p.1 ≠ n) := by
  rw [(put_perm n v l).mem_iff, List.mem_cons, mem_del]
theorem srt_del {α : Type} {l : List (List UInt8 × α)} (n : List UInt8) (h : SrtN l) : SrtN (delN n l) := List.Pairwise.filter _ h
theorem srt_ins {α : Type} (n : List UInt8) (v : α) : ∀ {l : List (List UInt8 × α)}, SrtN l → (∀ p ∈ l, p.1 ≠ n) → SrtN (insN n v l)
  | [], _, _ => List.pairwise_singleton _ _
  | y :: r, h, hn => by
    have h' := h
    unfold SrtN at h'
    rw [List.pairwise_cons] at h'
    unfold insN
    by_cases hb : bytesBefore n y.1 = true
    · rw [if_pos hb]
      refine List.pairwise_cons.2 ⟨fun p hp => ?_, h⟩
      rcases List.mem_cons.1 hp with rfl | hp
      · exact hb
      · exact bytes_trans _ _ _ hb (h'.1 p hp)
    · rw [if_neg hb]
      refine List.pairwise_cons.2 ⟨fun p hp => ?_, srt_ins n v h'.2 (fun p hp => hn p (by simp [hp]))⟩
      rw [(ins_perm n v r).mem_iff] at hp
      rcases List.mem_cons.1 hp with rfl | hp
      · rcases bytes_total y.1 n (hn y (by simp)) with h1 | h1
        · exact h1
        · exact absurd h1 hb
      · exact h'.1 p hp
theorem srt_put {α : Type} {l : List (List UInt8 × α)} (n : List UInt8) (v : α) (h : SrtN l) : SrtN (putN n v l) := srt_ins n v (srt_del n h) (fun _ hp => (mem_del.1 hp).2)
theorem look_del {α : Type} (m n : List UInt8) : ∀ l : List (List UInt8 × α), lookN m (delN n l) = if m = n then none else lookN m l
  | [] => by simp [delN, lookN]
  | p :: r => by
    rw [del_cons]
    have ih := look_del m n r
    by_cases e : p.1 = n
    · rw [if_pos e, ih]
      by_cases e2 : m = n
      · simp [e2]
      · rw [if_neg e2, if_neg e2]
        show _ = if p.1 = m then _ else _
        rw [if_neg (fun e3 => e2 (by rw [← e3, e]))]
    · rw [if_neg e]
      show (if p.1 = m then _ else _) = _
      rw [ih]
      by_cases e2 : m = n
      · subst e2; simp [e]
      · rw [if_neg e2, if_neg e2]; rfl
theorem look_ins {α : Type} (m n : List UInt8) (v : α) : ∀ l : List (List UInt8 × α), (∀ p ∈ l, p.1 ≠ n) → lookN m (insN n v l) = if m = n then some v else lookN m l
  | [], _ => by
    show (if n = m then some v else none) = _
    by_cases e : m = n
    · subst e; simp
    · rw [if_neg e, if_neg (fun h => e h.symm)]; rfl
  | y :: r, h => by
    unfold insN
    split
    · show (if n = m then some v else _) = _
      by_cases e : m = n
      · subst e; simp
      · rw [if_neg e, if_neg (fun h => e h.symm)]
    · have ih := look_ins m n v r (fun p hp => h p (by simp [hp]))
      show (if y.1 = m then some y.2 else lookN m (insN n v r)) = _
      rw [ih]
      by_cases e : m = n
      · subst e
        rw [if_neg (h y (by simp)), if_pos rfl, if_pos rfl]
      · rw [if_neg e, if_neg e]; rfl
theorem look_put {α : Type} (m n : List UInt8) (v : α) (l : List (List UInt8 × α)) : lookN m (putN n v l) = if m = n then some v else lookN m l := by
  unfold putN
  rw [look_ins m n v _ (fun p hp => (mem_del.1 hp).2), look_del]
  by_cases e : m = n <;> simp [e]
theorem look_mem {α : Type} {n : List UInt8} {v : α} : ∀ {l : List (List UInt8 × α)}, lookN n l = some v → (n, v) ∈ l
  | [], h => by cases h
  | p :: r, h => by
    unfold lookN at h
    by_cases e : p.1 = n
    · rw [if_pos e] at h; cases h; subst e; simp
    · rw [if_neg e] at h; exact List.mem_cons_of_mem _ (look_mem h)
theorem look_no {α : Type} {n : List UInt8} : ∀ {l : List (List UInt8 × α)}, lookN n l = none → ∀ p ∈ l, p.1 ≠ n
  | [], _, p, hp => by simp at hp
  | q :: r, h, p, hp => by
    unfold lookN at h
    by_cases e : q.1 = n
    · rw [if_pos e] at h; cases h
    · rw [if_neg e] at h
      rcases List.mem_cons.1 hp with rfl | hp
      · exact e
      · exact look_no h p hp
theorem look_of {α : Type} {n : List UInt8} : ∀ {l : List (List UInt8 × α)}, (∀ p ∈ l, p.1 ≠ n) → lookN n l = none
  | [], _ => rfl
  | q :: r, h => by
    unfold lookN
    rw [if_neg (h q (by simp))]
    exact look_of (fun p hp => h p (by simp [hp]))
theorem look_in {α : Type} {n : List UInt8} {v : α} : ∀ {l : List (List UInt8 × α)}, SrtN l → (n, v) ∈ l → lookN n l = some v
  | [], _, h => by simp at h
  | p :: r, hs, h => by
    have hs' := hs
    unfold SrtN at hs'
    rw [List.pairwise_cons] at hs'
    unfold lookN
    rcases List.mem_cons.1 h with rfl | h
    · simp
    · rw [if_neg (before_ne (hs'.1 _ h))]
      exact look_in hs'.2 h
theorem ext_srt {α : Type} : ∀ {a b : List (List UInt8 × α)}, SrtN a → SrtN b → (∀ m, lookN m a = lookN m b) → a = b
  | [], [], _, _, _ => rfl
  | [], q :: b, _, _, h => by have := h q.1; simp [lookN] at this
  | p :: a, [], _, _, h => by have := h p.1; simp [lookN] at this
  | p :: a, q :: b, ha, hb, h => by
    have ha' := ha
    have hb' := hb
    unfold SrtN at ha' hb'
    rw [List.pairwise_cons] at ha' hb'
    have h1 : (p.1, p.2) ∈ q :: b := look_mem (by rw [← h p.1]; simp [lookN])
    have h2 : (q.1, q.2) ∈ p :: a := look_mem (by rw [h q.1]; simp [lookN])
    have e : p = q := by
      rcases List.mem_cons.1 h1 with e | m1
      · exact e
      · rcases List.mem_cons.1 h2 with e | m2
        · exact e.symm
        · have b1 := hb'.1 _ m1
          have b2 := ha'.1 _ m2
          have := before_as b1
          rw [b2] at this; cases this
    subst e
    congr 1
    refine ext_srt ha'.2 hb'.2 (fun m => ?_)
    by_cases e : p.1 = m
    · subst e
      rw [look_of (fun y hy => (before_ne (ha'.1 y hy)).symm), look_of (fun y hy => (before_ne (hb'.1 y hy)).symm)]
    · have := h m
      unfold lookN at this
      rw [if_neg e, if_neg e] at this
      exact this
/-- a change of what names stand for -/
theorem map_del {α β : Type} (g : α → β) (n : List UInt8) (l : List (List UInt8 × α)) : (delN n l).map (fun p => (p.1, g p.2)) = delN n (l.map fun p => (p.1, g p.2)) := by
  unfold delN; rw [List.filter_map]; rfl
theorem map_ins {α β : Type} (g : α → β) (n : List UInt8) (v : α) : ∀ l : List (List UInt8 × α), (insN n v l).map (fun p => (p.1, g p.2)) = insN n (g v) (l.map fun p => (p.1, g p.2))
  | [] => rfl
  | y :: r => by
    unfold insN
    rw [List.map_cons]
    by_cases h : bytesBefore n y.1 = true
    · simp [h]
    · have := map_ins g n v r
      simp [h, this]
theorem map_put {α β : Type} (g : α → β) (n : List UInt8) (v : α) (l : List (List UInt8 × α)) : (putN n v l).map (fun p => (p.1, g p.2)) = putN n (g v) (l.map fun p => (p.1, g p.2)) := by
  unfold putN; rw [map_ins, map_del]
theorem map_look {α β : Type} (g : α → β) (n : List UInt8) : ∀ l : List (List UInt8 × α), lookN n (l.map fun p => (p.1, g p.2)) = (lookN n l).map g
  | [] => rfl
  | p :: r => by
    have ih := map_look g n r
    show (if p.1 = n then some (g p.2) else lookN n (r.map _)) = (if p.1 = n then some p.2 else lookN n r).map g
    rw [ih]; split <;> rfl
theorem srt_map {α β : Type} (g : α → β) {l : List (List UInt8 × α)} : SrtN (l.map fun p => (p.1, g p.2)) ↔ SrtN l := by
  unfold SrtN; rw [List.pairwise_map]
/-- undone: a name that was not there -/
theorem undo_cr {α : Type} {a : List (List UInt8 × α)} {n : List UInt8} {v : α} (ha : SrtN a) (hn : lookN n a = none) : delN n (putN n v a) = a := by
  refine ext_srt (srt_del n (srt_put n v ha)) ha (fun m => ?_)
  rw [look_del, look_put]
  by_cases e : m = n
  · rw [if_pos e, e, hn]
  · rw [if_neg e, if_neg e]
/-- undone: a name taken away -/
theorem undo_rm {α : Type} {a : List (List UInt8 × α)} {n : List UInt8} {v : α} (ha : SrtN a) (hn : lookN n a = some v) : putN n v (delN n a) = a := by
  refine ext_srt (srt_put n v (srt_del n ha)) ha (fun m => ?_)
  rw [look_put, look_del]
  by_cases e : m = n
  · rw [if_pos e, e, hn]
  · rw [if_neg e, if_neg e]
/-- undone: another name, which no file loses -/
theorem undo_rn {α : Type} {a : List (List UInt8 × α)} {s t : List UInt8} {v : α} (ha : SrtN a) (hs : lookN s a = some v) (ht : lookN t a = none) : delN t (putN s v (putN t v (delN s a))) = a := by
  refine ext_srt (srt_del t (srt_put s v (srt_put t v (srt_del s ha)))) ha (fun m => ?_)
  rw [look_del, look_put, look_put, look_del]
  by_cases e1 : m = t
  · rw [if_pos e1, e1, ht]
  · rw [if_neg e1, if_neg e1]
    by_cases e2 : m = s
    · rw [if_pos e2, e2, hs]
    · rw [if_neg e2, if_neg e2]
/-- undone: another name, which a file loses -/
theorem undo_rl {α : Type} {a : List (List UInt8 × α)} {s t : List UInt8} {v u : α} (ha : SrtN a) (hs : lookN s a = some v) (ht : lookN t a = some u) : putN t u (delN t (putN s v (putN t v (delN s a)))) = a := by
  refine ext_srt (srt_put t u (srt_del t (srt_put s v (srt_put t v (srt_del s ha))))) ha (fun m => ?_)
  rw [look_put, look_del, look_put, look_put, look_del]
  by_cases e1 : m = t
  · rw [if_pos e1, e1, ht]
  · rw [if_neg e1, if_neg e1, if_neg e1]
    by_cases e2 : m = s
    · rw [if_pos e2, e2, hs]
    · rw [if_neg e2, if_neg e2]
/-- the document's with -/
theorem less_before : ∀ (x y : List UInt8), Op.bytesLess x y = bytesBefore x y
  | [], [] => rfl
  | _ :: _, [] => rfl
  | [], _ :: _ => rfl
  | a :: x, b :: y => by
    show (decide (a < b) || (a == b && Op.bytesLess x y)) = (decide (a < b) || (a == b && bytesBefore x y))
    rw [less_before x y]
theorem wth_eq (s : List UInt8) (kf : Int) (put : Bool) (p : List UInt8 × Nat) (r : Ws) : wth s kf put (p :: r) = (if !put && !Op.bytesLess p.1 s then [(s, kf.toNat)] else []) ++ ((if p.1 = s then [] else [p]) ++ wth s kf (put || !Op.bytesLess p.1 s) r) := rfl
theorem wth_true (n : List UInt8) (k : Int) : ∀ l : Ws, wth n k true l = delN n l
  | [] => rfl
  | p :: r => by
    have ih := wth_true n k r
    rw [wth_eq, del_cons]
    simp only [Bool.not_true, Bool.false_and, Bool.false_eq_true, if_false, Bool.true_or, List.nil_append, ih]
    by_cases e : p.1 = n <;> simp [e]
theorem ins_head {α : Type} {n : List UInt8} {v : α} : ∀ {l : List (List UInt8 × α)}, (∀ p ∈ l, bytesBefore n p.1 = true) → insN n v l = (n, v) :: l
  | [], _ => rfl
  | y :: r, h => by unfold insN; rw [if_pos (h y (by simp))]
theorem wth_false (n : List UInt8) (k : Int) : ∀ l : Ws, SrtN l → wth n k false l = putN n k.toNat l
  | [], _ => rfl
  | p :: r, hs => by
    have hs' := hs
    unfold SrtN at hs'
    rw [List.pairwise_cons] at hs'
    rw [wth_eq, less_before]
    by_cases hb : bytesBefore p.1 n = true
    · have ih := wth_false n k r hs'.2
      simp only [hb, Bool.not_true, Bool.and_false, Bool.false_eq_true, if_false, Bool.or_false, List.nil_append, ih]
      rw [if_neg (before_ne hb)]
      unfold putN
      rw [del_cons, if_neg (before_ne hb)]
      conv => rhs; unfold insN
      rw [if_neg (by rw [before_as hb]; simp)]
      rfl
    · have hb2 : bytesBefore p.1 n = false := by cases e : bytesBefore p.1 n; rfl; exact absurd e hb
      simp only [hb2, Bool.not_false, Bool.and_self, if_true, Bool.or_true, wth_true]
      unfold putN
      rw [del_cons]
      have big : ∀ q ∈ r, bytesBefore n q.1 = true := fun q hq => by
        by_cases e : p.1 = n
        · rw [← e]; exact hs'.1 q hq
        · rcases bytes_total p.1 n e with h | h
          · rw [hb2] at h; cases h
          · exact bytes_trans _ _ _ h (hs'.1 q hq)
      by_cases e : p.1 = n
      · rw [if_pos e, if_pos e, ins_head (fun q hq => big q (mem_del.1 hq).1)]; rfl
      · rw [if_neg e, if_neg e, ins_head (fun q hq => ?_)]; rfl
        rcases List.mem_cons.1 hq with rfl | hq
        · rcases bytes_total q.1 n e with h | h
          · rw [hb2] at h; cases h
          · exact h
        · exact big q (mem_del.1 hq).1
theorem fnd_look (n : List UInt8) : ∀ l : Ws, fnd n l = match lookN n l with | some j => (j : Int) | none => -1
  | [] => rfl
  | p :: r => by
    unfold fnd lookN
    by_cases e : p.1 = n
    · simp [e]
    · simp only [if_neg e]; exact fnd_look n r
/-- the program's map -/
theorem put_ent (n : List UInt8) (X : Fl) (xs : List (List UInt8 × Fl)) : (DataW.map (xs.map ent)).put (.string n) (.lit (.int .i64 (X.b : Int))) = .map ((putN n X xs).map ent) := by
  show DataW.map (DataW.insert _ _) = _
  congr 1
  have e1 : (xs.map ent).filter (fun p => !p.1.sameKey (.string n)) = (delN n xs).map ent := by
    unfold delN; rw [List.filter_map]; rfl
  rw [e1]
  unfold putN
  generalize delN n xs = l
  induction l with
  | nil => rfl
  | cons y r ih =>
    show (if bytesBefore n y.1 then _ else _) = (insN n X (y :: r)).map ent
    unfold insN
    by_cases h : bytesBefore n y.1 = true
    · simp [h, ent]
    · have h2 : bytesBefore n y.1 = false := by cases e : bytesBefore n y.1; rfl; exact absurd e h
      simp only [h2, Bool.false_eq_true, if_false, List.map_cons]
      rw [← ih]
theorem del_ent (n : List UInt8) (xs : List (List UInt8 × Fl)) : (DataW.map (xs.map ent)).del (.string n) = .map ((delN n xs).map ent) := by
  show DataW.map _ = _
  congr 1
  unfold delN; rw [List.filter_map]; rfl
theorem at_ent (n : List UInt8) (z : DataW Unit) : ∀ xs : List (List UInt8 × Fl), (DataW.map (xs.map ent)).atKey (.string n) z = match lookN n xs with | some X => .lit (.int .i64 (X.b : Int)) | none => z
  | [] => rfl
  | p :: r => by
    have ih := at_ent n z r
    simp only [DataW.atKey, List.map_cons, List.find?_cons, ent, lookN] at ih ⊢
    have e : (Lit.string p.1).sameKey (.string n) = (p.1 == n) := rfl
    rw [e]
    by_cases h : p.1 = n
    · simp [h]
    · have h2 : (p.1 == n) = false := by rw [beq_eq_false_iff_ne]; exact h
      simp only [h2, if_neg h]
      exact ih
/-- names in their order are what sorting brings -/
theorem srt_sort {α : Type} {xs : List (List UInt8 × α)} (h : SrtN xs) (ss : List (List UInt8)) (hp : ss.Perm (xs.map (·.1))) : ss.mergeSort (fun x y => decide (x ≤ y)) = xs.map (·.1) := by
  have h1 : (xs.map (·.1)).Pairwise (fun x y => x ≤ y) := by
    rw [List.pairwise_map]
    refine h.imp (fun hab => ?_)
    rw [← less_before, bytesLess_eq, decide_eq_true_eq] at hab
    exact List.le_of_lt hab
  have h2 : (ss.mergeSort (fun x y => decide (x ≤ y))).Pairwise (fun x y => x ≤ y) := by
    have := List.pairwise_mergeSort (le := fun x y : List UInt8 => decide (x ≤ y)) (fun a b c h1 h2 => by simp only [decide_eq_true_eq] at h1 h2 ⊢; exact List.le_trans h1 h2) (fun a b => by simp only [Bool.or_eq_true, decide_eq_true_eq]; exact List.le_total a b) ss
    exact this.imp (fun h => by simpa using h)
  exact List.Perm.eq_of_pairwise (fun a b _ _ h1 h2 => List.le_antisymm h1 h2) h2 h1 ((List.mergeSort_perm _ _).trans hp)
end Go.Proofs.Ytdiehlioemmakaa

namespace Go.Proofs.Ytdiehlioemmakaa
open Go.RowKit Go.Maps Go.Joins

/-- a change of names that is open: its closure's cells; the file that lost its name, and that file's number in the document's disk -/
structure Ux where
  c : Nat
  n : List UInt8
  r : Option (Nat × List UInt8)
  l : Option (Nat × Option (Fl × Nat))
def Ux.cr (c : Nat) (n : List UInt8) : Ux := ⟨c, n, none, none⟩
def Ux.rn (ct cf cl : Nat) (t s : List UInt8) (x : Option (Fl × Nat)) : Ux := ⟨ct, t, some (cf, s), some (cl, x)⟩
def Ux.rm (c cl : Nat) (n : List UInt8) (x : Fl × Nat) : Ux := ⟨c, n, none, some (cl, some x)⟩
def Ux.val (u : Ux) : Value :=
  match u.r, u.l with
  | none, some z => .func (.func 73) #[] #[.pointer (some ⟨u.c, 0, none⟩), .pointer (some ⟨z.1, 0, none⟩)]
  | some y, some z => .func (.func 71) #[] #[.pointer (some ⟨u.c, 0, none⟩), .pointer (some ⟨y.1, 0, none⟩), .pointer (some ⟨z.1, 0, none⟩)]
  | _, none => .func (.func 63) #[] #[.pointer (some ⟨u.c, 0, none⟩)]
def lostV : Option (Fl × Nat) → Value
  | none => .pointer none
  | some x => .pointer (some ⟨x.1.b, 0, none⟩)
def lostF : Option (Nat × Option (Fl × Nat)) → List Fl
  | some (_, some x) => [x.1]
  | _ => []
def Ux.lost (u : Ux) : List Fl := lostF u.l
structure Ux.ok (P : Nat → Prop) (w : World) (u : Ux) : Prop where
  pc : P u.c
  c : w.heap[u.c]? = some (.cells #[.string ⟨u.n.toArray⟩] 9 (0, 0))
  r : ∀ y, u.r = some y → P y.1 ∧ w.heap[y.1]? = some (.cells #[.string ⟨y.2.toArray⟩] 9 (0, 0))
  l : ∀ z, u.l = some z → P z.1 ∧ w.heap[z.1]? = some (.cells #[lostV z.2] 68 (0, 0))
/-- a disk of the program: all its blocks are in P -/
structure Dsk (P : Nat → Prop) (w : World) (base f : Nat) (q st : Int) (mo : Option Nat) (xs : List (List UInt8 × Fl)) (us : List Ux) : Prop where
  bs : base ≤ w.heap.size
  pb : ∀ i, P i → base ≤ i ∧ i < w.heap.size
  pf : P f
  fs : ∃ ov, FsAt w f q mo ov st ∧ w.ownsRow base 72 1 ov us.length (us.map Ux.val) ∧ ∀ g, ov.ownBlock = some g → P g
  mp : ∀ m, mo = some m → P m ∧ Mp w m xs
  mn : mo = none → xs = [] ∧ us = []
  fl : Fls w base (xs.map (·.2) ++ us.flatMap Ux.lost)
  pl : ∀ x ∈ xs.map (·.2) ++ us.flatMap Ux.lost, P x.b ∧ ∀ g, x.v.ownBlock = some g → P g
  un : ∀ u ∈ us, u.ok P w
/-- the set of blocks with those that are new -/
def ext (P : Nat → Prop) (w w' : World) : Nat → Prop := fun i => P i ∨ (w.heap.size ≤ i ∧ i < w'.heap.size)
theorem ext_le {P : Nat → Prop} {w w' : World} {i : Nat} (h : P i) : ext P w w' i := Or.inl h
theorem ext_new {P : Nat → Prop} {w w' : World} {i : Nat} (h : w.heap.size ≤ i) (h2 : i < w'.heap.size) : ext P w w' i := Or.inr ⟨h, h2⟩
theorem ext_bd {P : Nat → Prop} {w w' : World} {base : Nat} (hb : base ≤ w.heap.size) (hs : w.heap.size ≤ w'.heap.size) (h : ∀ i, P i → base ≤ i ∧ i < w.heap.size) : ∀ i, ext P w w' i → base ≤ i ∧ i < w'.heap.size := by
  rintro i (hi | hi)
  · have := h i hi; omega
  · omega
theorem Chg.xtrans {P : Nat → Prop} {w w1 w2 : World} (h : Chg P w w1) (k : Chg (ext P w w1) w1 w2) : Chg P w w2 :=
  ⟨k.os.trans h.os, k.tape.trans h.tape, k.output.trans h.output, Nat.le_trans h.size k.size, fun i hi hn => (k.block i (Nat.lt_of_lt_of_le hi h.size) (fun e => by rcases e with e | e; exact hn e; omega)).trans (h.block i hi hn)⟩
theorem Ux.ok.more {P P' : Nat → Prop} {w : World} {u : Ux} (h : u.ok P w) (hp : ∀ i, P i → P' i) : u.ok P' w :=
  ⟨hp _ h.pc, h.c, fun y hy => ⟨hp _ (h.r y hy).1, (h.r y hy).2⟩, fun z hz => ⟨hp _ (h.l z hz).1, (h.l z hz).2⟩⟩
theorem Dsk.more {P P' : Nat → Prop} {w : World} {base f : Nat} {q st : Int} {mo : Option Nat} {xs : List (List UInt8 × Fl)} {us : List Ux} (h : Dsk P w base f q st mo xs us) (hp : ∀ i, P i → P' i) (hb : ∀ i, P' i → base ≤ i ∧ i < w.heap.size) : Dsk P' w base f q st mo xs us := by
  obtain ⟨ov, h1, h2, h3⟩ := h.fs
  exact ⟨h.bs, hb, hp _ h.pf, ⟨ov, h1, h2, fun g hg => hp _ (h3 g hg)⟩, fun m e => ⟨hp _ (h.mp m e).1, (h.mp m e).2⟩, h.mn, h.fl, fun x hx => ⟨hp _ (h.pl x hx).1, fun g hg => hp _ ((h.pl x hx).2 g hg)⟩, fun u hu => (h.un u hu).more hp⟩
theorem Chg.ux {S P : Nat → Prop} {w w' : World} {u : Ux} (h : Chg S w w') (hu : u.ok P w) (hs : ∀ r, S r → plainB w.heap[r]?) : u.ok P w' :=
  ⟨hu.pc, h.at_ hu.c (fun e => (hs _ e _ _).1 hu.c), fun y hy => ⟨(hu.r y hy).1, h.at_ (hu.r y hy).2 (fun e => (hs _ e _ _).1 (hu.r y hy).2)⟩, fun z hz => ⟨(hu.l z hz).1, h.at_ (hu.l z hz).2 (fun e => (hs _ e _ _).2 (hu.l z hz).2)⟩⟩
/-- what is changed elsewhere leaves the disk as it is -/
theorem Dsk.away {P N : Nat → Prop} {w w' : World} {base f : Nat} {q st : Int} {mo : Option Nat} {xs : List (List UInt8 × Fl)} {us : List Ux} (h : Dsk P w base f q st mo xs us) (hc : Chg N w w') (hn : ∀ i, P i → ¬ N i) : Dsk P w' base f q st mo xs us := by
  obtain ⟨ov, h1, h2, h3⟩ := h.fs
  refine ⟨Nat.le_trans h.bs hc.size, fun i hi => ⟨(h.pb i hi).1, Nat.lt_of_lt_of_le (h.pb i hi).2 hc.size⟩, h.pf, ⟨ov, hc.at_ h1 (hn _ h.pf), hc.row h2 (fun g hg => hn _ (h3 g hg)), h3⟩, fun m e => ⟨(h.mp m e).1, hc.map (h.mp m e).2 (hn _ (h.mp m e).1)⟩, h.mn, ⟨fun x hx => hc.file (h.fl.ok x hx) (hn _ (h.pl x hx).1) (fun g hg => hn _ ((h.pl x hx).2 g hg)), h.fl.nb, h.fl.nv⟩, h.pl, fun u hu => ?_⟩
  have k := h.un u hu
  exact ⟨k.pc, hc.at_ k.c (hn _ k.pc), fun y hy => ⟨(k.r y hy).1, hc.at_ (k.r y hy).2 (hn _ (k.r y hy).1)⟩, fun z hz => ⟨(k.l z hz).1, hc.at_ (k.l z hz).2 (hn _ (k.l z hz).1)⟩⟩
theorem Dsk.kept {P : Nat → Prop} {w w' : World} {base f : Nat} {q st : Int} {mo : Option Nat} {xs : List (List UInt8 × Fl)} {us : List Ux} (h : Dsk P w base f q st mo xs us) (hg : w.grownBy w' none) : Dsk P w' base f q st mo xs us :=
  h.away (Chg.of_none hg (fun _ => False)) (fun _ _ e => e)
theorem Dsk.drewN {P : Nat → Prop} {w : World} {base f : Nat} {q st : Int} {mo : Option Nat} {xs : List (List UInt8 × Fl)} {us : List Ux} (h : Dsk P w base f q st mo xs us) (n : Nat) : Dsk P (w.drewN n) base f q st mo xs us := h.kept ⟨rfl, rfl, rfl, Nat.le_refl _, fun _ _ _ => rfl⟩
theorem lostx_sub : ∀ {us' us : List Ux}, us'.Sublist us → (us'.flatMap Ux.lost).Sublist (us.flatMap Ux.lost)
  | _, _, .slnil => List.Sublist.refl _
  | _, _, .cons a h => by rw [List.flatMap_cons]; exact (lostx_sub h).trans (List.sublist_append_right _ _)
  | _, _, .cons_cons a h => by rw [List.flatMap_cons, List.flatMap_cons]; exact List.Sublist.append (List.Sublist.refl _) (lostx_sub h)
/-- the disk's own block alone has changed, and fewer changes of names are open -/
theorem Dsk.own {P : Nat → Prop} {w w' : World} {base f : Nat} {q st st' : Int} {mo : Option Nat} {xs : List (List UInt8 × Fl)} {us us' : List Ux} {ov : Value} (h : Dsk P w base f q st mo xs us) (hc : Chg (fun i => i = f) w w') (hF : FsAt w' f q mo ov st') (hr : w'.ownsRow base 72 1 ov us'.length (us'.map Ux.val)) (ho : ∀ g, ov.ownBlock = some g → P g) (hs : us'.Sublist us) :
    Dsk P w' base f q st' mo xs us' := by
  obtain ⟨ov0, h1, h2, _⟩ := h.fs
  have kf : ∀ i, i = f → ∃ cs, w.heap[i]? = some (.cells cs 67 (0, 0)) := fun i e => by subst e; exact ⟨_, h1⟩
  have hsub : (xs.map (·.2) ++ us'.flatMap Ux.lost).Sublist (xs.map (·.2) ++ us.flatMap Ux.lost) := List.Sublist.append (List.Sublist.refl _) (lostx_sub hs)
  refine ⟨Nat.le_trans h.bs hc.size, fun i hi => ⟨(h.pb i hi).1, Nat.lt_of_lt_of_le (h.pb i hi).2 hc.size⟩, h.pf, ⟨ov, hF, hr, ho⟩, fun m e => ⟨(h.mp m e).1, hc.map (h.mp m e).2 (fun e2 => ?_)⟩, fun e => ⟨(h.mn e).1, ?_⟩, ?_, fun x hx => h.pl x (hsub.subset hx), fun u hu => hc.ux (h.un u (hs.subset hu)) (fun r e => ?_)⟩
  · obtain ⟨cs, hk⟩ := kf _ e2
    obtain ⟨es, c, hk'⟩ := (h.mp m e).2.kind
    rw [hk'] at hk; cases hk
  · have := (h.mn e).2
    rw [this] at hs
    exact List.sublist_nil.1 hs
  · refine (hc.files h.fl (fun r e => ?_)).sub hsub
    obtain ⟨cs, hk⟩ := kf _ e
    exact other_cells hk (by decide) (by decide)
  · obtain ⟨cs, hk⟩ := kf _ e
    exact plainB_cells hk (by decide) (by decide)
/-- the count of changes alone has changed -/
theorem Dsk.count {P : Nat → Prop} {w : World} {base f : Nat} {q st : Int} {mo : Option Nat} {xs : List (List UInt8 × Fl)} {us : List Ux} (h : Dsk P w base f q st mo xs us) (st' : Int) : Dsk P (w.setCell ⟨f, 3, none⟩ (.int .i64 st')) base f q st' mo xs us := by
  obtain ⟨ov, h1, h2, h3⟩ := h.fs
  have hc := Chg.of_cell w ⟨f, 3, none⟩ (.int .i64 st')
  refine h.own hc ((block_setCell h1 _).trans rfl) (hc.row h2 (fun g hg e => ?_)) h3 (List.Sublist.refl _)
  obtain ⟨cs, hk⟩ := own_kind h2 g hg
  have e : g = f := e
  unfold FsAt at h1
  rw [e, h1] at hk; simp at hk
/-- a file of a disk has changed -/
theorem Dsk.file {P : Nat → Prop} {w w' : World} {base f : Nat} {q st : Int} {mo : Option Nat} {n : List UInt8} {X X' : Fl} {A B : List (List UInt8 × Fl)} {us : List Ux} (h : Dsk P w base f q st mo (A ++ (n, X) :: B) us) (hc : Chg (fun i => i = X.b ∨ X.v.ownBlock = some i) w w') (hX : FlOk w' base X') (hb : X'.b = X.b) (hv : ∀ g, X'.v.ownBlock = some g → X.v.ownBlock = some g ∨ w.heap.size ≤ g) :
    Dsk (ext P w w') w' base f q st mo (A ++ (n, X') :: B) us ∧ Chg P w w' := by
  have okX : FlOk w base X := h.fl.ok X (by simp)
  have pX := h.pl X (by simp)
  have kind : ∀ i, (i = X.b ∨ X.v.ownBlock = some i) → ∃ cs t, w.heap[i]? = some (.cells cs t (0, 0)) ∧ (t = 86 ∨ t = 5) := by
    rintro i (rfl | e)
    · exact ⟨_, _, okX.at_, Or.inl rfl⟩
    · obtain ⟨cs, hk⟩ := own_kind okX.row _ e
      exact ⟨_, _, hk, Or.inr rfl⟩
  obtain ⟨ov, h1, h2, h3⟩ := h.fs
  have e1 : ∀ Y : Fl, (A ++ (n, Y) :: B).map (·.2) ++ us.flatMap Ux.lost = A.map (·.2) ++ Y :: (B.map (·.2) ++ us.flatMap Ux.lost) := fun Y => by simp
  refine ⟨⟨Nat.le_trans h.bs hc.size, ext_bd h.bs hc.size h.pb, ext_le h.pf, ⟨ov, hc.at_ h1 (fun e => ?_), hc.row h2 (fun g hg e => ?_), fun g hg => ext_le (h3 g hg)⟩, fun m em => ⟨ext_le (h.mp m em).1, ?_⟩, fun e => by have := (h.mn e).1; simp at this, ?_, fun x hx => ?_, fun u hu => (hc.ux (h.un u hu) (fun r e => ?_)).more (fun _ => ext_le)⟩, hc.mono (fun i _ e => ?_)⟩
  · obtain ⟨cs, t, hk, ht⟩ := kind _ e
    unfold FsAt at h1; rw [h1] at hk; rcases ht with rfl | rfl <;> simp at hk
  · obtain ⟨cs, t, hk, ht⟩ := kind _ e
    obtain ⟨cs', hk'⟩ := own_kind h2 g hg
    rw [hk'] at hk; rcases ht with rfl | rfl <;> simp at hk
  · have hm : Mp w' m (A ++ (n, X) :: B) := hc.map (h.mp m em).2 (fun e => by
      obtain ⟨cs, t, hk, _⟩ := kind _ e
      obtain ⟨es, c, hk'⟩ := (h.mp m em).2.kind
      rw [hk'] at hk; simp at hk)
    unfold Mp at hm ⊢
    have e1 : (A ++ (n, X') :: B).map ent = (A ++ (n, X) :: B).map ent := by simp [ent, hb]
    have e2 : (A ++ (n, X') :: B).length = (A ++ (n, X) :: B).length := by simp
    rw [e1, e2]; exact hm
  · have hf := h.fl
    rw [e1] at hf ⊢
    exact hf.upd hc hX hb hv
  · rw [e1, List.mem_append, List.mem_cons] at hx
    have old : ∀ y, y ∈ A.map (·.2) ∨ y ∈ B.map (·.2) ++ us.flatMap Ux.lost → ext P w w' y.b ∧ ∀ g, y.v.ownBlock = some g → ext P w w' g := fun y hy => by
      have := h.pl y (by rw [e1, List.mem_append, List.mem_cons]; rcases hy with hy | hy; exact Or.inl hy; exact Or.inr (Or.inr hy))
      exact ⟨ext_le this.1, fun g hg => ext_le (this.2 g hg)⟩
    rcases hx with hx | rfl | hx
    · exact old x (Or.inl hx)
    · refine ⟨by rw [hb]; exact ext_le pX.1, fun g hg => ?_⟩
      rcases hv g hg with h5 | h5
      · exact ext_le (pX.2 g h5)
      · obtain ⟨cs, hk⟩ := own_kind hX.row g hg
        exact ext_new h5 (lt_of_heap hk)
    · exact old x (Or.inr hx)
  · obtain ⟨cs, t, hk, ht⟩ := kind _ e
    refine plainB_cells hk ?_ ?_ <;> rcases ht with rfl | rfl <;> decide
  · rcases e with rfl | e
    · exact pX.1
    · exact pX.2 i e
/-- a name of a disk is looked up -/
def lookV (o : Option Fl) : Value := match o with | some X => .pointer (some ⟨X.b, 0, none⟩) | none => .pointer none
theorem Dsk.look {P : Nat → Prop} {w : World} {base f : Nat} {q st : Int} {mo : Option Nat} {xs : List (List UInt8 × Fl)} {us : List Ux} (h : Dsk P w base f q st mo xs us) (n : List UInt8) (hn : n.length ≤ maxLen) : (Instr.lookup 64 (.map mo) (.string ⟨n.toArray⟩) false).run Try.prog w = .ok (lookV (lookN n xs)) w := by
  have hn2 : (⟨n.toArray⟩ : ByteArray).size ≤ maxLen := by rw [show (⟨n.toArray⟩ : ByteArray).size = n.length from by simp [ByteArray.size]]; exact hn
  cases mo with
  | none =>
    rw [(h.mn rfl).1]
    exact Maps.look_nil (w := w) false keyS mapT (zeroP _) (WideMaps.keyOf_string_mk strT hn2)
  | some m =>
    obtain ⟨v, ps, hrun, hR⟩ := World.ownsMap.lookup (key := .string ⟨n.toArray⟩) (h.mp m rfl).2 keyS mapT (zeroP w) (zd := .nil) (zp := []) rfl (WideMaps.keyOf_string_mk strT hn2)
    rw [show (⟨n.toArray⟩ : ByteArray).data.toList = n from rfl, at_ent] at hR
    cases hl : lookN n xs with
    | none =>
      rw [hl] at hR
      rcases ptrR_inv hR with ⟨rfl, _⟩ | ⟨b', _, e⟩
      · exact hrun
      · cases e
    | some X =>
      rw [hl] at hR
      rcases ptrR_inv hR with ⟨_, e⟩ | ⟨b', rfl, e⟩
      · cases e
      · cases e; exact hrun
theorem Dsk.len {P : Nat → Prop} {w : World} {base f : Nat} {q st : Int} {mo : Option Nat} {xs : List (List UInt8 × Fl)} {us : List Ux} (h : Dsk P w base f q st mo xs us) (ty : TypeId) : (Builtin.len_ #[64] ty #[.map mo]).run Try.prog w = .ok (.int .i64 ((xs.length : Nat) : Int)) w := by
  cases mo with
  | none =>
    rw [(h.mn rfl).1]
    exact Maps.len_nil (w := w) mapT ty
  | some m =>
    have := World.ownsMap.len (w := w) (h.mp m rfl).2 mapT ty
    rw [Maps.size_eq, List.length_map] at this
    exact this
theorem split_look {α : Type} {n : List UInt8} {X : α} {xs : List (List UInt8 × α)} (h : lookN n xs = some X) : ∃ A B, xs = A ++ (n, X) :: B := List.append_of_mem (look_mem h)
end Go.Proofs.Ytdiehlioemmakaa

namespace Go.Proofs.Ytdiehlioemmakaa
open Go.RowKit Go.Maps Go.Joins

theorem toListE (l : List UInt8) : (ByteArray.mk l.toArray).toList = l := by rw [Lib.toList_data]
set_option maxHeartbeats 2000000 in
set_option maxRecDepth 100000 in
theorem canBe_any (l : List UInt8) (w : World) (hll : l.length ≤ 1000000000) : Calls Try.prog 62 #[.string ⟨l.toArray⟩] w fun e w' => e = .returned (.bool (nmOk l)) ∧ w' = w := by
  have hz := size_mkE l
  have hzl := toListE l
  obtain ⟨B, hB⟩ : ∃ B, B = nmOk l := ⟨_, rfl⟩
  rw [← hB]
  rw [nmOk_eq] at hB
  have HB := mkHid hB
  clear hB
  go_enter Try.func62, Try.ntmps62
  go_wp2_with fail
  go_loopw [6] (fun s6 wr => ∃ (k : Nat), s6 = .int .i64 k ∧ k ≤ l.length ∧ Hid ((l.take k).all chOk = true) ∧ wr = w) (fun s6 _ => l.length - (intOf s6).toNat)
  case atStart => exact ⟨0, rfl, Nat.zero_le _, rfl, rfl⟩
  case round =>
    obtain ⟨k, rfl, hk, hn, rfl⟩ := hrel
    by_cases hlt : k < l.length
    · obtain ⟨x, hx⟩ : ∃ x, l[k]? = some x := ⟨l[k], List.getElem?_eq_getElem hlt⟩
      have hgx := get_mkE hx
      obtain ⟨hgl, hgx⟩ := hgx
      have hlti : (k : Int) < (l.length : Int) := by omega
      by_cases c1 : x.toNat ≤ 32
      · have hc : chOk x = false := by unfold chOk; rw [decide_eq_false (by omega)]; rfl
        have hE : B = false := by rw [HB.out, all_badE hx hc, Bool.and_false]
        subst hE
        have c1i : (x.toNat : Int) ≤ 32 := by omega
        clear HB hn hx hc
        go_wp2_with fail
        go_ret
        exact ⟨rfl, rfl⟩
      have c1i : ¬ (x.toNat : Int) ≤ 32 := by omega
      by_cases c2 : 126 < x.toNat
      · have hc : chOk x = false := by unfold chOk; rw [decide_eq_false (p := x.toNat ≤ 126) (by omega), Bool.and_false]
        have hE : B = false := by rw [HB.out, all_badE hx hc, Bool.and_false]
        subst hE
        have c2i : (126 : Int) < (x.toNat : Int) := by omega
        clear HB hn hx hc
        go_wp2_with fail
        go_ret
        exact ⟨rfl, rfl⟩
      have c2i : ¬ (126 : Int) < (x.toNat : Int) := by omega
      have hn2 : Hid ((l.take (k + 1)).all chOk = true) := by
        show _ = _
        rw [all_nextE hx, hn.out]
        unfold chOk
        rw [decide_eq_true (p := 33 ≤ x.toNat) (by omega), decide_eq_true (p := x.toNat ≤ 126) (by omega)]; rfl
      clear hn hx
      go_wp2_with fail
      go_roundw
      case rel => exact ⟨k + 1, by go_num, hlt, hn2, by trivial⟩
      case measure => simp [intOf]; omega
    · have hlti : ¬ (k : Int) < (l.length : Int) := by omega
      have hall : l.all chOk = true := by
        have := hn.out
        rw [List.take_of_length_le (by omega)] at this
        exact this
      have HB2 : B = (decide (1 ≤ l.length) && decide (l.length ≤ 64)) := by rw [HB.out, hall, Bool.and_true]
      clear HB hn hall
      by_cases h1 : l.length < 1
      · obtain rfl : l = [] := List.eq_nil_of_length_eq_zero (by omega)
        have hE : B = false := by rw [HB2]; rfl
        subst hE
        clear HB2
        have hne : (([] : List UInt8) == []) = true := rfl
        go_wp2_with fail
        go_ret
        exact ⟨rfl, rfl⟩
      · have hne : (l == []) = false := by rw [beq_eq_false_iff_ne]; intro e; rw [e] at h1; simp at h1
        by_cases h2 : l.length ≤ 64
        · have hE : B = true := by rw [HB2, decide_eq_true (by omega), decide_eq_true h2]; rfl
          subst hE
          have h2i : (l.length : Int) ≤ 64 := by omega
          clear HB2
          go_wp2_with fail
          go_ret
          exact ⟨rfl, rfl⟩
        · have hE : B = false := by rw [HB2, decide_eq_false h2, Bool.and_false]
          subst hE
          have h2i : ¬ (l.length : Int) ≤ 64 := by omega
          clear HB2
          go_wp2_with fail
          go_ret
          exact ⟨rfl, rfl⟩
/-- a change that would be made -/
def rfB (st : Int) : Bool := if st = 0 then false else if 1 < st then false else true
def rfS (st : Int) : Int := if st = 0 then 0 else if 1 < st then st - 1 else -1
set_option maxHeartbeats 2000000 in
set_option maxRecDepth 100000 in
theorem refuses_any {P : Nat → Prop} (base f : Nat) (q st : Int) (mo : Option Nat) (xs : List (List UInt8 × Fl)) (us : List Ux) (w : World) (d : Dsk P w base f q st mo xs us) (hr : -9223372036854775808 ≤ st ∧ st ≤ 9223372036854775807) :
    Calls Try.prog 53 #[.pointer (some ⟨f, 0, none⟩)] w fun e w' => e = .returned (.bool (rfB st)) ∧ Dsk P w' base f q (rfS st) mo xs us ∧ Chg (fun i => i = f) w w' ∧ w'.heap.size = w.heap.size := by
  obtain ⟨ov, h1, _, _⟩ := d.fs
  obtain ⟨c0, c1, c2, c3, cf⟩ := h1.c
  have D := mkHid d
  have f3 := cf 3
  have hw := World.block_lt_of_cell? w _ c0
  clear d h1 c0 c1 c2 cf
  by_cases h0 : st = 0
  · subst h0
    go_enter Try.func53, Try.ntmps53
    go_wp2_with fail
    go_ret
    exact ⟨rfl, D.out, Chg.refl _ _, rfl⟩
  · have b0 : (st == 0) = false := by rw [beq_eq_false_iff_ne]; exact h0
    by_cases h1 : 1 < st
    · have eB : rfB st = false := by unfold rfB; rw [if_neg h0, if_pos h1]
      have eS : rfS st = st - 1 := by unfold rfS; rw [if_neg h0, if_pos h1]
      rw [eB, eS]
      have hr : -9223372036854775808 ≤ st - 1 ∧ st - 1 ≤ 9223372036854775807 := by omega
      clear eB eS h0
      go_enter Try.func53, Try.ntmps53
      go_wp2_with fail
      go_ret
      exact ⟨rfl, D.out.count _, Keep.set _ _ _ _, by simp⟩
    · have eB : rfB st = true := by unfold rfB; rw [if_neg h0, if_neg h1]
      have eS : rfS st = -1 := by unfold rfS; rw [if_neg h0, if_neg h1]
      rw [eB, eS]
      clear eB eS h0
      go_enter Try.func53, Try.ntmps53
      go_wp2_with fail
      go_ret
      exact ⟨rfl, D.out.count _, Keep.set _ _ _ _, by simp⟩
set_option maxHeartbeats 2000000 in
set_option maxRecDepth 100000 in
theorem Stop_any {P : Nat → Prop} (base f : Nat) (q st n : Int) (mo : Option Nat) (xs : List (List UInt8 × Fl)) (us : List Ux) (w : World) (d : Dsk P w base f q st mo xs us) (hr : -9223372036854775808 ≤ n ∧ n ≤ 9223372036854775807) :
    Calls Try.prog 14 #[.pointer (some ⟨f, 0, none⟩), .int .i64 n] w fun e w' => e = .returned (.tuple #[]) ∧ Dsk P w' base f q (max 0 n) mo xs us ∧ Chg (fun i => i = f) w w' ∧ w'.heap.size = w.heap.size := by
  obtain ⟨ov, h1, _, _⟩ := d.fs
  obtain ⟨c0, c1, c2, c3, cf⟩ := h1.c
  have D := mkHid d
  have f3 := cf 3
  have hw := World.block_lt_of_cell? w _ c0
  clear d h1 c0 c1 c2 cf
  by_cases h : n ≤ 0
  · have e : max 0 n = 0 := by omega
    rw [e]
    go_enter Try.func14, Try.ntmps14
    go_wp2_with fail
    go_end0
    exact ⟨rfl, D.out.count _, Keep.set _ _ _ _, by simp⟩
  · have e : max 0 n = n := by omega
    rw [e]
    have h2 : 0 < n := by omega
    go_enter Try.func14, Try.ntmps14
    go_wp2_with fail
    go_end0
    exact ⟨rfl, D.out.count _, Keep.set _ _ _ _, by simp⟩
/-- what is wrong with a name -/
def nmE {α : Type} (n : List UInt8) (xs : List (List UInt8 × α)) : Int := if nmOk n = false then 6 else match lookN n xs with | some _ => 0 | none => 40
def nmV (n : List UInt8) (xs : List (List UInt8 × Fl)) : Value := if nmOk n = false then .pointer none else lookV (lookN n xs)
theorem nm_len {n : List UInt8} (h : nmOk n = true) : 1 ≤ n.length ∧ n.length ≤ 64 := by
  rw [nmOk_eq, Bool.and_eq_true, Bool.and_eq_true, decide_eq_true_eq, decide_eq_true_eq] at h
  exact h.1
set_option maxHeartbeats 2000000 in
set_option maxRecDepth 100000 in
theorem named_any {P : Nat → Prop} (base f : Nat) (q st : Int) (mo : Option Nat) (xs : List (List UInt8 × Fl)) (us : List Ux) (n : List UInt8) (w : World) (hll : n.length ≤ 1000000000) (d : Dsk P w base f q st mo xs us) :
    Calls Try.prog 58 #[.pointer (some ⟨f, 0, none⟩), .string ⟨n.toArray⟩] w fun e w' => e = .returned (.tuple #[nmV n xs, .int .i64 (nmE n xs)]) ∧ w' = w := by
  have CB : Hid (∀ w, Calls Try.prog 62 #[.string ⟨n.toArray⟩] w fun e w' => e = .returned (.bool (nmOk n)) ∧ w' = w) := fun w => canBe_any n w hll
  obtain ⟨ov, h1, _, _⟩ := d.fs
  obtain ⟨c0, c1, c2, c3, cf⟩ := h1.c
  clear h1 c0 c2 c3
  unfold nmV nmE
  cases hok : nmOk n with
  | false =>
    rw [hok] at CB
    clear d c1
    go_enter Try.func58, Try.ntmps58
    go_wp2_with fail
    refine (CB.out _).mono ?_
    rintro e wx ⟨rfl, hwx⟩; have hwx2 := hwx.symm; subst hwx2; clear hwx
    go_wp2_with fail
    go_ret2
    exact ⟨rfl, rfl⟩
  | true =>
    rw [hok] at CB
    have lk := d.look n (by have := nm_len hok; unfold maxLen; omega)
    clear d
    cases hl : lookN n xs with
    | none =>
      rw [hl] at lk
      unfold lookV at lk
      go_enter Try.func58, Try.ntmps58
      go_wp2_with fail
      refine (CB.out _).mono ?_
      rintro e wx ⟨rfl, hwx⟩; have hwx2 := hwx.symm; subst hwx2; clear hwx
      go_wp2_with fail
      go_ret2
      exact ⟨rfl, rfl⟩
    | some X =>
      rw [hl] at lk
      unfold lookV at lk
      go_enter Try.func58, Try.ntmps58
      go_wp2_with fail
      refine (CB.out _).mono ?_
      rintro e wx ⟨rfl, hwx⟩; have hwx2 := hwx.symm; subst hwx2; clear hwx
      go_wp2_with fail
      go_ret2
      exact ⟨rfl, rfl⟩
set_option maxHeartbeats 2000000 in
set_option maxRecDepth 100000 in
theorem New_bad (q : Int) (w : World) (h : q < 0 ∨ 16777216 < q) : Calls Try.prog 25 #[.int .i64 q] w fun e w' => e = .returned (.tuple #[.pointer none, .int .i64 1]) ∧ w' = w := by
  by_cases h0 : q < 0
  · clear h
    go_enter Try.func25, Try.ntmps25
    go_wp2_with fail
    go_ret2
    exact ⟨rfl, rfl⟩
  · have h1 : 16777216 < q := by omega
    clear h
    go_enter Try.func25, Try.ntmps25
    go_wp2_with fail
    go_ret2
    exact ⟨rfl, rfl⟩
/-- the cases of a name -/
theorem nm_cases (n : List UInt8) (xs : List (List UInt8 × Fl)) : (nmE n xs = 6 ∧ nmV n xs = .pointer none ∧ nmOk n = false) ∨ (nmE n xs = 40 ∧ nmV n xs = .pointer none ∧ nmOk n = true ∧ lookN n xs = none) ∨ ∃ X, nmE n xs = 0 ∧ nmV n xs = .pointer (some ⟨X.b, 0, none⟩) ∧ nmOk n = true ∧ lookN n xs = some X := by
  unfold nmE nmV
  cases hok : nmOk n with
  | false => exact Or.inl ⟨rfl, rfl, rfl⟩
  | true =>
    cases hl : lookN n xs with
    | none => exact Or.inr (Or.inl ⟨rfl, rfl, rfl, rfl⟩)
    | some X => exact Or.inr (Or.inr ⟨X, rfl, rfl, rfl, rfl⟩)
end Go.Proofs.Ytdiehlioemmakaa

namespace Go.Proofs.Ytdiehlioemmakaa
open Go.RowKit Go.Maps Go.Joins

/-- the files of a disk by their names: their bytes, how many stand fast -/
def absX (xs : List (List UInt8 × Fl)) : List (List UInt8 × (List UInt8 × Nat)) := xs.map fun p => (p.1, (p.2.l, p.2.k))
theorem abs_look (n : List UInt8) (xs : List (List UInt8 × Fl)) : lookN n (absX xs) = (lookN n xs).map fun X => (X.l, X.k) := map_look (fun X : Fl => (X.l, X.k)) n xs
theorem abs_put (n : List UInt8) (X : Fl) (xs : List (List UInt8 × Fl)) : absX (putN n X xs) = putN n (X.l, X.k) (absX xs) := map_put (fun X : Fl => (X.l, X.k)) n X xs
theorem abs_del (n : List UInt8) (xs : List (List UInt8 × Fl)) : absX (delN n xs) = delN n (absX xs) := map_del (fun X : Fl => (X.l, X.k)) n xs
theorem abs_nmE (n : List UInt8) (xs : List (List UInt8 × Fl)) : nmE n (absX xs) = nmE n xs := by
  unfold nmE; rw [abs_look]; cases lookN n xs <;> rfl
/-- a file in the place of one -/
theorem put_mid {α : Type} {n : List UInt8} {X X' : α} {A B : List (List UInt8 × α)} (h : SrtN (A ++ (n, X) :: B)) : putN n X' (A ++ (n, X) :: B) = A ++ (n, X') :: B := by
  have hs : SrtN (A ++ (n, X') :: B) := by
    unfold SrtN at h ⊢
    rw [List.pairwise_append, List.pairwise_cons] at h ⊢
    refine ⟨h.1, h.2.1, fun a ha b hb => ?_⟩
    rcases List.mem_cons.1 hb with rfl | hb
    · exact h.2.2 a ha (n, X) (by simp)
    · exact h.2.2 a ha b (by simp [hb])
  refine ext_srt (srt_put n X' h) hs (fun m => ?_)
  rw [look_put]
  have gen : ∀ (Y : α) (A : List (List UInt8 × α)), m ≠ n → lookN m (A ++ (n, Y) :: B) = lookN m (A ++ B) := by
    intro Y A hm
    induction A with
    | nil => show (if n = m then _ else _) = _; rw [if_neg (fun e => hm e.symm)]; rfl
    | cons p t ih => show (if p.1 = m then some p.2 else lookN m (t ++ (n, Y) :: B)) = (if p.1 = m then some p.2 else lookN m (t ++ B)); rw [ih]
  by_cases e : m = n
  · rw [if_pos e, e]; exact (look_in hs (by simp)).symm
  · rw [if_neg e, gen X A e, gen X' A e]
theorem Dsk.file2 {P : Nat → Prop} {w w' : World} {base f : Nat} {q st : Int} {mo : Option Nat} {n : List UInt8} {X X' : Fl} {xs : List (List UInt8 × Fl)} {us : List Ux} (h : Dsk P w base f q st mo xs us) (so : SrtN xs) (hl : lookN n xs = some X) (hc : Chg (fun i => i = X.b ∨ X.v.ownBlock = some i) w w') (hX : FlOk w' base X') (hb : X'.b = X.b) (hv : ∀ g, X'.v.ownBlock = some g → X.v.ownBlock = some g ∨ w.heap.size ≤ g) :
    Dsk (ext P w w') w' base f q st mo (putN n X' xs) us ∧ Chg P w w' := by
  obtain ⟨A, B, rfl⟩ := split_look hl
  rw [put_mid so]
  exact h.file hc hX hb hv
theorem Dsk.okX {P : Nat → Prop} {w : World} {base f : Nat} {q st : Int} {mo : Option Nat} {n : List UInt8} {X : Fl} {xs : List (List UInt8 × Fl)} {us : List Ux} (h : Dsk P w base f q st mo xs us) (hl : lookN n xs = some X) : FlOk w base X ∧ P X.b ∧ ∀ g, X.v.ownBlock = some g → P g := by
  have hm : X ∈ xs.map (·.2) ++ us.flatMap Ux.lost := by
    rw [List.mem_append]
    exact Or.inl (List.mem_map.2 ⟨(n, X), look_mem hl, rfl⟩)
  exact ⟨h.fl.ok X hm, (h.pl X hm).1, (h.pl X hm).2⟩
theorem Dsk.ext_ {P : Nat → Prop} {w w' : World} {base f : Nat} {q st : Int} {mo : Option Nat} {xs : List (List UInt8 × Fl)} {us : List Ux} (h : Dsk P w' base f q st mo xs us) (hb : base ≤ w.heap.size) (hs : w.heap.size ≤ w'.heap.size) (hp : ∀ i, P i → base ≤ i ∧ i < w.heap.size) : Dsk (ext P w w') w' base f q st mo xs us :=
  h.more (fun _ => ext_le) (ext_bd hb hs hp)
/-- nothing has happened -/
theorem Dsk.same {P : Nat → Prop} {w : World} {base f : Nat} {q st : Int} {mo : Option Nat} {xs : List (List UInt8 × Fl)} {us : List Ux} (h : Dsk P w base f q st mo xs us) : Dsk (ext P w w) w base f q st mo xs us ∧ Chg P w w := ⟨h.ext_ h.bs (Nat.le_refl _) h.pb, Chg.refl _ _⟩
theorem Dsk.same2 {P S : Nat → Prop} {w w' : World} {base f : Nat} {q st st' : Int} {mo mo' : Option Nat} {xs xs' : List (List UInt8 × Fl)} {us us' : List Ux} (h : Dsk P w base f q st mo xs us) (h' : Dsk P w' base f q st' mo' xs' us') (hc : Chg S w w') (hs : ∀ i, S i → P i) : Dsk (ext P w w') w' base f q st' mo' xs' us' ∧ Chg P w w' := ⟨h'.ext_ h.bs hc.size h.pb, hc.mono (fun i _ e => hs i e)⟩
set_option maxHeartbeats 4000000 in
set_option maxRecDepth 1000000 in
theorem Size_any {P : Nat → Prop} (base f : Nat) (q st : Int) (mo : Option Nat) (xs : List (List UInt8 × Fl)) (us : List Ux) (n : List UInt8) (w : World) (hll : n.length ≤ 1000000000) (d : Dsk P w base f q st mo xs us) :
    Calls Try.prog 45 #[.pointer (some ⟨f, 0, none⟩), .string ⟨n.toArray⟩] w fun e w' => e = .returned (.tuple #[.int .i64 (if nmE n xs = 0 then (match lookN n xs with | some X => ((X.l.length : Nat) : Int) | none => 0) else 0), .int .i64 (nmE n xs)]) ∧ w' = w := by
  have NM := mkHid (named_any base f q st mo xs us n w hll d)
  rcases nm_cases n xs with ⟨e1, e2, e3⟩ | ⟨e1, e2, e3, e4⟩ | ⟨X, e1, e2, e3, e4⟩
  · rw [e1, e2] at NM
    rw [e1, if_neg (by decide)]
    clear d hll
    go_enter Try.func45, Try.ntmps45
    go_wp2_with fail
    refine NM.out.mono ?_
    rintro e wx ⟨rfl, hwx⟩; have hwx2 := hwx.symm; subst hwx2; clear hwx
    go_wp2_with fail
    go_ret2
    exact ⟨rfl, rfl⟩
  · rw [e1, e2] at NM
    rw [e1, if_neg (by decide)]
    clear d hll
    go_enter Try.func45, Try.ntmps45
    go_wp2_with fail
    refine NM.out.mono ?_
    rintro e wx ⟨rfl, hwx⟩; have hwx2 := hwx.symm; subst hwx2; clear hwx
    go_wp2_with fail
    go_ret2
    exact ⟨rfl, rfl⟩
  · rw [e1, e2] at NM
    rw [e1, if_pos rfl, e4]
    obtain ⟨okX, _, _⟩ := d.okX e4
    obtain ⟨c0, c1, cf⟩ := okX.c
    obtain ⟨PX, CX, hPX⟩ := okX.form
    rw [hPX] at c0
    clear d okX hll
    go_enter Try.func45, Try.ntmps45
    go_wp2_with fail
    refine NM.out.mono ?_
    rintro e wx ⟨rfl, hwx⟩; have hwx2 := hwx.symm; subst hwx2; clear hwx
    go_wp2_with fail
    go_ret2
    exact ⟨rfl, rfl⟩
set_option maxHeartbeats 4000000 in
set_option maxRecDepth 1000000 in
theorem Fast_any {P : Nat → Prop} (base f : Nat) (q st : Int) (mo : Option Nat) (xs : List (List UInt8 × Fl)) (us : List Ux) (n : List UInt8) (w : World) (hll : n.length ≤ 1000000000) (d : Dsk P w base f q st mo xs us) :
    Calls Try.prog 46 #[.pointer (some ⟨f, 0, none⟩), .string ⟨n.toArray⟩] w fun e w' => e = .returned (.tuple #[.int .i64 (if nmE n xs = 0 then (match lookN n xs with | some X => ((X.k : Nat) : Int) | none => 0) else 0), .int .i64 (nmE n xs)]) ∧ w' = w := by
  have NM := mkHid (named_any base f q st mo xs us n w hll d)
  rcases nm_cases n xs with ⟨e1, e2, e3⟩ | ⟨e1, e2, e3, e4⟩ | ⟨X, e1, e2, e3, e4⟩
  · rw [e1, e2] at NM
    rw [e1, if_neg (by decide)]
    clear d hll
    go_enter Try.func46, Try.ntmps46
    go_wp2_with fail
    refine NM.out.mono ?_
    rintro e wx ⟨rfl, hwx⟩; have hwx2 := hwx.symm; subst hwx2; clear hwx
    go_wp2_with fail
    go_ret2
    exact ⟨rfl, rfl⟩
  · rw [e1, e2] at NM
    rw [e1, if_neg (by decide)]
    clear d hll
    go_enter Try.func46, Try.ntmps46
    go_wp2_with fail
    refine NM.out.mono ?_
    rintro e wx ⟨rfl, hwx⟩; have hwx2 := hwx.symm; subst hwx2; clear hwx
    go_wp2_with fail
    go_ret2
    exact ⟨rfl, rfl⟩
  · rw [e1, e2] at NM
    rw [e1, if_pos rfl, e4]
    obtain ⟨okX, _, _⟩ := d.okX e4
    obtain ⟨c0, c1, cf⟩ := okX.c
    clear d okX hll
    go_enter Try.func46, Try.ntmps46
    go_wp2_with fail
    refine NM.out.mono ?_
    rintro e wx ⟨rfl, hwx⟩; have hwx2 := hwx.symm; subst hwx2; clear hwx
    go_wp2_with fail
    go_ret2
    exact ⟨rfl, rfl⟩
set_option maxHeartbeats 4000000 in
set_option maxRecDepth 1000000 in
theorem Read_any {P : Nat → Prop} (base f : Nat) (q st : Int) (mo : Option Nat) (xs : List (List UInt8 × Fl)) (us : List Ux) (n : List UInt8) (w : World) (hll : n.length ≤ 1000000000) (d : Dsk P w base f q st mo xs us) :
    Calls Try.prog 43 #[.pointer (some ⟨f, 0, none⟩), .string ⟨n.toArray⟩] w fun e w' => ∃ v', e = .returned (.tuple #[v', .int .i64 (nmE n xs)]) ∧ ownsB w' w.heap.size v' (match lookN n xs with | some X => if nmE n xs = 0 then X.l else [] | none => []) ∧ w.grownBy w' none := by
  have NM := mkHid (named_any base f q st mo xs us n w hll d)
  rcases nm_cases n xs with ⟨e1, e2, e3⟩ | ⟨e1, e2, e3, e4⟩ | ⟨X, e1, e2, e3, e4⟩
  · rw [e1, e2] at NM
    have hz : (match lookN n xs with | some X => if nmE n xs = 0 then X.l else [] | none => ([] : List UInt8)) = [] := by rw [e1]; cases lookN n xs <;> rfl
    rw [hz, e1]
    clear d hll hz
    go_enter Try.func43, Try.ntmps43
    go_wp2_with fail
    refine NM.out.mono ?_
    rintro e wx ⟨rfl, hwx⟩; have hwx2 := hwx.symm; subst hwx2; clear hwx
    go_wp2_with fail
    go_ret2
    exact ⟨_, rfl, ownsB_nil _ _, ⟨rfl, rfl, rfl, Nat.le_refl _, fun _ _ _ => rfl⟩⟩
  · rw [e1, e2] at NM
    have hz : (match lookN n xs with | some X => if nmE n xs = 0 then X.l else [] | none => ([] : List UInt8)) = [] := by rw [e1]; cases lookN n xs <;> rfl
    rw [hz, e1]
    clear d hll hz
    go_enter Try.func43, Try.ntmps43
    go_wp2_with fail
    refine NM.out.mono ?_
    rintro e wx ⟨rfl, hwx⟩; have hwx2 := hwx.symm; subst hwx2; clear hwx
    go_wp2_with fail
    go_ret2
    exact ⟨_, rfl, ownsB_nil _ _, ⟨rfl, rfl, rfl, Nat.le_refl _, fun _ _ _ => rfl⟩⟩
  · rw [e1, e2] at NM
    rw [e4]
    show Calls _ _ _ _ fun e w' => ∃ v', e = .returned (.tuple #[v', .int .i64 (nmE n xs)]) ∧ ownsB w' w.heap.size v' (if nmE n xs = 0 then X.l else []) ∧ w.grownBy w' none
    rw [e1, if_pos rfl]
    obtain ⟨okX, _, _⟩ := d.okX e4
    have CL : Hid (Calls Try.prog 61 #[X.v] w fun e w' => ∃ v', e = .returned v' ∧ ownsB w' w.heap.size v' X.l ∧ w.grownBy w' none) := Clone_any base X.v X.l w okX.row okX.ll
    obtain ⟨c0, c1, cf⟩ := okX.c
    obtain ⟨PX, CX, hP⟩ := okX.form
    rw [hP] at c0 CL
    clear d okX hP hll
    go_enter Try.func43, Try.ntmps43
    go_wp2_with fail
    refine NM.out.mono ?_
    rintro e wx ⟨rfl, hwx⟩; have hwx2 := hwx.symm; subst hwx2; clear hwx
    go_wp2_with fail
    refine CL.out.mono ?_
    rintro e w2 ⟨v', rfl, ho, hg⟩
    go_wp2_with fail
    go_ret2
    exact ⟨v', rfl, ho, hg⟩
def snPE (n : List UInt8) (xs : List (List UInt8 × (List UInt8 × Nat))) (st : Int) : Int := if nmE n xs ≠ 0 then nmE n xs else if rfB st = true then 44 else 0
def snPX (n : List UInt8) (xs : List (List UInt8 × (List UInt8 × Nat))) (st : Int) : List (List UInt8 × (List UInt8 × Nat)) := if snPE n xs st ≠ 0 then xs else match lookN n xs with | some x => putN n (x.1, x.1.length) xs | none => xs
/-- the count behind a change of a file -/
def stF (n : List UInt8) (xs : List (List UInt8 × (List UInt8 × Nat))) (st : Int) : Int := if nmE n xs ≠ 0 then st else rfS st
set_option maxHeartbeats 4000000 in
set_option maxRecDepth 1000000 in
theorem Sync_any {P : Nat → Prop} (base f : Nat) (q st : Int) (mo : Option Nat) (xs : List (List UInt8 × Fl)) (us : List Ux) (n : List UInt8) (w : World) (hll : n.length ≤ 1000000000) (hr : -9223372036854775808 ≤ st ∧ st ≤ 9223372036854775807) (so : SrtN xs) (d : Dsk P w base f q st mo xs us) :
    Calls Try.prog 23 #[.pointer (some ⟨f, 0, none⟩), .string ⟨n.toArray⟩] w fun e w' => e = .returned (.int .i64 (snPE n (absX xs) st)) ∧ ∃ xs', absX xs' = snPX n (absX xs) st ∧ Dsk (ext P w w') w' base f q (stF n (absX xs) st) mo xs' us ∧ Chg P w w' := by
  unfold snPX stF snPE
  rw [abs_nmE]
  have NM := mkHid (named_any base f q st mo xs us n w hll d)
  rcases nm_cases n xs with ⟨e1, e2, e3⟩ | ⟨e1, e2, e3, e4⟩ | ⟨X, e1, e2, e3, e4⟩
  · rw [e1, e2] at NM
    rw [e1]
    have D := mkHid d
    clear d hll so
    go_enter Try.func23, Try.ntmps23
    go_wp2_with fail
    refine NM.out.mono ?_
    rintro e wx ⟨rfl, hwx⟩; have hwx2 := hwx.symm; subst hwx2; clear hwx
    go_wp2_with fail
    go_ret
    exact ⟨rfl, xs, rfl, D.out.same⟩
  · rw [e1, e2] at NM
    rw [e1]
    have D := mkHid d
    clear d hll so
    go_enter Try.func23, Try.ntmps23
    go_wp2_with fail
    refine NM.out.mono ?_
    rintro e wx ⟨rfl, hwx⟩; have hwx2 := hwx.symm; subst hwx2; clear hwx
    go_wp2_with fail
    go_ret
    exact ⟨rfl, xs, rfl, D.out.same⟩
  · rw [e1, e2] at NM
    rw [e1]
    have D := mkHid d
    have RF := mkHid (refuses_any base f q st mo xs us w d hr)
    have SO := mkHid so
    have pf := d.pf
    clear d so hll hr
    cases hB : rfB st with
    | true =>
      rw [hB] at RF
      go_enter Try.func23, Try.ntmps23
      go_wp2_with fail
      refine NM.out.mono ?_
      rintro e wx ⟨rfl, hwx⟩; have hwx2 := hwx.symm; subst hwx2; clear hwx
      go_wp2_with fail
      refine RF.out.mono ?_
      rintro e w2 ⟨rfl, d2, c2, s2⟩
      go_wp2_with fail
      go_ret
      exact ⟨rfl, xs, rfl, D.out.same2 d2 c2 (fun i e => by subst e; exact pf)⟩
    | false =>
      rw [hB] at RF
      rw [abs_look, e4]
      go_enter Try.func23, Try.ntmps23
      go_wp2_with fail
      refine NM.out.mono ?_
      rintro e wx ⟨rfl, hwx⟩; have hwx2 := hwx.symm; subst hwx2; clear hwx
      go_wp2_with fail
      refine RF.out.mono ?_
      rintro e w2 ⟨rfl, d2, c2, s2⟩
      obtain ⟨okX, pX, _⟩ := d2.okX e4
      obtain ⟨c0, c1, cf⟩ := okX.c
      obtain ⟨PX, CX, hP⟩ := okX.form
      have E : Hid (Dsk (ext P w2 (w2.setCell ⟨X.b, 1, none⟩ (.int .i64 (X.l.length : Int)))) (w2.setCell ⟨X.b, 1, none⟩ (.int .i64 (X.l.length : Int))) base f q (rfS st) mo (putN n { X with k := X.l.length } xs) us ∧ Chg P w2 (w2.setCell ⟨X.b, 1, none⟩ (.int .i64 (X.l.length : Int)))) := by
        have hc := (Keep.set w2 X.b 1 (.int .i64 (X.l.length : Int))).mono (T := fun i => i = X.b ∨ X.v.ownBlock = some i) (fun i _ h => Or.inl h)
        refine d2.file2 SO.out e4 hc ⟨okX.ge, (block_setCell okX.at_ _).trans rfl, (Chg.of_cell w2 ⟨X.b, 1, none⟩ _).row okX.row (fun g hg e => ?_), Nat.le_refl _, okX.ll⟩ rfl (fun g hg => Or.inl hg)
        obtain ⟨cs, hk⟩ := own_kind okX.row _ hg
        have e : g = X.b := e
        rw [e, okX.at_] at hk; simp at hk
      have CC : Hid (Chg P w w2) := c2.mono (fun i _ e => by subst e; exact pf)
      have DD := mkHid d2
      rw [hP] at c0
      clear okX hP d2 c2
      go_wp2_with fail
      go_ret
      refine ⟨rfl, _, abs_put n { X with k := X.l.length } xs, ?_, CC.out.trans E.out.2⟩
      have e := E.out.1
      unfold ext at e ⊢
      rw [s2] at e
      exact e
set_option maxHeartbeats 4000000 in
set_option maxRecDepth 1000000 in
theorem SyncNames_any {P : Nat → Prop} (base f : Nat) (q st : Int) (mo : Option Nat) (xs : List (List UInt8 × Fl)) (us : List Ux) (w : World) (hr : -9223372036854775808 ≤ st ∧ st ≤ 9223372036854775807) (d : Dsk P w base f q st mo xs us) :
    Calls Try.prog 15 #[.pointer (some ⟨f, 0, none⟩)] w fun e w' => e = .returned (.int .i64 (if rfB st = true then 44 else 0)) ∧ Dsk (ext P w w') w' base f q (rfS st) mo xs (if rfB st = true then us else []) ∧ Chg P w w' := by
  have D := mkHid d
  have RF := mkHid (refuses_any base f q st mo xs us w d hr)
  have pf := d.pf
  clear d hr
  cases hB : rfB st with
  | true =>
    rw [hB] at RF
    go_enter Try.func15, Try.ntmps15
    go_wp2_with fail
    refine RF.out.mono ?_
    rintro e w2 ⟨rfl, d2, c2, s2⟩
    go_wp2_with fail
    go_ret
    exact ⟨rfl, D.out.same2 d2 c2 (fun i e => by subst e; exact pf)⟩
  | false =>
    rw [hB] at RF
    go_enter Try.func15, Try.ntmps15
    go_wp2_with fail
    refine RF.out.mono ?_
    rintro e w2 ⟨rfl, d2, c2, s2⟩
    obtain ⟨ov, h1, h2, h3⟩ := d2.fs
    obtain ⟨c0, c1, c2', c3, cf⟩ := h1.c
    have hc5 : Chg (fun i => i = f) w2 (w2.setCell ⟨f, 2, none⟩ (.slice none 0 0)) := Keep.set w2 f 2 _
    have E := mkHid (d2.own (us' := []) hc5 ((block_setCell h1 _).trans rfl) (World.ownsRow_nil _ _ _ _) (fun g hg => by cases hg) (List.nil_sublist _))
    have CC := mkHid (c2.trans hc5)
    clear h1 h2 h3 d2 c2
    go_wp2_with fail
    go_ret
    exact ⟨rfl, D.out.same2 E.out CC.out (fun i e => by subst e; exact pf)⟩
end Go.Proofs.Ytdiehlioemmakaa

