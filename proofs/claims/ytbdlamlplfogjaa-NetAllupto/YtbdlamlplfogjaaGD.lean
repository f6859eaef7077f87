/-
  Walks: the document's net: a packet lost.
-/
import Derived.Test.YtbdlamlplfogjaaNwIx
import Derived.Deep.RegionHeld3
namespace Go.Proofs.Ytbdlamlplfogjaa
open Go.RowKit Go.Maps Go.Joins
variable {Q : Nat → Prop} {w w' : World} {d : Nat} {S : St} {T : Nat → Nat → List ByteArray} {R : Lr}

theorem RU.grow {W : World} (h : RU Q w d S T w') (hb : ∀ i, Q i → i < w.heap.size) (g : w'.grownBy W none) : RU Q w d S T W := by
  obtain ⟨R, h1, h2⟩ := h
  refine ⟨R, h1.away (Chg.of_none g (fun _ => False)) (fun _ _ e => e) (fun x hx => ?_) (ext_pb hb (Nat.le_trans h2.size g.size)), h2.trans (Chg.of_none g _)⟩
  rcases hx with e | e
  · exact Or.inl e
  · exact Or.inr ⟨e.1, Nat.lt_of_lt_of_le e.2 g.size⟩
set_option maxHeartbeats 2000000 in
set_option maxRecDepth 100000 in
theorem rLose_any (h : RL Q w d S T R) (k : Int) (hl : S.fl.length ≤ 100000) : Calls Try.prog 35 #[.pointer (some ⟨d, 0, none⟩), .int .i64 k] w (REQ Q w d (loseS S k) T (flE S k)) := by
  have TK : Hid (Calls Try.prog 57 #[.pointer (some ⟨d, 0, none⟩), .int .i64 k] w fun e w' => ∃ f1 f2 f3 f4 f5 pb lb cb er, e = .returned (.tuple #[.agg #[.int .i64 f1, .int .i64 f2, .bool f3, .int .u64 f4, .int .u64 f5, .slice pb lb cb], .int .i64 er]) ∧ er = flE S k ∧ ∀ o, RU Q w d (loseS S k) T (w'.alloc o)) := by
    refine (rTake_any h k hl).mono ?_
    rintro e w5 (⟨h1, rfl, U⟩ | ⟨i, p, pb, cb, rfl, hp, rfl, _, U⟩)
    · have e0 : fliesS S k = false := by unfold fliesS; rw [decide_eq_false h1]
      refine ⟨_, _, _, _, _, _, _, _, _, rfl, by unfold flE; rw [e0]; rfl, fun o => ?_⟩
      have e1 : loseS S k = S := by unfold loseS; rw [e0]; rfl
      rw [e1]; exact U.grow h.pb (grown_al (grown_refl _) _)
    · have hi := (List.getElem?_eq_some_iff.1 hp).1
      have e0 : fliesS S (i : Int) = true := by unfold fliesS; rw [decide_eq_true (by omega)]
      refine ⟨_, _, _, _, _, _, _, _, _, rfl, by unfold flE; rw [e0]; rfl, fun o => ?_⟩
      have e1 : loseS S (i : Int) = { S with fl := S.fl.eraseIdx i } := by unfold loseS; rw [e0, if_pos rfl, Int.toNat_natCast]
      rw [e1]; exact U.grow h.pb (grown_al (grown_refl _) _)
  clear h
  go_enter Try.func35, Try.ntmps35
  go_wp2_with fail
  refine TK.out.mono ?_
  rintro e w5 ⟨f1, f2, f3, f4, f5, pb, lb, cb, er, rfl, her, u5⟩
  have U5 := mkHid u5
  have HE := mkHid her
  clear u5 her TK
  go_wp2_with fail
  go_ret
  exact ⟨by rw [HE.out]; rfl, U5.out _⟩
end Go.Proofs.Ytbdlamlplfogjaa
namespace Go.Proofs.Ytbdlamlplfogjaa
open Go.RowKit Go.Maps Go.Joins
variable {Q : Nat → Prop} {w w' : World} {d : Nat} {S : St} {T : Nat → Nat → List ByteArray} {R : Lr}

theorem rwMe : Rw 94 51 (.agg #[.int .i64 0, .slice none 0 0]) 2 32 := ⟨by kernel_rfl, by kernel_rfl, rfl, by decide, by decide⟩
theorem RL.recv_lay (h : RL Q w d S T R) {i : Nat} (hi : i < S.N) {m : Nat × ByteArray} {rest : List (Nat × ByteArray)} (hm : S.ms i = m :: rest) (hl : rest.length ≤ 10000000) {g o c : Nat} (hv : R.mv i = .slice (some ⟨g, o, none⟩) (rest.length + 1) c) {W : World} (gW : w.grownBy W none) {B : Nat} (hB : W.heap[B]? = some (.cells #[] 51 (0, 0))) (hBn : w.heap.size ≤ B) :
    ∃ p4 c4 W4, (∀ ty, (Builtin.append_ #[94, 94] ty #[.slice (some ⟨B, 0, none⟩) 0 0, (if c = 1 then (.slice (some ⟨g, o, none⟩) rest.length 0 : Value) else .slice (some ⟨g, o + 2, none⟩) rest.length (c - 1))]).run Try.prog W = .ok (.slice p4 rest.length c4) W4) ∧ w.grownBy W4 none ∧ (∀ b, b ≠ B → b < W.heap.size → W4.heap[b]? = W.heap[b]?) ∧ RU Q w d { S with ms := upd S.ms i rest } T (W4.setCell ⟨R.mg, i, none⟩ (.slice p4 rest.length c4)) := by
  obtain ⟨xs, s1, s2, s3, s4⟩ := h.mr i hi
  have hxl := s1.1
  have hlen : (S.ms i).length = rest.length + 1 := by rw [hm]; rfl
  rw [hv] at s1
  rw [hlen] at s1 hxl
  obtain ⟨g', o', he, hcs⟩ := s1.cell
  have he1 : g = g' := by injection he
  have he2 : o = o' := by injection he
  subst he1; subst he2
  have src4 : ∃ P4 C4, (if c = 1 then (.slice (some ⟨g, o, none⟩) rest.length 0 : Value) else .slice (some ⟨g, o + 2, none⟩) rest.length (c - 1)) = .slice P4 rest.length C4 ∧ srcS W 2 P4 rest.length C4 (xs.drop 2) := by
    by_cases hc : c = 1
    · have hr : rest.length = 0 := by
        rcases s1.2 with ⟨e, _⟩ | ⟨_, _, _, _, e, _, hnc, _⟩
        · cases e
        · cases e; omega
      rw [if_pos hc]
      exact ⟨_, _, rfl, Or.inr ⟨_, rfl, by rw [List.length_drop]; omega, fun j u hj => by rw [List.drop_eq_nil_of_le (by omega)] at hj; simp at hj, fun u hu => s3 u (List.mem_of_mem_drop hu)⟩⟩
    · rw [if_neg hc]
      refine ⟨_, _, rfl, Or.inr ⟨_, rfl, by rw [List.length_drop]; omega, fun j u hj => ?_, fun u hu => s3 u (List.mem_of_mem_drop hu)⟩⟩
      rw [List.getElem?_drop] at hj
      rw [add_plain, Nat.add_assoc]; exact gW.cell (hcs _ u hj) (by simp)
  obtain ⟨P4, C4, e4, sr4⟩ := src4
  rw [e4]
  obtain ⟨v4, W4, r4, ow4, g4, o4⟩ := rwMe.more (row_none hB) sr4 (by omega)
  rw [Nat.zero_add, List.nil_append] at ow4
  have gA : w.grownBy W4 none := grown_new gW g4 (fun x hx => by simp [Value.ownBlock] at hx; rw [← hx]; exact hBn)
  obtain ⟨t4, l4⟩ := ownsRow_shr ow4
  obtain ⟨p4, c4, e4', _⟩ := t4.form
  subst e4'
  refine ⟨p4, c4, W4, r4, gA, fun b hb1 hb2 => g4.block b hb2 (fun e => by simp [Value.ownBlock] at e; exact hb1 e), ?_⟩
  have H9 := h.away (Q' := ext Q w W4) (Chg.of_none gA (fun _ => False)) (fun _ _ e => e) (fun _ => ext_le) (ext_pb h.pb gA.size)
  have hrow : rwR W4 (ext Q w W4) 51 2 (.slice p4 rest.length c4) rest.length (msR W4 (ext Q w W4) rest) := by
    refine ⟨_, t4, fun x hx => ext_new ?_ (l4 x hx), fun u hu => s3 u (List.mem_of_mem_drop hu), fun k hk m' hm' => ?_⟩
    · rcases o4 x hx with e | e
      · simp [Value.ownBlock] at e; rw [← e]; exact hBn
      · exact Nat.le_trans gW.size e
    · rw [List.drop_drop, show 2 + k * 2 = (k + 1) * 2 by omega]
      obtain ⟨bv, e, hb⟩ := s4 (k + 1) (by omega) m' (by rw [hm]; exact hm')
      exact ⟨bv, e, hb.kept h.pb gA (fun _ => ext_le)⟩
  have HF := H9.setM hi hrow
  refine ⟨_, HF.away (Chg.refl (fun _ => False) _) (fun _ _ e => e) (fun x hx => ?_) (fun x hx => ?_), ?_⟩
  · rcases hx with e | e
    · exact Or.inl e
    · exact Or.inr ⟨e.1, by rw [World.size_setCell]; exact e.2⟩
  · rcases hx with e | e
    · rw [World.size_setCell]; exact Nat.lt_of_lt_of_le (h.pb x e) gA.size
    · exact e.2
  · exact (Chg.of_none gA _).set _ _ ⟨h.qm, by rw [show kd w (Addr.block ⟨R.mg, i, none⟩) = _ from h.kb.2.2.2.1]; decide⟩
/-- what 'Recv' answers and leaves -/
def RrQ (Q : Nat → Prop) (w : World) (d : Nat) (S : St) (T : Nat → Nat → List ByteArray) (k : Int) (r : Ending) (w' : World) : Prop :=
  (isS S k = false ∧ r = .returned (.tuple #[msV 0 none 0 0, .bool false, .int .i64 60]) ∧ RU Q w d S T w') ∨
  (∃ i : Nat, k = (i : Int) ∧ isS S k = true ∧ S.ms i = [] ∧ r = .returned (.tuple #[msV 0 none 0 0, .bool false, .int .i64 0]) ∧ RU Q w d S T w') ∨
  ∃ (i : Nat) (m : Nat × ByteArray) (rest : List (Nat × ByteArray)) (pb : Option Addr) (cb : Nat), k = (i : Int) ∧ isS S k = true ∧ S.ms i = m :: rest ∧ r = .returned (.tuple #[msV m.1 pb m.2.data.toList.length cb, .bool true, .int .i64 0]) ∧ byV w' (ext Q w w') (.slice pb m.2.data.toList.length cb) m.2 ∧ RU Q w d { S with ms := upd S.ms i rest } T w'
set_option maxHeartbeats 4000000 in
set_option maxRecDepth 100000 in
theorem rRecv_no (h : RL Q w d S T R) (k : Int) (hs : isS S k = false) : Calls Try.prog 32 #[.pointer (some ⟨d, 0, none⟩), .int .i64 k] w (RrQ Q w d S T k) := by
  have IS : Hid (∀ W, w.grownBy W none → Calls Try.prog 44 #[.pointer (some ⟨d, 0, none⟩), .int .i64 k] W fun e w' => e = .returned (.bool false) ∧ w' = W) := fun W g => by have := rIs_any (h.kept g) k; rw [hs] at this; exact this
  have U : Hid (∀ o, RU Q w d S T (w.alloc o)) := fun o => h.up (grown_al (grown_refl _) _)
  have HS := mkHid hs
  clear h hs
  go_enter Try.func32, Try.ntmps32
  go_wp2_with fail
  refine (IS.out _ (grown_al (grown_refl _) _)).mono ?_
  rintro e w1 ⟨rfl, hwx⟩; have hwx2 := hwx.symm; subst hwx2; clear hwx
  go_wp2_with fail
  refine bodyPost_ret (v := .tuple #[.agg #[.int .i64 0, .slice none 0 0], .bool false, .int .i64 60]) (by unfold results; rw [Try.results32]; go_simp) rfl ?_
  exact Or.inl ⟨HS.out, rfl, U.out _⟩
set_option maxHeartbeats 4000000 in
set_option maxRecDepth 100000 in
theorem rRecv_none (h : RL Q w d S T R) {i : Nat} (hs : isS S (i : Int) = true) (hm : S.ms i = []) : Calls Try.prog 32 #[.pointer (some ⟨d, 0, none⟩), .int .i64 (i : Int)] w (RrQ Q w d S T (i : Int)) := by
  have IS : Hid (∀ W, w.grownBy W none → Calls Try.prog 44 #[.pointer (some ⟨d, 0, none⟩), .int .i64 (i : Int)] W fun e w' => e = .returned (.bool true) ∧ w' = W) := fun W g => by have := rIs_any (h.kept g) (i : Int); rw [hs] at this; exact this
  have U : Hid (∀ o, RU Q w d S T (w.alloc o)) := fun o => h.up (grown_al (grown_refl _) _)
  obtain ⟨i', hi', hi, _⟩ := isS_in hs
  obtain rfl : i = i' := by omega
  obtain ⟨c0, c1, c2, c3, _⟩ := h.cs
  obtain ⟨m0, _⟩ := h.mcell hi
  obtain ⟨pm, cm, he, _⟩ := (h.mr i hi).form
  rw [he, hm] at m0
  have hd := h.pb _ h.qd
  have hmg := h.pb _ h.qm
  have HS := mkHid hs
  have HM := mkHid hm
  have ii : (i : Int) < (S.N : Int) := by omega
  clear h hs hm he
  go_enter Try.func32, Try.ntmps32
  go_wp2_with fail
  refine (IS.out _ (grown_al (grown_refl _) _)).mono ?_
  rintro e w1 ⟨rfl, hwx⟩; have hwx2 := hwx.symm; subst hwx2; clear hwx
  go_wp2_with fail
  refine bodyPost_ret (v := .tuple #[.agg #[.int .i64 0, .slice none 0 0], .bool false, .int .i64 0]) (by unfold results; rw [Try.results32]; go_simp) rfl ?_
  exact Or.inr (Or.inl ⟨i, rfl, HS.out, HM.out, rfl, U.out _⟩)
end Go.Proofs.Ytbdlamlplfogjaa
