/-
  Walks: what is on the way, told.
-/
import Derived.Test.YtbdlamlplfogjaaNtL
import Derived.Test.YtbdlamlplfogjaaNtI
namespace Go.Proofs.Ytbdlamlplfogjaa
open Go.RowKit Go.Maps Go.Joins
variable {P : Nat → Prop} {w w' : World} {n c : Nat} {S : St} {L : Ly}

theorem rwA : Rw 44 97 (.agg #[.int .i64 0, .int .i64 0, .bool false, .int .u64 0, .int .u64 0, .slice none 0 0]) 6 64 := ⟨by kernel_rfl, by kernel_rfl, rfl, by decide, by decide⟩
theorem grown_new {a b d : World} {row : Option Nat} (h : a.grownBy b none) (k : b.grownBy d row) (hr : ∀ g, row = some g → a.heap.size ≤ g) : a.grownBy d none :=
  ⟨k.os.trans h.os, k.tape.trans h.tape, k.output.trans h.output, Nat.le_trans h.size k.size, fun i hi hn => (k.block i (Nat.lt_of_lt_of_le hi h.size) (fun e => by have := hr i e.symm; omega)).trans (h.block i hi hn)⟩
/-- a row of new memory -/
def newRow (w : World) (e : TypeId) (sz k : Nat) (v : Value) (wr : World) : Prop := w.grownBy wr none ∧ (∃ xs, shr wr e sz v k xs) ∧ ∀ g, v.ownBlock = some g → w.heap.size ≤ g
set_option maxHeartbeats 2000000 in
set_option maxRecDepth 100000 in
theorem Flights_any (h : NetL P w n c S L) (hl : S.fl.length ≤ 100000) : Calls Try.prog 13 #[.pointer (some ⟨n, 0, none⟩)] w fun e w' => (∃ p cap, e = .returned (.slice p S.fl.length cap)) ∧ w.grownBy w' none := by
  obtain ⟨c0, c1, c2, _⟩ := h.cs
  obtain ⟨pf, cf, hfv, hfc, _⟩ := h.fly.form
  rw [hfv] at c2
  have hn := lt_of_heap h.net
  have H := mkHid h
  have HV := mkHid hfv
  obtain ⟨N, hN⟩ : ∃ N, N = S.fl.length := ⟨_, rfl⟩
  have HN := mkHid hN
  rw [← hN] at c2 hl ⊢
  clear h hfv hN hfc
  go_enter Try.func13, Try.ntmps13
  go_wp2_with fail
  go_loopw [3, 12] (fun s3 s12 wr => ∃ k : Nat, s12 = .int .i64 (k : Int) ∧ k ≤ N ∧ Hid (newRow w 97 6 k s3 wr)) (fun _ s12 _ => N - (intOf s12).toNat)
  case atStart => exact ⟨0, rfl, Nat.zero_le _, mkHid ⟨grown_refl w, ⟨[], shr_nil _ _ _⟩, fun g hg => by simp [Value.ownBlock] at hg⟩⟩
  case round =>
    rename_i s3 s12
    obtain ⟨k, rfl, hk, NR⟩ := hrel
    by_cases hlt : k < N
    · have hlti : (k : Int) < (N : Int) := by omega
      obtain ⟨p, hp⟩ : ∃ p, S.fl[k]? = some p := ⟨_, List.getElem?_eq_getElem (show k < S.fl.length by rw [← show N = S.fl.length from HN.out]; exact hlt)⟩
      obtain ⟨gr, ⟨xs, sx⟩, nx⟩ := NR.out
      obtain ⟨g, off, cap, hv, hg, _, q0, q1, q2, q3, q4, q5⟩ := (H.out.kept gr).fly.pk hp
      have hv2 : pf = some ⟨g, off, none⟩ := by have := HV.out; rw [hv] at this; cases this; rfl
      subst hv2
      obtain ⟨ps, cs, rfl, _⟩ := sx.form
      have GO : Hid (∀ w, Calls Try.prog 46 #[.agg #[.int .i64 p.f, .int .i64 p.t, .bool p.ack, .int .u64 p.s, .int .u64 p.e, .string p.x]] w fun e w' => e = .returned (.agg #[.int .i64 ((if p.ack then p.t else p.f : Nat) : Int), .int .i64 ((if p.ack then p.f else p.t : Nat) : Int)]) ∧ w.grownBy w' none) := fun w => by
        have := goes_any p w
        unfold pkV ky at this
        exact this
      obtain ⟨A, hA⟩ : ∃ A : Nat, A = if p.ack then p.t else p.f := ⟨_, rfl⟩
      obtain ⟨D, hD⟩ : ∃ D : Nat, D = if p.ack then p.f else p.t := ⟨_, rfl⟩
      rw [← hA, ← hD] at GO
      clear hA hD hv hg
      have SX := mkHid sx
      have GR := mkHid gr
      have NX := mkHid nx
      have B0 := mkHid (heap_alloc_new wr (.cells #[.int .i64 p.f, .int .i64 p.t, .bool p.ack, .int .u64 p.s, .int .u64 p.e, .string p.x] 79))
      clear sx gr nx
      go_wp2_with fail
      refine (GO.out _).mono ?_
      rintro e w2 ⟨rfl, g2⟩
      have X2 := box_keep B0.out g2 (by simp)
      obtain ⟨a0, a1, a2, a3, a4, a5, _⟩ := cells6 X2
      have lt2 := lt_of_heap X2
      have gw2 : wr.grownBy (w2.alloc (.cells #[.int .i64 A, .int .i64 D] 76)) none := grown_al (grown_none_trans (World.grownBy_alloc wr _ none) g2) _
      obtain ⟨cc, w3, cv, g3, sz3, _⟩ := conv_str (w2.alloc (.cells #[.int .i64 A, .int .i64 D] 76)) p.x
      have gw3 := grown_none_trans gw2 g3
      have gw4 := grown_al gw3 (.cells #[.int .i64 A, .int .i64 D, .bool p.ack, .int .u64 p.s, .int .u64 p.e, .slice (some ⟨w2.heap.size + 1, 0, none⟩) p.x.data.toList.length cc] 97)
      have s4 := SX.out.kept (Chg.of_none gw4 (fun _ => False)) (fun _ _ e => e)
      have n4 := heap_alloc_new w3 (.cells #[.int .i64 A, .int .i64 D, .bool p.ack, .int .u64 p.s, .int .u64 p.e, .slice (some ⟨w2.heap.size + 1, 0, none⟩) p.x.data.toList.length cc] 97)
      obtain ⟨v5, w5, hr, s5, g5, o5⟩ := rwA.app (c := 1) s4 (m := 1) (news := [.int .i64 A, .int .i64 D, .bool p.ack, .int .u64 p.s, .int .u64 p.e, .slice (some ⟨w2.heap.size + 1, 0, none⟩) p.x.data.toList.length cc]) rfl (one_of n4) (by intro u hu; simp only [List.mem_cons, List.mem_nil_iff, or_false] at hu; rcases hu with rfl | rfl | rfl | rfl | rfl | rfl <;> rfl) (by omega) (by omega)
      have NN : Hid (newRow w 97 6 (k + 1) v5 w5) := ⟨grown_new (grown_none_trans GR.out gw4) g5 NX.out, ⟨_, s5⟩, fun g hg => by
        rcases o5 with e | ⟨g', e, h1, _⟩
        · exact NX.out g (by rw [← e]; exact hg)
        · rw [hg] at e; cases e
          exact Nat.le_trans (grown_none_trans GR.out gw4).size h1⟩
      rw [World.size_alloc] at cv
      clear s4 n4 s5 g5 o5 gw2 gw3 gw4 g3 g2 X2 sz3
      go_wp2_with (first | (at_builtin; refine wp_app 44 rfl (.tmp 18) (.tmp 33) rfl rfl rfl hr ?_) | fail)
      go_roundw
      case rel => exact ⟨k + 1, by go_num, hlt, NN⟩
      case measure => simp [intOf]; omega
    · obtain rfl : k = N := by omega
      obtain ⟨gr, ⟨xs, sx⟩, _⟩ := NR.out
      obtain ⟨ps, cs, rfl, _⟩ := sx.form
      have GR := mkHid gr
      clear gr sx
      go_wp2_with fail
      go_ret
      exact ⟨⟨_, _, rfl⟩, GR.out⟩
end Go.Proofs.Ytbdlamlplfogjaa
