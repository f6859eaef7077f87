/-
 The document's Put, at a key that stands at any place.
-/
import Derived.Test.YtclcajnodoifjaaGreatDoorBxZSx
import Derived.Test.YtclcajnodoifjaaGreatDoorIAT
import Derived.Test.YtclcajnodoifjaaGreatDoorByCSx
import Derived.Test.YtclcajnodoifjaaGreatDoorByDSx
import Derived.Test.YtclcajnodoifjaaGreatDoorRows
import Derived.ProofKit
import Derived.OpenShut
import Derived.WideKeyArgs
import Derived.Deep.Slices
import Derived.Deep.Strs
import Derived.ChangeOld
import Derived.Lib.SmallJoins
namespace Go.Proofs.YtclcajnodoifjaaGreatDoor
open Go.RowKit Go.Shelf Go.Joins Go.Maps
set_option maxRecDepth 100000

set_option maxHeartbeats 3000000 in
set_option maxRecDepth 1000000 in
theorem docPut_ok_off (T : Nat → Prop) (k : List Va) (id : Int) (q : Option Addr) (cq dd : Nat) (D : List Em) (PD : Option Addr) (ND CD : Nat) (w : World) (hd : DocIn T w dd false D (.slice PD ND CD)) (zD : ND ≤ 100000) (hk : rowOff w q k) (fk : ∀ v ∈ k, fit v.n) (hE : keyE k = 0) (hT : ∀ b, w.heap.size ≤ b → T b) (ho : ¬ T dd) :
  Calls Tryz.prog 12 #[.pointer (some ⟨dd, 0, none⟩), .slice q k.length cq, .int .u64 id] w fun e w' => DuQ T w dd D k id e w' := by
 obtain ⟨l1, l2, l3⟩ := keyE_zero hE
 have hk9 := hk
 obtain ⟨g, go, rfl, hgs, hv⟩ : ∃ g go, q = some ⟨g, go, none⟩ ∧ g < w.heap.size ∧ ∀ j u, (fl vaE k)[j]? = some u → w.cell? ⟨g, go + j, none⟩ = some u := by
  rcases hk with h | h
  ·rw [h] at l1; cases l1
  ·exact h
 obtain ⟨hND, hNC, hP0, hPs⟩ := doc_row hd
 have nz : ((k.length : Int) == 0) = false := by rw [beq_eq_false_iff_ne]; omega
 have n4 : ¬ ((k.length : Int) > 4) := by omega
 have HV : Hid (∀ W, Below w.heap.size w W → rowOff W (some ⟨g, go, none⟩) k) := fun W hW => hk9.below hW
 have HVC : Hid (∀ W, Below w.heap.size w W → ∀ i v, k[i]? = some v → W.cell? ⟨g, go + i * 3, none⟩ = some (.int .i64 v.ty) ∧ W.cell? ⟨g, go + i * 3 + 1, none⟩ = some (.int .i64 v.n) ∧ W.cell? ⟨g, go + i * 3 + 2, none⟩ = some (.string v.s)) := fun W hW i v hi => by
  obtain ⟨g', o', e1, _, e2⟩ := (hk9.below hW).get hi
  cases e1
  exact e2
 have HVL : Hid (∀ W, Below w.heap.size w W → ∀ j u, (fl vaE k)[j]? = some u → W.cell? ⟨g, go + j, none⟩ = some u) := fun W hW j u hj => (hW.cell (p := ⟨g, go + j, none⟩) hgs).trans (hv j u hj)
 have CKS : Hid (∀ i v, k[i]? = some v → errs (k.drop i) = 0 → ∀ w, Calls Tryz.prog 34 #[.agg #[.int .i64 v.ty, .int .i64 v.n, .string v.s]] w fun e w' => e = .returned (.int .i64 0) ∧ Below w.heap.size w w') := fun i v hi he w => by
  have := refCheck_any v.ty v.n v.s w
  rw [drop_at hi] at he
  have hz : v.chk = 0 := by
   by_cases h : v.chk = 0
   ·exact h
   ·rw [errs_stop h] at he; exact absurd he h
  rw [show chk v.ty v.n v.s = 0 from hz] at this
  exact this
 have NXT : Hid (∀ i v, k[i]? = some v → errs (k.drop i) = 0 → errs (k.drop (i + 1)) = 0) := fun i v hi he => by
  rw [drop_at hi] at he
  by_cases h : v.chk = 0
  ·rwa [errs_pass h] at he
  ·rw [errs_stop h] at he; exact absurd he h
 have RW : Hid (∀ (i : Nat) (m : Em) W, D[i]? = some m → Below w.heap.size w W → Calls Tryz.prog 18 #[.slice (some ⟨m.g, 0, none⟩) m.e.key.length m.c, .slice (some ⟨g, go, none⟩) k.length cq] W fun e w' => e = .returned (.int .i64 (rowsV m.e.key k)) ∧ Below W.heap.size W w') := fun i m W hi hW => by
  have km := (hd.keys m (List.mem_of_getElem? hi)).keeps (Keeps.of_below hW)
  exact refRows_off _ _ m.c cq m.e.key k W (by have := km.few; omega) (Or.inr ⟨_, rfl, km.vals⟩) (hk9.below hW) km.fits fk
 have EN : Hid (∀ (i : Nat) W, i < ND → Below w.heap.size w W → ∃ m gx ox, D[i]? = some m ∧ PD = some ⟨gx, ox, none⟩ ∧ W.cell? ⟨gx, ox + i * 2, none⟩ = some (.slice (some ⟨m.g, 0, none⟩) m.e.key.length m.c) ∧ W.cell? ⟨gx, ox + i * 2 + 1, none⟩ = some (.int .u64 m.e.id)) := fun i W hi hW => by
  obtain ⟨m, hm⟩ : ∃ m, D[i]? = some m := ⟨_, List.getElem?_eq_getElem (by omega)⟩
  cases hP : PD with
  | none => have := (hP0 hP).1; omega
  | some ad =>
   obtain ⟨gx, ox, rfl, _, _⟩ := hPs ad hP
   rw [hP] at hd
   obtain ⟨a1, a2, _, _⟩ := (hd.below hW).entry hm
   exact ⟨m, gx, ox, hm, rfl, a1, a2⟩
 have TB : Hid (∀ W, Below w.heap.size w W → W.cell? ⟨dd, 0, none⟩ = some (.bool false) ∧ W.cell? ⟨dd, 1, none⟩ = some (.slice PD ND CD)) := fun W hW => ⟨(cell_of_block (hd.below hW).box 0).trans rfl, (cell_of_block (hd.below hW).box 1).trans rfl⟩
 have HD := mkHid hd
 have HT := mkHid hT
 have HO := mkHid ho
 have HE0 : Hid (errs (k.drop 0) = 0) := l3
 have HND := mkHid hND
 have HL : Hid (0 < k.length ∧ k.length ≤ 4) := ⟨l1, l2⟩
 have HF := mkHid fk
 have HP := mkHid (And.intro hP0 hPs)
 obtain ⟨N, hN⟩ : ∃ N, N = k.length := ⟨_, rfl⟩
 have HN := mkHid hN
 rw [← hN] at nz n4 RW ⊢
 have iNC : (ND : Int) ≤ (CD : Int) := by omega
 clear hd hk hk9 hgs fk hE hT ho l1 l2 l3 hv hND hP0 hPs hN hNC
 go_enter Tryz.func12, Tryz.ntmps12
 go_wp2_with fail
 go_loopw [7, 8] (fun s7 _ wr => ∃ i : Nat, s7 = .int .i64 i ∧ i ≤ N ∧ Hid (errs (k.drop i) = 0) ∧ Below w.heap.size w wr) (fun s7 _ _ => N - (intOf s7).toNat)
 case atStart => exact ⟨0, rfl, Nat.zero_le _, HE0, Below.refl _ _⟩
 case round =>
  obtain ⟨i, rfl, hi, hd, hb⟩ := hrel
  by_cases hlt : i < N
  ·obtain ⟨v, hvk⟩ : ∃ v, k[i]? = some v := ⟨_, List.getElem?_eq_getElem (by have := HN.out; omega)⟩
   obtain ⟨c1, c2, c3⟩ := HVC.out _ hb i v hvk
   have CK := mkHid (CKS.out i v hvk hd.out)
   have hd2 := mkHid (NXT.out i v hvk hd.out)
   have i1 : (i : Int) < (N : Int) := by omega
   clear hvk hd
   go_wp2_with (go_at_call 34; refine (CK.out _).mono ?_; rintro e w1 ⟨rfl, hb2⟩)
   go_roundw
   case rel => exact ⟨i + 1, by go_num, hlt, hd2, hb.trans (hb2.mono hb.size)⟩
   case measure => simp [intOf]; omega
  ·obtain rfl : N = i := by omega
   clear hd
   rename World => wo
   have hbo := hb
   clear hb HE0 CKS NXT nz n4
   go_wp2_with fail
   go_loopw [9, 10] (fun s9 _ wr => ∃ i : Nat, s9 = .int .i64 i ∧ i ≤ ND ∧ Hid (dupB k id (D.take i) = false) ∧ Below w.heap.size w wr) (fun s9 _ _ => ND - (intOf s9).toNat)
   case atStart => exact ⟨0, rfl, Nat.zero_le _, rfl, hbo⟩
   case round =>
    obtain ⟨j, rfl, hj, hd, hb⟩ := hrel
    clear hbo
    by_cases hlt : j < ND
    ·obtain ⟨m, gx, ox, hm, rfl, c0, c1⟩ := EN.out j wr hlt hb
     obtain ⟨t0, t1⟩ := TB.out wr hb
     have RWm := mkHid (RW.out j m wr hm hb)
     have KP : Hid (∀ w2, Below wr.heap.size wr w2 → Below w.heap.size w w2 ∧ w2.cell? ⟨gx, ox + j * 2 + 1, none⟩ = some (.int .u64 m.e.id) ∧ w2.cell? ⟨dd, 0, none⟩ = some (.bool false) ∧ w2.cell? ⟨dd, 1, none⟩ = some (.slice (some ⟨gx, ox, none⟩) ND CD)) := fun w2 h2 => by
      have hb2 := hb.trans (h2.mono hb.size)
      obtain ⟨m', gx', ox', hm', e1, _, d1⟩ := EN.out j w2 hlt hb2
      cases e1
      rw [hm] at hm'
      cases hm'
      exact ⟨hb2, d1, (TB.out w2 hb2).1, (TB.out w2 hb2).2⟩
     have i1 : (j : Int) < (ND : Int) := by omega
     have i2 : (0 : Int) ≤ (j : Int) := by omega
     have HM := mkHid hm
     clear hm EN
     have NO : Hid (¬ (rowsV m.e.key k = 0 ∧ m.e.id = id) → dupB k id (D.take (j + 1)) = false) := fun h => any_next HM.out (dup_no h) hd.out
     by_cases h1 : rowsV m.e.key k = 0
     ·rw [h1] at RWm
      by_cases h2 : m.e.id = id
      ·have FN : Hid (∀ w2, Below w.heap.size w w2 → DuQ T w dd D k id (.returned (.int .i64 50)) w2) := fun w2 hw2 => Or.inl ⟨any_hit HM.out (by rw [Bool.and_eq_true, decide_eq_true_eq, decide_eq_true_eq]; exact ⟨h1, h2⟩), rfl, hw2⟩
       have he : (m.e.id == id) = true := by rw [beq_iff_eq]; exact h2
       clear h1 h2 NO hd
       go_wp2_with (go_at_call 18; refine RWm.out.mono ?_; rintro e w2 ⟨rfl, b2⟩; obtain ⟨bw2, u0, u1, u2⟩ := KP.out w2 b2)
       go_ret
       exact FN.out _ bw2
      ·have he : (m.e.id == id) = false := by rw [beq_eq_false_iff_ne]; exact h2
       have hd2 := mkHid (NO.out (fun h => h2 h.2))
       clear h1 h2 NO hd
       go_wp2_with (go_at_call 18; refine RWm.out.mono ?_; rintro e w2 ⟨rfl, b2⟩; obtain ⟨bw2, u0, u1, u2⟩ := KP.out w2 b2)
       go_roundw
       case rel => exact ⟨j + 1, by go_num, hlt, hd2, bw2⟩
       case measure => simp [intOf]; omega
     ·have he : (rowsV m.e.key k == 0) = false := by rw [beq_eq_false_iff_ne]; exact h1
      have hd2 := mkHid (NO.out (fun h => h1 h.1))
      clear h1 NO hd
      go_wp2_with (go_at_call 18; refine RWm.out.mono ?_; rintro e w2 ⟨rfl, b2⟩; obtain ⟨bw2, u0, u1, u2⟩ := KP.out w2 b2)
      go_roundw
      case rel => exact ⟨j + 1, by go_num, hlt, hd2, bw2⟩
      case measure => simp [intOf]; omega
    ·obtain rfl : ND = j := by omega
     have HDP : Hid (dupB k id D = false) := by
      have := hd.out
      rw [List.take_of_length_le (by rw [HND.out]; exact Nat.le_refl _)] at this
      exact this
     obtain ⟨t0, t1⟩ := TB.out wr hb
     clear hd EN RW
     by_cases hfull : 4096 ≤ ND
     ·have hg : (ND : Int) ≥ 4096 := by omega
      go_wp2_with fail
      go_ret
      exact Or.inr (Or.inl ⟨HDP.out, by rw [← HND.out]; exact hfull, rfl, hb⟩)
     ·have hg : ¬ ((ND : Int) ≥ 4096) := by omega
      obtain ⟨cap, wA, r17, s17, g17, z17⟩ := rwVa.clone wr ⟨g, go, none⟩ k.length cq (fl vaE k) (fl_len (enc := vaE) (s := 3) (fun _ => rfl) k) (fun j u hj => by rw [add_plain]; exact HVL.out _ hb j u hj) HL.out.1 (by have := HL.out.2; omega)
      obtain ⟨vA, hcap⟩ := clone_vals s17 (by omega)
      have bA : Below wr.heap.size wr wA := below_none g17 (Nat.le_refl _)
      rw [← HN.out] at r17 hcap
      have HCAP := mkHid hcap
      obtain ⟨w3, hw3⟩ : ∃ w3, w3 = wA.alloc (.cells #[.slice (some ⟨wr.heap.size + 1, 0, none⟩) N cap, .int .u64 id] 54) := ⟨_, rfl⟩
      have m3 : w3.heap[wA.heap.size]? = some (.cells #[.slice (some ⟨wr.heap.size + 1, 0, none⟩) N cap, .int .u64 id] 54 (0, 0)) := by rw [hw3]; exact heap_alloc_new _ _
      have bA3 : Below wA.heap.size wA w3 := by rw [hw3]; exact (Below.refl _ wA).alloc (Nat.le_refl _) _
      have bw3 : Below w.heap.size w w3 := (hb.trans (bA.mono hb.size)).trans (bA3.mono (Nat.le_trans hb.size bA.size))
      have v3 := vA.below bA3
      obtain ⟨A, hA⟩ : ∃ A, A = place ltM (tgt ⟨k, id⟩) D := ⟨_, rfl⟩
      have AT : Hid (Calls Tryz.prog 36 #[.pointer (some ⟨dd, 0, none⟩), .agg #[.slice (some ⟨wr.heap.size + 1, 0, none⟩) N cap, .int .u64 id]] w3 fun e w' => e = .returned (.int .i64 (A : Int)) ∧ Below w3.heap.size w3 w') := by
       have := at_any T dd false D PD ND CD ⟨k, id⟩ (some ⟨wr.heap.size + 1, 0, none⟩) cap w3 (HD.out.below bw3) HND.out (by omega) ⟨Or.inr ⟨_, rfl, v3⟩, HF.out⟩
       simp only [enV] at this
       rw [← HN.out, ← hA] at this
       exact this
      have hAl : A ≤ ND := by rw [hA, HND.out]; exact place_le _ _ _
      have HAA := mkHid hA
      have V3 := mkHid v3
      have M3 := mkHid m3
      have BW3 := mkHid bw3
      have GE := mkHid (show w.heap.size ≤ wr.heap.size + 1 from Nat.le_succ_of_le hb.size)
      clear s17 g17 z17 vA bA bA3 v3 m3 bw3 hb hA hcap
      go_wp2_with (at_builtin; refine wp_app 30 rfl (.tmp 86) (.tmp 87) rfl rfl rfl r17 ?_)
      rw [← hw3]
      clear hw3 r17 t0 t1
      refine AT.out.mono ?_
      rintro e w4 ⟨rfl, b4⟩
      have hd4 := HD.out.below (BW3.out.trans (b4.mono BW3.out.size))
      have VM : Hid (valsAt w4 (wr.heap.size + 1) k) := V3.out.below b4
      have HD4 := mkHid hd4
      have BW4 : Hid (Below w.heap.size w w4) := BW3.out.trans (b4.mono BW3.out.size)
      have M4 := mkHid ((b4.block _ (lt_of_heap M3.out)).trans M3.out)
      have x0 : w4.cell? ⟨wA.heap.size, 0, none⟩ = some (.slice (some ⟨wr.heap.size + 1, 0, none⟩) N cap) := (cell_of_block M4.out 0).trans rfl
      have x1 : w4.cell? ⟨wA.heap.size, 1, none⟩ = some (.int .u64 id) := (cell_of_block M4.out 1).trans rfl
      have FIN : Hid (∀ w9 p9 n9 c9, n9 = D.length + 1 → Below w4.heap.size w4 w9 → shr w9 54 2 (.slice p9 n9 c9) n9 (fl emE (D.take A ++ (⟨⟨k, id⟩, wr.heap.size + 1, cap⟩ : Em) :: D.drop A)) → fresh (.slice p9 n9 c9) w4.heap.size → DuQ T w dd D k id (.returned (.int .i64 0)) (w9.setCell ⟨dd, 1, none⟩ (.slice p9 n9 c9))) := fun w9 p9 n9 c9 hn b9 s9 f9 => by
       subst hn
       have bx := (HD4.out.below b9).box
       have hins : D.take A ++ (⟨⟨k, id⟩, wr.heap.size + 1, cap⟩ : Em) :: D.drop A = ins ltM ⟨⟨k, id⟩, wr.heap.size + 1, cap⟩ D := by
        have e : A = place ltM ⟨⟨k, id⟩, wr.heap.size + 1, cap⟩ D := HAA.out
        unfold ins
        rw [e, take_place, drop_place]
       have hcg : Chg (fun b => b = dd) w (w9.setCell ⟨dd, 1, none⟩ (.slice p9 (D.length + 1) c9)) := chg_set ((show Chg (fun b => b = dd) w w4 from chg_bl BW4.out).trans (chg_bl b9)) ⟨dd, 1, none⟩ _ rfl
       have hk9 : Keeps T w4 (w9.setCell ⟨dd, 1, none⟩ (.slice p9 (D.length + 1) c9)) := (Keeps.of_below b9).trans (Keeps.set _ HO.out)
       have hkm : KeyOk T w4 (⟨⟨k, id⟩, wr.heap.size + 1, cap⟩ : Em) := ⟨HT.out _ GE.out, VM.out, HL.out.1, HL.out.2, by show k.length ≤ cap; rw [← HN.out]; exact HCAP.out, HF.out⟩
       refine Or.inr (Or.inr ⟨HDP.out, by rw [← HND.out]; omega, rfl, ⟨⟨k, id⟩, wr.heap.size + 1, cap⟩, p9, c9, rfl, ⟨heap_set_in bx, ?_, fun y hy => ?_⟩, hcg⟩)
       ·rw [← hins]
        have hl : (D.take A ++ (⟨⟨k, id⟩, wr.heap.size + 1, cap⟩ : Em) :: D.drop A).length = D.length + 1 := by rw [List.length_append, List.length_cons, List.length_take, List.length_drop]; have := HND.out; omega
        rw [hl]
        refine ⟨s9.kept (Chg.of_cell _ _ _) (fun b hb e => ?_), fun b hb => HT.out b (Nat.le_trans BW4.out.size (f9 b hb))⟩
        have := f9 b hb
        have := lt_of_heap HD4.out.box
        change b = dd at e
        omega
       ·rw [← hins, List.mem_append, List.mem_cons] at hy
        rcases hy with hy | rfl | hy
        ·exact (HD4.out.keys y (List.mem_of_mem_take hy)).keeps hk9
        ·exact hkm.keeps hk9
        ·exact (HD4.out.keys y (List.mem_of_mem_drop hy)).keeps hk9
      obtain ⟨hND4, hNC, hP0, hPs⟩ := doc_row hd4
      clear hND4
      have i1 : (0 : Int) ≤ (A : Int) := by omega
      have i2 : (A : Int) ≤ (CD : Int) := by omega
      have i3 : (A : Int) ≤ (ND : Int) := by omega
      have U : Hid (∀ W, Below w4.heap.size w4 W → W.cell? ⟨dd, 1, none⟩ = some (.slice PD ND CD) ∧ W.frozen? ⟨dd, 1, none⟩ = false ∧ W.cell? ⟨wA.heap.size, 0, none⟩ = some (.slice (some ⟨wr.heap.size + 1, 0, none⟩) N cap) ∧ W.cell? ⟨wA.heap.size, 1, none⟩ = some (.int .u64 id)) := fun W hW => by
       have h1 := (HD4.out.below hW).box
       have h2 := (hW.block _ (lt_of_heap M4.out)).trans M4.out
       exact ⟨(cell_of_block h1 1).trans rfl, unfrozen_of_block h1 1, (cell_of_block h2 0).trans rfl, (cell_of_block h2 1).trans rfl⟩
      clear AT V3 M3 BW3 hd4 b4 HD TB HP
      cases PD with
      | none =>
       obtain ⟨rfl, rfl⟩ := hP0 rfl
       obtain rfl : A = 0 := by omega
       obtain ⟨p6, c6, w6, p8, c8, w8, p9, c9, w9, n9, e9, r19, r20, r21, s9, f9, b6, b8, b9⟩ := ins_rows w4 D ⟨⟨k, id⟩, wr.heap.size + 1, cap⟩ 0 0 0 0 none none HND.out (Nat.le_refl _) (by omega) (fun _ => ⟨rfl, rfl⟩) (fun _ => ⟨rfl, rfl⟩) (fun W _ ad h => by cases h) (fun W _ ad h => by cases h)
       clear hPs hP0
       have F9 := mkHid (FIN.out w9 p9 n9 c9 e9 b9 s9 f9)
       simp only at r20
       rw [← HN.out] at r20
       obtain ⟨a1, a2, a3, a4⟩ := U.out (w4.alloc (.cells #[] 54)) ((Below.refl _ w4).alloc (Nat.le_refl _) _)
       obtain ⟨a5, a6, a7, a8⟩ := U.out w6 b6
       obtain ⟨a9, a10, _, _⟩ := U.out w8 b8
       obtain ⟨a11, a12, _, _⟩ := U.out w9 b9
       clear FIN s9 f9 e9 U b6 b8 b9 x0 x1
       go_wp2_with (first | (at_builtin; refine wp_app 26 rfl (.tmp 94) (.tmp 100) rfl rfl rfl r19 ?_; clear r19) | (at_builtin; refine wp_app 26 rfl (.tmp 102) (.tmp 104) rfl rfl rfl r20 ?_; clear r20) | (at_builtin; refine wp_app 26 rfl (.tmp 107) (.tmp 113) rfl rfl rfl r21 ?_; clear r21))
       go_ret
       exact F9.out
      | some ad =>
       obtain ⟨gx, ox, rfl, hgx, hcs⟩ := hPs ad rfl
       obtain ⟨VX, hVX⟩ : ∃ V, V = if CD = A then some (⟨gx, ox, none⟩ : Addr) else some ⟨gx, ox + A * 2, none⟩ := ⟨_, rfl⟩
       have hVs : VX ≠ none := by rw [hVX]; split <;> exact fun h => by cases h
       obtain ⟨p6, c6, w6, p8, c8, w8, p9, c9, w9, n9, e9, r19, r20, r21, s9, f9, b6, b8, b9⟩ := ins_rows w4 D ⟨⟨k, id⟩, wr.heap.size + 1, cap⟩ A ND CD (CD - A) (some ⟨gx, ox, none⟩) VX HND.out hAl zD (fun h => by cases h) (fun h => absurd h hVs)
        (fun W hW ad h j u hj => by
         cases h
         rw [add_plain]
         have hj' : (fl emE D)[j]? = some u := by
          have hlt := (List.getElem?_eq_some_iff.1 hj).1
          rw [← fl_take emE_len, List.getElem?_take] at hj
          split at hj
          ·exact hj
          ·cases hj
         exact (hW.cell (p := ⟨gx, ox + j, none⟩) hgx).trans (hcs j u hj'))
        (fun W hW ad h j u hj => by
         have hj' : (fl emE D)[A * 2 + j]? = some u := by rw [← fl_drop emE_len, List.getElem?_drop] at hj; exact hj
         by_cases hCA : CD = A
         ·have := (List.getElem?_eq_some_iff.1 hj').1
          rw [fl_len (s := 2) emE_len] at this
          have := HND.out
          omega
         ·rw [hVX, if_neg hCA] at h
          cases h
          rw [add_plain, Nat.add_assoc]
          exact (hW.cell (p := ⟨gx, ox + (A * 2 + j), none⟩) hgx).trans (hcs _ u hj'))
       clear hPs hP0 hcs hgx hVs
       have F9 := mkHid (FIN.out w9 p9 n9 c9 e9 b9 s9 f9)
       simp only at r20
       rw [← HN.out] at r20
       obtain ⟨a1, a2, a3, a4⟩ := U.out (w4.alloc (.cells #[] 54)) ((Below.refl _ w4).alloc (Nat.le_refl _) _)
       obtain ⟨a5, a6, a7, a8⟩ := U.out w6 b6
       obtain ⟨a9, a10, _, _⟩ := U.out w8 b8
       obtain ⟨a11, a12, _, _⟩ := U.out w9 b9
       clear FIN s9 f9 e9 U b6 b8 b9 x0 x1
       by_cases hCA : CD = A
       ·rw [if_pos hCA] at hVX
        subst hVX
        go_wp2_with (first | (at_builtin; refine wp_app 26 rfl (.tmp 94) (.tmp 100) rfl rfl rfl r19 ?_; clear r19) | (at_builtin; refine wp_app 26 rfl (.tmp 102) (.tmp 104) rfl rfl rfl r20 ?_; clear r20) | (at_builtin; refine wp_app 26 rfl (.tmp 107) (.tmp 113) rfl rfl rfl r21 ?_; clear r21))
        go_ret
        exact F9.out
       ·rw [if_neg hCA] at hVX
        subst hVX
        go_wp2_with (first | (at_builtin; refine wp_app 26 rfl (.tmp 94) (.tmp 100) rfl rfl rfl r19 ?_; clear r19) | (at_builtin; refine wp_app 26 rfl (.tmp 102) (.tmp 104) rfl rfl rfl r20 ?_; clear r20) | (at_builtin; refine wp_app 26 rfl (.tmp 107) (.tmp 113) rfl rfl rfl r21 ?_; clear r21))
        go_ret
        exact F9.out
set_option maxHeartbeats 4000000 in
set_option maxRecDepth 1000000 in
theorem docPut_bad_off (k : List Va) (id : Int) (q : Option Addr) (cq dd : Nat) (w : World) (hl : k.length ≤ 1000000000) (hv : rowOff w q k) (hE : keyE k ≠ 0) :
  Calls Tryz.prog 12 #[.pointer (some ⟨dd, 0, none⟩), .slice q k.length cq, .int .u64 id] w fun e w' => e = .returned (.int .i64 (keyE k)) ∧ Below w.heap.size w w' := by
 unfold keyE at hE ⊢
 by_cases h0 : k.length = 0
 ·rw [if_pos (Or.inl h0), h0]
  go_enter Tryz.func12, Tryz.ntmps12
  go_wp2_with fail
  go_ret
  exact ⟨rfl, Below.refl _ _⟩
 by_cases h4 : 4 < k.length
 ·rw [if_pos (Or.inr h4)]
  have nz : ((k.length : Int) == 0) = false := by rw [beq_eq_false_iff_ne]; omega
  have n4 : (k.length : Int) > 4 := by omega
  clear hv hE h0
  generalize k.length = N at *
  go_enter Tryz.func12, Tryz.ntmps12
  go_wp2_with fail
  go_ret
  exact ⟨rfl, Below.refl _ _⟩
 rw [if_neg (by omega)] at hE ⊢
 have hv9 := hv
 obtain ⟨g, go, rfl, _⟩ : ∃ g go, q = some ⟨g, go, none⟩ ∧ True := by
  rcases hv with h | ⟨g, go, h, _⟩
  ·rw [h] at h0; simp at h0
  ·exact ⟨g, go, h, trivial⟩
 have nz : ((k.length : Int) == 0) = false := by rw [beq_eq_false_iff_ne]; omega
 have n4 : ¬ ((k.length : Int) > 4) := by omega
 obtain ⟨E, hEE⟩ : ∃ E, E = errs k := ⟨_, rfl⟩
 rw [← hEE] at hE ⊢
 have HE : Hid (E = errs k) := hEE
 have hE0 := mkHid hE
 obtain ⟨N, hN⟩ : ∃ N, N = k.length := ⟨_, rfl⟩
 rw [← hN] at nz n4 h0 h4 hl ⊢
 have HN := mkHid hN
 have HV : Hid (∀ W, Below w.heap.size w W → ∀ i v, k[i]? = some v → W.cell? ⟨g, go + i * 3, none⟩ = some (.int .i64 v.ty) ∧ W.cell? ⟨g, go + i * 3 + 1, none⟩ = some (.int .i64 v.n) ∧ W.cell? ⟨g, go + i * 3 + 2, none⟩ = some (.string v.s)) := fun W hW i v hi => by
  obtain ⟨g', o', e1, _, e2⟩ := (hv9.below hW).get hi
  cases e1
  exact e2
 clear hN hEE hE hv hv9
 go_enter Tryz.func12, Tryz.ntmps12
 go_wp2_with fail
 go_loopw [7, 8] (fun s7 _ wr => ∃ i : Nat, s7 = .int .i64 i ∧ i ≤ N ∧ Hid (E = errs (k.drop i)) ∧ Below w.heap.size w wr) (fun s7 _ _ => N - (intOf s7).toNat)
 case atStart => exact ⟨0, rfl, Nat.zero_le _, HE, Below.refl _ _⟩
 case round =>
  obtain ⟨i, rfl, hi, hd, hb⟩ := hrel
  clear HE
  by_cases hlt : i < N
  ·obtain ⟨v, hvk⟩ : ∃ v, k[i]? = some v := ⟨_, List.getElem?_eq_getElem (by have := HN.out; omega)⟩
   obtain ⟨c1, c2, c3⟩ := HV.out _ hb i v hvk
   rw [drop_at hvk] at hd
   have CK : Hid (∀ w, Calls Tryz.prog 34 #[.agg #[.int .i64 v.ty, .int .i64 v.n, .string v.s]] w fun e w' => e = .returned (.int .i64 v.chk) ∧ Below w.heap.size w w') := fun w => refCheck_any v.ty v.n v.s w
   have i1 : (i : Int) < (N : Int) := by omega
   clear hvk
   by_cases h0 : v.chk = 0
   ·have hd2 : Hid (E = errs (k.drop (i + 1))) := hd.out.trans (errs_pass h0)
    rw [h0] at CK
    clear hd
    go_wp2_with (go_at_call 34; refine (CK.out _).mono ?_; rintro e w1 ⟨rfl, hb2⟩)
    go_roundw
    case rel => exact ⟨i + 1, by go_num, hlt, hd2, hb.trans (hb2.mono hb.size)⟩
    case measure => simp [intOf]; omega
   ·have hd2 : Hid (E = v.chk) := hd.out.trans (errs_stop h0)
    have hne : (v.chk != 0) = true := by rw [bne_iff_ne]; exact h0
    clear hd
    obtain rfl := hd2.out
    go_wp2_with (go_at_call 34; refine (CK.out _).mono ?_; rintro e w1 ⟨rfl, hb2⟩)
    go_ret
    exact ⟨rfl, hb.trans (hb2.mono hb.size)⟩
  ·obtain rfl : i = N := by omega
   have he : E = 0 := by
    have := hd.out
    rw [List.drop_eq_nil_of_le (by rw [HN.out]; exact Nat.le_refl _)] at this
    exact this
   exact absurd he hE0.out
end Go.Proofs.YtclcajnodoifjaaGreatDoor

namespace Go.Proofs.YtclcajnodoifjaaGreatDoor
open Go.RowKit Go.Shelf Go.Joins Go.Maps
set_option maxRecDepth 100000

/-- a row at any place, behind changes elsewhere -/
theorem rowOff.chg {S : Nat → Prop} {w w' : World} {q : Option Addr} {k : List Va} (h : rowOff w q k) (hc : Chg S w w') (hs : ∀ g off, q = some ⟨g, off, none⟩ → (∀ j u, (fl vaE k)[j]? = some u → w.cell? ⟨g, off + j, none⟩ = some u) → ¬ S g) : rowOff w' q k := by
 rcases h with h | ⟨g, off, e, hg, hv⟩
 ·exact Or.inl h
 ·refine Or.inr ⟨g, off, e, Nat.lt_of_lt_of_le hg hc.size, fun j u hj => ?_⟩
  have hb := hc.block g hg (hs g off e hv)
  have := hv j u hj
  unfold World.cell? at this ⊢
  rw [hb]
  exact this
theorem not_box_off {w : World} {g off : Nat} {k : List Va} {b : Bool} {p1 p2 : Option Addr} {n1 n2 c1 c2 : Nat} {sz : Int} (hv : ∀ j u, (fl vaE k)[j]? = some u → w.cell? ⟨g, off + j, none⟩ = some u) (h0 : 0 < k.length) (h : w.heap[g]? = some (trO b (.slice p1 n1 c1) (.slice p2 n2 c2) sz)) : False := by
 obtain ⟨v, hvk⟩ : ∃ v, k[0]? = some v := ⟨_, List.getElem?_eq_getElem h0⟩
 have g := fun r (hr : r < 3) => fl_get (enc := vaE) (s := 3) (fun _ => rfl) k 0 v r hvk hr
 have q0 := hv 0 _ ((g 0 (by omega)).trans rfl)
 have q1 := hv 1 _ ((g 1 (by omega)).trans rfl)
 unfold trO at h
 have e0 := (cell_of_block h off).symm.trans q0
 have e1 := (cell_of_block h (off + 1)).symm.trans q1
 match off with
 | 0 => simp at e0
 | 1 => simp at e0
 | 2 => simp at e0
 | 3 => simp at e1
 | (n + 4) => simp at e0
end Go.Proofs.YtclcajnodoifjaaGreatDoor

namespace Go.Proofs.YtclcajnodoifjaaGreatDoor
open Go.RowKit Go.Shelf Go.Joins Go.Maps
set_option maxRecDepth 100000

end Go.Proofs.YtclcajnodoifjaaGreatDoor

namespace Go.Proofs.YtclcajnodoifjaaGreatDoor
open Go.RowKit Go.Shelf Go.Joins Go.Maps
set_option maxRecDepth 100000

/-- an act that came in: its key at any place -/
structure Ac.came (w : World) (a : Ac) : Prop where
 row : rowOff w a.q a.k
 fits : ∀ v ∈ a.k, fit v.n
 txt : ∀ v ∈ a.k, v.s.size ≤ 9223372036854775807
 few : a.k.length ≤ 1000000000
theorem Ac.came.below {w w' : World} {a : Ac} (h : a.came w) (hb : Below w.heap.size w w') : a.came w' := ⟨h.row.below hb, h.fits, h.txt, h.few⟩
end Go.Proofs.YtclcajnodoifjaaGreatDoor

namespace Go.Proofs.YtclcajnodoifjaaGreatDoor
open Go.ChangeShapes Go.WideShapes Go.ChangeAt Go.RowKit Go.Lib Go.Shelf Go.Joins Go.Deep
set_option maxRecDepth 100000

theorem laidOut' : laidOutB Tryz.prog = true := by kernel_rfl
theorem all_stay {H : Type} {enc : TypeId × Value → H} {W W' : World} (hb : Below W.heap.size W W') : ∀ {ts : List TypeId} {vs : List Value} {ds : List (DataW H)} {ps : List MemPlace}, (∀ t ∈ ts, Tryz.prog.readableRec t = true ∧ t < Tryz.prog.types.size) →
  (∀ p ∈ ps, p.block < W.heap.size) → DataW.TrodAll enc Tryz.prog W 0 (fun _ => true) true ts vs ds ps → DataW.TrodAll enc Tryz.prog W' 0 (fun b => decide (b < W.heap.size)) true ts vs ds ps
 | [], [], [], _, _, _, h => h
 | t :: ts, v :: vs, d :: ds, ps, ht, hp, ⟨p, q, h1, h2, e⟩ => by
  subst e
  refine ⟨p, q, WideElems.Trod_stays laidOut' (ht t List.mem_cons_self).1 (ht t List.mem_cons_self).2 h1 (fun x hx => hb.same (hp x (List.mem_append_left _ hx))) (fun x hx => by simpa using hp x (List.mem_append_left _ hx)), ?_, rfl⟩
  exact all_stay hb (fun t h => ht t (List.mem_cons_of_mem _ h)) (fun x hx => hp x (List.mem_append_right _ hx)) h2
 | [], _ :: _, _, _, _, _, h => h.elim
 | [], [], _ :: _, _, _, _, h => h.elim
 | _ :: _, [], _, _, _, _, h => h.elim
 | _ :: _, _ :: _, [], _, _, _, h => h.elim
theorem bulk_one {H : Type} (d : DataW H) : 1 ≤ Rows.uptoBulk d := by
 cases d with
 | lit x => cases x <;> simp [Rows.uptoBulk]
 | _ => simp [Rows.uptoBulk]
theorem bulk_all {H : Type} : ∀ l : List (DataW H), l.length ≤ Rows.uptoBulkAll l
 | [] => Nat.zero_le _
 | d :: l => by
  have h1 := bulk_one d
  have h2 := bulk_all l
  simp only [Rows.uptoBulkAll, List.length_cons]; omega
theorem bulk_part {H : Type} {d : DataW H} : ∀ {l : List (DataW H)}, d ∈ l → Rows.uptoBulk d ≤ Rows.uptoBulkAll l
 | x :: r, h => by
  simp only [Rows.uptoBulkAll]
  rcases List.mem_cons.1 h with e | e
  ·subst e; omega
  ·have := bulk_part (l := r) e; omega
/-- a list that came in, whose elements are known by their cells -/
theorem open_list {H : Type} {enc : TypeId × Value → H} {W : World} {α : Type} (a0 : α) {t e sz : Nat} (ht : Tryz.prog.underlying t = some (.slice e)) (hc : Tryz.prog.cellsOf e = sz) (h0 : 0 < sz) (en : α → List Value) (G : DataW H → α → Prop)
  (hel : ∀ n cs y, DataW.trod enc Tryz.prog W 0 (fun _ => true) true n e cs = some y → ∃ a, cs = en a ∧ G y.1 a) (hlen : ∀ a, (en a).length = sz) {n : Nat} {cs : List Value} {x : DataW H × List MemPlace} (h : DataW.trod enc Tryz.prog W 0 (fun _ => true) true n t cs = some x) :
  ∃ (P : Option Addr) (C : Nat) (l : List α), cs = [.slice P l.length C] ∧ (P = none → C = 0) ∧ l.length ≤ C ∧ l.length ≤ Rows.uptoBulk x.1 ∧ (∀ a ∈ l, ∃ d, Rows.uptoBulk d ≤ Rows.uptoBulk x.1 ∧ G d a) ∧
   (l = [] ∨ ∃ g o, P = some ⟨g, o, none⟩ ∧ g < W.heap.size ∧ ∀ i a, l[i]? = some a → ∀ j u, (en a)[j]? = some u → W.cell? ⟨g, o + i * sz + j, none⟩ = some u) := by
 rcases open_slice ht h with ⟨rfl, _⟩ | ⟨a, len, cap, m, n', D, Pl, rfl, _, hl, hm, hmm, hx, hel2⟩
 ·exact ⟨none, 0, [], rfl, fun _ => rfl, Nat.le_refl _, Nat.zero_le _, by simp, Or.inl rfl⟩
 ·simp only [if_true] at hmm
  subst hmm
  have each : ∀ i, i < len → ∃ v : α, (∀ j u, (en v)[j]? = some u → W.cell? ((a.add (i * sz)).add j) = some u) ∧ G (D i) v := by
   intro i hi
   obtain ⟨cs', h1, h2⟩ := hel2 i (by omega)
   rw [hc] at h1
   obtain ⟨_, hl', hcc⟩ := World.cells?_some h1
   obtain ⟨v, rfl, hg⟩ := hel _ _ _ h2
   refine ⟨v, fun j u hj => ?_, hg⟩
   have hjl : j < sz := by have := (List.getElem?_eq_some_iff.1 hj).1; rw [hlen] at this; exact this
   have := hcc j hjl
   rw [this]; exact hj
  obtain ⟨V, hV⟩ := @choose_lt α ⟨a0⟩ _ _ each
  have hlb : len ≤ Rows.uptoBulk x.1 := by
   have := bulk_all ((List.range len).map D)
   rw [hx]
   simp only [List.length_map, List.length_range] at this
   simp only [Rows.uptoBulk]; omega
  refine ⟨some a, m, (List.range len).map V, by simp, (fun e => by cases e), by simpa using hl, by simpa using hlb, fun v hv => ?_, ?_⟩
  ·simp only [List.mem_map, List.mem_range] at hv
   obtain ⟨i, hi, rfl⟩ := hv
   refine ⟨D i, ?_, (hV i hi).2⟩
   have := bulk_part (d := D i) (l := (List.range len).map D) (List.mem_map.2 ⟨i, List.mem_range.2 hi, rfl⟩)
   rw [hx]
   simp only [Rows.uptoBulk]; omega
  ·by_cases hz : len = 0
   ·subst hz; exact Or.inl rfl
   ·have hl0 : 0 < (en (V 0)).length := by rw [hlen]; exact h0
    have g0 := (hV 0 (by omega)).1 0 _ (List.getElem?_eq_getElem hl0)
    have hsp : a.spot = none := by simpa [Addr.add] using World.cell?_spot g0
    obtain ⟨b, off, spot⟩ := a
    simp only at hsp
    subst hsp
    refine Or.inr ⟨b, off, rfl, ?_, fun i v hv j u hj => ?_⟩
    ·have := World.block_lt_of_cell? W _ g0
     rw [add_plain, add_plain] at this
     exact this
    ·have hi : i < len := by have := (List.getElem?_eq_some_iff.1 hv).1; simpa using this
     have ev : V i = v := by simpa [hi] using hv
     subst ev
     have := (hV i hi).1 j u hj
     rw [add_plain, add_plain] at this
     exact this
theorem cellsI : Tryz.prog.cellsOf 3 = 1 := by kernel_rfl
theorem cellsI6 : Tryz.prog.cellsOf 2 = 1 := by kernel_rfl
theorem cellsU6 : Tryz.prog.cellsOf 31 = 1 := by kernel_rfl
theorem cellsS : Tryz.prog.cellsOf 9 = 1 := by kernel_rfl
theorem cellsB : Tryz.prog.cellsOf 4 = 1 := by kernel_rfl
theorem cellsV : Tryz.prog.cellsOf 40 = 3 := by kernel_rfl
theorem cellsRw : Tryz.prog.cellsOf 30 = 1 := by kernel_rfl
theorem cellsBd : Tryz.prog.cellsOf 33 = 4 := by kernel_rfl
theorem cellsAc : Tryz.prog.cellsOf 35 = 8 := by kernel_rfl
theorem trod_st4 {H : Type} {enc : TypeId × Value → H} {P : Program} {w : World} {base : Nat} {spare : Nat → Bool} {held : Bool} {t : TypeId} {f0 f1 f2 f3 : Field} {fuel : Nat} {cs : List Value} {x : DataW H × List MemPlace} (ht : P.underlying t = some (.struct #[f0, f1, f2, f3])) (h : DataW.trod enc P w base spare held fuel t cs = some x) :
  ∃ y0 y1 y2 y3 n, x.1 = .agg [y0.1, y1.1, y2.1, y3.1] ∧ cs.length = P.cellsOf t ∧ DataW.trod enc P w base spare held n f0.type ((cs.drop f0.offset).take (P.cellsOf f0.type)) = some y0 ∧ DataW.trod enc P w base spare held n f1.type ((cs.drop f1.offset).take (P.cellsOf f1.type)) = some y1 ∧ DataW.trod enc P w base spare held n f2.type ((cs.drop f2.offset).take (P.cellsOf f2.type)) = some y2 ∧ DataW.trod enc P w base spare held n f3.type ((cs.drop f3.offset).take (P.cellsOf f3.type)) = some y3 := by
 obtain ⟨xs, n, _, rfl, hl, hlen, hf⟩ := DataW.trod_struct ht h
 match xs, hlen with
 | [y0, y1, y2, y3], _ => exact ⟨y0, y1, y2, y3, n, by simp, hl, by simpa using hf 0 f0 rfl, by simpa using hf 1 f1 rfl, by simpa using hf 2 f2 rfl, by simpa using hf 3 f3 rfl⟩
theorem trod_st5 {H : Type} {enc : TypeId × Value → H} {P : Program} {w : World} {base : Nat} {spare : Nat → Bool} {held : Bool} {t : TypeId} {f0 f1 f2 f3 f4 : Field} {fuel : Nat} {cs : List Value} {x : DataW H × List MemPlace} (ht : P.underlying t = some (.struct #[f0, f1, f2, f3, f4])) (h : DataW.trod enc P w base spare held fuel t cs = some x) :
  ∃ y0 y1 y2 y3 y4 n, x.1 = .agg [y0.1, y1.1, y2.1, y3.1, y4.1] ∧ cs.length = P.cellsOf t ∧ DataW.trod enc P w base spare held n f0.type ((cs.drop f0.offset).take (P.cellsOf f0.type)) = some y0 ∧ DataW.trod enc P w base spare held n f1.type ((cs.drop f1.offset).take (P.cellsOf f1.type)) = some y1 ∧ DataW.trod enc P w base spare held n f2.type ((cs.drop f2.offset).take (P.cellsOf f2.type)) = some y2 ∧ DataW.trod enc P w base spare held n f3.type ((cs.drop f3.offset).take (P.cellsOf f3.type)) = some y3 ∧ DataW.trod enc P w base spare held n f4.type ((cs.drop f4.offset).take (P.cellsOf f4.type)) = some y4 := by
 obtain ⟨xs, n, _, rfl, hl, hlen, hf⟩ := DataW.trod_struct ht h
 match xs, hlen with
 | [y0, y1, y2, y3, y4], _ => exact ⟨y0, y1, y2, y3, y4, n, by simp, hl, by simpa using hf 0 f0 rfl, by simpa using hf 1 f1 rfl, by simpa using hf 2 f2 rfl, by simpa using hf 3 f3 rfl, by simpa using hf 4 f4 rfl⟩
theorem fitOf {n : Int} (h : (Lit.int .i64 n).wf = true) : fit n := by
 have := bounds_i64 h
 exact ⟨by omega, by omega⟩
theorem vaE_len (v : Va) : (vaE v).length = 3 := rfl
/-- a value that came in -/
theorem el_va {H : Type} {enc : TypeId × Value → H} {W : World} {n : Nat} {cs : List Value} {y : DataW H × List MemPlace} (h : DataW.trod enc Tryz.prog W 0 (fun _ => true) true n 40 cs = some y) : ∃ v : Va, cs = vaE v ∧ (fit v.n ∧ v.s.size ≤ 9223372036854775807) := by
 obtain ⟨y0, y1, y2, m, _, hl, t0, t1, t2⟩ := trod_struct3 Tryz.underlying40 h
 rw [cellsV] at hl
 match cs, hl with
 | [c0, c1, c2], _ =>
  have u0 : DataW.trod enc Tryz.prog W 0 (fun _ => true) true m 3 [c0] = some y0 := by simpa [cellsI] using t0
  have u1 : DataW.trod enc Tryz.prog W 0 (fun _ => true) true m 2 [c1] = some y1 := by simpa [cellsI6] using t1
  have u2 : DataW.trod enc Tryz.prog W 0 (fun _ => true) true m 9 [c2] = some y2 := by simpa [cellsS] using t2
  obtain ⟨a, e0, _, _⟩ := DataW.trod_int Tryz.underlying3 u0
  obtain ⟨b, e1, _, wb⟩ := DataW.trod_int Tryz.underlying2 u1
  obtain ⟨s, e2, _, ws⟩ := DataW.trod_string Tryz.underlying9 u2
  simp only [List.cons.injEq, and_true] at e0 e1 e2
  subst e0 e1 e2
  exact ⟨⟨a, b, s⟩, rfl, fitOf wb, by unfold maxLen at ws; exact ws⟩
/-- a row that came in, by its cells -/
theorem open_row {H : Type} {enc : TypeId × Value → H} {W : World} {n : Nat} {cs : List Value} {x : DataW H × List MemPlace} (h : DataW.trod enc Tryz.prog W 0 (fun _ => true) true n 30 cs = some x) :
  ∃ (P : Option Addr) (C : Nat) (l : List Va), cs = [.slice P l.length C] ∧ l.length ≤ Rows.uptoBulk x.1 ∧ (∀ v ∈ l, fit v.n ∧ v.s.size ≤ 9223372036854775807) ∧ rowOff W P l := by
 obtain ⟨P, C, l, e, h1, h2, h3, hg, h4⟩ := open_list (⟨0, 0, ⟨#[]⟩⟩ : Va) Tryz.underlying30 cellsV (by decide) vaE (fun _ v => fit v.n ∧ v.s.size ≤ 9223372036854775807) (fun n cs y h => el_va h) vaE_len h
 refine ⟨P, C, l, e, h3, fun v hv => (hg v hv).elim (fun _ h => h.2), ?_⟩
 rcases h4 with h4 | ⟨g, o, rfl, hg, hc⟩
 ·exact Or.inl h4
 ·refine Or.inr ⟨g, o, rfl, hg, fun j u hj => ?_⟩
  obtain ⟨v, hi, he⟩ := fl_at (enc := vaE) (s := 3) vaE_len (by decide) hj
  have := hc (j / 3) v hi (j % 3) u he
  have e : o + j / 3 * 3 + j % 3 = o + j := by omega
  rwa [e] at this
end Go.Proofs.YtclcajnodoifjaaGreatDoor

