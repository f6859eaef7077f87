/-
 The document's Put in a tree of either kind.
-/
import Derived.Test.YtclcajnodoifjaaGreatDoorIAV
import Derived.Test.YtclcajnodoifjaaGreatDoorIAU
import Derived.Test.YtclcajnodoifjaaGreatDoorCaDSx
namespace Go.Proofs.YtclcajnodoifjaaGreatDoor
open Go.RowKit Go.Shelf Go.Joins Go.Maps
set_option maxRecDepth 100000

/-- an entry that the document's Put sees twice, in a tree of either kind -/
def dupU (u : Bool) (k : List Va) (id : Int) (D : List Em) : Bool := D.any (fun q => decide (rowsV q.e.key k = 0) && (decide (q.e.id = id) || (u && !(k.any isN))))
theorem dupU_false {k : List Va} {id : Int} {D : List Em} : dupU false k id D = dupB k id D := by
 unfold dupU dupB
 simp
theorem dupU_no {m : Em} {k : List Va} {id : Int} (h : ¬ (rowsV m.e.key k = 0 ∧ (m.e.id = id ∨ k.any isN = false))) : (decide (rowsV m.e.key k = 0) && (decide (m.e.id = id) || (true && !(k.any isN)))) = false := by
 by_cases h1 : rowsV m.e.key k = 0
 ·by_cases h2 : m.e.id = id
  ·exact absurd ⟨h1, Or.inl h2⟩ h
  ·cases h3 : k.any isN with
   | true => simp [h2]
   | false => exact absurd ⟨h1, Or.inr h3⟩ h
 ·simp [h1]
/-- what the document's Put leaves -/
def DuU (u : Bool) (T : Nat → Prop) (w : World) (dd : Nat) (D : List Em) (k : List Va) (id : Int) (e : Ending) (w' : World) : Prop :=
 (dupU u k id D = true ∧ e = .returned (.int .i64 50) ∧ Below w.heap.size w w') ∨ (dupU u k id D = false ∧ 4096 ≤ D.length ∧ e = .returned (.int .i64 2) ∧ Below w.heap.size w w') ∨ (dupU u k id D = false ∧ D.length < 4096 ∧ e = .returned (.int .i64 0) ∧ ∃ m p' c', m.e = ⟨k, id⟩ ∧ DocIn T w' dd u (ins ltM m D) (.slice p' (D.length + 1) c') ∧ Chg (fun b => b = dd) w w')
set_option maxHeartbeats 3000000 in
set_option maxRecDepth 1000000 in
theorem docPut_t (T : Nat → Prop) (k : List Va) (id : Int) (q : Option Addr) (cq dd : Nat) (D : List Em) (PD : Option Addr) (ND CD : Nat) (w : World) (hd : DocIn T w dd true D (.slice PD ND CD)) (zD : ND ≤ 100000) (hk : rowOff w q k) (fk : ∀ v ∈ k, fit v.n) (hE : keyE k = 0) (hT : ∀ b, w.heap.size ≤ b → T b) (ho : ¬ T dd) :
  Calls Tryz.prog 12 #[.pointer (some ⟨dd, 0, none⟩), .slice q k.length cq, .int .u64 id] w fun e w' => DuU true T w dd D k id e w' := by
 obtain ⟨l1, l2, l3⟩ := keyE_zero hE
 have hk9 := hk
 obtain ⟨g, go, rfl, hgs, hv⟩ : ∃ g go, q = some ⟨g, go, none⟩ ∧ g < w.heap.size ∧ ∀ j u, (fl vaE k)[j]? = some u → w.cell? ⟨g, go + j, none⟩ = some u := by
  rcases hk with h | h
  ·rw [h] at l1; cases l1
  ·exact h
 obtain ⟨hND, hNC, hP0, hPs⟩ := doc_row hd
 have nz : ((k.length : Int) == 0) = false := by rw [beq_eq_false_iff_ne]; omega
 have n4 : ¬ ((k.length : Int) > 4) := by omega
 have HV : Hid (∀ W, Below w.heap.size w W → rowOff W (some ⟨g, go, none⟩) k) := fun W hW => hk9.below hW
 have HVC : Hid (∀ W, Below w.heap.size w W → ∀ i v, k[i]? = some v → W.cell? ⟨g, go + i * 3, none⟩ = some (.int .i64 v.ty) ∧ W.cell? ⟨g, go + i * 3 + 1, none⟩ = some (.int .i64 v.n) ∧ W.cell? ⟨g, go + i * 3 + 2, none⟩ = some (.string v.s)) := fun W hW i v hi => by
  obtain ⟨g', o', e1, _, e2⟩ := (hk9.below hW).get hi
  cases e1
  exact e2
 have HVL : Hid (∀ W, Below w.heap.size w W → ∀ j u, (fl vaE k)[j]? = some u → W.cell? ⟨g, go + j, none⟩ = some u) := fun W hW j u hj => (hW.cell (p := ⟨g, go + j, none⟩) hgs).trans (hv j u hj)
 have CKS : Hid (∀ i v, k[i]? = some v → errs (k.drop i) = 0 → ∀ w, Calls Tryz.prog 34 #[.agg #[.int .i64 v.ty, .int .i64 v.n, .string v.s]] w fun e w' => e = .returned (.int .i64 0) ∧ Below w.heap.size w w') := fun i v hi he w => by
  have := refCheck_any v.ty v.n v.s w
  rw [drop_at hi] at he
  have hz : v.chk = 0 := by
   by_cases h : v.chk = 0
   ·exact h
   ·rw [errs_stop h] at he; exact absurd he h
  rw [show chk v.ty v.n v.s = 0 from hz] at this
  exact this
 have NXT : Hid (∀ i v, k[i]? = some v → errs (k.drop i) = 0 → errs (k.drop (i + 1)) = 0) := fun i v hi he => by
  rw [drop_at hi] at he
  by_cases h : v.chk = 0
  ·rwa [errs_pass h] at he
  ·rw [errs_stop h] at he; exact absurd he h
 have RW : Hid (∀ (i : Nat) (m : Em) W, D[i]? = some m → Below w.heap.size w W → Calls Tryz.prog 18 #[.slice (some ⟨m.g, 0, none⟩) m.e.key.length m.c, .slice (some ⟨g, go, none⟩) k.length cq] W fun e w' => e = .returned (.int .i64 (rowsV m.e.key k)) ∧ Below W.heap.size W w') := fun i m W hi hW => by
  have km := (hd.keys m (List.mem_of_getElem? hi)).keeps (Keeps.of_below hW)
  exact refRows_off _ _ m.c cq m.e.key k W (by have := km.few; omega) (Or.inr ⟨_, rfl, km.vals⟩) (hk9.below hW) km.fits fk
 have EN : Hid (∀ (i : Nat) W, i < ND → Below w.heap.size w W → ∃ m gx ox, D[i]? = some m ∧ PD = some ⟨gx, ox, none⟩ ∧ W.cell? ⟨gx, ox + i * 2, none⟩ = some (.slice (some ⟨m.g, 0, none⟩) m.e.key.length m.c) ∧ W.cell? ⟨gx, ox + i * 2 + 1, none⟩ = some (.int .u64 m.e.id)) := fun i W hi hW => by
  obtain ⟨m, hm⟩ : ∃ m, D[i]? = some m := ⟨_, List.getElem?_eq_getElem (by omega)⟩
  cases hP : PD with
  | none => have := (hP0 hP).1; omega
  | some ad =>
   obtain ⟨gx, ox, rfl, _, _⟩ := hPs ad hP
   rw [hP] at hd
   obtain ⟨a1, a2, _, _⟩ := (hd.below hW).entry hm
   exact ⟨m, gx, ox, hm, rfl, a1, a2⟩
 have TB : Hid (∀ W, Below w.heap.size w W → W.cell? ⟨dd, 0, none⟩ = some (.bool true) ∧ W.cell? ⟨dd, 1, none⟩ = some (.slice PD ND CD)) := fun W hW => ⟨(cell_of_block (hd.below hW).box 0).trans rfl, (cell_of_block (hd.below hW).box 1).trans rfl⟩
 have HD := mkHid hd
 have HT := mkHid hT
 have HO := mkHid ho
 have HE0 : Hid (errs (k.drop 0) = 0) := l3
 have HND := mkHid hND
 have HL : Hid (0 < k.length ∧ k.length ≤ 4) := ⟨l1, l2⟩
 have HF := mkHid fk
 have HP := mkHid (And.intro hP0 hPs)
 obtain ⟨NUL, hNUL⟩ : ∃ b, b = k.any isN := ⟨_, rfl⟩
 have HNUL := mkHid hNUL
 have HLW : Hid (∀ W, Below w.heap.size w W → Calls Tryz.prog 35 #[.slice (some ⟨g, go, none⟩) k.length cq] W fun e w' => e = .returned (.bool NUL) ∧ w' = W) := fun W hW => by rw [hNUL]; exact Hollow_off _ cq k W (hk9.below hW) (by omega)
 clear hNUL
 obtain ⟨N, hN⟩ : ∃ N, N = k.length := ⟨_, rfl⟩
 have HN := mkHid hN
 rw [← hN] at nz n4 RW HLW ⊢
 have iNC : (ND : Int) ≤ (CD : Int) := by omega
 clear hd hk hk9 hgs fk hE hT ho l1 l2 l3 hv hND hP0 hPs hN hNC
 go_enter Tryz.func12, Tryz.ntmps12
 go_wp2_with fail
 go_loopw [7, 8] (fun s7 _ wr => ∃ i : Nat, s7 = .int .i64 i ∧ i ≤ N ∧ Hid (errs (k.drop i) = 0) ∧ Below w.heap.size w wr) (fun s7 _ _ => N - (intOf s7).toNat)
 case atStart => exact ⟨0, rfl, Nat.zero_le _, HE0, Below.refl _ _⟩
 case round =>
  obtain ⟨i, rfl, hi, hd, hb⟩ := hrel
  by_cases hlt : i < N
  ·obtain ⟨v, hvk⟩ : ∃ v, k[i]? = some v := ⟨_, List.getElem?_eq_getElem (by have := HN.out; omega)⟩
   obtain ⟨c1, c2, c3⟩ := HVC.out _ hb i v hvk
   have CK := mkHid (CKS.out i v hvk hd.out)
   have hd2 := mkHid (NXT.out i v hvk hd.out)
   have i1 : (i : Int) < (N : Int) := by omega
   clear hvk hd
   go_wp2_with (go_at_call 34; refine (CK.out _).mono ?_; rintro e w1 ⟨rfl, hb2⟩)
   go_roundw
   case rel => exact ⟨i + 1, by go_num, hlt, hd2, hb.trans (hb2.mono hb.size)⟩
   case measure => simp [intOf]; omega
  ·obtain rfl : N = i := by omega
   clear hd
   rename World => wo
   have hbo := hb
   clear hb HE0 CKS NXT nz n4
   go_wp2_with fail
   go_loopw [9, 10] (fun s9 _ wr => ∃ i : Nat, s9 = .int .i64 i ∧ i ≤ ND ∧ Hid (dupU true k id (D.take i) = false) ∧ Below w.heap.size w wr) (fun s9 _ _ => ND - (intOf s9).toNat)
   case atStart => exact ⟨0, rfl, Nat.zero_le _, rfl, hbo⟩
   case round =>
    obtain ⟨j, rfl, hj, hd, hb⟩ := hrel
    clear hbo
    by_cases hlt : j < ND
    ·obtain ⟨m, gx, ox, hm, rfl, c0, c1⟩ := EN.out j wr hlt hb
     obtain ⟨t0, t1⟩ := TB.out wr hb
     have RWm := mkHid (RW.out j m wr hm hb)
     have KP : Hid (∀ w2, Below wr.heap.size wr w2 → Below w.heap.size w w2 ∧ w2.cell? ⟨gx, ox + j * 2 + 1, none⟩ = some (.int .u64 m.e.id) ∧ w2.cell? ⟨dd, 0, none⟩ = some (.bool true) ∧ w2.cell? ⟨dd, 1, none⟩ = some (.slice (some ⟨gx, ox, none⟩) ND CD)) := fun w2 h2 => by
      have hb2 := hb.trans (h2.mono hb.size)
      obtain ⟨m', gx', ox', hm', e1, _, d1⟩ := EN.out j w2 hlt hb2
      cases e1
      rw [hm] at hm'
      cases hm'
      exact ⟨hb2, d1, (TB.out w2 hb2).1, (TB.out w2 hb2).2⟩
     have i1 : (j : Int) < (ND : Int) := by omega
     have i2 : (0 : Int) ≤ (j : Int) := by omega
     have HM := mkHid hm
     clear hm EN
     have NO : Hid (¬ (rowsV m.e.key k = 0 ∧ (m.e.id = id ∨ NUL = false)) → dupU true k id (D.take (j + 1)) = false) := fun h => any_next HM.out (dupU_no (by rw [← HNUL.out]; exact h)) hd.out
     by_cases h1 : rowsV m.e.key k = 0
     ·rw [h1] at RWm
      by_cases h2 : m.e.id = id
      ·have FN : Hid (∀ w2, Below w.heap.size w w2 → DuU true T w dd D k id (.returned (.int .i64 50)) w2) := fun w2 hw2 => Or.inl ⟨any_hit HM.out (by rw [decide_eq_true h1, decide_eq_true h2]; rfl), rfl, hw2⟩
       have he : (m.e.id == id) = true := by rw [beq_iff_eq]; exact h2
       clear h1 h2 NO hd
       go_wp2_with (go_at_call 18; refine RWm.out.mono ?_; rintro e w2 ⟨rfl, b2⟩; obtain ⟨bw2, u0, u1, u2⟩ := KP.out w2 b2)
       go_ret
       exact FN.out _ bw2
      ·have he : (m.e.id == id) = false := by rw [beq_eq_false_iff_ne]; exact h2
       cases NUL with
       | true =>
        have hd2 := mkHid (NO.out (fun h => by rcases h.2 with h | h; exact h2 h; cases h))
        clear h1 h2 NO hd
        go_wp2_with (first | (go_at_call 18; refine RWm.out.mono ?_; rintro e w2 ⟨rfl, b2⟩; obtain ⟨bw2, u0, u1, u2⟩ := KP.out w2 b2) | (go_at_call 35; refine (HLW.out _ bw2).mono ?_; rintro e w7 ⟨rfl, hw7⟩; have hw8 := hw7.symm; subst hw8; clear hw7))
        go_roundw
        case rel => exact ⟨j + 1, by go_num, hlt, hd2, bw2⟩
        case measure => simp [intOf]; omega
       | false =>
        have FN : Hid (∀ w2, Below w.heap.size w w2 → DuU true T w dd D k id (.returned (.int .i64 50)) w2) := fun w2 hw2 => Or.inl ⟨any_hit HM.out (by rw [decide_eq_true h1, ← HNUL.out]; simp), rfl, hw2⟩
        clear h1 h2 NO hd
        go_wp2_with (first | (go_at_call 18; refine RWm.out.mono ?_; rintro e w2 ⟨rfl, b2⟩; obtain ⟨bw2, u0, u1, u2⟩ := KP.out w2 b2) | (go_at_call 35; refine (HLW.out _ bw2).mono ?_; rintro e w7 ⟨rfl, hw7⟩; have hw8 := hw7.symm; subst hw8; clear hw7))
        go_ret
        exact FN.out _ bw2
     ·have he : (rowsV m.e.key k == 0) = false := by rw [beq_eq_false_iff_ne]; exact h1
      have hd2 := mkHid (NO.out (fun h => h1 h.1))
      clear h1 NO hd
      go_wp2_with (go_at_call 18; refine RWm.out.mono ?_; rintro e w2 ⟨rfl, b2⟩; obtain ⟨bw2, u0, u1, u2⟩ := KP.out w2 b2)
      go_roundw
      case rel => exact ⟨j + 1, by go_num, hlt, hd2, bw2⟩
      case measure => simp [intOf]; omega
    ·obtain rfl : ND = j := by omega
     have HDP : Hid (dupU true k id D = false) := by
      have := hd.out
      rw [List.take_of_length_le (by rw [HND.out]; exact Nat.le_refl _)] at this
      exact this
     obtain ⟨t0, t1⟩ := TB.out wr hb
     clear hd EN RW
     by_cases hfull : 4096 ≤ ND
     ·have hg : (ND : Int) ≥ 4096 := by omega
      go_wp2_with fail
      go_ret
      exact Or.inr (Or.inl ⟨HDP.out, by rw [← HND.out]; exact hfull, rfl, hb⟩)
     ·have hg : ¬ ((ND : Int) ≥ 4096) := by omega
      obtain ⟨cap, wA, r17, s17, g17, z17⟩ := rwVa.clone wr ⟨g, go, none⟩ k.length cq (fl vaE k) (fl_len (enc := vaE) (s := 3) (fun _ => rfl) k) (fun j u hj => by rw [add_plain]; exact HVL.out _ hb j u hj) HL.out.1 (by have := HL.out.2; omega)
      obtain ⟨vA, hcap⟩ := clone_vals s17 (by omega)
      have bA : Below wr.heap.size wr wA := below_none g17 (Nat.le_refl _)
      rw [← HN.out] at r17 hcap
      have HCAP := mkHid hcap
      obtain ⟨w3, hw3⟩ : ∃ w3, w3 = wA.alloc (.cells #[.slice (some ⟨wr.heap.size + 1, 0, none⟩) N cap, .int .u64 id] 54) := ⟨_, rfl⟩
      have m3 : w3.heap[wA.heap.size]? = some (.cells #[.slice (some ⟨wr.heap.size + 1, 0, none⟩) N cap, .int .u64 id] 54 (0, 0)) := by rw [hw3]; exact heap_alloc_new _ _
      have bA3 : Below wA.heap.size wA w3 := by rw [hw3]; exact (Below.refl _ wA).alloc (Nat.le_refl _) _
      have bw3 : Below w.heap.size w w3 := (hb.trans (bA.mono hb.size)).trans (bA3.mono (Nat.le_trans hb.size bA.size))
      have v3 := vA.below bA3
      obtain ⟨A, hA⟩ : ∃ A, A = place ltM (tgt ⟨k, id⟩) D := ⟨_, rfl⟩
      have AT : Hid (Calls Tryz.prog 36 #[.pointer (some ⟨dd, 0, none⟩), .agg #[.slice (some ⟨wr.heap.size + 1, 0, none⟩) N cap, .int .u64 id]] w3 fun e w' => e = .returned (.int .i64 (A : Int)) ∧ Below w3.heap.size w3 w') := by
       have := at_any T dd true D PD ND CD ⟨k, id⟩ (some ⟨wr.heap.size + 1, 0, none⟩) cap w3 (HD.out.below bw3) HND.out (by omega) ⟨Or.inr ⟨_, rfl, v3⟩, HF.out⟩
       simp only [enV] at this
       rw [← HN.out, ← hA] at this
       exact this
      have hAl : A ≤ ND := by rw [hA, HND.out]; exact place_le _ _ _
      have HAA := mkHid hA
      have V3 := mkHid v3
      have M3 := mkHid m3
      have BW3 := mkHid bw3
      have GE := mkHid (show w.heap.size ≤ wr.heap.size + 1 from Nat.le_succ_of_le hb.size)
      clear s17 g17 z17 vA bA bA3 v3 m3 bw3 hb hA hcap
      go_wp2_with (at_builtin; refine wp_app 30 rfl (.tmp 86) (.tmp 87) rfl rfl rfl r17 ?_)
      rw [← hw3]
      clear hw3 r17 t0 t1
      refine AT.out.mono ?_
      rintro e w4 ⟨rfl, b4⟩
      have hd4 := HD.out.below (BW3.out.trans (b4.mono BW3.out.size))
      have VM : Hid (valsAt w4 (wr.heap.size + 1) k) := V3.out.below b4
      have HD4 := mkHid hd4
      have BW4 : Hid (Below w.heap.size w w4) := BW3.out.trans (b4.mono BW3.out.size)
      have M4 := mkHid ((b4.block _ (lt_of_heap M3.out)).trans M3.out)
      have x0 : w4.cell? ⟨wA.heap.size, 0, none⟩ = some (.slice (some ⟨wr.heap.size + 1, 0, none⟩) N cap) := (cell_of_block M4.out 0).trans rfl
      have x1 : w4.cell? ⟨wA.heap.size, 1, none⟩ = some (.int .u64 id) := (cell_of_block M4.out 1).trans rfl
      have FIN : Hid (∀ w9 p9 n9 c9, n9 = D.length + 1 → Below w4.heap.size w4 w9 → shr w9 54 2 (.slice p9 n9 c9) n9 (fl emE (D.take A ++ (⟨⟨k, id⟩, wr.heap.size + 1, cap⟩ : Em) :: D.drop A)) → fresh (.slice p9 n9 c9) w4.heap.size → DuU true T w dd D k id (.returned (.int .i64 0)) (w9.setCell ⟨dd, 1, none⟩ (.slice p9 n9 c9))) := fun w9 p9 n9 c9 hn b9 s9 f9 => by
       subst hn
       have bx := (HD4.out.below b9).box
       have hins : D.take A ++ (⟨⟨k, id⟩, wr.heap.size + 1, cap⟩ : Em) :: D.drop A = ins ltM ⟨⟨k, id⟩, wr.heap.size + 1, cap⟩ D := by
        have e : A = place ltM ⟨⟨k, id⟩, wr.heap.size + 1, cap⟩ D := HAA.out
        unfold ins
        rw [e, take_place, drop_place]
       have hcg : Chg (fun b => b = dd) w (w9.setCell ⟨dd, 1, none⟩ (.slice p9 (D.length + 1) c9)) := chg_set ((show Chg (fun b => b = dd) w w4 from chg_bl BW4.out).trans (chg_bl b9)) ⟨dd, 1, none⟩ _ rfl
       have hk9 : Keeps T w4 (w9.setCell ⟨dd, 1, none⟩ (.slice p9 (D.length + 1) c9)) := (Keeps.of_below b9).trans (Keeps.set _ HO.out)
       have hkm : KeyOk T w4 (⟨⟨k, id⟩, wr.heap.size + 1, cap⟩ : Em) := ⟨HT.out _ GE.out, VM.out, HL.out.1, HL.out.2, by show k.length ≤ cap; rw [← HN.out]; exact HCAP.out, HF.out⟩
       refine Or.inr (Or.inr ⟨HDP.out, by rw [← HND.out]; omega, rfl, ⟨⟨k, id⟩, wr.heap.size + 1, cap⟩, p9, c9, rfl, ⟨heap_set_in bx, ?_, fun y hy => ?_⟩, hcg⟩)
       ·rw [← hins]
        have hl : (D.take A ++ (⟨⟨k, id⟩, wr.heap.size + 1, cap⟩ : Em) :: D.drop A).length = D.length + 1 := by rw [List.length_append, List.length_cons, List.length_take, List.length_drop]; have := HND.out; omega
        rw [hl]
        refine ⟨s9.kept (Chg.of_cell _ _ _) (fun b hb e => ?_), fun b hb => HT.out b (Nat.le_trans BW4.out.size (f9 b hb))⟩
        have := f9 b hb
        have := lt_of_heap HD4.out.box
        change b = dd at e
        omega
       ·rw [← hins, List.mem_append, List.mem_cons] at hy
        rcases hy with hy | rfl | hy
        ·exact (HD4.out.keys y (List.mem_of_mem_take hy)).keeps hk9
        ·exact hkm.keeps hk9
        ·exact (HD4.out.keys y (List.mem_of_mem_drop hy)).keeps hk9
      obtain ⟨hND4, hNC, hP0, hPs⟩ := doc_row hd4
      clear hND4
      have i1 : (0 : Int) ≤ (A : Int) := by omega
      have i2 : (A : Int) ≤ (CD : Int) := by omega
      have i3 : (A : Int) ≤ (ND : Int) := by omega
      have U : Hid (∀ W, Below w4.heap.size w4 W → W.cell? ⟨dd, 1, none⟩ = some (.slice PD ND CD) ∧ W.frozen? ⟨dd, 1, none⟩ = false ∧ W.cell? ⟨wA.heap.size, 0, none⟩ = some (.slice (some ⟨wr.heap.size + 1, 0, none⟩) N cap) ∧ W.cell? ⟨wA.heap.size, 1, none⟩ = some (.int .u64 id)) := fun W hW => by
       have h1 := (HD4.out.below hW).box
       have h2 := (hW.block _ (lt_of_heap M4.out)).trans M4.out
       exact ⟨(cell_of_block h1 1).trans rfl, unfrozen_of_block h1 1, (cell_of_block h2 0).trans rfl, (cell_of_block h2 1).trans rfl⟩
      clear AT V3 M3 BW3 hd4 b4 HD TB HP
      cases PD with
      | none =>
       obtain ⟨rfl, rfl⟩ := hP0 rfl
       obtain rfl : A = 0 := by omega
       obtain ⟨p6, c6, w6, p8, c8, w8, p9, c9, w9, n9, e9, r19, r20, r21, s9, f9, b6, b8, b9⟩ := ins_rows w4 D ⟨⟨k, id⟩, wr.heap.size + 1, cap⟩ 0 0 0 0 none none HND.out (Nat.le_refl _) (by omega) (fun _ => ⟨rfl, rfl⟩) (fun _ => ⟨rfl, rfl⟩) (fun W _ ad h => by cases h) (fun W _ ad h => by cases h)
       clear hPs hP0
       have F9 := mkHid (FIN.out w9 p9 n9 c9 e9 b9 s9 f9)
       simp only at r20
       rw [← HN.out] at r20
       obtain ⟨a1, a2, a3, a4⟩ := U.out (w4.alloc (.cells #[] 54)) ((Below.refl _ w4).alloc (Nat.le_refl _) _)
       obtain ⟨a5, a6, a7, a8⟩ := U.out w6 b6
       obtain ⟨a9, a10, _, _⟩ := U.out w8 b8
       obtain ⟨a11, a12, _, _⟩ := U.out w9 b9
       clear FIN s9 f9 e9 U b6 b8 b9 x0 x1
       go_wp2_with (first | (at_builtin; refine wp_app 26 rfl (.tmp 94) (.tmp 100) rfl rfl rfl r19 ?_; clear r19) | (at_builtin; refine wp_app 26 rfl (.tmp 102) (.tmp 104) rfl rfl rfl r20 ?_; clear r20) | (at_builtin; refine wp_app 26 rfl (.tmp 107) (.tmp 113) rfl rfl rfl r21 ?_; clear r21))
       go_ret
       exact F9.out
      | some ad =>
       obtain ⟨gx, ox, rfl, hgx, hcs⟩ := hPs ad rfl
       obtain ⟨VX, hVX⟩ : ∃ V, V = if CD = A then some (⟨gx, ox, none⟩ : Addr) else some ⟨gx, ox + A * 2, none⟩ := ⟨_, rfl⟩
       have hVs : VX ≠ none := by rw [hVX]; split <;> exact fun h => by cases h
       obtain ⟨p6, c6, w6, p8, c8, w8, p9, c9, w9, n9, e9, r19, r20, r21, s9, f9, b6, b8, b9⟩ := ins_rows w4 D ⟨⟨k, id⟩, wr.heap.size + 1, cap⟩ A ND CD (CD - A) (some ⟨gx, ox, none⟩) VX HND.out hAl zD (fun h => by cases h) (fun h => absurd h hVs)
        (fun W hW ad h j u hj => by
         cases h
         rw [add_plain]
         have hj' : (fl emE D)[j]? = some u := by
          have hlt := (List.getElem?_eq_some_iff.1 hj).1
          rw [← fl_take emE_len, List.getElem?_take] at hj
          split at hj
          ·exact hj
          ·cases hj
         exact (hW.cell (p := ⟨gx, ox + j, none⟩) hgx).trans (hcs j u hj'))
        (fun W hW ad h j u hj => by
         have hj' : (fl emE D)[A * 2 + j]? = some u := by rw [← fl_drop emE_len, List.getElem?_drop] at hj; exact hj
         by_cases hCA : CD = A
         ·have := (List.getElem?_eq_some_iff.1 hj').1
          rw [fl_len (s := 2) emE_len] at this
          have := HND.out
          omega
         ·rw [hVX, if_neg hCA] at h
          cases h
          rw [add_plain, Nat.add_assoc]
          exact (hW.cell (p := ⟨gx, ox + (A * 2 + j), none⟩) hgx).trans (hcs _ u hj'))
       clear hPs hP0 hcs hgx hVs
       have F9 := mkHid (FIN.out w9 p9 n9 c9 e9 b9 s9 f9)
       simp only at r20
       rw [← HN.out] at r20
       obtain ⟨a1, a2, a3, a4⟩ := U.out (w4.alloc (.cells #[] 54)) ((Below.refl _ w4).alloc (Nat.le_refl _) _)
       obtain ⟨a5, a6, a7, a8⟩ := U.out w6 b6
       obtain ⟨a9, a10, _, _⟩ := U.out w8 b8
       obtain ⟨a11, a12, _, _⟩ := U.out w9 b9
       clear FIN s9 f9 e9 U b6 b8 b9 x0 x1
       by_cases hCA : CD = A
       ·rw [if_pos hCA] at hVX
        subst hVX
        go_wp2_with (first | (at_builtin; refine wp_app 26 rfl (.tmp 94) (.tmp 100) rfl rfl rfl r19 ?_; clear r19) | (at_builtin; refine wp_app 26 rfl (.tmp 102) (.tmp 104) rfl rfl rfl r20 ?_; clear r20) | (at_builtin; refine wp_app 26 rfl (.tmp 107) (.tmp 113) rfl rfl rfl r21 ?_; clear r21))
        go_ret
        exact F9.out
       ·rw [if_neg hCA] at hVX
        subst hVX
        go_wp2_with (first | (at_builtin; refine wp_app 26 rfl (.tmp 94) (.tmp 100) rfl rfl rfl r19 ?_; clear r19) | (at_builtin; refine wp_app 26 rfl (.tmp 102) (.tmp 104) rfl rfl rfl r20 ?_; clear r20) | (at_builtin; refine wp_app 26 rfl (.tmp 107) (.tmp 113) rfl rfl rfl r21 ?_; clear r21))
        go_ret
        exact F9.out
theorem docPut_u (u : Bool) (T : Nat → Prop) (k : List Va) (id : Int) (q : Option Addr) (cq dd : Nat) (D : List Em) (PD : Option Addr) (ND CD : Nat) (w : World) (hd : DocIn T w dd u D (.slice PD ND CD)) (zD : ND ≤ 100000) (hk : rowOff w q k) (fk : ∀ v ∈ k, fit v.n) (hE : keyE k = 0) (hT : ∀ b, w.heap.size ≤ b → T b) (ho : ¬ T dd) :
  Calls Tryz.prog 12 #[.pointer (some ⟨dd, 0, none⟩), .slice q k.length cq, .int .u64 id] w fun e w' => DuU u T w dd D k id e w' := by
 cases u with
 | true => exact docPut_t T k id q cq dd D PD ND CD w hd zD hk fk hE hT ho
 | false => exact (docPut_ok_off T k id q cq dd D PD ND CD w hd zD hk fk hE hT ho).mono (fun e w' h => by unfold DuU; rw [dupU_false]; exact h)
end Go.Proofs.YtclcajnodoifjaaGreatDoor

namespace Go.Proofs.YtclcajnodoifjaaGreatDoor
open Go.RowKit Go.Shelf Go.Joins Go.Maps
set_option maxRecDepth 100000

end Go.Proofs.YtclcajnodoifjaaGreatDoor

namespace Go.Proofs.YtclcajnodoifjaaGreatDoor
open Go.RowKit Go.Shelf Go.Joins Go.Maps
set_option maxRecDepth 100000

/-- the tree and the document's, side by side, of either kind -/
structure PrU (u : Bool) (T : Nat → Prop) (w : World) (bt dd : Nat) (L D : List Em) : Prop where
 tr : ∃ d n p1 n1 c1 p2 n2 c2, RtIn T w d (min d 1) n (.slice p1 n1 c1) (.slice p2 n2 c2) ∧ w.heap[bt]? = some (trO u (.slice p1 n1 c1) (.slice p2 n2 c2) (L.length : Int)) ∧ n.fl = L
 dc : ∃ PD CD, DocIn T w dd u D (.slice PD D.length CD)
 ag : AgL L D
 few : L.length ≤ 4096
 ne : dd ≠ bt
theorem PrU.chg {u : Bool} {T S : Nat → Prop} {w w' : World} {bt dd : Nat} {L D : List Em} (h : PrU u T w bt dd L D) (hc : Chg S w w') (hs : ∀ b, S b → ¬ T b) (h1 : ¬ S bt) (h2 : ¬ S dd) : PrU u T w' bt dd L D := by
 obtain ⟨d, n, p1, n1, c1, p2, n2, c2, a1, a2, a3⟩ := h.tr
 obtain ⟨PD, CD, hd⟩ := h.dc
 exact ⟨⟨d, n, p1, n1, c1, p2, n2, c2, a1.keeps (chg_keepT hc hs), hc.at_ a2 h1, a3⟩, ⟨PD, CD, hd.chg hc hs h2⟩, h.ag, h.few, h.ne⟩
theorem PrU.mono {u : Bool} {T U : Nat → Prop} {w : World} {bt dd : Nat} {L D : List Em} (h : PrU u T w bt dd L D) (hu : ∀ b, b < w.heap.size → T b → U b) : PrU u U w bt dd L D := by
 obtain ⟨d, n, p1, n1, c1, p2, n2, c2, a1, a2, a3⟩ := h.tr
 obtain ⟨PD, CD, hd⟩ := h.dc
 exact ⟨⟨d, n, p1, n1, c1, p2, n2, c2, ⟨a1.nd.mono hu, a1.wf, a1.ne, a1.up⟩, a2, a3⟩, ⟨PD, CD, hd.mono hu⟩, h.ag, h.few, h.ne⟩
theorem PrU.below {u : Bool} {T : Nat → Prop} {w w' : World} {bt dd : Nat} {L D : List Em} (h : PrU u T w bt dd L D) (hb : Below w.heap.size w w') : PrU u T w' bt dd L D := h.chg (S := fun _ => False) (chg_bl hb) (fun _ e => e.elim) (fun e => e) (fun e => e)
theorem PrU.riseL {u : Bool} {T : Nat → Prop} {w : World} {bt dd : Nat} {L D : List Em} (h : PrU u T w bt dd L D) : Rise ltM L := by
 obtain ⟨d, n, p1, n1, c1, p2, n2, c2, a1, a2, rfl⟩ := h.tr
 exact a1.up
theorem kep_isN (v : Va) : isN (kepV v) = isN v := by
 have : (kepV v).ty = v.ty := by
  unfold kepV
  split
  ·simp_all
  ·split <;> simp_all
 unfold isN
 rw [this]
theorem kep_any (k : List Va) : (k.map kepV).any isN = k.any isN := by
 rw [List.any_map]
 congr 1
 funext v
 exact kep_isN v
theorem rows_like {a b x y : List Va} (h : rowsV a b = 0) (g : rowsV x y = 0) : rowsV a x = 0 ↔ rowsV b y = 0 := by
 have t1 := od_rowsV.turn a b
 have t2 := od_rowsV.turn x y
 have key : ∀ {a b x y : List Va}, rowsV a b ≤ 0 → rowsV b a ≤ 0 → rowsV x y ≤ 0 → rowsV y x ≤ 0 → rowsV a x = 0 → rowsV b y = 0 := fun {a b x y} h1 h2 h3 h4 e => by
  have t := od_rowsV.turn b y
  have t' := od_rowsV.turn a x
  have e1 : rowsV b y ≤ 0 := od_rowsV.trans _ _ _ h2 (od_rowsV.trans _ _ _ (by omega : rowsV a x ≤ 0) h3)
  have e2 : rowsV y b ≤ 0 := od_rowsV.trans _ _ _ h4 (od_rowsV.trans _ _ _ (by omega : rowsV x a ≤ 0) h1)
  omega
 exact ⟨key (by omega) (by omega) (by omega) (by omega), key (by omega) (by omega) (by omega) (by omega)⟩
theorem agl_any {k k' : List Va} (hk : rowsV k' k = 0) : ∀ {L D : List Em}, AgL L D → L.any (keyB k') = D.any (keyB k)
 | [], [], _ => rfl
 | [], d :: D, h => by have := h.1; simp at this
 | e :: L, [], h => by have := h.1; simp at this
 | e :: L, d :: D, h => by
  obtain ⟨h1, h2⟩ := agl_cons.1 h
  have hb : keyB k' e = keyB k d := by
   unfold keyB
   congr 1
   exact propext (rows_like h1.2.1 hk)
  rw [List.any_cons, List.any_cons, hb, agl_any hk h2]
theorem ofKey_any (k : List Va) (L : List Em) : (!(ofKey k L).isEmpty) = L.any (keyB k) := by
 rw [Bool.eq_iff_iff, Bool.not_eq_true', ← Bool.not_eq_true, List.isEmpty_iff, List.any_eq_true]
 constructor
 ·intro h
  obtain ⟨z, hz⟩ := List.exists_mem_of_ne_nil _ h
  obtain ⟨h1, h2⟩ := ofKey_mem.1 hz
  exact ⟨z, h1, decide_eq_true h2⟩
 ·rintro ⟨z, h1, h2⟩ h3
  have : z ∈ ofKey k L := ofKey_mem.2 ⟨h1, of_decide_eq_true h2⟩
  rw [h3] at this
  cases this
theorem clash_dup_u {u : Bool} {k : List Va} {id : Int} {L D : List Em} (hE : errs k = 0) (h : AgL L D) : clB u ⟨k.map kepV, id⟩ L = dupU u k id D := by
 cases u with
 | false => rw [dupU_false]; exact clash_dup hE h
 | true =>
  cases hn : k.any isN with
  | true =>
   have e1 : clB true ⟨k.map kepV, id⟩ L = clB false ⟨k.map kepV, id⟩ L := by
    unfold clB
    rw [if_neg (by show ¬ (true = true ∧ (k.map kepV).any isN = false); rw [kep_any, hn]; simp), if_neg (by simp)]
   rw [e1, clash_dup hE h]
   unfold dupB dupU
   rw [hn]
   simp
  | false =>
   have e1 : clB true ⟨k.map kepV, id⟩ L = !(ofKey (k.map kepV) L).isEmpty := by
    unfold clB
    rw [if_pos ⟨rfl, by show (k.map kepV).any isN = false; rw [kep_any, hn]⟩]
   rw [e1, ofKey_any, agl_any (kep_row hE) h]
   unfold dupU keyB
   rw [hn]
   simp
theorem clB_less {u : Bool} {y : En} {L : List Em} (h : clB u y L = false) : clB false y L = false := by
 cases u with
 | false => exact h
 | true =>
  unfold clB at h ⊢
  rw [if_neg (by simp)]
  split at h
  ·rw [Bool.not_eq_false', List.isEmpty_iff] at h ⊢
   rw [List.eq_nil_iff_forall_not_mem]
   intro z hz
   obtain ⟨h1, h2⟩ := ofEn_mem.1 hz
   have : z ∈ ofKey y.key L := ofKey_mem.2 ⟨h1, (ordE_zero.1 h2).1⟩
   rw [h] at this
   cases this
  ·exact h
set_option maxHeartbeats 2000000 in
theorem both_put_u (u : Bool) (T : Nat → Prop) (bt dd : Nat) (L D : List Em) (k : List Va) (id : Int) (q1 : Option Addr) (c1 : Nat) (q2 : Option Addr) (c2 : Nat) (w : World) (h : PrU u T w bt dd L D) (hT : ∀ b, w.heap.size ≤ b → T b) (h1 : ¬ T bt) (h2 : ¬ T dd) (hk1 : rowAt w q1 k) (hk2 : rowOff w q2 k) (fk : ∀ v ∈ k, fit v.n) (hs : ∀ v ∈ k, v.s.size ≤ 9223372036854775807) (hl : k.length ≤ 1000000000) (hTb : Tabs w) :
  Calls Tryz.prog 8 #[.pointer (some ⟨bt, 0, none⟩), .slice q1 k.length c1, .int .u64 id] w fun e W => ∃ x, e = .returned (.int .i64 x) ∧ Chg (fun b => b = bt) w W ∧ Calls Tryz.prog 12 #[.pointer (some ⟨dd, 0, none⟩), .slice q2 k.length c2, .int .u64 id] W fun e2 W2 => e2 = .returned (.int .i64 x) ∧ Chg (fun b => b = dd) W W2 ∧ ∃ L' D', PrU u T W2 bt dd L' D' := by
 obtain ⟨d, n, p1, n1, d1, p2, n2, d2, a1, a2, a3⟩ := h.tr
 obtain ⟨PD, CD, hd⟩ := h.dc
 have hlen := h.ag.1
 have hfew := h.few
 have hkW : ∀ W, Chg (fun b => b = bt) w W → 0 < k.length → rowOff W q2 k := fun W hW h0 => hk2.chg hW (fun g off _ hv e => by
  subst e
  exact not_box_off hv h0 a2)
 have hdW : ∀ W, Chg (fun b => b = bt) w W → DocIn T W dd u D (.slice PD D.length CD) := fun W hW => hd.chg hW (fun b e ht => h1 (e ▸ ht)) h.ne
 have same : ∀ W, Below w.heap.size w W → PrU u T W bt dd L D := fun W hW => h.chg (S := fun _ => False) (chg_bl hW) (fun _ e => e.elim) (fun e => e) (fun e => e)
 by_cases hE : keyE k = 0
 ·obtain ⟨l1, l2, l3⟩ := keyE_zero hE
  have hcd := clash_dup_u (u := u) (id := id) l3 h.ag
  have dp : ∀ W, Chg (fun b => b = bt) w W → Calls Tryz.prog 12 #[.pointer (some ⟨dd, 0, none⟩), .slice q2 k.length c2, .int .u64 id] W fun e w' => DuU u T W dd D k id e w' := fun W hW => docPut_u u T k id q2 c2 dd D PD D.length CD W (hdW W hW) (by omega) (hkW W hW l1) fk hE (fun b hb => hT b (Nat.le_trans hW.size hb)) h2
  refine (Put_ok T k id q1 c1 d bt n p1 n1 d1 p2 n2 d2 u L.length w a1 a2 hk1 fk hs hTb hE hT h1 (by omega) (by omega)).mono (fun e W hq => ?_)
  rw [a3] at hq
  rcases hq with ⟨x1, x2, x3⟩ | ⟨x1, x2, x3, x4⟩ | ⟨x1, x2, x3, m, x4, x5⟩
  ·have hc : Chg (fun b => b = bt) w W := chg_bl x3
   refine ⟨50, x2, hc, (dp W hc).mono (fun e2 W2 hq2 => ?_)⟩
   rw [hcd] at x1
   rcases hq2 with ⟨y1, y2, y3⟩ | ⟨y1, _⟩ | ⟨y1, _⟩
   ·exact ⟨y2, chg_bl y3, L, D, same W2 (x3.trans (y3.mono x3.size))⟩
   ·rw [x1] at y1; cases y1
   ·rw [x1] at y1; cases y1
  ·have hc : Chg (fun b => b = bt) w W := chg_bl x4
   refine ⟨2, x3, hc, (dp W hc).mono (fun e2 W2 hq2 => ?_)⟩
   rw [hcd] at x1
   rcases hq2 with ⟨y1, y2, y3⟩ | ⟨y1, y2, y3, y4⟩ | ⟨y1, y2, y3⟩
   ·rw [x1] at y1; cases y1
   ·exact ⟨y3, chg_bl y4, L, D, same W2 (x4.trans (y4.mono x4.size))⟩
   ·omega
  ·have hr := ins_rise (e := m) ord3M h.riseL (fun x hx => clash_none (clB_less x1) x hx m x4)
   obtain ⟨d', n', p1', n1', d1', p2', n2', d2', b1, b2, b3⟩ := trq_rt x5 hr
   obtain ⟨_, _, _, _, _, _, _, _, _, _, _, _, hc⟩ := x5
   refine ⟨0, x3, hc, (dp W hc).mono (fun e2 W2 hq2 => ?_)⟩
   rw [hcd] at x1
   rcases hq2 with ⟨y1, y2, y3⟩ | ⟨y1, y2, y3, y4⟩ | ⟨y1, y2, y3, m', p', c', y4, y5, y6⟩
   ·rw [x1] at y1; cases y1
   ·omega
   ·refine ⟨y3, y6, ins ltM m L, ins ltM m' D, ⟨⟨d', n', p1', n1', d1', p2', n2', d2', b1.keeps (chg_keepT y6 (fun b e ht => h2 (e ▸ ht))), ?_, b3⟩, ⟨p', c', ?_⟩, agl_ins ?_ h.ag, ?_, h.ne⟩⟩
    ·rw [ins_len]
     exact y6.at_ b2 (fun e => h.ne e.symm)
    ·rw [ins_len]; exact y5
    ·rw [x4, y4]
     exact ⟨rfl, kep_row l3, by simp⟩
    ·rw [ins_len]; omega
 ·refine (Put_bad k id q1 c1 bt w hl hk1 hs hTb hE).mono (fun e W hq => ?_)
  have hc : Chg (fun b => b = bt) w W := chg_bl hq.2
  refine ⟨keyE k, hq.1, hc, (docPut_bad_off k id q2 c2 dd W hl (hk2.below hq.2) hE).mono (fun e2 W2 hq2 => ?_)⟩
  exact ⟨hq2.1, chg_bl hq2.2, L, D, same W2 (hq.2.trans (hq2.2.mono hq.2.size))⟩
set_option maxHeartbeats 2000000 in
theorem both_drop_u (u : Bool) (T : Nat → Prop) (bt dd : Nat) (L D : List Em) (k : List Va) (id : Int) (q1 : Option Addr) (c1 : Nat) (q2 : Option Addr) (c2 : Nat) (w : World) (h : PrU u T w bt dd L D) (hT : ∀ b, w.heap.size ≤ b → T b) (h1 : ¬ T bt) (h2 : ¬ T dd) (hk1 : rowAt w q1 k) (hk2 : rowOff w q2 k) (fk : ∀ v ∈ k, fit v.n) :
  Calls Tryz.prog 9 #[.pointer (some ⟨bt, 0, none⟩), .slice q1 k.length c1, .int .u64 id] w fun e W => ∃ x, e = .returned (.bool x) ∧ Chg (fun b => b = bt) w W ∧ Calls Tryz.prog 19 #[.pointer (some ⟨dd, 0, none⟩), .slice q2 k.length c2, .int .u64 id] W fun e2 W2 => e2 = .returned (.bool x) ∧ Chg (fun b => b = dd) W W2 ∧ ∃ L' D', PrU u T W2 bt dd L' D' := by
 obtain ⟨d, n, p1, n1, d1, p2, n2, d2, a1, a2, a3⟩ := h.tr
 obtain ⟨PD, CD, hd⟩ := h.dc
 have hlen := h.ag.1
 have hfew := h.few
 have hr := agl_rise h.ag h.riseL
 have hof := agl_of (x := ⟨k, id⟩) h.ag
 have hat := at_of (x := ⟨k, id⟩) hr
 have hkW : ∀ W, Chg (fun b => b = bt) w W → EnOff W q2 ⟨k, id⟩ := fun W hW => by
  refine ⟨?_, fk⟩
  by_cases h0 : 0 < k.length
  ·exact hk2.chg hW (fun g off _ hv e => by subst e; exact not_box_off hv h0 a2)
  ·exact Or.inl (List.eq_nil_of_length_eq_zero (by show k.length = 0; omega))
 have hdW : ∀ W, Chg (fun b => b = bt) w W → DocIn T W dd u D (.slice PD D.length CD) := fun W hW => hd.chg hW (fun b e ht => h1 (e ▸ ht)) h.ne
 have dp : ∀ W, Chg (fun b => b = bt) w W → Calls Tryz.prog 19 #[.pointer (some ⟨dd, 0, none⟩), .slice q2 k.length c2, .int .u64 id] W fun e w' => DdQ T W dd u D ⟨k, id⟩ e w' := fun W hW => docDrop_off T ⟨k, id⟩ q2 c2 dd u D PD D.length CD W (hdW W hW) (by omega) (hkW W hW) (fun b hb => hT b (Nat.le_trans hW.size hb)) h2
 by_cases hx : ofEn ⟨k, id⟩ L = []
 ·rw [hof.1 hx] at hat
  refine (Drop_no_off T ⟨k, id⟩ q1 c1 d bt n p1 n1 d1 p2 n2 d2 u L.length w a1 a2 ⟨hk1.off, fk⟩ (by rw [a3]; exact hx)).mono (fun e W hq => ?_)
  have hc : Chg (fun b => b = bt) w W := chg_bl hq.2
  refine ⟨false, hq.1, hc, (dp W hc).mono (fun e2 W2 hq2 => ?_)⟩
  rcases hq2 with ⟨y1, y2, y3⟩ | ⟨y1, _⟩
  ·exact ⟨y2, chg_bl y3, L, D, h.chg (S := fun _ => False) (chg_bl (hq.2.trans (y3.mono hq.2.size))) (fun _ e => e.elim) (fun e => e) (fun e => e)⟩
  ·rw [hat] at y1; cases y1
 ·have hx2 : ofEn ⟨k, id⟩ D ≠ [] := fun e => hx (hof.2 e)
  have hat2 : atB ⟨k, id⟩ D = true := by
   rw [hat]
   cases hh : ofEn ⟨k, id⟩ D with
   | nil => exact absurd hh hx2
   | cons => rfl
  have hpos : 1 ≤ L.length := by
   cases hL : L with
   | nil => rw [hL] at hx; exact absurd rfl hx
   | cons => simp
  refine (Drop_yes_off T ⟨k, id⟩ q1 c1 d bt n p1 n1 d1 p2 n2 d2 u L.length w a1 a2 ⟨hk1.off, fk⟩ (tgt ⟨k, id⟩) rfl hT h1 (by rw [a3]; exact hx) (by omega) (by omega)).mono (fun e W hq => ?_)
  obtain ⟨q1', x5⟩ := hq
  rw [a3] at x5
  obtain ⟨d', n', p1', n1', d1', p2', n2', d2', b1, b2, b3⟩ := trq_rt x5 (del_rise h.riseL)
  obtain ⟨_, _, _, _, _, _, _, _, _, _, _, _, hc⟩ := x5
  refine ⟨true, q1', hc, (dp W hc).mono (fun e2 W2 hq2 => ?_)⟩
  rcases hq2 with ⟨y1, _⟩ | ⟨y1, y2, p', c', y5, y6⟩
  ·rw [hat2] at y1; cases y1
  ·have hcut := cut_del hr hat2
   have hag := agl_del (m := tgt ⟨k, id⟩) (x := tgt ⟨k, id⟩) (by have := od_ordE.turn (tgt ⟨k, id⟩).e (tgt ⟨k, id⟩).e; omega) h.ag
   have hA : place ltM (tgt ⟨k, id⟩) D < D.length := by
    cases hy : D[place ltM (tgt ⟨k, id⟩) D]? with
    | none => unfold atB at hat2; rw [hy] at hat2; cases hat2
    | some y => exact (List.getElem?_eq_some_iff.1 hy).1
   have hdl : (del ltM (tgt ⟨k, id⟩) D).length = D.length - 1 := by
    rw [← hcut, List.length_append, List.length_take, List.length_drop]; omega
   have hll : (del ltM (tgt ⟨k, id⟩) L).length = L.length - 1 := by rw [hag.1, hdl]; omega
   rw [hcut] at y5
   refine ⟨y2, y6, del ltM (tgt ⟨k, id⟩) L, del ltM (tgt ⟨k, id⟩) D, ⟨⟨d', n', p1', n1', d1', p2', n2', d2', b1.keeps (chg_keepT y6 (fun b e ht => h2 (e ▸ ht))), ?_, b3⟩, ⟨p', c', ?_⟩, hag, by omega, h.ne⟩⟩
   ·rw [hll]
    have e : ((L.length - 1 : Nat) : Int) = (L.length : Int) - 1 := by omega
    rw [e]
    exact y6.at_ b2 (fun e => h.ne e.symm)
   ·rw [hdl]; exact y5
end Go.Proofs.YtclcajnodoifjaaGreatDoor

namespace Go.Proofs.YtclcajnodoifjaaGreatDoor
open Go.RowKit Go.Shelf Go.Joins Go.Maps
set_option maxRecDepth 100000

theorem pr_count_u {u : Bool} {T : Nat → Prop} {w : World} {bt dd : Nat} {L D : List Em} (h : PrU u T w bt dd L D) (P1 P2 : Option Addr) (C1 C2 : Nat) (low high : List Va) (li hi : Bool) (h1 : rowAt w P1 low) (h2 : rowAt w P2 high) (hP1 : P1 = none → C1 = 0) (hP2 : P2 = none → C2 = 0) (z1 : low.length ≤ 1000000000) (z2 : high.length ≤ 1000000000) (y1 : ∀ v ∈ low, fit v.n) (y2 : ∀ v ∈ high, fit v.n) :
  Calls Tryz.prog 14 #[.pointer (some ⟨bt, 0, none⟩), .agg #[.slice P1 low.length C1, .slice P2 high.length C2, .bool li, .bool hi]] w fun e w' => e = .returned (.int .i64 ((btw low high li hi L).length : Int)) ∧ Below w.heap.size w w' := by
 obtain ⟨d, n, p1, n1, c1, p2, n2, c2, a1, a2, rfl⟩ := h.tr
 have hf : (btw low high li hi n.fl).length ≤ n.fl.length := List.length_filter_le _ _
 have := h.few
 exact Count_any T d (min d 1) bt n p1 n1 c1 p2 n2 c2 P1 P2 C1 C2 low high li hi w a1 (trO_cells a2).1 (trO_cells a2).2 h1 h2 hP1 hP2 z1 z2 y1 y2 (by omega)
theorem pr_goes_u {u : Bool} {T : Nat → Prop} {w : World} {bt dd : Nat} {L D : List Em} (h : PrU u T w bt dd L D) (back : Bool) (P1 P2 : Option Addr) (C1 C2 : Nat) (low high : List Va) (li hi : Bool) (E : List Em) (PE : Option Addr) (CE : Nat) (stop : Int) (h1 : rowOff w P1 low) (h2 : rowOff w P2 high) (z1 : low.length ≤ 1000000000) (z2 : high.length ≤ 1000000000) (y1 : ∀ v ∈ low, fit v.n) (y2 : ∀ v ∈ high, fit v.n)
  (hE : rowT T w 54 2 (.slice PE E.length CE) E.length (fl emE E)) (hS : ∀ q ∈ E, q ∈ D) (zE : E.length ≤ D.length) (ag : AgL (btw low high li hi L) E) :
  Calls Tryz.prog 13 #[.pointer (some ⟨bt, 0, none⟩), .agg #[.slice P1 low.length C1, .slice P2 high.length C2, .bool li, .bool hi], .bool back, .slice PE E.length CE, .int .i64 stop] w fun e w' => e = .returned (.bool true) ∧ Below w.heap.size w w' := by
 obtain ⟨d, n, p1, n1, c1, p2, n2, c2, a1, a2, rfl⟩ := h.tr
 obtain ⟨PD, CD, hd⟩ := h.dc
 have hl := h.ag.1
 have := h.few
 have hk : ∀ q ∈ E, KeyOk T w q := fun q hq => hd.keys q (hS q hq)
 cases back with
 | false => exact goes_on_off T d (min d 1) bt n p1 n1 c1 p2 n2 c2 P1 P2 C1 C2 low high li hi PE CE E stop w a1 (trO_cells a2).1 (trO_cells a2).2 h1 h2 z1 z2 y1 y2 hE hk (by omega) ag
 | true => exact goes_back_off T d (min d 1) bt n p1 n1 c1 p2 n2 c2 P1 P2 C1 C2 low high li hi PE CE E stop w a1 (trO_cells a2).1 (trO_cells a2).2 h1 h2 z1 z2 y1 y2 hE hk (by omega) ag
theorem pr_ends_u {u : Bool} {T : Nat → Prop} {w : World} {bt dd : Nat} {L D : List Em} (h : PrU u T w bt dd L D) :
  Calls Tryz.prog 11 #[.pointer (some ⟨bt, 0, none⟩), .pointer (some ⟨dd, 0, none⟩)] w fun e w' => e = .returned (.bool true) ∧ Below w.heap.size w w' := by
 obtain ⟨d, n, p1, n1, c1, p2, n2, c2, a1, a2, rfl⟩ := h.tr
 obtain ⟨PD, CD, hd⟩ := h.dc
 have hl := h.ag.1
 have := h.few
 exact ends_any T d (min d 1) bt n p1 n1 c1 p2 n2 c2 u u _ dd D PD D.length CD w a1 a2 rfl hd rfl (by omega) h.ag
end Go.Proofs.YtclcajnodoifjaaGreatDoor

