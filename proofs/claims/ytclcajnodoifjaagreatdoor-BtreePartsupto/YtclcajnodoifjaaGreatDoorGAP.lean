/-
  The walk of the document's Put: a key that can be, in a tree in which keys may stand twice.
-/
import Derived.Test.YtclcajnodoifjaaGreatDoorGAO
namespace Go.Proofs.YtclcajnodoifjaaGreatDoor
open Go.RowKit Go.Shelf Go.Joins Go.Maps
set_option maxRecDepth 100000

/-- an entry that is there already -/
def dupB (k : List Va) (id : Int) (D : List Em) : Bool := D.any (fun q => decide (rowsV q.e.key k = 0) && decide (q.e.id = id))
theorem dup_no {m : Em} {k : List Va} {id : Int} (h : ¬ (rowsV m.e.key k = 0 ∧ m.e.id = id)) : (decide (rowsV m.e.key k = 0) && decide (m.e.id = id)) = false := by
  rw [Bool.and_eq_false_iff, decide_eq_false_iff_not, decide_eq_false_iff_not]
  by_cases h1 : rowsV m.e.key k = 0
  · exact Or.inr (fun h2 => h ⟨h1, h2⟩)
  · exact Or.inl h1
/-- what the document's Put leaves -/
def DuQ (T : Nat → Prop) (w : World) (dd : Nat) (D : List Em) (k : List Va) (id : Int) (e : Ending) (w' : World) : Prop :=
  (dupB k id D = true ∧ e = .returned (.int .i64 50) ∧ Below w.heap.size w w') ∨ (dupB k id D = false ∧ 4096 ≤ D.length ∧ e = .returned (.int .i64 2) ∧ Below w.heap.size w w') ∨ (dupB k id D = false ∧ D.length < 4096 ∧ e = .returned (.int .i64 0) ∧ ∃ m p' c', m.e = ⟨k, id⟩ ∧ DocIn T w' dd false (ins ltM m D) (.slice p' (D.length + 1) c') ∧ Chg (fun b => b = dd) w w')
theorem doc_row {T : Nat → Prop} {w : World} {dd : Nat} {u : Bool} {D : List Em} {PD : Option Addr} {ND CD : Nat} (h : DocIn T w dd u D (.slice PD ND CD)) : ND = D.length ∧ ND ≤ CD ∧ (PD = none → ND = 0 ∧ CD = 0) ∧ ∀ ad, PD = some ad → ∃ gx ox, ad = ⟨gx, ox, none⟩ ∧ gx < w.heap.size ∧ ∀ j u, (fl emE D)[j]? = some u → w.cell? ⟨gx, ox + j, none⟩ = some u := by
  obtain ⟨p, c, e1, e2, e3, e4⟩ := h.row.form
  cases e1
  exact ⟨rfl, e2, e3, e4⟩
theorem empty_row (w : World) : shr (w.alloc (.cells #[] 54)) 54 2 (.slice (some ⟨w.heap.size, 0, none⟩) 0 0) 0 [] := ⟨by simp, Or.inr ⟨w.heap.size, 0, 0, #[], rfl, heap_alloc_new _ _, Nat.le_refl _, Nat.zero_le _, Or.inl rfl, fun j u hj => by simp at hj⟩⟩
/-- a list with an entry put in, built of its two parts -/
theorem ins_rows (w4 : World) (D : List Em) (m : Em) (A ND C1 C2 : Nat) (P1 P2 : Option Addr) (hND : ND = D.length) (hA : A ≤ ND) (hz : ND ≤ 100000) (hP1 : P1 = none → A = 0 ∧ C1 = 0) (hP2 : P2 = none → ND - A = 0 ∧ C2 = 0)
    (h1 : ∀ W, Below w4.heap.size w4 W → ∀ ad, P1 = some ad → ∀ j u, (fl emE (D.take A))[j]? = some u → W.cell? (ad.add j) = some u) (h2 : ∀ W, Below w4.heap.size w4 W → ∀ ad, P2 = some ad → ∀ j u, (fl emE (D.drop A))[j]? = some u → W.cell? (ad.add j) = some u) :
    ∃ p6 c6 w6 p8 c8 w8 p9 c9 w9 n9, n9 = D.length + 1 ∧ (∀ ty, (Builtin.append_ #[26, 26] ty #[.slice (some ⟨w4.heap.size, 0, none⟩) 0 0, .slice P1 A C1]).run Tryz.prog (w4.alloc (.cells #[] 54)) = .ok (.slice p6 A c6) w6) ∧
      (∀ ty, (Builtin.append_ #[26, 26] ty #[.slice p6 A c6, .slice (some ⟨w6.heap.size, 0, none⟩) 1 1]).run Tryz.prog (w6.alloc (.cells #[.slice (some ⟨m.g, 0, none⟩) m.e.key.length m.c, .int .u64 m.e.id] 54)) = .ok (.slice p8 (A + 1) c8) w8) ∧
      (∀ ty, (Builtin.append_ #[26, 26] ty #[.slice p8 (A + 1) c8, .slice P2 (ND - A) C2]).run Tryz.prog w8 = .ok (.slice p9 n9 c9) w9) ∧ shr w9 54 2 (.slice p9 n9 c9) n9 (fl emE (D.take A ++ m :: D.drop A)) ∧ fresh (.slice p9 n9 c9) w4.heap.size ∧ Below w4.heap.size w4 w6 ∧ Below w4.heap.size w4 w8 ∧ Below w4.heap.size w4 w9 := by
  have b5 : Below w4.heap.size w4 (w4.alloc (.cells #[] 54)) := (Below.refl _ w4).alloc (Nat.le_refl _) _
  obtain ⟨p6, c6, w6, r6, s6, f6, b6⟩ := rwDE.appA (P := P1) (c := C1) (m := A) (B := w4.heap.size) (empty_row w4) (fun g h => by cases h; exact Nat.le_refl _) b5.size (fl_len (s := 2) emE_len _ |>.trans (by rw [List.length_take]; congr 1; omega)) hP1 (h1 _ b5) (fl_one emE_one _) (by omega)
  rw [Nat.zero_add] at r6 s6 f6
  rw [List.nil_append] at s6
  have b46 : Below w4.heap.size w4 w6 := b5.trans b6
  have b7 : Below w6.heap.size w6 (w6.alloc (.cells #[.slice (some ⟨m.g, 0, none⟩) m.e.key.length m.c, .int .u64 m.e.id] 54)) := (Below.refl _ w6).alloc (Nat.le_refl _) _
  have b47 := b46.trans (b7.mono b46.size)
  have s7 : shr (w6.alloc (.cells #[.slice (some ⟨m.g, 0, none⟩) m.e.key.length m.c, .int .u64 m.e.id] 54)) 54 2 (.slice p6 A c6) A (fl emE (D.take A)) := s6.kept (chg_bl b7) (fun _ _ h => h)
  obtain ⟨p8, c8, w8, r8, s8, f8, b8⟩ := rwDE.appA (P := some ⟨w6.heap.size, 0, none⟩) (c := 1) (m := 1) (news := emE m) s7 f6 b47.size rfl (fun h => by cases h) (fun ad h j u hj => by cases h; rw [add_plain, Nat.zero_add]; exact (cell_of_block (heap_alloc_new _ _) j).trans (by rw [← hj]; simp [emE])) (emE_one m) (by omega)
  have b48 := b47.trans b8
  obtain ⟨p9, c9, w9, r9, s9, f9, b9⟩ := rwDE.appA (P := P2) (c := C2) (m := ND - A) s8 f8 b48.size (fl_len (s := 2) emE_len _ |>.trans (by rw [List.length_drop]; congr 1; omega)) hP2 (h2 _ b48) (fl_one emE_one _) (by omega)
  refine ⟨p6, c6, w6, p8, c8, w8, p9, c9, w9, A + 1 + (ND - A), by omega, r6, r8, r9, ?_, f9, b46, b48, b48.trans b9⟩
  have e : fl emE (D.take A ++ m :: D.drop A) = fl emE (D.take A) ++ emE m ++ fl emE (D.drop A) := by rw [fl_app, fl_cons, List.append_assoc]
  rw [e]
  exact s9
theorem clone_vals {w2 : World} {b n cap : Nat} {k : List Va} (s : shr w2 40 3 (.slice (some ⟨b, 0, none⟩) n cap) n (fl vaE k)) (hb : b < w2.heap.size) : valsAt w2 b k ∧ n ≤ cap := by
  obtain ⟨p, c', e1, e2, _⟩ := s.form
  cases e1
  obtain ⟨g', off, e3, e4⟩ := s.cell
  cases e3
  exact ⟨valsAt.mk hb (fun j u hj => by have := e4 j u hj; rwa [Nat.zero_add] at this), e2⟩
set_option maxHeartbeats 3000000 in
set_option maxRecDepth 1000000 in
theorem docPut_ok (T : Nat → Prop) (k : List Va) (id : Int) (q : Option Addr) (cq dd : Nat) (D : List Em) (PD : Option Addr) (ND CD : Nat) (w : World) (hd : DocIn T w dd false D (.slice PD ND CD)) (zD : ND ≤ 100000) (hk : rowAt w q k) (fk : ∀ v ∈ k, fit v.n) (hE : keyE k = 0) (hT : ∀ b, w.heap.size ≤ b → T b) (ho : ¬ T dd) :
    Calls Tryz.prog 12 #[.pointer (some ⟨dd, 0, none⟩), .slice q k.length cq, .int .u64 id] w fun e w' => DuQ T w dd D k id e w' := by
  obtain ⟨l1, l2, l3⟩ := keyE_zero hE
  obtain ⟨g, rfl, hv⟩ : ∃ g, q = some ⟨g, 0, none⟩ ∧ valsAt w g k := by
    rcases hk with h | h
    · rw [h] at l1; cases l1
    · exact h
  obtain ⟨hND, hNC, hP0, hPs⟩ := doc_row hd
  have nz : ((k.length : Int) == 0) = false := by rw [beq_eq_false_iff_ne]; omega
  have n4 : ¬ ((k.length : Int) > 4) := by omega
  have HV := mkHid hv
  have CKS : Hid (∀ i v, k[i]? = some v → errs (k.drop i) = 0 → ∀ w, Calls Tryz.prog 34 #[.agg #[.int .i64 v.ty, .int .i64 v.n, .string v.s]] w fun e w' => e = .returned (.int .i64 0) ∧ Below w.heap.size w w') := fun i v hi he w => by
    have := refCheck_any v.ty v.n v.s w
    rw [drop_at hi] at he
    have hz : v.chk = 0 := by
      by_cases h : v.chk = 0
      · exact h
      · rw [errs_stop h] at he; exact absurd he h
    rw [show chk v.ty v.n v.s = 0 from hz] at this
    exact this
  have NXT : Hid (∀ i v, k[i]? = some v → errs (k.drop i) = 0 → errs (k.drop (i + 1)) = 0) := fun i v hi he => by
    rw [drop_at hi] at he
    by_cases h : v.chk = 0
    · rwa [errs_pass h] at he
    · rw [errs_stop h] at he; exact absurd he h
  have RW : Hid (∀ (i : Nat) (m : Em) W, D[i]? = some m → Below w.heap.size w W → Calls Tryz.prog 18 #[.slice (some ⟨m.g, 0, none⟩) m.e.key.length m.c, .slice (some ⟨g, 0, none⟩) k.length cq] W fun e w' => e = .returned (.int .i64 (rowsV m.e.key k)) ∧ Below W.heap.size W w') := fun i m W hi hW => by
    have km := (hd.keys m (List.mem_of_getElem? hi)).keeps (Keeps.of_below hW)
    exact refRows_any _ _ m.c cq m.e.key k W (by have := km.few; omega) (Or.inr ⟨_, rfl, km.vals⟩) (Or.inr ⟨_, rfl, hv.below hW⟩) km.fits fk
  have EN : Hid (∀ (i : Nat) W, i < ND → Below w.heap.size w W → ∃ m gx ox, D[i]? = some m ∧ PD = some ⟨gx, ox, none⟩ ∧ W.cell? ⟨gx, ox + i * 2, none⟩ = some (.slice (some ⟨m.g, 0, none⟩) m.e.key.length m.c) ∧ W.cell? ⟨gx, ox + i * 2 + 1, none⟩ = some (.int .u64 m.e.id)) := fun i W hi hW => by
    obtain ⟨m, hm⟩ : ∃ m, D[i]? = some m := ⟨_, List.getElem?_eq_getElem (by omega)⟩
    cases hP : PD with
    | none => have := (hP0 hP).1; omega
    | some ad =>
      obtain ⟨gx, ox, rfl, _, _⟩ := hPs ad hP
      rw [hP] at hd
      obtain ⟨a1, a2, _, _⟩ := (hd.below hW).entry hm
      exact ⟨m, gx, ox, hm, rfl, a1, a2⟩
  have TB : Hid (∀ W, Below w.heap.size w W → W.cell? ⟨dd, 0, none⟩ = some (.bool false) ∧ W.cell? ⟨dd, 1, none⟩ = some (.slice PD ND CD)) := fun W hW => ⟨(cell_of_block (hd.below hW).box 0).trans rfl, (cell_of_block (hd.below hW).box 1).trans rfl⟩
  have HD := mkHid hd
  have HT := mkHid hT
  have HO := mkHid ho
  have HE0 : Hid (errs (k.drop 0) = 0) := l3
  have HND := mkHid hND
  have HL : Hid (0 < k.length ∧ k.length ≤ 4) := ⟨l1, l2⟩
  have HF := mkHid fk
  have HP := mkHid (And.intro hP0 hPs)
  obtain ⟨N, hN⟩ : ∃ N, N = k.length := ⟨_, rfl⟩
  have HN := mkHid hN
  rw [← hN] at nz n4 RW ⊢
  have iNC : (ND : Int) ≤ (CD : Int) := by omega
  clear hd hk fk hE hT ho l1 l2 l3 hv hND hP0 hPs hN hNC
  go_enter Tryz.func12, Tryz.ntmps12
  go_wp2_with fail
  go_loopw [7, 8] (fun s7 _ wr => ∃ i : Nat, s7 = .int .i64 i ∧ i ≤ N ∧ Hid (errs (k.drop i) = 0) ∧ Below w.heap.size w wr) (fun s7 _ _ => N - (intOf s7).toNat)
  case atStart => exact ⟨0, rfl, Nat.zero_le _, HE0, Below.refl _ _⟩
  case round =>
    obtain ⟨i, rfl, hi, hd, hb⟩ := hrel
    by_cases hlt : i < N
    · obtain ⟨v, hvk⟩ : ∃ v, k[i]? = some v := ⟨_, List.getElem?_eq_getElem (by have := HN.out; omega)⟩
      obtain ⟨c1, c2, c3⟩ := (HV.out.below hb).2 i v hvk
      have CK := mkHid (CKS.out i v hvk hd.out)
      have hd2 := mkHid (NXT.out i v hvk hd.out)
      have i1 : (i : Int) < (N : Int) := by omega
      clear hvk hd
      go_wp2_with (go_at_call 34; refine (CK.out _).mono ?_; rintro e w1 ⟨rfl, hb2⟩)
      go_roundw
      case rel => exact ⟨i + 1, by go_num, hlt, hd2, hb.trans (hb2.mono hb.size)⟩
      case measure => simp [intOf]; omega
    · obtain rfl : N = i := by omega
      clear hd
      rename World => wo
      have hbo := hb
      clear hb HE0 CKS NXT nz n4
      go_wp2_with fail
      go_loopw [9, 10] (fun s9 _ wr => ∃ i : Nat, s9 = .int .i64 i ∧ i ≤ ND ∧ Hid (dupB k id (D.take i) = false) ∧ Below w.heap.size w wr) (fun s9 _ _ => ND - (intOf s9).toNat)
      case atStart => exact ⟨0, rfl, Nat.zero_le _, rfl, hbo⟩
      case round =>
        obtain ⟨j, rfl, hj, hd, hb⟩ := hrel
        clear hbo
        by_cases hlt : j < ND
        · obtain ⟨m, gx, ox, hm, rfl, c0, c1⟩ := EN.out j wr hlt hb
          obtain ⟨t0, t1⟩ := TB.out wr hb
          have RWm := mkHid (RW.out j m wr hm hb)
          have KP : Hid (∀ w2, Below wr.heap.size wr w2 → Below w.heap.size w w2 ∧ w2.cell? ⟨gx, ox + j * 2 + 1, none⟩ = some (.int .u64 m.e.id) ∧ w2.cell? ⟨dd, 0, none⟩ = some (.bool false) ∧ w2.cell? ⟨dd, 1, none⟩ = some (.slice (some ⟨gx, ox, none⟩) ND CD)) := fun w2 h2 => by
            have hb2 := hb.trans (h2.mono hb.size)
            obtain ⟨m', gx', ox', hm', e1, _, d1⟩ := EN.out j w2 hlt hb2
            cases e1
            rw [hm] at hm'
            cases hm'
            exact ⟨hb2, d1, (TB.out w2 hb2).1, (TB.out w2 hb2).2⟩
          have i1 : (j : Int) < (ND : Int) := by omega
          have i2 : (0 : Int) ≤ (j : Int) := by omega
          have HM := mkHid hm
          clear hm EN
          have NO : Hid (¬ (rowsV m.e.key k = 0 ∧ m.e.id = id) → dupB k id (D.take (j + 1)) = false) := fun h => any_next HM.out (dup_no h) hd.out
          by_cases h1 : rowsV m.e.key k = 0
          · rw [h1] at RWm
            by_cases h2 : m.e.id = id
            · have FN : Hid (∀ w2, Below w.heap.size w w2 → DuQ T w dd D k id (.returned (.int .i64 50)) w2) := fun w2 hw2 => Or.inl ⟨any_hit HM.out (by rw [Bool.and_eq_true, decide_eq_true_eq, decide_eq_true_eq]; exact ⟨h1, h2⟩), rfl, hw2⟩
              have he : (m.e.id == id) = true := by rw [beq_iff_eq]; exact h2
              clear h1 h2 NO hd
              go_wp2_with (go_at_call 18; refine RWm.out.mono ?_; rintro e w2 ⟨rfl, b2⟩; obtain ⟨bw2, u0, u1, u2⟩ := KP.out w2 b2)
              go_ret
              exact FN.out _ bw2
            · have he : (m.e.id == id) = false := by rw [beq_eq_false_iff_ne]; exact h2
              have hd2 := mkHid (NO.out (fun h => h2 h.2))
              clear h1 h2 NO hd
              go_wp2_with (go_at_call 18; refine RWm.out.mono ?_; rintro e w2 ⟨rfl, b2⟩; obtain ⟨bw2, u0, u1, u2⟩ := KP.out w2 b2)
              go_roundw
              case rel => exact ⟨j + 1, by go_num, hlt, hd2, bw2⟩
              case measure => simp [intOf]; omega
          · have he : (rowsV m.e.key k == 0) = false := by rw [beq_eq_false_iff_ne]; exact h1
            have hd2 := mkHid (NO.out (fun h => h1 h.1))
            clear h1 NO hd
            go_wp2_with (go_at_call 18; refine RWm.out.mono ?_; rintro e w2 ⟨rfl, b2⟩; obtain ⟨bw2, u0, u1, u2⟩ := KP.out w2 b2)
            go_roundw
            case rel => exact ⟨j + 1, by go_num, hlt, hd2, bw2⟩
            case measure => simp [intOf]; omega
        · obtain rfl : ND = j := by omega
          have HDP : Hid (dupB k id D = false) := by
            have := hd.out
            rw [List.take_of_length_le (by rw [HND.out]; exact Nat.le_refl _)] at this
            exact this
          obtain ⟨t0, t1⟩ := TB.out wr hb
          clear hd EN RW
          by_cases hfull : 4096 ≤ ND
          · have hg : (ND : Int) ≥ 4096 := by omega
            go_wp2_with fail
            go_ret
            exact Or.inr (Or.inl ⟨HDP.out, by rw [← HND.out]; exact hfull, rfl, hb⟩)
          · have hg : ¬ ((ND : Int) ≥ 4096) := by omega
            obtain ⟨cap, wA, r17, s17, g17, z17⟩ := rwVa.clone wr ⟨g, 0, none⟩ k.length cq (fl vaE k) (fl_len (enc := vaE) (s := 3) (fun _ => rfl) k) (fun j u hj => by rw [add_plain, Nat.zero_add]; exact (HV.out.below hb).cells j u hj) HL.out.1 (by have := HL.out.2; omega)
            obtain ⟨vA, hcap⟩ := clone_vals s17 (by omega)
            have bA : Below wr.heap.size wr wA := below_none g17 (Nat.le_refl _)
            rw [← HN.out] at r17 hcap
            have HCAP := mkHid hcap
            obtain ⟨w3, hw3⟩ : ∃ w3, w3 = wA.alloc (.cells #[.slice (some ⟨wr.heap.size + 1, 0, none⟩) N cap, .int .u64 id] 54) := ⟨_, rfl⟩
            have m3 : w3.heap[wA.heap.size]? = some (.cells #[.slice (some ⟨wr.heap.size + 1, 0, none⟩) N cap, .int .u64 id] 54 (0, 0)) := by rw [hw3]; exact heap_alloc_new _ _
            have bA3 : Below wA.heap.size wA w3 := by rw [hw3]; exact (Below.refl _ wA).alloc (Nat.le_refl _) _
            have bw3 : Below w.heap.size w w3 := (hb.trans (bA.mono hb.size)).trans (bA3.mono (Nat.le_trans hb.size bA.size))
            have v3 := vA.below bA3
            obtain ⟨A, hA⟩ : ∃ A, A = place ltM (tgt ⟨k, id⟩) D := ⟨_, rfl⟩
            have AT : Hid (Calls Tryz.prog 36 #[.pointer (some ⟨dd, 0, none⟩), .agg #[.slice (some ⟨wr.heap.size + 1, 0, none⟩) N cap, .int .u64 id]] w3 fun e w' => e = .returned (.int .i64 (A : Int)) ∧ Below w3.heap.size w3 w') := by
              have := at_any T dd false D PD ND CD ⟨k, id⟩ (some ⟨wr.heap.size + 1, 0, none⟩) cap w3 (HD.out.below bw3) HND.out (by omega) ⟨Or.inr ⟨_, rfl, v3⟩, HF.out⟩
              simp only [enV] at this
              rw [← HN.out, ← hA] at this
              exact this
            have hAl : A ≤ ND := by rw [hA, HND.out]; exact place_le _ _ _
            have HAA := mkHid hA
            have V3 := mkHid v3
            have M3 := mkHid m3
            have BW3 := mkHid bw3
            have GE := mkHid (show w.heap.size ≤ wr.heap.size + 1 from Nat.le_succ_of_le hb.size)
            clear s17 g17 z17 vA bA bA3 v3 m3 bw3 hb hA hcap
            go_wp2_with (at_builtin; refine wp_app 30 rfl (.tmp 86) (.tmp 87) rfl rfl rfl r17 ?_)
            rw [← hw3]
            clear hw3 r17 t0 t1
            refine AT.out.mono ?_
            rintro e w4 ⟨rfl, b4⟩
            have hd4 := HD.out.below (BW3.out.trans (b4.mono BW3.out.size))
            have VM : Hid (valsAt w4 (wr.heap.size + 1) k) := V3.out.below b4
            have HD4 := mkHid hd4
            have BW4 : Hid (Below w.heap.size w w4) := BW3.out.trans (b4.mono BW3.out.size)
            have M4 := mkHid ((b4.block _ (lt_of_heap M3.out)).trans M3.out)
            have x0 : w4.cell? ⟨wA.heap.size, 0, none⟩ = some (.slice (some ⟨wr.heap.size + 1, 0, none⟩) N cap) := (cell_of_block M4.out 0).trans rfl
            have x1 : w4.cell? ⟨wA.heap.size, 1, none⟩ = some (.int .u64 id) := (cell_of_block M4.out 1).trans rfl
            have FIN : Hid (∀ w9 p9 n9 c9, n9 = D.length + 1 → Below w4.heap.size w4 w9 → shr w9 54 2 (.slice p9 n9 c9) n9 (fl emE (D.take A ++ (⟨⟨k, id⟩, wr.heap.size + 1, cap⟩ : Em) :: D.drop A)) → fresh (.slice p9 n9 c9) w4.heap.size → DuQ T w dd D k id (.returned (.int .i64 0)) (w9.setCell ⟨dd, 1, none⟩ (.slice p9 n9 c9))) := fun w9 p9 n9 c9 hn b9 s9 f9 => by
              subst hn
              have bx := (HD4.out.below b9).box
              have hins : D.take A ++ (⟨⟨k, id⟩, wr.heap.size + 1, cap⟩ : Em) :: D.drop A = ins ltM ⟨⟨k, id⟩, wr.heap.size + 1, cap⟩ D := by
                have e : A = place ltM ⟨⟨k, id⟩, wr.heap.size + 1, cap⟩ D := HAA.out
                unfold ins
                rw [e, take_place, drop_place]
              have hcg : Chg (fun b => b = dd) w (w9.setCell ⟨dd, 1, none⟩ (.slice p9 (D.length + 1) c9)) := chg_set ((show Chg (fun b => b = dd) w w4 from chg_bl BW4.out).trans (chg_bl b9)) ⟨dd, 1, none⟩ _ rfl
              have hk9 : Keeps T w4 (w9.setCell ⟨dd, 1, none⟩ (.slice p9 (D.length + 1) c9)) := (Keeps.of_below b9).trans (Keeps.set _ HO.out)
              have hkm : KeyOk T w4 (⟨⟨k, id⟩, wr.heap.size + 1, cap⟩ : Em) := ⟨HT.out _ GE.out, VM.out, HL.out.1, HL.out.2, by show k.length ≤ cap; rw [← HN.out]; exact HCAP.out, HF.out⟩
              refine Or.inr (Or.inr ⟨HDP.out, by rw [← HND.out]; omega, rfl, ⟨⟨k, id⟩, wr.heap.size + 1, cap⟩, p9, c9, rfl, ⟨heap_set_in bx, ?_, fun y hy => ?_⟩, hcg⟩)
              · rw [← hins]
                have hl : (D.take A ++ (⟨⟨k, id⟩, wr.heap.size + 1, cap⟩ : Em) :: D.drop A).length = D.length + 1 := by rw [List.length_append, List.length_cons, List.length_take, List.length_drop]; have := HND.out; omega
                rw [hl]
                refine ⟨s9.kept (Chg.of_cell _ _ _) (fun b hb e => ?_), fun b hb => HT.out b (Nat.le_trans BW4.out.size (f9 b hb))⟩
                have := f9 b hb
                have := lt_of_heap HD4.out.box
                change b = dd at e
                omega
              · rw [← hins, List.mem_append, List.mem_cons] at hy
                rcases hy with hy | rfl | hy
                · exact (HD4.out.keys y (List.mem_of_mem_take hy)).keeps hk9
                · exact hkm.keeps hk9
                · exact (HD4.out.keys y (List.mem_of_mem_drop hy)).keeps hk9
            obtain ⟨hND4, hNC, hP0, hPs⟩ := doc_row hd4
            clear hND4
            have i1 : (0 : Int) ≤ (A : Int) := by omega
            have i2 : (A : Int) ≤ (CD : Int) := by omega
            have i3 : (A : Int) ≤ (ND : Int) := by omega
            have U : Hid (∀ W, Below w4.heap.size w4 W → W.cell? ⟨dd, 1, none⟩ = some (.slice PD ND CD) ∧ W.frozen? ⟨dd, 1, none⟩ = false ∧ W.cell? ⟨wA.heap.size, 0, none⟩ = some (.slice (some ⟨wr.heap.size + 1, 0, none⟩) N cap) ∧ W.cell? ⟨wA.heap.size, 1, none⟩ = some (.int .u64 id)) := fun W hW => by
              have h1 := (HD4.out.below hW).box
              have h2 := (hW.block _ (lt_of_heap M4.out)).trans M4.out
              exact ⟨(cell_of_block h1 1).trans rfl, unfrozen_of_block h1 1, (cell_of_block h2 0).trans rfl, (cell_of_block h2 1).trans rfl⟩
            clear AT V3 M3 BW3 hd4 b4 HD TB HP
            cases PD with
            | none =>
              obtain ⟨rfl, rfl⟩ := hP0 rfl
              obtain rfl : A = 0 := by omega
              obtain ⟨p6, c6, w6, p8, c8, w8, p9, c9, w9, n9, e9, r19, r20, r21, s9, f9, b6, b8, b9⟩ := ins_rows w4 D ⟨⟨k, id⟩, wr.heap.size + 1, cap⟩ 0 0 0 0 none none HND.out (Nat.le_refl _) (by omega) (fun _ => ⟨rfl, rfl⟩) (fun _ => ⟨rfl, rfl⟩) (fun W _ ad h => by cases h) (fun W _ ad h => by cases h)
              clear hPs hP0
              have F9 := mkHid (FIN.out w9 p9 n9 c9 e9 b9 s9 f9)
              simp only at r20
              rw [← HN.out] at r20
              obtain ⟨a1, a2, a3, a4⟩ := U.out (w4.alloc (.cells #[] 54)) ((Below.refl _ w4).alloc (Nat.le_refl _) _)
              obtain ⟨a5, a6, a7, a8⟩ := U.out w6 b6
              obtain ⟨a9, a10, _, _⟩ := U.out w8 b8
              obtain ⟨a11, a12, _, _⟩ := U.out w9 b9
              clear FIN s9 f9 e9 U b6 b8 b9 x0 x1
              go_wp2_with (first | (at_builtin; refine wp_app 26 rfl (.tmp 94) (.tmp 100) rfl rfl rfl r19 ?_; clear r19) | (at_builtin; refine wp_app 26 rfl (.tmp 102) (.tmp 104) rfl rfl rfl r20 ?_; clear r20) | (at_builtin; refine wp_app 26 rfl (.tmp 107) (.tmp 113) rfl rfl rfl r21 ?_; clear r21))
              go_ret
              exact F9.out
            | some ad =>
              obtain ⟨gx, ox, rfl, hgx, hcs⟩ := hPs ad rfl
              obtain ⟨VX, hVX⟩ : ∃ V, V = if CD = A then some (⟨gx, ox, none⟩ : Addr) else some ⟨gx, ox + A * 2, none⟩ := ⟨_, rfl⟩
              have hVs : VX ≠ none := by rw [hVX]; split <;> exact fun h => by cases h
              obtain ⟨p6, c6, w6, p8, c8, w8, p9, c9, w9, n9, e9, r19, r20, r21, s9, f9, b6, b8, b9⟩ := ins_rows w4 D ⟨⟨k, id⟩, wr.heap.size + 1, cap⟩ A ND CD (CD - A) (some ⟨gx, ox, none⟩) VX HND.out hAl zD (fun h => by cases h) (fun h => absurd h hVs)
                (fun W hW ad h j u hj => by
                  cases h
                  rw [add_plain]
                  have hj' : (fl emE D)[j]? = some u := by
                    have hlt := (List.getElem?_eq_some_iff.1 hj).1
                    rw [← fl_take emE_len, List.getElem?_take] at hj
                    split at hj
                    · exact hj
                    · cases hj
                  exact (hW.cell (p := ⟨gx, ox + j, none⟩) hgx).trans (hcs j u hj'))
                (fun W hW ad h j u hj => by
                  have hj' : (fl emE D)[A * 2 + j]? = some u := by rw [← fl_drop emE_len, List.getElem?_drop] at hj; exact hj
                  by_cases hCA : CD = A
                  · have := (List.getElem?_eq_some_iff.1 hj').1
                    rw [fl_len (s := 2) emE_len] at this
                    have := HND.out
                    omega
                  · rw [hVX, if_neg hCA] at h
                    cases h
                    rw [add_plain, Nat.add_assoc]
                    exact (hW.cell (p := ⟨gx, ox + (A * 2 + j), none⟩) hgx).trans (hcs _ u hj'))
              clear hPs hP0 hcs hgx hVs
              have F9 := mkHid (FIN.out w9 p9 n9 c9 e9 b9 s9 f9)
              simp only at r20
              rw [← HN.out] at r20
              obtain ⟨a1, a2, a3, a4⟩ := U.out (w4.alloc (.cells #[] 54)) ((Below.refl _ w4).alloc (Nat.le_refl _) _)
              obtain ⟨a5, a6, a7, a8⟩ := U.out w6 b6
              obtain ⟨a9, a10, _, _⟩ := U.out w8 b8
              obtain ⟨a11, a12, _, _⟩ := U.out w9 b9
              clear FIN s9 f9 e9 U b6 b8 b9 x0 x1
              by_cases hCA : CD = A
              · rw [if_pos hCA] at hVX
                subst hVX
                go_wp2_with (first | (at_builtin; refine wp_app 26 rfl (.tmp 94) (.tmp 100) rfl rfl rfl r19 ?_; clear r19) | (at_builtin; refine wp_app 26 rfl (.tmp 102) (.tmp 104) rfl rfl rfl r20 ?_; clear r20) | (at_builtin; refine wp_app 26 rfl (.tmp 107) (.tmp 113) rfl rfl rfl r21 ?_; clear r21))
                go_ret
                exact F9.out
              · rw [if_neg hCA] at hVX
                subst hVX
                go_wp2_with (first | (at_builtin; refine wp_app 26 rfl (.tmp 94) (.tmp 100) rfl rfl rfl r19 ?_; clear r19) | (at_builtin; refine wp_app 26 rfl (.tmp 102) (.tmp 104) rfl rfl rfl r20 ?_; clear r20) | (at_builtin; refine wp_app 26 rfl (.tmp 107) (.tmp 113) rfl rfl rfl r21 ?_; clear r21))
                go_ret
                exact F9.out
end Go.Proofs.YtclcajnodoifjaaGreatDoor

namespace Go.Proofs.YtclcajnodoifjaaGreatDoor
open Go.RowKit Go.Shelf Go.Joins Go.Maps
set_option maxRecDepth 100000

/-- an append by its run, in a region that draws -/
theorem step_appq (t : TypeId) {ops : Array Oper} {o : Oper} {a : Act} {w : World} {K : Act → World → Prop} {Q : Exit → Act → World → Prop} {E : Prop} (hgd : o.guard = none) (s x : Operand) (ho : o.op = .call { callee := .builtin .append, args := #[s, x], argTypes := #[t, t] })
    {v y v' : Value} {w' : World} (hs : a.eval s = v) (hx : a.eval x = y) (hr : ∀ ty, (Builtin.append_ #[t, t] ty #[v, y]).run Tryz.prog w = .ok v' w') (h : K (a.put o.dst v') w') :
    if Region.wanted o (yielded ops a.tmps) = true then Oper.wp Tryz.prog o a w K Q else E := by
  have hwd : Region.wanted o (yielded ops a.tmps) = true := by simp [Region.wanted, hgd]
  rw [if_pos hwd]
  unfold Oper.wp execOp
  simp only [ho, resolve, invoke, builtin, Sem.run_bind, Sem.run_pure, Result.andThen_ok, List.map_toArray, List.map_cons, List.map_nil, hs, hx, hr]
  exact h
/-- is this very entry there -/
def atB (x : En) (D : List Em) : Bool := match D[place ltM (tgt x) D]? with | some y => decide (ordE y.e x = 0) | none => false
/-- what the document's Drop leaves -/
def DdQ (T : Nat → Prop) (w : World) (dd : Nat) (u : Bool) (D : List Em) (x : En) (e : Ending) (w' : World) : Prop :=
  (atB x D = false ∧ e = .returned (.bool false) ∧ Below w.heap.size w w') ∨ (atB x D = true ∧ e = .returned (.bool true) ∧ ∃ p' c', DocIn T w' dd u (D.take (place ltM (tgt x) D) ++ D.drop (place ltM (tgt x) D + 1)) (.slice p' (D.length - 1) c') ∧ Chg (fun b => b = dd) w w')
/-- a list with an entry left out, built of its two parts -/
theorem drop_rows (w4 : World) (D : List Em) (A ND C1 C2 : Nat) (P1 P2 : Option Addr) (hND : ND = D.length) (hA : A + 1 ≤ ND) (hz : ND ≤ 100000) (hP1 : P1 = none → A = 0 ∧ C1 = 0) (hP2 : P2 = none → ND - (A + 1) = 0 ∧ C2 = 0)
    (h1 : ∀ W, Below w4.heap.size w4 W → ∀ ad, P1 = some ad → ∀ j u, (fl emE (D.take A))[j]? = some u → W.cell? (ad.add j) = some u) (h2 : ∀ W, Below w4.heap.size w4 W → ∀ ad, P2 = some ad → ∀ j u, (fl emE (D.drop (A + 1)))[j]? = some u → W.cell? (ad.add j) = some u) :
    ∃ p6 c6 w6 p9 c9 w9 n9, n9 = D.length - 1 ∧ (∀ ty, (Builtin.append_ #[26, 26] ty #[.slice (some ⟨w4.heap.size, 0, none⟩) 0 0, .slice P1 A C1]).run Tryz.prog (w4.alloc (.cells #[] 54)) = .ok (.slice p6 A c6) w6) ∧
      (∀ ty, (Builtin.append_ #[26, 26] ty #[.slice p6 A c6, .slice P2 (ND - (A + 1)) C2]).run Tryz.prog w6 = .ok (.slice p9 n9 c9) w9) ∧ shr w9 54 2 (.slice p9 n9 c9) n9 (fl emE (D.take A ++ D.drop (A + 1))) ∧ fresh (.slice p9 n9 c9) w4.heap.size ∧ Below w4.heap.size w4 w6 ∧ Below w4.heap.size w4 w9 := by
  have b5 : Below w4.heap.size w4 (w4.alloc (.cells #[] 54)) := (Below.refl _ w4).alloc (Nat.le_refl _) _
  obtain ⟨p6, c6, w6, r6, s6, f6, b6⟩ := rwDE.appA (P := P1) (c := C1) (m := A) (B := w4.heap.size) (empty_row w4) (fun g h => by cases h; exact Nat.le_refl _) b5.size (fl_len (s := 2) emE_len _ |>.trans (by rw [List.length_take]; congr 1; omega)) hP1 (h1 _ b5) (fl_one emE_one _) (by omega)
  rw [Nat.zero_add] at r6 s6 f6
  rw [List.nil_append] at s6
  have b46 : Below w4.heap.size w4 w6 := b5.trans b6
  obtain ⟨p9, c9, w9, r9, s9, f9, b9⟩ := rwDE.appA (P := P2) (c := C2) (m := ND - (A + 1)) s6 f6 b46.size (fl_len (s := 2) emE_len _ |>.trans (by rw [List.length_drop]; congr 1; omega)) hP2 (h2 _ b46) (fl_one emE_one _) (by omega)
  refine ⟨p6, c6, w6, p9, c9, w9, A + (ND - (A + 1)), by omega, r6, r9, ?_, f9, b46, b46.trans b9⟩
  rw [fl_app]
  exact s9
end Go.Proofs.YtclcajnodoifjaaGreatDoor

namespace Go.Proofs.YtclcajnodoifjaaGreatDoor
open Go.RowKit Go.Shelf Go.Joins Go.Maps
set_option maxRecDepth 100000

theorem ordV_self (v : Va) : ordV v v = 0 := by have := od_ordV.turn v v; omega
/-- a value that is kept stands where it stood -/
theorem kep_ord {v : Va} (h : v.chk = 0) : ordV (kepV v) v = 0 := by
  have hs := ordV_self v
  unfold Va.chk chk at h
  by_cases h0 : v.ty < 0 ∨ 4 < v.ty ∨ (v.ty = 4 ∧ v.n ≠ 0 ∧ v.n ≠ 1)
  · rw [if_pos h0] at h; cases h
  · have hc : v.ty = 0 ∨ v.ty = 1 ∨ v.ty = 2 ∨ v.ty = 3 ∨ v.ty = 4 := by omega
    rcases hc with e | e | e | e | e <;> simp [ordV, kepV, numC, grp, e] at hs ⊢ <;> exact hs
theorem kep_row : ∀ {k : List Va}, errs k = 0 → rowsV (k.map kepV) k = 0
  | [], _ => rfl
  | v :: k, h => by
    have hv : v.chk = 0 := by
      by_cases hh : v.chk = 0
      · exact hh
      · rw [errs_stop hh] at h; exact h
    rw [errs_pass hv] at h
    show (if ordV (kepV v) v = 0 then rowsV (k.map kepV) k else ordV (kepV v) v) = 0
    rw [if_pos (kep_ord hv)]
    exact kep_row h
theorem ordE_zero {a b : En} : ordE a b = 0 ↔ rowsV a.key b.key = 0 ∧ a.id = b.id := by
  unfold ordE
  split
  · rename_i h
    rw [cmpI_zero]
    exact ⟨fun e => ⟨h, e⟩, fun e => e.2⟩
  · rename_i h
    exact ⟨fun e => absurd e h, fun e => absurd e.1 h⟩
theorem Agr.ord {a b : En} (h : Agr a b) : ordE a b = 0 := ordE_zero.2 ⟨h.2.1, h.1⟩
theorem ord_like {a b x : En} (h : ordE a b = 0) : (ordE a x ≤ 0 ↔ ordE b x ≤ 0) ∧ (ordE x a ≤ 0 ↔ ordE x b ≤ 0) := by
  have t := od_ordE.turn a b
  have h1 : ordE a b ≤ 0 := by omega
  have h2 : ordE b a ≤ 0 := by omega
  exact ⟨⟨fun e => od_ordE.trans _ _ _ h2 e, fun e => od_ordE.trans _ _ _ h1 e⟩, ⟨fun e => od_ordE.trans _ _ _ e h1, fun e => od_ordE.trans _ _ _ e h2⟩⟩
theorem ltE_like {a b x y : En} (h : ordE a b = 0) (g : ordE x y = 0) : ltE a x = ltE b y := by
  have e1 := (ord_like (x := x) h).2
  have e2 := (ord_like (x := b) g).1
  have t1 := od_ordE.turn a x
  have t2 := od_ordE.turn b x
  have t3 := od_ordE.turn b y
  unfold ltE
  congr 1
  apply propext
  omega
theorem zero_like {a b x : En} (h : ordE a b = 0) : ordE a x = 0 ↔ ordE b x = 0 := by
  have e1 := (ord_like (x := x) h).2
  have e2 := (ord_like (x := x) h).1
  have t1 := od_ordE.turn a x
  have t2 := od_ordE.turn b x
  omega
theorem agl_nil : AgL [] [] := ⟨rfl, fun i e d h => by simp at h⟩
theorem agl_cons {e d : Em} {L D : List Em} : AgL (e :: L) (d :: D) ↔ Agr e.e d.e ∧ AgL L D := by
  constructor
  · intro h
    exact ⟨h.2 0 e d rfl rfl, by have := h.1; simpa using this, fun i x y hx hy => h.2 (i + 1) x y (by simpa using hx) (by simpa using hy)⟩
  · rintro ⟨h1, h2⟩
    refine ⟨by simp [h2.1], fun i x y hx hy => ?_⟩
    cases i with
    | zero => simp at hx hy; subst hx; subst hy; exact h1
    | succ i => exact h2.2 i x y (by simpa using hx) (by simpa using hy)
theorem agl_ins {m x : Em} (hm : Agr m.e x.e) : ∀ {L D : List Em}, AgL L D → AgL (ins ltM m L) (ins ltM x D)
  | [], [], _ => agl_cons.2 ⟨hm, agl_nil⟩
  | [], d :: D, h => by have := h.1; simp at this
  | e :: L, [], h => by have := h.1; simp at this
  | e :: L, d :: D, h => by
    obtain ⟨h1, h2⟩ := agl_cons.1 h
    have hl : ltM e m = ltM d x := ltE_like h1.ord hm.ord
    unfold ins
    cases hc : ltM d x with
    | true =>
      rw [hc] at hl
      simp only [List.takeWhile_cons, List.dropWhile_cons, hl, hc, if_true, List.cons_append]
      exact agl_cons.2 ⟨h1, agl_ins hm h2⟩
    | false =>
      rw [hc] at hl
      simp only [List.takeWhile_cons, List.dropWhile_cons, hl, hc]
      exact agl_cons.2 ⟨hm, agl_cons.2 ⟨h1, h2⟩⟩
theorem agl_del {m x : Em} (hm : ordE m.e x.e = 0) : ∀ {L D : List Em}, AgL L D → AgL (del ltM m L) (del ltM x D)
  | [], [], _ => agl_nil
  | [], d :: D, h => by have := h.1; simp at this
  | e :: L, [], h => by have := h.1; simp at this
  | e :: L, d :: D, h => by
    obtain ⟨h1, h2⟩ := agl_cons.1 h
    have hl : ltM e m = ltM d x := ltE_like h1.ord hm
    have hr : ltM m e = ltM x d := ltE_like hm h1.ord
    have ih := agl_del hm h2
    unfold del at ih ⊢
    rw [List.filter_cons, List.filter_cons, hl, hr]
    split
    · exact agl_cons.2 ⟨h1, ih⟩
    · exact ih
theorem agl_rise : ∀ {L D : List Em}, AgL L D → Rise ltM L → Rise ltM D
  | [], [], _, _ => List.Pairwise.nil
  | [], d :: D, h, _ => by have := h.1; simp at this
  | e :: L, [], h, _ => by have := h.1; simp at this
  | e :: L, d :: D, h, hr => by
    obtain ⟨h1, h2⟩ := agl_cons.1 h
    obtain ⟨r1, r2⟩ := List.pairwise_cons.1 hr
    refine List.pairwise_cons.2 ⟨fun z hz => ?_, agl_rise h2 r2⟩
    obtain ⟨i, hi, hzi⟩ := List.mem_iff_getElem.1 hz
    have hiL : i < L.length := by rw [h2.1]; exact hi
    have ha := h2.2 i L[i] z (List.getElem?_eq_getElem hiL) (by rw [List.getElem?_eq_getElem hi, hzi])
    have := r1 L[i] (List.getElem_mem hiL)
    rw [show ltM e L[i] = ltM d z from ltE_like h1.ord ha.ord] at this
    exact this
/-- an entry is in the one as in the other -/
theorem agl_of {x : En} : ∀ {L D : List Em}, AgL L D → (ofEn x L = [] ↔ ofEn x D = [])
  | [], [], _ => Iff.rfl
  | [], d :: D, h => by have := h.1; simp at this
  | e :: L, [], h => by have := h.1; simp at this
  | e :: L, d :: D, h => by
    obtain ⟨h1, h2⟩ := agl_cons.1 h
    have ih := agl_of (x := x) h2
    have hz := zero_like (x := x) h1.ord
    rw [List.eq_nil_iff_forall_not_mem, List.eq_nil_iff_forall_not_mem] at ih ⊢
    simp only [ofEn_mem, List.mem_cons] at ih ⊢
    constructor
    · intro g z hz2
      rcases hz2 with ⟨rfl | hz1, h0⟩
      · exact g e ⟨Or.inl rfl, hz.2 h0⟩
      · exact ih.1 (fun y hy => g y ⟨Or.inr hy.1, hy.2⟩) z ⟨hz1, h0⟩
    · intro g z hz2
      rcases hz2 with ⟨rfl | hz1, h0⟩
      · exact g d ⟨Or.inl rfl, hz.1 h0⟩
      · exact ih.2 (fun y hy => g y ⟨Or.inr hy.1, hy.2⟩) z ⟨hz1, h0⟩
/-- an entry is there by the one test as by the other -/
theorem dup_of {k : List Va} {id : Int} {D : List Em} : dupB k id D = !(ofEn ⟨k, id⟩ D).isEmpty := by
  rw [Bool.eq_iff_iff]
  unfold dupB
  rw [List.any_eq_true, Bool.not_eq_true', ← Bool.not_eq_true, List.isEmpty_iff]
  constructor
  · rintro ⟨z, h1, h2⟩ h3
    rw [Bool.and_eq_true, decide_eq_true_eq, decide_eq_true_eq] at h2
    have : z ∈ ofEn ⟨k, id⟩ D := ofEn_mem.2 ⟨h1, ordE_zero.2 h2⟩
    rw [h3] at this
    cases this
  · intro h
    obtain ⟨z, hz⟩ := List.exists_mem_of_ne_nil _ h
    obtain ⟨h1, h2⟩ := ofEn_mem.1 hz
    have := ordE_zero.1 h2
    exact ⟨z, h1, by rw [Bool.and_eq_true, decide_eq_true_eq, decide_eq_true_eq]; exact this⟩
theorem of_like {x y : En} (h : ordE x y = 0) {D : List Em} : ofEn x D = [] ↔ ofEn y D = [] := by
  rw [List.eq_nil_iff_forall_not_mem, List.eq_nil_iff_forall_not_mem]
  simp only [ofEn_mem]
  have hz : ∀ z, ordE z x = 0 ↔ ordE z y = 0 := fun z => by
    have a1 := od_ordE.turn z x
    have a2 := od_ordE.turn z y
    have := zero_like (x := z) h
    omega
  exact ⟨fun g z hh => g z ⟨hh.1, (hz z.e).2 hh.2⟩, fun g z hh => g z ⟨hh.1, (hz z.e).1 hh.2⟩⟩
/-- the tree's Put sees a double where the document's does -/
theorem clash_dup {k : List Va} {id : Int} {L D : List Em} (hE : errs k = 0) (h : AgL L D) : clB false ⟨k.map kepV, id⟩ L = dupB k id D := by
  have e1 : clB false ⟨k.map kepV, id⟩ L = !(ofEn ⟨k.map kepV, id⟩ L).isEmpty := by unfold clB; rw [if_neg (by simp)]
  rw [e1, dup_of, Bool.eq_iff_iff]
  simp only [Bool.not_eq_true', ← Bool.not_eq_true, List.isEmpty_iff]
  have a : ordE (⟨k.map kepV, id⟩ : En) ⟨k, id⟩ = 0 := ordE_zero.2 ⟨kep_row hE, rfl⟩
  rw [of_like a, agl_of h]
theorem clash_none {y : En} {L : List Em} (h : clB false y L = false) : ∀ x ∈ L, ∀ m : Em, m.e = y → (ltM x m || ltM m x) = true := by
  intro x hx m hm
  have e1 : clB false y L = !(ofEn y L).isEmpty := by unfold clB; rw [if_neg (by simp)]
  rw [e1] at h
  simp only [Bool.not_eq_false', List.isEmpty_iff] at h
  have hz : ¬ ordE x.e y = 0 := fun e => by
    have : x ∈ ofEn y L := ofEn_mem.2 ⟨hx, e⟩
    rw [h] at this
    cases this
  subst hm
  have t := od_ordE.turn x.e m.e
  show (ltE x.e m.e || ltE m.e x.e) = true
  unfold ltE
  rw [Bool.or_eq_true, decide_eq_true_eq, decide_eq_true_eq]
  omega
/-- the document's Drop finds an entry where there is one -/
theorem at_of {x : En} {D : List Em} (hr : Rise ltM D) : atB x D = !(ofEn x D).isEmpty := by
  cases hy : D[place ltM (tgt x) D]? with
  | none =>
    have e : atB x D = false := by unfold atB; rw [hy]
    rw [e]
    have : ofEn x D = [] := by
      rw [List.eq_nil_iff_forall_not_mem]
      intro z hz
      obtain ⟨h1, h2⟩ := ofEn_mem.1 hz
      obtain ⟨i, hi, hzi⟩ := List.mem_iff_getElem.1 h1
      have hl := List.getElem?_eq_none_iff.1 hy
      have := place_ahead (lt := ltM) (e := tgt x) (l := D) (i := i) (y := z) (by omega) (by rw [List.getElem?_eq_getElem hi, hzi])
      have h3 : ltE z.e x = true := this
      unfold ltE at h3
      rw [decide_eq_true_eq] at h3
      omega
    rw [this]; rfl
  | some y =>
    have e : atB x D = decide (ordE y.e x = 0) := by unfold atB; rw [hy]
    rw [e]
    have hp : 0 ≤ ordE y.e x := ltE_not.1 (show ltM y (tgt x) = false from place_at hy)
    by_cases h0 : ordE y.e x = 0
    · have : ofEn x D ≠ [] := fun hn => by
        have hm : y ∈ ofEn x D := ofEn_mem.2 ⟨List.mem_of_getElem? hy, h0⟩
        rw [hn] at hm
        cases hm
      rw [decide_eq_true h0]
      cases hh : ofEn x D with
      | nil => exact absurd hh this
      | cons => rfl
    · rw [decide_eq_false h0]
      have : ofEn x D = [] := by
        rw [List.eq_nil_iff_forall_not_mem]
        intro z hz
        obtain ⟨h1, h2⟩ := ofEn_mem.1 hz
        obtain ⟨i, hi, hzi⟩ := List.mem_iff_getElem.1 h1
        by_cases hlt : i < place ltM (tgt x) D
        · have h3 : ltE z.e x = true := place_ahead (lt := ltM) (e := tgt x) (l := D) (i := i) (y := z) hlt (by rw [List.getElem?_eq_getElem hi, hzi])
          unfold ltE at h3
          rw [decide_eq_true_eq] at h3
          omega
        · obtain ⟨hA, hyA⟩ := List.getElem?_eq_some_iff.1 hy
          rcases Nat.lt_or_eq_of_le (Nat.le_of_not_lt hlt) with hgt | heq
          · have hyz : ltM D[place ltM (tgt x) D] D[i] = true := List.pairwise_iff_getElem.1 hr _ _ hA hi hgt
            rw [hyA, hzi] at hyz
            have h4 : ltE y.e z.e = true := hyz
            have e5 : ltE y.e z.e = ltE y.e x := ltE_like (by have := od_ordE.turn y.e y.e; omega) h2
            rw [e5, ltE_not.2 hp] at h4
            cases h4
          · subst heq
            rw [hyA] at hzi
            subst hzi
            exact h0 h2
      rw [this]; rfl
/-- and leaves out what the tree's leaves out -/
theorem cut_del {x : En} {D : List Em} (hr : Rise ltM D) (h : atB x D = true) : D.take (place ltM (tgt x) D) ++ D.drop (place ltM (tgt x) D + 1) = del ltM (tgt x) D := by
  cases hy : D[place ltM (tgt x) D]? with
  | none => unfold atB at h; rw [hy] at h; cases h
  | some y =>
    have h0 : ordE y.e x = 0 := by unfold atB at h; rw [hy] at h; exact of_decide_eq_true h
    obtain ⟨hA, hyA⟩ := List.getElem?_eq_some_iff.1 hy
    have e : D = D.take (place ltM (tgt x) D) ++ y :: D.drop (place ltM (tgt x) D + 1) := by
      rw [← drop_at hy, List.take_append_drop]
    have t := od_ordE.turn y.e x
    have hd := del_like (lt := ltM) (e := tgt x) (y := y) (a := D.take (place ltM (tgt x) D)) (b := D.drop (place ltM (tgt x) D + 1))
      (fun z hz => by
        obtain ⟨i, hi, hzi⟩ := List.mem_iff_getElem.1 hz
        rw [List.length_take] at hi
        rw [List.getElem_take] at hzi
        exact place_ahead (lt := ltM) (e := tgt x) (l := D) (i := i) (y := z) (by omega) (by rw [List.getElem?_eq_getElem (by omega), hzi]))
      (fun z hz => by
        obtain ⟨i, hi, hzi⟩ := List.mem_iff_getElem.1 hz
        rw [List.length_drop] at hi
        rw [List.getElem_drop] at hzi
        have hyz : ltM D[place ltM (tgt x) D] D[place ltM (tgt x) D + 1 + i] = true := List.pairwise_iff_getElem.1 hr _ _ hA (by omega) (by omega)
        rw [hyA, hzi] at hyz
        have h4 : ltE y.e z.e = true := hyz
        have e5 : ltE y.e z.e = ltE x z.e := ltE_like h0 (by have := od_ordE.turn z.e z.e; omega)
        rw [e5] at h4
        exact h4)
      (ltE_not.2 (by show 0 ≤ ordE y.e x; omega)) (ltE_not.2 (by show 0 ≤ ordE x y.e; omega))
    rw [← e] at hd
    exact hd.symm
theorem del_rise {m : Em} {L : List Em} (h : Rise ltM L) : Rise ltM (del ltM m L) := List.Pairwise.filter _ h
end Go.Proofs.YtclcajnodoifjaaGreatDoor

namespace Go.Proofs.YtclcajnodoifjaaGreatDoor
open Go.RowKit Go.Shelf Go.Joins Go.Maps
set_option maxRecDepth 100000

theorem ins_len {α : Type} {lt : α → α → Bool} {e : α} {l : List α} : (ins lt e l).length = l.length + 1 := by
  unfold ins
  have := congrArg List.length (List.takeWhile_append_dropWhile (p := fun x => lt x e) (l := l))
  rw [List.length_append] at this
  rw [List.length_append, List.length_cons]
  omega
theorem chg_keepT {T Y : Nat → Prop} {w w' : World} (h : Chg Y w w') (ho : ∀ b, Y b → ¬ T b) : Keeps T w w' := Keeps.of_chg h (fun b hb _ hy => ho b hy hb)
/-- the tree and the document's, side by side -/
structure PrIn (T : Nat → Prop) (w : World) (bt dd : Nat) (L D : List Em) : Prop where
  tr : ∃ d n p1 n1 c1 p2 n2 c2, RtIn T w d (min d 1) n (.slice p1 n1 c1) (.slice p2 n2 c2) ∧ w.heap[bt]? = some (trO false (.slice p1 n1 c1) (.slice p2 n2 c2) (L.length : Int)) ∧ n.fl = L
  dc : ∃ PD CD, DocIn T w dd false D (.slice PD D.length CD)
  ag : AgL L D
  few : L.length ≤ 4096
  ne : dd ≠ bt
theorem DocIn.chg {T S : Nat → Prop} {w w' : World} {d : Nat} {u : Bool} {l : List Em} {v : Value} (h : DocIn T w d u l v) (hc : Chg S w w') (hs : ∀ b, S b → ¬ T b) (hd : ¬ S d) : DocIn T w' d u l v :=
  ⟨hc.at_ h.box hd, h.row.keeps (chg_keepT hc hs), fun q hq => (h.keys q hq).keeps (chg_keepT hc hs)⟩
theorem DocIn.mono {T U : Nat → Prop} {w : World} {d : Nat} {u : Bool} {l : List Em} {v : Value} (h : DocIn T w d u l v) (hu : ∀ b, b < w.heap.size → T b → U b) : DocIn U w d u l v :=
  ⟨h.box, h.row.mono hu, fun q hq => (h.keys q hq).mono hu⟩
theorem PrIn.chg {T S : Nat → Prop} {w w' : World} {bt dd : Nat} {L D : List Em} (h : PrIn T w bt dd L D) (hc : Chg S w w') (hs : ∀ b, S b → ¬ T b) (h1 : ¬ S bt) (h2 : ¬ S dd) : PrIn T w' bt dd L D := by
  obtain ⟨d, n, p1, n1, c1, p2, n2, c2, a1, a2, a3⟩ := h.tr
  obtain ⟨PD, CD, hd⟩ := h.dc
  exact ⟨⟨d, n, p1, n1, c1, p2, n2, c2, a1.keeps (chg_keepT hc hs), hc.at_ a2 h1, a3⟩, ⟨PD, CD, hd.chg hc hs h2⟩, h.ag, h.few, h.ne⟩
theorem PrIn.mono {T U : Nat → Prop} {w : World} {bt dd : Nat} {L D : List Em} (h : PrIn T w bt dd L D) (hu : ∀ b, b < w.heap.size → T b → U b) : PrIn U w bt dd L D := by
  obtain ⟨d, n, p1, n1, c1, p2, n2, c2, a1, a2, a3⟩ := h.tr
  obtain ⟨PD, CD, hd⟩ := h.dc
  exact ⟨⟨d, n, p1, n1, c1, p2, n2, c2, ⟨a1.nd.mono hu, a1.wf, a1.ne, a1.up⟩, a2, a3⟩, ⟨PD, CD, hd.mono hu⟩, h.ag, h.few, h.ne⟩
theorem PrIn.riseL {T : Nat → Prop} {w : World} {bt dd : Nat} {L D : List Em} (h : PrIn T w bt dd L D) : Rise ltM L := by
  obtain ⟨d, n, p1, n1, c1, p2, n2, c2, a1, a2, rfl⟩ := h.tr
  exact a1.up
theorem trq_rt {T : Nat → Prop} {w w' : World} {bt : Nat} {u : Bool} {sz : Int} {L : List Em} (h : TrQ T w bt u sz L w') (hr : Rise ltM L) : ∃ d n p1 n1 c1 p2 n2 c2, RtIn T w' d (min d 1) n (.slice p1 n1 c1) (.slice p2 n2 c2) ∧ w'.heap[bt]? = some (trO u (.slice p1 n1 c1) (.slice p2 n2 c2) sz) ∧ n.fl = L := by
  obtain ⟨d, n, p1, n1, c1, p2, n2, c2, a1, a2, a3, a4, _⟩ := h
  refine ⟨d, n, p1, n1, c1, p2, n2, c2, ⟨a2, a3, fun hd => ?_, by rw [a4]; exact hr⟩, a1, a4⟩
  have := wf_len a3
  omega
end Go.Proofs.YtclcajnodoifjaaGreatDoor

