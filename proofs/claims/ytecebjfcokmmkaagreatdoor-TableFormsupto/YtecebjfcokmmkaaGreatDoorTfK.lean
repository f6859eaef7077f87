/-
  The walk of lockstepref08.Check.
-/
import Derived.Test.YtecebjfcokmmkaaGreatDoorTfJ
namespace Go.Proofs.YtecebjfcokmmkaaGreatDoor
open Go.RowKit Go.Shelf
set_option maxRecDepth 100000

/-- what is left behind the columns, behind the keys -/
def tb2 (t : Tb) : Int := if ¬ ckKeys t = 0 then ckKeys t else if ¬ ckPrim t = 0 then ckPrim t else ckNum t
def tb3 (t : Tb) : Int := if ¬ ckPrim t = 0 then ckPrim t else ckNum t
theorem tbK_name {t : Tb} (h : nmK t.nm = false) : tbK t = 6 := by unfold tbK; rw [if_pos h]
theorem tbK_cols {t : Tb} (h : nmK t.nm = true) (h2 : ¬ ckCols t = 0) : tbK t = ckCols t := by unfold tbK; rw [if_neg (by rw [h]; decide), if_pos h2]
theorem tbK_tb2 {t : Tb} (h : nmK t.nm = true) (h2 : ckCols t = 0) : tbK t = tb2 t := by unfold tbK tb2; rw [if_neg (by rw [h]; decide), if_neg (fun e => e h2)]
theorem tb2_keys {t : Tb} (h2 : ¬ ckKeys t = 0) : tb2 t = ckKeys t := by unfold tb2; rw [if_pos h2]
theorem tb2_tb3 {t : Tb} (h2 : ckKeys t = 0) : tb2 t = tb3 t := by unfold tb2 tb3; rw [if_neg (fun e => e h2)]
theorem tb3_null {t : Tb} {k : Ky} {r : List Ky} (hk : t.ks = k :: r) (h : k.uq = false ∨ k.cs.any (nuB t.cs) = true) : tb3 t = 84 := by
  have : ckPrim t = 84 := by unfold ckPrim; rw [hk]; exact if_pos h
  unfold tb3; rw [this]; rfl
theorem tb3_num {t : Tb} {k : Ky} {r : List Ky} (hk : t.ks = k :: r) (h : k.uq = true) (h2 : k.cs.any (nuB t.cs) = false) : tb3 t = if (0 ≤ t.pa ∧ ¬ t.pa ∈ k.cs) ∨ t.mo < 1 ∨ 4096 < t.mo then 1 else 0 := by
  have : ckPrim t = 0 := by unfold ckPrim; rw [hk]; exact if_neg (by rw [h, h2]; simp)
  unfold tb3; rw [this]
  unfold ckNum; rw [hk]; rfl
/-- whether the partition's column is met among the first ones -/
def paB (t : Tb) (l : List Int) (i : Nat) : Bool := decide (t.pa < 0) || decide (t.pa ∈ l.take i)
theorem paB_next {t : Tb} {l : List Int} {i : Nat} {x : Int} (h : l[i]? = some x) : paB t l (i + 1) = (paB t l i || (x == t.pa)) := by
  unfold paB
  rw [List.take_add_one, h]
  have : decide (t.pa ∈ l.take i ++ (some x).toList) = (decide (t.pa ∈ l.take i) || (x == t.pa)) := by
    by_cases h1 : t.pa ∈ l.take i
    · rw [decide_eq_true h1, decide_eq_true (List.mem_append.2 (Or.inl h1))]; rfl
    · rw [decide_eq_false h1, Bool.false_or]
      by_cases h2 : x = t.pa
      · rw [decide_eq_true (List.mem_append.2 (Or.inr (by simp [h2]))), beq_iff_eq.2 h2]
      · rw [decide_eq_false (fun h => (List.mem_append.1 h).elim h1 (fun h => by simp at h; exact h2 h.symm)), beq_eq_false_iff_ne.2 h2]
  rw [this, Bool.or_assoc]
set_option maxHeartbeats 8000000 in
set_option maxRecDepth 1000000 in
theorem refCheck_tb (t : Tb) (P Q : Option Addr) (C D : Nat) (w : World) (hin : tbIn w t P Q) (hG : tbG t) :
    Calls Tryz.prog 7 #[tbV t P Q C D] w fun e w' => e = .returned (.int .i64 (tbK t)) ∧ Below w.heap.size w w' := by
  obtain ⟨E, hE⟩ : ∃ E, E = tbK t := ⟨_, rfl⟩
  rw [← hE]
  have HE := mkHid hE
  clear hE
  obtain ⟨W0, hW0⟩ : ∃ W0, W0 = w.alloc (.cells #[.string t.nm, .slice P t.cs.length C, .slice Q t.ks.length D, .int .i64 t.pa, .int .i64 t.mo] 25) := ⟨_, rfl⟩
  have b0 : Below w.heap.size w W0 := by rw [hW0]; exact (Below.refl _ w).alloc (Nat.le_refl _) _
  have k0 : W0.cell? ⟨w.heap.size, 0, none⟩ = some (.string t.nm) := by rw [hW0]; simp
  have k1 : W0.cell? ⟨w.heap.size, 1, none⟩ = some (.slice P t.cs.length C) := by rw [hW0]; simp
  have k2 : W0.cell? ⟨w.heap.size, 2, none⟩ = some (.slice Q t.ks.length D) := by rw [hW0]; simp
  have k3 : W0.cell? ⟨w.heap.size, 3, none⟩ = some (.int .i64 t.pa) := by rw [hW0]; simp
  have k4 : W0.cell? ⟨w.heap.size, 4, none⟩ = some (.int .i64 t.mo) := by rw [hW0]; simp
  have z0 : w.heap.size < W0.heap.size := by rw [hW0]; simp
  have HI := mkHid (hin.below b0)
  have HG := mkHid hG
  have hln := hG.2.2.1
  have hlm := hG.2.1
  have B0 := mkHid b0
  have IN : Hid (∀ W, Calls Tryz.prog 24 #[.string t.nm] W fun e w' => e = .returned (.bool (nmK t.nm)) ∧ Below W.heap.size W w') := fun W => refName_any t.nm W hG.1
  clear hin hG b0
  generalize hN : nmK t.nm = N at IN
  have HN := mkHid hN
  clear hN
  cases N
  · have eE : E = 6 := by rw [HE.out]; exact tbK_name HN.out
    subst eE hW0
    go_enter Tryz.func7, Tryz.ntmps7
    go_wp2_with (go_at_call 24; refine (IN.out _).mono ?_; rintro e w2 ⟨rfl, hb2⟩)
    go_ret
    exact ⟨rfl, B0.out.trans (hb2.mono B0.out.size)⟩
  by_cases h16 : 16 < t.cs.length
  · have eE : E = 2 := by
      have e : ckCols t = 2 := by unfold ckCols; rw [if_pos h16]
      rw [HE.out, tbK_cols HN.out (by rw [e]; decide), e]
    have h16' : (16 : Int) < (t.cs.length : Int) := by omega
    subst eE hW0
    clear h16
    go_enter Tryz.func7, Tryz.ntmps7
    go_wp2_with (go_at_call 24; refine (IN.out _).mono ?_; rintro e w2 ⟨rfl, hb2⟩; have f1 := (hb2.cell (p := ⟨w.heap.size, 1, none⟩) z0).trans k1)
    go_ret
    exact ⟨rfl, B0.out.trans (hb2.mono B0.out.size)⟩
  have h16' : ¬ (16 : Int) < (t.cs.length : Int) := by omega
  by_cases h0 : t.cs.length = 0
  · have eE : E = 1 := by
      have e : ckCols t = 1 := by unfold ckCols; rw [if_neg h16, if_pos h0]
      rw [HE.out, tbK_cols HN.out (by rw [e]; decide), e]
    have h0' : ((t.cs.length : Int) == 0) = true := by rw [h0]; rfl
    subst eE hW0
    clear h16 h0
    go_enter Tryz.func7, Tryz.ntmps7
    go_wp2_with (go_at_call 24; refine (IN.out _).mono ?_; rintro e w2 ⟨rfl, hb2⟩; have f1 := (hb2.cell (p := ⟨w.heap.size, 1, none⟩) z0).trans k1)
    go_ret
    exact ⟨rfl, B0.out.trans (hb2.mono B0.out.size)⟩
  have h0' : ((t.cs.length : Int) == 0) = false := by rw [beq_eq_false_iff_ne]; omega
  have hE1 : ckCols t = fe (colI t.cs) 0 (t.cs.length - 0) := by unfold ckCols; rw [if_neg h16, if_neg h0]; rfl
  have HS1 : Hid (∀ z, fe (colI t.cs) 0 (t.cs.length - 0) = z → ¬ z = 0 → E = z) := fun z e hz => by
    rw [HE.out, tbK_cols HN.out (by rw [hE1, e]; exact hz), hE1, e]
  have HS2 : Hid (fe (colI t.cs) 0 (t.cs.length - 0) = 0 → E = tb2 t) := fun e => by
    rw [HE.out, tbK_tb2 HN.out (by rw [hE1, e])]
  have RC : Hid (∀ (i : Nat) (c : Cl) (W : World), t.cs[i]? = some c → clIn W P t.cs → Calls Tryz.prog 25 #[.slice P t.cs.length C, .int .i64 (i : Int)] W fun e w' => e = .returned (.int .i64 (colI t.cs i)) ∧ Below W.heap.size W w') := fun i c W hc h => refColumn_any t.cs P C i c hc W h HG.out.2.1 (HG.out.2.2.2.1 c (List.mem_of_getElem? hc))
  have RK : Hid (∀ (i : Nat) (c : Ky) (W : World), t.ks[i]? = some c → kyIn W Q t.ks → Calls Tryz.prog 26 #[tbV t P Q C D, .int .i64 (i : Int)] W fun e w' => e = .returned (.int .i64 (keyI t.cs.length t.ks i)) ∧ Below W.heap.size W w') := fun i c W hc h => refKey_any t P Q C D i c hc W h HG.out
  clear hE1 h16 h0 HN HE
  subst hW0
  go_enter Tryz.func7, Tryz.ntmps7
  go_wp2_with (go_at_call 24; refine (IN.out _).mono ?_; rintro e w2 ⟨rfl, hb2⟩; have f1 := (hb2.cell (p := ⟨w.heap.size, 1, none⟩) z0).trans k1)
  have f0 := (hb2.cell (p := ⟨w.heap.size, 0, none⟩) z0).trans k0
  have f2 := (hb2.cell (p := ⟨w.heap.size, 2, none⟩) z0).trans k2
  have f3 := (hb2.cell (p := ⟨w.heap.size, 3, none⟩) z0).trans k3
  have f4 := (hb2.cell (p := ⟨w.heap.size, 4, none⟩) z0).trans k4
  have z2 := Nat.lt_of_lt_of_le z0 hb2.size
  have HI2 := mkHid (HI.out.below hb2)
  have B2 := mkHid (B0.out.trans (hb2.mono B0.out.size))
  clear hb2 k0 k1 k2 k3 k4 z0 HI B0 IN
  go_loopw [3, 4] (fun s _ wr => ∃ k : Nat, s = .int .i64 k ∧ k ≤ t.cs.length ∧ Hid (fe (colI t.cs) 0 (t.cs.length - 0) = fe (colI t.cs) k (t.cs.length - k)) ∧ Below w2.heap.size w2 wr) (fun s _ _ => t.cs.length - (intOf s).toNat)
  case atStart => exact ⟨0, rfl, Nat.zero_le _, rfl, Below.refl _ _⟩
  case round =>
    obtain ⟨k, rfl, hk, hd, hb⟩ := hrel
    have g1 := (hb.cell (p := ⟨w.heap.size, 1, none⟩) z2).trans f1
    have BR := mkHid (B2.out.trans (hb.mono B2.out.size))
    by_cases hkl : k < t.cs.length
    · obtain ⟨c, hc⟩ : ∃ c, t.cs[k]? = some c := ⟨t.cs[k], List.getElem?_eq_getElem hkl⟩
      have CC := mkHid (RC.out k c wr hc (HI2.out.below hb).1)
      by_cases hz : colI t.cs k = 0
      · have hd2 : Hid (fe (colI t.cs) 0 (t.cs.length - 0) = fe (colI t.cs) (k + 1) (t.cs.length - (k + 1))) := by
          show _ = _
          rw [hd.out, fe_pass hkl hz]
        rw [hz] at CC
        clear hd hz hc
        go_wp2_with (go_at_call 25; refine CC.out.mono ?_; rintro e w3 ⟨rfl, hb3⟩)
        go_roundw
        case rel => exact ⟨k + 1, by go_num, hkl, hd2, hb.trans (hb3.mono hb.size)⟩
        case measure => simp [intOf]; omega
      · have eE := HS1.out _ (hd.out.trans (fe_stop hkl hz)) hz
        generalize colI t.cs k = G at *
        have hz2 : (G == 0) = false := by rw [beq_eq_false_iff_ne]; exact hz
        subst eE
        clear hd hz hc
        go_wp2_with (go_at_call 25; refine CC.out.mono ?_; rintro e w3 ⟨rfl, hb3⟩)
        go_ret
        exact ⟨rfl, BR.out.trans (hb3.mono BR.out.size)⟩
    · have HE2 : Hid (E = tb2 t) := HS2.out (by rw [hd.out, fe_end _ _ _ (by omega)])
      have h0 := (hb.cell (p := ⟨w.heap.size, 0, none⟩) z2).trans f0
      have h2 := (hb.cell (p := ⟨w.heap.size, 2, none⟩) z2).trans f2
      have h3 := (hb.cell (p := ⟨w.heap.size, 3, none⟩) z2).trans f3
      have h4 := (hb.cell (p := ⟨w.heap.size, 4, none⟩) z2).trans f4
      have z3 := Nat.lt_of_lt_of_le z2 hb.size
      have HI3 := mkHid (HI2.out.below hb)
      clear f0 f1 f2 f3 f4 HI2 B2 hb hd HS1 HS2 RC
      by_cases h16 : 16 < t.ks.length
      · have eE : E = 2 := by
          have e : ckKeys t = 2 := by unfold ckKeys; rw [if_pos h16]
          rw [HE2.out, tb2_keys (by rw [e]; decide), e]
        have j16 : (16 : Int) < (t.ks.length : Int) := by omega
        subst eE
        clear h16
        go_wp2_with fail
        go_ret
        exact ⟨rfl, BR.out⟩
      have j16 : ¬ (16 : Int) < (t.ks.length : Int) := by omega
      by_cases hn0 : t.ks.length = 0
      · have eE : E = 84 := by
          have e : ckKeys t = 84 := by unfold ckKeys; rw [if_neg h16, if_pos hn0]
          rw [HE2.out, tb2_keys (by rw [e]; decide), e]
        have j0 : ((t.ks.length : Int) == 0) = true := by rw [hn0]; rfl
        subst eE
        clear h16 hn0
        go_wp2_with fail
        go_ret
        exact ⟨rfl, BR.out⟩
      have j0 : ((t.ks.length : Int) == 0) = false := by rw [beq_eq_false_iff_ne]; omega
      have hE1 : ckKeys t = fe (keyI t.cs.length t.ks) 0 (t.ks.length - 0) := by unfold ckKeys; rw [if_neg h16, if_neg hn0]; rfl
      have HS1 : Hid (∀ z, fe (keyI t.cs.length t.ks) 0 (t.ks.length - 0) = z → ¬ z = 0 → E = z) := fun z e hz => by
        rw [HE2.out, tb2_keys (by rw [hE1, e]; exact hz), hE1, e]
      have HS2 : Hid (fe (keyI t.cs.length t.ks) 0 (t.ks.length - 0) = 0 → ckKeys t = 0 ∧ E = tb3 t) := fun e => by
        rw [HE2.out, tb2_tb3 (by rw [hE1, e])]; exact ⟨hE1.trans e, rfl⟩
      clear hE1 h16 HE2
      rename World => w3
      go_wp2_with fail
      go_loopw [5, 6] (fun s _ wr => ∃ k : Nat, s = .int .i64 k ∧ k ≤ t.ks.length ∧ Hid (fe (keyI t.cs.length t.ks) 0 (t.ks.length - 0) = fe (keyI t.cs.length t.ks) k (t.ks.length - k)) ∧ Below w3.heap.size w3 wr) (fun s _ _ => t.ks.length - (intOf s).toNat)
      case atStart => exact ⟨0, rfl, Nat.zero_le _, rfl, Below.refl _ _⟩
      case round =>
        obtain ⟨k, rfl, hk, hd, hb⟩ := hrel
        have m0 := (hb.cell (p := ⟨w.heap.size, 0, none⟩) z3).trans h0
        have m1 := (hb.cell (p := ⟨w.heap.size, 1, none⟩) z3).trans g1
        have m2 := (hb.cell (p := ⟨w.heap.size, 2, none⟩) z3).trans h2
        have m3 := (hb.cell (p := ⟨w.heap.size, 3, none⟩) z3).trans h3
        have m4 := (hb.cell (p := ⟨w.heap.size, 4, none⟩) z3).trans h4
        have BQ := mkHid (BR.out.trans (hb.mono BR.out.size))
        by_cases hkl : k < t.ks.length
        · obtain ⟨c, hc⟩ : ∃ c, t.ks[k]? = some c := ⟨t.ks[k], List.getElem?_eq_getElem hkl⟩
          have CC := mkHid (RK.out k c wr hc (HI3.out.below hb).2)
          by_cases hz : keyI t.cs.length t.ks k = 0
          · have hd2 : Hid (fe (keyI t.cs.length t.ks) 0 (t.ks.length - 0) = fe (keyI t.cs.length t.ks) (k + 1) (t.ks.length - (k + 1))) := by
              show _ = _
              rw [hd.out, fe_pass hkl hz]
            rw [hz] at CC
            clear hd hz hc
            go_wp2_with (go_at_call 26; refine CC.out.mono ?_; rintro e w4 ⟨rfl, hb4⟩)
            go_roundw
            case rel => exact ⟨k + 1, by go_num, hkl, hd2, hb.trans (hb4.mono hb.size)⟩
            case measure => simp [intOf]; omega
          · have eE := HS1.out _ (hd.out.trans (fe_stop hkl hz)) hz
            generalize keyI t.cs.length t.ks k = G at *
            have hz2 : (G == 0) = false := by rw [beq_eq_false_iff_ne]; exact hz
            subst eE
            clear hd hz hc
            go_wp2_with (go_at_call 26; refine CC.out.mono ?_; rintro e w4 ⟨rfl, hb4⟩)
            go_ret
            exact ⟨rfl, BQ.out.trans (hb4.mono BQ.out.size)⟩
        · obtain ⟨hK0, hE3⟩ := HS2.out (by rw [hd.out, fe_end _ _ _ (by omega)])
          obtain ⟨ky, r, hks, hkc⟩ := ckKeys_first hK0
          have hkb := kcK_bounds hkc
          have hpos : 0 < t.ks.length := by omega
          have hIn := HI3.out.below hb
          have hk0 : t.ks[0]? = some ky := by rw [hks]; rfl
          rcases hIn.2 with h | ⟨g, o, rfl, hg, hcs⟩
          · rw [h] at hks; cases hks
          obtain ⟨Qk, Ck, _, d1, d2, hi, _, hCk⟩ := hcs 0 ky hk0
          rw [Nat.zero_mul, Nat.add_zero] at d1 d2
          have HKS := mkHid hks
          have HKB := mkHid hkb.2.2
          have hkl4 := hkb.2.1
          have HI4 := mkHid hi
          have HC4 := mkHid hIn.1
          have HE4 := mkHid hE3
          have z4 := Nat.lt_of_lt_of_le z3 hb.size
          have zg : g < wr.heap.size := hg
          have HP0 : Hid (paB t ky.cs 0 = decide (t.pa < 0)) := by show _ = _; unfold paB; simp
          clear hIn hcs hi hkb hkc hk0 hks hE3 hK0 hd HS1 HS2 RK h0 g1 h2 h3 h4 BR HI3 hb hg
          rename World => w4
          go_wp2_with fail
          go_loopw [7, 8, 9] (fun s7 s8 _ wr => ∃ i : Nat, s8 = .int .i64 i ∧ i ≤ ky.cs.length ∧ s7 = .bool (paB t ky.cs i) ∧ Hid ((ky.cs.take i).any (nuB t.cs) = false) ∧ Below w4.heap.size w4 wr) (fun _ s _ _ => ky.cs.length - (intOf s).toNat)
          case atStart => exact ⟨0, rfl, Nat.zero_le _, by rw [HP0.out], rfl, Below.refl _ _⟩
          case round =>
            obtain ⟨i, rfl, hi, rfl, hd, hb⟩ := hrel
            have n1 := (hb.cell (p := ⟨w.heap.size, 1, none⟩) z4).trans m1
            have n2 := (hb.cell (p := ⟨w.heap.size, 2, none⟩) z4).trans m2
            have n3 := (hb.cell (p := ⟨w.heap.size, 3, none⟩) z4).trans m3
            have n4 := (hb.cell (p := ⟨w.heap.size, 4, none⟩) z4).trans m4
            have e1 := (hb.cell (p := ⟨g, o + 1, none⟩) zg).trans d1
            have e2 := (hb.cell (p := ⟨g, o + 2, none⟩) zg).trans d2
            have BT := mkHid (BQ.out.trans (hb.mono BQ.out.size))
            by_cases hil : i < ky.cs.length
            · obtain ⟨x, hx⟩ : ∃ x, ky.cs[i]? = some x := ⟨ky.cs[i], List.getElem?_eq_getElem hil⟩
              have hi2 := HI4.out.below hb
              rcases hi2 with hi2 | ⟨gi, oi, rfl, hgi, hcs⟩
              · rw [hi2] at hx; simp at hx
              have x0 := hcs i x hx
              obtain ⟨xb1, xb2⟩ := HKB.out x (List.mem_of_getElem? hx)
              obtain ⟨n, rfl⟩ : ∃ n : Nat, x = n := ⟨x.toNat, by omega⟩
              have hnl : n < t.cs.length := by omega
              obtain ⟨c, hc⟩ : ∃ c, t.cs[n]? = some c := ⟨t.cs[n], List.getElem?_eq_getElem hnl⟩
              have hc2 := HC4.out.below hb
              rcases hc2 with hc2 | ⟨gc, oc, rfl, hgc, hcc⟩
              · rw [hc2] at hc; simp at hc
              obtain ⟨_, _, _, y3⟩ := hcc n c hc
              have HX := mkHid hx
              have hnu : nuB t.cs (n : Int) = !c.nn := by unfold nuB; rw [Int.toNat_natCast, hc]
              clear hcs hcc hx hc hgi hgc xb1
              cases hnn : c.nn
              · have eE : E = 84 := by rw [HE4.out]; exact tb3_null HKS.out (Or.inr (any_hit HX.out (by rw [hnu, hnn]; rfl)))
                rw [hnn] at y3
                subst eE
                clear hnu hd
                go_wp2_with fail
                go_ret
                exact ⟨rfl, BT.out⟩
              · have hd2 : Hid ((ky.cs.take (i + 1)).any (nuB t.cs) = false) := any_next HX.out (by rw [hnu, hnn]; rfl) hd.out
                have hp2 := mkHid (paB_next (t := t) HX.out)
                rw [hnn] at y3
                clear hnu hd
                generalize paB t ky.cs i = A at *
                cases A
                · cases hq : ((n : Int) == t.pa)
                  · have hp3 : Hid (paB t ky.cs (i + 1) = false) := by show _ = _; rw [hp2.out, hq]; rfl
                    go_wp2_with fail
                    go_roundw
                    case rel => exact ⟨i + 1, by go_num, hil, by rw [hp3.out], hd2, hb⟩
                    case measure => simp [intOf]; omega
                  · have hp3 : Hid (paB t ky.cs (i + 1) = true) := by show _ = _; rw [hp2.out, hq]; rfl
                    go_wp2_with fail
                    go_roundw
                    case rel => exact ⟨i + 1, by go_num, hil, by rw [hp3.out], hd2, hb⟩
                    case measure => simp [intOf]; omega
                · have hp3 : Hid (paB t ky.cs (i + 1) = true) := by show _ = _; rw [hp2.out]; rfl
                  go_wp2_with fail
                  go_roundw
                  case rel => exact ⟨i + 1, by go_num, hil, by rw [hp3.out], hd2, hb⟩
                  case measure => simp [intOf]; omega
            · have hA : ky.cs.any (nuB t.cs) = false := by
                have := hd.out
                rw [List.take_of_length_le (by omega)] at this; exact this
              have hPa : paB t ky.cs i = (decide (t.pa < 0) || decide (t.pa ∈ ky.cs)) := by unfold paB; rw [List.take_of_length_le (by omega)]
              cases hu : ky.uq
              · have eE : E = 84 := by rw [HE4.out]; exact tb3_null HKS.out (Or.inl hu)
                rw [hu] at e2
                subst eE
                clear hd hA hPa
                go_wp2_with fail
                go_ret
                exact ⟨rfl, BT.out⟩
              · have eN := tb3_num HKS.out hu hA
                rw [hu] at e2
                clear hd hA
                cases hp : paB t ky.cs i
                · have eE : E = 1 := by
                    rw [HE4.out, eN, if_pos]
                    rw [hp] at hPa
                    have hPa2 := hPa.symm
                    rw [Bool.or_eq_false_iff, decide_eq_false_iff_not, decide_eq_false_iff_not] at hPa2
                    exact Or.inl ⟨by omega, hPa2.2⟩
                  subst eE
                  clear hPa eN
                  go_wp2_with fail
                  go_ret
                  exact ⟨rfl, BT.out⟩
                · have hno : ¬ (0 ≤ t.pa ∧ ¬ t.pa ∈ ky.cs) := by
                    rw [hp] at hPa
                    have hPa2 := hPa.symm
                    rw [Bool.or_eq_true, decide_eq_true_eq, decide_eq_true_eq] at hPa2
                    intro h
                    rcases hPa2 with h1 | h1
                    · omega
                    · exact h.2 h1
                  by_cases h1 : t.mo < 1
                  · have eE : E = 1 := by rw [HE4.out, eN, if_pos (Or.inr (Or.inl h1))]
                    subst eE
                    clear hPa eN hno
                    go_wp2_with fail
                    go_ret
                    exact ⟨rfl, BT.out⟩
                  by_cases h2 : 4096 < t.mo
                  · have eE : E = 1 := by rw [HE4.out, eN, if_pos (Or.inr (Or.inr h2))]
                    subst eE
                    clear hPa eN hno
                    go_wp2_with fail
                    go_ret
                    exact ⟨rfl, BT.out⟩
                  · have eE : E = 0 := by rw [HE4.out, eN, if_neg (fun h => h.elim hno (fun h => h.elim h1 h2))]
                    subst eE
                    clear hPa eN hno
                    go_wp2_with fail
                    go_ret
                    exact ⟨rfl, BT.out⟩
end Go.Proofs.YtecebjfcokmmkaaGreatDoor
