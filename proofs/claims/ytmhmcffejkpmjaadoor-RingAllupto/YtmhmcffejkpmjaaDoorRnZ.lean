/-
  Where each value belongs, how values are spread, and which go elsewhere, as the document says: the law RingAll, walked whole.
-/
import Derived.Test.YtmhmcffejkpmjaaDoorRnY
import Derived.OpenShut
namespace Go.Proofs.YtmhmcffejkpmjaaDoor
open Go.RowKit Go.Shelf Go.Joins
set_option maxRecDepth 1000000

theorem rowIn.cells {w : World} {p : Option Addr} {l : List Va} (h : rowIn w p l) : ∀ ad, p = some ad → ∀ j u, (fl vaC l)[j]? = some u → w.cell? (ad.add j) = some u := by
  intro ad hp j u hu
  rcases h with rfl | ⟨g, off, rfl, hg, hc⟩
  · simp [fl] at hu
  · cases hp
    obtain ⟨v, hv, hr⟩ := fl_at vaC_len (by decide) hu
    obtain ⟨c0, c1, c2⟩ := hc _ v hv
    rw [add_plain]
    have hj : off + j = off + j / 3 * 3 + j % 3 := by omega
    rw [hj]
    have h3 : j % 3 < 3 := Nat.mod_lt _ (by decide)
    generalize j % 3 = r at *
    rcases r with _ | _ | _ | r
    · have : Value.int .i64 v.ty = u := by simpa [vaC] using hr
      subst this; exact c0
    · have : Value.int .i64 v.n = u := by simpa [vaC] using hr
      subst this; exact c1
    · have : Value.string v.s = u := by simpa [vaC] using hr
      subst this; exact c2
    · omega
theorem vaC_one (x : Va) : ∀ u ∈ vaC x, u.oneCell' = true := by
  intro u hu
  simp only [vaC, List.mem_cons, List.not_mem_nil, or_false] at hu
  rcases hu with rfl | rfl | rfl <;> rfl
theorem shr.rowAt {w : World} {g cap : Nat} {l : List Va} {n : Nat} (h : shr w 23 3 (.slice (some ⟨g, 0, none⟩) n cap) n (fl vaC l)) : rowIn w (some ⟨g, 0, none⟩) l := by
  refine Or.inr ⟨g, 0, rfl, shr_lt h, fun i x hx => ?_⟩
  have k : ∀ r : Nat, r < 3 → ∀ u, (vaC x)[r]? = some u → w.cell? ⟨g, 0 + i * 3 + r, none⟩ = some u := fun r hr u hu => by
    rw [Nat.zero_add]
    exact shr_cells h _ _ ((fl_get vaC_len l i x r hx hr).trans hu)
  exact ⟨k 0 (by decide) _ rfl, k 1 (by decide) _ rfl, k 2 (by decide) _ rfl⟩
theorem fit0 : fit 0 := ⟨by decide, by decide⟩
theorem chk_null : (⟨0, 0, ⟨#[]⟩⟩ : Va).chk = 0 := by decide
theorem chk_false : (⟨4, 0, ⟨#[]⟩⟩ : Va).chk = 0 := by decide
theorem am_null : amV 1 ⟨0, 0, ⟨#[]⟩⟩ = 0 := by
  have := amV_lt ⟨0, 0, ⟨#[]⟩⟩ (n := 1) (by decide); omega

set_option maxHeartbeats 8000000 in
theorem RingAll_any (x : Va) (p : Option Addr) (c : Nat) (la : List Va) (a b t : Int) (w : World) (hf : fit x.n) (hs : x.s.size ≤ 9223372036854775807) (hp : rowIn w p la) (hl : la.length ≤ 9223372036854775807) (fa : ∀ v ∈ la, fit v.n) (sa : ∀ v ∈ la, v.s.size ≤ 9223372036854775807) (hn : p = none → c = 0) (hm : la.length ≤ 1048576) (ha : IntKind.i64.wrap a = a) (hb : IntKind.i64.wrap b = b) (hT : Tabs w) :
    Calls Tryd.prog 3 #[.agg #[.int .i64 x.ty, .int .i64 x.n, .string x.s], .slice p la.length c, .int .i64 a, .int .i64 b, .int .i64 t] w fun e w' => e = .returned (.bool true) ∧ Below w.heap.size w w' := by
  obtain ⟨A, E, o1, o2⟩ := both_Of x a ha hf hs
  obtain ⟨X, G, g1, g2⟩ := both_Weight x t hf hs
  obtain ⟨ES, mS, FS, hmS, s1, s2⟩ := both_Spread la a ha hl fa sa
  obtain ⟨EM, LM, hLM, m1, m2⟩ := both_Moves la a b ha hb hl fa sa
  have O1 := mkH o1
  have O2 := mkH o2
  have G1 := mkH g1
  have G2 := mkH g2
  have S1 := mkH s1
  have S2 := mkH s2
  have M1 := mkH m1
  have M2 := mkH m2
  have HP := mkH hp
  have HT := mkH hT
  have HN := mkH hn
  have HM := mkH hm
  have HNL : Hid (p = none → la.length = 0 ∧ c = 0) := fun h => by
    refine ⟨?_, hn h⟩
    rcases hp with h0 | ⟨g, off, h0, _⟩
    · rw [h0]; rfl
    · rw [h0] at h; cases h
  have hmi : (la.length : Int) ≤ 1048576 := by omega
  have hR : Hid (Res (w.alloc (.cells #[.int .i64 x.ty, .int .i64 x.n, .string x.s] 23)) w.heap.size x.ty x.n x.s ∧ Below w.heap.size w (w.alloc (.cells #[.int .i64 x.ty, .int .i64 x.n, .string x.s] 23))) := ⟨Res.new w x.ty x.n x.s, (Below.refl _ w).alloc (Nat.le_refl _) _⟩
  clear o1 o2 g1 g2 s1 s2 m1 m2 hp hT fa sa hf hs ha hb hn hm
  go_enter Tryd.func3, Tryd.ntmps3
  go_wp2_with fail
  obtain ⟨w0, hw0⟩ : ∃ w0, w0 = w.alloc (.cells #[.int .i64 x.ty, .int .i64 x.n, .string x.s] 23) := ⟨_, rfl⟩
  rw [← hw0] at hR ⊢
  clear hw0
  refine (O1.out _ (HT.out.below hR.out.2)).mono ?_
  rintro e w1 ⟨rfl, hb1⟩
  have R1 := mkH (hR.out.1.below hb1)
  have B1 := mkH (hR.out.2.trans (hb1.mono hR.out.2.size))
  clear hb1 hR O1
  obtain ⟨_, y0, y1, y2, _, _, _⟩ := R1.out
  go_wp2_with fail
  refine (O2.out _).mono ?_
  rintro e w2 ⟨rfl, hb1⟩
  have R2 := mkH (R1.out.below hb1)
  have B2 := mkH (B1.out.trans (hb1.mono B1.out.size))
  clear hb1 R1 B1 O2 y0 y1 y2
  obtain ⟨_, y0, y1, y2, _, _, _⟩ := R2.out
  go_wp2_with fail
  refine (G1.out _ (HT.out.below B2.out)).mono ?_
  rintro e w3 ⟨rfl, hb1⟩
  have R3 := mkH (R2.out.below hb1)
  have B3 := mkH (B2.out.trans (hb1.mono B2.out.size))
  clear hb1 R2 B2 G1 y0 y1 y2
  obtain ⟨_, y0, y1, y2, _, _, _⟩ := R3.out
  go_wp2_with fail
  refine (G2.out _).mono ?_
  rintro e w4 ⟨rfl, hb1⟩
  have B4 := mkH (B3.out.trans (hb1.mono B3.out.size))
  clear hb1 R3 B3 G2 y0 y1 y2
  obtain ⟨w5, r5, sh5, g5, z5⟩ := R_va.make0 w4 (la.length + 1) (by have := HM.out; omega)
  have P5 := mkH ((HP.out.below B4.out).below (below_own (base := w4.heap.size) g5 (Nat.le_refl _) (fun g h => by cases h)))
  obtain ⟨w6, r6, sh6, g6, z6⟩ := R_va.fits (m := la.length) (c := c) (news := fl vaC la) (P := p) sh5 (fl_len vaC_len la) HNL.out P5.out.cells (fl_one vaC_one la) (by omega)
  rw [List.nil_append, Nat.zero_add] at sh6
  rw [Nat.zero_add] at r6
  have B6 := mkH ((B4.out.trans (below_own (base := w.heap.size) g5 B4.out.size (fun g h => by cases h))).trans (below_own (base := w.heap.size) g6 (Nat.le_trans B4.out.size g5.size) (fun g h => by cases h; exact B4.out.size)))
  have SH6 := mkH sh6
  clear sh5 sh6 g5 g6 z5 z6 P5
  rw [show ((la.length + 1 : Nat) : Int) = (la.length : Int) + 1 by omega] at r5
  go_wp2_with (at_builtin; refine wp_app 24 rfl (.tmp 82) (.tmp 83) rfl rfl rfl r6 ?_)
  refine (S1.out _ _ _ SH6.out.rowAt (HT.out.below B6.out)).mono ?_
  rintro e w7 ⟨hb7, vs, rfl, is7⟩
  have SH7 : Hid (shr w7 23 3 (.slice (some ⟨w4.heap.size, 0, none⟩) la.length (la.length + 1)) la.length (fl vaC la)) := SH6.out.kept (chgBl hb7) (fun g hg => by have := (SH6.out.kd g hg).2; omega)
  have B7 := mkH (B6.out.trans (hb7.mono B6.out.size))
  have IS7 := mkH is7
  clear hb7 is7 SH6 B6 S1 r5 r6
  go_wp2_with fail
  refine (S2.out _ _ _ (HP.out.below B7.out)).mono ?_
  rintro e w8 ⟨hb7, vt, rfl, it8⟩
  have SH8 : Hid (shr w8 23 3 (.slice (some ⟨w4.heap.size, 0, none⟩) la.length (la.length + 1)) la.length (fl vaC la)) := SH7.out.kept (chgBl hb7) (fun g hg => by have := (SH7.out.kd g hg).2; omega)
  have B8 := mkH (B7.out.trans (hb7.mono B7.out.size))
  have IS8 := mkH (IS7.out.below hb7)
  have IT8 := mkH it8
  clear hb7 it8 SH7 B7 S2 IS7
  go_wp2_with fail
  refine (M1.out _ _ _ SH8.out.rowAt (HT.out.below B8.out)).mono ?_
  rintro e w9 ⟨hb7, vm, rfl, im9⟩
  have SH9 : Hid (shr w9 23 3 (.slice (some ⟨w4.heap.size, 0, none⟩) la.length (la.length + 1)) la.length (fl vaC la)) := SH8.out.kept (chgBl hb7) (fun g hg => by have := (SH8.out.kd g hg).2; omega)
  have B9 := mkH (B8.out.trans (hb7.mono B8.out.size))
  have IS9 := mkH (IS8.out.below hb7)
  have IT9 := mkH (IT8.out.below hb7)
  have IM9 := mkH im9
  clear hb7 im9 SH8 B8 M1 IS8 IT8
  go_wp2_with fail
  refine (M2.out _ _ _ (HP.out.below B9.out)).mono ?_
  rintro e wA ⟨hb7, vn, rfl, inA⟩
  have SHA : Hid (shr wA 23 3 (.slice (some ⟨w4.heap.size, 0, none⟩) la.length (la.length + 1)) la.length (fl vaC la)) := SH9.out.kept (chgBl hb7) (fun g hg => by have := (SH9.out.kd g hg).2; omega)
  have BA := mkH (B9.out.trans (hb7.mono B9.out.size))
  have ISA := mkH (IS9.out.below hb7)
  have ITA := mkH (IT9.out.below hb7)
  have IMA : Hid (shr wA 38 3 vm LM.length (fl mvC LM)) := IM9.out.kept (chgBl hb7) (fun g hg => by have := (IM9.out.kd g hg).2; omega)
  have INA := mkH inA
  clear hb7 inA SH9 B9 M2 IS9 IT9 IM9
  obtain ⟨ps, cs', lenS⟩ : ∃ ps c', vs = .slice ps mS c' := by
    rcases ISA.out with ⟨h, h0⟩ | ⟨g, h, _⟩
    · exact ⟨none, 0, by rw [h, h0]⟩
    · exact ⟨_, _, h⟩
  obtain ⟨pt, ct', lenT⟩ : ∃ ps c', vt = .slice ps mS c' := by
    rcases ITA.out with ⟨h, h0⟩ | ⟨g, h, _⟩
    · exact ⟨none, 0, by rw [h, h0]⟩
    · exact ⟨_, _, h⟩
  obtain ⟨pm, cm, lenM, _⟩ := IMA.out.form
  obtain ⟨pn, cn, lenN, _⟩ := INA.out.form
  subst lenS lenT lenM lenN
  have hmSi : (mS : Int) ≤ 64 := by omega
  have hLMi : (LM.length : Int) ≤ 65536 := by omega
  go_wp2_with fail
  go_loopw [28] (fun sk wr => ∃ k : Nat, sk = .int .i64 k ∧ k ≤ mS ∧ Hid (Below wA.heap.size wA wr)) (fun sk _ => mS - (intOf sk).toNat)
  case atStart => exact ⟨0, rfl, Nat.zero_le _, Below.refl _ _⟩
  case round =>
    obtain ⟨k, rfl, hk, hbr⟩ := hrel
    rcases Nat.lt_or_ge k mS with hkm | hkm
    · have e1 := ISA.out.below hbr.out
      have e2 := ITA.out.below hbr.out
      rcases e1 with ⟨_, h0⟩ | ⟨gs, h1, _, h2⟩
      · omega
      rcases e2 with ⟨_, h0⟩ | ⟨gt, h3, _, h4⟩
      · omega
      have d1 := h2 k hkm
      have d2 := h4 k hkm
      simp only [Value.slice.injEq] at h1 h3
      obtain ⟨e1, _, _⟩ := h1
      obtain ⟨e2, _, _⟩ := h3
      subst e1 e2
      have hkn : ¬ mS ≤ k := by omega
      clear h2 h4
      generalize FS k = fk at *
      go_wp2_with fail
      go_quiet (fail)
      go_wp2_with fail
      exact ⟨⟨k + 1, by go_num, hkm, hbr.out.trans (below_drewN (Below.refl _ _) _ |>.mono hbr.out.size)⟩, by simp [intOf]; omega⟩
    · have hnk : ¬ (k : Int) < (mS : Int) := by omega
      have BB := mkH (BA.out.trans (hbr.out.mono BA.out.size))
      have SHB : Hid (shr wr 23 3 (.slice (some ⟨w4.heap.size, 0, none⟩) la.length (la.length + 1)) la.length (fl vaC la)) := SHA.out.kept (chgBl hbr.out) (fun g hg => by have := (SHA.out.kd g hg).2; omega)
      have IMB : Hid (shr wr 38 3 (.slice pm LM.length cm) LM.length (fl mvC LM)) := IMA.out.kept (chgBl hbr.out) (fun g hg => by have := (IMA.out.kd g hg).2; omega)
      have INB : Hid (shr wr 38 3 (.slice pn LM.length cn) LM.length (fl mvC LM)) := INA.out.kept (chgBl hbr.out) (fun g hg => by have := (INA.out.kd g hg).2; omega)
      clear hbr hkm hk BA SHA IMA INA ISA ITA
      generalize hwB : wr = wB at *
      clear hwB
      go_wp2_with fail
      go_loopw [29] (fun sk wr => ∃ k : Nat, sk = .int .i64 k ∧ k ≤ LM.length ∧ Hid (Below wB.heap.size wB wr)) (fun sk _ => LM.length - (intOf sk).toNat)
      case atStart => exact ⟨0, rfl, Nat.zero_le _, Below.refl _ _⟩
      case round =>
        obtain ⟨k, rfl, hk, hbr⟩ := hrel
        rcases Nat.lt_or_ge k LM.length with hkm | hkm
        · obtain ⟨m, hmk⟩ : ∃ m, LM[k]? = some m := ⟨LM[k], List.getElem?_eq_getElem hkm⟩
          have e1 : shr wr 38 3 (.slice pm LM.length cm) LM.length (fl mvC LM) := IMB.out.kept (chgBl hbr.out) (fun g hg => by have := (IMB.out.kd g hg).2; omega)
          have e2 : shr wr 38 3 (.slice pn LM.length cn) LM.length (fl mvC LM) := INB.out.kept (chgBl hbr.out) (fun g hg => by have := (INB.out.kd g hg).2; omega)
          rcases pm with _ | ad1
          · exfalso
            rcases e1.2 with ⟨h, h0⟩ | ⟨g, off, cap, cur, h, _⟩
            · omega
            · cases h
          rcases pn with _ | ad2
          · exfalso
            rcases e2.2 with ⟨h, h0⟩ | ⟨g, off, cap, cur, h, _⟩
            · omega
            · cases h
          obtain ⟨ga, oa, rfl, hc1⟩ := e1.cell
          obtain ⟨gb, ob, rfl, hc2⟩ := e2.cell
          have a0 := hc1 (k * 3 + 0) _ ((fl_get mvC_len LM k m 0 hmk (by decide)).trans rfl)
          have a1 := hc1 (k * 3 + 1) _ ((fl_get mvC_len LM k m 1 hmk (by decide)).trans rfl)
          have a2 := hc1 (k * 3 + 2) _ ((fl_get mvC_len LM k m 2 hmk (by decide)).trans rfl)
          have b0 := hc2 (k * 3 + 0) _ ((fl_get mvC_len LM k m 0 hmk (by decide)).trans rfl)
          have b1 := hc2 (k * 3 + 1) _ ((fl_get mvC_len LM k m 1 hmk (by decide)).trans rfl)
          have b2 := hc2 (k * 3 + 2) _ ((fl_get mvC_len LM k m 2 hmk (by decide)).trans rfl)
          rw [Nat.add_zero] at a0 b0
          rw [← Nat.add_assoc] at a1 a2 b1 b2
          have hkn : ¬ LM.length ≤ k := by omega
          clear hc1 hc2 e1 e2
          generalize (m.1 : Int) = mi at *
          generalize (m.2.1 : Int) = mf at *
          generalize (m.2.2 : Int) = mt at *
          go_wp2_with fail
          go_quiet (fail)
          go_wp2_with fail
          exact ⟨⟨k + 1, by go_num, hkm, hbr.out.trans (below_drewN (Below.refl _ _) _ |>.mono hbr.out.size)⟩, by simp [intOf]; omega⟩
        · have hnk : ¬ (k : Int) < (LM.length : Int) := by omega
          have BC := mkH (BB.out.trans (hbr.out.mono BB.out.size))
          have SHC : Hid (shr wr 23 3 (.slice (some ⟨w4.heap.size, 0, none⟩) la.length (la.length + 1)) la.length (fl vaC la)) := SHB.out.kept (chgBl hbr.out) (fun g hg => by have := (SHB.out.kd g hg).2; omega)
          clear hbr hkm hk BB SHB IMB INB
          generalize hwC : wr = wC at *
          clear hwC
          go_wp2_with fail
          go_loopw [30] (fun sk wr => ∃ k : Nat, sk = .int .i64 k ∧ k ≤ la.length ∧ Hid (Below wC.heap.size wC wr)) (fun sk _ => la.length - (intOf sk).toNat)
          case atStart => exact ⟨0, rfl, Nat.zero_le _, Below.refl _ _⟩
          case round =>
            obtain ⟨k, rfl, hk, hbr⟩ := hrel
            rcases Nat.lt_or_ge k la.length with hkm | hkm
            · obtain ⟨y, hyk⟩ : ∃ y, la[k]? = some y := ⟨la[k], List.getElem?_eq_getElem hkm⟩
              have e1 : shr wr 23 3 (.slice (some ⟨w4.heap.size, 0, none⟩) la.length (la.length + 1)) la.length (fl vaC la) := SHC.out.kept (chgBl hbr.out) (fun g hg => by have := (SHC.out.kd g hg).2; omega)
              have a0 := shr_cells e1 (k * 3 + 0) _ ((fl_get vaC_len la k y 0 hyk (by decide)).trans rfl)
              have a1 := shr_cells e1 (k * 3 + 1) _ ((fl_get vaC_len la k y 1 hyk (by decide)).trans rfl)
              have a2 := shr_cells e1 (k * 3 + 2) _ ((fl_get vaC_len la k y 2 hyk (by decide)).trans rfl)
              rw [Nat.add_zero] at a0
              have hbw := HP.out.below (BC.out.trans (hbr.out.mono BC.out.size))
              rcases hbw with h0 | ⟨g, off, rfl, _, hcs⟩
              · rw [h0] at hyk; simp at hyk
              obtain ⟨b0, b1, b2⟩ := hcs k y hyk
              have hkn : ¬ la.length ≤ k := by omega
              clear hcs e1
              go_wp2_with fail
              go_quiet (fail)
              go_wp2_with fail
              exact ⟨⟨k + 1, by go_num, hkm, hbr.out.trans (below_drewN (Below.refl _ _) _ |>.mono hbr.out.size)⟩, by simp [intOf]; omega⟩
            · have hnk : ¬ (k : Int) < (la.length : Int) := by omega
              have BD := mkH (BC.out.trans (hbr.out.mono BC.out.size))
              have ON : Hid (∀ w1, Tabs w1 → Calls Tryd.prog 6 #[.agg #[.int .i64 0, .int .i64 0, .string ⟨#[]⟩], .int .i64 1] w1 fun e w' => e = .returned (.tuple #[.int .i64 0, .int .i64 0]) ∧ Below w1.heap.size w1 w') := fun w1 h1 => by
                have := Of_any ⟨0, 0, ⟨#[]⟩⟩ 1 (by decide) w1 fit0 (by decide) h1
                rw [if_pos chk_null, chk_null, am_null] at this
                exact this
              have WN : Hid (∀ w1, Tabs w1 → Calls Tryd.prog 8 #[.agg #[.int .i64 4, .int .i64 0, .string ⟨#[]⟩], .int .i64 0] w1 fun e w' => e = .returned (.tuple #[.int .u64 (byN (sdV ⟨4, 0, ⟨#[]⟩⟩) 0 : Int), .int .i64 0]) ∧ Below w1.heap.size w1 w') := fun w1 h1 => by
                have := Weight_any ⟨4, 0, ⟨#[]⟩⟩ 0 (by decide) w1 fit0 (by decide) h1
                rw [if_pos chk_false, chk_false] at this
                exact this
              have WR : Hid (∀ w1, Calls Tryd.prog 9 #[.agg #[.int .i64 4, .int .i64 0, .string ⟨#[]⟩], .int .i64 0] w1 fun e w' => e = .returned (.tuple #[.int .u64 (byN (sdV ⟨4, 0, ⟨#[]⟩⟩) 0 : Int), .int .i64 0]) ∧ Below w1.heap.size w1 w') := fun w1 => refWeight_any ⟨4, 0, ⟨#[]⟩⟩ 0 (by decide) w1 fit0 chk_false
              generalize byN (sdV ⟨4, 0, ⟨#[]⟩⟩) 0 = BW at *
              clear hbr hkm hk BC SHC
              go_wp2_with fail
              refine (ON.out _ (HT.out.below BD.out)).mono ?_
              rintro e w1 ⟨rfl, hb1⟩
              have BE := mkH (BD.out.trans (hb1.mono BD.out.size))
              clear hb1 BD
              go_wp2_with fail
              refine (WN.out _ (HT.out.below BE.out)).mono ?_
              rintro e w2 ⟨rfl, hb1⟩
              have BF := mkH (BE.out.trans (hb1.mono BE.out.size))
              clear hb1 BE
              go_wp2_with fail
              refine (WR.out _).mono ?_
              rintro e w3 ⟨rfl, hb1⟩
              have BG := mkH (BF.out.trans (hb1.mono BF.out.size))
              clear hb1 BF
              go_wp2_with fail
              go_ret
              exact ⟨rfl, BG.out⟩
theorem wrap_of {a : Int} (h : (Lit.int .i64 a).wf = true) : IntKind.i64.wrap a = a := by
  have := bounds_i64 h
  rw [IntKind.wrap_i64]; omega
theorem RingAll_in (x : Va) (p : Option Addr) (c : Nat) (la : List Va) (a b t : Int) (w : World) (hf : fit x.n) (hs : x.s.size ≤ 9223372036854775807) (hp : rowIn w p la) (hl : la.length ≤ 9223372036854775807) (fa : ∀ v ∈ la, fit v.n) (sa : ∀ v ∈ la, v.s.size ≤ 9223372036854775807) (hn : p = none → c = 0) (hm : la.length ≤ 1048576) (ha : (Lit.int .i64 a).wf = true) (hb : (Lit.int .i64 b).wf = true) (_ : (Lit.int .i64 t).wf = true) (hT : Tabs w) :
    Calls Tryd.prog 3 #[.agg #[.int .i64 x.ty, .int .i64 x.n, .string x.s], .slice p la.length c, .int .i64 a, .int .i64 b, .int .i64 t] w fun e w' => e = .returned (.bool true) ∧ Below w.heap.size w w' :=
  RingAll_any x p c la a b t w hf hs hp hl fa sa hn hm (wrap_of ha) (wrap_of hb) hT
end Go.Proofs.YtmhmcffejkpmjaaDoor
