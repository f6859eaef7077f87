/-
  The walk of the law TableForms.
-/
import Derived.Test.YtecebjfcokmmkaaGreatDoorTfZ
namespace Go.Proofs.YtecebjfcokmmkaaGreatDoor
open Go.RowKit Go.Shelf Go.Joins Go.Maps
set_option maxRecDepth 100000

theorem plT_plT (t : Tb) : plT (plT t) = plT t := by
  unfold plT
  simp only [Tb.mk.injEq, true_and, and_true]
  omega
theorem plT_G {t : Tb} (h : tbG t) : tbG (plT t) := h
/-- all cells of a box behind a call -/
def bx (w : World) (b : Nat) (t : Tb) (P Q : Option Addr) (C D : Nat) : Prop := w.heap[b]? = some (.cells #[.string t.nm, .slice P t.cs.length C, .slice Q t.ks.length D, .int .i64 t.pa, .int .i64 t.mo] 25 (0, 0))
theorem bx.cs {w : World} {b : Nat} {t : Tb} {P Q : Option Addr} {C D : Nat} (h : bx w b t P Q C D) : w.cell? ⟨b, 0, none⟩ = some (.string t.nm) ∧ w.cell? ⟨b, 1, none⟩ = some (.slice P t.cs.length C) ∧ w.cell? ⟨b, 2, none⟩ = some (.slice Q t.ks.length D) ∧ w.cell? ⟨b, 3, none⟩ = some (.int .i64 t.pa) ∧ w.cell? ⟨b, 4, none⟩ = some (.int .i64 t.mo) :=
  ⟨(cell_of_block h 0).trans rfl, (cell_of_block h 1).trans rfl, (cell_of_block h 2).trans rfl, (cell_of_block h 3).trans rfl, (cell_of_block h 4).trans rfl⟩
theorem bx.below {w w' : World} {b : Nat} {t : Tb} {P Q : Option Addr} {C D : Nat} (h : bx w b t P Q C D) (hb : Below w.heap.size w w') : bx w' b t P Q C D := (hb.block b (lt_of_heap h)).trans h
theorem bx.chg {w w' : World} {b : Nat} {t : Tb} {P Q : Option Addr} {C D : Nat} {S : Nat → Prop} (h : bx w b t P Q C D) (hc : Chg S w w') (hn : ¬ S b) : bx w' b t P Q C D := hc.at_ h hn
/-- two boxes, and what lies below -/
@[reducible] def bx2 (w0 : World) (b1 b2 : Nat) (t u : Tb) (P Q P' Q' : Option Addr) (C D C' D' : Nat) (w' : World) : Prop := Below w0.heap.size w0 w' ∧
  (w'.cell? ⟨b1, 0, none⟩ = some (.string t.nm) ∧ w'.cell? ⟨b1, 1, none⟩ = some (.slice P t.cs.length C) ∧ w'.cell? ⟨b1, 2, none⟩ = some (.slice Q t.ks.length D) ∧ w'.cell? ⟨b1, 3, none⟩ = some (.int .i64 t.pa) ∧ w'.cell? ⟨b1, 4, none⟩ = some (.int .i64 t.mo)) ∧
  (w'.cell? ⟨b2, 0, none⟩ = some (.string u.nm) ∧ w'.cell? ⟨b2, 1, none⟩ = some (.slice P' u.cs.length C') ∧ w'.cell? ⟨b2, 2, none⟩ = some (.slice Q' u.ks.length D') ∧ w'.cell? ⟨b2, 3, none⟩ = some (.int .i64 u.pa) ∧ w'.cell? ⟨b2, 4, none⟩ = some (.int .i64 u.mo))
theorem bx2.mk' {w0 w' : World} {b1 b2 : Nat} {t u : Tb} {P Q P' Q' : Option Addr} {C D C' D' : Nat} (h1 : bx w0 b1 t P Q C D) (h2 : bx w0 b2 u P' Q' C' D') (hb : Below w0.heap.size w0 w') : bx2 w0 b1 b2 t u P Q P' Q' C D C' D' w' := ⟨hb, (h1.below hb).cs, (h2.below hb).cs⟩
theorem bx2.up {w0 w1 w2 : World} {b1 b2 : Nat} {t u : Tb} {P Q P' Q' : Option Addr} {C D C' D' : Nat} (h1 : bx w0 b1 t P Q C D) (h2 : bx w0 b2 u P' Q' C' D') (h : bx2 w0 b1 b2 t u P Q P' Q' C D C' D' w1) (hb : Below w1.heap.size w1 w2) : bx2 w0 b1 b2 t u P Q P' Q' C D C' D' w2 := bx2.mk' h1 h2 (h.1.trans (hb.mono h.1.size))
theorem Tx.lower {w : World} {lo lo' gx gm gc cc gk ck : Nat} {t : Tb} {L : List Kq} {vt : Value} (h : Tx w lo gx gm t gc cc gk ck L vt) (hl : lo' ≤ lo) : Tx w lo' gx gm t gc cc gk ck L vt := ⟨h.fo.lower hl, h.obj, h.map, Nat.le_trans hl h.lox, Nat.le_trans hl h.lom⟩
/-- what holds between two tellings -/
def LI (w w1 wr : World) (t : Tb) (P Q : Option Addr) (C D gx gm xc yc xk yk : Nat) (XL : List Kq) (vt : Value) : Prop := Tx wr w1.heap.size gx gm (plT t) xc yc xk yk XL vt ∧ bx wr w.heap.size t P Q C D ∧ Below w.heap.size w wr
set_option maxHeartbeats 16000000 in
set_option maxRecDepth 1000000 in
theorem TableForms_ok (t : Tb) (P Q : Option Addr) (C D : Nat) (r : List Va) (R : Option Addr) (Dr : Nat) (w : World) (hin : tbIn w t P Q) (hP : P = none → C = 0) (hG : tbG t) (hr : rowIn w R r) (hR : R = none → Dr = 0) (hn : r.length ≤ 10000000) (hs : ∀ v ∈ r, v.s.size ≤ 9223372036854775807) (hT : Tabs w) :
    Calls Tryz.prog 3 #[tbV t P Q C D, .slice R r.length Dr] w fun e w' => e = .returned (.bool true) ∧ Below w.heap.size w w' := by
  obtain ⟨W0, hW0⟩ : ∃ W0, W0 = w.alloc (.cells #[.string t.nm, .slice P t.cs.length C, .slice Q t.ks.length D, .int .i64 t.pa, .int .i64 t.mo] 25) := ⟨_, rfl⟩
  have b0 : Below w.heap.size w W0 := by rw [hW0]; exact (Below.refl _ w).alloc (Nat.le_refl _) _
  have B0 : bx W0 w.heap.size t P Q C D := by rw [hW0]; exact at_alloc _ _ _
  have s0 : W0.heap.size = w.heap.size + 1 := by rw [hW0]; simp
  have FO := mkHid (Form_any t P Q C D W0 (hin.below b0) hP hG)
  have OW : Hid (∀ W, Below w.heap.size w W → Calls Tryz.prog 5 #[.slice R r.length Dr] W fun e w' => e = .returned (.slice (some ⟨W.heap.size, 0, none⟩) r.length (r.length + 1)) ∧ rowIn w' (some ⟨W.heap.size, 0, none⟩) r ∧ Below W.heap.size W w') := fun W hW => Own_any R Dr r W (hr.below hW) hR (by omega)
  have HIN := mkHid hin
  have HG := mkHid hG
  have HR := mkHid hr
  have HZ := mkHid hs
  have HT := mkHid hT
  have Hb0 := mkHid b0
  have HB0 := mkHid B0
  have HS0 := mkHid s0
  clear hin hG hr hs hT hP hR b0 B0 s0
  subst hW0
  go_enter Tryz.func3, Tryz.ntmps3
  go_wp2_with fail
  refine FO.out.mono ?_
  rintro e w1 ⟨gc, cc, gk, ck, L, rfl, F1, b1⟩
  have bw1 := Hb0.out.trans (b1.mono Hb0.out.size)
  have HF1 := mkHid F1
  have HB1 := mkHid (HB0.out.below b1)
  have Hb1 := mkHid b1
  have Hbw1 := mkHid bw1
  have capC := (shr_cap F1.cols).1
  have capK := (shr_cap F1.keys).1
  clear F1 b1 FO
  go_wp2_with fail
  refine (OW.out w1 bw1).mono ?_
  rintro e w2 ⟨rfl, ro2, b2⟩
  obtain ⟨WF, hWF⟩ : ∃ WF, WF = w2.alloc (.cells #[.string t.nm, .slice (some ⟨gc, 0, none⟩) t.cs.length cc, .slice (some ⟨gk, 0, none⟩) t.ks.length ck, .int .i64 t.pa, .int .i64 t.mo] 25) := ⟨_, rfl⟩
  have bF : Below w2.heap.size w2 WF := by rw [hWF]; exact (Below.refl _ w2).alloc (Nat.le_refl _) _
  have BF : bx WF w2.heap.size t (some ⟨gc, 0, none⟩) (some ⟨gk, 0, none⟩) cc ck := by rw [hWF]; exact at_alloc _ _ _
  have b1F : Below w1.heap.size w1 WF := b2.trans (bF.mono b2.size)
  have bwF := bw1.trans (b1F.mono bw1.size)
  have BTF := HB1.out.below b1F
  have CK := mkHid (Check_tb t (some ⟨gc, 0, none⟩) (some ⟨gk, 0, none⟩) cc ck WF (HF1.out.below b1F).reads capC capK HG.out (HT.out.below bwF))
  have HrF := mkHid (ro2.below bF)
  have HBF := mkHid BF
  have HBT := mkHid BTF
  have Hb1F := mkHid b1F
  clear ro2 b2 bF BF b1F bwF BTF OW bw1
  subst hWF
  go_wp2_with fail
  refine CK.out.mono ?_
  rintro e w3 ⟨rfl, b3⟩
  have B13 := HBT.out.below b3
  have B23 := HBF.out.below b3
  have b13 : Below w1.heap.size w1 w3 := Hb1F.out.trans (b3.mono Hb1F.out.size)
  have bw3 : Below w.heap.size w w3 := Hbw1.out.trans (b13.mono Hbw1.out.size)
  have R3 := HrF.out.below b3
  have z1 := lt_of_heap B13
  have z2 := lt_of_heap B23
  have C7 : Hid (∀ W, Below w3.heap.size w3 W → Calls Tryz.prog 7 #[tbV t P Q C D] W fun e w' => e = .returned (.int .i64 (tbK t)) ∧ Below W.heap.size W w') := fun W hW => refCheck_tb t P Q C D W (HIN.out.below (bw3.trans (hW.mono bw3.size))) HG.out
  have C8 : Hid (∀ W, Below w3.heap.size w3 W → Calls Tryz.prog 8 #[tbV t (some ⟨gc, 0, none⟩) (some ⟨gk, 0, none⟩) cc ck, .slice (some ⟨w1.heap.size, 0, none⟩) r.length (r.length + 1)] W fun e w' => e = .returned (.int .i64 (tfK t r)) ∧ Below W.heap.size W w') := fun W hW => Fits_any t _ _ cc ck r _ _ W (HF1.out.below (b13.trans (hW.mono b13.size))).reads capC capK HG.out (R3.below hW) (by omega) HZ.out (HT.out.below (bw3.trans (hW.mono bw3.size)))
  have C9 : Hid (∀ W, Below w3.heap.size w3 W → Calls Tryz.prog 9 #[tbV t P Q C D, .slice R r.length Dr] W fun e w' => e = .returned (.int .i64 (tfK t r)) ∧ Below W.heap.size W w') := fun W hW => refFits_any t P Q C D r R Dr W (HIN.out.below (bw3.trans (hW.mono bw3.size))) HG.out (HR.out.below (bw3.trans (hW.mono bw3.size))) (by omega)
  have C10 : Hid (∀ W, Below w3.heap.size w3 W → Calls Tryz.prog 10 #[tbV t (some ⟨gc, 0, none⟩) (some ⟨gk, 0, none⟩) cc ck, tbV t P Q C D] W fun e w' => e = .returned (.bool true) ∧ Below W.heap.size W w') := fun W hW => Forms_eq t _ _ P Q cc ck C D W (HF1.out.below (b13.trans (hW.mono b13.size))).reads (HIN.out.below (bw3.trans (hW.mono bw3.size))) HG.out
  have C11 : Hid (∀ W, Below w3.heap.size w3 W → Calls Tryz.prog 11 #[.slice (some ⟨w1.heap.size, 0, none⟩) r.length (r.length + 1), .slice R r.length Dr] W fun e w' => e = .returned (.bool true) ∧ Below W.heap.size W w') := fun W hW => Rows2_eq _ R _ Dr r W (R3.below hW) (HR.out.below (bw3.trans (hW.mono bw3.size))) (by omega)
  have NW : Hid (∀ W, Below w3.heap.size w3 W → Calls Tryz.prog 12 #[tbV t (some ⟨gc, 0, none⟩) (some ⟨gk, 0, none⟩) cc ck] W fun e w' => NwQ W t e w') := fun W hW => New_any t _ _ cc ck W (HF1.out.below (b13.trans (hW.mono b13.size))).reads capC capK HG.out (HT.out.below (bw3.trans (hW.mono bw3.size)))
  have SP : Hid (∀ W, Below w1.heap.size w1 W → Calls Tryz.prog 13 #[tbV t (some ⟨gc, 0, none⟩) (some ⟨gk, 0, none⟩) cc ck] W fun e w' => e = .returned (.tuple #[]) ∧ Chg (fun i => w.heap.size + 1 ≤ i ∧ i < w1.heap.size) W w') := fun W hW => HS0.out ▸ Spoil_any w1 _ gc cc gk ck t L HF1.out W hW HG.out
  have HX1 := mkHid B13
  have HX2 := mkHid B23
  have Hb13 := mkHid b13
  have Hbw3 := mkHid bw3
  have TA : Below w3.heap.size w3 w3.drew ∧ (w3.drew.cell? ⟨w.heap.size, 0, none⟩ = some (.string t.nm) ∧ w3.drew.cell? ⟨w.heap.size, 1, none⟩ = some (.slice P t.cs.length C) ∧ w3.drew.cell? ⟨w.heap.size, 2, none⟩ = some (.slice Q t.ks.length D) ∧ w3.drew.cell? ⟨w.heap.size, 3, none⟩ = some (.int .i64 t.pa) ∧ w3.drew.cell? ⟨w.heap.size, 4, none⟩ = some (.int .i64 t.mo)) ∧ (w3.drew.cell? ⟨w2.heap.size, 0, none⟩ = some (.string t.nm) ∧ w3.drew.cell? ⟨w2.heap.size, 1, none⟩ = some (.slice (some ⟨gc, 0, none⟩) t.cs.length cc) ∧ w3.drew.cell? ⟨w2.heap.size, 2, none⟩ = some (.slice (some ⟨gk, 0, none⟩) t.ks.length ck) ∧ w3.drew.cell? ⟨w2.heap.size, 3, none⟩ = some (.int .i64 t.pa) ∧ w3.drew.cell? ⟨w2.heap.size, 4, none⟩ = some (.int .i64 t.mo)) := bx2.mk' B13 B23 (Below.refl _ w3).drew
  clear B13 B23 b3 b13 bw3 R3 CK HBT HBF HrF HB1 HB0 Hb1 Hb0
  have HE := mkHid (show tbK t = tbK t from rfl)
  generalize hE : tbK t = E at C7 ⊢
  have HEE := mkHid hE
  clear hE HE
  generalize tfK t r = E2 at C8 C9
  go_upto_region 3 with fail
  go_cut [42] from 18 to 41 (fun s42 wx => s42 = .bool false ∧ Below w3.heap.size w3 wx)
  case first =>
    go_region_held3 (fun w' => Below w3.heap.size w3 w' ∧ (w'.cell? ⟨w.heap.size, 0, none⟩ = some (.string t.nm) ∧ w'.cell? ⟨w.heap.size, 1, none⟩ = some (.slice P t.cs.length C) ∧ w'.cell? ⟨w.heap.size, 2, none⟩ = some (.slice Q t.ks.length D) ∧ w'.cell? ⟨w.heap.size, 3, none⟩ = some (.int .i64 t.pa) ∧ w'.cell? ⟨w.heap.size, 4, none⟩ = some (.int .i64 t.mo)) ∧ (w'.cell? ⟨w2.heap.size, 0, none⟩ = some (.string t.nm) ∧ w'.cell? ⟨w2.heap.size, 1, none⟩ = some (.slice (some ⟨gc, 0, none⟩) t.cs.length cc) ∧ w'.cell? ⟨w2.heap.size, 2, none⟩ = some (.slice (some ⟨gk, 0, none⟩) t.ks.length ck) ∧ w'.cell? ⟨w2.heap.size, 3, none⟩ = some (.int .i64 t.pa) ∧ w'.cell? ⟨w2.heap.size, 4, none⟩ = some (.int .i64 t.mo))) (first | exact TA | exact bx2.up HX1.out HX2.out (by assumption) hb2 | fail) ((first | (go_at_call 7; refine (C7.out _ (show bx2 w3 w.heap.size w2.heap.size t t P Q (some ⟨gc, 0, none⟩) (some ⟨gk, 0, none⟩) C D cc ck _ by assumption).1).mono ?_; rintro e wq ⟨rfl, hb2⟩) | (go_at_call 8; refine (C8.out _ (show bx2 w3 w.heap.size w2.heap.size t t P Q (some ⟨gc, 0, none⟩) (some ⟨gk, 0, none⟩) C D cc ck _ by assumption).1).mono ?_; rintro e wq ⟨rfl, hb2⟩) | (go_at_call 9; refine (C9.out _ (show bx2 w3 w.heap.size w2.heap.size t t P Q (some ⟨gc, 0, none⟩) (some ⟨gk, 0, none⟩) C D cc ck _ by assumption).1).mono ?_; rintro e wq ⟨rfl, hb2⟩) | (go_at_call 10; refine (C10.out _ (show bx2 w3 w.heap.size w2.heap.size t t P Q (some ⟨gc, 0, none⟩) (some ⟨gk, 0, none⟩) C D cc ck _ by assumption).1).mono ?_; rintro e wq ⟨rfl, hb2⟩) | (go_at_call 11; refine (C11.out _ (show bx2 w3 w.heap.size w2.heap.size t t P Q (some ⟨gc, 0, none⟩) (some ⟨gk, 0, none⟩) C D cc ck _ by assumption).1).mono ?_; rintro e wq ⟨rfl, hb2⟩)))
    all_goals (go_wp2_with fail; go_meet; case rel => exact ⟨rfl, (show bx2 w3 w.heap.size w2.heap.size t t P Q (some ⟨gc, 0, none⟩) (some ⟨gk, 0, none⟩) C D cc ck _ by assumption).1⟩)
  case rest =>
    obtain ⟨rfl, b4⟩ := hcut
    clear C7 C8 C9 C10 C11 TA
    have X1 := HX1.out.below b4
    have X2 := HX2.out.below b4
    obtain ⟨f0, f1, f2, f3, f4⟩ := X2.cs
    have HX4 := mkHid X1
    have HX5 := mkHid X2
    have Hb14 := mkHid (Hb13.out.trans (b4.mono Hb13.out.size))
    have Hbw4 := mkHid (Hbw3.out.trans (b4.mono Hbw3.out.size))
    have NW4 := mkHid (NW.out _ b4)
    clear NW X1 X2 b4 HX1 HX2
    go_wp2_with fail
    refine NW4.out.mono ?_
    rintro e w5 (⟨hz, rfl, b5⟩ | ⟨hz, gx, gm, xc, yc, xk, yk, XL, vt, rfl, X, b5⟩)
    · rw [HEE.out] at hz ⊢
      have hz2 : (E == 0) = false := by rw [beq_eq_false_iff_ne]; exact hz
      have hz3 : (E != 0) = true := by rw [bne_iff_ne]; exact hz
      have BE := mkHid (Hbw4.out.trans (b5.mono Hbw4.out.size))
      clear hz b5
      go_wp2_with fail
      go_ret
      exact ⟨rfl, BE.out⟩
    · rw [HEE.out] at hz
      subst hz
      have TZ := mkHid (tbK_zero HEE.out)
      have HX := mkHid X
      have BT5 := mkHid (HX4.out.below b5)
      have BF5 := mkHid (HX5.out.below b5)
      have b15 := Hb14.out.trans (b5.mono Hb14.out.size)
      have Hb15 := mkHid b15
      have Hbw5 := mkHid (Hbw4.out.trans (b5.mono Hbw4.out.size))
      have hlx : w1.heap.size ≤ _ := Hb14.out.size
      have HLX := mkHid hlx
      obtain ⟨f0, f1, f2, f3, f4⟩ := BF5.out.cs
      clear X b5 b15 hlx HX4 HX5
      go_wp2_with fail
      refine (SP.out w5 Hb15.out).mono ?_
      rintro e w6 ⟨rfl, c6⟩
      have T6 := (HX.out.kept c6 (fun g h1 _ hS => by have := HLX.out; omega)).lower HLX.out
      have B6 := BT5.out.chg c6 (by omega)
      have bw6 : Below w.heap.size w w6 := Hbw5.out.trans (c6.below Hbw5.out.size (fun i h => by omega))
      have HL0 : Hid (LI w w1 w6 t P Q C D gx gm xc yc xk yk XL vt) := ⟨T6, B6, bw6⟩
      clear c6 T6 B6 bw6 HX BT5 BF5 Hb15 Hbw5 HLX f0 f1 f2 f3 f4 SP Hb14 Hbw4
      go_wp2_with fail
      go_loopw [10, 11] (fun s _ wr => ∃ k : Nat, s = .int .i64 k ∧ k ≤ 2 ∧ Hid (LI w w1 wr t P Q C D gx gm xc yc xk yk XL vt)) (fun s _ _ => 2 - (intOf s).toNat)
      case atStart => exact ⟨0, rfl, by decide, HL0⟩
      case round =>
        obtain ⟨k, rfl, hk, hd⟩ := hrel
        have TX := hd.out.1
        by_cases hk2 : k < 2
        · obtain ⟨n1, n2, n3, _⟩ := TZ.out
          have FF := FormOf_any TX (plT_G HG.out) n1 n2 n3
          rw [plT_plT] at FF
          have HFF := mkHid FF
          have HTX := mkHid TX
          have HBX := mkHid hd.out.2.1
          have HBW := mkHid hd.out.2.2
          have hk2' : (k : Int) < 2 := by omega
          clear hd TX FF n1 n2 n3 HL0
          go_wp2_with fail
          refine HFF.out.mono ?_
          rintro e w7 ⟨gc7, cc7, gk7, ck7, L7, rfl, F7, b7⟩
          obtain ⟨WT, hWT⟩ : ∃ WT, WT = w7.alloc (.cells #[.string (plT t).nm, .slice (some ⟨gc7, 0, none⟩) (plT t).cs.length cc7, .slice (some ⟨gk7, 0, none⟩) (plT t).ks.length ck7, .int .i64 (plT t).pa, .int .i64 (plT t).mo] 25) := ⟨_, rfl⟩
          have bT : Below w7.heap.size w7 WT := by rw [hWT]; exact (Below.refl _ w7).alloc (Nat.le_refl _) _
          have Y1 : bx WT w7.heap.size (plT t) (some ⟨gc7, 0, none⟩) (some ⟨gk7, 0, none⟩) cc7 ck7 := by rw [hWT]; exact at_alloc _ _ _
          have Y2 : bx WT w.heap.size t P Q C D := (HBX.out.below b7).below bT
          have bwr7 : Below wr.heap.size wr WT := b7.trans (bT.mono b7.size)
          have bwT : Below w.heap.size w WT := HBW.out.trans (bwr7.mono HBW.out.size)
          have PL : Hid (∀ W, Calls Tryz.prog 15 #[tbV t P Q C D] W fun e w' => e = .returned (tbV (plT t) P Q C D) ∧ Below W.heap.size W w') := fun W => Plain_any t P Q C D W
          have FE : Hid (∀ W, Below WT.heap.size WT W → Calls Tryz.prog 10 #[tbV (plT t) (some ⟨gc7, 0, none⟩) (some ⟨gk7, 0, none⟩) cc7 ck7, tbV (plT t) P Q C D] W fun e w' => e = .returned (.bool true) ∧ Below W.heap.size W w') := fun W hW => Forms_eq (plT t) _ _ P Q cc7 ck7 C D W (F7.below (bT.trans (hW.mono bT.size))).reads (HIN.out.below (bwT.trans (hW.mono bwT.size))) (plT_G HG.out)
          have SQ : Hid (∀ W, Below WT.heap.size WT W → Calls Tryz.prog 13 #[tbV (plT t) (some ⟨gc7, 0, none⟩) (some ⟨gk7, 0, none⟩) cc7 ck7] W fun e w' => e = .returned (.tuple #[]) ∧ LI w w1 w' t P Q C D gx gm xc yc xk yk XL vt) := fun W hW => (Spoil_any w7 wr.heap.size gc7 cc7 gk7 ck7 (plT t) L7 F7 W (bT.trans (hW.mono bT.size)) (plT_G HG.out)).mono (fun e w' h => by
            have bW := bwr7.trans (hW.mono bwr7.size)
            have b8 : Below wr.heap.size wr w' := bW.trans (h.2.below bW.size (fun i hi => hi.1))
            exact ⟨h.1, HTX.out.below b8, HBX.out.below b8, HBW.out.trans (b8.mono HBW.out.size)⟩)
          have YY1 := mkHid Y1
          have YY2 := mkHid Y2
          have TB : Below WT.heap.size WT WT.drew ∧ (WT.drew.cell? ⟨w7.heap.size, 0, none⟩ = some (.string (plT t).nm) ∧ WT.drew.cell? ⟨w7.heap.size, 1, none⟩ = some (.slice (some ⟨gc7, 0, none⟩) (plT t).cs.length cc7) ∧ WT.drew.cell? ⟨w7.heap.size, 2, none⟩ = some (.slice (some ⟨gk7, 0, none⟩) (plT t).ks.length ck7) ∧ WT.drew.cell? ⟨w7.heap.size, 3, none⟩ = some (.int .i64 (plT t).pa) ∧ WT.drew.cell? ⟨w7.heap.size, 4, none⟩ = some (.int .i64 (plT t).mo)) ∧ (WT.drew.cell? ⟨w.heap.size, 0, none⟩ = some (.string t.nm) ∧ WT.drew.cell? ⟨w.heap.size, 1, none⟩ = some (.slice P t.cs.length C) ∧ WT.drew.cell? ⟨w.heap.size, 2, none⟩ = some (.slice Q t.ks.length D) ∧ WT.drew.cell? ⟨w.heap.size, 3, none⟩ = some (.int .i64 t.pa) ∧ WT.drew.cell? ⟨w.heap.size, 4, none⟩ = some (.int .i64 t.mo)) := bx2.mk' Y1 Y2 (Below.refl _ WT).drew
          clear F7 b7 bT Y1 Y2 bwr7 bwT HFF
          subst hWT
          go_wp2_with fail
          go_region_held3 (fun w' => Below (w7.alloc (.cells #[.string (plT t).nm, .slice (some ⟨gc7, 0, none⟩) (plT t).cs.length cc7, .slice (some ⟨gk7, 0, none⟩) (plT t).ks.length ck7, .int .i64 (plT t).pa, .int .i64 (plT t).mo] 25)).heap.size (w7.alloc (.cells #[.string (plT t).nm, .slice (some ⟨gc7, 0, none⟩) (plT t).cs.length cc7, .slice (some ⟨gk7, 0, none⟩) (plT t).ks.length ck7, .int .i64 (plT t).pa, .int .i64 (plT t).mo] 25)) w' ∧ (w'.cell? ⟨w7.heap.size, 0, none⟩ = some (.string (plT t).nm) ∧ w'.cell? ⟨w7.heap.size, 1, none⟩ = some (.slice (some ⟨gc7, 0, none⟩) (plT t).cs.length cc7) ∧ w'.cell? ⟨w7.heap.size, 2, none⟩ = some (.slice (some ⟨gk7, 0, none⟩) (plT t).ks.length ck7) ∧ w'.cell? ⟨w7.heap.size, 3, none⟩ = some (.int .i64 (plT t).pa) ∧ w'.cell? ⟨w7.heap.size, 4, none⟩ = some (.int .i64 (plT t).mo)) ∧ (w'.cell? ⟨w.heap.size, 0, none⟩ = some (.string t.nm) ∧ w'.cell? ⟨w.heap.size, 1, none⟩ = some (.slice P t.cs.length C) ∧ w'.cell? ⟨w.heap.size, 2, none⟩ = some (.slice Q t.ks.length D) ∧ w'.cell? ⟨w.heap.size, 3, none⟩ = some (.int .i64 t.pa) ∧ w'.cell? ⟨w.heap.size, 4, none⟩ = some (.int .i64 t.mo))) (first | exact TB | exact bx2.up YY1.out YY2.out (by assumption) hb2 | fail) ((first | (go_at_call 15; refine (PL.out _).mono ?_; rintro e wq ⟨rfl, hb2⟩) | (go_at_call 10; refine (FE.out _ (show bx2 (w7.alloc (.cells #[.string (plT t).nm, .slice (some ⟨gc7, 0, none⟩) (plT t).cs.length cc7, .slice (some ⟨gk7, 0, none⟩) (plT t).ks.length ck7, .int .i64 (plT t).pa, .int .i64 (plT t).mo] 25)) w7.heap.size w.heap.size (plT t) t (some ⟨gc7, 0, none⟩) (some ⟨gk7, 0, none⟩) P Q cc7 ck7 C D _ by assumption).1).mono ?_; rintro e wq ⟨rfl, hb2⟩)))
          have SS : bx2 (w7.alloc (.cells #[.string (plT t).nm, .slice (some ⟨gc7, 0, none⟩) (plT t).cs.length cc7, .slice (some ⟨gk7, 0, none⟩) (plT t).ks.length ck7, .int .i64 (plT t).pa, .int .i64 (plT t).mo] 25)) w7.heap.size w.heap.size (plT t) t (some ⟨gc7, 0, none⟩) (some ⟨gk7, 0, none⟩) P Q cc7 ck7 C D wq := by assumption
          obtain ⟨bq, ⟨q0, q1, q2, q3, q4⟩, _⟩ := SS
          have HBQ := mkHid bq
          clear bq TB
          go_wp2_with fail
          refine (SQ.out _ HBQ.out).mono ?_
          rintro e w9 ⟨rfl, hLI⟩
          have HLI := mkHid hLI
          clear hLI q0 q1 q2 q3 q4
          go_wp2_with fail
          go_roundw
          case rel => exact ⟨k + 1, by go_num, by omega, HLI⟩
          case measure => simp [intOf]; omega
        · have LN := mkHid (Len_any TX)
          have NX := mkHid (Next_any TX)
          have MK := mkHid (Mark_any TX)
          have HBW := mkHid hd.out.2.2
          have hk2' : ¬ (k : Int) < 2 := by omega
          clear hd TX HL0
          go_wp2_with (first | (go_at_call 16; refine LN.out.mono ?_; rintro e wx ⟨rfl, hwx⟩; have hwx2 := hwx.symm; subst hwx2; clear hwx) | (go_at_call 17; refine NX.out.mono ?_; rintro e wx ⟨rfl, hwx⟩; have hwx2 := hwx.symm; subst hwx2; clear hwx) | (go_at_call 18; refine MK.out.mono ?_; rintro e wx ⟨rfl, hwx⟩; have hwx2 := hwx.symm; subst hwx2; clear hwx))
          go_ret
          exact ⟨rfl, HBW.out⟩
end Go.Proofs.YtecebjfcokmmkaaGreatDoor
