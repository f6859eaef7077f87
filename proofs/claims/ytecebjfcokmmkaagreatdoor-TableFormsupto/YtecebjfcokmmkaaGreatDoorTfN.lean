/-
  The walks of lockstepref08.fits, Fits.
-/
import Derived.Test.YtecebjfcokmmkaaGreatDoorTfM
namespace Go.Proofs.YtecebjfcokmmkaaGreatDoor
open Go.RowKit Go.Shelf
set_option maxRecDepth 100000

set_option maxHeartbeats 8000000 in
set_option maxRecDepth 1000000 in
theorem refFits_row (t : Tb) (P Q : Option Addr) (C D : Nat) (r : List Va) (R : Option Addr) (Dr : Nat) (w : World) (hl : clIn w P t.cs) (hr : rowIn w R r) (hn : r.length ≤ 100000000) :
    Calls Tryz.prog 28 #[tbV t P Q C D, .slice R r.length Dr] w fun e w' => e = .returned (.int .i64 (fitK t.cs r)) ∧ Below w.heap.size w w' := by
  obtain ⟨W0, hW0⟩ : ∃ W0, W0 = w.alloc (.cells #[.string t.nm, .slice P t.cs.length C, .slice Q t.ks.length D, .int .i64 t.pa, .int .i64 t.mo] 25) := ⟨_, rfl⟩
  have b0 : Below w.heap.size w W0 := by rw [hW0]; exact (Below.refl _ w).alloc (Nat.le_refl _) _
  have B0 := mkHid b0
  by_cases h0 : r.length = t.cs.length
  · rw [fitK_in h0]
    have h0' : ((r.length : Int) == (t.cs.length : Int)) = true := by rw [h0]; simp
    have h0n : ((r.length : Int) != (t.cs.length : Int)) = false := by rw [h0]; simp
    have H0 := mkHid h0
    obtain ⟨E, hE⟩ : ∃ E, E = fe (fitI t.cs r) 0 (r.length - 0) := ⟨_, rfl⟩
    rw [← hE]
    have HE := mkHid hE
    have HL := mkHid (hl.below b0)
    have HR := mkHid (hr.below b0)
    have k1 : W0.cell? ⟨w.heap.size, 1, none⟩ = some (.slice P t.cs.length C) := by rw [hW0]; simp
    have z0 : w.heap.size < W0.heap.size := by rw [hW0]; simp
    have HW := mkHid hW0
    clear hE h0 hl hr b0 hW0
    go_enter Tryz.func28, Tryz.ntmps28
    go_wp2_with fail
    go_loopw [5, 6, 7] (fun s _ _ wr => ∃ k : Nat, s = .int .i64 k ∧ k ≤ r.length ∧ Hid (E = fe (fitI t.cs r) k (r.length - k)) ∧ Below W0.heap.size W0 wr) (fun s _ _ _ => r.length - (intOf s).toNat)
    case atStart => rw [← HW.out]; exact ⟨0, rfl, Nat.zero_le _, HE, Below.refl _ _⟩
    case round =>
      obtain ⟨k, rfl, hk, hd, hb⟩ := hrel
      by_cases hkl : k < r.length
      · have hkc : k < t.cs.length := by rw [← H0.out]; exact hkl
        obtain ⟨v, hv⟩ : ∃ v, r[k]? = some v := ⟨r[k], List.getElem?_eq_getElem hkl⟩
        obtain ⟨c, hc⟩ : ∃ c, t.cs[k]? = some c := ⟨t.cs[k], List.getElem?_eq_getElem hkc⟩
        rcases HL.out.below hb with h | ⟨g, o, rfl, hg, hcs⟩
        · rw [h] at hc; simp at hc
        rcases HR.out.below hb with h | ⟨g2, o2, rfl, hg2, hcs2⟩
        · rw [h] at hv; simp at hv
        obtain ⟨d0, d1, d2, d3⟩ := hcs k c hc
        obtain ⟨v0, v1, v2⟩ := hcs2 k v hv
        have HI := mkHid (fitI_some hc hv)
        have n1 := (hb.cell (p := ⟨w.heap.size, 1, none⟩) z0).trans k1
        have zr : w.heap.size < wr.heap.size := Nat.lt_of_lt_of_le z0 hb.size
        have FC := fitC_cases c v
        obtain ⟨vt, vn, vs⟩ := v
        have RC : Hid (Calls Tryz.prog 43 #[.agg #[.int .i64 vt, .int .i64 vn, .string vs]] wr fun e w' => e = .returned (.int .i64 (Va.mk vt vn vs).chk) ∧ Below wr.heap.size wr w') := refCheck_any vt vn vs wr
        dsimp only at v0 v1 v2 FC
        generalize hK : (Va.mk vt vn vs).chk = K at RC FC
        generalize hF : fitC c (Va.mk vt vn vs) = F at FC HI
        have HB := mkHid hb
        clear hcs hcs2 hc hv hK hF hb
        rcases FC with ⟨h, eE⟩ | ⟨h, h0, hn, eE⟩ | ⟨h, h0, hn, eE⟩ | ⟨h, h0, h1, eE⟩ | ⟨h, h0, h1, h3, hm, eE⟩ | ⟨h, h0, h1, h3, hm, eE⟩ | ⟨h, h0, h1, h3, eE⟩
        · subst eE
          have eE : E = F := by rw [hd.out, fe_stop hkl (by rw [HI.out]; exact h), HI.out]
          have a0 : (F == 0) = false := by rw [beq_eq_false_iff_ne]; exact h
          have a1 : (F != 0) = true := by rw [bne_iff_ne]; exact h
          subst eE
          clear hd h
          go_wp2_with (go_at_call 43; refine RC.out.mono ?_; rintro e w3 ⟨rfl, hb3⟩; have n2 := (hb3.cell (p := ⟨w.heap.size, 1, none⟩) zr).trans n1; have i0 := (hb3.cell (p := ⟨g, o + k * 4, none⟩) hg).trans d0; have i1 := (hb3.cell (p := ⟨g, o + k * 4 + 1, none⟩) hg).trans d1; have i2 := (hb3.cell (p := ⟨g, o + k * 4 + 2, none⟩) hg).trans d2; have i3 := (hb3.cell (p := ⟨g, o + k * 4 + 3, none⟩) hg).trans d3; have r0 : (w3.alloc (.cells #[.string c.nm, .int .i64 c.ty, .int .i64 c.mo, .bool c.nn] 52)).cell? ⟨g2, o2 + k * 3, none⟩ = _ := (((Below.refl w3.heap.size w3).alloc (Nat.le_refl _) _).cell (p := ⟨g2, o2 + k * 3, none⟩) (Nat.lt_of_lt_of_le hg2 hb3.size)).trans ((hb3.cell (p := ⟨g2, o2 + k * 3, none⟩) hg2).trans v0); have r2 : (w3.alloc (.cells #[.string c.nm, .int .i64 c.ty, .int .i64 c.mo, .bool c.nn] 52)).cell? ⟨g2, o2 + k * 3 + 2, none⟩ = _ := (((Below.refl w3.heap.size w3).alloc (Nat.le_refl _) _).cell (p := ⟨g2, o2 + k * 3 + 2, none⟩) (Nat.lt_of_lt_of_le hg2 hb3.size)).trans ((hb3.cell (p := ⟨g2, o2 + k * 3 + 2, none⟩) hg2).trans v2); clear d0 d1 d2 d3 v0 v1 v2 n1)
          have B3 := mkHid (HB.out.trans (hb3.mono HB.out.size))
          have B4 : ∀ ob, Below W0.heap.size W0 (w3.alloc ob) := fun ob => B3.out.alloc B3.out.size ob
          have B5 : ∀ ob, Below w.heap.size w (w3.alloc ob) := fun ob => B0.out.trans ((B4 ob).mono B0.out.size)
          go_ret
          exact ⟨rfl, B5 _⟩
        · subst eE
          subst h
          subst h0
          have eE : E = 81 := by rw [hd.out, fe_stop hkl (by rw [HI.out]; decide), HI.out]
          subst eE
          clear hd
          have HNN := mkHid hn
          clear hn
          go_wp2_with (go_at_call 43; refine RC.out.mono ?_; rintro e w3 ⟨rfl, hb3⟩; have n2 := (hb3.cell (p := ⟨w.heap.size, 1, none⟩) zr).trans n1; have i0 := (hb3.cell (p := ⟨g, o + k * 4, none⟩) hg).trans d0; have i1 := (hb3.cell (p := ⟨g, o + k * 4 + 1, none⟩) hg).trans d1; have i2 := (hb3.cell (p := ⟨g, o + k * 4 + 2, none⟩) hg).trans d2; have i3 := (hb3.cell (p := ⟨g, o + k * 4 + 3, none⟩) hg).trans d3; have r0 : (w3.alloc (.cells #[.string c.nm, .int .i64 c.ty, .int .i64 c.mo, .bool c.nn] 52)).cell? ⟨g2, o2 + k * 3, none⟩ = _ := (((Below.refl w3.heap.size w3).alloc (Nat.le_refl _) _).cell (p := ⟨g2, o2 + k * 3, none⟩) (Nat.lt_of_lt_of_le hg2 hb3.size)).trans ((hb3.cell (p := ⟨g2, o2 + k * 3, none⟩) hg2).trans v0); have r2 : (w3.alloc (.cells #[.string c.nm, .int .i64 c.ty, .int .i64 c.mo, .bool c.nn] 52)).cell? ⟨g2, o2 + k * 3 + 2, none⟩ = _ := (((Below.refl w3.heap.size w3).alloc (Nat.le_refl _) _).cell (p := ⟨g2, o2 + k * 3 + 2, none⟩) (Nat.lt_of_lt_of_le hg2 hb3.size)).trans ((hb3.cell (p := ⟨g2, o2 + k * 3 + 2, none⟩) hg2).trans v2); rw [HNN.out] at i3 r0 r2; clear d0 d1 d2 d3 v0 v1 v2 n1)
          have B3 := mkHid (HB.out.trans (hb3.mono HB.out.size))
          have B4 : ∀ ob, Below W0.heap.size W0 (w3.alloc ob) := fun ob => B3.out.alloc B3.out.size ob
          have B5 : ∀ ob, Below w.heap.size w (w3.alloc ob) := fun ob => B0.out.trans ((B4 ob).mono B0.out.size)
          go_ret
          exact ⟨rfl, B5 _⟩
        · subst eE
          subst h
          subst h0
          have hd2 : Hid (E = fe (fitI t.cs r) (k + 1) (r.length - (k + 1))) := by
            show _ = _
            rw [hd.out, fe_pass hkl HI.out]
          clear hd
          have HNN := mkHid hn
          clear hn
          go_wp2_with (go_at_call 43; refine RC.out.mono ?_; rintro e w3 ⟨rfl, hb3⟩; have n2 := (hb3.cell (p := ⟨w.heap.size, 1, none⟩) zr).trans n1; have i0 := (hb3.cell (p := ⟨g, o + k * 4, none⟩) hg).trans d0; have i1 := (hb3.cell (p := ⟨g, o + k * 4 + 1, none⟩) hg).trans d1; have i2 := (hb3.cell (p := ⟨g, o + k * 4 + 2, none⟩) hg).trans d2; have i3 := (hb3.cell (p := ⟨g, o + k * 4 + 3, none⟩) hg).trans d3; have r0 : (w3.alloc (.cells #[.string c.nm, .int .i64 c.ty, .int .i64 c.mo, .bool c.nn] 52)).cell? ⟨g2, o2 + k * 3, none⟩ = _ := (((Below.refl w3.heap.size w3).alloc (Nat.le_refl _) _).cell (p := ⟨g2, o2 + k * 3, none⟩) (Nat.lt_of_lt_of_le hg2 hb3.size)).trans ((hb3.cell (p := ⟨g2, o2 + k * 3, none⟩) hg2).trans v0); have r2 : (w3.alloc (.cells #[.string c.nm, .int .i64 c.ty, .int .i64 c.mo, .bool c.nn] 52)).cell? ⟨g2, o2 + k * 3 + 2, none⟩ = _ := (((Below.refl w3.heap.size w3).alloc (Nat.le_refl _) _).cell (p := ⟨g2, o2 + k * 3 + 2, none⟩) (Nat.lt_of_lt_of_le hg2 hb3.size)).trans ((hb3.cell (p := ⟨g2, o2 + k * 3 + 2, none⟩) hg2).trans v2); rw [HNN.out] at i3 r0 r2; clear d0 d1 d2 d3 v0 v1 v2 n1)
          have B3 := mkHid (HB.out.trans (hb3.mono HB.out.size))
          have B4 : ∀ ob, Below W0.heap.size W0 (w3.alloc ob) := fun ob => B3.out.alloc B3.out.size ob
          have B5 : ∀ ob, Below w.heap.size w (w3.alloc ob) := fun ob => B0.out.trans ((B4 ob).mono B0.out.size)
          go_quiet (fail)
          go_wp2_with fail
          go_quiet (fail)
          go_wp2_with fail
          go_roundw
          case rel => exact ⟨k + 1, by go_num, hkl, hd2, below_drewN (B4 _) _⟩
          case measure => simp [intOf]; omega
        · subst eE
          subst h
          have a2 : (vt == 0) = false := by rw [beq_eq_false_iff_ne]; exact h0
          have a3 : (vt != 0) = true := by rw [bne_iff_ne]; exact h0
          have a4 : (vt == c.ty) = false := by rw [beq_eq_false_iff_ne]; exact h1
          have a5 : (vt != c.ty) = true := by rw [bne_iff_ne]; exact h1
          have eE : E = 7 := by rw [hd.out, fe_stop hkl (by rw [HI.out]; decide), HI.out]
          subst eE
          clear hd
          clear h0 h1
          go_wp2_with (go_at_call 43; refine RC.out.mono ?_; rintro e w3 ⟨rfl, hb3⟩; have n2 := (hb3.cell (p := ⟨w.heap.size, 1, none⟩) zr).trans n1; have i0 := (hb3.cell (p := ⟨g, o + k * 4, none⟩) hg).trans d0; have i1 := (hb3.cell (p := ⟨g, o + k * 4 + 1, none⟩) hg).trans d1; have i2 := (hb3.cell (p := ⟨g, o + k * 4 + 2, none⟩) hg).trans d2; have i3 := (hb3.cell (p := ⟨g, o + k * 4 + 3, none⟩) hg).trans d3; have r0 : (w3.alloc (.cells #[.string c.nm, .int .i64 c.ty, .int .i64 c.mo, .bool c.nn] 52)).cell? ⟨g2, o2 + k * 3, none⟩ = _ := (((Below.refl w3.heap.size w3).alloc (Nat.le_refl _) _).cell (p := ⟨g2, o2 + k * 3, none⟩) (Nat.lt_of_lt_of_le hg2 hb3.size)).trans ((hb3.cell (p := ⟨g2, o2 + k * 3, none⟩) hg2).trans v0); have r2 : (w3.alloc (.cells #[.string c.nm, .int .i64 c.ty, .int .i64 c.mo, .bool c.nn] 52)).cell? ⟨g2, o2 + k * 3 + 2, none⟩ = _ := (((Below.refl w3.heap.size w3).alloc (Nat.le_refl _) _).cell (p := ⟨g2, o2 + k * 3 + 2, none⟩) (Nat.lt_of_lt_of_le hg2 hb3.size)).trans ((hb3.cell (p := ⟨g2, o2 + k * 3 + 2, none⟩) hg2).trans v2); clear d0 d1 d2 d3 v0 v1 v2 n1)
          have B3 := mkHid (HB.out.trans (hb3.mono HB.out.size))
          have B4 : ∀ ob, Below W0.heap.size W0 (w3.alloc ob) := fun ob => B3.out.alloc B3.out.size ob
          have B5 : ∀ ob, Below w.heap.size w (w3.alloc ob) := fun ob => B0.out.trans ((B4 ob).mono B0.out.size)
          go_quiet (fail)
          go_wp2_with fail
          go_ret
          exact ⟨rfl, below_drewN (B5 _) _⟩
        · subst eE
          subst h
          have a2 : (vt == 0) = false := by rw [beq_eq_false_iff_ne]; exact h0
          have a3 : (vt != 0) = true := by rw [bne_iff_ne]; exact h0
          have a4 : (vt == c.ty) = true := by rw [beq_iff_eq]; exact h1
          have a5 : (vt != c.ty) = false := by rw [bne, a4]; rfl
          have a6 : (vt == 3) = true := by rw [beq_iff_eq]; exact h3
          have a7 : decide (c.mo < (vs.size : Int)) = true := decide_eq_true hm
          have eE : E = 2 := by rw [hd.out, fe_stop hkl (by rw [HI.out]; decide), HI.out]
          subst eE
          clear hd
          clear h0 h1 h3 hm
          go_wp2_with (go_at_call 43; refine RC.out.mono ?_; rintro e w3 ⟨rfl, hb3⟩; have n2 := (hb3.cell (p := ⟨w.heap.size, 1, none⟩) zr).trans n1; have i0 := (hb3.cell (p := ⟨g, o + k * 4, none⟩) hg).trans d0; have i1 := (hb3.cell (p := ⟨g, o + k * 4 + 1, none⟩) hg).trans d1; have i2 := (hb3.cell (p := ⟨g, o + k * 4 + 2, none⟩) hg).trans d2; have i3 := (hb3.cell (p := ⟨g, o + k * 4 + 3, none⟩) hg).trans d3; have r0 : (w3.alloc (.cells #[.string c.nm, .int .i64 c.ty, .int .i64 c.mo, .bool c.nn] 52)).cell? ⟨g2, o2 + k * 3, none⟩ = _ := (((Below.refl w3.heap.size w3).alloc (Nat.le_refl _) _).cell (p := ⟨g2, o2 + k * 3, none⟩) (Nat.lt_of_lt_of_le hg2 hb3.size)).trans ((hb3.cell (p := ⟨g2, o2 + k * 3, none⟩) hg2).trans v0); have r2 : (w3.alloc (.cells #[.string c.nm, .int .i64 c.ty, .int .i64 c.mo, .bool c.nn] 52)).cell? ⟨g2, o2 + k * 3 + 2, none⟩ = _ := (((Below.refl w3.heap.size w3).alloc (Nat.le_refl _) _).cell (p := ⟨g2, o2 + k * 3 + 2, none⟩) (Nat.lt_of_lt_of_le hg2 hb3.size)).trans ((hb3.cell (p := ⟨g2, o2 + k * 3 + 2, none⟩) hg2).trans v2); clear d0 d1 d2 d3 v0 v1 v2 n1)
          have B3 := mkHid (HB.out.trans (hb3.mono HB.out.size))
          have B4 : ∀ ob, Below W0.heap.size W0 (w3.alloc ob) := fun ob => B3.out.alloc B3.out.size ob
          have B5 : ∀ ob, Below w.heap.size w (w3.alloc ob) := fun ob => B0.out.trans ((B4 ob).mono B0.out.size)
          go_quiet (fail)
          go_wp2_with fail
          go_quiet (fail)
          go_wp2_with fail
          go_ret
          exact ⟨rfl, below_drewN (below_drewN (B5 _) _) _⟩
        · subst eE
          subst h
          have a2 : (vt == 0) = false := by rw [beq_eq_false_iff_ne]; exact h0
          have a3 : (vt != 0) = true := by rw [bne_iff_ne]; exact h0
          have a4 : (vt == c.ty) = true := by rw [beq_iff_eq]; exact h1
          have a5 : (vt != c.ty) = false := by rw [bne, a4]; rfl
          have a6 : (vt == 3) = true := by rw [beq_iff_eq]; exact h3
          have a7 : decide (c.mo < (vs.size : Int)) = false := decide_eq_false hm
          have hd2 : Hid (E = fe (fitI t.cs r) (k + 1) (r.length - (k + 1))) := by
            show _ = _
            rw [hd.out, fe_pass hkl HI.out]
          clear hd
          clear h0 h1 h3 hm
          go_wp2_with (go_at_call 43; refine RC.out.mono ?_; rintro e w3 ⟨rfl, hb3⟩; have n2 := (hb3.cell (p := ⟨w.heap.size, 1, none⟩) zr).trans n1; have i0 := (hb3.cell (p := ⟨g, o + k * 4, none⟩) hg).trans d0; have i1 := (hb3.cell (p := ⟨g, o + k * 4 + 1, none⟩) hg).trans d1; have i2 := (hb3.cell (p := ⟨g, o + k * 4 + 2, none⟩) hg).trans d2; have i3 := (hb3.cell (p := ⟨g, o + k * 4 + 3, none⟩) hg).trans d3; have r0 : (w3.alloc (.cells #[.string c.nm, .int .i64 c.ty, .int .i64 c.mo, .bool c.nn] 52)).cell? ⟨g2, o2 + k * 3, none⟩ = _ := (((Below.refl w3.heap.size w3).alloc (Nat.le_refl _) _).cell (p := ⟨g2, o2 + k * 3, none⟩) (Nat.lt_of_lt_of_le hg2 hb3.size)).trans ((hb3.cell (p := ⟨g2, o2 + k * 3, none⟩) hg2).trans v0); have r2 : (w3.alloc (.cells #[.string c.nm, .int .i64 c.ty, .int .i64 c.mo, .bool c.nn] 52)).cell? ⟨g2, o2 + k * 3 + 2, none⟩ = _ := (((Below.refl w3.heap.size w3).alloc (Nat.le_refl _) _).cell (p := ⟨g2, o2 + k * 3 + 2, none⟩) (Nat.lt_of_lt_of_le hg2 hb3.size)).trans ((hb3.cell (p := ⟨g2, o2 + k * 3 + 2, none⟩) hg2).trans v2); clear d0 d1 d2 d3 v0 v1 v2 n1)
          have B3 := mkHid (HB.out.trans (hb3.mono HB.out.size))
          have B4 : ∀ ob, Below W0.heap.size W0 (w3.alloc ob) := fun ob => B3.out.alloc B3.out.size ob
          have B5 : ∀ ob, Below w.heap.size w (w3.alloc ob) := fun ob => B0.out.trans ((B4 ob).mono B0.out.size)
          go_quiet (fail)
          go_wp2_with fail
          go_quiet (fail)
          go_wp2_with fail
          go_roundw
          case rel => exact ⟨k + 1, by go_num, hkl, hd2, below_drewN (B4 _) _⟩
          case measure => simp [intOf]; omega
        · subst eE
          subst h
          have a2 : (vt == 0) = false := by rw [beq_eq_false_iff_ne]; exact h0
          have a3 : (vt != 0) = true := by rw [bne_iff_ne]; exact h0
          have a4 : (vt == c.ty) = true := by rw [beq_iff_eq]; exact h1
          have a5 : (vt != c.ty) = false := by rw [bne, a4]; rfl
          have a6 : (vt == 3) = false := by rw [beq_eq_false_iff_ne]; exact h3
          have hd2 : Hid (E = fe (fitI t.cs r) (k + 1) (r.length - (k + 1))) := by
            show _ = _
            rw [hd.out, fe_pass hkl HI.out]
          clear hd
          clear h0 h1 h3
          go_wp2_with (go_at_call 43; refine RC.out.mono ?_; rintro e w3 ⟨rfl, hb3⟩; have n2 := (hb3.cell (p := ⟨w.heap.size, 1, none⟩) zr).trans n1; have i0 := (hb3.cell (p := ⟨g, o + k * 4, none⟩) hg).trans d0; have i1 := (hb3.cell (p := ⟨g, o + k * 4 + 1, none⟩) hg).trans d1; have i2 := (hb3.cell (p := ⟨g, o + k * 4 + 2, none⟩) hg).trans d2; have i3 := (hb3.cell (p := ⟨g, o + k * 4 + 3, none⟩) hg).trans d3; have r0 : (w3.alloc (.cells #[.string c.nm, .int .i64 c.ty, .int .i64 c.mo, .bool c.nn] 52)).cell? ⟨g2, o2 + k * 3, none⟩ = _ := (((Below.refl w3.heap.size w3).alloc (Nat.le_refl _) _).cell (p := ⟨g2, o2 + k * 3, none⟩) (Nat.lt_of_lt_of_le hg2 hb3.size)).trans ((hb3.cell (p := ⟨g2, o2 + k * 3, none⟩) hg2).trans v0); have r2 : (w3.alloc (.cells #[.string c.nm, .int .i64 c.ty, .int .i64 c.mo, .bool c.nn] 52)).cell? ⟨g2, o2 + k * 3 + 2, none⟩ = _ := (((Below.refl w3.heap.size w3).alloc (Nat.le_refl _) _).cell (p := ⟨g2, o2 + k * 3 + 2, none⟩) (Nat.lt_of_lt_of_le hg2 hb3.size)).trans ((hb3.cell (p := ⟨g2, o2 + k * 3 + 2, none⟩) hg2).trans v2); clear d0 d1 d2 d3 v0 v1 v2 n1)
          have B3 := mkHid (HB.out.trans (hb3.mono HB.out.size))
          have B4 : ∀ ob, Below W0.heap.size W0 (w3.alloc ob) := fun ob => B3.out.alloc B3.out.size ob
          have B5 : ∀ ob, Below w.heap.size w (w3.alloc ob) := fun ob => B0.out.trans ((B4 ob).mono B0.out.size)
          go_quiet (fail)
          go_wp2_with fail
          go_quiet (fail)
          go_wp2_with fail
          go_roundw
          case rel => exact ⟨k + 1, by go_num, hkl, hd2, below_drewN (B4 _) _⟩
          case measure => simp [intOf]; omega
      · have eE : E = 0 := by rw [hd.out, fe_end _ _ _ (by omega)]
        subst eE
        go_wp2_with fail
        go_ret
        exact ⟨rfl, B0.out.trans (hb.mono B0.out.size)⟩
  · rw [fitK_off h0]
    have h0' : ((r.length : Int) == (t.cs.length : Int)) = false := by rw [beq_eq_false_iff_ne]; omega
    have h0n : ((r.length : Int) != (t.cs.length : Int)) = true := by rw [bne_iff_ne]; omega
    clear h0 hl hr
    subst hW0
    go_enter Tryz.func28, Tryz.ntmps28
    go_wp2_with fail
    go_ret
    exact ⟨rfl, B0.out⟩
set_option maxHeartbeats 8000000 in
set_option maxRecDepth 1000000 in
theorem refFits_any (t : Tb) (P Q : Option Addr) (C D : Nat) (r : List Va) (R : Option Addr) (Dr : Nat) (w : World) (hin : tbIn w t P Q) (hG : tbG t) (hr : rowIn w R r) (hn : r.length ≤ 100000000) :
    Calls Tryz.prog 9 #[tbV t P Q C D, .slice R r.length Dr] w fun e w' => e = .returned (.int .i64 (tfK t r)) ∧ Below w.heap.size w w' := by
  obtain ⟨W0, hW0⟩ : ∃ W0, W0 = w.alloc (.cells #[.string t.nm, .slice P t.cs.length C, .slice Q t.ks.length D, .int .i64 t.pa, .int .i64 t.mo] 25) := ⟨_, rfl⟩
  have b0 : Below w.heap.size w W0 := by rw [hW0]; exact (Below.refl _ w).alloc (Nat.le_refl _) _
  have k0 : W0.cell? ⟨w.heap.size, 0, none⟩ = some (.string t.nm) := by rw [hW0]; simp
  have k1 : W0.cell? ⟨w.heap.size, 1, none⟩ = some (.slice P t.cs.length C) := by rw [hW0]; simp
  have k2 : W0.cell? ⟨w.heap.size, 2, none⟩ = some (.slice Q t.ks.length D) := by rw [hW0]; simp
  have k3 : W0.cell? ⟨w.heap.size, 3, none⟩ = some (.int .i64 t.pa) := by rw [hW0]; simp
  have k4 : W0.cell? ⟨w.heap.size, 4, none⟩ = some (.int .i64 t.mo) := by rw [hW0]; simp
  have z0 : w.heap.size < W0.heap.size := by rw [hW0]; simp
  have CK := mkHid (refCheck_tb t P Q C D W0 (hin.below b0) hG)
  have FT : Hid (∀ W, Below W0.heap.size W0 W → Calls Tryz.prog 28 #[tbV t P Q C D, .slice R r.length Dr] W fun e w' => e = .returned (.int .i64 (fitK t.cs r)) ∧ Below W.heap.size W w') := fun W hW => refFits_row t P Q C D r R Dr W ((hin.below b0).below hW).1 ((hr.below b0).below hW) hn
  have B0 := mkHid b0
  clear hin hr b0 hG
  unfold tfK
  by_cases hz : tbK t = 0
  · rw [if_pos hz]
    rw [hz] at CK
    generalize fitK t.cs r = E at *
    subst hW0
    go_enter Tryz.func9, Tryz.ntmps9
    go_wp2_with (first | (go_at_call 7; refine CK.out.mono ?_; rintro e w2 ⟨rfl, hb⟩; have j0 := (hb.cell (p := ⟨w.heap.size, 0, none⟩) z0).trans k0; have j1 := (hb.cell (p := ⟨w.heap.size, 1, none⟩) z0).trans k1; have j2 := (hb.cell (p := ⟨w.heap.size, 2, none⟩) z0).trans k2; have j3 := (hb.cell (p := ⟨w.heap.size, 3, none⟩) z0).trans k3; have j4 := (hb.cell (p := ⟨w.heap.size, 4, none⟩) z0).trans k4) | (go_at_call 28; refine (FT.out _ hb).mono ?_; rintro e w3 ⟨rfl, hb3⟩))
    go_ret
    exact ⟨rfl, (B0.out.trans (hb.mono B0.out.size)).trans (hb3.mono (B0.out.trans (hb.mono B0.out.size)).size)⟩
  · rw [if_neg hz]
    generalize tbK t = E at *
    have hz2 : (E == 0) = false := by rw [beq_eq_false_iff_ne]; exact hz
    subst hW0
    clear hz
    go_enter Tryz.func9, Tryz.ntmps9
    go_wp2_with (go_at_call 7; refine CK.out.mono ?_; rintro e w2 ⟨rfl, hb⟩)
    go_ret
    exact ⟨rfl, B0.out.trans (hb.mono B0.out.size)⟩
end Go.Proofs.YtecebjfcokmmkaaGreatDoor
