/-
  The walks of table.fits, Fits and of lockstepref08.fits, Fits.
-/
import Derived.Test.YtecebjfcokmmkaaGreatDoorTfL
namespace Go.Proofs.YtecebjfcokmmkaaGreatDoor
open Go.RowKit Go.Shelf
set_option maxRecDepth 100000

theorem fitK_off {l : List Cl} {r : List Va} (h : ¬ r.length = l.length) : fitK l r = 1 := by unfold fitK; rw [if_pos h]
theorem fitK_in {l : List Cl} {r : List Va} (h : r.length = l.length) : fitK l r = fe (fitI l r) 0 (r.length - 0) := by unfold fitK; rw [if_neg (fun e => e h)]; rfl
set_option maxHeartbeats 8000000 in
set_option maxRecDepth 1000000 in
theorem fits_any (l : List Cl) (P : Option Addr) (C : Nat) (r : List Va) (R : Option Addr) (D : Nat) (w : World) (hl : clIn w P l) (hr : rowIn w R r) (hn : r.length ≤ 100000000) (hs : ∀ v ∈ r, v.s.size ≤ 9223372036854775807) (hT : Tabs w) :
    Calls Tryz.prog 27 #[.slice P l.length C, .slice R r.length D] w fun e w' => e = .returned (.int .i64 (fitK l r)) ∧ Below w.heap.size w w' := by
  by_cases h0 : r.length = l.length
  · rw [fitK_in h0]
    have h0' : ((r.length : Int) == (l.length : Int)) = true := by rw [h0]; simp
    have h0n : ((r.length : Int) != (l.length : Int)) = false := by rw [h0]; simp
    have H0 := mkHid h0
    obtain ⟨E, hE⟩ : ∃ E, E = fe (fitI l r) 0 (r.length - 0) := ⟨_, rfl⟩
    rw [← hE]
    have HE := mkHid hE
    have HL := mkHid hl
    have HR := mkHid hr
    have HT := mkHid hT
    have HZ := mkHid hs
    clear hE h0 hl hr hT hs
    go_enter Tryz.func27, Tryz.ntmps27
    go_wp2_with fail
    go_loopw [5, 6, 7, 15] (fun _ _ _ s wr => ∃ k : Nat, s = .int .i64 k ∧ k ≤ r.length ∧ Hid (E = fe (fitI l r) k (r.length - k)) ∧ Below w.heap.size w wr) (fun _ _ _ s _ => r.length - (intOf s).toNat)
    case atStart => exact ⟨0, rfl, Nat.zero_le _, HE, Below.refl _ _⟩
    case round =>
      obtain ⟨k, rfl, hk, hd, hb⟩ := hrel
      by_cases hkl : k < r.length
      · have hkc : k < l.length := by rw [← H0.out]; exact hkl
        obtain ⟨v, hv⟩ : ∃ v, r[k]? = some v := ⟨r[k], List.getElem?_eq_getElem hkl⟩
        obtain ⟨c, hc⟩ : ∃ c, l[k]? = some c := ⟨l[k], List.getElem?_eq_getElem hkc⟩
        rcases HL.out.below hb with h | ⟨g, o, rfl, hg, hcs⟩
        · rw [h] at hc; simp at hc
        rcases HR.out.below hb with h | ⟨g2, o2, rfl, hg2, hcs2⟩
        · rw [h] at hv; simp at hv
        obtain ⟨d0, d1, d2, d3⟩ := hcs k c hc
        obtain ⟨v0, v1, v2⟩ := hcs2 k v hv
        have HI := mkHid (fitI_some hc hv)
        have hsv := HZ.out v (List.mem_of_getElem? hv)
        obtain ⟨W1, hW1⟩ : ∃ W1, W1 = wr.alloc (.cells #[.int .i64 v.ty, .int .i64 v.n, .string v.s] 56) := ⟨_, rfl⟩
        have b1 : Below wr.heap.size wr W1 := by rw [hW1]; exact (Below.refl _ wr).alloc (Nat.le_refl _) _
        have B1 := mkHid (hb.trans (b1.mono hb.size))
        have z1 : wr.heap.size < W1.heap.size := by rw [hW1]; simp
        have hgW : g < W1.heap.size := by omega
        have T1 := mkHid (((HT.out.below hb).below b1).below (below_drewN (Below.refl _ W1) 1))
        have y0 : W1.drew.cell? ⟨g, o + k * 4, none⟩ = some (.string c.nm) := (b1.cell (p := ⟨g, o + k * 4, none⟩) hg).trans d0
        have y1 : W1.drew.cell? ⟨g, o + k * 4 + 1, none⟩ = some (.int .i64 c.ty) := (b1.cell (p := ⟨g, o + k * 4 + 1, none⟩) hg).trans d1
        have y2 : W1.drew.cell? ⟨g, o + k * 4 + 2, none⟩ = some (.int .i64 c.mo) := (b1.cell (p := ⟨g, o + k * 4 + 2, none⟩) hg).trans d2
        have y3 : W1.drew.cell? ⟨g, o + k * 4 + 3, none⟩ = some (.bool c.nn) := (b1.cell (p := ⟨g, o + k * 4 + 3, none⟩) hg).trans d3
        have x0 : W1.drew.cell? ⟨wr.heap.size, 0, none⟩ = some (.int .i64 v.ty) := by rw [hW1]; simp
        have x1 : W1.drew.cell? ⟨wr.heap.size, 1, none⟩ = some (.int .i64 v.n) := by rw [hW1]; simp
        have x2 : W1.drew.cell? ⟨wr.heap.size, 2, none⟩ = some (.string v.s) := by rw [hW1]; simp
        have FC : Hid (∀ W, Tabs W → Calls Tryz.prog 44 #[clV c, vaV v] W fun e w' => e = .returned (.int .i64 (fitC c v)) ∧ Below W.heap.size W w') := fun W h => fitsCol_any c v W hsv h
        obtain ⟨HS, hHS⟩ : ∃ HS : World → Prop, HS = fun w' => Tabs w' ∧ Below w.heap.size w w' := ⟨_, rfl⟩
        have S1 : Hid (HS W1.drew) := by show HS _; rw [hHS]; exact ⟨T1.out, B1.out.drew⟩
        have ST : Hid (∀ W, HS W → Tabs W) := fun W h => by rw [hHS] at h; exact h.1
        have SB : Hid (∀ W, HS W → Below w.heap.size w W) := fun W h => by rw [hHS] at h; exact h.2
        have SN : Hid (∀ W W', HS W → Below W.heap.size W W' → HS W') := fun W W' h hb => by rw [hHS] at h ⊢; exact ⟨h.1.below hb, h.2.trans (hb.mono h.2.size)⟩
        have hdz : W1.drew.heap.size = W1.heap.size := rfl
        have zd1 : wr.heap.size < W1.drew.heap.size := z1
        have zd2 : g < W1.drew.heap.size := hgW
        have hEq := mkHid hHS
        clear hcs hcs2 hc hv b1 z1 hgW T1 d0 d1 d2 d3 hdz hHS hg hg2 hsv
        subst hW1
        have bb := hb
        clear hb
        by_cases hz : fitC c v = 0
        · have hd2 : Hid (E = fe (fitI l r) (k + 1) (r.length - (k + 1))) := by
            show _ = _
            rw [hd.out, fe_pass hkl (by rw [HI.out, hz])]
          rw [hz] at FC
          clear hd hz
          go_wp2_with fail
          go_region_held3 (fun w' => HS w' ∧ w'.cell? ⟨g, o + k * 4, none⟩ = some (.string c.nm) ∧ w'.cell? ⟨g, o + k * 4 + 1, none⟩ = some (.int .i64 c.ty) ∧ w'.cell? ⟨g, o + k * 4 + 2, none⟩ = some (.int .i64 c.mo) ∧ w'.cell? ⟨g, o + k * 4 + 3, none⟩ = some (.bool c.nn) ∧ w'.cell? ⟨wr.heap.size, 0, none⟩ = some (.int .i64 v.ty) ∧ w'.cell? ⟨wr.heap.size, 1, none⟩ = some (.int .i64 v.n) ∧ w'.cell? ⟨wr.heap.size, 2, none⟩ = some (.string v.s)) (first | exact ⟨S1.out, y0, y1, y2, y3, x0, x1, x2⟩ | exact ⟨SN.out _ _ S1.out hb2, (hb2.cell (p := ⟨g, o + k * 4, none⟩) zd2).trans y0, (hb2.cell (p := ⟨g, o + k * 4 + 1, none⟩) zd2).trans y1, (hb2.cell (p := ⟨g, o + k * 4 + 2, none⟩) zd2).trans y2, (hb2.cell (p := ⟨g, o + k * 4 + 3, none⟩) zd2).trans y3, (hb2.cell (p := ⟨wr.heap.size, 0, none⟩) zd1).trans x0, (hb2.cell (p := ⟨wr.heap.size, 1, none⟩) zd1).trans x1, (hb2.cell (p := ⟨wr.heap.size, 2, none⟩) zd1).trans x2⟩ | fail) ((go_at_call 44; refine (FC.out _ (ST.out _ S1.out)).mono ?_; rintro e w3 ⟨rfl, hb2⟩))
          go_wp2_with fail
          go_roundw
          case rel => exact ⟨k + 1, by go_num, hkl, hd2, SB.out _ (SN.out _ _ S1.out hb2)⟩
          case measure => simp [intOf]; omega
        · have eE : E = fitC c v := by rw [hd.out, fe_stop hkl (by rw [HI.out]; exact hz), HI.out]
          generalize fitC c v = G at *
          have hz2 : (G == 0) = false := by rw [beq_eq_false_iff_ne]; exact hz
          subst eE
          clear hd hz
          go_wp2_with fail
          go_region_held3 (fun w' => HS w' ∧ w'.cell? ⟨g, o + k * 4, none⟩ = some (.string c.nm) ∧ w'.cell? ⟨g, o + k * 4 + 1, none⟩ = some (.int .i64 c.ty) ∧ w'.cell? ⟨g, o + k * 4 + 2, none⟩ = some (.int .i64 c.mo) ∧ w'.cell? ⟨g, o + k * 4 + 3, none⟩ = some (.bool c.nn) ∧ w'.cell? ⟨wr.heap.size, 0, none⟩ = some (.int .i64 v.ty) ∧ w'.cell? ⟨wr.heap.size, 1, none⟩ = some (.int .i64 v.n) ∧ w'.cell? ⟨wr.heap.size, 2, none⟩ = some (.string v.s)) (first | exact ⟨S1.out, y0, y1, y2, y3, x0, x1, x2⟩ | exact ⟨SN.out _ _ S1.out hb2, (hb2.cell (p := ⟨g, o + k * 4, none⟩) zd2).trans y0, (hb2.cell (p := ⟨g, o + k * 4 + 1, none⟩) zd2).trans y1, (hb2.cell (p := ⟨g, o + k * 4 + 2, none⟩) zd2).trans y2, (hb2.cell (p := ⟨g, o + k * 4 + 3, none⟩) zd2).trans y3, (hb2.cell (p := ⟨wr.heap.size, 0, none⟩) zd1).trans x0, (hb2.cell (p := ⟨wr.heap.size, 1, none⟩) zd1).trans x1, (hb2.cell (p := ⟨wr.heap.size, 2, none⟩) zd1).trans x2⟩ | fail) ((go_at_call 44; refine (FC.out _ (ST.out _ S1.out)).mono ?_; rintro e w3 ⟨rfl, hb2⟩))
          go_wp2_with fail
          go_ret
          exact ⟨rfl, SB.out _ (SN.out _ _ S1.out hb2)⟩
      · have eE : E = 0 := by rw [hd.out, fe_end _ _ _ (by omega)]
        subst eE
        go_wp2_with fail
        go_ret
        exact ⟨rfl, hb⟩
  · rw [fitK_off h0]
    have h0' : ((r.length : Int) == (l.length : Int)) = false := by rw [beq_eq_false_iff_ne]; omega
    have h0n : ((r.length : Int) != (l.length : Int)) = true := by rw [bne_iff_ne]; omega
    clear h0 hl hr
    go_enter Tryz.func27, Tryz.ntmps27
    go_wp2_with fail
    go_ret
    exact ⟨rfl, Below.refl _ _⟩
set_option maxHeartbeats 8000000 in
set_option maxRecDepth 1000000 in
theorem Fits_any (t : Tb) (P Q : Option Addr) (C D : Nat) (r : List Va) (R : Option Addr) (Dr : Nat) (w : World) (hin : tbIn w t P Q) (hC : t.cs.length ≤ C) (hD : t.ks.length ≤ D) (hG : tbG t) (hr : rowIn w R r) (hn : r.length ≤ 100000000) (hs : ∀ v ∈ r, v.s.size ≤ 9223372036854775807) (hT : Tabs w) :
    Calls Tryz.prog 8 #[tbV t P Q C D, .slice R r.length Dr] w fun e w' => e = .returned (.int .i64 (tfK t r)) ∧ Below w.heap.size w w' := by
  obtain ⟨W0, hW0⟩ : ∃ W0, W0 = w.alloc (.cells #[.string t.nm, .slice P t.cs.length C, .slice Q t.ks.length D, .int .i64 t.pa, .int .i64 t.mo] 25) := ⟨_, rfl⟩
  have b0 : Below w.heap.size w W0 := by rw [hW0]; exact (Below.refl _ w).alloc (Nat.le_refl _) _
  have k1 : W0.cell? ⟨w.heap.size, 1, none⟩ = some (.slice P t.cs.length C) := by rw [hW0]; simp
  have z0 : w.heap.size < W0.heap.size := by rw [hW0]; simp
  have CK := mkHid (Check_tb t P Q C D W0 (hin.below b0) hC hD hG (hT.below b0))
  have FT : Hid (∀ W, Below W0.heap.size W0 W → Calls Tryz.prog 27 #[.slice P t.cs.length C, .slice R r.length Dr] W fun e w' => e = .returned (.int .i64 (fitK t.cs r)) ∧ Below W.heap.size W w') := fun W hW => fits_any t.cs P C r R Dr W ((hin.below b0).below hW).1 ((hr.below b0).below hW) hn hs ((hT.below b0).below hW)
  have B0 := mkHid b0
  clear hin hr hT b0 hG hs
  unfold tfK
  by_cases hz : tbK t = 0
  · rw [if_pos hz]
    rw [hz] at CK
    generalize fitK t.cs r = E at *
    subst hW0
    go_enter Tryz.func8, Tryz.ntmps8
    go_wp2_with (first | (go_at_call 6; refine CK.out.mono ?_; rintro e w2 ⟨rfl, hb⟩; have k2 := (hb.cell (p := ⟨w.heap.size, 1, none⟩) z0).trans k1) | (go_at_call 27; refine (FT.out _ hb).mono ?_; rintro e w3 ⟨rfl, hb3⟩))
    go_ret
    exact ⟨rfl, (B0.out.trans (hb.mono B0.out.size)).trans (hb3.mono (B0.out.trans (hb.mono B0.out.size)).size)⟩
  · rw [if_neg hz]
    generalize tbK t = E at *
    have hz2 : (E == 0) = false := by rw [beq_eq_false_iff_ne]; exact hz
    subst hW0
    clear hz
    go_enter Tryz.func8, Tryz.ntmps8
    go_wp2_with (go_at_call 6; refine CK.out.mono ?_; rintro e w2 ⟨rfl, hb⟩)
    go_ret
    exact ⟨rfl, B0.out.trans (hb.mono B0.out.size)⟩
end Go.Proofs.YtecebjfcokmmkaaGreatDoor
