/-
  The walk of lockstepref08.Forms at two forms that say the same; of Plain.
-/
import Derived.Test.YtecebjfcokmmkaaGreatDoorTfN
namespace Go.Proofs.YtecebjfcokmmkaaGreatDoor
open Go.RowKit Go.Shelf
set_option maxRecDepth 100000

set_option maxHeartbeats 8000000 in
set_option maxRecDepth 1000000 in
theorem Forms_eq (t : Tb) (P1 Q1 P2 Q2 : Option Addr) (C1 D1 C2 D2 : Nat) (w : World) (h1 : tbIn w t P1 Q1) (h2 : tbIn w t P2 Q2) (hG : tbG t) :
    Calls Tryz.prog 10 #[tbV t P1 Q1 C1 D1, tbV t P2 Q2 C2 D2] w fun e w' => e = .returned (.bool true) ∧ Below w.heap.size w w' := by
  obtain ⟨W0, hW0⟩ : ∃ W0, W0 = w.alloc (.cells #[.string t.nm, .slice P1 t.cs.length C1, .slice Q1 t.ks.length D1, .int .i64 t.pa, .int .i64 t.mo] 25) := ⟨_, rfl⟩
  have b0 : Below w.heap.size w W0 := by rw [hW0]; exact (Below.refl _ w).alloc (Nat.le_refl _) _
  have s0 : W0.heap.size = w.heap.size + 1 := by rw [hW0]; simp
  obtain ⟨W1, hW1⟩ : ∃ W1, W1 = W0.alloc (.cells #[.string t.nm, .slice P2 t.cs.length C2, .slice Q2 t.ks.length D2, .int .i64 t.pa, .int .i64 t.mo] 25) := ⟨_, rfl⟩
  have b1 : Below W0.heap.size W0 W1 := by rw [hW1]; exact (Below.refl _ W0).alloc (Nat.le_refl _) _
  have B1 := mkHid (b0.trans (b1.mono b0.size))
  have a1 : W1.cell? ⟨w.heap.size, 1, none⟩ = some (.slice P1 t.cs.length C1) := (b1.cell (p := ⟨w.heap.size, 1, none⟩) (by show w.heap.size < _; omega)).trans (by rw [hW0]; simp)
  have a2 : W1.cell? ⟨w.heap.size, 2, none⟩ = some (.slice Q1 t.ks.length D1) := (b1.cell (p := ⟨w.heap.size, 2, none⟩) (by show w.heap.size < _; omega)).trans (by rw [hW0]; simp)
  have e1 : W1.cell? ⟨w.heap.size + 1, 1, none⟩ = some (.slice P2 t.cs.length C2) := by rw [hW1, ← s0]; simp
  have e2 : W1.cell? ⟨w.heap.size + 1, 2, none⟩ = some (.slice Q2 t.ks.length D2) := by rw [hW1, ← s0]; simp
  have z1 : w.heap.size + 1 < W1.heap.size := by rw [hW1]; simp; omega
  have z0 : w.heap.size < W1.heap.size := by omega
  have H1 := mkHid (h1.below B1.out)
  have H2 := mkHid (h2.below B1.out)
  have hlm := hG.2.1
  have hln := hG.2.2.1
  have HG := mkHid hG
  have HW1 := mkHid hW1
  have HW0 := mkHid hW0
  clear h1 h2 hG b0 b1 s0 hW1 hW0
  go_enter Tryz.func10, Tryz.ntmps10
  go_wp2_with fail
  rw [← HW0.out, ← HW1.out]
  go_loopw [5] (fun s wr => ∃ k : Nat, s = .int .i64 k ∧ k ≤ t.cs.length ∧ Below W1.heap.size W1 wr) (fun s _ => t.cs.length - (intOf s).toNat)
  case atStart => exact ⟨0, rfl, Nat.zero_le _, Below.refl _ _⟩
  case round =>
    obtain ⟨k, rfl, hk, hb⟩ := hrel
    have f1 := (hb.cell (p := ⟨w.heap.size, 1, none⟩) z0).trans a1
    have g1 := (hb.cell (p := ⟨w.heap.size + 1, 1, none⟩) z1).trans e1
    by_cases hkl : k < t.cs.length
    · obtain ⟨c, hc⟩ : ∃ c, t.cs[k]? = some c := ⟨t.cs[k], List.getElem?_eq_getElem hkl⟩
      rcases (H1.out.below hb).1 with h | ⟨ga, oa, rfl, hga, hca⟩
      · rw [h] at hc; simp at hc
      rcases (H2.out.below hb).1 with h | ⟨gb, ob, rfl, hgb, hcb⟩
      · rw [h] at hc; simp at hc
      obtain ⟨d0, d1, d2, d3⟩ := hca k c hc
      obtain ⟨x0, x1, x2, x3⟩ := hcb k c hc
      clear hca hcb hc hga hgb
      go_wp2_with fail
      go_quiet (fail)
      go_wp2_with fail
      go_roundw
      case rel => exact ⟨k + 1, by go_num, hkl, below_drewN hb _⟩
      case measure => simp [intOf]; omega
    · have f2 := (hb.cell (p := ⟨w.heap.size, 2, none⟩) z0).trans a2
      have g2 := (hb.cell (p := ⟨w.heap.size + 1, 2, none⟩) z1).trans e2
      have H3 := mkHid (H1.out.below hb)
      have H4 := mkHid (H2.out.below hb)
      have B2 := mkHid (B1.out.trans (hb.mono B1.out.size))
      have z2 := Nat.lt_of_lt_of_le z1 hb.size
      have z3 := Nat.lt_of_lt_of_le z0 hb.size
      clear a1 a2 e1 e2 H1 H2 B1 hb
      rename World => w3
      go_wp2_with fail
      go_loopw [6, 7, 8, 9] (fun s _ _ _ wr => ∃ k : Nat, s = .int .i64 k ∧ k ≤ t.ks.length ∧ Below w3.heap.size w3 wr) (fun s _ _ _ _ => t.ks.length - (intOf s).toNat)
      case atStart => exact ⟨0, rfl, Nat.zero_le _, Below.refl _ _⟩
      case round =>
        obtain ⟨k, rfl, hk, hb⟩ := hrel
        have h2 := (hb.cell (p := ⟨w.heap.size, 2, none⟩) z3).trans f2
        have j2 := (hb.cell (p := ⟨w.heap.size + 1, 2, none⟩) z2).trans g2
        by_cases hkl : k < t.ks.length
        · obtain ⟨c, hc⟩ : ∃ c, t.ks[k]? = some c := ⟨t.ks[k], List.getElem?_eq_getElem hkl⟩
          rcases (H3.out.below hb).2 with h | ⟨ga, oa, rfl, hga, hca⟩
          · rw [h] at hc; simp at hc
          rcases (H4.out.below hb).2 with h | ⟨gb, ob, rfl, hgb, hcb⟩
          · rw [h] at hc; simp at hc
          obtain ⟨Qa, Ca, d0, d1, d2, hia, _⟩ := hca k c hc
          obtain ⟨Qb, Cb, x0, x1, x2, hib, _⟩ := hcb k c hc
          have hcl := (HG.out.2.2.2.2 c (List.mem_of_getElem? hc)).2
          clear hca hcb hc
          have zq2 := Nat.lt_of_lt_of_le z2 hb.size
          have zq3 := Nat.lt_of_lt_of_le z3 hb.size
          have y1 : ∀ oo, Below wr.heap.size wr (wr.alloc oo) := fun oo => (Below.refl _ wr).alloc (Nat.le_refl _) oo
          have y2 : ∀ oo pp, Below wr.heap.size wr ((wr.alloc oo).alloc pp) := fun oo pp => (y1 oo).alloc (y1 oo).size pp
          have h2y : ∀ oo, (wr.alloc oo).cell? ⟨w.heap.size, 2, none⟩ = some (.slice (some ⟨ga, oa, none⟩) t.ks.length D1) := fun oo => ((y1 oo).cell (p := ⟨w.heap.size, 2, none⟩) zq3).trans h2
          have h2z : ∀ oo pp, ((wr.alloc oo).alloc pp).cell? ⟨w.heap.size, 2, none⟩ = some (.slice (some ⟨ga, oa, none⟩) t.ks.length D1) := fun oo pp => ((y2 oo pp).cell (p := ⟨w.heap.size, 2, none⟩) zq3).trans h2
          have j2y : ∀ oo, (wr.alloc oo).cell? ⟨w.heap.size + 1, 2, none⟩ = some (.slice (some ⟨gb, ob, none⟩) t.ks.length D2) := fun oo => ((y1 oo).cell (p := ⟨w.heap.size + 1, 2, none⟩) zq2).trans j2
          have j2z : ∀ oo pp, ((wr.alloc oo).alloc pp).cell? ⟨w.heap.size + 1, 2, none⟩ = some (.slice (some ⟨gb, ob, none⟩) t.ks.length D2) := fun oo pp => ((y2 oo pp).cell (p := ⟨w.heap.size + 1, 2, none⟩) zq2).trans j2
          have d0y : ∀ oo, (wr.alloc oo).cell? ⟨ga, oa + k * 3, none⟩ = some (.string c.nm) := fun oo => ((y1 oo).cell (p := ⟨ga, oa + k * 3, none⟩) hga).trans d0
          have d0z : ∀ oo pp, ((wr.alloc oo).alloc pp).cell? ⟨ga, oa + k * 3, none⟩ = some (.string c.nm) := fun oo pp => ((y2 oo pp).cell (p := ⟨ga, oa + k * 3, none⟩) hga).trans d0
          have d1y : ∀ oo, (wr.alloc oo).cell? ⟨ga, oa + k * 3 + 1, none⟩ = some (.slice Qa c.cs.length Ca) := fun oo => ((y1 oo).cell (p := ⟨ga, oa + k * 3 + 1, none⟩) hga).trans d1
          have d1z : ∀ oo pp, ((wr.alloc oo).alloc pp).cell? ⟨ga, oa + k * 3 + 1, none⟩ = some (.slice Qa c.cs.length Ca) := fun oo pp => ((y2 oo pp).cell (p := ⟨ga, oa + k * 3 + 1, none⟩) hga).trans d1
          have d2y : ∀ oo, (wr.alloc oo).cell? ⟨ga, oa + k * 3 + 2, none⟩ = some (.bool c.uq) := fun oo => ((y1 oo).cell (p := ⟨ga, oa + k * 3 + 2, none⟩) hga).trans d2
          have d2z : ∀ oo pp, ((wr.alloc oo).alloc pp).cell? ⟨ga, oa + k * 3 + 2, none⟩ = some (.bool c.uq) := fun oo pp => ((y2 oo pp).cell (p := ⟨ga, oa + k * 3 + 2, none⟩) hga).trans d2
          have x0y : ∀ oo, (wr.alloc oo).cell? ⟨gb, ob + k * 3, none⟩ = some (.string c.nm) := fun oo => ((y1 oo).cell (p := ⟨gb, ob + k * 3, none⟩) hgb).trans x0
          have x0z : ∀ oo pp, ((wr.alloc oo).alloc pp).cell? ⟨gb, ob + k * 3, none⟩ = some (.string c.nm) := fun oo pp => ((y2 oo pp).cell (p := ⟨gb, ob + k * 3, none⟩) hgb).trans x0
          have x1y : ∀ oo, (wr.alloc oo).cell? ⟨gb, ob + k * 3 + 1, none⟩ = some (.slice Qb c.cs.length Cb) := fun oo => ((y1 oo).cell (p := ⟨gb, ob + k * 3 + 1, none⟩) hgb).trans x1
          have x1z : ∀ oo pp, ((wr.alloc oo).alloc pp).cell? ⟨gb, ob + k * 3 + 1, none⟩ = some (.slice Qb c.cs.length Cb) := fun oo pp => ((y2 oo pp).cell (p := ⟨gb, ob + k * 3 + 1, none⟩) hgb).trans x1
          have x2y : ∀ oo, (wr.alloc oo).cell? ⟨gb, ob + k * 3 + 2, none⟩ = some (.bool c.uq) := fun oo => ((y1 oo).cell (p := ⟨gb, ob + k * 3 + 2, none⟩) hgb).trans x2
          have x2z : ∀ oo pp, ((wr.alloc oo).alloc pp).cell? ⟨gb, ob + k * 3 + 2, none⟩ = some (.bool c.uq) := fun oo pp => ((y2 oo pp).cell (p := ⟨gb, ob + k * 3 + 2, none⟩) hgb).trans x2
          have HY2 := mkHid y2
          have HB := mkHid hb
          clear y1 y2 hb
          go_wp2_with fail
          go_region
          · obtain ⟨W5, hW5⟩ : ∃ W5, W5 = ((wr.alloc (.cells #[.string c.nm, .slice Qa c.cs.length Ca, .bool c.uq] 46)).alloc (.cells #[.string c.nm, .slice Qb c.cs.length Cb, .bool c.uq] 46)).drew := ⟨_, rfl⟩
            have b5 : Below wr.heap.size wr W5 := by rw [hW5]; exact (HY2.out _ _).drew
            have a1 : W5.cell? ⟨wr.heap.size, 1, none⟩ = some (.slice Qa c.cs.length Ca) := by rw [hW5]; simp
            have x1 : W5.cell? ⟨wr.heap.size + 1, 1, none⟩ = some (.slice Qb c.cs.length Cb) := by rw [hW5]; simp
            have za : wr.heap.size < W5.heap.size := by rw [hW5]; simp <;> omega
            have zb : wr.heap.size + 1 < W5.heap.size := by rw [hW5]; simp <;> omega
            have I1 := mkHid (hia.below b5)
            have I2 := mkHid (hib.below b5)
            have B5 := mkHid (HB.out.trans (b5.mono HB.out.size))
            have HW5 := mkHid hW5
            clear b5 hW5 hia hib h2 j2 h2y h2z j2y j2z d0 d0y d0z d1 d1y d1z d2 d2y d2z x0 x0y x0z x1y x1z x2 x2y x2z
            go_wp2_with fail
            rw [← HW5.out]
            have RA : Hid (∀ w', Below W5.heap.size W5 w' → w'.cell? ⟨wr.heap.size, 1, none⟩ = some (.slice Qa c.cs.length Ca)) := fun w' hb => (hb.cell (p := ⟨wr.heap.size, 1, none⟩) za).trans a1
            have RB : Hid (∀ w', Below W5.heap.size W5 w' → w'.cell? ⟨wr.heap.size + 1, 1, none⟩ = some (.slice Qb c.cs.length Cb)) := fun w' hb => (hb.cell (p := ⟨wr.heap.size + 1, 1, none⟩) zb).trans x1
            rename World => w5
            go_loopw [9] (fun s wr => ∃ m : Nat, s = .int .i64 m ∧ m ≤ c.cs.length ∧ Below w5.heap.size w5 wr) (fun s _ => c.cs.length - (intOf s).toNat)
            case atStart => exact ⟨0, rfl, Nat.zero_le _, Below.refl _ _⟩
            case round =>
              obtain ⟨m, rfl, hm, hb⟩ := hrel
              have r1 := RA.out wr hb
              have r2 := RB.out wr hb
              by_cases hml : m < c.cs.length
              · obtain ⟨x, hx⟩ : ∃ x, c.cs[m]? = some x := ⟨c.cs[m], List.getElem?_eq_getElem hml⟩
                rcases I1.out.below hb with h | ⟨g5, o5, rfl, _, hc5⟩
                · rw [h] at hx; simp at hx
                rcases I2.out.below hb with h | ⟨g6, o6, rfl, _, hc6⟩
                · rw [h] at hx; simp at hx
                have u5 := hc5 m x hx
                have u6 := hc6 m x hx
                clear hc5 hc6 hx
                go_wp2_with fail
                go_quiet (fail)
                go_wp2_with fail
                go_roundw
                case rel => exact ⟨m + 1, by go_num, hml, below_drewN hb _⟩
                case measure => simp [intOf]; omega
              · go_wp2_with fail
                go_roundw
                case rel => exact ⟨k + 1, by go_num, hkl, B5.out.trans (hb.mono B5.out.size)⟩
                case measure => simp [intOf]; omega
          · obtain ⟨W5, hW5⟩ : ∃ W5, W5 = ((wr.alloc (.cells #[.string c.nm, .slice Qb c.cs.length Cb, .bool c.uq] 46)).alloc (.cells #[.string c.nm, .slice Qa c.cs.length Ca, .bool c.uq] 46)).drew := ⟨_, rfl⟩
            have b5 : Below wr.heap.size wr W5 := by rw [hW5]; exact (HY2.out _ _).drew
            have a1 : W5.cell? ⟨wr.heap.size + 1, 1, none⟩ = some (.slice Qa c.cs.length Ca) := by rw [hW5]; simp
            have x1 : W5.cell? ⟨wr.heap.size, 1, none⟩ = some (.slice Qb c.cs.length Cb) := by rw [hW5]; simp
            have za : wr.heap.size + 1 < W5.heap.size := by rw [hW5]; simp <;> omega
            have zb : wr.heap.size < W5.heap.size := by rw [hW5]; simp <;> omega
            have I1 := mkHid (hia.below b5)
            have I2 := mkHid (hib.below b5)
            have B5 := mkHid (HB.out.trans (b5.mono HB.out.size))
            have HW5 := mkHid hW5
            clear b5 hW5 hia hib h2 j2 h2y h2z j2y j2z d0 d0y d0z d1 d1y d1z d2 d2y d2z x0 x0y x0z x1y x1z x2 x2y x2z
            go_wp2_with fail
            rw [← HW5.out]
            have RA : Hid (∀ w', Below W5.heap.size W5 w' → w'.cell? ⟨wr.heap.size + 1, 1, none⟩ = some (.slice Qa c.cs.length Ca)) := fun w' hb => (hb.cell (p := ⟨wr.heap.size + 1, 1, none⟩) za).trans a1
            have RB : Hid (∀ w', Below W5.heap.size W5 w' → w'.cell? ⟨wr.heap.size, 1, none⟩ = some (.slice Qb c.cs.length Cb)) := fun w' hb => (hb.cell (p := ⟨wr.heap.size, 1, none⟩) zb).trans x1
            rename World => w5
            go_loopw [9] (fun s wr => ∃ m : Nat, s = .int .i64 m ∧ m ≤ c.cs.length ∧ Below w5.heap.size w5 wr) (fun s _ => c.cs.length - (intOf s).toNat)
            case atStart => exact ⟨0, rfl, Nat.zero_le _, Below.refl _ _⟩
            case round =>
              obtain ⟨m, rfl, hm, hb⟩ := hrel
              have r1 := RA.out wr hb
              have r2 := RB.out wr hb
              by_cases hml : m < c.cs.length
              · obtain ⟨x, hx⟩ : ∃ x, c.cs[m]? = some x := ⟨c.cs[m], List.getElem?_eq_getElem hml⟩
                rcases I1.out.below hb with h | ⟨g5, o5, rfl, _, hc5⟩
                · rw [h] at hx; simp at hx
                rcases I2.out.below hb with h | ⟨g6, o6, rfl, _, hc6⟩
                · rw [h] at hx; simp at hx
                have u5 := hc5 m x hx
                have u6 := hc6 m x hx
                clear hc5 hc6 hx
                go_wp2_with fail
                go_quiet (fail)
                go_wp2_with fail
                go_roundw
                case rel => exact ⟨m + 1, by go_num, hml, below_drewN hb _⟩
                case measure => simp [intOf]; omega
              · go_wp2_with fail
                go_roundw
                case rel => exact ⟨k + 1, by go_num, hkl, B5.out.trans (hb.mono B5.out.size)⟩
                case measure => simp [intOf]; omega
        · go_wp2_with fail
          go_ret
          exact ⟨rfl, B2.out.trans (hb.mono B2.out.size)⟩
end Go.Proofs.YtecebjfcokmmkaaGreatDoor
