/-
  The walks of table.areRising (of none), Load, New, and of a table's Form, Len, Next, Mark; of lockstepref08.Plain.
-/
import Derived.Test.YtecebjfcokmmkaaGreatDoorTfX
namespace Go.Proofs.YtecebjfcokmmkaaGreatDoor
open Go.RowKit Go.Shelf Go.Joins Go.Maps
set_option maxRecDepth 100000

theorem areRising_none (w : World) :
    Calls Tryz.prog 45 #[.slice none 0 0, .int .u64 1] w fun e w' => e = .returned (.bool true) ∧ w' = w := by
  go_enter Tryz.func45, Tryz.ntmps45
  go_wp2_with fail
  go_loop [5, 10] (fun s5 s => s5 = .int .u64 0 ∧ s = .int .i64 0) (fun _ _ => 0)
  case atStart => exact ⟨rfl, rfl⟩
  case round =>
    obtain ⟨rfl, rfl⟩ := hrel
    go_wp2_with fail
    go_ret
    exact ⟨rfl, rfl⟩
theorem Plain_any (t : Tb) (P Q : Option Addr) (C D : Nat) (w : World) :
    Calls Tryz.prog 15 #[tbV t P Q C D] w fun e w' => e = .returned (tbV (plT t) P Q C D) ∧ Below w.heap.size w w' := by
  have hb2 : ∀ o p, Below w.heap.size w ((w.alloc o).alloc p) := fun o p => ((Below.refl _ w).alloc (Nat.le_refl _) o).alloc (by simp) p
  by_cases h : t.pa < 0
  · have e : max t.pa (-1) = -1 := by omega
    go_enter Tryz.func15, Tryz.ntmps15
    go_wp2_with fail
    exact bodyPost_ret (v := tbV (plT t) P Q C D) (by simp [results, Tryz.results15, go_sem, plT, e]) rfl ⟨rfl, hb2 _ _⟩
  · have e : max t.pa (-1) = t.pa := by omega
    go_enter Tryz.func15, Tryz.ntmps15
    go_wp2_with fail
    exact bodyPost_ret (v := tbV (plT t) P Q C D) (by simp [results, Tryz.results15, go_sem, plT, e]) rfl ⟨rfl, hb2 _ _⟩
/-- what comes of New: a table of none, or what is wrong -/
def NwQ (w : World) (t : Tb) (e : Ending) (w' : World) : Prop :=
  (¬ tbK t = 0 ∧ e = .returned (.tuple #[.pointer none, .int .i64 (tbK t)]) ∧ Below w.heap.size w w') ∨
  (tbK t = 0 ∧ ∃ gx gm gc cc gk ck L vt, e = .returned (.tuple #[.pointer (some ⟨gx, 0, none⟩), .int .i64 0]) ∧ Tx w' w.heap.size gx gm (plT t) gc cc gk ck L vt ∧ Below w.heap.size w w')
theorem tbK_zero {t : Tb} (h : tbK t = 0) : t.cs ≠ [] ∧ t.ks ≠ [] ∧ (∀ k ∈ t.ks, k.cs ≠ []) ∧ 1 ≤ t.mo := by
  unfold tbK at h
  split at h
  · cases h
  · split at h
    · rename_i h1; exact absurd h h1
    · rename_i h1
      split at h
      · rename_i h2; exact absurd h h2
      · rename_i h2
        split at h
        · rename_i h3; exact absurd h h3
        · have c0 : ckCols t = 0 := Classical.not_not.1 h1
          have k0 : ckKeys t = 0 := Classical.not_not.1 h2
          obtain ⟨k, r, hk, _⟩ := ckKeys_first k0
          refine ⟨fun e => ?_, (fun e => by (rw [e] at hk; cases hk)), fun q hq e => ?_, ?_⟩
          · unfold ckCols at c0
            rw [e] at c0
            simp at c0
          · have := kcK_bounds ((ckKeys_each k0).2 q hq)
            rw [e] at this
            simp at this
          · unfold ckNum at h
            rw [hk] at h
            simp only at h
            split at h
            · cases h
            · rename_i hn
              omega
set_option maxHeartbeats 8000000 in
set_option maxRecDepth 1000000 in
theorem Load_none (t : Tb) (P Q : Option Addr) (C D : Nat) (w : World) (hin : tbIn w t P Q) (hC : t.cs.length ≤ C) (hD : t.ks.length ≤ D) (hG : tbG t) (hT : Tabs w) :
    Calls Tryz.prog 30 #[tbV t P Q C D, .slice none 0 0, .int .u64 1] w fun e w' => NwQ w t e w' := by
  obtain ⟨W0, hW0⟩ : ∃ W0, W0 = w.alloc (.cells #[.string t.nm, .slice P t.cs.length C, .slice Q t.ks.length D, .int .i64 t.pa, .int .i64 t.mo] 25) := ⟨_, rfl⟩
  have b0 : Below w.heap.size w W0 := by rw [hW0]; exact (Below.refl _ w).alloc (Nat.le_refl _) _
  have k0 : W0.cell? ⟨w.heap.size, 0, none⟩ = some (.string t.nm) := by rw [hW0]; simp
  have k1 : W0.cell? ⟨w.heap.size, 1, none⟩ = some (.slice P t.cs.length C) := by rw [hW0]; simp
  have k2 : W0.cell? ⟨w.heap.size, 2, none⟩ = some (.slice Q t.ks.length D) := by rw [hW0]; simp
  have k3 : W0.cell? ⟨w.heap.size, 3, none⟩ = some (.int .i64 t.pa) := by rw [hW0]; simp
  have k4 : W0.cell? ⟨w.heap.size, 4, none⟩ = some (.int .i64 t.mo) := by rw [hW0]; simp
  have z0 : w.heap.size < W0.heap.size := by rw [hW0]; simp
  have CK := mkHid (Check_tb t P Q C D W0 (hin.below b0) hC hD hG (hT.below b0))
  have B0 := mkHid b0
  have AR : Hid (∀ w, Calls Tryz.prog 45 #[.slice none 0 0, .int .u64 1] w fun e w' => e = .returned (.bool true) ∧ w' = w) := areRising_none
  by_cases hz : tbK t = 0
  · obtain ⟨n1, n2, n3, n4⟩ := tbK_zero hz
    have EM : Hid (∀ W, Below w.heap.size w W → Calls Tryz.prog 46 #[tbV t P Q C D, .int .u64 1] W fun e w' => TxQ W (plT t) e w') := fun W hW => empty_any t P Q C D W (hin.below hW) hG n1 n2 n3
    rw [hz] at CK
    have HZ := mkHid hz
    have n4' : ¬ t.mo < 0 := by omega
    clear hin hT b0 hG n1 n2 n3 hz n4
    subst hW0
    go_enter Tryz.func30, Tryz.ntmps30
    go_wp2_with (go_at_call 6; refine CK.out.mono ?_; rintro e w2 ⟨rfl, hb⟩; have j0 := (hb.cell (p := ⟨w.heap.size, 0, none⟩) z0).trans k0; have j1 := (hb.cell (p := ⟨w.heap.size, 1, none⟩) z0).trans k1; have j2 := (hb.cell (p := ⟨w.heap.size, 2, none⟩) z0).trans k2; have j3 := (hb.cell (p := ⟨w.heap.size, 3, none⟩) z0).trans k3; have j4 := (hb.cell (p := ⟨w.heap.size, 4, none⟩) z0).trans k4)
    refine (AR.out _).mono ?_
    rintro e wx ⟨rfl, hwx⟩
    have hwx2 := hwx.symm
    subst hwx2
    clear hwx
    have bw2 := B0.out.trans (hb.mono B0.out.size)
    go_wp2_with fail
    refine (EM.out _ bw2).mono ?_
    rintro e w3 ⟨gx, gm, gc, cc, gk, ck, L, vt, rfl, X, b3⟩
    have HQ : Hid (NwQ w t (.returned (.tuple #[.pointer (some ⟨gx, 0, none⟩), .int .i64 0])) w3) := Or.inr ⟨HZ.out, gx, gm, gc, cc, gk, ck, L, vt, rfl, ⟨X.fo.lower bw2.size, X.obj, X.map, Nat.le_trans bw2.size X.lox, Nat.le_trans bw2.size X.lom⟩, bw2.trans (b3.mono bw2.size)⟩
    clear X b3
    go_wp2_with fail
    go_loop [32] (fun s => s = .int .i64 0) (fun _ => 0)
    case atStart => rfl
    case round =>
      subst hrel
      go_wp2_with fail
      exact bodyPost_ret (v := .tuple #[.pointer (some ⟨gx, 0, none⟩), .int .i64 0]) (by simp [results, Tryz.results30, go_sem]) rfl HQ.out
  · have HZ := mkHid hz
    have hz2 : (tbK t == 0) = false := by rw [beq_eq_false_iff_ne]; exact hz
    have HQ : Hid (∀ w', Below w.heap.size w w' → NwQ w t (.returned (.tuple #[.pointer none, .int .i64 (tbK t)])) w') := fun w' h => Or.inl ⟨hz, rfl, h⟩
    generalize tbK t = E at *
    clear hin hT b0 hG hz
    subst hW0
    go_enter Tryz.func30, Tryz.ntmps30
    go_wp2_with (go_at_call 6; refine CK.out.mono ?_; rintro e w2 ⟨rfl, hb⟩)
    exact bodyPost_ret (v := .tuple #[.pointer none, .int .i64 E]) (by simp [results, Tryz.results30, go_sem]) rfl (HQ.out _ (B0.out.trans (hb.mono B0.out.size)))
set_option maxHeartbeats 4000000 in
set_option maxRecDepth 1000000 in
theorem New_any (t : Tb) (P Q : Option Addr) (C D : Nat) (w : World) (hin : tbIn w t P Q) (hC : t.cs.length ≤ C) (hD : t.ks.length ≤ D) (hG : tbG t) (hT : Tabs w) :
    Calls Tryz.prog 12 #[tbV t P Q C D] w fun e w' => NwQ w t e w' := by
  obtain ⟨W0, hW0⟩ : ∃ W0, W0 = w.alloc (.cells #[.string t.nm, .slice P t.cs.length C, .slice Q t.ks.length D, .int .i64 t.pa, .int .i64 t.mo] 25) := ⟨_, rfl⟩
  have b0 : Below w.heap.size w W0 := by rw [hW0]; exact (Below.refl _ w).alloc (Nat.le_refl _) _
  have LD := mkHid (Load_none t P Q C D W0 (hin.below b0) hC hD hG (hT.below b0))
  have B0 := mkHid b0
  clear hin hT b0 hG
  subst hW0
  go_enter Tryz.func12, Tryz.ntmps12
  go_wp2_with fail
  refine LD.out.mono ?_
  rintro e w2 (⟨hz, rfl, hb⟩ | ⟨hz, gx, gm, gc, cc, gk, ck, L, vt, rfl, X, hb⟩)
  · have HQ : Hid (NwQ w t (.returned (.tuple #[.pointer none, .int .i64 (tbK t)])) w2) := Or.inl ⟨hz, rfl, B0.out.trans (hb.mono B0.out.size)⟩
    clear hz hb
    go_wp2_with fail
    exact bodyPost_ret (v := .tuple #[.pointer none, .int .i64 (tbK t)]) (by simp [results, Tryz.results12, go_sem]) rfl HQ.out
  · have HQ : Hid (NwQ w t (.returned (.tuple #[.pointer (some ⟨gx, 0, none⟩), .int .i64 0])) w2) := Or.inr ⟨hz, gx, gm, gc, cc, gk, ck, L, vt, rfl, ⟨X.fo.lower B0.out.size, X.obj, X.map, Nat.le_trans B0.out.size X.lox, Nat.le_trans B0.out.size X.lom⟩, B0.out.trans (hb.mono B0.out.size)⟩
    clear hz hb X
    go_wp2_with fail
    exact bodyPost_ret (v := .tuple #[.pointer (some ⟨gx, 0, none⟩), .int .i64 0]) (by simp [results, Tryz.results12, go_sem]) rfl HQ.out
end Go.Proofs.YtecebjfcokmmkaaGreatDoor
