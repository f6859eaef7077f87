/-
  Walks: the document's new network; both.
-/
import Derived.Test.YtpghkbbhcpcbdaaNuA
import Derived.Test.YtpghkbbhcpcbdaaNtU
namespace Go.Proofs.Ytpghkbbhcpcbdaa
open Go.RowKit Go.Maps Go.Joins
variable {P : Nat → Prop} {w w' : World} {n c : Nat} {S : St} {L : Ly}

theorem rwBo : Rw 86 4 (.bool false) 1 1 := ⟨by kernel_rfl, by kernel_rfl, rfl, by decide, by decide⟩
theorem rwMM : Rw 88 94 (.slice none 0 0) 1 24 := ⟨by kernel_rfl, by kernel_rfl, rfl, by decide, by decide⟩
theorem rwWW : Rw 87 91 (.slice none 0 0) 1 24 := ⟨by kernel_rfl, by kernel_rfl, rfl, by decide, by decide⟩
theorem rwWa : Rw 91 108 (.agg #[.int .u64 0, .slice none 0 0, .int .i64 0, .int .i64 0]) 4 48 := ⟨by kernel_rfl, by kernel_rfl, rfl, by decide, by decide⟩
/-- a row whose cells do not matter, in memory that is new -/
def anyRow (w : World) (e : TypeId) (sz k : Nat) (v : Value) (wr : World) : Prop := (∃ xs, shr wr e sz v k xs) ∧ ∀ g, v.ownBlock = some g → w.heap.size ≤ g
theorem anyRow.kept {e : TypeId} {sz k : Nat} {v : Value} {wr w5 : World} {C : Nat → Prop} (h : anyRow w e sz k v wr) (hc : Chg C wr w5) (hn : ∀ b, kd wr b = e + 2 → ¬ C b) : anyRow w e sz k v w5 := by
  obtain ⟨⟨xs, hs⟩, ho⟩ := h
  exact ⟨⟨xs, hs.kept hc (fun g hg => hn g (hs.kd g hg).1)⟩, ho⟩
/-- the document's net while it is being made -/
structure RfN (w : World) (d k1 k2 k3 : Nat) (v1 v2 v3 : Value) (wr : World) : Prop where
  gr : w.grownBy wr none
  od : w.heap.size ≤ d
  net : wr.heap[d]? = some (.cells #[v1, v2, v3, .slice none 0 0] 90 (0, 0))
  r1 : anyRow w 4 1 k1 v1 wr
  r2 : anyRow w 91 1 k2 v2 wr
  r3 : anyRow w 94 1 k3 v3 wr
theorem RfN.kept {d k1 k2 k3 : Nat} {v1 v2 v3 : Value} {wr w5 : World} (h : RfN w d k1 k2 k3 v1 v2 v3 wr) (hg : wr.grownBy w5 none) : RfN w d k1 k2 k3 v1 v2 v3 w5 := by
  have hc := Chg.of_none hg (fun _ => False)
  exact ⟨grown_none_trans h.gr hg, h.od, box_keep h.net hg (by simp), h.r1.kept hc (fun _ _ e => e), h.r2.kept hc (fun _ _ e => e), h.r3.kept hc (fun _ _ e => e)⟩
/-- an element behind a row in new memory, laid ahead -/
theorem Rw.push {t e : TypeId} {z : Value} {sz by' : Nat} (R : Rw t e z sz by') {k : Nat} {v : Value} {wr : World} (gr : w.grownBy wr none) (h : anyRow w e sz k v wr) (news : List Value) (hn : news.length = sz) (h1 : ∀ u ∈ news, u.oneCell' = true) (hk : k ≤ 1000) :
    ∃ p' c' w4, (∀ ty, (Builtin.append_ #[t, t] ty #[v, .slice (some ⟨wr.heap.size, 0, none⟩) 1 1]).run Try.prog (wr.alloc (.cells news.toArray e)) = .ok (.slice p' (k + 1) c') w4) ∧ anyRow w e sz (k + 1) (.slice p' (k + 1) c') w4 ∧ w.grownBy w4 none ∧ (∀ b o, wr.heap[b]? = some o → kd wr b ≠ e + 2 → w4.heap[b]? = some o) ∧ (∀ {e2 : TypeId} {s2 k2 : Nat} {v2 : Value}, anyRow w e2 s2 k2 v2 wr → e2 ≠ e → anyRow w e2 s2 k2 v2 w4) := by
  obtain ⟨⟨xs, hs⟩, ho⟩ := h
  have ga := World.grownBy_alloc wr (.cells news.toArray e) none
  have hs' := hs.kept (Chg.of_none ga (fun _ => False)) (fun _ _ e => e)
  obtain ⟨v', w4, hr, s4, g4, o4⟩ := R.app (c := 1) hs' (m := 1) (news := news) (by omega) (one_of (heap_alloc_new wr _)) h1 (by omega) (by omega)
  obtain ⟨p', c', rfl, _⟩ := s4.form
  have gg : w.grownBy w4 none := grown_new (grown_none_trans gr ga) g4 ho
  refine ⟨p', c', w4, hr, ⟨⟨_, s4⟩, fun g hg => ?_⟩, gg, fun b o hb hk => ?_, fun {e2 s2 k2 v2} h2 hne => ?_⟩
  · rcases o4 with e | ⟨g', e, h2, _⟩
    · exact ho g (by rw [← e]; exact hg)
    · rw [hg] at e; cases e
      exact Nat.le_trans (grown_none_trans gr ga).size h2
  · exact box_keep (box_keep hb ga (by simp)) g4 (fun e => hk (hs.kd b e.symm).1)
  · have := h2.kept (Chg.of_none ga (fun _ => False)) (fun _ _ e => e)
    refine this.kept (Chg.of_grown g4) (fun b hb e => ?_)
    exact hne (Nat.add_right_cancel (hb.symm.trans (hs'.kd b e).1))
theorem RfN.There {d k1 k2 k3 : Nat} {v1 v2 v3 : Value} {wr : World} (h : RfN w d k1 k2 k3 v1 v2 v3 wr) (u : Value) (hu : u.oneCell' = true) (hk : k1 ≤ 1000) :
    ∃ p' c' w4, (∀ ty, (Builtin.append_ #[86, 86] ty #[v1, .slice (some ⟨wr.heap.size, 0, none⟩) 1 1]).run Try.prog (wr.alloc (.cells #[u] 4)) = .ok (.slice p' (k1 + 1) c') w4) ∧ w4.heap[d]? = some (.cells #[v1, v2, v3, .slice none 0 0] 90 (0, 0)) ∧ (∀ b o, wr.heap[b]? = some o → kd wr b ≠ 4 + 2 → b ≠ d → (w4.setCell ⟨d, 0, none⟩ (.slice p' (k1 + 1) c')).heap[b]? = some o) ∧ (∀ {e2 : TypeId} {s2 q : Nat} {z : Value}, anyRow w e2 s2 q z wr → e2 ≠ 4 → e2 ≠ 90 → anyRow w e2 s2 q z (w4.setCell ⟨d, 0, none⟩ (.slice p' (k1 + 1) c'))) ∧ RfN w d (k1 + 1) k2 k3 (.slice p' (k1 + 1) c') v2 v3 (w4.setCell ⟨d, 0, none⟩ (.slice p' (k1 + 1) c')) := by
  obtain ⟨p', c', w4, hr, a4, g4, b4, n4⟩ := rwBo.push h.gr h.r1 [u] rfl (by intro x hx; simp at hx; rw [hx]; exact hu) hk
  have hd := b4 d _ h.net (by rw [kd_cells h.net]; decide)
  have kd4 : kd w4 d = 90 + 2 := kd_cells hd
  have CC := Chg.of_cell w4 ⟨d, 0, none⟩ (.slice p' (k1 + 1) c')
  have st : ∀ {e2 : TypeId} {s2 q : Nat} {z : Value}, anyRow w e2 s2 q z w4 → e2 ≠ 90 → anyRow w e2 s2 q z (w4.setCell ⟨d, 0, none⟩ (.slice p' (k1 + 1) c')) := fun {e2 s2 q z} ha hne => ha.kept CC (fun b hb e => by
    have e : b = d := e
    rw [e, kd4] at hb
    exact hne (Nat.add_right_cancel hb).symm)
  exact ⟨p', c', w4, hr, hd, fun b o hb hk hne => (heap_setCell_other w4 ⟨d, 0, none⟩ b _ hne).trans (b4 b o hb hk), fun {e2 s2 q z} ha h1 h2 => st (n4 ha h1) h2, grown_set g4 _ _ h.od, h.od, (block_setCell hd _).trans rfl, st a4 (by decide), st (n4 h.r2 (by decide)) (by decide), st (n4 h.r3 (by decide)) (by decide)⟩
theorem RfN.Ways {d k1 k2 k3 : Nat} {v1 v2 v3 : Value} {wr : World} (h : RfN w d k1 k2 k3 v1 v2 v3 wr) (u : Value) (hu : u.oneCell' = true) (hk : k2 ≤ 1000) :
    ∃ p' c' w4, (∀ ty, (Builtin.append_ #[87, 87] ty #[v2, .slice (some ⟨wr.heap.size, 0, none⟩) 1 1]).run Try.prog (wr.alloc (.cells #[u] 91)) = .ok (.slice p' (k2 + 1) c') w4) ∧ w4.heap[d]? = some (.cells #[v1, v2, v3, .slice none 0 0] 90 (0, 0)) ∧ (∀ b o, wr.heap[b]? = some o → kd wr b ≠ 91 + 2 → b ≠ d → (w4.setCell ⟨d, 1, none⟩ (.slice p' (k2 + 1) c')).heap[b]? = some o) ∧ (∀ {e2 : TypeId} {s2 q : Nat} {z : Value}, anyRow w e2 s2 q z wr → e2 ≠ 91 → e2 ≠ 90 → anyRow w e2 s2 q z (w4.setCell ⟨d, 1, none⟩ (.slice p' (k2 + 1) c'))) ∧ RfN w d k1 (k2 + 1) k3 v1 (.slice p' (k2 + 1) c') v3 (w4.setCell ⟨d, 1, none⟩ (.slice p' (k2 + 1) c')) := by
  obtain ⟨p', c', w4, hr, a4, g4, b4, n4⟩ := rwWW.push h.gr h.r2 [u] rfl (by intro x hx; simp at hx; rw [hx]; exact hu) hk
  have hd := b4 d _ h.net (by rw [kd_cells h.net]; decide)
  have kd4 : kd w4 d = 90 + 2 := kd_cells hd
  have CC := Chg.of_cell w4 ⟨d, 1, none⟩ (.slice p' (k2 + 1) c')
  have st : ∀ {e2 : TypeId} {s2 q : Nat} {z : Value}, anyRow w e2 s2 q z w4 → e2 ≠ 90 → anyRow w e2 s2 q z (w4.setCell ⟨d, 1, none⟩ (.slice p' (k2 + 1) c')) := fun {e2 s2 q z} ha hne => ha.kept CC (fun b hb e => by
    have e : b = d := e
    rw [e, kd4] at hb
    exact hne (Nat.add_right_cancel hb).symm)
  exact ⟨p', c', w4, hr, hd, fun b o hb hk hne => (heap_setCell_other w4 ⟨d, 1, none⟩ b _ hne).trans (b4 b o hb hk), fun {e2 s2 q z} ha h1 h2 => st (n4 ha h1) h2, grown_set g4 _ _ h.od, h.od, (block_setCell hd _).trans rfl, st (n4 h.r1 (by decide)) (by decide), st a4 (by decide), st (n4 h.r3 (by decide)) (by decide)⟩
theorem RfN.Waits {d k1 k2 k3 : Nat} {v1 v2 v3 : Value} {wr : World} (h : RfN w d k1 k2 k3 v1 v2 v3 wr) (u : Value) (hu : u.oneCell' = true) (hk : k3 ≤ 1000) :
    ∃ p' c' w4, (∀ ty, (Builtin.append_ #[88, 88] ty #[v3, .slice (some ⟨wr.heap.size, 0, none⟩) 1 1]).run Try.prog (wr.alloc (.cells #[u] 94)) = .ok (.slice p' (k3 + 1) c') w4) ∧ w4.heap[d]? = some (.cells #[v1, v2, v3, .slice none 0 0] 90 (0, 0)) ∧ (∀ b o, wr.heap[b]? = some o → kd wr b ≠ 94 + 2 → b ≠ d → (w4.setCell ⟨d, 2, none⟩ (.slice p' (k3 + 1) c')).heap[b]? = some o) ∧ (∀ {e2 : TypeId} {s2 q : Nat} {z : Value}, anyRow w e2 s2 q z wr → e2 ≠ 94 → e2 ≠ 90 → anyRow w e2 s2 q z (w4.setCell ⟨d, 2, none⟩ (.slice p' (k3 + 1) c'))) ∧ RfN w d k1 k2 (k3 + 1) v1 v2 (.slice p' (k3 + 1) c') (w4.setCell ⟨d, 2, none⟩ (.slice p' (k3 + 1) c')) := by
  obtain ⟨p', c', w4, hr, a4, g4, b4, n4⟩ := rwMM.push h.gr h.r3 [u] rfl (by intro x hx; simp at hx; rw [hx]; exact hu) hk
  have hd := b4 d _ h.net (by rw [kd_cells h.net]; decide)
  have kd4 : kd w4 d = 90 + 2 := kd_cells hd
  have CC := Chg.of_cell w4 ⟨d, 2, none⟩ (.slice p' (k3 + 1) c')
  have st : ∀ {e2 : TypeId} {s2 q : Nat} {z : Value}, anyRow w e2 s2 q z w4 → e2 ≠ 90 → anyRow w e2 s2 q z (w4.setCell ⟨d, 2, none⟩ (.slice p' (k3 + 1) c')) := fun {e2 s2 q z} ha hne => ha.kept CC (fun b hb e => by
    have e : b = d := e
    rw [e, kd4] at hb
    exact hne (Nat.add_right_cancel hb).symm)
  exact ⟨p', c', w4, hr, hd, fun b o hb hk hne => (heap_setCell_other w4 ⟨d, 2, none⟩ b _ hne).trans (b4 b o hb hk), fun {e2 s2 q z} ha h1 h2 => st (n4 ha h1) h2, grown_set g4 _ _ h.od, h.od, (block_setCell hd _).trans rfl, st (n4 h.r1 (by decide)) (by decide), st (n4 h.r2 (by decide)) (by decide), st a4 (by decide)⟩
end Go.Proofs.Ytpghkbbhcpcbdaa
