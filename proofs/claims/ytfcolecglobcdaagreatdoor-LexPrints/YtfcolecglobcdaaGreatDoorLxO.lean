/-
  The walk of Tokens.
-/
import Derived.Test.YtfcolecglobcdaaGreatDoorLxN
namespace Go.Proofs.YtfcolecglobcdaaGreatDoor
open Go.RowKit Go.Shelf

/-- the answer of Tokens -/
def TkA (t : Ts) (base : Nat) (e : Ending) (w : World) : Prop := ∃ v, e = .returned (.tuple #[v, .int .i64 t.pos, .int .i64 t.why]) ∧ ownsT w base v (if t.why = 0 then t.l else [])
theorem tks_pos (l : List UInt8) : (tks l).why = 0 → (tks l).pos = 0 := by
  have key : ∀ (f p a b : Nat) (r : List UInt8), (scn f p a b r).why = 0 → (scn f p a b r).pos = 0 := by
    intro f
    induction f with
    | zero => intro p a b r _; rfl
    | succ f ih =>
      intro p a b r h
      by_cases hw : (rdP r).why = 0
      · by_cases h6 : (rdP r).kind = 6
        · rw [scn_end f p a b r hw h6]
        · by_cases h0 : (rdP r).kind = 0
          · rw [scn_skip f p a b r hw h0] at h ⊢; exact ih _ _ _ _ h
          · rw [scn_tell f p a b r hw h0 h6] at h ⊢; exact ih _ _ _ _ h
      · rw [scn_bad f p a b r hw] at h; exact absurd h hw
  intro h
  by_cases hl : l.length ≤ 65536
  · rw [tks_short hl] at h ⊢; exact key _ _ _ _ _ h
  · rw [tks_long (by omega)]
set_option maxHeartbeats 1000000 in
set_option maxRecDepth 1000000 in
theorem Tokens_any (l : List UInt8) (w : World) (hW : LxW w) :
    Calls Tryz.prog 17 #[.string ⟨l.toArray⟩] w fun e w' => TkA (tks l) w.heap.size e w' ∧ Below w.heap.size w w' := by
  have SC : Hid (∀ bL w', Below w.heap.size w w' → LB w' bL w.heap.size [] → Calls Tryz.prog 36 #[.string ⟨l.toArray⟩, .func (.func 37) #[] #[.pointer (some ⟨bL, 0, none⟩)]] w' fun e w'' => e = .returned (.tuple #[.int .i64 (tks l).pos, .int .i64 (tks l).why]) ∧ LB w'' bL w.heap.size (tks l).l ∧ Below w.heap.size w w'') := fun bL w' hb hL => by
    by_cases hl : l.length ≤ 65536
    · exact scan_any l bL w w' hl hW hb hL
    · exact scan_long l bL w w' (by omega) hb hL
  have hpos := tks_pos l
  have b1 : Below w.heap.size w (w.alloc (.cells #[.slice none 0 0] 30)) := (Below.refl _ w).alloc (Nat.le_refl _) _
  have l1 : LB (w.alloc (.cells #[.slice none 0 0] 30)) w.heap.size w.heap.size [] := ⟨Nat.le_refl _, b1.size, .slice none 0 0, heap_alloc_new _ _, ownsT_nil _ _⟩
  generalize tks l = t at *
  obtain ⟨L, P, E⟩ := t
  simp only at SC hpos
  go_enter Tryz.func17, Tryz.ntmps17
  go_wp2_with fail
  refine (SC.out _ _ b1 l1).mono ?_
  rintro e w2 ⟨rfl, l2, b2⟩
  clear SC l1 b1
  obtain ⟨_, _, v, h3, h4⟩ := l2
  have cb : w2.cell? ⟨w.heap.size, 0, none⟩ = some v := (Joins.cell_of_block h3 0).trans rfl
  by_cases hE : E = 0
  · have hEb : (E != 0) = false := by rw [hE]; rfl
    have hP := hpos hE
    obtain ⟨q, n, c, rfl⟩ : ∃ q n c, v = .slice q n c := by
      rcases h4.2 with ⟨rfl, _⟩ | ⟨g, cap, cur, rfl, _⟩
      · exact ⟨_, _, _, rfl⟩
      · exact ⟨_, _, _, rfl⟩
    go_wp2_with fail
    go_ret3
    exact ⟨⟨.slice q n c, by simp [hP, hE], by simp only [hE, if_true]; exact h4⟩, b2⟩
  · have hEb : (E != 0) = true := by rw [bne_iff_ne]; exact hE
    go_wp2_with fail
    go_ret3
    exact ⟨⟨.slice none 0 0, rfl, by simp only [hE, if_false]; exact ownsT_nil _ _⟩, b2⟩
end Go.Proofs.YtfcolecglobcdaaGreatDoor
