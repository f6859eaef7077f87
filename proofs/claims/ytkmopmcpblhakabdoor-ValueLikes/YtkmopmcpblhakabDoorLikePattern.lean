/-
  The walk of value.readPattern: it reads a pattern's marks, and whether its last sign of escape has a character behind it.
-/
import Derived.Test.YtkmopmcpblhakabDoorLikeRunes
namespace Go.Proofs.YtkmopmcpblhakabDoor
open Go.RowKit

theorem Tryd.info54 : (Tryd.prog.info? 54).map (fun i => (i.zero, i.size, i.bytes)) = some (some (.agg #[.int .i64 0, .int .i32 0]), 2, 16) := by kernel_rfl

def mcells (ms : List LikeM.Mk) : List Value := ms.flatMap fun m => [.int .i64 m.1, .int .i32 m.2]
theorem mcells_snoc (ms : List LikeM.Mk) (m : LikeM.Mk) : mcells (ms ++ [m]) = mcells ms ++ [.int .i64 m.1, .int .i32 m.2] := by simp [mcells]
theorem fold_len : ∀ (l : List Int) (st : List LikeM.Mk × Bool), (l.foldl LikeM.step st).1.length ≤ st.1.length + l.length
  | [], st => by simp
  | c :: l, st => by
    have h := fold_len l (LikeM.step st c)
    have h2 : (LikeM.step st c).1.length ≤ st.1.length + 1 := by
      unfold LikeM.step
      (repeat' split) <;> simp
    simp only [List.foldl_cons, List.length_cons]
    omega
theorem scan_len (l : List Int) : (LikeM.scan l).1.length ≤ l.length := by have := fold_len l ([], false); simpa [LikeM.scan] using this

set_option maxHeartbeats 2000000 in
set_option maxRecDepth 1000000 in
theorem readPattern_any (s : ByteArray) (w : World) (hs : s.size ≤ 4096) :
    Calls Tryd.prog 12 #[.string s] w fun e w' => ∃ v, e = .returned (.tuple #[v, .bool (!(LikeM.scan (runes s)).2)]) ∧ w'.ownsRow w.heap.size 54 2 v (LikeM.scan (runes s)).1.length (mcells (LikeM.scan (runes s)).1) ∧ Below w.heap.size w w' := by
  obtain ⟨i0, hi, hz0, hz1, hz2⟩ := info_parts Tryd.info54
  go_enter Tryd.func12, Tryd.ntmps12
  go_wp2
  go_loopw [4, 5] (fun sv se wr => ∃ (pos fuel : Nat) (acc : List Int) (ms : List LikeM.Mk) (esc : Bool), wr.ownsRow w.heap.size 54 2 sv ms.length (mcells ms) ∧ se = .bool esc ∧ wr.heap[w.heap.size]? = some (.stringIter s pos) ∧ Below w.heap.size w wr ∧ Hid (acc ++ runesF s fuel pos = runes s) ∧ Hid (LikeM.scan acc = (ms, esc)) ∧ s.size ≤ pos + fuel)
    (fun _ _ wr => s.size - wr.iterPos (w.heap.size))
  case atStart =>
    refine ⟨0, s.size, [], [], false, World.ownsRow_nil _ _ _ _, rfl, ?_, ?_, rfl, rfl, by omega⟩
    · have := World.iter_heap w s 0
      simpa using this
    · exact (Below.refl _ w).alloc (Nat.le_refl _) _
  case round =>
    obtain ⟨pos, fuel, acc, ms, esc, hown, rfl, hit, hbw, hacc, hscan, hfu⟩ := hrel
    have hal : ms.length ≤ 4096 := by
      have h := congrArg List.length hacc.out
      have h2 := scan_len acc
      rw [hscan.out] at h2
      have := runes_len s
      simp at h h2; omega
    have hsz : w.heap.size < wr.heap.size := (Array.getElem?_eq_some_iff.1 hit).1
    by_cases hp : pos < s.size
    · have hnx : ∀ ty, (Instr.next (.pointer (some ⟨w.heap.size, 0, none⟩)) true ty).run Tryd.prog wr = _ := fun ty => Lib.run_next_any_at wr (w.heap.size) s pos ty hit hp
      have hwd := width_pos s pos hp
      have hown2 := own_iterAt hown hit (pos + (Utf8.decode s pos).2)
      have hit2 := Lib.iterAt_heap wr (w.heap.size) s pos (pos + (Utf8.decode s pos).2) hit
      have hbw2 := Lib.below_iterAt hbw (k := w.heap.size) (by omega) s (pos + (Utf8.decode s pos).2)
      obtain ⟨f, rfl⟩ : ∃ f, fuel = f + 1 := ⟨fuel - 1, by omega⟩
      have hsz2 : (wr.iterAt (w.heap.size) s (pos + (Utf8.decode s pos).2)).heap.size = wr.heap.size := Lib.iterAt_size _ _ _ _
      have HC : Hid ((acc ++ [((Utf8.decode s pos).1 : Int)]) ++ runesF s f (pos + (Utf8.decode s pos).2) = runes s) := by
        have h := hacc.out; rw [runesF, if_pos hp] at h; rw [← h]; simp [Hid]
      have HS : Hid (LikeM.scan (acc ++ [((Utf8.decode s pos).1 : Int)]) = LikeM.step (ms, esc) (Utf8.decode s pos).1) := by
        show _ = _; rw [LikeM.scan_snoc, hscan.out]
      cases esc
      · by_cases h92 : (Utf8.decode s pos).1 = 92
        · have hst : LikeM.step (ms, false) (Utf8.decode s pos).1 = (ms, true) := by simp [LikeM.step, h92]
          have b92 : (((Utf8.decode s pos).1 : Int) == 92) = true := by rw [beq_iff_eq]; omega
          rw [hst] at HS
          clear hst h92
          go_wp2_with fail
          go_roundw
          case rel => exact ⟨pos + (Utf8.decode s pos).2, f, acc ++ [((Utf8.decode s pos).1 : Int)], ms, true, hown2, rfl, hit2, hbw2, HC, HS, by omega⟩
          case measure =>
            simp only [World.iterPos, hit2, hit]
            omega
        · have b92 : (((Utf8.decode s pos).1 : Int) == 92) = false := by rw [beq_eq_false_iff_ne]; omega
          by_cases h37 : (Utf8.decode s pos).1 = 37
          · have hst : LikeM.step (ms, false) (Utf8.decode s pos).1 = (ms ++ [(2, 0)], false) := by simp [LikeM.step, h37]
            have b37 : (((Utf8.decode s pos).1 : Int) == 37) = true := by rw [beq_iff_eq]; omega
            rw [hst] at HS
            clear hst h37 h92
            go_wp2_with (at_builtin; refine wpList_append_own _ rfl _ _ 35 rfl w.heap.size 54 i0 (.agg #[.int .i64 0, .int .i32 0]) 2 16 Tryd.underlying35 hi hz0 hz1 hz2 rfl (by decide) _ _ _ rfl (hown2.alloc _) ⟨wr.heap.size, 0, none⟩ 1 1 [.int .i64 2, .int .i32 0] ?c0a rfl ?c1a ?c2a ?c3a ?c4a ?c5a ?_)
            case c0a => rw [← hsz2]; rfl
            case c1a => have h := cell_two_new (wr.iterAt (w.heap.size) s (pos + (Utf8.decode s pos).2)) (.int .i64 2) (.int .i32 0) 54; rw [hsz2] at h; exact h
            case c2a => intro u hu; simp at hu; rcases hu with rfl | rfl <;> rfl
            case c3a => simp [maxLen]; omega
            case c4a => omega
            case c5a => simp; omega
            intro v' w1 hown' hgrow _
            have hit3 := iter_grown (hown2.alloc _) hgrow (iter_alloc hit2 _)
            have hbw3 := below_own (hbw2.alloc (by rw [hsz2]; omega) _) (hown2.alloc _) hgrow (Nat.le_refl _) (by simp; omega)
            clear hgrow hown2 hit2 hbw2 hbw hown hnx
            go_wp2
            go_roundw
            case rel => exact ⟨pos + (Utf8.decode s pos).2, f, acc ++ [((Utf8.decode s pos).1 : Int)], ms ++ [(2, 0)], false, by rw [mcells_snoc]; simpa using hown', rfl, hit3, hbw3, HC, HS, by omega⟩
            case measure =>
              simp only [World.iterPos, hit3, hit]
              omega
          · have b37 : (((Utf8.decode s pos).1 : Int) == 37) = false := by rw [beq_eq_false_iff_ne]; omega
            by_cases h95 : (Utf8.decode s pos).1 = 95
            · have hst : LikeM.step (ms, false) (Utf8.decode s pos).1 = (ms ++ [(1, 0)], false) := by simp [LikeM.step, h95]
              have b95 : (((Utf8.decode s pos).1 : Int) == 95) = true := by rw [beq_iff_eq]; omega
              rw [hst] at HS
              clear hst h37 h92 h95
              go_wp2_with (at_builtin; refine wpList_append_own _ rfl _ _ 35 rfl w.heap.size 54 i0 (.agg #[.int .i64 0, .int .i32 0]) 2 16 Tryd.underlying35 hi hz0 hz1 hz2 rfl (by decide) _ _ _ rfl (hown2.alloc _) ⟨wr.heap.size, 0, none⟩ 1 1 [.int .i64 1, .int .i32 0] ?c0b rfl ?c1b ?c2b ?c3b ?c4b ?c5b ?_)
              case c0b => rw [← hsz2]; rfl
              case c1b => have h := cell_two_new (wr.iterAt (w.heap.size) s (pos + (Utf8.decode s pos).2)) (.int .i64 1) (.int .i32 0) 54; rw [hsz2] at h; exact h
              case c2b => intro u hu; simp at hu; rcases hu with rfl | rfl <;> rfl
              case c3b => simp [maxLen]; omega
              case c4b => omega
              case c5b => simp; omega
              intro v' w1 hown' hgrow _
              have hit3 := iter_grown (hown2.alloc _) hgrow (iter_alloc hit2 _)
              have hbw3 := below_own (hbw2.alloc (by rw [hsz2]; omega) _) (hown2.alloc _) hgrow (Nat.le_refl _) (by simp; omega)
              clear hgrow hown2 hit2 hbw2 hbw hown hnx
              go_wp2
              go_roundw
              case rel => exact ⟨pos + (Utf8.decode s pos).2, f, acc ++ [((Utf8.decode s pos).1 : Int)], ms ++ [(1, 0)], false, by rw [mcells_snoc]; simpa using hown', rfl, hit3, hbw3, HC, HS, by omega⟩
              case measure =>
                simp only [World.iterPos, hit3, hit]
                omega
            · have hst : LikeM.step (ms, false) (Utf8.decode s pos).1 = (ms ++ [(0, ((Utf8.decode s pos).1 : Int))], false) := by
                unfold LikeM.step
                rw [if_neg (by simp), if_neg (by omega), if_neg (by omega), if_neg (by omega)]
              have b95 : (((Utf8.decode s pos).1 : Int) == 95) = false := by rw [beq_eq_false_iff_ne]; omega
              rw [hst] at HS
              clear hst h37 h92 h95
              go_wp2_with (at_builtin; refine wpList_append_own _ rfl _ _ 35 rfl w.heap.size 54 i0 (.agg #[.int .i64 0, .int .i32 0]) 2 16 Tryd.underlying35 hi hz0 hz1 hz2 rfl (by decide) _ _ _ rfl (hown2.alloc _) ⟨wr.heap.size, 0, none⟩ 1 1 [.int .i64 0, .int .i32 ((Utf8.decode s pos).1 : Int)] ?c0c rfl ?c1c ?c2c ?c3c ?c4c ?c5c ?_)
              case c0c => rw [← hsz2]; rfl
              case c1c => have h := cell_two_new (wr.iterAt (w.heap.size) s (pos + (Utf8.decode s pos).2)) (.int .i64 0) (.int .i32 ((Utf8.decode s pos).1 : Int)) 54; rw [hsz2] at h; exact h
              case c2c => intro u hu; simp at hu; rcases hu with rfl | rfl <;> rfl
              case c3c => simp [maxLen]; omega
              case c4c => omega
              case c5c => simp; omega
              intro v' w1 hown' hgrow _
              have hit3 := iter_grown (hown2.alloc _) hgrow (iter_alloc hit2 _)
              have hbw3 := below_own (hbw2.alloc (by rw [hsz2]; omega) _) (hown2.alloc _) hgrow (Nat.le_refl _) (by simp; omega)
              clear hgrow hown2 hit2 hbw2 hbw hown hnx
              go_wp2
              go_roundw
              case rel => exact ⟨pos + (Utf8.decode s pos).2, f, acc ++ [((Utf8.decode s pos).1 : Int)], ms ++ [(0, ((Utf8.decode s pos).1 : Int))], false, by rw [mcells_snoc]; simpa using hown', rfl, hit3, hbw3, HC, HS, by omega⟩
              case measure =>
                simp only [World.iterPos, hit3, hit]
                omega
      · have hst : LikeM.step (ms, true) (Utf8.decode s pos).1 = (ms ++ [(0, ((Utf8.decode s pos).1 : Int))], false) := by simp [LikeM.step]
        rw [hst] at HS
        clear hst
        go_wp2_with (at_builtin; refine wpList_append_own _ rfl _ _ 35 rfl w.heap.size 54 i0 (.agg #[.int .i64 0, .int .i32 0]) 2 16 Tryd.underlying35 hi hz0 hz1 hz2 rfl (by decide) _ _ _ rfl (hown2.alloc _) ⟨wr.heap.size, 0, none⟩ 1 1 [.int .i64 0, .int .i32 ((Utf8.decode s pos).1 : Int)] ?c0d rfl ?c1d ?c2d ?c3d ?c4d ?c5d ?_)
        case c0d => rw [← hsz2]; rfl
        case c1d => have h := cell_two_new (wr.iterAt (w.heap.size) s (pos + (Utf8.decode s pos).2)) (.int .i64 0) (.int .i32 ((Utf8.decode s pos).1 : Int)) 54; rw [hsz2] at h; exact h
        case c2d => intro u hu; simp at hu; rcases hu with rfl | rfl <;> rfl
        case c3d => simp [maxLen]; omega
        case c4d => omega
        case c5d => simp; omega
        intro v' w1 hown' hgrow _
        have hit3 := iter_grown (hown2.alloc _) hgrow (iter_alloc hit2 _)
        have hbw3 := below_own (hbw2.alloc (by rw [hsz2]; omega) _) (hown2.alloc _) hgrow (Nat.le_refl _) (by simp; omega)
        clear hgrow hown2 hit2 hbw2 hbw hown hnx
        go_wp2
        go_roundw
        case rel => exact ⟨pos + (Utf8.decode s pos).2, f, acc ++ [((Utf8.decode s pos).1 : Int)], ms ++ [(0, ((Utf8.decode s pos).1 : Int))], false, by rw [mcells_snoc]; simpa using hown', rfl, hit3, hbw3, HC, HS, by omega⟩
        case measure =>
          simp only [World.iterPos, hit3, hit]
          omega
    · have hnx : ∀ ty, (Instr.next (.pointer (some ⟨w.heap.size, 0, none⟩)) true ty).run Tryd.prog wr = _ := fun ty => Lib.run_next_end_at wr (w.heap.size) s pos ty hit hp
      have h := hacc.out
      rw [runesF_end s fuel pos hp, List.append_nil] at h
      subst h
      go_wp2_with fail
      go_ret2
      rw [hscan.out]
      exact ⟨_, rfl, hown, hbw⟩
end Go.Proofs.YtkmopmcpblhakabDoor
