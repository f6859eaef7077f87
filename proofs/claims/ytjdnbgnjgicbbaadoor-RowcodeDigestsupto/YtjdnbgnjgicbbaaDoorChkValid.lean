/-
  The walk of lockstepref01.valid: it tells whether a text is UTF-8, as utf8.ValidString does.
-/
import Derived.Test.YtjdnbgnjgicbbaaDoorProg
import Derived.WalkKit
import Derived.WalkSpells
import Derived.WalkLawsBesides
import Derived.Lib.OthersKept
import Derived.Lib.ValidLaws
namespace Go.Proofs.YtjdnbgnjgicbbaaDoor
open Go.RowKit

def repl (l : List UInt8) : Bool := l.take 3 == [239, 191, 189]

theorem u8_of_nat {a : UInt8} {n : Nat} (h : a.toNat = n) (hn : n < 256) : a = UInt8.ofNat n := by
  apply UInt8.toNat_inj.1; rw [h]; simp; omega

theorem repl_of : ∀ (l : List UInt8), 3 ≤ l.length → (l.getD 0 0).toNat = 239 → (l.getD 1 0).toNat = 191 → (l.getD 2 0).toNat = 189 → repl l = true
  | a :: b :: c :: l', _, e0, e1, e2 => by
    have ea : a = 239 := u8_of_nat (n := 239) e0 (by decide)
    have eb : b = 191 := u8_of_nat (n := 191) e1 (by decide)
    have ec : c = 189 := u8_of_nat (n := 189) e2 (by decide)
    subst ea eb ec
    rfl

theorem decode_bad (l : List UInt8) (h : (Lib.decodeL l).1 = 65533) (hr : repl l = false) : (Lib.decodeL l).2 = 1 := by
  rw [Lib.decodeL_N] at h ⊢
  have g0 := (l.getD 0 0).toNat_lt; have g1 := (l.getD 1 0).toNat_lt; have g2 := (l.getD 2 0).toNat_lt
  unfold Lib.decodeN at h ⊢
  by_cases h1 : (l.getD 0 0).toNat < 128
  · rw [if_pos h1] at h ⊢
  rw [if_neg h1] at h ⊢
  split at h
  · rename_i hc
    rw [if_pos hc]
    split at h
    · simp only at h; omega
    · rename_i hv; rw [if_neg hv]
  · rename_i hc
    rw [if_neg hc]
    split at h
    · rename_i hc2
      rw [if_pos hc2]
      split at h
      · rename_i hv
        simp only at h
        exfalso
        have e0 : (l.getD 0 0).toNat = 239 := by omega
        have e1 : (l.getD 1 0).toNat = 191 := by omega
        have e2 : (l.getD 2 0).toNat = 189 := by omega
        have hl : 3 ≤ l.length := by omega
        rw [repl_of l hl e0 e1 e2] at hr; cases hr
      · rename_i hv; rw [if_neg hv]
    · rename_i hc2
      rw [if_neg hc2]
      split at h
      · rename_i hc3
        rw [if_pos hc3]
        split at h
        · rename_i hv; simp only at h; exfalso; omega
        · rename_i hv; rw [if_neg hv]
      · rename_i hc3; rw [if_neg hc3]
theorem decode_repl (l : List UInt8) (hr : repl l = true) : Lib.decodeL l = (65533, 3) := by
  have h : l.take 3 = [239, 191, 189] := by simpa [repl] using hr
  match l with
  | [] => simp at h
  | [a] => simp at h
  | [a, b] => simp at h
  | a :: b :: c :: l' =>
    simp at h
    obtain ⟨rfl, rfl, rfl⟩ := h
    rw [Lib.decodeL_N]
    simp only [List.getD_cons_zero, List.getD_cons_succ, Lib.decodeN, List.length_cons]
    simp

theorem extract_repl (s : ByteArray) (pos : Nat) : ((s.extract pos (pos + 3)).toList == [239, 191, 189]) = repl (s.data.toList.drop pos) := by
  rw [Lib.toList_data, Lib.extract_data, Nat.add_sub_cancel_left]; rfl

theorem valid_at (s : ByteArray) (pos : Nat) (h : pos < s.size) (hv : ¬ (Utf8.decode s pos).1 = 65533 ∨ repl (s.data.toList.drop pos) = true) : Lib.validD (s.data.toList.drop pos) = Lib.validD (s.data.toList.drop (pos + (Utf8.decode s pos).2)) := by
  have hne : s.data.toList.drop pos ≠ [] := by
    intro e; have := congrArg List.length e; simp at this; have : s.data.size = s.size := rfl; omega
  rw [Lib.validD_step _ hne, Lib.decodeL_drop, List.drop_drop, if_neg]
  rintro ⟨h1, h2⟩
  rcases hv with hv | hv
  · exact hv h1
  · have := decode_repl _ hv; rw [Lib.decodeL_drop] at this; rw [this] at h2; simp at h2
theorem valid_not (s : ByteArray) (pos : Nat) (h : pos < s.size) (h1 : (Utf8.decode s pos).1 = 65533) (hr : repl (s.data.toList.drop pos) = false) : Lib.validD (s.data.toList.drop pos) = false := by
  have hne : s.data.toList.drop pos ≠ [] := by
    intro e; have := congrArg List.length e; simp at this; have : s.data.size = s.size := rfl; omega
  have h2 := decode_bad _ (by rw [Lib.decodeL_drop]; exact h1) hr
  rw [Lib.validD_step _ hne, if_pos ⟨by rw [Lib.decodeL_drop]; exact h1, h2⟩]
theorem width_pos' (s : ByteArray) (pos : Nat) (h : pos < s.size) : 1 ≤ (Utf8.decode s pos).2 := by
  by_cases ha : (s[pos]'h).toNat < 128
  · rw [decode_ascii s pos h ha]; exact Nat.le_refl _
  · exact (decode_high s pos h (by omega)).2

set_option maxHeartbeats 1000000 in
set_option maxRecDepth 1000000 in
theorem valid_any (s : ByteArray) (w : World) (hs : s.size ≤ 4096) :
    Calls Tryd.prog 36 #[.string s] w fun e w' => e = .returned (.bool (Lib.validD s.data.toList)) ∧ Below w.heap.size w w' := by
  obtain ⟨V, hV⟩ : ∃ V, V = Lib.validD s.data.toList := ⟨_, rfl⟩
  rw [← hV]
  have HV : Hid (V = Lib.validD s.data.toList) := hV
  clear hV
  go_enter Tryd.func36, Tryd.ntmps36
  go_wp2
  go_loopw [] (fun wr => ∃ pos : Nat, wr.heap[w.heap.size]? = some (.stringIter s pos) ∧ Below w.heap.size w wr ∧ Hid (V = Lib.validD (s.data.toList.drop pos)))
    (fun wr => s.size - wr.iterPos (w.heap.size))
  case atStart =>
    refine ⟨0, ?_, (Below.refl _ w).alloc (Nat.le_refl _) _, HV⟩
    have := World.iter_heap w s 0
    simpa using this
  case round =>
    obtain ⟨pos, hit, hbw, hv⟩ := hrel
    clear HV
    have hsz : w.heap.size < wr.heap.size := (Array.getElem?_eq_some_iff.1 hit).1
    by_cases hp : pos < s.size
    · have hnx : ∀ ty, (Instr.next (.pointer (some ⟨w.heap.size, 0, none⟩)) true ty).run Tryd.prog wr = _ := fun ty => Lib.run_next_any_at wr (w.heap.size) s pos ty hit hp
      have hwd := width_pos' s pos hp
      have hit2 := Lib.iterAt_heap wr (w.heap.size) s pos (pos + (Utf8.decode s pos).2) hit
      have hbw2 := Lib.below_iterAt hbw (k := w.heap.size) (by omega) s (pos + (Utf8.decode s pos).2)
      by_cases hr : (Utf8.decode s pos).1 = 65533
      · have br : (((Utf8.decode s pos).1 : Int) == 65533) = true := by rw [beq_iff_eq]; omega
        by_cases hl : s.size - pos < 3
        · have hbad := valid_not s pos hp hr (by
            simp only [repl, beq_eq_false_iff_ne]; intro e; have := congrArg List.length e; simp at this; have : s.data.size = s.size := rfl; omega)
          rw [hbad] at hv
          obtain rfl := hv.out
          clear hr
          go_wp2_with fail
          go_ret
          exact ⟨rfl, hbw2⟩
        · cases hx : repl (s.data.toList.drop pos)
          · have hbad := valid_not s pos hp hr hx
            rw [hbad] at hv
            obtain rfl := hv.out
            have hxx := (extract_repl s pos).trans hx
            clear hr hx hbad
            go_wp2_with fail
            go_ret
            exact ⟨rfl, hbw2⟩
          · have hv2 : Hid (V = Lib.validD (s.data.toList.drop (pos + (Utf8.decode s pos).2))) := by show _ = _; rw [← valid_at s pos hp (Or.inr hx)]; exact hv.out
            have hxx := (extract_repl s pos).trans hx
            clear hr hv hx
            go_wp2_with fail
            go_roundw
            case rel => exact ⟨_, hit2, hbw2, hv2⟩
            case measure =>
              simp only [World.iterPos, hit2, hit]
              omega
      · have br : (((Utf8.decode s pos).1 : Int) == 65533) = false := by rw [beq_eq_false_iff_ne]; omega
        have hv2 : Hid (V = Lib.validD (s.data.toList.drop (pos + (Utf8.decode s pos).2))) := by show _ = _; rw [← valid_at s pos hp (Or.inl hr)]; exact hv.out
        clear hr hv
        go_wp2_with fail
        go_roundw
        case rel => exact ⟨_, hit2, hbw2, hv2⟩
        case measure =>
          simp only [World.iterPos, hit2, hit]
          omega
    · have hnx : ∀ ty, (Instr.next (.pointer (some ⟨w.heap.size, 0, none⟩)) true ty).run Tryd.prog wr = _ := fun ty => Lib.run_next_end_at wr (w.heap.size) s pos ty hit hp
      have h := hv.out
      rw [List.drop_eq_nil_of_le (by have : s.data.size = s.size := rfl; simp; omega), Lib.validD_nil] at h
      subst h
      go_wp2_with fail
      go_ret
      exact ⟨rfl, hbw⟩
end Go.Proofs.YtjdnbgnjgicbbaaDoor
