/-
  The walks of the two readers of a text's characters: lockstepref01.Runes and value.readPattern.
-/
import Derived.Test.YtkmopmcpblhakabDoorProg
import Derived.Test.YtkmopmcpblhakabDoorLikeMath
import Derived.WalkKit
import Derived.WalkSpells
import Derived.WalkLawsBesides
import Derived.Lib.OthersKept
namespace Go.Proofs.YtkmopmcpblhakabDoor
open Go.RowKit

/-- the characters of a text, from a place on -/
def runesF (s : ByteArray) : Nat → Nat → List Int
  | 0, _ => []
  | fuel + 1, pos => if pos < s.size then ((Utf8.decode s pos).1 : Int) :: runesF s fuel (pos + (Utf8.decode s pos).2) else []
def runes (s : ByteArray) : List Int := runesF s s.size 0

theorem runesF_end (s : ByteArray) (fuel pos : Nat) (h : ¬ pos < s.size) : runesF s fuel pos = [] := by
  cases fuel <;> simp [runesF, h]
theorem runesF_len (s : ByteArray) : ∀ fuel pos, (runesF s fuel pos).length ≤ fuel
  | 0, _ => by simp [runesF]
  | fuel + 1, pos => by
    unfold runesF; split
    · have := runesF_len s fuel (pos + (Utf8.decode s pos).2); simp; omega
    · simp
theorem runes_len (s : ByteArray) : (runes s).length ≤ s.size := runesF_len s s.size 0
theorem width_pos (s : ByteArray) (pos : Nat) (h : pos < s.size) : 1 ≤ (Utf8.decode s pos).2 := by
  by_cases ha : (s[pos]'h).toNat < 128
  · rw [decode_ascii s pos h ha]; exact Nat.le_refl _
  · exact (decode_high s pos h (by omega)).2

theorem Tryd.info21 : (Tryd.prog.info? 21).map (fun i => (i.zero, i.size, i.bytes)) = some (some (.int .i32 0), 1, 4) := by kernel_rfl

section
variable {w w' : World} {v : Value} {base : Nat} {e : TypeId} {size n k : Nat} {xs : List Value} {s : ByteArray} {p : Nat}
theorem ownNe (h : w.ownsRow base e size v n xs) (hk : w.heap[k]? = some (.stringIter s p)) : v.ownBlock ≠ some k := by
  rcases h.2 with ⟨rfl, _⟩ | ⟨g, cap, cur, rfl, _, hh, _⟩
  · simp [Value.ownBlock]
  · intro e; simp only [Value.ownBlock, Option.some.injEq] at e; subst e; rw [hh] at hk; simp at hk
/-- the iterator stays where the row grows -/
theorem iter_grown (h : w.ownsRow base e size v n xs) (hg : w.grownBy w' v.ownBlock) (hk : w.heap[k]? = some (.stringIter s p)) : w'.heap[k]? = some (.stringIter s p) := by
  rw [hg.block k (Array.getElem?_eq_some_iff.1 hk).1 (fun e => ownNe h hk e.symm)]; exact hk
/-- the row stays where the iterator moves on -/
theorem own_iterAt (h : w.ownsRow base e size v n xs) (hk : w.heap[k]? = some (.stringIter s p)) (q : Nat) : (w.iterAt k s q).ownsRow base e size v n xs := by
  have hne := ownNe h hk
  refine ⟨h.1, h.2.imp id ?_⟩
  rintro ⟨g, cap, cur, rfl, hb, hh, hr⟩
  refine ⟨g, cap, cur, rfl, hb, ?_, hr⟩
  rw [Lib.iterAt_other w k g s q (fun e => hne (by simp [Value.ownBlock, e]))]; exact hh
theorem iter_alloc (hk : w.heap[k]? = some (.stringIter s p)) (o : Obj) : (w.alloc o).heap[k]? = some (.stringIter s p) := by
  rw [Below.heap_alloc w o k (Array.getElem?_eq_some_iff.1 hk).1]; exact hk
theorem below_own {B : Nat} {a : World} (hb : Below B a w) (h : w.ownsRow base e size v n xs) (hg : w.grownBy w' v.ownBlock) (hB : B ≤ base) (hB2 : B ≤ w.heap.size) : Below B a w' :=
  hb.grown hg hB2 (fun k hk => by have := h.lt k hk; omega)
end

set_option maxHeartbeats 1000000 in
set_option maxRecDepth 1000000 in
theorem Runes_any (s : ByteArray) (w : World) (hs : s.size ≤ 4096) :
    Calls Tryd.prog 16 #[.string s] w fun e w' => ∃ v, e = .returned v ∧ w'.ownsRow w.heap.size 21 1 v (runes s).length ((runes s).map (Value.int .i32)) ∧ (∃ g cap, v = .slice (some ⟨g, 0, none⟩) (runes s).length cap) ∧ Below w.heap.size w w' := by
  obtain ⟨i0, hi, hz0, hz1, hz2⟩ := info_parts Tryd.info21
  go_enter Tryd.func16, Tryd.ntmps16
  go_wp2
  go_loopw [3] (fun sv wr => ∃ (pos fuel : Nat) (acc : List Int), wr.ownsRow w.heap.size 21 1 sv acc.length (acc.map (Value.int .i32)) ∧ sv ≠ .slice none 0 0 ∧ wr.heap[w.heap.size + 1]? = some (.stringIter s pos) ∧ Below w.heap.size w wr ∧ Hid (acc ++ runesF s fuel pos = runes s) ∧ s.size ≤ pos + fuel)
    (fun _ wr => s.size - wr.iterPos (w.heap.size + 1))
  case atStart =>
    refine ⟨0, s.size, [], ?_, by simp, ?_, ?_, rfl, by omega⟩
    · exact (World.ownsRow_made w #[] 0 (Nat.le_refl _) (by simp [maxLen]) (by simp)).alloc _
    · have := World.iter_heap (w.alloc (.cells #[] 21)) s 0
      simpa using this
    · exact ((Below.refl _ w).alloc (Nat.le_refl _) _).alloc (by simp) _
  case round =>
    obtain ⟨pos, fuel, acc, hown, hnil, hit, hbw, hacc, hfu⟩ := hrel
    have hal : acc.length ≤ 4096 := by
      have h := congrArg List.length hacc.out
      have := runes_len s
      simp at h; omega
    have hsz : w.heap.size + 1 < wr.heap.size := (Array.getElem?_eq_some_iff.1 hit).1
    by_cases hp : pos < s.size
    · have hnx : ∀ ty, (Instr.next (.pointer (some ⟨w.heap.size + 1, 0, none⟩)) true ty).run Tryd.prog wr = _ := fun ty => Lib.run_next_any_at wr (w.heap.size + 1) s pos ty hit hp
      have hwd := width_pos s pos hp
      have hown2 := own_iterAt hown hit (pos + (Utf8.decode s pos).2)
      have hit2 := Lib.iterAt_heap wr (w.heap.size + 1) s pos (pos + (Utf8.decode s pos).2) hit
      have hbw2 := Lib.below_iterAt hbw (k := w.heap.size + 1) (by omega) s (pos + (Utf8.decode s pos).2)
      obtain ⟨f, rfl⟩ : ∃ f, fuel = f + 1 := ⟨fuel - 1, by omega⟩
      have hsz2 : (wr.iterAt (w.heap.size + 1) s (pos + (Utf8.decode s pos).2)).heap.size = wr.heap.size := Lib.iterAt_size _ _ _ _
      have HC : Hid ((acc ++ [((Utf8.decode s pos).1 : Int)]) ++ runesF s f (pos + (Utf8.decode s pos).2) = runes s) := by
        have h := hacc.out; rw [runesF, if_pos hp] at h; rw [← h]; simp [Hid]
      go_wp2_with (at_builtin; refine wpList_append_own _ rfl _ _ 39 rfl w.heap.size 21 i0 (.int .i32 0) 1 4 Tryd.underlying39 hi hz0 hz1 hz2 rfl (by decide) _ _ _ rfl (hown2.alloc _) ⟨wr.heap.size, 0, none⟩ 1 1 [.int .i32 (Utf8.decode s pos).1] ?c0 rfl ?c1 ?c2 ?c3 ?c4 ?c5 ?_)
      case c0 => rw [← hsz2]; rfl
      case c1 => have h := cell_one_new (wr.iterAt (w.heap.size + 1) s (pos + (Utf8.decode s pos).2)) (.int .i32 (Utf8.decode s pos).1) 21; rw [hsz2] at h; exact h
      case c2 => intro u hu; simp at hu; subst hu; rfl
      case c3 => simp [maxLen]; omega
      case c4 => omega
      case c5 => simp; omega
      intro v' w1 hown' hgrow hnil'
      have hit3 := iter_grown (hown2.alloc _) hgrow (iter_alloc hit2 _)
      have hbw3 := below_own (hbw2.alloc (by rw [hsz2]; omega) _) (hown2.alloc _) hgrow (Nat.le_refl _) (by simp; omega)
      clear hgrow hown2 hit2 hbw2 hbw hown hnx
      go_wp2
      go_roundw
      case rel => exact ⟨pos + (Utf8.decode s pos).2, f, acc ++ [((Utf8.decode s pos).1 : Int)], by simpa using hown', hnil', hit3, hbw3, HC, by omega⟩
      case measure =>
        simp only [World.iterPos, hit3, hit]
        omega
    · have hnx : ∀ ty, (Instr.next (.pointer (some ⟨w.heap.size + 1, 0, none⟩)) true ty).run Tryd.prog wr = _ := fun ty => Lib.run_next_end_at wr (w.heap.size + 1) s pos ty hit hp
      go_wp2_with fail
      go_ret
      have h := hacc.out
      rw [runesF_end s fuel pos hp, List.append_nil] at h
      subst h
      refine ⟨_, rfl, hown, ?_, hbw⟩
      rcases hown.2 with ⟨e, _⟩ | ⟨g, cap, cur, e, _⟩
      · exact absurd e hnil
      · exact ⟨g, cap, e⟩
end Go.Proofs.YtkmopmcpblhakabDoor
