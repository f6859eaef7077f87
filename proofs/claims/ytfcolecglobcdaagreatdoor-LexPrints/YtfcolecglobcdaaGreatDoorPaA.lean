/-
  The library's contracts that literals ask for, at this program; digits of a text.
-/
import Derived.Test.YtfcolecglobcdaaGreatDoorPaM
import Derived.Test.YtfcolecglobcdaaGreatDoorShelfP
import Derived.Shelf.Strings.Replace
import Derived.Shelf.Strings.Search3
import Derived.Shelf.Strings.Cut
import Derived.Shelf.Strings.Repeat
import Derived.Shelf.Strings.Prefix
import Derived.Shelf.Small.Wraps
import Derived.Shelf.Pu.ParseUintPublic10
import Derived.Lib.SmallJoins
namespace Go.Proofs.YtfcolecglobcdaaGreatDoor
open Go.RowKit Go.Shelf
set_option maxRecDepth 100000

/-- the library's variable MaxLen holds a number -/
def Mx (w : World) : Prop := ∃ m : Int, w.cell? ⟨3, 0, none⟩ = some (.int .i64 m)
theorem Mx.below {w w' : World} (h : Mx w) (hb : Below w.heap.size w w') : Mx w' := by
  obtain ⟨m, hm⟩ := h
  exact ⟨m, (hb.cell (p := ⟨3, 0, none⟩) (World.block_lt_of_cell? w _ hm)).trans hm⟩
/-- the library's variable ErrRange holds an error -/
def Rg (w : World) : Prop := ∃ ev : Value, w.cell? ⟨9, 0, none⟩ = some ev ∧ (ev = .nilIface ∨ ∃ te pe, ev = .iface te pe)
theorem Rg.below {w w' : World} (h : Rg w) (hb : Below w.heap.size w w') : Rg w' := by
  obtain ⟨m, hm, he⟩ := h
  exact ⟨m, (hb.cell (p := ⟨9, 0, none⟩) (World.block_lt_of_cell? w _ hm)).trans hm, he⟩
theorem xRepl : Builder.Extra Tryz.prog Tryz.laysRepl_ren where
  sizeBuilder := by kernel_rfl
  liesBuilder := by kernel_rfl
  t5 := Tryz.underlying5
  a5 := Tryz.isAgg5
  z5 := Tryz.sizeOf5
  v5 := Tryz.zeroValue5
  infoByte := by kernel_rfl
  cellsByte := by kernel_rfl
  sizeByte := by kernel_rfl
  neB5 := by decide
theorem xRep : Builder.Extra Tryz.prog Tryz.laysRep_ren where
  sizeBuilder := by kernel_rfl
  liesBuilder := by kernel_rfl
  t5 := Tryz.underlying5
  a5 := Tryz.isAgg5
  z5 := Tryz.sizeOf5
  v5 := Tryz.zeroValue5
  infoByte := by kernel_rfl
  cellsByte := by kernel_rfl
  sizeByte := by kernel_rfl
  neB5 := by decide
theorem ReplaceAll_any (s old new : ByteArray) (w : World) (hM : Mx w) (hs : s.size ≤ 100000) (h1 : 1 ≤ old.size) (hn : new.size ≤ 2) :
    Calls Tryz.prog 42 #[.string s, .string old, .string new] w fun e w' => e = .returned (.string ⟨(Lib.replaceAll s.data.toList old.data.toList new.data.toList).toArray⟩) ∧ Below w.heap.size w w' := by
  obtain ⟨m, hm⟩ := hM
  have hc : Lib.countB s old ≤ s.size + 1 := by
    have := Lib.count_le s.data.toList old.data.toList
    simpa using this
  have hp : Lib.countB s old * new.size ≤ (s.size + 1) * 2 := Nat.mul_le_mul hc hn
  exact Any.strings_ReplaceAll { Tryz.laysRepl with } xRepl s old new m w (by omega) hm h1 (by omega)
theorem Contains_any (s sub : ByteArray) (w : World) (hM : Mx w) (hs : s.size ≤ 100000) :
    Calls Tryz.prog 23 #[.string s, .string sub] w fun e w' => e = .returned (.bool (Lib.contains s.data.toList sub.data.toList)) ∧ w' = w := by
  obtain ⟨m, hm⟩ := hM
  exact Any.strings_Contains { Tryz.laysCont with } s sub m w (by omega) hm
theorem Cut_any (s sep : ByteArray) (w : World) (hM : Mx w) (hs : s.size ≤ 100000) :
    Calls Tryz.prog 103 #[.string s, .string sep] w fun e w' => e = .returned (.tuple #[.string ⟨(Lib.cut s.data.toList sep.data.toList).1.toArray⟩, .string ⟨(Lib.cut s.data.toList sep.data.toList).2.1.toArray⟩, .bool (Lib.cut s.data.toList sep.data.toList).2.2]) ∧ Below w.heap.size w w' := by
  obtain ⟨m, hm⟩ := hM
  refine (Any.strings_Cut { Tryz.laysCut with } s sep m w (by omega) hm).mono ?_
  rintro e w' ⟨rfl, n, rfl⟩
  exact ⟨rfl, below_drewN (Below.refl _ w) n⟩
theorem CutPrefix_any (s p : ByteArray) (w : World) :
    Calls Tryz.prog 128 #[.string s, .string p] w fun e w' => e = .returned (.tuple #[.string ⟨(Lib.trimPrefix s.data.toList p.data.toList).toArray⟩, .bool (Lib.hasPrefix s.data.toList p.data.toList)]) ∧ w' = w :=
  Any.strings_CutPrefix Tryz.laysCutP s p w
theorem HasPrefix_any (s p : ByteArray) (w : World) :
    Calls Tryz.prog 44 #[.string s, .string p] w fun e w' => e = .returned (.bool (Lib.hasPrefix s.data.toList p.data.toList)) ∧ w' = w :=
  Any.strings_HasPrefix Tryz.laysHasP s p w
theorem Repeat_any (s : ByteArray) (c : Nat) (w : World) (hc : c ≤ 4) (hs : s.size ≤ 10) :
    Calls Tryz.prog 147 #[.string s, .int .i64 c] w fun e w' => e = .returned (.string ⟨(Lib.repeatL s.data.toList c).toArray⟩) ∧ Below w.heap.size w w' := by
  have hp : s.size * c ≤ 10 * 4 := Nat.mul_le_mul hs hc
  exact Any.strings_Repeat Tryz.laysRep xRep s c w (by omega) (by omega)
theorem ParseUint_ok (s : ByteArray) (u : Nat) (w : World) (hs : s.size ≤ 100000) (h : Lib.parseUintB 64 s.data.toList = .ok u) :
    Calls Tryz.prog 155 #[.string s, .int .i64 10, .int .i64 64] w fun e w' => e = .returned (.tuple #[.int .u64 u, .nilIface]) ∧ Below w.heap.size w w' := by
  refine (Any.strconv_ParseUint_10_at64_ok Tryz.laysPu s (by omega) u h w).mono ?_
  rintro e w' ⟨rfl, rfl | rfl⟩
  · exact ⟨rfl, Below.refl _ _⟩
  · exact ⟨rfl, Go.Joins.below_bytesWorld _ w _ s (Nat.le_refl _)⟩
theorem ParseUint_range (s : ByteArray) (w : World) (hs : s.size ≤ 100000) (hR : Rg w) (h : Lib.parseUintB 64 s.data.toList = .range) :
    Calls Tryz.prog 155 #[.string s, .int .i64 10, .int .i64 64] w fun e w' => (∃ ty p, e = .returned (.tuple #[.int .u64 18446744073709551615, .iface ty p])) ∧ Below w.heap.size w w' := by
  obtain ⟨ev, hv, he⟩ := hR
  refine (Any.strconv_ParseUint_10_at64_range Tryz.laysPu s (by omega) h ev w hv he).mono ?_
  rintro e w' ⟨N, rfl, _, _, hb⟩
  exact ⟨⟨_, _, rfl⟩, hb⟩

set_option maxHeartbeats 2000000 in
set_option maxRecDepth 1000000 in
theorem allDigits_any (s : ByteArray) (w : World) :
    Calls Tryz.prog 146 #[.string s] w fun e w' => e = .returned (.bool (allD s.data.toList)) ∧ Below w.heap.size w w' := by
  obtain ⟨V, hV⟩ : ∃ V, V = allD s.data.toList := ⟨_, rfl⟩
  rw [← hV]
  have HV : Hid (V = allD (s.data.toList.drop 0)) := hV
  clear hV
  go_enter Tryz.func146, Tryz.ntmps146
  go_wp2
  go_loopw [] (fun wr => ∃ pos : Nat, pos ≤ s.size ∧ wr.heap[w.heap.size]? = some (.stringIter s pos) ∧ Below w.heap.size w wr ∧ Hid (V = allD (s.data.toList.drop pos)))
    (fun wr => s.size - wr.iterPos (w.heap.size))
  case atStart =>
    refine ⟨0, Nat.zero_le _, ?_, (Below.refl _ w).alloc (Nat.le_refl _) _, HV⟩
    have := World.iter_heap w s 0
    simpa using this
  case round =>
    obtain ⟨pos, hps, hit, hbw, hv⟩ := hrel
    clear HV
    have hsz : w.heap.size < wr.heap.size := (Array.getElem?_eq_some_iff.1 hit).1
    by_cases hp : pos < s.size
    · have hnx : ∀ ty, (Instr.next (.pointer (some ⟨w.heap.size, 0, none⟩)) true ty).run Tryz.prog wr = _ := fun ty => Lib.run_next_any_at wr (w.heap.size) s pos ty hit hp
      have hit2 := Lib.iterAt_heap wr (w.heap.size) s pos (pos + (Utf8.decode s pos).2) hit
      have hbw2 := Lib.below_iterAt hbw (k := w.heap.size) (by omega) s (pos + (Utf8.decode s pos).2)
      have hx : s.data.toList[pos]? = some (s[pos]'hp) := by
        have hl : pos < s.data.toList.length := by simpa using hp
        rw [List.getElem?_eq_getElem hl]; rfl
      have hv1 := hv.out
      have hdr : s.data.toList.drop pos = (s[pos]'hp) :: s.data.toList.drop (pos + 1) := by
        obtain ⟨h1, h2⟩ := List.getElem?_eq_some_iff.1 hx
        rw [List.drop_eq_getElem_cons h1, h2]
      rw [hdr] at hv1
      have hall : allD ((s[pos]'hp) :: s.data.toList.drop (pos + 1)) = (isD (s[pos]'hp) && allD (s.data.toList.drop (pos + 1))) := rfl
      rw [hall] at hv1
      clear hdr hall hx
      by_cases ha : (s[pos]'hp).toNat < 128
      · have hdc := decode_ascii s pos hp ha
        generalize (s[pos]'hp) = x at hv1 ha hdc
        rw [hdc] at hnx hit2 hbw2
        simp only at hnx hit2 hbw2
        by_cases h1 : x.toNat < 48
        · have h1i : (x.toNat : Int) < 48 := by omega
          have hf : isD x = false := by unfold isD; rw [decide_eq_false_iff_not]; omega
          rw [hf] at hv1
          subst hv1
          clear hdc hv
          go_wp2_with fail
          go_ret
          exact ⟨rfl, hbw2⟩
        · have h1i : ¬ (x.toNat : Int) < 48 := by omega
          by_cases h2 : 57 < x.toNat
          · have h2i : (57 : Int) < (x.toNat : Int) := by omega
            have hf : isD x = false := by unfold isD; rw [decide_eq_false_iff_not]; omega
            rw [hf] at hv1
            subst hv1
            clear hdc hv
            go_wp2_with fail
            go_ret
            exact ⟨rfl, hbw2⟩
          · have h2i : ¬ (57 : Int) < (x.toNat : Int) := by omega
            have hf : isD x = true := by unfold isD; rw [decide_eq_true_iff]; omega
            rw [hf, Bool.true_and] at hv1
            have HV1 : Hid (V = allD (s.data.toList.drop (pos + 1))) := hv1
            clear hdc hv hv1
            go_wp2_with fail
            go_roundw
            case rel => exact ⟨pos + 1, hp, hit2, hbw2, HV1⟩
            case measure =>
              simp only [World.iterPos, hit2, hit]
              omega
      · obtain ⟨hd1, hd2⟩ := decode_high s pos hp (by omega)
        have h1i : ¬ (((Utf8.decode s pos).1 : Nat) : Int) < 48 := by omega
        have h2i : (57 : Int) < (((Utf8.decode s pos).1 : Nat) : Int) := by omega
        have hf : isD (s[pos]'hp) = false := by unfold isD; rw [decide_eq_false_iff_not]; omega
        rw [hf] at hv1
        subst hv1
        clear hv
        generalize Utf8.decode s pos = D at *
        go_wp2_with fail
        go_ret
        exact ⟨rfl, hbw2⟩
    · have hnx : ∀ ty, (Instr.next (.pointer (some ⟨w.heap.size, 0, none⟩)) true ty).run Tryz.prog wr = _ := fun ty => Lib.run_next_end_at wr (w.heap.size) s pos ty hit hp
      have h := hv.out
      rw [List.drop_eq_nil_of_le (by have : s.data.size = s.size := rfl; simp; omega)] at h
      have h2 : V = true := h
      clear h hv hps
      subst h2
      go_wp2_with fail
      go_ret
      exact ⟨rfl, hbw⟩
end Go.Proofs.YtfcolecglobcdaaGreatDoor
