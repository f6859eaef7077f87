/-
  The walks of table.isName, lockstepref08.Name, table.hasMost, and of the closures that hold names against each other.
-/
import Derived.Test.YtecebjfcokmmkaaGreatDoorTfA
import Derived.Test.YtecebjfcokmmkaaGreatDoorShelfL
namespace Go.Proofs.YtecebjfcokmmkaaGreatDoor
open Go.RowKit Go.Shelf
set_option maxRecDepth 100000

theorem IndexByte_any (s : ByteArray) (w : World) :
    Calls Tryz.prog 33 #[.string s, .int .u8 0] w fun e w' => e = .returned (.int .i64 (Lib.indexByte s.data.toList 0)) ∧ w' = w := by
  have h := Any.strings_IndexByte Tryz.laysIdxB s 0 w
  exact h
theorem nmK_short {s : ByteArray} (h : s.size = 0) : nmK s = false := by unfold nmK; rw [h]; rfl
theorem nmK_long {s : ByteArray} (h : 32 < s.size) : nmK s = false := by
  unfold nmK
  rw [decide_eq_false (show ¬ s.size ≤ 32 by omega)]; simp
theorem nmK_in {s : ByteArray} (h1 : ¬ s.size = 0) (h2 : ¬ 32 < s.size) : nmK s = (Lib.validD s.data.toList && decide (Lib.indexByte s.data.toList 0 < 0)) := by
  unfold nmK
  rw [decide_eq_true (show 1 ≤ s.size by omega), decide_eq_true (show s.size ≤ 32 by omega)]; simp

set_option maxHeartbeats 4000000 in
set_option maxRecDepth 1000000 in
theorem isName_any (s : ByteArray) (w : World) (hs : s.size ≤ 9223372036854775807) (hT : Tabs w) :
    Calls Tryz.prog 19 #[.string s] w fun e w' => e = .returned (.bool (nmK s)) ∧ Below w.heap.size w w' := by
  have cV : Hid (Calls Tryz.prog 32 #[.string s] w fun e w' => e = .returned (.bool (Lib.validD s.data.toList)) ∧ Below w.heap.size w w') := Any.utf8_ValidString Tryz.laysValid s w hs hT
  have IB : Hid (∀ w, Calls Tryz.prog 33 #[.string s, .int .u8 0] w fun e w' => e = .returned (.int .i64 (Lib.indexByte s.data.toList 0)) ∧ w' = w) := fun w => IndexByte_any s w
  by_cases h0 : s.size = 0
  · rw [nmK_short h0]
    clear cV IB
    go_enter Tryz.func19, Tryz.ntmps19
    go_wp2
    go_ret
    exact ⟨rfl, Below.refl _ _⟩
  have h0' : ¬ (s.size : Int) < 1 := by omega
  have h0'' : (1 : Int) ≤ (s.size : Int) := by omega
  by_cases h1 : 32 < s.size
  · rw [nmK_long h1]
    have h1' : ¬ (s.size : Int) ≤ 32 := by omega
    clear cV IB
    go_enter Tryz.func19, Tryz.ntmps19
    go_wp2
    go_ret
    exact ⟨rfl, Below.refl _ _⟩
  have h1' : (s.size : Int) ≤ 32 := by omega
  rw [nmK_in h0 h1]
  generalize Lib.validD s.data.toList = V at *
  generalize Lib.indexByte s.data.toList 0 = I at *
  cases V
  · go_enter Tryz.func19, Tryz.ntmps19
    go_wp2_with (go_at_call 32; refine cV.out.mono ?_; rintro e w' ⟨rfl, hb⟩)
    go_ret
    exact ⟨rfl, hb⟩
  · by_cases hI : I < 0
    · go_enter Tryz.func19, Tryz.ntmps19
      go_wp2_with (first | (go_at_call 32; refine cV.out.mono ?_; rintro e w' ⟨rfl, hb⟩) | (go_at_call 33; refine (IB.out _).mono ?_; rintro e wx ⟨rfl, hwx⟩; have hwx2 := hwx.symm; subst hwx2; clear hwx))
      go_ret
      exact ⟨by simp [hI], hb⟩
    · go_enter Tryz.func19, Tryz.ntmps19
      go_wp2_with (first | (go_at_call 32; refine cV.out.mono ?_; rintro e w' ⟨rfl, hb⟩) | (go_at_call 33; refine (IB.out _).mono ?_; rintro e wx ⟨rfl, hwx⟩; have hwx2 := hwx.symm; subst hwx2; clear hwx))
      go_ret
      exact ⟨by simp, hb⟩

theorem ixb_neg {l : List UInt8} : Lib.indexByte l 0 < 0 ↔ (0 : UInt8) ∉ l := by
  have hge := Lib.indexByte_ge l 0
  constructor
  · intro h hm
    obtain ⟨k, hk, e⟩ := List.mem_iff_getElem.1 hm
    exact Lib.indexByte_none (l := l) (c := 0) (by omega) k (by rw [List.getElem?_eq_getElem hk, e])
  · intro h
    by_cases h0 : Lib.indexByte l 0 < 0
    · exact h0
    · obtain ⟨o, ho⟩ : ∃ o : Nat, Lib.indexByte l 0 = o := ⟨(Lib.indexByte l 0).toNat, by omega⟩
      exact absurd (List.mem_of_getElem? (Lib.indexByte_some ho).1) h
theorem nmK_ref {s : ByteArray} (h1 : ¬ s.size = 0) (h2 : ¬ 32 < s.size) : nmK s = (decide (chk 3 0 s = 0) && decide ((0 : UInt8) ∉ s.data.toList)) := by
  rw [nmK_in h1 h2, chk_text]
  have e : decide (chkT s = 0) = Lib.validD s.data.toList := by
    cases hv : Lib.validD s.data.toList
    · rw [chkT_bad (by omega) hv]; rfl
    · rw [chkT_ok (by omega) hv]; rfl
  rw [e]
  congr 1
  exact decide_eq_decide.2 ixb_neg

set_option maxHeartbeats 4000000 in
set_option maxRecDepth 1000000 in
theorem refName_any (s : ByteArray) (w : World) (hs : s.size ≤ 9223372036854775807) :
    Calls Tryz.prog 24 #[.string s] w fun e w' => e = .returned (.bool (nmK s)) ∧ Below w.heap.size w w' := by
  have RC : Hid (∀ w, Calls Tryz.prog 43 #[.agg #[.int .i64 3, .int .i64 0, .string s]] w fun e w' => e = .returned (.int .i64 (chk 3 0 s)) ∧ Below w.heap.size w w') := fun w => refCheck_any 3 0 s w
  by_cases h0 : s.size = 0
  · rw [nmK_short h0]
    clear RC
    go_enter Tryz.func24, Tryz.ntmps24
    go_wp2
    go_ret
    exact ⟨rfl, Below.refl _ _⟩
  have h0' : ¬ (s.size : Int) < 1 := by omega
  by_cases h1 : 32 < s.size
  · rw [nmK_long h1]
    have h1' : (32 : Int) < (s.size : Int) := by omega
    clear RC
    go_enter Tryz.func24, Tryz.ntmps24
    go_wp2
    go_ret
    exact ⟨rfl, Below.refl _ _⟩
  have h1' : ¬ (32 : Int) < (s.size : Int) := by omega
  rw [nmK_ref h0 h1]
  generalize chk 3 0 s = V at *
  by_cases hV : V = 0
  · subst hV
    obtain ⟨B, hB⟩ : ∃ B, B = decide ((0 : UInt8) ∉ s.data.toList) := ⟨_, rfl⟩
    rw [← hB, decide_eq_true rfl, Bool.true_and]
    have HB := mkHid hB
    clear hB
    go_enter Tryz.func24, Tryz.ntmps24
    go_wp2_with (go_at_call 43; refine (RC.out _).mono ?_; rintro e w1 ⟨rfl, hb⟩)
    go_loopw [3] (fun sk wr => ∃ k : Nat, sk = .int .i64 k ∧ k ≤ s.size ∧ Hid (∀ j, j < k → s.data.toList[j]? ≠ some 0) ∧ Below w.heap.size w wr) (fun sk _ => s.size - (intOf sk).toNat)
    case atStart => exact ⟨0, rfl, Nat.zero_le _, fun j h => absurd h (Nat.not_lt_zero _), hb⟩
    case round =>
      obtain ⟨k, rfl, hk, hd, hb2⟩ := hrel
      by_cases hlt : k < s.size
      · have hg : s.data.toList[k]? = some s[k] := by
          rw [Array.getElem?_toList]; exact Array.getElem?_eq_getElem hlt
        by_cases hz : s[k] = 0
        · have hz2 : ((s[k].toNat : Int) == 0) = true := by rw [hz]; rfl
          have e : B = false := by
            rw [HB.out, decide_eq_false]
            intro h
            exact h (List.mem_of_getElem? (hg.trans (by rw [hz])))
          subst e
          clear hg hz
          go_wp2_with fail
          go_ret
          exact ⟨rfl, hb2⟩
        · have hz2 : ((s[k].toNat : Int) == 0) = false := by
            rw [beq_eq_false_iff_ne]
            intro h
            exact hz (UInt8.toNat_inj.1 (by have : s[k].toNat = 0 := by omega
                                            rw [this]; rfl))
          have hd2 : Hid (∀ j, j < k + 1 → s.data.toList[j]? ≠ some 0) := fun j hj => by
            by_cases e : j = k
            · rw [e, hg]; intro h; exact hz (Option.some.inj h)
            · exact hd.out j (by omega)
          clear hg hz hd
          go_wp2_with fail
          go_roundw
          case rel => exact ⟨k + 1, by go_num, hlt, hd2, hb2⟩
          case measure => simp [intOf]; omega
      · have e : B = true := by
          rw [HB.out, decide_eq_true]
          intro h
          obtain ⟨j, hj, e⟩ := List.mem_iff_getElem.1 h
          exact hd.out j (by have : s.data.toList.length = s.size := by simp
                             omega) (by rw [List.getElem?_eq_getElem hj, e])
        subst e
        go_wp2_with fail
        go_ret
        exact ⟨rfl, hb2⟩
  · have hV' : (V == 0) = false := by rw [beq_eq_false_iff_ne]; exact hV
    go_enter Tryz.func24, Tryz.ntmps24
    go_wp2_with (go_at_call 43; refine (RC.out _).mono ?_; rintro e w1 ⟨rfl, hb⟩)
    go_ret
    exact ⟨by simp [hV], hb⟩

set_option maxHeartbeats 4000000 in
set_option maxRecDepth 1000000 in
theorem hasMost_any (c : Cl) (w : World) :
    Calls Tryz.prog 36 #[clV c] w fun e w' => e = .returned (.bool (moK c)) ∧ Below w.heap.size w w' := by
  have hb1 : ∀ o, Below w.heap.size w (w.alloc o) := fun o => (Below.refl _ w).alloc (Nat.le_refl _) o
  unfold moK
  by_cases h3 : c.ty = 3
  · rw [if_pos h3]
    have b3 : (c.ty == 3) = true := by rw [beq_iff_eq]; exact h3
    clear h3
    by_cases h1 : 1 ≤ c.mo
    · rw [decide_eq_true h1, Bool.true_and]
      by_cases h2 : c.mo ≤ 4096
      · rw [decide_eq_true h2]
        go_enter Tryz.func36, Tryz.ntmps36
        go_wp2
        go_ret
        exact ⟨rfl, hb1 _⟩
      · rw [decide_eq_false h2]
        go_enter Tryz.func36, Tryz.ntmps36
        go_wp2
        go_ret
        exact ⟨rfl, hb1 _⟩
    · rw [decide_eq_false h1, Bool.false_and]
      go_enter Tryz.func36, Tryz.ntmps36
      go_wp2
      go_ret
      exact ⟨rfl, hb1 _⟩
  · rw [if_neg h3]
    have b3 : (c.ty == 3) = false := by rw [beq_eq_false_iff_ne]; exact h3
    go_enter Tryz.func36, Tryz.ntmps36
    go_wp2
    go_ret
    exact ⟨rfl, hb1 _⟩
/-- the closures: whether a column, a key has a name -/
theorem colName_any (a c : Cl) (b : Nat) (w : World) (hc : w.cell? ⟨b, 0, none⟩ = some (.string c.nm)) :
    Calls Tryz.prog 35 #[clV a, .pointer (some ⟨b, 0, none⟩)] w fun e w' => e = .returned (.bool (cnB c.nm a)) ∧ Below w.heap.size w w' := by
  have hb1 : ∀ o, Below w.heap.size w (w.alloc o) := fun o => (Below.refl _ w).alloc (Nat.le_refl _) o
  have hc2 : ∀ o, (w.alloc o).cell? ⟨b, 0, none⟩ = some (.string c.nm) := fun o => ((hb1 o).cell (p := ⟨b, 0, none⟩) (World.block_lt_of_cell? w _ hc)).trans hc
  have hc3 := hc2 (.cells #[.string a.nm, .int .i64 a.ty, .int .i64 a.mo, .bool a.nn] 52)
  go_enter Tryz.func35, Tryz.ntmps35
  go_wp2_with fail
  go_ret
  exact ⟨rfl, hb1 _⟩
theorem keyName_any (a : Ky) (Q : Option Addr) (C : Nat) (nm : ByteArray) (b : Nat) (w : World) (hc : w.cell? ⟨b, 0, none⟩ = some (.string nm)) :
    Calls Tryz.prog 38 #[kyV a Q C, .pointer (some ⟨b, 0, none⟩)] w fun e w' => e = .returned (.bool (knB nm a)) ∧ Below w.heap.size w w' := by
  have hb1 : ∀ o, Below w.heap.size w (w.alloc o) := fun o => (Below.refl _ w).alloc (Nat.le_refl _) o
  have hc2 : ∀ o, (w.alloc o).cell? ⟨b, 0, none⟩ = some (.string nm) := fun o => ((hb1 o).cell (p := ⟨b, 0, none⟩) (World.block_lt_of_cell? w _ hc)).trans hc
  have hc3 := hc2 (.cells #[.string a.nm, .slice Q a.cs.length C, .bool a.uq] 46)
  go_enter Tryz.func38, Tryz.ntmps38
  go_wp2_with fail
  go_ret
  exact ⟨rfl, hb1 _⟩
/-- whether a key's column may be NULL -/
theorem nullCol_any (l : List Cl) (P : Option Addr) (C : Nat) (x : Int) (b : Nat) (w : World) (hc : w.cell? ⟨b, 1, none⟩ = some (.slice P l.length C)) (hl : clIn w P l) (h0 : 0 ≤ x) (h1 : x < (l.length : Int)) :
    Calls Tryz.prog 40 #[.int .i64 x, .pointer (some ⟨b, 0, none⟩)] w fun e w' => e = .returned (.bool (nuB l x)) ∧ w' = w := by
  obtain ⟨k, rfl⟩ : ∃ k : Nat, x = k := ⟨x.toNat, by omega⟩
  have hk : k < l.length := by omega
  obtain ⟨c, hck⟩ : ∃ c, l[k]? = some c := ⟨l[k], List.getElem?_eq_getElem hk⟩
  have e : nuB l (k : Int) = !c.nn := by unfold nuB; rw [Int.toNat_natCast, hck]
  rw [e]
  rcases hl with rfl | ⟨g, o, rfl, hg, hcs⟩
  · simp at hck
  obtain ⟨_, _, _, c3⟩ := hcs k c hck
  clear hcs e hck
  go_enter Tryz.func40, Tryz.ntmps40
  go_wp2_with fail
  go_ret
  exact ⟨rfl, rfl⟩
end Go.Proofs.YtecebjfcokmmkaaGreatDoor
