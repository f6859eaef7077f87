/-
  The walks of firstPlace, put, behind.
-/
import Derived.Test.YtfcolecglobcdaaGreatDoorLxI
namespace Go.Proofs.YtfcolecglobcdaaGreatDoor
open Go.RowKit Go.Shelf

set_option maxHeartbeats 1000000 in
set_option maxRecDepth 1000000 in
theorem firstPlace_any (w : World) : Calls Tryz.prog 19 #[] w fun e w' => e = .returned (.agg #[.int .i64 0, .int .i64 1, .int .i64 1]) ∧ Below w.heap.size w w' := by
  go_enter Tryz.func19, Tryz.ntmps19
  go_wp2_with fail
  refine bodyPost_ret (v := .agg #[.int .i64 0, .int .i64 1, .int .i64 1]) (by simp [results, Tryz.results19, go_sem]) rfl ⟨rfl, ?_⟩
  exact (Below.refl _ w).alloc (Nat.le_refl _) _
set_option maxHeartbeats 1000000 in
set_option maxRecDepth 1000000 in
theorem put_any (p a b : Int) (k : Int) (t : ByteArray) (ty n : Int) (s : ByteArray) (w : World) :
    Calls Tryz.prog 60 #[.agg #[.int .i64 p, .int .i64 a, .int .i64 b], tkv k t ty n s 0 0 0] w fun e w' => e = .returned (tkv k t ty n s p a b) ∧ Below w.heap.size w w' := by
  unfold tkv
  go_enter Tryz.func60, Tryz.ntmps60
  go_wp2_with fail
  go_region
  go_wp2_with fail
  refine bodyPost_ret (v := .agg #[.int .i64 k, .string t, .int .i64 ty, .int .i64 n, .string s, .int .i64 p, .int .i64 a, .int .i64 b]) (by simp [results, Tryz.results60, go_sem]) rfl ⟨rfl, ?_⟩
  have h1 : Below w.heap.size w (w.alloc (.cells #[.int .i64 p, .int .i64 a, .int .i64 b] 44)) := (Below.refl _ w).alloc (Nat.le_refl _) _
  have h2 := h1.alloc h1.size (.cells #[.int .i64 k, .string t, .int .i64 ty, .int .i64 n, .string s, .int .i64 p, .int .i64 a, .int .i64 b] 37)
  have h3 := h2.alloc h2.size (.cells #[.int .i64 k, .string t, .int .i64 ty, .int .i64 n, .string s, .int .i64 p, .int .i64 a, .int .i64 b] 37)
  exact below_drewN h3 1
theorem R3b.blk {w w' : World} {g : Nat} {a0 a1 a2 : Value} (h : R3 w g a0 a1 a2) (hb : w'.heap[g]? = w.heap[g]?) : R3 w' g a0 a1 a2 := by
  obtain ⟨l, c0, c1, c2, f0, f1, f2⟩ := h
  refine ⟨?_, (show w'.cell? ⟨g, 0, none⟩ = w.cell? ⟨g, 0, none⟩ from World.cell?_of_block hb).trans c0, (show w'.cell? ⟨g, 1, none⟩ = w.cell? ⟨g, 1, none⟩ from World.cell?_of_block hb).trans c1, (show w'.cell? ⟨g, 2, none⟩ = w.cell? ⟨g, 2, none⟩ from World.cell?_of_block hb).trans c2, (show w'.frozen? ⟨g, 0, none⟩ = w.frozen? ⟨g, 0, none⟩ from World.frozen?_of_block hb).trans f0, (show w'.frozen? ⟨g, 1, none⟩ = w.frozen? ⟨g, 1, none⟩ from World.frozen?_of_block hb).trans f1, (show w'.frozen? ⟨g, 2, none⟩ = w.frozen? ⟨g, 2, none⟩ from World.frozen?_of_block hb).trans f2⟩
  rw [Array.getElem?_eq_getElem l] at hb
  exact (Array.getElem?_eq_some_iff.1 hb).1
theorem R3b.col {w : World} {g : Nat} {a0 a1 a2 : Value} (h : R3 w g a0 a1 a2) (v : Value) : R3 (w.setCell ⟨g, 2, none⟩ v) g a0 a1 v := by
  obtain ⟨l, c0, c1, c2, f0, f1, f2⟩ := h
  constructor
  all_goals first | (simp; exact l) | go_simp
theorem R3b.line {w : World} {g : Nat} {a0 a1 a2 : Value} (h : R3 w g a0 a1 a2) (v : Value) : R3 (w.setCell ⟨g, 1, none⟩ v) g a0 v a2 := by
  obtain ⟨l, c0, c1, c2, f0, f1, f2⟩ := h
  constructor
  all_goals first | (simp; exact l) | go_simp
theorem R3b.zero {w : World} {g : Nat} {a0 a1 a2 : Value} (h : R3 w g a0 a1 a2) (v : Value) : R3 (w.setCell ⟨g, 0, none⟩ v) g v a1 a2 := by
  obtain ⟨l, c0, c1, c2, f0, f1, f2⟩ := h
  constructor
  all_goals first | (simp; exact l) | go_simp
theorem behF_end (f a b : Nat) : behF f a b [] = (a, b) := by cases f <;> simp [behF]
theorem behF_nl {f a b : Nat} {l : List UInt8} (h : l ≠ []) (h1 : (Lib.decodeL l).1 = 10) : behF (f + 1) a b l = behF f (a + 1) 1 (l.drop (Lib.decodeL l).2) := by rw [behF, if_neg h, if_pos h1]
theorem behF_other {f a b : Nat} {l : List UInt8} (h : l ≠ []) (h1 : (Lib.decodeL l).1 ≠ 10) : behF (f + 1) a b l = behF f a (b + 1) (l.drop (Lib.decodeL l).2) := by rw [behF, if_neg h, if_neg h1]
set_option maxHeartbeats 1000000 in
set_option maxRecDepth 1000000 in
theorem behind_any (p a b : Nat) (l : List UInt8) (w : World) (hs : l.length ≤ 100000) (hp : p ≤ 100000) (ha : a ≤ 100001) (hb1 : 1 ≤ b) (hb : b ≤ 100001) :
    Calls Tryz.prog 20 #[.agg #[.int .i64 p, .int .i64 a, .int .i64 b], .string ⟨l.toArray⟩] w fun e w' => e = .returned (.agg #[.int .i64 ((p + l.length : Nat) : Int), .int .i64 ((beh a b l).1 : Nat), .int .i64 ((beh a b l).2 : Nat)]) ∧ Below w.heap.size w w' := by
  have hzl : (ByteArray.mk l.toArray).size = l.length := size_mk l
  go_enter Tryz.func20, Tryz.ntmps20
  go_wp2
  go_loopw [] (fun wr => ∃ (pos fuel A B : Nat), wr.heap[w.heap.size + 2]? = some (.stringIter ⟨l.toArray⟩ pos) ∧ R3 wr w.heap.size (.int .i64 p) (.int .i64 (A : Nat)) (.int .i64 (B : Nat)) ∧ R3 wr (w.heap.size + 1) (.int .i64 0) (.int .i64 0) (.int .i64 0) ∧ Below w.heap.size w wr ∧ Hid (behF fuel A B (l.drop pos) = beh a b l) ∧ l.length ≤ pos + fuel ∧ pos ≤ l.length ∧ A ≤ a + pos ∧ B ≤ b + pos ∧ 1 ≤ B)
    (fun wr => l.length - wr.iterPos (w.heap.size + 2))
  case atStart =>
    have hz1 : (w.alloc (.cells #[.int .i64 p, .int .i64 a, .int .i64 b] 44)).heap.size = w.heap.size + 1 := by simp
    refine ⟨0, l.length, a, b, ?_, ((R3.new w 44 (.int .i64 p) (.int .i64 a) (.int .i64 b)).alloc _).alloc _, ?_, ?_, rfl, by omega, by omega, by omega, by omega, hb1⟩
    · have h := World.iter_heap ((w.alloc (.cells #[.int .i64 p, .int .i64 a, .int .i64 b] 44)).alloc (.cells #[.int .i64 0, .int .i64 0, .int .i64 0] 44)) ⟨l.toArray⟩ 0
      simpa using h
    · have h := R3.new (w.alloc (.cells #[.int .i64 p, .int .i64 a, .int .i64 b] 44)) 44 (.int .i64 0) (.int .i64 0) (.int .i64 0)
      rw [hz1] at h
      exact h.alloc _
    · exact (((Below.refl _ w).alloc (Nat.le_refl _) _).alloc (by simp) _).alloc (by simp; omega) _
  case round =>
    obtain ⟨pos, fuel, A, B, hit, hR, hZ, hbw, hacc, hfu, hpl, hA, hB, hB1⟩ := hrel
    have hg0 : w.heap.size ≠ w.heap.size + 2 := by omega
    have hg1 : w.heap.size + 1 ≠ w.heap.size + 2 := by omega
    by_cases hp' : pos < l.length
    · have hp2 : pos < (ByteArray.mk l.toArray).size := by rw [hzl]; exact hp'
      have hnx : ∀ ty, (Instr.next (.pointer (some ⟨w.heap.size + 2, 0, none⟩)) true ty).run Tryz.prog wr = _ := fun ty => Lib.run_next_any_at wr (w.heap.size + 2) ⟨l.toArray⟩ pos ty hit hp2
      have hwd := width_pos ⟨l.toArray⟩ pos hp2
      have hne : l.drop pos ≠ [] := by intro e; have := congrArg List.length e; simp at this; omega
      have hwl := Lib.decodeL_le (l.drop pos) hne
      have hdd := dec_drop l pos
      rw [hdd, List.length_drop] at hwl
      have hit2 := Lib.iterAt_heap wr (w.heap.size + 2) ⟨l.toArray⟩ pos (pos + (Utf8.decode ⟨l.toArray⟩ pos).2) hit
      have hR2 := R3b.blk hR (Lib.iterAt_other wr (w.heap.size + 2) w.heap.size ⟨l.toArray⟩ (pos + (Utf8.decode ⟨l.toArray⟩ pos).2) hg0)
      have hZ2 := R3b.blk hZ (Lib.iterAt_other wr (w.heap.size + 2) (w.heap.size + 1) ⟨l.toArray⟩ (pos + (Utf8.decode ⟨l.toArray⟩ pos).2) hg1)
      have hbw2 := Lib.below_iterAt hbw (k := w.heap.size + 2) (by omega) ⟨l.toArray⟩ (pos + (Utf8.decode ⟨l.toArray⟩ pos).2)
      obtain ⟨f, rfl⟩ : ∃ f, fuel = f + 1 := ⟨fuel - 1, by omega⟩
      have hst := hacc.out
      obtain ⟨R, hRr⟩ : ∃ R, (Utf8.decode ⟨l.toArray⟩ pos).1 = R := ⟨_, rfl⟩
      obtain ⟨K, hK⟩ : ∃ K, (Utf8.decode ⟨l.toArray⟩ pos).2 = K := ⟨_, rfl⟩
      have hm : l.length - (pos + K) < l.length - wr.iterPos (w.heap.size + 2) := by
        simp only [World.iterPos, hit]
        rw [hK] at hwd hwl
        omega
      rw [hK] at hwd hwl hit2 hR2 hZ2 hbw2
      simp only [hRr, hK] at hnx
      clear hit hR hZ hbw hacc
      generalize wr.iterAt (w.heap.size + 2) ⟨l.toArray⟩ (pos + K) = wi at *
      obtain ⟨hlt, c0, c1, c2, f0, f1, f2⟩ := id hR2
      have hBi : (B : Int) ≤ 300000 := by omega
      have hAi : (A : Int) ≤ 300000 := by omega
      by_cases h1 : R = 10
      · have h1b : ((R : Int) == 10) = true := by rw [beq_iff_eq]; omega
        have HC : Hid (behF f (A + 1) 1 (l.drop (pos + K)) = beh a b l) := by
          rw [behF_nl hne (by rw [hdd, hRr]; exact h1), hdd, hK, List.drop_drop] at hst
          exact hst
        have hR3 := ((hR2 |> (R3b.col · (.int .i64 ((B : Int) + 1)))) |> (R3b.line · (.int .i64 ((A : Int) + 1)))) |> (R3b.col · (.int .i64 1))
        have hZ3 := R3b.blk hZ2 (w' := ((wi.setCell ⟨w.heap.size, 2, none⟩ (.int .i64 ((B : Int) + 1))).setCell ⟨w.heap.size, 1, none⟩ (.int .i64 ((A : Int) + 1))).setCell ⟨w.heap.size, 2, none⟩ (.int .i64 1)) (by rw [heap_setCell_other _ _ _ _ (by simp), heap_setCell_other _ _ _ _ (by simp), heap_setCell_other _ _ _ _ (by simp)])
        have hit3 : (((wi.setCell ⟨w.heap.size, 2, none⟩ (.int .i64 ((B : Int) + 1))).setCell ⟨w.heap.size, 1, none⟩ (.int .i64 ((A : Int) + 1))).setCell ⟨w.heap.size, 2, none⟩ (.int .i64 1)).heap[w.heap.size + 2]? = some (.stringIter ⟨l.toArray⟩ (pos + K)) := by rw [heap_setCell_other _ _ _ _ (by simp), heap_setCell_other _ _ _ _ (by simp), heap_setCell_other _ _ _ _ (by simp)]; exact hit2
        have hbw3 := ((hbw2.setCell (p := ⟨w.heap.size, 2, none⟩) (Nat.le_refl _) (.int .i64 ((B : Int) + 1))).setCell (p := ⟨w.heap.size, 1, none⟩) (Nat.le_refl _) (.int .i64 ((A : Int) + 1))).setCell (p := ⟨w.heap.size, 2, none⟩) (Nat.le_refl _) (.int .i64 1)
        clear hst hdd hne h1 hRr hK hR2 hZ2
        go_wp2_with fail
        go_roundw
        case rel => exact ⟨pos + K, f, A + 1, 1, hit3, by simpa using hR3, hZ3, hbw3, HC, by omega, by omega, by omega, by omega, Nat.le_refl _⟩
        case measure =>
          simp only [World.iterPos, hit3]
          exact hm
      · have h1b : ((R : Int) == 10) = false := by rw [beq_eq_false_iff_ne]; omega
        have HC : Hid (behF f A (B + 1) (l.drop (pos + K)) = beh a b l) := by
          rw [behF_other hne (by rw [hdd, hRr]; exact h1), hdd, hK, List.drop_drop] at hst
          exact hst
        have hR3 := R3b.col hR2 (.int .i64 ((B : Int) + 1))
        have hZ3 := R3b.blk hZ2 (w' := wi.setCell ⟨w.heap.size, 2, none⟩ (.int .i64 ((B : Int) + 1))) (by rw [heap_setCell_other _ _ _ _ (by simp)])
        have hit3 : (wi.setCell ⟨w.heap.size, 2, none⟩ (.int .i64 ((B : Int) + 1))).heap[w.heap.size + 2]? = some (.stringIter ⟨l.toArray⟩ (pos + K)) := by rw [heap_setCell_other _ _ _ _ (by simp)]; exact hit2
        have hbw3 := hbw2.setCell (p := ⟨w.heap.size, 2, none⟩) (Nat.le_refl _) (.int .i64 ((B : Int) + 1))
        clear hst hdd hne h1 hRr hK hR2 hZ2
        go_wp2_with fail
        go_roundw
        case rel => exact ⟨pos + K, f, A, B + 1, hit3, by simpa using hR3, hZ3, hbw3, HC, by omega, by omega, by omega, by omega, by omega⟩
        case measure =>
          simp only [World.iterPos, hit3]
          exact hm
    · have hp2 : ¬ pos < (ByteArray.mk l.toArray).size := by rw [hzl]; exact hp'
      have hnx : ∀ ty, (Instr.next (.pointer (some ⟨w.heap.size + 2, 0, none⟩)) true ty).run Tryz.prog wr = _ := fun ty => Lib.run_next_end_at wr (w.heap.size + 2) ⟨l.toArray⟩ pos ty hit hp2
      have hE := hacc.out
      rw [List.drop_eq_nil_of_le (by omega), behF_end] at hE
      have H : Hid (beh a b l = (A, B)) := hE.symm
      clear hE hacc hit
      obtain ⟨hlt, c0, c1, c2, f0, f1, f2⟩ := id hR
      obtain ⟨hlt', d0, d1, d2, g0, g1, g2⟩ := id hZ
      have hpi : (p : Int) ≤ 100000 := by omega
      have hli : (l.length : Int) ≤ 100000 := by omega
      go_wp2_with fail
      have hZ2 := R3b.blk hZ (w' := wr.setCell ⟨w.heap.size, 0, none⟩ (.int .i64 ((p : Int) + (l.length : Int)))) (by rw [heap_setCell_other _ _ _ _ (by simp)])
      obtain ⟨_, x0, x1, x2, _, _, _⟩ := hZ2.put (.int .i64 ((p : Int) + (l.length : Int))) (.int .i64 (A : Nat)) (.int .i64 (B : Nat))
      unfold R3.set at x0 x1 x2
      refine bodyPost_ret (v := .agg #[.int .i64 ((p : Int) + (l.length : Int)), .int .i64 (A : Nat), .int .i64 (B : Nat)]) (by simp [results, Tryz.results20, go_sem, x0, x1, x2]) rfl ⟨by rw [H.out]; simp, ?_⟩
      exact R3.set_below (hbw.setCell (p := ⟨w.heap.size, 0, none⟩) (Nat.le_refl _) _) (by omega) _ _ _
end Go.Proofs.YtfcolecglobcdaaGreatDoor
