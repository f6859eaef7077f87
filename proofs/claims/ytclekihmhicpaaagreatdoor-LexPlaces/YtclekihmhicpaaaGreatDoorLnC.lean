/-
  The walks of lex's beginning and Where, and of the reference's first and Where.
-/
import Derived.Test.YtclekihmhicpaaaGreatDoorLnB
namespace Go.Proofs.YtclekihmhicpaaaGreatDoor
open Go.RowKit Go.Shelf

set_option maxHeartbeats 2000000 in
set_option maxRecDepth 1000000 in
theorem behind_big (p a b : Nat) (l : List UInt8) (w : World) (hs : l.length ≤ 2000000) (hp : p ≤ 2000000) (ha : a ≤ 2000001) (hb1 : 1 ≤ b) (hb : b ≤ 2000001) :
    Calls Tryz.prog 20 #[.agg #[.int .i64 p, .int .i64 a, .int .i64 b], .string ⟨l.toArray⟩] w fun e w' => e = .returned (.agg #[.int .i64 ((p + l.length : Nat) : Int), .int .i64 ((beh a b l).1 : Nat), .int .i64 ((beh a b l).2 : Nat)]) ∧ Below w.heap.size w w' := by
  have hzl : (ByteArray.mk l.toArray).size = l.length := size_mk l
  go_enter Tryz.func20, Tryz.ntmps20
  go_wp2
  go_loopw [] (fun wr => ∃ (pos fuel A B : Nat), wr.heap[w.heap.size + 2]? = some (.stringIter ⟨l.toArray⟩ pos) ∧ R3 wr w.heap.size (.int .i64 p) (.int .i64 (A : Nat)) (.int .i64 (B : Nat)) ∧ R3 wr (w.heap.size + 1) (.int .i64 0) (.int .i64 0) (.int .i64 0) ∧ Below w.heap.size w wr ∧ Hid (behF fuel A B (l.drop pos) = beh a b l) ∧ l.length ≤ pos + fuel ∧ pos ≤ l.length ∧ A ≤ a + pos ∧ B ≤ b + pos ∧ 1 ≤ B)
    (fun wr => l.length - wr.iterPos (w.heap.size + 2))
  case atStart =>
    have hz1 : (w.alloc (.cells #[.int .i64 p, .int .i64 a, .int .i64 b] 44)).heap.size = w.heap.size + 1 := by simp
    refine ⟨0, l.length, a, b, ?_, ((R3.new w 44 (.int .i64 p) (.int .i64 a) (.int .i64 b)).alloc _).alloc _, ?_, ?_, rfl, by omega, by omega, by omega, by omega, hb1⟩
    · have h := World.iter_heap ((w.alloc (.cells #[.int .i64 p, .int .i64 a, .int .i64 b] 44)).alloc (.cells #[.int .i64 0, .int .i64 0, .int .i64 0] 44)) ⟨l.toArray⟩ 0
      simpa using h
    · have h := R3.new (w.alloc (.cells #[.int .i64 p, .int .i64 a, .int .i64 b] 44)) 44 (.int .i64 0) (.int .i64 0) (.int .i64 0)
      rw [hz1] at h
      exact h.alloc _
    · exact (((Below.refl _ w).alloc (Nat.le_refl _) _).alloc (by simp) _).alloc (by simp; omega) _
  case round =>
    obtain ⟨pos, fuel, A, B, hit, hR, hZ, hbw, hacc, hfu, hpl, hA, hB, hB1⟩ := hrel
    have hg0 : w.heap.size ≠ w.heap.size + 2 := by omega
    have hg1 : w.heap.size + 1 ≠ w.heap.size + 2 := by omega
    by_cases hp' : pos < l.length
    · have hp2 : pos < (ByteArray.mk l.toArray).size := by rw [hzl]; exact hp'
      have hnx : ∀ ty, (Instr.next (.pointer (some ⟨w.heap.size + 2, 0, none⟩)) true ty).run Tryz.prog wr = _ := fun ty => Lib.run_next_any_at wr (w.heap.size + 2) ⟨l.toArray⟩ pos ty hit hp2
      have hwd := width_pos ⟨l.toArray⟩ pos hp2
      have hne : l.drop pos ≠ [] := by intro e; have := congrArg List.length e; simp at this; omega
      have hwl := Lib.decodeL_le (l.drop pos) hne
      have hdd := dec_drop l pos
      rw [hdd, List.length_drop] at hwl
      have hit2 := Lib.iterAt_heap wr (w.heap.size + 2) ⟨l.toArray⟩ pos (pos + (Utf8.decode ⟨l.toArray⟩ pos).2) hit
      have hR2 := R3b.blk hR (Lib.iterAt_other wr (w.heap.size + 2) w.heap.size ⟨l.toArray⟩ (pos + (Utf8.decode ⟨l.toArray⟩ pos).2) hg0)
      have hZ2 := R3b.blk hZ (Lib.iterAt_other wr (w.heap.size + 2) (w.heap.size + 1) ⟨l.toArray⟩ (pos + (Utf8.decode ⟨l.toArray⟩ pos).2) hg1)
      have hbw2 := Lib.below_iterAt hbw (k := w.heap.size + 2) (by omega) ⟨l.toArray⟩ (pos + (Utf8.decode ⟨l.toArray⟩ pos).2)
      obtain ⟨f, rfl⟩ : ∃ f, fuel = f + 1 := ⟨fuel - 1, by omega⟩
      have hst := hacc.out
      obtain ⟨R, hRr⟩ : ∃ R, (Utf8.decode ⟨l.toArray⟩ pos).1 = R := ⟨_, rfl⟩
      obtain ⟨K, hK⟩ : ∃ K, (Utf8.decode ⟨l.toArray⟩ pos).2 = K := ⟨_, rfl⟩
      have hm : l.length - (pos + K) < l.length - wr.iterPos (w.heap.size + 2) := by
        simp only [World.iterPos, hit]
        rw [hK] at hwd hwl
        omega
      rw [hK] at hwd hwl hit2 hR2 hZ2 hbw2
      simp only [hRr, hK] at hnx
      clear hit hR hZ hbw hacc
      generalize wr.iterAt (w.heap.size + 2) ⟨l.toArray⟩ (pos + K) = wi at *
      obtain ⟨hlt, c0, c1, c2, f0, f1, f2⟩ := id hR2
      have hBi : (B : Int) ≤ 9000000 := by omega
      have hAi : (A : Int) ≤ 9000000 := by omega
      by_cases h1 : R = 10
      · have h1b : ((R : Int) == 10) = true := by rw [beq_iff_eq]; omega
        have HC : Hid (behF f (A + 1) 1 (l.drop (pos + K)) = beh a b l) := by
          rw [behF_nl hne (by rw [hdd, hRr]; exact h1), hdd, hK, List.drop_drop] at hst
          exact hst
        have hR3 := ((hR2 |> (R3b.col · (.int .i64 ((B : Int) + 1)))) |> (R3b.line · (.int .i64 ((A : Int) + 1)))) |> (R3b.col · (.int .i64 1))
        have hZ3 := R3b.blk hZ2 (w' := ((wi.setCell ⟨w.heap.size, 2, none⟩ (.int .i64 ((B : Int) + 1))).setCell ⟨w.heap.size, 1, none⟩ (.int .i64 ((A : Int) + 1))).setCell ⟨w.heap.size, 2, none⟩ (.int .i64 1)) (by rw [heap_setCell_other _ _ _ _ (by simp), heap_setCell_other _ _ _ _ (by simp), heap_setCell_other _ _ _ _ (by simp)])
        have hit3 : (((wi.setCell ⟨w.heap.size, 2, none⟩ (.int .i64 ((B : Int) + 1))).setCell ⟨w.heap.size, 1, none⟩ (.int .i64 ((A : Int) + 1))).setCell ⟨w.heap.size, 2, none⟩ (.int .i64 1)).heap[w.heap.size + 2]? = some (.stringIter ⟨l.toArray⟩ (pos + K)) := by rw [heap_setCell_other _ _ _ _ (by simp), heap_setCell_other _ _ _ _ (by simp), heap_setCell_other _ _ _ _ (by simp)]; exact hit2
        have hbw3 := ((hbw2.setCell (p := ⟨w.heap.size, 2, none⟩) (Nat.le_refl _) (.int .i64 ((B : Int) + 1))).setCell (p := ⟨w.heap.size, 1, none⟩) (Nat.le_refl _) (.int .i64 ((A : Int) + 1))).setCell (p := ⟨w.heap.size, 2, none⟩) (Nat.le_refl _) (.int .i64 1)
        clear hst hdd hne h1 hRr hK hR2 hZ2
        go_wp2_with fail
        go_roundw
        case rel => exact ⟨pos + K, f, A + 1, 1, hit3, by simpa using hR3, hZ3, hbw3, HC, by omega, by omega, by omega, by omega, Nat.le_refl _⟩
        case measure =>
          simp only [World.iterPos, hit3]
          exact hm
      · have h1b : ((R : Int) == 10) = false := by rw [beq_eq_false_iff_ne]; omega
        have HC : Hid (behF f A (B + 1) (l.drop (pos + K)) = beh a b l) := by
          rw [behF_other hne (by rw [hdd, hRr]; exact h1), hdd, hK, List.drop_drop] at hst
          exact hst
        have hR3 := R3b.col hR2 (.int .i64 ((B : Int) + 1))
        have hZ3 := R3b.blk hZ2 (w' := wi.setCell ⟨w.heap.size, 2, none⟩ (.int .i64 ((B : Int) + 1))) (by rw [heap_setCell_other _ _ _ _ (by simp)])
        have hit3 : (wi.setCell ⟨w.heap.size, 2, none⟩ (.int .i64 ((B : Int) + 1))).heap[w.heap.size + 2]? = some (.stringIter ⟨l.toArray⟩ (pos + K)) := by rw [heap_setCell_other _ _ _ _ (by simp)]; exact hit2
        have hbw3 := hbw2.setCell (p := ⟨w.heap.size, 2, none⟩) (Nat.le_refl _) (.int .i64 ((B : Int) + 1))
        clear hst hdd hne h1 hRr hK hR2 hZ2
        go_wp2_with fail
        go_roundw
        case rel => exact ⟨pos + K, f, A, B + 1, hit3, by simpa using hR3, hZ3, hbw3, HC, by omega, by omega, by omega, by omega, by omega⟩
        case measure =>
          simp only [World.iterPos, hit3]
          exact hm
    · have hp2 : ¬ pos < (ByteArray.mk l.toArray).size := by rw [hzl]; exact hp'
      have hnx : ∀ ty, (Instr.next (.pointer (some ⟨w.heap.size + 2, 0, none⟩)) true ty).run Tryz.prog wr = _ := fun ty => Lib.run_next_end_at wr (w.heap.size + 2) ⟨l.toArray⟩ pos ty hit hp2
      have hE := hacc.out
      rw [List.drop_eq_nil_of_le (by omega), behF_end] at hE
      have H : Hid (beh a b l = (A, B)) := hE.symm
      clear hE hacc hit
      obtain ⟨hlt, c0, c1, c2, f0, f1, f2⟩ := id hR
      obtain ⟨hlt', d0, d1, d2, g0, g1, g2⟩ := id hZ
      have hpi : (p : Int) ≤ 2000000 := by omega
      have hli : (l.length : Int) ≤ 2000000 := by omega
      go_wp2_with fail
      have hZ2 := R3b.blk hZ (w' := wr.setCell ⟨w.heap.size, 0, none⟩ (.int .i64 ((p : Int) + (l.length : Int)))) (by rw [heap_setCell_other _ _ _ _ (by simp)])
      obtain ⟨_, x0, x1, x2, _, _, _⟩ := hZ2.put (.int .i64 ((p : Int) + (l.length : Int))) (.int .i64 (A : Nat)) (.int .i64 (B : Nat))
      unfold R3.set at x0 x1 x2
      refine bodyPost_ret (v := .agg #[.int .i64 ((p : Int) + (l.length : Int)), .int .i64 (A : Nat), .int .i64 (B : Nat)]) (by simp [results, Tryz.results20, go_sem, x0, x1, x2]) rfl ⟨by rw [H.out]; simp, ?_⟩
      exact R3.set_below (hbw.setCell (p := ⟨w.heap.size, 0, none⟩) (Nat.le_refl _) _) (by omega) _ _ _
/-- the character with which a text begins, and its bytes -/
def fst1 (l : List UInt8) : Int := if l = [] ∨ badHere l = true then 0 else ((Lib.decodeL l).1 : Int)
def fst2 (l : List UInt8) : Nat := if l = [] ∨ badHere l = true then 0 else (Lib.decodeL l).2
theorem pre_take {l : List UInt8} (_h : 3 ≤ l.length) : (l.take 3 != [239, 191, 189]) = !([239, 191, 189] : List UInt8).isPrefixOf l := by
  rw [pre_repl]; rfl
theorem pre_short {l : List UInt8} (h : l.length < 3) : ([239, 191, 189] : List UInt8).isPrefixOf l = false := by
  cases hp : ([239, 191, 189] : List UInt8).isPrefixOf l with
  | false => rfl
  | true =>
    have := (List.isPrefixOf_iff_prefix.1 hp).length_le
    simp at this; omega
set_option maxHeartbeats 2000000 in
set_option maxRecDepth 1000000 in
theorem first_any (l : List UInt8) (w : World) (hs : l.length ≤ 2000000) :
    Calls Tryz.prog 22 #[.string ⟨l.toArray⟩] w fun e w' => e = .returned (.tuple #[.int .i32 (fst1 l), .int .i64 (fst2 l : Nat)]) ∧ Below w.heap.size w w' := by
  have BY : Hid (∀ (c : Nat) w, Calls Tryz.prog 40 #[.int .i32 (c : Int)] w fun e w' => e = .returned (.int .i64 (byt c : Nat)) ∧ w' = w) := bytes_any
  have hzl : (ByteArray.mk l.toArray).size = l.length := size_mk l
  have hex : (ByteArray.mk l.toArray).extract 0 3 = ByteArray.mk (l.take 3).toArray := by rw [extract_mk, List.drop_zero]
  have ptk := @pre_take l
  have psh := @pre_short l
  obtain ⟨T3, hT3⟩ : ∃ T3, T3 = l.take 3 := ⟨_, rfl⟩
  rw [← hT3] at hex ptk
  clear hT3
  go_enter Tryz.func22, Tryz.ntmps22
  go_wp2
  go_loopw [] (fun wr => wr.heap[w.heap.size]? = some (.stringIter ⟨l.toArray⟩ 0) ∧ Below w.heap.size w wr) (fun _ => 0)
  case atStart =>
    refine ⟨?_, ?_⟩
    · have := World.iter_heap w ⟨l.toArray⟩ 0
      simpa using this
    · exact (Below.refl _ w).alloc (Nat.le_refl _) _
  case round =>
    obtain ⟨hit, hbw⟩ := hrel
    by_cases hp : 0 < l.length
    · have hp2 : 0 < (ByteArray.mk l.toArray).size := by rw [hzl]; exact hp
      have hnx : ∀ ty, (Instr.next (.pointer (some ⟨w.heap.size, 0, none⟩)) true ty).run Tryz.prog wr = _ := fun ty => Lib.run_next_any_at wr w.heap.size ⟨l.toArray⟩ 0 ty hit hp2
      have hbw2 := Lib.below_iterAt hbw (k := w.heap.size) (Nat.le_refl _) ⟨l.toArray⟩ (0 + (Utf8.decode ⟨l.toArray⟩ 0).2)
      have hdd := dec_drop l 0
      rw [List.drop_zero] at hdd
      have hne : l ≠ [] := by rintro rfl; simp at hp
      have hbh : badHere l = (decide ((Lib.decodeL l).1 = 0) || (decide ((Lib.decodeL l).1 = 65533) && !([239, 191, 189] : List UInt8).isPrefixOf l)) := rfl
      have hbyt : badHere l = false → byt (Lib.decodeL l).1 = (Lib.decodeL l).2 := fun h => byt_width h
      have e1 : fst1 l = if badHere l = true then 0 else ((Lib.decodeL l).1 : Int) := by unfold fst1; simp [hne]
      have e2 : fst2 l = if badHere l = true then 0 else (Lib.decodeL l).2 := by unfold fst2; simp [hne]
      rw [← hdd] at hnx hbw2
      generalize badHere l = BH at *
      generalize ([239, 191, 189] : List UInt8).isPrefixOf l = PF at *
      obtain ⟨R, hR⟩ : ∃ R, (Lib.decodeL l).1 = R := ⟨_, rfl⟩
      obtain ⟨K, hK⟩ : ∃ K, (Lib.decodeL l).2 = K := ⟨_, rfl⟩
      simp only [hR, hK] at hnx hbw2 hbh hbyt e1 e2
      rw [Nat.zero_add] at hbw2
      clear hdd hit hbw hne hR hK
      by_cases h1 : R = 65533
      · have b1 : ((R : Int) == 65533) = true := by rw [beq_iff_eq]; omega
        have b0 : ((R : Int) == 0) = false := by rw [beq_eq_false_iff_ne]; omega
        by_cases h3 : l.length < 3
        · have b3 : (l.length : Int) < 3 := by omega
          have hB : BH = true := by rw [hbh, psh h3, decide_eq_true h1]; simp
          have E1 : Hid (fst1 l = 0) := by show _ = _; rw [e1, hB]; rfl
          have E2 : Hid (fst2 l = 0) := by show _ = _; rw [e2, hB]; rfl
          clear hbh hbyt ptk psh h1 h3 BY e1 e2
          go_wp2_with fail
          rw [E1.out, E2.out]
          go_ret2
          exact ⟨rfl, hbw2⟩
        · have b3 : ¬ (l.length : Int) < 3 := by omega
          have pt := ptk (by omega)
          have b4 : (3 : Int) ≤ (l.length : Int) := by omega
          cases PF with
          | true =>
            have hB : BH = false := by rw [hbh, decide_eq_true h1, decide_eq_false (by omega)]; rfl
            have pt' : (T3 == ([239, 191, 189] : List UInt8)) = true := by simpa [bne] using pt
            have hk := hbyt hB
            have E1 : Hid (fst1 l = (R : Int)) := by show _ = _; rw [e1, hB]; rfl
            have E2 : Hid (fst2 l = K) := by show _ = _; rw [e2, hB]; rfl
            have BY1 : Hid (∀ w, Calls Tryz.prog 40 #[.int .i32 (R : Int)] w fun e w' => e = .returned (.int .i64 (K : Nat)) ∧ w' = w) := fun w => hk ▸ BY.out R w
            clear hbh hbyt ptk psh h1 h3 BY pt hk e1 e2
            go_wp2_with fail
            refine (BY1.out _).mono ?_
            rintro e w1 ⟨rfl, hwx⟩
            have hwy := hwx.symm
            subst hwy
            clear BY1 hwx
            go_wp2_with fail
            rw [E1.out, E2.out]
            go_ret2
            exact ⟨rfl, hbw2⟩
          | false =>
            have hB : BH = true := by rw [hbh, decide_eq_true h1]; simp
            have pt' : (T3 == ([239, 191, 189] : List UInt8)) = false := by simpa [bne] using pt
            have E1 : Hid (fst1 l = 0) := by show _ = _; rw [e1, hB]; rfl
            have E2 : Hid (fst2 l = 0) := by show _ = _; rw [e2, hB]; rfl
            clear hbh hbyt ptk psh h1 h3 BY pt e1 e2
            go_wp2_with fail
            rw [E1.out, E2.out]
            go_ret2
            exact ⟨rfl, hbw2⟩
      · have b1 : ((R : Int) == 65533) = false := by rw [beq_eq_false_iff_ne]; omega
        by_cases h0 : R = 0
        · have b0 : ((R : Int) == 0) = true := by rw [beq_iff_eq]; omega
          have hB : BH = true := by rw [hbh, decide_eq_true h0]; rfl
          have E1 : Hid (fst1 l = 0) := by show _ = _; rw [e1, hB]; rfl
          have E2 : Hid (fst2 l = 0) := by show _ = _; rw [e2, hB]; rfl
          clear hbh hbyt ptk psh h1 h0 BY e1 e2
          go_wp2_with fail
          rw [E1.out, E2.out]
          go_ret2
          exact ⟨rfl, hbw2⟩
        · have b0 : ((R : Int) == 0) = false := by rw [beq_eq_false_iff_ne]; omega
          have hB : BH = false := by rw [hbh, decide_eq_false h0, decide_eq_false h1]; rfl
          have hk := hbyt hB
          have E1 : Hid (fst1 l = (R : Int)) := by show _ = _; rw [e1, hB]; rfl
          have E2 : Hid (fst2 l = K) := by show _ = _; rw [e2, hB]; rfl
          have BY1 : Hid (∀ w, Calls Tryz.prog 40 #[.int .i32 (R : Int)] w fun e w' => e = .returned (.int .i64 (K : Nat)) ∧ w' = w) := fun w => hk ▸ BY.out R w
          clear hbh hbyt ptk psh h1 h0 BY hk e1 e2
          go_wp2_with fail
          refine (BY1.out _).mono ?_
          rintro e w1 ⟨rfl, hwx⟩
          have hwy := hwx.symm
          subst hwy
          clear BY1 hwx
          go_wp2_with fail
          rw [E1.out, E2.out]
          go_ret2
          exact ⟨rfl, hbw2⟩
    · have hp2 : ¬ 0 < (ByteArray.mk l.toArray).size := by rw [hzl]; exact hp
      have hnx : ∀ ty, (Instr.next (.pointer (some ⟨w.heap.size, 0, none⟩)) true ty).run Tryz.prog wr = _ := fun ty => Lib.run_next_end_at wr w.heap.size ⟨l.toArray⟩ 0 ty hit hp2
      have hl : l = [] := List.eq_nil_of_length_eq_zero (by omega)
      have e1 : fst1 l = 0 := by unfold fst1; simp [hl]
      have e2 : fst2 l = 0 := by unfold fst2; simp [hl]
      have E1 : Hid (fst1 l = 0) := e1
      have E2 : Hid (fst2 l = 0) := e2
      clear BY ptk psh hl e1 e2
      go_wp2_with fail
      rw [E1.out, E2.out]
      go_ret2
      exact ⟨rfl, hbw⟩
end Go.Proofs.YtclekihmhicpaaaGreatDoor
