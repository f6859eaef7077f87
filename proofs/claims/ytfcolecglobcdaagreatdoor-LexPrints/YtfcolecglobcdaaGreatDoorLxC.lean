/-
  The walks of lex's fractionSize, withoutNoughts, quoteSize, badCharacter.
-/
import Derived.Test.YtfcolecglobcdaaGreatDoorLxB
namespace Go.Proofs.YtfcolecglobcdaaGreatDoor
open Go.RowKit Go.Shelf

theorem hasPre (l p : List UInt8) : Lib.hasPrefix (ByteArray.mk l.toArray).data.toList (ByteArray.mk p.toArray).data.toList = p.isPrefixOf l := by
  show Lib.hasPrefix l.toArray.toList p.toArray.toList = _
  rw [List.toList_toArray, List.toList_toArray]; rfl
theorem HasPre (l p : List UInt8) (b : Bool) (w : World) (h : p.isPrefixOf l = b) :
    Calls Tryz.prog 44 #[.string ⟨l.toArray⟩, .string ⟨p.toArray⟩] w fun e w' => e = .returned (.bool b) ∧ w' = w := by
  have h1 := HasPrefix_any ⟨l.toArray⟩ ⟨p.toArray⟩ w
  rw [hasPre, h] at h1
  exact h1

set_option maxHeartbeats 2000000 in
set_option maxRecDepth 1000000 in
theorem fractionSize_any (l : List UInt8) (w : World) (hs : l.length ≤ 100000) :
    Calls Tryz.prog 106 #[.string ⟨l.toArray⟩] w fun e w' => e = .returned (.int .i64 (fsz l : Nat)) ∧ Below w.heap.size w w' := by
  have hc := fun w => CutPrefix_any ⟨l.toArray⟩ ⟨#[46]⟩ w
  have e1 : Lib.trimPrefix (ByteArray.mk l.toArray).data.toList (ByteArray.mk #[46]).data.toList = if l.head? == some 46 then l.drop 1 else l := by
    show Lib.trimPrefix l.toArray.toList [46] = _
    rw [List.toList_toArray, trimP]
  have e2 : Lib.hasPrefix (ByteArray.mk l.toArray).data.toList (ByteArray.mk #[46]).data.toList = (l.head? == some 46) := by
    show Lib.hasPrefix l.toArray.toList [46] = _
    rw [List.toList_toArray, hasP]
  by_cases h0 : l.head? = some 46
  · obtain ⟨r, rfl⟩ : ∃ r, l = 46 :: r := by
      rcases l with _ | ⟨x, r⟩
      · simp at h0
      · simp at h0; exact ⟨r, by rw [h0]⟩
    have CP : Hid (∀ w, Calls Tryz.prog 128 #[.string ⟨(46 :: r : List UInt8).toArray⟩, .string ⟨#[46]⟩] w fun e w' => e = .returned (.tuple #[.string ⟨r.toArray⟩, .bool true]) ∧ w' = w) := fun w => by
      have h := hc w
      rw [e1, e2] at h
      exact h
    have DS : Hid (∀ w, Calls Tryz.prog 105 #[.string ⟨r.toArray⟩] w fun e w' => e = .returned (.int .i64 (dsz r : Nat)) ∧ Below w.heap.size w w') := fun w => digitsSize_any r w (by simp at hs; omega)
    have hE : fsz (46 :: r) = dsz r := by rw [fsz, if_pos rfl]
    rw [hE]
    generalize (46 :: r : List UInt8) = L at *
    clear hc e1 e2 h0 hE hs
    go_enter Tryz.func106, Tryz.ntmps106
    go_wp2_with fail
    refine (CP.out _).mono ?_
    rintro e w1 ⟨rfl, hwx⟩
    have hwy := hwx.symm
    subst hwy
    clear CP
    go_wp2_with fail
    refine (DS.out _).mono ?_
    rintro e w1 ⟨rfl, hb⟩
    clear DS
    go_wp2_with fail
    go_ret
    exact ⟨rfl, hb⟩
  · have h1 : (l.head? == some 46) = false := by rw [beq_eq_false_iff_ne]; exact h0
    have CP : Hid (∀ w, Calls Tryz.prog 128 #[.string ⟨l.toArray⟩, .string ⟨#[46]⟩] w fun e w' => e = .returned (.tuple #[.string ⟨l.toArray⟩, .bool false]) ∧ w' = w) := fun w => by
      have h := hc w
      rw [e1, e2, h1] at h
      exact h
    have hE : fsz l = 0 := by
      rcases l with _ | ⟨x, r⟩
      · rfl
      · rw [fsz, if_neg]; rintro rfl; exact h0 rfl
    rw [hE]
    clear hc e1 e2 h0 hE hs h1
    go_enter Tryz.func106, Tryz.ntmps106
    go_wp2_with fail
    refine (CP.out _).mono ?_
    rintro e w1 ⟨rfl, hwx⟩
    have hwy := hwx.symm
    subst hwy
    clear CP
    go_wp2_with fail
    go_ret
    exact ⟨rfl, Below.refl _ _⟩

set_option maxHeartbeats 2000000 in
set_option maxRecDepth 1000000 in
theorem withoutNoughts_any (l : List UInt8) (w : World) :
    Calls Tryz.prog 108 #[.string ⟨l.toArray⟩] w fun e w' => e = .returned (.string ⟨(woN l).toArray⟩) ∧ Below w.heap.size w w' := by
  have TL : Hid (∀ w, Calls Tryz.prog 132 #[.string ⟨l.toArray⟩, .string ⟨#[48]⟩] w fun e w' => e = .returned (.string ⟨(l.dropWhile (· == 48)).toArray⟩) ∧ w' = w) := fun w => TrimLeft_any l w
  unfold woN
  generalize l.dropWhile (· == 48) = D at *
  by_cases h : D = []
  · rw [if_pos h]
    have hb : (D == ([] : List UInt8)) = true := by rw [h]; rfl
    clear h
    go_enter Tryz.func108, Tryz.ntmps108
    go_wp2_with fail
    refine (TL.out _).mono ?_
    rintro e w1 ⟨rfl, hwx⟩
    have hwy := hwx.symm
    subst hwy
    clear TL
    go_wp2_with fail
    go_ret
    exact ⟨rfl, Below.refl _ _⟩
  · rw [if_neg h]
    have hb : (D == ([] : List UInt8)) = false := by rw [beq_eq_false_iff_ne]; exact h
    clear h
    go_enter Tryz.func108, Tryz.ntmps108
    go_wp2_with fail
    refine (TL.out _).mono ?_
    rintro e w1 ⟨rfl, hwx⟩
    have hwy := hwx.symm
    subst hwy
    clear TL
    go_wp2_with fail
    go_ret
    exact ⟨rfl, Below.refl _ _⟩

/-- how far a quote goes, read so far -/
def qAt (q : UInt8) (l : List UInt8) (k : Nat) : Prop := qsz l = if qz q (l.drop k) = 0 then 0 else qz q (l.drop k) + k
theorem qz_other {q x : UInt8} (h : x ≠ q) : ∀ r : List UInt8, qz q (x :: r) = if qz q r = 0 then 0 else qz q r + 1
  | [] => by simp [qz, h]
  | y :: r => by rw [qz, if_neg h]
theorem qAt_end {q : UInt8} {l : List UInt8} {k : Nat} (h : qAt q l k) (hk : l.length ≤ k) : qsz l = 0 := by
  unfold qAt at h
  rw [List.drop_eq_nil_of_le hk] at h
  exact h
theorem qAt_other {q x : UInt8} {l : List UInt8} {k : Nat} (h : qAt q l k) (hx : l[k]? = some x) (hq : x ≠ q) : qAt q l (k + 1) := by
  unfold qAt at h ⊢
  rw [drop_of_get hx, qz_other hq] at h
  by_cases h0 : qz q (l.drop (k + 1)) = 0
  · rw [if_pos h0, if_pos rfl] at h
    rw [if_pos h0]; exact h
  · rw [if_neg h0, if_neg (by omega)] at h
    rw [if_neg h0]; omega
theorem qAt_last {q : UInt8} {l : List UInt8} {k : Nat} (h : qAt q l k) (hx : l[k]? = some q) (hk : k + 1 = l.length) : qsz l = k + 1 := by
  unfold qAt at h
  rw [drop_of_get hx, List.drop_eq_nil_of_le (by omega), qz, if_pos rfl, if_neg (by decide)] at h
  omega
theorem qAt_stop {q y : UInt8} {l : List UInt8} {k : Nat} (h : qAt q l k) (hx : l[k]? = some q) (hy : l[k + 1]? = some y) (hq : y ≠ q) : qsz l = k + 1 := by
  unfold qAt at h
  rw [drop_of_get hx, drop_of_get hy, qz, if_pos rfl, if_neg hq, if_neg (by decide)] at h
  omega
theorem qAt_two {q : UInt8} {l : List UInt8} {k : Nat} (h : qAt q l k) (hx : l[k]? = some q) (hy : l[k + 1]? = some q) : qAt q l (k + 2) := by
  unfold qAt at h ⊢
  rw [drop_of_get hx, drop_of_get hy, qz, if_pos rfl, if_pos rfl, show k + 1 + 1 = k + 2 from rfl] at h
  by_cases h0 : qz q (l.drop (k + 2)) = 0
  · rw [if_pos h0, if_pos rfl] at h
    rw [if_pos h0]; exact h
  · rw [if_neg h0, if_neg (by omega)] at h
    rw [if_neg h0]; omega
theorem u8_ne {x y : UInt8} (h : x ≠ y) : ((x.toNat : Int) != (y.toNat : Int)) = true := by
  rw [bne_iff_ne]; intro e; exact h (UInt8.toNat_inj.1 (by omega))
theorem u8_eq (x : UInt8) : ((x.toNat : Int) != (x.toNat : Int)) = false := by simp

set_option maxHeartbeats 2000000 in
set_option maxRecDepth 1000000 in
theorem quoteSize_any (q : UInt8) (r : List UInt8) (w : World) (hs : (q :: r).length ≤ 100000) :
    Calls Tryz.prog 109 #[.string ⟨(q :: r).toArray⟩] w fun e w' => e = .returned (.int .i64 (qsz (q :: r) : Nat)) ∧ Below w.heap.size w w' := by
  have q0 : Hid (qAt q (q :: r) 1) := rfl
  have hx0 : (q :: r)[0]? = some q := rfl
  have hl0 : 0 < (q :: r).length := by simp
  obtain ⟨l, hl⟩ : ∃ l, l = q :: r := ⟨_, rfl⟩
  rw [← hl] at q0 hx0 hl0 hs ⊢
  have hg0 := get_mk hx0
  clear hl hx0 r
  have hzl : (ByteArray.mk l.toArray).size = l.length := size_mk l
  have hl0i : (0 : Int) < (l.length : Int) := by omega
  go_enter Tryz.func109, Tryz.ntmps109
  go_wp2_with fail
  clear hg0
  go_loopw [4] (fun s3 wr => ∃ (k : Nat), s3 = .int .i64 k ∧ k ≤ l.length + 1 ∧ Hid (qAt q l k) ∧ Hid (Below w.heap.size w wr)) (fun s3 _ => l.length + 1 - (intOf s3).toNat)
  case atStart => exact ⟨1, rfl, by omega, q0, Below.refl _ _⟩
  case round =>
    obtain ⟨k, rfl, hk, hg, hbr⟩ := hrel
    by_cases hlt : k < l.length
    · obtain ⟨x, hx⟩ : ∃ x, l[k]? = some x := ⟨l[k], List.getElem?_eq_getElem hlt⟩
      have hgt := get_mk hx
      have hlti : (k : Int) < (l.length : Int) := by omega
      by_cases h1 : x = q
      · subst h1
        have h1b := u8_eq x
        by_cases h2 : k + 1 = l.length
        · have h2b : ((k : Int) + 1 == (l.length : Int)) = true := by rw [beq_iff_eq]; omega
          have hE := qAt_last hg.out hx h2
          have hb := hbr.out
          clear hx hg hbr h2
          go_wp2_with fail
          go_ret
          exact ⟨by first | rfl | (rw [hE]; rfl) | (rw [hE]; go_num) | go_num, hb⟩
        · have h2b : ((k : Int) + 1 == (l.length : Int)) = false := by rw [beq_eq_false_iff_ne]; omega
          have hlt2 : k + 1 < l.length := by omega
          have hlt2i : (k : Int) + 1 < (l.length : Int) := by omega
          obtain ⟨y, hy⟩ : ∃ y, l[k + 1]? = some y := ⟨l[k + 1], List.getElem?_eq_getElem hlt2⟩
          have hgy := get_mk hy
          have htn : ((k : Int) + 1).toNat = k + 1 := by omega
          by_cases h3 : y = x
          · subst h3
            have hg2 : Hid (qAt y l (k + 2)) := qAt_two hg.out hx hy
            clear hx hy hg h2
            go_wp2_with fail
            go_roundw
            case rel => exact ⟨k + 2, by go_num, by omega, hg2, hbr⟩
            case measure => simp [intOf]; omega
          · have h3b := u8_ne h3
            have hE := qAt_stop hg.out hx hy h3
            have hb := hbr.out
            clear hx hy hg hbr h2 h3
            go_wp2_with fail
            go_ret
            exact ⟨by first | rfl | (rw [hE]; rfl) | (rw [hE]; go_num) | go_num, hb⟩
      · have h1b := u8_ne h1
        have hg2 : Hid (qAt q l (k + 1)) := qAt_other hg.out hx h1
        clear hx hg h1
        go_wp2_with fail
        go_roundw
        case rel => exact ⟨k + 1, by go_num, by omega, hg2, hbr⟩
        case measure => simp [intOf]; omega
    · have hlti : ¬ (k : Int) < (l.length : Int) := by omega
      have hE := qAt_end hg.out (by omega)
      have hb := hbr.out
      clear hg hbr
      go_wp2_with fail
      go_ret
      exact ⟨by first | rfl | (rw [hE]; rfl), hb⟩

/-- the first bad character, read so far -/
theorem badF_end (f k : Nat) : badF f k [] = -1 := by cases f <;> simp [badF]
theorem dec_drop (l : List UInt8) (k : Nat) : Lib.decodeL (l.drop k) = Utf8.decode ⟨l.toArray⟩ k := by
  have h := Lib.decodeL_drop ⟨l.toArray⟩ k
  rwa [show (ByteArray.mk l.toArray).data.toList = l from List.toList_toArray] at h
theorem width_pos (s : ByteArray) (pos : Nat) (h : pos < s.size) : 1 ≤ (Utf8.decode s pos).2 := by
  by_cases ha : (s[pos]'h).toNat < 128
  · rw [decode_ascii s pos h ha]; exact Nat.le_refl _
  · exact (decode_high s pos h (by omega)).2
theorem iter_alloc {w : World} {s : ByteArray} {k p : Nat} (hk : w.heap[k]? = some (.stringIter s p)) (o : Obj) : (w.alloc o).heap[k]? = some (.stringIter s p) := by
  rw [Below.heap_alloc w o k (Array.getElem?_eq_some_iff.1 hk).1]; exact hk
set_option maxHeartbeats 2000000 in
set_option maxRecDepth 1000000 in
theorem badCharacter_any (l : List UInt8) (w : World) :
    Calls Tryz.prog 27 #[.string ⟨l.toArray⟩] w fun e w' => e = .returned (.int .i64 (badA l)) ∧ Below w.heap.size w w' := by
  have HP : Hid (∀ (t : List UInt8) (b : Bool) w, ([239, 191, 189] : List UInt8).isPrefixOf t = b → Calls Tryz.prog 44 #[.string ⟨t.toArray⟩, .string ⟨#[239, 191, 189]⟩] w fun e w' => e = .returned (.bool b) ∧ w' = w) := fun t b w h => HasPre t [239, 191, 189] b w h
  have hzl : (ByteArray.mk l.toArray).size = l.length := size_mk l
  have hex : ∀ k, (ByteArray.mk l.toArray).extract k l.length = ByteArray.mk (l.drop k).toArray := fun k => by rw [extract_mk, List.take_length]
  go_enter Tryz.func27, Tryz.ntmps27
  go_wp2
  go_loopw [] (fun wr => ∃ (pos fuel : Nat), wr.heap[w.heap.size]? = some (.stringIter ⟨l.toArray⟩ pos) ∧ Below w.heap.size w wr ∧ Hid (badF fuel pos (l.drop pos) = badA l) ∧ l.length ≤ pos + fuel)
    (fun wr => l.length - wr.iterPos w.heap.size)
  case atStart =>
    refine ⟨0, l.length, ?_, ?_, rfl, by omega⟩
    · have := World.iter_heap w ⟨l.toArray⟩ 0
      simpa using this
    · exact (Below.refl _ w).alloc (Nat.le_refl _) _
  case round =>
    obtain ⟨pos, fuel, hit, hbw, hacc, hfu⟩ := hrel
    have hsz : w.heap.size < wr.heap.size := (Array.getElem?_eq_some_iff.1 hit).1
    by_cases hp : pos < l.length
    · have hp2 : pos < (ByteArray.mk l.toArray).size := by rw [hzl]; exact hp
      have hnx : ∀ ty, (Instr.next (.pointer (some ⟨w.heap.size, 0, none⟩)) true ty).run Tryz.prog wr = _ := fun ty => Lib.run_next_any_at wr w.heap.size ⟨l.toArray⟩ pos ty hit hp2
      have hwd := width_pos ⟨l.toArray⟩ pos hp2
      have hit2 := Lib.iterAt_heap wr w.heap.size ⟨l.toArray⟩ pos (pos + (Utf8.decode ⟨l.toArray⟩ pos).2) hit
      have hbw2 := Lib.below_iterAt hbw (k := w.heap.size) (Nat.le_refl _) ⟨l.toArray⟩ (pos + (Utf8.decode ⟨l.toArray⟩ pos).2)
      obtain ⟨f, rfl⟩ : ∃ f, fuel = f + 1 := ⟨fuel - 1, by omega⟩
      have hne : ¬ l.drop pos = [] := by intro e; have := congrArg List.length e; simp at this; omega
      have hpi : (pos : Int) ≤ (l.length : Int) := by omega
      have hst := hacc.out
      rw [badF, if_neg hne, dec_drop, List.drop_drop] at hst
      have hbh : badHere (l.drop pos) = (decide ((Utf8.decode ⟨l.toArray⟩ pos).1 = 0) || (decide ((Utf8.decode ⟨l.toArray⟩ pos).1 = 65533) && !([239, 191, 189] : List UInt8).isPrefixOf (l.drop pos))) := by unfold badHere; rw [dec_drop]
      have C1 : Hid (∀ (b : Bool) w, ([239, 191, 189] : List UInt8).isPrefixOf (l.drop pos) = b → Calls Tryz.prog 44 #[.string ⟨(l.drop pos).toArray⟩, .string ⟨#[239, 191, 189]⟩] w fun e w' => e = .returned (.bool b) ∧ w' = w) := fun b w h => HP.out (l.drop pos) b w h
      obtain ⟨R, hR⟩ : ∃ R, (Utf8.decode ⟨l.toArray⟩ pos).1 = R := ⟨_, rfl⟩
      obtain ⟨K, hK⟩ : ∃ K, (Utf8.decode ⟨l.toArray⟩ pos).2 = K := ⟨_, rfl⟩
      have hexp := hex pos
      rw [hK] at hwd hit2 hbw2 hst
      rw [hR] at hbh
      simp only [hR, hK] at hnx
      clear HP hacc hex hne
      by_cases h0 : R = 0
      · have h0b : ((R : Int) == 0) = true := by rw [beq_iff_eq]; omega
        rw [hbh, if_pos (by rw [decide_eq_true h0]; rfl)] at hst
        have HS : Hid ((pos : Int) = badA l) := hst
        clear hbh C1 h0 hR hK hst
        go_wp2_with fail
        go_ret
        exact ⟨by rw [← HS.out]; rfl, hbw2⟩
      have h0b : ((R : Int) == 0) = false := by rw [beq_eq_false_iff_ne]; omega
      by_cases h1 : R = 65533
      · have h1b : ((R : Int) == 65533) = true := by rw [beq_iff_eq]; omega
        cases h2 : ([239, 191, 189] : List UInt8).isPrefixOf (l.drop pos) with
        | true =>
          have C2 : Hid (∀ w, Calls Tryz.prog 44 #[.string ⟨(l.drop pos).toArray⟩, .string ⟨#[239, 191, 189]⟩] w fun e w' => e = .returned (.bool true) ∧ w' = w) := fun w => C1.out true w h2
          rw [hbh, if_neg (by rw [decide_eq_false h0, h2]; simp)] at hst
          have HC : Hid (badF f (pos + K) (l.drop (pos + K)) = badA l) := hst
          clear hbh C1 h0 h1 h2 hR hK hst
          go_wp2_with fail
          refine (C2.out _).mono ?_
          rintro e w1 ⟨rfl, hwx⟩
          have hwy := hwx.symm
          subst hwy
          clear C2
          go_wp2_with fail
          go_roundw
          case rel => exact ⟨pos + K, f, hit2, hbw2, HC, by omega⟩
          case measure =>
            simp only [World.iterPos, hit2, hit]
            omega
        | false =>
          have C2 : Hid (∀ w, Calls Tryz.prog 44 #[.string ⟨(l.drop pos).toArray⟩, .string ⟨#[239, 191, 189]⟩] w fun e w' => e = .returned (.bool false) ∧ w' = w) := fun w => C1.out false w h2
          rw [hbh, if_pos (by rw [decide_eq_true h1, h2]; simp)] at hst
          have HS : Hid ((pos : Int) = badA l) := hst
          clear hbh C1 h0 h1 h2 hR hK hst
          go_wp2_with fail
          refine (C2.out _).mono ?_
          rintro e w1 ⟨rfl, hwx⟩
          have hwy := hwx.symm
          subst hwy
          clear C2
          go_wp2_with fail
          go_ret
          exact ⟨by rw [← HS.out]; rfl, hbw2⟩
      · have h1b : ((R : Int) == 65533) = false := by rw [beq_eq_false_iff_ne]; omega
        rw [hbh, if_neg (by rw [decide_eq_false h0, decide_eq_false h1]; simp)] at hst
        have HC : Hid (badF f (pos + K) (l.drop (pos + K)) = badA l) := hst
        clear hbh C1 h0 h1 hR hK hst
        go_wp2_with fail
        go_roundw
        case rel => exact ⟨pos + K, f, hit2, hbw2, HC, by omega⟩
        case measure =>
          simp only [World.iterPos, hit2, hit]
          omega
    · have hp2 : ¬ pos < (ByteArray.mk l.toArray).size := by rw [hzl]; exact hp
      have hnx : ∀ ty, (Instr.next (.pointer (some ⟨w.heap.size, 0, none⟩)) true ty).run Tryz.prog wr = _ := fun ty => Lib.run_next_end_at wr w.heap.size ⟨l.toArray⟩ pos ty hit hp2
      have h := hacc.out
      rw [List.drop_eq_nil_of_le (by omega), badF_end] at h
      have H : Hid (-1 = badA l) := h
      clear HP hacc hex h
      go_wp2_with fail
      go_ret
      exact ⟨by rw [← H.out]; rfl, hbw⟩
end Go.Proofs.YtfcolecglobcdaaGreatDoor
