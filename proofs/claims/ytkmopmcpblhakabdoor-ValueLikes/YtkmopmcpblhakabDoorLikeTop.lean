/-
  The walks of value.Like, lockstepref01.Like and locksteplaw01.ValueLikes.
-/
import Derived.Test.YtkmopmcpblhakabDoorLikeFits
import Derived.Test.YtkmopmcpblhakabDoorLikePattern
import Derived.Test.YtkmopmcpblhakabDoorLikeTable
import Derived.Test.YtkmopmcpblhakabDoorChkRef
namespace Go.Proofs.YtkmopmcpblhakabDoor
open Go.RowKit Go.Shelf

theorem runesConv (s : ByteArray) : ∀ (b i : Nat) (acc : Array Value), Conv.runesFrom s b i acc = acc ++ ((runesF s b i).map (Value.int .i32)).toArray
  | 0, i, acc => by simp [Conv.runesFrom, runesF]
  | b + 1, i, acc => by
    unfold Conv.runesFrom runesF
    split
    · show Conv.runesFrom s b (i + (Utf8.decode s i).2) (acc.push (Value.int .i32 (Int.ofNat (Utf8.decode s i).1))) = _
      rw [runesConv s b]; simp
    · simp
theorem runesConv0 (s : ByteArray) : Conv.runesFrom s s.size 0 #[] = ((runes s).map (Value.int .i32)).toArray := by
  rw [runesConv]; simp [runes]

theorem marks_of {w : World} {base : Nat} {v : Value} {ms : List LikeM.Mk} (h : w.ownsRow base 54 2 v ms.length (mcells ms)) : ∃ am cm, v = .slice am ms.length cm ∧ marksAt w am ms := by
  rcases h.2 with ⟨rfl, h0⟩ | ⟨g, cap, cur, rfl, hb, hh, hr⟩
  · refine ⟨none, 0, by rw [h0], ?_⟩
    intro i m hm
    have := (List.getElem?_eq_some_iff.1 hm).1
    omega
  · refine ⟨_, _, rfl, ?_⟩
    intro i m hm
    obtain ⟨hi, rfl⟩ := List.getElem?_eq_some_iff.1 hm
    have key : ∀ (ms : List LikeM.Mk) (i : Nat) (hi : i < ms.length), (mcells ms)[i * 2]? = some (.int .i64 ms[i].1) ∧ (mcells ms)[i * 2 + 1]? = some (.int .i32 ms[i].2) := by
      intro ms
      induction ms with
      | nil => intro i hi; simp at hi
      | cons m ms ih =>
        intro i hi
        cases i with
        | zero => simp [mcells]
        | succ i =>
          have := ih i (by simpa using hi)
          have e : mcells (m :: ms) = .int .i64 m.1 :: .int .i32 m.2 :: mcells ms := by simp [mcells]
          rw [e, show (i + 1) * 2 = i * 2 + 1 + 1 by omega]
          simpa using this
    have k := key ms i hi
    refine ⟨g, rfl, (Array.getElem?_eq_some_iff.1 hh).1, ?_, ?_⟩
    · rw [World.ownsRow.cellAt h (i * 2) (by omega), k.1]
    · rw [World.ownsRow.cellAt h (i * 2 + 1) (by omega), k.2]
theorem marksAt.below {w w' : World} {am : Option Addr} {ms : List LikeM.Mk} (h : marksAt w am ms) (hb : Below w.heap.size w w') : marksAt w' am ms := by
  intro i m hm
  obtain ⟨g, h1, h2, h3, h4⟩ := h i m hm
  exact ⟨g, h1, Nat.lt_of_lt_of_le h2 hb.size, (hb.cell h2).trans h3, (hb.cell h2).trans h4⟩
theorem runes_of {w : World} {base g n cap : Nat} {t : List Int} (h : w.ownsRow base 21 1 (.slice (some ⟨g, 0, none⟩) n cap) t.length (t.map (Value.int .i32))) (hn : n = t.length) : runesAt w g t := by
  subst hn
  refine ⟨(World.ownsRow.lt h g rfl).2, ?_⟩
  intro i c hc
  rw [World.ownsRow.cellAt h i (by have := (List.getElem?_eq_some_iff.1 hc).1; omega)]
  simp [hc]
theorem runesAt.below {w w' : World} {g : Nat} {t : List Int} (h : runesAt w g t) (hb : Below w.heap.size w w') : runesAt w' g t :=
  ⟨Nat.lt_of_lt_of_le h.1 hb.size, fun i c hc => (hb.cell (p := ⟨g, i, none⟩) h.1).trans (h.2 i c hc)⟩

theorem runesAt_new (w : World) (t : List Int) (k : Nat) (z : Value) : runesAt ((w.alloc (.cells ((t.map (Value.int .i32)).toArray ++ Array.replicate k z) 21)).drew) w.heap.size t := by
  refine ⟨by simp, ?_⟩
  intro i c hc
  show (w.alloc _).cell? _ = _
  obtain ⟨hi, rfl⟩ := List.getElem?_eq_some_iff.1 hc
  simp only [World.cell?, heap_alloc_new]
  simp [Array.getElem?_append, hi]

/-- the answer's error, and the answer -/
noncomputable def likeE (s p : ByteArray) : Int := if chk2 (chkT s) (chkT p) = 0 then (if (LikeM.scan (runes p)).2 = true then 3 else 0) else chk2 (chkT s) (chkT p)
open Classical in
noncomputable def likeB (s p : ByteArray) : Bool := if chk2 (chkT s) (chkT p) = 0 then (if (LikeM.scan (runes p)).2 = true then false else decide (LikeM.M (LikeM.scan (runes p)).1 (runes s))) else false

open Classical in
set_option maxHeartbeats 2000000 in
set_option maxRecDepth 1000000 in
theorem Like_any (s p : ByteArray) (w : World) (hs : s.size ≤ 9223372036854775807) (hp : p.size ≤ 9223372036854775807) (hT : Tabs w) :
    Calls Tryd.prog 5 #[.string s, .string p] w fun e w' => e = .returned (.tuple #[.bool (likeB s p), .int .i64 (likeE s p)]) ∧ Below w.heap.size w w' := by
  have C1 : Hid (∀ s w, s.size ≤ 9223372036854775807 → Tabs w → Calls Tryd.prog 11 #[.string s] w fun e w' => e = .returned (.int .i64 (chkT s)) ∧ Below w.heap.size w w') := fun s w h1 h2 => checkText_any s w h1 h2
  by_cases h1 : chkT s = 0
  · by_cases h2 : chkT p = 0
    · obtain ⟨z1, v1⟩ := chkT_zero h1
      obtain ⟨z2, v2⟩ := chkT_zero h2
      have E0 : chk2 (chkT s) (chkT p) = 0 := by rw [h1, h2]; rfl
      cases hsc : (LikeM.scan (runes p)).2
      · have EB : likeB s p = decide (LikeM.M (LikeM.scan (runes p)).1 (runes s)) := by unfold likeB; rw [if_pos E0, hsc, if_neg (by simp)]
        have EE : likeE s p = 0 := by unfold likeE; rw [if_pos E0, hsc, if_neg (by simp)]
        rw [EB, EE]
        clear EB EE E0 v1 v2
        have HP' : Hid (∀ w, Calls Tryd.prog 12 #[.string p] w _) := fun w => readPattern_any p w z2
        rw [hsc] at HP'
        have hl1 := runes_len s
        have hl2 := scan_len (runes p)
        have hl3 := runes_len p
        have kc := fun w => run_runes_of_string (P := Tryd.prog) w 9 39 21 s Tryd.underlying9 Tryd.underlying39 Tryd.underlying21 (by rw [runesConv0]; simp; omega)
        simp only [runesConv0, List.size_toArray, List.length_map] at kc
        have HF := fun (g ct cm : Nat) (am : Option Addr) (w : World) => fits_any g ct cm am (runes s) (LikeM.scan (runes p)).1 w
        have HF' : Hid (∀ (g ct cm : Nat) (am : Option Addr) (w : World), _) := HF
        clear HF
        generalize LikeM.scan (runes p) = sc at *
        obtain ⟨ms, es⟩ := sc
        simp only at hl2 HF' HP' ⊢ hsc
        subst hsc
        generalize hts : runes s = t at *
        clear hts
        go_enter Tryd.func5, Tryd.ntmps5
        go_wp2_with fail
        refine (C1.out s _ hs hT).mono ?_
        rintro e w1 ⟨rfl, hb1⟩
        go_wp2_with fail
        refine (C1.out p _ hp (hT.below hb1)).mono ?_
        rintro e w2 ⟨rfl, hb2⟩
        go_wp2_with fail
        refine (HP'.out _).mono ?_
        rintro e w3 ⟨v, rfl, hown, hb3⟩
        obtain ⟨am, cm, rfl, hma⟩ := marks_of hown
        clear hown
        go_wp2_with fail
        have hb4 : Below w3.heap.size w3 ((w3.alloc (.cells ((t.map (Value.int .i32)).toArray ++ Array.replicate (grownCap w3 t.length 0 21 - t.length) (Value.int .i32 0)) 21)).drew) := ((Below.refl _ _).alloc (Nat.le_refl _) _).drew
        refine (HF'.out _ _ _ _ _ (runesAt_new w3 t _ _) (hma.below hb4) (by omega) (by omega)).mono ?_
        rintro e w5 ⟨rfl, hb5⟩
        go_wp2_with fail
        go_ret2
        have g1 := hb1.size; have g2 := hb2.size; have g3 := hb3.size; have g4 := hb4.size
        exact ⟨rfl, hb1.trans ((hb2.mono g1).trans ((hb3.mono (by omega)).trans ((hb4.mono (by omega)).trans (hb5.mono (by omega)))))⟩
      · have EB : likeB s p = false := by unfold likeB; rw [if_pos E0, hsc, if_pos rfl]
        have EE : likeE s p = 3 := by unfold likeE; rw [if_pos E0, hsc, if_pos rfl]
        rw [EB, EE]
        clear EB EE E0 v1 v2
        have HP := readPattern_any p
        have HP' : Hid (∀ w, Calls Tryd.prog 12 #[.string p] w _) := fun w => readPattern_any p w z2
        clear HP
        rw [hsc] at HP'
        go_enter Tryd.func5, Tryd.ntmps5
        go_wp2_with fail
        refine (C1.out s _ hs hT).mono ?_
        rintro e w1 ⟨rfl, hb1⟩
        go_wp2_with fail
        refine (C1.out p _ hp (hT.below hb1)).mono ?_
        rintro e w2 ⟨rfl, hb2⟩
        go_wp2_with fail
        refine (HP'.out _).mono ?_
        rintro e w3 ⟨v, rfl, hown, hb3⟩
        go_wp2_with fail
        go_ret2
        exact ⟨rfl, hb1.trans ((hb2.mono hb1.size).trans (hb3.mono (Nat.le_trans hb1.size hb2.size)))⟩
    · have E0 : chk2 (chkT s) (chkT p) = chkT p := by rw [h1]; rfl
      have EB : likeB s p = false := by unfold likeB; rw [if_neg (by rw [E0]; exact h2)]
      have EE : likeE s p = chkT p := by unfold likeE; rw [if_neg (by rw [E0]; exact h2), E0]
      have hne : (chkT p != 0) = true := by rw [bne_iff_ne]; exact h2
      rw [EB, EE]
      clear EB EE E0
      go_enter Tryd.func5, Tryd.ntmps5
      go_wp2_with fail
      refine (C1.out s _ hs hT).mono ?_
      rintro e w1 ⟨rfl, hb1⟩
      go_wp2_with fail
      refine (C1.out p _ hp (hT.below hb1)).mono ?_
      rintro e w2 ⟨rfl, hb2⟩
      go_wp2_with fail
      go_ret2
      exact ⟨rfl, hb1.trans (hb2.mono hb1.size)⟩
  · have E0 : chk2 (chkT s) (chkT p) = chkT s := by rw [chk2, if_neg h1]
    have EB : likeB s p = false := by unfold likeB; rw [if_neg (by rw [E0]; exact h1)]
    have EE : likeE s p = chkT s := by unfold likeE; rw [if_neg (by rw [E0]; exact h1), E0]
    have hne : (chkT s != 0) = true := by rw [bne_iff_ne]; exact h1
    rw [EB, EE]
    clear EB EE E0
    go_enter Tryd.func5, Tryd.ntmps5
    go_wp2_with fail
    refine (C1.out s _ hs hT).mono ?_
    rintro e w1 ⟨rfl, hb1⟩
    go_wp2_with fail
    go_ret2
    exact ⟨rfl, hb1⟩

open Classical in
theorem likeOf_eq (s p : ByteArray) (h : chk2 (chkT s) (chkT p) = 0) : likeOf (runes s) (runes p) = .tuple #[.bool (likeB s p), .int .i64 (likeE s p)] := by
  unfold likeOf likeB likeE
  rw [if_pos h, if_pos h]
  split <;> rfl

set_option maxHeartbeats 2000000 in
set_option maxRecDepth 1000000 in
theorem refLike_any (s p : ByteArray) (w : World) :
    Calls Tryd.prog 6 #[.string s, .string p] w fun e w' => e = .returned (.tuple #[.bool (likeB s p), .int .i64 (likeE s p)]) ∧ Below w.heap.size w w' := by
  have CB : Hid (∀ w, Calls Tryd.prog 14 #[.agg #[.int .i64 3, .int .i64 0, .string s], .agg #[.int .i64 3, .int .i64 0, .string p]] w fun e w' => e = .returned (.int .i64 (chk2 (chkT s) (chkT p))) ∧ Below w.heap.size w w') := fun w => by
    have := both_any 3 0 s 3 0 p w
    rw [chk_text, chk_text] at this
    exact this
  by_cases h : chk2 (chkT s) (chkT p) = 0
  · have hss : s.size ≤ 4096 ∧ p.size ≤ 4096 := by
      unfold chk2 at h
      by_cases h1 : chkT s = 0
      · rw [if_pos h1] at h; exact ⟨(chkT_zero h1).1, (chkT_zero h).1⟩
      · rw [if_neg h1] at h; exact absurd h h1
    have EQ := likeOf_eq s p h
    rw [← EQ]
    have R1 : Hid (∀ w, Calls Tryd.prog 16 #[.string s] w _) := fun w => Runes_any s w hss.1
    have R2 : Hid (∀ w, Calls Tryd.prog 16 #[.string p] w _) := fun w => Runes_any p w hss.2
    have l1 := runes_len s
    have l2 := runes_len p
    have LK : Hid (∀ gs cs gp cp w, runesAt' w gs (runes s) → runesAt' w gp (runes p) → Calls Tryd.prog 15 #[.slice (some ⟨gs, 0, none⟩) (runes s).length cs, .slice (some ⟨gp, 0, none⟩) (runes p).length cp] w fun e w' => e = .returned (likeOf (runes s) (runes p)) ∧ Below w.heap.size w w') := fun gs cs gp cp w h1 h2 => like_any gs cs gp cp _ _ w h1 h2 (by omega) (by omega)
    have HL : ∃ b n, likeOf (runes s) (runes p) = .tuple #[.bool b, .int .i64 n] := ⟨_, _, EQ⟩
    clear EQ
    generalize likeOf (runes s) (runes p) = L at *
    obtain ⟨b, n, rfl⟩ := HL
    generalize runes s = t at *
    generalize runes p = q at *
    go_enter Tryd.func6, Tryd.ntmps6
    go_wp2_with fail
    refine (CB.out _).mono ?_
    rintro e w1 ⟨rfl, hb1⟩
    go_wp2_with fail
    refine (R1.out _).mono ?_
    rintro e w2 ⟨v, rfl, hown1, ⟨g1, c1, rfl⟩, hb2⟩
    go_wp2_with fail
    refine (R2.out _).mono ?_
    rintro e w3 ⟨v, rfl, hown2, ⟨g2, c2, rfl⟩, hb3⟩
    have r1 := (runes_of hown1 rfl).below hb3
    have r2 := runes_of hown2 rfl
    clear hown1 hown2
    go_wp2_with fail
    refine (LK.out _ _ _ _ _ r1 r2).mono ?_
    rintro e w4 ⟨rfl, hb4⟩
    go_wp2_with fail
    go_ret2
    have k1 := hb1.size; have k2 := hb2.size; have k3 := hb3.size
    exact ⟨rfl, hb1.trans ((hb2.mono k1).trans ((hb3.mono (by omega)).trans (hb4.mono (by omega))))⟩
  · have EB : likeB s p = false := by unfold likeB; rw [if_neg h]
    have EE : likeE s p = chk2 (chkT s) (chkT p) := by unfold likeE; rw [if_neg h]
    have hne : (chk2 (chkT s) (chkT p) != 0) = true := by rw [bne_iff_ne]; exact h
    rw [EB, EE]
    clear EB EE
    go_enter Tryd.func6, Tryd.ntmps6
    go_wp2_with fail
    refine (CB.out _).mono ?_
    rintro e w1 ⟨rfl, hb1⟩
    go_wp2_with fail
    go_ret2
    exact ⟨rfl, hb1⟩
end Go.Proofs.YtkmopmcpblhakabDoor
