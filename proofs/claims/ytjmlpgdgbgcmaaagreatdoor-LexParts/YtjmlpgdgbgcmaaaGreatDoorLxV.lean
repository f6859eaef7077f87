/-
  The walk of the statement LexParts.
-/
import Derived.Test.YtjmlpgdgbgcmaaaGreatDoorLxW
namespace Go.Proofs.YtjmlpgdgbgcmaaaGreatDoor
open Go.RowKit Go.Shelf

set_option maxHeartbeats 4000000 in
set_option maxRecDepth 1000000 in
theorem LexParts_any (a b : List UInt8) (w : World) (hs : a.length + b.length ≤ 2000000) (hW : LxW w) :
    Calls Tryz.prog 3 #[.string ⟨a.toArray⟩, .string ⟨b.toArray⟩] w fun e w' => e = .returned (.bool true) ∧ Below w.heap.size w w' := by
  have TA : Hid (∀ w, LxW w → Calls Tryz.prog 4 #[.string ⟨a.toArray⟩] w fun e w' => TkA (tks a) w.heap.size e w' ∧ Below w.heap.size w w') := fun w h => Tokens_any a w h
  have TB : Hid (∀ w, LxW w → Calls Tryz.prog 4 #[.string ⟨b.toArray⟩] w fun e w' => TkA (tks b) w.heap.size e w' ∧ Below w.heap.size w w') := fun w h => Tokens_any b w h
  have TC : Hid (∀ w, LxW w → Calls Tryz.prog 4 #[.string ⟨(a ++ 10 :: b).toArray⟩] w fun e w' => TkA (tks (a ++ 10 :: b)) w.heap.size e w' ∧ Below w.heap.size w w') := fun w h => Tokens_any _ w h
  have LV : Hid (∀ w, LxW w → Calls Tryz.prog 5 #[] w fun e w' => e = .returned (.bool true) ∧ Below w.heap.size w w') := lives_any
  have HW : Hid (LxW w) := hW
  have hza : (ByteArray.mk a.toArray).size = a.length := size_mk a
  have hzb : (ByteArray.mk b.toArray).size = b.length := size_mk b
  have z1 : ByteArray.mk a.toArray ++ ByteArray.mk #[10] = ByteArray.mk (a ++ [10]).toArray := add_mk a [10]
  have z2 : ByteArray.mk (a ++ [10]).toArray ++ ByteArray.mk b.toArray = ByteArray.mk (a ++ 10 :: b).toArray := by rw [add_mk]; simp
  have z3 : a.length + 1 ≤ 9223372036854775807 := by omega
  have z4 : (a ++ [10]).length + b.length ≤ 9223372036854775807 := by simp; omega
  have hparts := @parts a b
  have hlong := @parts_long a b
  have hla := @tks_len a
  obtain ⟨AT, hAT⟩ : ∃ A1, A1 = a ++ [(10 : UInt8)] := ⟨_, rfl⟩
  rw [← hAT] at z1 z2 z4
  obtain ⟨AB, hAB⟩ : ∃ A1, A1 = a ++ (10 : UInt8) :: b := ⟨_, rfl⟩
  rw [← hAB] at z2 TC hparts hlong
  have hzt : (ByteArray.mk AT.toArray).size = AT.length := size_mk AT
  clear hAT hAB hW
  generalize tks AB = tc at *
  generalize tks a = ta at *
  generalize tks b = tb at *
  obtain ⟨la, pa, ea⟩ := ta
  obtain ⟨lb, pb, eb⟩ := tb
  obtain ⟨lc, pc, ec⟩ := tc
  simp only at hparts hlong hla
  by_cases h1 : ea = 0
  · by_cases h2 : eb = 0
    · subst h1 h2
      by_cases h3 : 65536 ≤ a.length + b.length
      · have e1 := hlong h3
        simp only [Ts.mk.injEq] at e1
        obtain ⟨rfl, rfl, rfl⟩ := e1
        have h3i : (65536 : Int) ≤ (a.length : Int) + (b.length : Int) := by omega
        have hbi : (a.length : Int) ≤ 2000000 := by omega
        have hbj : (b.length : Int) ≤ 2000000 := by omega
        clear hparts hlong hla hs h3
        go_enter Tryz.func3, Tryz.ntmps3
        go_wp2_with fail
        refine (TA.out _ HW.out).mono ?_
        rintro e w1 ⟨ha, hb1⟩
        obtain ⟨p1, c1, X1, rfl, i1, j1, k1, q1, l1⟩ := ha.open
        have B1 := hb1
        go_wp2_with fail
        refine (TB.out _ (HW.out.below B1)).mono ?_
        rintro e w2 ⟨ha2, hb2⟩
        obtain ⟨p2, c2, X2, rfl, i2, j2, k2, q2, l2⟩ := ha2.open
        have B2 := B1.trans (hb2.mono B1.size)
        go_wp2_with fail
        refine (TC.out _ (HW.out.below B2)).mono ?_
        rintro e w3 ⟨ha3, hb3⟩
        obtain ⟨p3, c3, X3, rfl, i3, j3, k3, q3, l3⟩ := ha3.open
        have B3 := B2.trans (hb3.mono B2.size)
        have i1' := (i1.below hb2).below hb3
        have i2' := i2.below hb3
        clear TA TB TC ha ha2 ha3 hb1 hb2 hb3 i1 i2 B1 B2
        simp only at l1 l2 l3
        go_wp2_with fail
        refine (LV.out _ (HW.out.below B3)).mono ?_
        rintro e w4 ⟨rfl, hb4⟩
        have B4 := B3.trans (hb4.mono B3.size)
        go_wp2_with fail
        go_ret
        exact ⟨rfl, B4⟩
      · exact LexParts_short a b w AT AB pa pb pc ec la lb lc h3 (by assumption) HW.out hza hzb z1 z2 z3 z4 hzt TA.out TB.out TC.out (hparts rfl rfl (by omega))
    · have h2b : (eb != 0) = true := by rw [bne_iff_ne]; exact h2
      subst h1
      clear hparts hlong hla hs h2
      go_enter Tryz.func3, Tryz.ntmps3
      go_wp2_with fail
      refine (TA.out _ HW.out).mono ?_
      rintro e w1 ⟨ha, hb1⟩
      obtain ⟨p1, c1, X1, rfl, i1, j1, k1, q1, l1⟩ := ha.open
      have B1 := hb1
      go_wp2_with fail
      refine (TB.out _ (HW.out.below B1)).mono ?_
      rintro e w2 ⟨ha2, hb2⟩
      obtain ⟨p2, c2, X2, rfl, i2, j2, k2, q2, l2⟩ := ha2.open
      have B2 := B1.trans (hb2.mono B1.size)
      go_wp2_with fail
      refine (TC.out _ (HW.out.below B2)).mono ?_
      rintro e w3 ⟨ha3, hb3⟩
      obtain ⟨p3, c3, X3, rfl, i3, j3, k3, q3, l3⟩ := ha3.open
      have B3 := B2.trans (hb3.mono B2.size)
      have i1' := (i1.below hb2).below hb3
      have i2' := i2.below hb3
      clear TA TB TC ha ha2 ha3 hb1 hb2 hb3 i1 i2 B1 B2
      simp only at l1 l2 l3
      go_wp2_with fail
      refine (LV.out _ (HW.out.below B3)).mono ?_
      rintro e w4 ⟨rfl, hb4⟩
      have B4 := B3.trans (hb4.mono B3.size)
      go_wp2_with fail
      go_ret
      exact ⟨rfl, B4⟩
  · have h1b : (ea != 0) = true := by rw [bne_iff_ne]; exact h1
    clear hparts hlong hla hs h1
    go_enter Tryz.func3, Tryz.ntmps3
    go_wp2_with fail
    refine (TA.out _ HW.out).mono ?_
    rintro e w1 ⟨ha, hb1⟩
    obtain ⟨p1, c1, X1, rfl, i1, j1, k1, q1, l1⟩ := ha.open
    have B1 := hb1
    go_wp2_with fail
    refine (TB.out _ (HW.out.below B1)).mono ?_
    rintro e w2 ⟨ha2, hb2⟩
    obtain ⟨p2, c2, X2, rfl, i2, j2, k2, q2, l2⟩ := ha2.open
    have B2 := B1.trans (hb2.mono B1.size)
    go_wp2_with fail
    refine (TC.out _ (HW.out.below B2)).mono ?_
    rintro e w3 ⟨ha3, hb3⟩
    obtain ⟨p3, c3, X3, rfl, i3, j3, k3, q3, l3⟩ := ha3.open
    have B3 := B2.trans (hb3.mono B2.size)
    have i1' := (i1.below hb2).below hb3
    have i2' := i2.below hb3
    clear TA TB TC ha ha2 ha3 hb1 hb2 hb3 i1 i2 B1 B2
    simp only at l1 l2 l3
    go_wp2_with fail
    refine (LV.out _ (HW.out.below B3)).mono ?_
    rintro e w4 ⟨rfl, hb4⟩
    have B4 := B3.trans (hb4.mono B3.size)
    go_wp2_with fail
    go_ret
    exact ⟨rfl, B4⟩
theorem mk_to (a : ByteArray) : (ByteArray.mk a.data.toList.toArray) = a := by cases a; simp
theorem LexParts_bytes (a b : ByteArray) (w : World) (hs : a.data.toList.length + b.data.toList.length ≤ 2000000) (hW : LxW w) :
    Calls Tryz.prog 3 #[.string a, .string b] w fun e w' => e = .returned (.bool true) ∧ Below w.heap.size w w' := by
  have h := LexParts_any a.data.toList b.data.toList w hs hW
  rw [mk_to, mk_to] at h
  exact h
end Go.Proofs.YtjmlpgdgbgcmaaaGreatDoor
