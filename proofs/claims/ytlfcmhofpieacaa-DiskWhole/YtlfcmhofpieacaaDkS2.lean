/-
  The law that a file is whole behind a crash: case by case.
-/
import Derived.Test.YtlfcmhofpieacaaDkR
namespace Go.Proofs.Ytlfcmhofpieacaa
open Go.RowKit Go.Maps Go.Joins Go.Sort

set_option maxHeartbeats 8000000 in
set_option maxRecDepth 1000000 in
theorem Whole_2 (old fresh : List UInt8) (Po Pf : Option Addr) (Co Cf cut : Nat) (keeps : List Int) (Pk : Option Addr) (Ck : Nat) (names : Int) (w : World) (ho : byIn w Po old) (hCo : Po = none → Co = 0) (hf : byIn w Pf fresh) (hCf : Pf = none → Cf = 0) (hk : intIn w Pk keeps) (hkr : ∀ x ∈ keeps, -9223372036854775808 ≤ x ∧ x ≤ 9223372036854775807) (hkl : keeps.length ≤ 9223372036854775807) (hn : -9223372036854775808 ≤ names ∧ names ≤ 9223372036854775807) (hc : cut < 256) (h6 : cut % 6 = 2) (hsum : old.length + fresh.length ≤ 16777216) :
    Calls Try.prog 3 #[.slice Po old.length Co, .slice Pf fresh.length Cf, .int .u8 (cut : Int), .slice Pk keeps.length Ck, .int .i64 names] w fun e w' => e = .returned (.bool true) ∧ Below w.heap.size w w' := by
  have LV : Hid (Calls Try.prog 4 #[] w fun e w' => e = .returned (.bool true) ∧ Below w.heap.size w w') := lives_any w
  have HO : Hid (byIn w Po old) := ho
  have HF : Hid (byIn w Pf fresh) := hf
  have HK : Hid (intIn w Pk keeps) := hk
  have HR : Hid (∀ x ∈ keeps, -9223372036854775808 ≤ x ∧ x ≤ 9223372036854775807) := hkr
  have hs1 : ¬ (16777216 : Int) < (old.length : Int) + (fresh.length : Int) := by omega
  have hs2 : IntKind.i64.wrap ((old.length : Int) + (fresh.length : Int)) = (old.length : Int) + (fresh.length : Int) := by rw [IntKind.wrap_i64]; omega
  have hs3 : wrap64 ((old.length : Int) + (fresh.length : Int)) = (old.length : Int) + (fresh.length : Int) := by unfold wrap64; omega
  have hr1 : (cut : Int).tmod 6 = 2 := by rw [Int.tmod_eq_emod_of_nonneg (by omega)]; omega
  have hr2 : (cut : Int) % 6 = 2 := by omega
  clear ho hf hk hkr h6 hc
  go_enter Try.func3, Try.ntmps3
  go_wp2_with fail
  refine LV.out.mono ?_
  rintro e w1 ⟨rfl, B1⟩
  obtain ⟨F, hF⟩ : ∃ F, F = w1.heap.size := ⟨_, rfl⟩
  have NE : Hid (Calls Try.prog 5 #[.int .i64 16777216] w1 fun e w' => e = .returned (.tuple #[.pointer (some ⟨F, 0, none⟩), .int .i64 0]) ∧ FsAt w' F 16777216 none (.slice none 0 0) 0 ∧ Below F w1 w' ∧ w'.heap.size = F + 1) := by rw [hF]; exact New_ok 16777216 w1 (by omega) (by omega)
  have hFw : w.heap.size ≤ F := by rw [hF]; exact B1.size
  have UP : ∀ w', Below F w1 w' → Below w.heap.size w w' := fun w' h => B1.trans (h.mono hFw)
  clear hF
  go_wp2_with fail
  refine NE.out.mono ?_
  rintro e w2 ⟨rfl, F2, B2, s2⟩
  have CR : Hid (Calls Try.prog 6 #[.pointer (some ⟨F, 0, none⟩), .string ⟨#[105, 116]⟩] w2 fun e w' => e = .returned (.int .i64 0) ∧ ∃ m b c, Disk w' F F 16777216 m [(nI, ⟨b, .slice none 0 0, [], 0⟩)] [.cr c sI] ∧ Below F w2 w') := Create_nil F F 16777216 sI w2 F2 (Nat.le_refl _) (by omega) okI
  clear F2 s2
  go_wp2_with fail
  refine CR.out.mono ?_
  rintro e w3 ⟨rfl, m, b, c0, D3, B3⟩
  have K3 := B2.trans B3
  have AP : Hid (Calls Try.prog 7 #[.pointer (some ⟨F, 0, none⟩), .string ⟨#[105, 116]⟩, .slice Po old.length Co] w3 fun e w' => e = .returned (.int .i64 0) ∧ ∃ v', Disk w' F F 16777216 m [(nI, ⟨b, v', old, 0⟩)] [.cr c0 sI] ∧ Below F w3 w') := Append_ok F F m 16777216 sI ⟨b, .slice none 0 0, [], 0⟩ [] [] [.cr c0 sI] old Po Co w3 D3 okI (HO.out.below (UP _ K3)) hCo (by show ((0 : Nat) : Int) + (old.length : Int) ≤ 16777216; omega) (by omega)
  clear D3 B2 B3
  go_wp2_with fail
  refine AP.out.mono ?_
  rintro e w4 ⟨rfl, v4, D4, B4⟩
  have K4 := K3.trans B4
  have SY : Hid (Calls Try.prog 8 #[.pointer (some ⟨F, 0, none⟩), .string ⟨#[105, 116]⟩] w4 fun e w' => e = .returned (.int .i64 0) ∧ Disk w' F F 16777216 m [(nI, ⟨b, v4, old, old.length⟩)] [.cr c0 sI] ∧ Below F w4 w') := Sync_ok F F m 16777216 sI ⟨b, v4, old, 0⟩ [] [] [.cr c0 sI] w4 D4 okI
  clear D4 B4 K3
  go_wp2_with fail
  refine SY.out.mono ?_
  rintro e w5 ⟨rfl, D5, B5⟩
  have K5 := K4.trans B5
  have SNM : Hid (Calls Try.prog 9 #[.pointer (some ⟨F, 0, none⟩)] w5 fun e w' => e = .returned (.int .i64 0) ∧ Disk w' F F 16777216 m [(nI, ⟨b, v4, old, old.length⟩)] [] ∧ Below F w5 w') := SyncNames_disk F F m 16777216 _ _ w5 D5
  clear D5 B5 K4
  go_wp2_with fail
  refine SNM.out.mono ?_
  rintro e w6 ⟨rfl, D6, B6⟩
  have K6 := K5.trans B6
  clear B6 K5
  have C7 : Hid (Calls Try.prog 6 #[.pointer (some ⟨F, 0, none⟩), .string ⟨#[105, 116, 46, 110, 101, 119]⟩] w6 fun e w' => e = .returned (.int .i64 0) ∧ ∃ b2 c, Disk w' F F 16777216 m [(nI, ⟨b, v4, old, old.length⟩), (nN, ⟨b2, .slice none 0 0, [], 0⟩)] [.cr c sN] ∧ Below F w6 w') := Create_more F F m 16777216 sN [(nI, ⟨b, v4, old, old.length⟩)] [] [] w6 D6 okNw rfl (fun _ => rfl) (by simp) (by simp)
  clear D6
  go_wp2_with fail
  refine C7.out.mono ?_
  rintro e w7 ⟨rfl, b2, c, D7, B7⟩
  have K7 := K6.trans B7
  clear B7 K6
  have C8 : Hid (Calls Try.prog 7 #[.pointer (some ⟨F, 0, none⟩), .string ⟨#[105, 116, 46, 110, 101, 119]⟩, .slice Pf fresh.length Cf] w7 fun e w' => e = .returned (.int .i64 0) ∧ ∃ v', Disk w' F F 16777216 m [(nI, ⟨b, v4, old, old.length⟩), (nN, ⟨b2, v', fresh, 0⟩)] [.cr c sN] ∧ Below F w7 w') := Append_ok F F m 16777216 sN ⟨b2, .slice none 0 0, [], 0⟩ [(nI, ⟨b, v4, old, old.length⟩)] [] [.cr c sN] fresh Pf Cf w7 D7 okNw (HF.out.below (UP _ K7)) hCf (by show ((old.length + (0 + 0) : Nat) : Int) + (fresh.length : Int) ≤ 16777216; omega) (by omega)
  clear D7
  go_wp2_with fail
  refine C8.out.mono ?_
  rintro e w8 ⟨rfl, v8, D8, B8⟩
  have K8 := K7.trans B8
  clear B8 K7
  have CS : Hid (Calls Try.prog 11 #[.pointer (some ⟨F, 0, none⟩), .slice Pk keeps.length Ck, .int .i64 names] w8 fun e w' => e = .returned (.tuple #[]) ∧ (∃ Z r, Disk w' F F 16777216 m ((nI, Z) :: r) [] ∧ (fun l : List UInt8 => l = old) Z.l) ∧ Kp F w8 w') :=
    Crash_it F F m 16777216 names keeps Pk Ck [.cr c sN] (fun j ys => (j = 1 ∧ ys = [(nI, ⟨b, v4, old, old.length⟩), (nN, ⟨b2, v8, fresh, 0⟩)]) ∨ (j = 0 ∧ ys = [(nI, (⟨b, v4, old, old.length⟩ : Fl))])) (fun l : List UInt8 => l = old) _ w8 hn (by simp) (fun j u xs w h hd hs => by
      match j, h with
      | 0, h =>
        cases h
        rcases hs with ⟨_, rfl⟩ | ⟨h1, _⟩
        · refine (undoC F F m c 16777216 sN ⟨b2, v8, fresh, 0⟩ [(nI, (⟨b, v4, old, old.length⟩ : Fl))] [] [.cr c sN] w hd okNw (by simp) rfl).mono ?_
          rintro e w' ⟨rfl, hd', hc'⟩
          exact ⟨rfl, ⟨_, hd', Or.inr ⟨rfl, rfl⟩⟩, hc'⟩
        · omega
      | j + 1, h => simp at h) (Or.inl ⟨rfl, rfl⟩) D8 (fun j ys h => by
      rcases h with ⟨_, rfl⟩ | ⟨_, rfl⟩
      · exact ⟨_, _, rfl, rfl, rfl, Or.inr ⟨_, rfl⟩⟩
      · exact ⟨_, _, rfl, rfl, rfl, Or.inl rfl⟩) (fun w' hb => HK.out.below (UP _ (K8.trans hb.1))) HR.out hkl
  clear D8
  go_wp2_with fail
  refine CS.out.mono ?_
  rintro e wc ⟨rfl, ⟨Z, r, DZ, GZ⟩, KZ⟩
  have KC := K8.trans KZ.1
  have RD : Hid (Calls Try.prog 12 #[.pointer (some ⟨F, 0, none⟩), .string ⟨#[105, 116]⟩] wc fun e w' => ∃ v', e = .returned (.tuple #[v', .int .i64 0]) ∧ ownsB w' wc.heap.size v' Z.l ∧ wc.grownBy w' none) := Read_ok F F m 16777216 sI Z [] r [] wc DZ okI
  have bz := DZ.bs
  clear DZ KZ K8
  obtain ⟨l, hl⟩ : ∃ l, l = Z.l := ⟨_, rfl⟩
  rw [← hl] at RD GZ
  clear hl
  go_wp2_with fail
  refine RD.out.mono ?_
  rintro e wd ⟨vd, rfl, od, gd⟩
  have KD : Below F w1 wd := KC.trans (below_own gd bz (fun g e => by cases e))
  have BD := UP _ KD
  have cb := conv_own od
  have co := conv_by (HO.out.below BD) hCo
  have cfr := conv_by (HF.out.below BD) hCf
  obtain ⟨PD, CD, rfl⟩ := own_form od
  clear od gd KC bz
  replace GZ : l = old := GZ
  have GY := GZ.symm; subst GY; clear GZ
  generalize (⟨old.toArray⟩ : ByteArray) = so at *
  generalize (⟨fresh.toArray⟩ : ByteArray) = sf at *
  go_wp2_with fail
  go_ret
  exact ⟨by first | rfl | simp, BD⟩
end Go.Proofs.Ytlfcmhofpieacaa
