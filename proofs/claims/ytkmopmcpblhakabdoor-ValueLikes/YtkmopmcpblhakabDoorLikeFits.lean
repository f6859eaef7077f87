/-
  The walks of value.takes and value.fits: fits answers whether the text is as the marks say.
-/
import Derived.Test.YtkmopmcpblhakabDoorProg
import Derived.Test.YtkmopmcpblhakabDoorLikeMath
import Derived.WalkKit
import Derived.WalkSpells
import Derived.WalkLawsBesides
import Derived.BigQuiet
import Derived.Deep.RegionHeld3
namespace Go.Proofs.YtkmopmcpblhakabDoor
open Go.RowKit

set_option maxHeartbeats 400000 in
theorem takes_any (k c r : Int) (w : World) :
    Calls Tryd.prog 27 #[.agg #[.int .i64 k, .int .i32 c], .int .i32 r] w fun e w' => e = .returned (.bool (LikeM.takes (k, c) r)) ∧ Below w.heap.size w w' := by
  by_cases h : k = 1
  · have h1 : (k == 1) = true := by simp [h]
    go_enter Tryd.func27, Tryd.ntmps27
    go_wp2
    go_ret
    exact ⟨by simp [LikeM.takes, h], (Below.refl _ _).alloc (Nat.le_refl _) _⟩
  · have h1 : (k == 1) = false := by simp [h]
    go_enter Tryd.func27, Tryd.ntmps27
    go_wp2
    go_ret
    exact ⟨by simp [LikeM.takes, h], (Below.refl _ _).alloc (Nat.le_refl _) _⟩

theorem ret_bool {a b : Bool} (h : a = b) : Ending.returned (.bool a) = .returned (.bool b) := by rw [h]

/-- the marks as cells: kind, character -/
def marksAt (w : World) (am : Option Addr) (ms : List LikeM.Mk) : Prop :=
  ∀ i m, ms[i]? = some m → ∃ g, am = some ⟨g, 0, none⟩ ∧ g < w.heap.size ∧ w.cell? ⟨g, i * 2, none⟩ = some (.int .i64 m.1) ∧ w.cell? ⟨g, i * 2 + 1, none⟩ = some (.int .i32 m.2)
def runesAt (w : World) (g : Nat) (t : List Int) : Prop :=
  g < w.heap.size ∧ ∀ i c, t[i]? = some c → w.cell? ⟨g, i, none⟩ = some (.int .i32 c)

open Classical in
set_option maxHeartbeats 1000000 in
set_option maxRecDepth 1000000 in
theorem fits_any (g ct cm : Nat) (am : Option Addr) (t : List Int) (ms : List LikeM.Mk) (w : World) (ht : runesAt w g t) (hm : marksAt w am ms) (hl1 : t.length ≤ 1000000) (hl2 : ms.length ≤ 1000000) :
    Calls Tryd.prog 13 #[.slice (some ⟨g, 0, none⟩) t.length ct, .slice am ms.length cm] w fun e w' => e = .returned (.bool (decide (LikeM.M ms t))) ∧ Below w.heap.size w w' := by
  go_enter Tryd.func13, Tryd.ntmps13
  go_wp2
  go_loopw [5, 6, 7, 8] (fun sa sn sl sf wr => ∃ a n l f : Nat, sa = .int .i64 a ∧ sn = .int .i64 n ∧ sl = .int .i64 ((l : Int) - 1) ∧ sf = .int .i64 f ∧ LikeM.Inv ms t a n l f ∧ Below w.heap.size w wr)
    (fun sa sn _ sf _ => (t.length - (intOf sf).toNat) * (t.length + ms.length + 2) + (t.length - (intOf sa).toNat) + (ms.length - (intOf sn).toNat))
  case atStart => exact ⟨0, 0, 0, 0, rfl, rfl, rfl, rfl, LikeM.Inv.start ms t, Below.refl _ _⟩
  case round =>
    obtain ⟨a, n, l, f, rfl, rfl, rfl, rfl, I, hb⟩ := hrel
    have h1 := I.ale; have h2 := I.nle; have h3 := I.fle; have h4 := I.lle
    by_cases ha : a < t.length
    · obtain ⟨c, hc⟩ : ∃ c, t[a]? = some c := ⟨t[a], List.getElem?_eq_getElem ha⟩
      have hcc := (hb.cell (p := ⟨g, a, none⟩) ht.1).trans (ht.2 a c hc)
      by_cases hn : n < ms.length
      · obtain ⟨⟨k, r⟩, hmn⟩ : ∃ m, ms[n]? = some m := ⟨ms[n], List.getElem?_eq_getElem hn⟩
        obtain ⟨gm, rfl, hgm, hk, hr⟩ := hm n (k, r) hmn
        have hkk := (hb.cell (p := ⟨gm, n * 2, none⟩) hgm).trans hk
        have hrr := (hb.cell (p := ⟨gm, n * 2 + 1, none⟩) hgm).trans hr
        have hgmw : gm < wr.heap.size := by have := hb.size; omega
        have hgw : g < wr.heap.size := by have := hb.size; have := ht.1; omega
        by_cases hk2 : k = 2
        · have hkb : (k == 2) = true := by simp [hk2]
          have HI := I.many hmn hk2
          clear hk hr hk2
          go_wp2_with fail
          go_roundw
          case rel => exact ⟨a, n + 1, n + 1, a, rfl, by go_num, by go_num, rfl, HI, hb⟩
          case measure => exact LikeM.meas_many t.length ms.length a n f h3 hn
        · have hkb : (k == 2) = false := by simp [hk2]
          clear hk hr
          cases htk : LikeM.takes (k, r) c
          · have hst : LikeM.Stuck ms t a n := ⟨ha, Or.inr ⟨(k, r), c, hmn, hc, hk2, htk⟩⟩
            by_cases hl : 0 < l
            · have HI := I.back hl hst
              clear hk2 hst
              go_wp2_with fail
              go_region_held3 (fun w' => w'.cell? ⟨gm, n * 2, none⟩ = some (.int .i64 k) ∧ w'.cell? ⟨gm, n * 2 + 1, none⟩ = some (.int .i32 r) ∧ w'.cell? ⟨g, a, none⟩ = some (.int .i32 c)) (first | go_keep | exact ⟨(hb2.cell (p := ⟨gm, n * 2, none⟩) hgmw).trans hkk, (hb2.cell (p := ⟨gm, n * 2 + 1, none⟩) hgmw).trans hrr, (hb2.cell (p := ⟨g, a, none⟩) hgw).trans hcc⟩) ((go_at_call 27; refine (takes_any k r c _).mono ?_; rintro e w' ⟨rfl, hb2⟩))
              go_wp2_with fail
              go_roundw
              case rel => exact ⟨f + 1, l, l, f + 1, by go_num, by go_num, by go_num, by go_num, HI, hb.drew.trans (hb2.mono (by simpa using hb.size))⟩
              case measure => exact LikeM.meas_back t.length ms.length a n l f h3 ha
            · obtain rfl : l = 0 := by omega
              have HF := I.fails hst
              clear hk2 hst
              go_wp2_with fail
              go_region_held3 (fun w' => w'.cell? ⟨gm, n * 2, none⟩ = some (.int .i64 k) ∧ w'.cell? ⟨gm, n * 2 + 1, none⟩ = some (.int .i32 r) ∧ w'.cell? ⟨g, a, none⟩ = some (.int .i32 c)) (first | go_keep | exact ⟨(hb2.cell (p := ⟨gm, n * 2, none⟩) hgmw).trans hkk, (hb2.cell (p := ⟨gm, n * 2 + 1, none⟩) hgmw).trans hrr, (hb2.cell (p := ⟨g, a, none⟩) hgw).trans hcc⟩) ((go_at_call 27; refine (takes_any k r c _).mono ?_; rintro e w' ⟨rfl, hb2⟩))
              go_wp2_with fail
              go_ret
              exact ⟨by first | rfl | exact ret_bool (decide_eq_false HF).symm, hb.drew.trans (hb2.mono (by simpa using hb.size))⟩
          · have HI := I.take hmn hc hk2 htk
            go_wp2_with fail
            go_region_held3 (fun w' => w'.cell? ⟨gm, n * 2, none⟩ = some (.int .i64 k) ∧ w'.cell? ⟨gm, n * 2 + 1, none⟩ = some (.int .i32 r) ∧ w'.cell? ⟨g, a, none⟩ = some (.int .i32 c)) (first | go_keep | exact ⟨(hb2.cell (p := ⟨gm, n * 2, none⟩) hgmw).trans hkk, (hb2.cell (p := ⟨gm, n * 2 + 1, none⟩) hgmw).trans hrr, (hb2.cell (p := ⟨g, a, none⟩) hgw).trans hcc⟩) ((go_at_call 27; refine (takes_any k r c _).mono ?_; rintro e w' ⟨rfl, hb2⟩))
            go_wp2_with fail
            go_roundw
            case rel => exact ⟨a + 1, n + 1, l, f, by go_num, by go_num, rfl, rfl, HI, hb.drew.trans (hb2.mono (by simpa using hb.size))⟩
            case measure => exact LikeM.meas_take t.length ms.length a n f hn
      · have hst : LikeM.Stuck ms t a n := ⟨ha, Or.inl (by omega)⟩
        have hd : decide ((n : Int) < (ms.length : Int)) = false := by simp; omega
        by_cases hl : 0 < l
        · have HI := I.back hl hst
          clear hst
          go_wp2_with fail
          go_quiet (fail)
          go_wp2_with fail
          go_roundw
          case rel => exact ⟨f + 1, l, l, f + 1, by go_num, by go_num, by go_num, by go_num, HI, below_drewN hb _⟩
          case measure => exact LikeM.meas_back t.length ms.length a n l f h3 ha
        · obtain rfl : l = 0 := by omega
          have HF := I.fails hst
          clear hst
          go_wp2_with fail
          go_quiet (fail)
          go_wp2_with fail
          go_ret
          exact ⟨by first | rfl | exact ret_bool (decide_eq_false HF).symm, below_drewN hb _⟩
    · have HE := I.ends (by omega)
      go_wp2_with fail
      go_loop [6] (fun sn => ∃ n' : Nat, sn = .int .i64 n' ∧ n' ≤ ms.length ∧ (LikeM.M ms t ↔ LikeM.M (ms.drop n') [])) (fun sn => ms.length - (intOf sn).toNat)
      case atStart => exact ⟨n, rfl, h2, HE⟩
      case round =>
        obtain ⟨n', rfl, hn', HE'⟩ := hrel
        by_cases hn : n' < ms.length
        · obtain ⟨⟨k, r⟩, hmn⟩ : ∃ m, ms[n']? = some m := ⟨ms[n'], List.getElem?_eq_getElem hn⟩
          obtain ⟨gm, rfl, hgm, hk, hr⟩ := hm n' (k, r) hmn
          have hkk := (hb.cell (p := ⟨gm, n' * 2, none⟩) hgm).trans hk
          by_cases hk2 : k = 2
          · have hkb : (k == 2) = true := by simp [hk2]
            have HE2 := HE'.trans (LikeM.end_many hmn hk2)
            clear hk hr hk2 HE' HE
            go_wp2_with fail
            go_round
            case rel => exact ⟨n' + 1, by go_num, hn, HE2⟩
            case measure => simp [intOf]; omega
          · have hkb : (k == 2) = false := by simp [hk2]
            have HE2 : ¬ LikeM.M ms t := fun h => LikeM.end_stop hmn hk2 (HE'.1 h)
            have hne : ((n' : Int) == (ms.length : Int)) = false := by rw [beq_eq_false_iff_ne]; omega
            clear hk hr hk2 HE' HE
            go_wp2_with fail
            go_ret
            exact ⟨by first | rfl | exact ret_bool (decide_eq_false HE2).symm, hb⟩
        · have HE2 : LikeM.M ms t := HE'.2 (LikeM.end_all (by omega))
          have hne : ((n' : Int) == (ms.length : Int)) = true := by rw [beq_iff_eq]; omega
          clear HE' HE
          go_wp2_with fail
          go_ret
          exact ⟨by first | rfl | exact ret_bool (decide_eq_true HE2).symm, hb⟩
end Go.Proofs.YtkmopmcpblhakabDoor
