/-
  The walk of lockstepref01.like: the table that goes through the pattern mark by mark.
-/
import Derived.Test.YtkmopmcpblhakabDoorLikeRunes
import Derived.BigQuiet
namespace Go.Proofs.YtkmopmcpblhakabDoor
open Go.RowKit

open Classical in
/-- the table's row behind the marks ms, its first k + 1 places filled -/
noncomputable def partRow (ms : List LikeM.Mk) (t : List Int) (k : Nat) : List Bool := (List.range (t.length + 1)).map fun j => if j ≤ k then decide (LikeM.M ms (t.take j)) else false
noncomputable def rowOf (ms : List LikeM.Mk) (t : List Int) : List Bool := partRow ms t t.length

theorem partRow_len (ms : List LikeM.Mk) (t : List Int) (k : Nat) : (partRow ms t k).length = t.length + 1 := by simp [partRow]
open Classical in
theorem partRow_at (ms : List LikeM.Mk) (t : List Int) (k j : Nat) (hj : j ≤ t.length) : (partRow ms t k)[j]? = some (if j ≤ k then decide (LikeM.M ms (t.take j)) else false) := by
  simp [partRow, List.getElem?_range (show j < t.length + 1 by omega)]
open Classical in
theorem partRow_succ (ms : List LikeM.Mk) (t : List Int) (k : Nat) (b : Bool) (hb : b = decide (LikeM.M ms (t.take (k + 1)))) : (partRow ms t k).set (k + 1) b = partRow ms t (k + 1) := by
  apply List.ext_getElem?
  intro j
  by_cases hj : j ≤ t.length
  · rw [List.getElem?_set, partRow_at _ _ _ _ hj, partRow_at _ _ _ _ hj, partRow_len]
    by_cases e : k + 1 = j
    · subst e; simp [hb]; omega
    · rw [if_neg e]
      by_cases h1 : j ≤ k
      · rw [if_pos h1, if_pos (by omega)]
      · rw [if_neg h1, if_neg (by omega)]
  · rw [List.getElem?_eq_none (by rw [List.length_set, partRow_len]; omega), List.getElem?_eq_none (by rw [partRow_len]; omega)]
open Classical in
theorem partRow_zero (ms : List LikeM.Mk) (t : List Int) (b : Bool) (hb : b = decide (LikeM.M ms [])) : (List.replicate (t.length + 1) false).set 0 b = partRow ms t 0 := by
  apply List.ext_getElem?
  intro j
  by_cases hj : j ≤ t.length
  · rw [List.getElem?_set, partRow_at _ _ _ _ hj, List.length_replicate]
    by_cases e : 0 = j
    · subst e; rw [if_pos rfl, if_pos (by omega), if_pos (Nat.le_refl _), hb]; rfl
    · rw [if_neg e, if_neg (by omega), List.getElem?_replicate, if_pos (by omega)]
  · rw [List.getElem?_eq_none (by rw [List.length_set, List.length_replicate]; omega), List.getElem?_eq_none (by rw [partRow_len]; omega)]
open Classical in
theorem rowOf_nil (t : List Int) : (List.replicate (t.length + 1) false).set 0 true = rowOf [] t := by
  apply List.ext_getElem?
  intro j
  by_cases hj : j ≤ t.length
  · rw [rowOf, List.getElem?_set, partRow_at _ _ _ _ hj, List.length_replicate, if_pos hj]
    by_cases e : 0 = j
    · subst e; simp [LikeM.M_nil]
    · rw [if_neg e, List.getElem?_replicate, if_pos (by omega), decide_eq_false]
      rw [LikeM.M_nil]; intro h; have := congrArg List.length h; rw [List.length_take, List.length_nil] at this; omega
  · rw [List.getElem?_eq_none (by rw [List.length_set, List.length_replicate]; omega), List.getElem?_eq_none (by rw [rowOf, partRow_len]; omega)]

theorem take_at {t : List Int} {k : Nat} {c : Int} (h : t[k]? = some c) : t.take (k + 1) = t.take k ++ [c] := by
  obtain ⟨hk, rfl⟩ := List.getElem?_eq_some_iff.1 h
  exact List.take_succ_eq_append_getElem hk

open Classical in
theorem cell_many (ms : List LikeM.Mk) (m : LikeM.Mk) (hm : m.1 = 2) (t : List Int) (k : Nat) (hk : k < t.length) (b : Bool) (hb : b = (decide (LikeM.M ms (t.take (k + 1))) || decide (LikeM.M (ms ++ [m]) (t.take k)))) : b = decide (LikeM.M (ms ++ [m]) (t.take (k + 1))) := by
  rw [hb, take_at (List.getElem?_eq_getElem hk), Bool.eq_iff_iff]
  simp only [Bool.or_eq_true, decide_eq_true_eq]
  exact (LikeM.row_succ_many ms m hm _ _).symm
open Classical in
theorem cell_one (ms : List LikeM.Mk) (m : LikeM.Mk) (hm : m.1 ≠ 2) (t : List Int) (k : Nat) (c : Int) (hk : t[k]? = some c) (b : Bool) (hb : b = (decide (LikeM.M ms (t.take k)) && LikeM.takes m c)) : b = decide (LikeM.M (ms ++ [m]) (t.take (k + 1))) := by
  rw [hb, take_at hk, Bool.eq_iff_iff]
  simp only [Bool.and_eq_true, decide_eq_true_eq]
  exact (LikeM.row_succ_one ms m hm _ _).symm

/-- a row of bools that the call made -/
def BRow (w : World) (base g : Nat) (l : List Bool) : Prop := w.ownsRow base 4 1 (.slice (some ⟨g, 0, none⟩) l.length l.length) l.length (l.map Value.bool)
theorem BRow.cell {w : World} {base g : Nat} {l : List Bool} (h : BRow w base g l) {j : Nat} {b : Bool} (hj : l[j]? = some b) : w.cell? ⟨g, j, none⟩ = some (.bool b) := by
  have := World.ownsRow.cellAt h j (by simpa using (List.getElem?_eq_some_iff.1 hj).1)
  rw [this]; simp [hj]
theorem BRow.frozen {w : World} {base g : Nat} {l : List Bool} (h : BRow w base g l) (j : Nat) : w.frozen? ⟨g, j, none⟩ = false := World.ownsRow.frozenAt h j
theorem BRow.stored {w : World} {base g : Nat} {l : List Bool} (h : BRow w base g l) (j : Nat) (b : Bool) : BRow (w.setCell ⟨g, j, none⟩ (.bool b)) base g (l.set j b) ∧ w.grownBy (w.setCell ⟨g, j, none⟩ (.bool b)) (some g) := by
  have := World.ownsRow.stored h j (.bool b)
  refine ⟨?_, this.2⟩
  unfold BRow
  rw [List.length_set, List.map_set]
  exact this.1
theorem BRow.base {w : World} {base g : Nat} {l : List Bool} (h : BRow w base g l) : base ≤ g ∧ g < w.heap.size := World.ownsRow.lt h g rfl
theorem BRow.kept {w w' : World} {base g : Nat} {l : List Bool} {row : Option Nat} (h : BRow w base g l) (hg : w.grownBy w' row) (hne : some g ≠ row) : BRow w' base g l := World.ownsRow.kept h hg (Or.inr hne)
theorem BRow.drew {w : World} {base g : Nat} {l : List Bool} (h : BRow w base g l) (n : Nat) : BRow (w.drewN n) base g l := h

theorem brow_made {w : World} {base g n : Nat} (h : w.ownsRow base 4 1 (.slice (some ⟨g, 0, none⟩) n n) n (madeCells (Value.bool false).cells (n * 1)).toList) : BRow w base g (List.replicate n false) := by
  unfold BRow
  rw [List.length_replicate, List.map_replicate]
  have e : (madeCells (Value.bool false).cells (n * 1)).toList = List.replicate n (Value.bool false) := by
    rw [Nat.mul_one]; exact toList_madeCells_one _ _
  rw [e] at h
  exact h

open Classical in
theorem BRow.at_row {w : World} {base g : Nat} {ms : List LikeM.Mk} {t : List Int} (h : BRow w base g (rowOf ms t)) {j : Nat} (hj : j ≤ t.length) : ∃ x : Bool, Hid (x = decide (LikeM.M ms (t.take j))) ∧ w.cell? ⟨g, j, none⟩ = some (.bool x) :=
  ⟨_, rfl, h.cell (by rw [rowOf, partRow_at _ _ _ _ hj, if_pos hj])⟩
open Classical in
theorem BRow.at_part {w : World} {base g : Nat} {ms : List LikeM.Mk} {t : List Int} {k : Nat} (h : BRow w base g (partRow ms t k)) {j : Nat} (hj : j ≤ t.length) (hk : j ≤ k) : ∃ x : Bool, Hid (x = decide (LikeM.M ms (t.take j))) ∧ w.cell? ⟨g, j, none⟩ = some (.bool x) :=
  ⟨_, rfl, h.cell (by rw [partRow_at _ _ _ _ hj, if_pos hk])⟩
theorem BRow.there {w : World} {base g : Nat} {ms : List LikeM.Mk} {t : List Int} {k : Nat} (h : BRow w base g (partRow ms t k)) {j : Nat} (hj : j ≤ t.length) : ∃ x : Bool, w.cell? ⟨g, j, none⟩ = some (.bool x) :=
  ⟨_, h.cell (partRow_at _ _ _ _ hj)⟩
theorem scan_take {p : List Int} {i : Nat} {c : Int} {ms : List LikeM.Mk} {e : Bool} (h : LikeM.scan (p.take i) = (ms, e)) (hc : p[i]? = some c) : LikeM.scan (p.take (i + 1)) = LikeM.step (ms, e) c := by
  rw [take_at hc, LikeM.scan_snoc, h]

theorem takes_char (c d : Int) : LikeM.takes (0, c) d = (d == c) := by
  rw [Bool.eq_iff_iff]; simp [LikeM.takes]; exact ⟨Eq.symm, Eq.symm⟩

theorem Tryd.info4 : (Tryd.prog.info? 4).map (fun i => (i.zero, i.size, i.bytes)) = some (some (.bool false), 1, 1) := by kernel_rfl

open Classical in
noncomputable def likeOf (t p : List Int) : Value := if (LikeM.scan p).2 = true then .tuple #[.bool false, .int .i64 3] else .tuple #[.bool (decide (LikeM.M (LikeM.scan p).1 t)), .int .i64 0]

def runesAt' (w : World) (g : Nat) (t : List Int) : Prop :=
  g < w.heap.size ∧ ∀ i c, t[i]? = some c → w.cell? ⟨g, i, none⟩ = some (.int .i32 c)

open Classical in
set_option maxHeartbeats 8000000 in
set_option maxRecDepth 1000000 in
theorem like_any (gs cs gp cp : Nat) (t p : List Int) (w : World) (hts : runesAt' w gs t) (hps : runesAt' w gp p) (hl1 : t.length ≤ 4096) (hl2 : p.length ≤ 4096) :
    Calls Tryd.prog 15 #[.slice (some ⟨gs, 0, none⟩) t.length cs, .slice (some ⟨gp, 0, none⟩) p.length cp] w fun e w' => e = .returned (likeOf t p) ∧ Below w.heap.size w w' := by
  obtain ⟨i0, hi, hz0, hz1, hz2⟩ := info_parts Tryd.info4
  go_enter Tryd.func15, Tryd.ntmps15
  go_wp2_with (at_make; refine wpList_make_full _ rfl _ _ 57 rfl w.heap.size 4 i0 (.bool false) 1 Tryd.underlying57 hi hz0 hz1 .i64 .i64 _ _ (t.length + 1) rfl rfl (by omega) (by omega) (by rw [hz2]; omega) (by simp [maxLen]; omega) (by simp) ?_; intro w1 hown hgrow; have hB := brow_made hown; have hc0 := hB.cell (j := 0) (b := false) (by simp); have hf0 := hB.frozen 0; clear hown)
  have hB2 := (hB.stored 0 true).1
  rw [rowOf_nil] at hB2
  have hb2 : Below w.heap.size w (w1.setCell ⟨w.heap.size, 0, none⟩ (.bool true)) := ((Below.refl _ w).grown hgrow (Nat.le_refl _) (fun _ h => by cases h)).setCell (Nat.le_refl _) _
  clear hc0 hf0 hB hgrow
  go_loopw [6, 7] (fun sr si wr => ∃ (gr i : Nat) (ms : List LikeM.Mk), sr = .slice (some ⟨gr, 0, none⟩) (t.length + 1) (t.length + 1) ∧ si = .int .i64 i ∧ i ≤ p.length ∧ Hid (LikeM.scan (p.take i) = (ms, false)) ∧ BRow wr w.heap.size gr (rowOf ms t) ∧ Below w.heap.size w wr)
    (fun _ si _ => p.length - (intOf si).toNat)
  case atStart => exact ⟨w.heap.size, 0, [], rfl, rfl, Nat.zero_le _, rfl, hB2, hb2⟩
  case round =>
    obtain ⟨gr, i, ms, rfl, rfl, hip, hsc, hR, hb⟩ := hrel
    clear hB2 hb2
    by_cases hlt : i < p.length
    · obtain ⟨c, hc⟩ : ∃ c, p[i]? = some c := ⟨p[i], List.getElem?_eq_getElem hlt⟩
      have hcc := (hb.cell (p := ⟨gp, i, none⟩) hps.1).trans (hps.2 i c hc)
      go_wp2_with (at_make; refine wpList_make_full _ rfl _ _ 57 rfl w.heap.size 4 i0 (.bool false) 1 Tryd.underlying57 hi hz0 hz1 .i64 .i64 _ _ (t.length + 1) rfl rfl (by omega) (by omega) (by rw [hz2]; omega) (by simp [maxLen]; omega) (by simpa using hb.size) ?_; intro w2 hown hgrow)
      have hB := brow_made hown
      have hR2 := hR.kept hgrow (by simp)
      have hb2 : Below w.heap.size w w2 := hb.grown hgrow hb.size (fun _ h => by cases h)
      have hcc2 := (hb2.cell (p := ⟨gp, i, none⟩) hps.1).trans (hps.2 i c hc)
      have hne : some gr ≠ some wr.heap.size := by have := hR.base.2; simp; omega
      have hle := hb.size
      clear hown hgrow hcc hR hb
      generalize wr.heap.size = gn at *
      have hcB := hB.cell (j := 0) (b := false) (by simp)
      have hfB := hB.frozen 0
      by_cases h92 : c = 92
      · subst h92
        have hs1 : LikeM.scan (p.take (i + 1)) = (ms, true) := by rw [scan_take hsc.out hc]; simp [LikeM.step]
        by_cases h2 : i + 1 < p.length
        · obtain ⟨c2, hc2⟩ : ∃ c, p[i + 1]? = some c := ⟨p[i + 1], List.getElem?_eq_getElem h2⟩
          have hcc3 := (hb2.cell (p := ⟨gp, i + 1, none⟩) hps.1).trans (hps.2 (i + 1) c2 hc2)
          have HS : Hid (LikeM.scan (p.take (i + 1 + 1)) = (ms ++ [(0, c2)], false)) := by show _ = _; rw [scan_take hs1 hc2]; simp [LikeM.step]
          have hbn : (((i : Int) + 1) == (p.length : Int)) = false := by rw [beq_eq_false_iff_ne]; omega
          clear hs1
          have hz : Hid ((List.replicate (t.length + 1) false).set 0 false = partRow (ms ++ [(0, c2)]) t 0) := partRow_zero _ _ _ ((decide_eq_false (LikeM.row_zero_one ms (0, c2) (by simp))).symm)
          go_wp2_with fail
          go_quiet (fail)
          go_wp2_with fail
          have hB3 := (hB.stored 0 false).1
          rw [hz.out] at hB3
          have hR3 := hR2.kept (hB.stored 0 false).2 hne
          have hb3 : Below w.heap.size w (w2.setCell ⟨gn, 0, none⟩ (.bool false)) := hb2.setCell hle _
          go_loopw [12] (fun sk wq => ∃ k : Nat, sk = .int .i64 k ∧ k ≤ t.length ∧ BRow wq w.heap.size gn (partRow (ms ++ [(0, c2)]) t k) ∧ BRow wq w.heap.size gr (rowOf ms t) ∧ Below w.heap.size w wq) (fun sk _ => t.length - (intOf sk).toNat)
          case atStart => exact ⟨0, rfl, Nat.zero_le _, hB3.drew _, hR3.drew _, below_drewN hb3 _⟩
          case round =>
            obtain ⟨k, rfl, hkT, hN, hO, hbq⟩ := hrel
            clear hB3 hR3 hb3 hB hR2 hb2 hcc2 hcB hfB hz 
            by_cases hk : k < t.length
            · obtain ⟨d, hd⟩ : ∃ d, t[k]? = some d := ⟨t[k], List.getElem?_eq_getElem hk⟩
              have hdd := (hbq.cell (p := ⟨gs, k, none⟩) hts.1).trans (hts.2 k d hd)
              obtain ⟨y1, hy1⟩ := hN.there (j := k + 1) hk
              have hfz := hN.frozen (k + 1)
              obtain ⟨x1, hx1, hrc1⟩ := hO.at_row (j := k) hkT
              cases x1
              · have E : false = decide (LikeM.M (ms ++ [(0, c2)]) (t.take (k + 1))) := cell_one ms (0, c2) (by simp) t k d hd false (by rw [← hx1.out]; rfl)
                have HN := (hN.stored (k + 1) false).1
                rw [partRow_succ (ms ++ [(0, c2)]) t k false (E)] at HN
                have HO := hO.kept (hN.stored (k + 1) false).2 hne
                have HB : Below w.heap.size w (wr.setCell ⟨gn, k + 1, none⟩ (.bool false)) := hbq.setCell hle _
                clear hN hO hbq
                clear E
                go_wp2_with fail
                go_roundw
                case rel => exact ⟨k + 1, by go_num, hk, HN, HO, HB⟩
                case measure => simp [intOf]; omega
              · have E : (d == c2) = decide (LikeM.M (ms ++ [(0, c2)]) (t.take (k + 1))) := cell_one ms (0, c2) (by simp) t k d hd (d == c2) (by rw [← hx1.out, takes_char]; rfl)
                have HN := (hN.stored (k + 1) (d == c2)).1
                rw [partRow_succ (ms ++ [(0, c2)]) t k (d == c2) (E)] at HN
                have HO := hO.kept (hN.stored (k + 1) (d == c2)).2 hne
                have HB : Below w.heap.size w (wr.setCell ⟨gn, k + 1, none⟩ (.bool (d == c2))) := hbq.setCell hle _
                clear hN hO hbq
                clear E
                go_wp2_with fail
                go_roundw
                case rel => exact ⟨k + 1, by go_num, hk, HN, HO, HB⟩
                case measure => simp [intOf]; omega
            · obtain rfl : k = t.length := by omega
              go_wp2_with fail
              go_roundw
              case rel => exact ⟨gn, i + 1 + 1, ms ++ [(0, c2)], rfl, by go_num, h2, HS, hN, hbq⟩
              case measure => simp [intOf]; omega
        · have hbn : (((i : Int) + 1) == (p.length : Int)) = true := by rw [beq_iff_eq]; omega
          rw [List.take_of_length_le (by omega)] at hs1
          have HS : Hid (LikeM.scan p = (ms, true)) := hs1
          clear hs1
          go_wp2_with fail
          go_quiet (fail)
          go_wp2_with fail
          go_ret2
          refine ⟨?_, below_drewN hb2 _⟩
          unfold likeOf
          rw [HS.out]
          rfl
      · have b92 : (c == 92) = false := by rw [beq_eq_false_iff_ne]; exact h92
        by_cases h37 : c = 37
        · subst h37
          have HS : Hid (LikeM.scan (p.take (i + 1)) = (ms ++ [(2, 0)], false)) := by show _ = _; rw [scan_take hsc.out hc]; simp [LikeM.step]
          obtain ⟨x0, hx0, hrc⟩ := hR2.at_row (Nat.zero_le _)
          have hz : Hid ((List.replicate (t.length + 1) false).set 0 x0 = partRow (ms ++ [(2, 0)]) t 0) := partRow_zero _ _ _ (by have h := hx0.out; rw [h, Bool.eq_iff_iff]; simp only [decide_eq_true_eq]; exact (LikeM.row_zero_many ms (2, 0) rfl).symm)
          go_wp2_with fail
          go_quiet (fail)
          go_wp2_with fail
          have hB3 := (hB.stored 0 x0).1
          rw [hz.out] at hB3
          have hR3 := hR2.kept (hB.stored 0 x0).2 hne
          have hb3 : Below w.heap.size w (w2.setCell ⟨gn, 0, none⟩ (.bool x0)) := hb2.setCell hle _
          go_loopw [12] (fun sk wq => ∃ k : Nat, sk = .int .i64 k ∧ k ≤ t.length ∧ BRow wq w.heap.size gn (partRow (ms ++ [(2, 0)]) t k) ∧ BRow wq w.heap.size gr (rowOf ms t) ∧ Below w.heap.size w wq) (fun sk _ => t.length - (intOf sk).toNat)
          case atStart => exact ⟨0, rfl, Nat.zero_le _, hB3.drew _, hR3.drew _, below_drewN hb3 _⟩
          case round =>
            obtain ⟨k, rfl, hkT, hN, hO, hbq⟩ := hrel
            clear hB3 hR3 hb3 hB hR2 hb2 hcc2 hcB hfB hz hx0 hrc
            by_cases hk : k < t.length
            · obtain ⟨d, hd⟩ : ∃ d, t[k]? = some d := ⟨t[k], List.getElem?_eq_getElem hk⟩
              have hdd := (hbq.cell (p := ⟨gs, k, none⟩) hts.1).trans (hts.2 k d hd)
              obtain ⟨y1, hy1⟩ := hN.there (j := k + 1) hk
              have hfz := hN.frozen (k + 1)
              obtain ⟨x1, hx1, hrc1⟩ := hO.at_row (j := k + 1) hk
              obtain ⟨x2, hx2, hrc2⟩ := hN.at_part (j := k) hkT (Nat.le_refl _)
              cases x1
              · have E : x2 = decide (LikeM.M (ms ++ [(2, 0)]) (t.take (k + 1))) := cell_many ms (2, 0) rfl t k hk x2 (by rw [← hx1.out, ← hx2.out]; rfl)
                have HN := (hN.stored (k + 1) x2).1
                rw [partRow_succ (ms ++ [(2, 0)]) t k x2 (E)] at HN
                have HO := hO.kept (hN.stored (k + 1) x2).2 hne
                have HB : Below w.heap.size w (wr.setCell ⟨gn, k + 1, none⟩ (.bool x2)) := hbq.setCell hle _
                clear hN hO hbq
                clear E
                go_wp2_with fail
                go_roundw
                case rel => exact ⟨k + 1, by go_num, hk, HN, HO, HB⟩
                case measure => simp [intOf]; omega
              · have E : true = decide (LikeM.M (ms ++ [(2, 0)]) (t.take (k + 1))) := cell_many ms (2, 0) rfl t k hk true (by rw [← hx1.out, ← hx2.out]; rfl)
                have HN := (hN.stored (k + 1) true).1
                rw [partRow_succ (ms ++ [(2, 0)]) t k true (E)] at HN
                have HO := hO.kept (hN.stored (k + 1) true).2 hne
                have HB : Below w.heap.size w (wr.setCell ⟨gn, k + 1, none⟩ (.bool true)) := hbq.setCell hle _
                clear hN hO hbq
                clear E
                go_wp2_with fail
                go_roundw
                case rel => exact ⟨k + 1, by go_num, hk, HN, HO, HB⟩
                case measure => simp [intOf]; omega
            · obtain rfl : k = t.length := by omega
              go_wp2_with fail
              go_roundw
              case rel => exact ⟨gn, i + 1, ms ++ [(2, 0)], rfl, by go_num, hlt, HS, hN, hbq⟩
              case measure => simp [intOf]; omega
        · have b37 : (c == 37) = false := by rw [beq_eq_false_iff_ne]; exact h37
          by_cases h95 : c = 95
          · subst h95
            have HS : Hid (LikeM.scan (p.take (i + 1)) = (ms ++ [(1, 0)], false)) := by show _ = _; rw [scan_take hsc.out hc]; simp [LikeM.step]
            have hz : Hid ((List.replicate (t.length + 1) false).set 0 false = partRow (ms ++ [(1, 0)]) t 0) := partRow_zero _ _ _ ((decide_eq_false (LikeM.row_zero_one ms (1, 0) (by simp))).symm)
            go_wp2_with fail
            go_quiet (fail)
            go_wp2_with fail
            have hB3 := (hB.stored 0 false).1
            rw [hz.out] at hB3
            have hR3 := hR2.kept (hB.stored 0 false).2 hne
            have hb3 : Below w.heap.size w (w2.setCell ⟨gn, 0, none⟩ (.bool false)) := hb2.setCell hle _
            go_loopw [12] (fun sk wq => ∃ k : Nat, sk = .int .i64 k ∧ k ≤ t.length ∧ BRow wq w.heap.size gn (partRow (ms ++ [(1, 0)]) t k) ∧ BRow wq w.heap.size gr (rowOf ms t) ∧ Below w.heap.size w wq) (fun sk _ => t.length - (intOf sk).toNat)
            case atStart => exact ⟨0, rfl, Nat.zero_le _, hB3.drew _, hR3.drew _, below_drewN hb3 _⟩
            case round =>
              obtain ⟨k, rfl, hkT, hN, hO, hbq⟩ := hrel
              clear hB3 hR3 hb3 hB hR2 hb2 hcc2 hcB hfB hz 
              by_cases hk : k < t.length
              · obtain ⟨d, hd⟩ : ∃ d, t[k]? = some d := ⟨t[k], List.getElem?_eq_getElem hk⟩
                have hdd := (hbq.cell (p := ⟨gs, k, none⟩) hts.1).trans (hts.2 k d hd)
                obtain ⟨y1, hy1⟩ := hN.there (j := k + 1) hk
                have hfz := hN.frozen (k + 1)
                obtain ⟨x1, hx1, hrc1⟩ := hO.at_row (j := k) hkT
                cases x1
                · have E : false = decide (LikeM.M (ms ++ [(1, 0)]) (t.take (k + 1))) := cell_one ms (1, 0) (by simp) t k d hd false (by rw [← hx1.out]; rfl)
                  have HN := (hN.stored (k + 1) false).1
                  rw [partRow_succ (ms ++ [(1, 0)]) t k false (E)] at HN
                  have HO := hO.kept (hN.stored (k + 1) false).2 hne
                  have HB : Below w.heap.size w (wr.setCell ⟨gn, k + 1, none⟩ (.bool false)) := hbq.setCell hle _
                  clear hN hO hbq
                  clear E
                  go_wp2_with fail
                  go_roundw
                  case rel => exact ⟨k + 1, by go_num, hk, HN, HO, HB⟩
                  case measure => simp [intOf]; omega
                · have E : true = decide (LikeM.M (ms ++ [(1, 0)]) (t.take (k + 1))) := cell_one ms (1, 0) (by simp) t k d hd true (by rw [← hx1.out]; rfl)
                  have HN := (hN.stored (k + 1) true).1
                  rw [partRow_succ (ms ++ [(1, 0)]) t k true (E)] at HN
                  have HO := hO.kept (hN.stored (k + 1) true).2 hne
                  have HB : Below w.heap.size w (wr.setCell ⟨gn, k + 1, none⟩ (.bool true)) := hbq.setCell hle _
                  clear hN hO hbq
                  clear E
                  go_wp2_with fail
                  go_roundw
                  case rel => exact ⟨k + 1, by go_num, hk, HN, HO, HB⟩
                  case measure => simp [intOf]; omega
              · obtain rfl : k = t.length := by omega
                go_wp2_with fail
                go_roundw
                case rel => exact ⟨gn, i + 1, ms ++ [(1, 0)], rfl, by go_num, hlt, HS, hN, hbq⟩
                case measure => simp [intOf]; omega
          · have b95 : (c == 95) = false := by rw [beq_eq_false_iff_ne]; exact h95
            have HS : Hid (LikeM.scan (p.take (i + 1)) = (ms ++ [(0, c)], false)) := by show _ = _; rw [scan_take hsc.out hc]; simp [LikeM.step, h92, h37, h95]
            clear h92 h37 h95
            have hz : Hid ((List.replicate (t.length + 1) false).set 0 false = partRow (ms ++ [(0, c)]) t 0) := partRow_zero _ _ _ ((decide_eq_false (LikeM.row_zero_one ms (0, c) (by simp))).symm)
            go_wp2_with fail
            go_quiet (fail)
            go_wp2_with fail
            have hB3 := (hB.stored 0 false).1
            rw [hz.out] at hB3
            have hR3 := hR2.kept (hB.stored 0 false).2 hne
            have hb3 : Below w.heap.size w (w2.setCell ⟨gn, 0, none⟩ (.bool false)) := hb2.setCell hle _
            go_loopw [12] (fun sk wq => ∃ k : Nat, sk = .int .i64 k ∧ k ≤ t.length ∧ BRow wq w.heap.size gn (partRow (ms ++ [(0, c)]) t k) ∧ BRow wq w.heap.size gr (rowOf ms t) ∧ Below w.heap.size w wq) (fun sk _ => t.length - (intOf sk).toNat)
            case atStart => exact ⟨0, rfl, Nat.zero_le _, hB3.drew _, hR3.drew _, below_drewN hb3 _⟩
            case round =>
              obtain ⟨k, rfl, hkT, hN, hO, hbq⟩ := hrel
              clear hB3 hR3 hb3 hB hR2 hb2 hcc2 hcB hfB hz 
              by_cases hk : k < t.length
              · obtain ⟨d, hd⟩ : ∃ d, t[k]? = some d := ⟨t[k], List.getElem?_eq_getElem hk⟩
                have hdd := (hbq.cell (p := ⟨gs, k, none⟩) hts.1).trans (hts.2 k d hd)
                obtain ⟨y1, hy1⟩ := hN.there (j := k + 1) hk
                have hfz := hN.frozen (k + 1)
                obtain ⟨x1, hx1, hrc1⟩ := hO.at_row (j := k) hkT
                cases x1
                · have E : false = decide (LikeM.M (ms ++ [(0, c)]) (t.take (k + 1))) := cell_one ms (0, c) (by simp) t k d hd false (by rw [← hx1.out]; rfl)
                  have HN := (hN.stored (k + 1) false).1
                  rw [partRow_succ (ms ++ [(0, c)]) t k false (E)] at HN
                  have HO := hO.kept (hN.stored (k + 1) false).2 hne
                  have HB : Below w.heap.size w (wr.setCell ⟨gn, k + 1, none⟩ (.bool false)) := hbq.setCell hle _
                  clear hN hO hbq
                  clear E
                  go_wp2_with fail
                  go_roundw
                  case rel => exact ⟨k + 1, by go_num, hk, HN, HO, HB⟩
                  case measure => simp [intOf]; omega
                · have E : (d == c) = decide (LikeM.M (ms ++ [(0, c)]) (t.take (k + 1))) := cell_one ms (0, c) (by simp) t k d hd (d == c) (by rw [← hx1.out, takes_char]; rfl)
                  have HN := (hN.stored (k + 1) (d == c)).1
                  rw [partRow_succ (ms ++ [(0, c)]) t k (d == c) (E)] at HN
                  have HO := hO.kept (hN.stored (k + 1) (d == c)).2 hne
                  have HB : Below w.heap.size w (wr.setCell ⟨gn, k + 1, none⟩ (.bool (d == c))) := hbq.setCell hle _
                  clear hN hO hbq
                  clear E
                  go_wp2_with fail
                  go_roundw
                  case rel => exact ⟨k + 1, by go_num, hk, HN, HO, HB⟩
                  case measure => simp [intOf]; omega
              · obtain rfl : k = t.length := by omega
                go_wp2_with fail
                go_roundw
                case rel => exact ⟨gn, i + 1, ms ++ [(0, c)], rfl, by go_num, hlt, HS, hN, hbq⟩
                case measure => simp [intOf]; omega
    · obtain ⟨x, hx, hxc⟩ := hR.at_row (Nat.le_refl t.length)
      go_wp2_with fail
      go_ret2
      refine ⟨?_, hb⟩
      have h := hsc.out
      rw [List.take_of_length_le (by omega)] at h
      unfold likeOf
      rw [h, if_neg (by simp), hx.out, List.take_of_length_le (Nat.le_refl _)]
      rfl
end Go.Proofs.YtkmopmcpblhakabDoor
