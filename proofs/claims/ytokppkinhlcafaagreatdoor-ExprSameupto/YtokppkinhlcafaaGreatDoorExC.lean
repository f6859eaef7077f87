/-
  The walk of expr.same.
-/
import Derived.Test.YtokppkinhlcafaaGreatDoorExB
import Derived.BigQuiet
namespace Go.Proofs.YtokppkinhlcafaaGreatDoor
open Go.RowKit Go.Joins
set_option maxRecDepth 100000

/-- an expression's nine cells -/
def nine (w : World) (p s : Nat) (a : Ex) (P : Option Addr) (C : Nat) : Prop := w.cell? ⟨p, s, none⟩ = some (.string a.op) ∧ w.cell? ⟨p, s + 1, none⟩ = some (.slice P a.parts.length C) ∧ w.cell? ⟨p, s + 2, none⟩ = some (.int .i64 a.vt) ∧ w.cell? ⟨p, s + 3, none⟩ = some (.int .i64 a.vn) ∧ w.cell? ⟨p, s + 4, none⟩ = some (.string a.vs) ∧ w.cell? ⟨p, s + 5, none⟩ = some (.string a.nm) ∧ w.cell? ⟨p, s + 6, none⟩ = some (.string a.of) ∧ w.cell? ⟨p, s + 7, none⟩ = some (.int .i64 a.ty) ∧ w.cell? ⟨p, s + 8, none⟩ = some (.int .i64 a.at_)
theorem belN {B : Nat} {a w : World} (h : Below B a w) (n : Nat) : Below B a (w.drewN n) := ⟨h.os, h.tape, h.output, h.size, h.block⟩
set_option maxHeartbeats 4000000 in
set_option maxRecDepth 1000000 in
theorem same_no (a b : Ex) (p s q t : Nat) (P Q : Option Addr) (C D : Nat) (w : World) (c : nine w p s a P C) (d : nine w q t b Q D) (h : ¬ (a.op = b.op ∧ a.parts.length = b.parts.length)) :
    Calls Tryz.prog 12 #[.pointer (some ⟨p, s, none⟩), .pointer (some ⟨q, t, none⟩)] w fun e w' => e = .returned (.bool false) ∧ Below w.heap.size w w' := by
  obtain ⟨c0, c1, c2, c3, c4, c5, c6, c7, c8⟩ := c
  obtain ⟨d0, d1, d2, d3, d4, d5, d6, d7, d8⟩ := d
  by_cases h1 : a.op = b.op
  · have h2 : ¬ a.parts.length = b.parts.length := fun e => h ⟨h1, e⟩
    have h3 : ((a.parts.length : Int) != (b.parts.length : Int)) = true := by rw [bne_iff_ne]; omega
    have h4 : a.op.toList = b.op.toList := congrArg _ h1
    clear h h2 h1
    go_enter Tryz.func12, Tryz.ntmps12
    go_wp2_with fail
    go_quiet (fail)
    go_wp2_with fail
    go_ret
    exact ⟨rfl, belN (Below.refl _ w) _⟩
  · have h3 : ¬ a.op.toList = b.op.toList := fun e => h1 (toList_inj e)
    clear h h1
    go_enter Tryz.func12, Tryz.ntmps12
    go_wp2_with fail
    go_quiet (fail)
    go_wp2_with fail
    go_ret
    exact ⟨rfl, belN (Below.refl _ w) _⟩
set_option maxHeartbeats 4000000 in
set_option maxRecDepth 1000000 in
theorem same_value (a b : Ex) (p s q t : Nat) (P Q : Option Addr) (C D : Nat) (w : World) (c : nine w p s a P C) (d : nine w q t b Q D) (h : a.op = b.op ∧ a.parts.length = b.parts.length) (hValue : a.op = bValue) (sv : Bool) (hS : ∀ w, Calls Tryz.prog 19 #[.agg #[.int .i64 a.vt, .int .i64 a.vn, .string a.vs], .agg #[.int .i64 b.vt, .int .i64 b.vn, .string b.vs]] w fun e w' => e = .returned (.bool sv) ∧ Below w.heap.size w w') :
    Calls Tryz.prog 12 #[.pointer (some ⟨p, s, none⟩), .pointer (some ⟨q, t, none⟩)] w fun e w' => e = .returned (.bool sv) ∧ Below w.heap.size w w' := by
  obtain ⟨c0, c1, c2, c3, c4, c5, c6, c7, c8⟩ := c
  obtain ⟨d0, d1, d2, d3, d4, d5, d6, d7, d8⟩ := d
  have h4 : a.op.toList = b.op.toList := congrArg _ h.1
  have h3 : ((a.parts.length : Int) != (b.parts.length : Int)) = false := by rw [h.2]; simp
  have hy : b.op.toList = [118, 97, 108, 117, 101] := by rw [← h4, hValue, ByteArray.toList_eq]; rfl
  have HS := mkHid hS
  clear h hValue hS
  go_enter Tryz.func12, Tryz.ntmps12
  go_wp2_with fail
  go_quiet (fail)
  go_wp2_with fail
  go_region_held3 (fun w' => w'.cell? ⟨p, s + 2, none⟩ = some (.int .i64 a.vt) ∧ w'.cell? ⟨p, s + 3, none⟩ = some (.int .i64 a.vn) ∧ w'.cell? ⟨p, s + 4, none⟩ = some (.string a.vs) ∧ w'.cell? ⟨q, t + 2, none⟩ = some (.int .i64 b.vt) ∧ w'.cell? ⟨q, t + 3, none⟩ = some (.int .i64 b.vn) ∧ w'.cell? ⟨q, t + 4, none⟩ = some (.string b.vs)) (first | go_keep | exact ⟨cellNext hb2 c2, cellNext hb2 c3, cellNext hb2 c4, cellNext hb2 d2, cellNext hb2 d3, cellNext hb2 d4⟩) ((go_at_call 19; refine (HS.out _).mono ?_; rintro e w1 ⟨rfl, hb2⟩))
  go_wp2_with fail
  go_ret
  exact ⟨rfl, (belN (Below.refl _ w) _).drew.trans (hb2.mono (Nat.le_refl _))⟩
set_option maxHeartbeats 4000000 in
set_option maxRecDepth 1000000 in
theorem same_column (a b : Ex) (p s q t : Nat) (P Q : Option Addr) (C D : Nat) (w : World) (c : nine w p s a P C) (d : nine w q t b Q D) (h : a.op = b.op ∧ a.parts.length = b.parts.length) (hValue : ¬ a.op = bValue) (hColumn : a.op = bColumn) :
    Calls Tryz.prog 12 #[.pointer (some ⟨p, s, none⟩), .pointer (some ⟨q, t, none⟩)] w fun e w' => e = .returned (.bool (a.nm.toList == b.nm.toList && a.of.toList == b.of.toList)) ∧ Below w.heap.size w w' := by
  obtain ⟨c0, c1, c2, c3, c4, c5, c6, c7, c8⟩ := c
  obtain ⟨d0, d1, d2, d3, d4, d5, d6, d7, d8⟩ := d
  have h4 : a.op.toList = b.op.toList := congrArg _ h.1
  have h3 : ((a.parts.length : Int) != (b.parts.length : Int)) = false := by rw [h.2]; simp
  have hn0 : (b.op.toList == [118, 97, 108, 117, 101]) = false := by rw [beq_eq_false_iff_ne]; exact fun e => hValue (op_is (h4.trans e))
  have hy : b.op.toList = [99, 111, 108, 117, 109, 110] := by rw [← h4, hColumn, ByteArray.toList_eq]; rfl
  clear h hColumn
  by_cases g1 : a.nm.toList = b.nm.toList
  · by_cases g2 : a.of.toList = b.of.toList
    · go_enter Tryz.func12, Tryz.ntmps12
      go_wp2_with fail
      go_quiet (fail)
      go_wp2_with fail
      go_quiet (fail)
      go_wp2_with fail
      go_ret
      exact ⟨by simp [g1, g2], belN (belN (Below.refl _ w) _) _⟩
    · go_enter Tryz.func12, Tryz.ntmps12
      go_wp2_with fail
      go_quiet (fail)
      go_wp2_with fail
      go_quiet (fail)
      go_wp2_with fail
      go_ret
      exact ⟨by simp [g1], belN (belN (Below.refl _ w) _) _⟩
  · go_enter Tryz.func12, Tryz.ntmps12
    go_wp2_with fail
    go_quiet (fail)
    go_wp2_with fail
    go_quiet (fail)
    go_wp2_with fail
    go_ret
    exact ⟨by simp [g1], belN (belN (Below.refl _ w) _) _⟩
set_option maxHeartbeats 4000000 in
set_option maxRecDepth 1000000 in
theorem same_param (a b : Ex) (p s q t : Nat) (P Q : Option Addr) (C D : Nat) (w : World) (c : nine w p s a P C) (d : nine w q t b Q D) (h : a.op = b.op ∧ a.parts.length = b.parts.length) (hValue : ¬ a.op = bValue) (hColumn : ¬ a.op = bColumn) (hParam : a.op = bParam) :
    Calls Tryz.prog 12 #[.pointer (some ⟨p, s, none⟩), .pointer (some ⟨q, t, none⟩)] w fun e w' => e = .returned (.bool (a.nm.toList == b.nm.toList)) ∧ Below w.heap.size w w' := by
  obtain ⟨c0, c1, c2, c3, c4, c5, c6, c7, c8⟩ := c
  obtain ⟨d0, d1, d2, d3, d4, d5, d6, d7, d8⟩ := d
  have h4 : a.op.toList = b.op.toList := congrArg _ h.1
  have h3 : ((a.parts.length : Int) != (b.parts.length : Int)) = false := by rw [h.2]; simp
  have hn0 : (b.op.toList == [118, 97, 108, 117, 101]) = false := by rw [beq_eq_false_iff_ne]; exact fun e => hValue (op_is (h4.trans e))
  have hn1 : (b.op.toList == [99, 111, 108, 117, 109, 110]) = false := by rw [beq_eq_false_iff_ne]; exact fun e => hColumn (op_is (h4.trans e))
  have hy : b.op.toList = [112, 97, 114, 97, 109] := by rw [← h4, hParam, ByteArray.toList_eq]; rfl
  clear h hParam
  go_enter Tryz.func12, Tryz.ntmps12
  go_wp2_with fail
  go_quiet (fail)
  go_wp2_with fail
  go_quiet (fail)
  go_wp2_with fail
  go_ret
  exact ⟨by simp, belN (belN (Below.refl _ w) _) _⟩
set_option maxHeartbeats 4000000 in
set_option maxRecDepth 1000000 in
theorem same_cast (a b : Ex) (p s q t : Nat) (P Q : Option Addr) (C D : Nat) (w : World) (c : nine w p s a P C) (d : nine w q t b Q D) (h : a.op = b.op ∧ a.parts.length = b.parts.length) (hValue : ¬ a.op = bValue) (hColumn : ¬ a.op = bColumn) (hParam : ¬ a.op = bParam) (hCast : a.op = bCast) (ht : a.ty ≠ b.ty) :
    Calls Tryz.prog 12 #[.pointer (some ⟨p, s, none⟩), .pointer (some ⟨q, t, none⟩)] w fun e w' => e = .returned (.bool false) ∧ Below w.heap.size w w' := by
  obtain ⟨c0, c1, c2, c3, c4, c5, c6, c7, c8⟩ := c
  obtain ⟨d0, d1, d2, d3, d4, d5, d6, d7, d8⟩ := d
  have h4 : a.op.toList = b.op.toList := congrArg _ h.1
  have h3 : ((a.parts.length : Int) != (b.parts.length : Int)) = false := by rw [h.2]; simp
  have hn0 : (b.op.toList == [118, 97, 108, 117, 101]) = false := by rw [beq_eq_false_iff_ne]; exact fun e => hValue (op_is (h4.trans e))
  have hn1 : (b.op.toList == [99, 111, 108, 117, 109, 110]) = false := by rw [beq_eq_false_iff_ne]; exact fun e => hColumn (op_is (h4.trans e))
  have hn2 : (b.op.toList == [112, 97, 114, 97, 109]) = false := by rw [beq_eq_false_iff_ne]; exact fun e => hParam (op_is (h4.trans e))
  have hy : b.op.toList = [99, 97, 115, 116] := by rw [← h4, hCast, ByteArray.toList_eq]; rfl
  have h6 : (a.ty != b.ty) = true := by rw [bne_iff_ne]; exact ht
  clear h hCast ht
  go_enter Tryz.func12, Tryz.ntmps12
  go_wp2_with fail
  go_quiet (fail)
  go_wp2_with fail
  go_quiet (fail)
  go_wp2_with fail
  go_ret
  exact ⟨rfl, belN (belN (Below.refl _ w) _) _⟩
theorem nine_of {w : World} {g o : Nat} {x : Ex} {Px : Option Addr} {Cx : Nat} (h : ∀ (r : Nat) (u : Value), (exC x Px Cx)[r]? = some u → w.cell? ⟨g, o + r, none⟩ = some u) : nine w g o x Px Cx := ⟨h 0 _ rfl, h 1 _ rfl, h 2 _ rfl, h 3 _ rfl, h 4 _ rfl, h 5 _ rfl, h 6 _ rfl, h 7 _ rfl, h 8 _ rfl⟩
theorem nine.next {w w' : World} {g o : Nat} {x : Ex} {Px : Option Addr} {Cx : Nat} (h : nine w g o x Px Cx) (hb : Below w.heap.size w w') : nine w' g o x Px Cx := by
  obtain ⟨h0, h1, h2, h3, h4, h5, h6, h7, h8⟩ := h
  exact ⟨cellNext hb h0, cellNext hb h1, cellNext hb h2, cellNext hb h3, cellNext hb h4, cellNext hb h5, cellNext hb h6, cellNext hb h7, cellNext hb h8⟩
/-- what stands while two Parts are held against each other -/
def tv (W : World) (p s q t : Nat) (ca cb : Value) (w' : World) : Prop := Below W.heap.size W w' ∧ w'.cell? ⟨p, s + 1, none⟩ = some ca ∧ w'.cell? ⟨q, t + 1, none⟩ = some cb
theorem tv.step {W : World} {p s q t : Nat} {ca cb : Value} {w w' : World} (h : tv W p s q t ca cb w) (hb : Below w.heap.size w w') : tv W p s q t ca cb w' := ⟨h.1.trans (hb.mono h.1.size), cellNext hb h.2.1, cellNext hb h.2.2⟩
theorem tv.drew {W : World} {p s q t : Nat} {ca cb : Value} {w : World} (h : tv W p s q t ca cb w) : tv W p s q t ca cb w.drew := ⟨h.1.drew, h.2.1, h.2.2⟩
set_option maxHeartbeats 8000000 in
set_option maxRecDepth 1000000 in
theorem same_parts (sv : Ex → Ex → Bool) (n : Nat) (a b : Ex) (p s q t : Nat) (P Q : Option Addr) (C D : Nat) (w : World) (S : Nat → Prop) (c : nine w p s a P C) (d : nine w q t b Q D) (h : a.op = b.op ∧ a.parts.length = b.parts.length) (hValue : ¬ a.op = bValue) (hColumn : ¬ a.op = bColumn) (hParam : ¬ a.op = bParam) (hc : ¬ (a.op = bCast ∧ a.ty ≠ b.ty)) (ha : exIn w S (n + 1) a (exC a P C)) (hb0 : exIn w S (n + 1) b (exC b Q D)) (hsm : a.parts.length ≤ 100000000)
    (IH : ∀ (x y : Ex) (p s q t : Nat) (P Q : Option Addr) (C D : Nat) (w : World), nine w p s x P C → nine w q t y Q D → exIn w S n x (exC x P C) → exIn w S n y (exC y Q D) → Calls Tryz.prog 12 #[.pointer (some ⟨p, s, none⟩), .pointer (some ⟨q, t, none⟩)] w fun e w' => e = .returned (.bool (exS sv n x y)) ∧ Below w.heap.size w w') :
    Calls Tryz.prog 12 #[.pointer (some ⟨p, s, none⟩), .pointer (some ⟨q, t, none⟩)] w fun e w' => e = .returned (.bool (exL (exS sv n) a.parts b.parts)) ∧ Below w.heap.size w w' := by
  obtain ⟨E, hE⟩ : ∃ E, E = exL (exS sv n) a.parts b.parts := ⟨_, rfl⟩
  rw [← hE]
  have HE : Hid (E = exL (exS sv n) (a.parts.drop 0) (b.parts.drop 0)) := hE
  clear hE
  obtain ⟨c0, c1, c2, c3, c4, c5, c6, c7, c8⟩ := c
  obtain ⟨d0, d1, d2, d3, d4, d5, d6, d7, d8⟩ := d
  have h4 : a.op.toList = b.op.toList := congrArg _ h.1
  have h3 : ((a.parts.length : Int) != (b.parts.length : Int)) = false := by rw [h.2]; simp
  have hn0 : (b.op.toList == [118, 97, 108, 117, 101]) = false := by rw [beq_eq_false_iff_ne]; exact fun e => hValue (op_is (h4.trans e))
  have hn1 : (b.op.toList == [99, 111, 108, 117, 109, 110]) = false := by rw [beq_eq_false_iff_ne]; exact fun e => hColumn (op_is (h4.trans e))
  have hn2 : (b.op.toList == [112, 97, 114, 97, 109]) = false := by rw [beq_eq_false_iff_ne]; exact fun e => hParam (op_is (h4.trans e))
  have HA := mkHid ha
  have HB := mkHid hb0
  have HI := mkHid IH
  have hlen := mkHid h.2
  clear IH ha hb0
  by_cases hCast : a.op = bCast
  · have hy : b.op.toList = [99, 97, 115, 116] := by rw [← h4, hCast, ByteArray.toList_eq]; rfl
    have ht : (a.ty != b.ty) = false := by
      rw [bne_eq_false_iff_eq]
      exact Classical.byContradiction fun e => hc ⟨hCast, e⟩
    clear h hc hCast
    go_enter Tryz.func12, Tryz.ntmps12
    go_wp2_with fail
    go_quiet (fail)
    go_wp2_with fail
    go_quiet (fail)
    go_wp2_with fail
    go_loopw [92] (fun sk wr => ∃ k : Nat, sk = .int .i64 k ∧ k ≤ a.parts.length ∧ Hid (E = exL (exS sv n) (a.parts.drop k) (b.parts.drop k)) ∧ Below w.heap.size w wr) (fun sk _ => a.parts.length - (intOf sk).toNat)
    case atStart => exact ⟨0, rfl, Nat.zero_le _, HE, belN (Below.refl _ w) _⟩
    case round =>
      obtain ⟨k, rfl, hk, hd, hb⟩ := hrel
      clear HE
      have k1 := cellNext hb c1
      have k2 := cellNext hb d1
      by_cases hlt : k < a.parts.length
      · obtain ⟨x, hx⟩ : ∃ v, a.parts[k]? = some v := ⟨a.parts[k], List.getElem?_eq_getElem hlt⟩
        obtain ⟨y, hy'⟩ : ∃ v, b.parts[k]? = some v := ⟨b.parts[k]'(by have := hlen.out; omega), List.getElem?_eq_getElem _⟩
        obtain ⟨g, o, Px, Cx, rfl, ix, cx⟩ := HA.out.part hx
        obtain ⟨h, r, Qy, Dy, rfl, iy, cy⟩ := HB.out.part hy'
        have T0 : tv w p s q t (.slice (some ⟨g, o, none⟩) a.parts.length C) (.slice (some ⟨h, r, none⟩) b.parts.length D) wr := ⟨hb, k1, k2⟩
        have OO : Hid (∀ w', tv w p s q t (.slice (some ⟨g, o, none⟩) a.parts.length C) (.slice (some ⟨h, r, none⟩) b.parts.length D) w' → Calls Tryz.prog 12 #[.pointer (some ⟨g, o + k * 9, none⟩), .pointer (some ⟨h, r + k * 9, none⟩)] w' fun e w'' => e = .returned (.bool (exS sv n x y)) ∧ Below w'.heap.size w' w'') := fun w' t => HI.out x y _ _ _ _ Px Qy Cx Dy w' ((nine_of cx).next t.1) ((nine_of cy).next t.1) (ix.below t.1) (iy.below t.1)
        have hl2 : k < b.parts.length := by have := hlen.out; omega
        rw [exL_at hx hy'] at hd
        clear hx hy' ix iy cx cy
        cases hS : exS sv n x y
        · have hE : E = false := by rw [hd.out, hS]; rfl
          subst hE
          rw [hS] at OO
          clear hd hS
          go_wp2_with fail
          go_region_held3 (fun w' => Below w.heap.size w w' ∧ w'.cell? ⟨p, s + 1, none⟩ = some (.slice (some ⟨g, o, none⟩) a.parts.length C) ∧ w'.cell? ⟨q, t + 1, none⟩ = some (.slice (some ⟨h, r, none⟩) b.parts.length D)) (first | exact T0.drew | exact tv.step (by assumption) hb2) ((go_at_call 12; refine (OO.out _ (by assumption)).mono ?_; rintro e w1 ⟨rfl, hb2⟩))
          go_wp2_with fail
          go_ret
          exact ⟨rfl, hb.drew.trans (hb2.mono hb.size)⟩
        · have hd2 : Hid (E = exL (exS sv n) (a.parts.drop (k + 1)) (b.parts.drop (k + 1))) := by show _ = _; rw [hd.out, hS]; rfl
          rw [hS] at OO
          clear hd hS
          go_wp2_with fail
          go_region_held3 (fun w' => Below w.heap.size w w' ∧ w'.cell? ⟨p, s + 1, none⟩ = some (.slice (some ⟨g, o, none⟩) a.parts.length C) ∧ w'.cell? ⟨q, t + 1, none⟩ = some (.slice (some ⟨h, r, none⟩) b.parts.length D)) (first | exact T0.drew | exact tv.step (by assumption) hb2) ((go_at_call 12; refine (OO.out _ (by assumption)).mono ?_; rintro e w1 ⟨rfl, hb2⟩))
          go_wp2_with fail
          go_roundw
          case rel => exact ⟨k + 1, by go_num, hlt, hd2, hb.drew.trans (hb2.mono hb.size)⟩
          case measure => simp [intOf]; omega
      · have hE : E = true := by
          rw [hd.out, List.drop_eq_nil_of_le (by omega)]
          rfl
        subst hE
        clear hd
        go_wp2_with fail
        go_ret
        exact ⟨rfl, hb⟩
  · have hn3 : (b.op.toList == [99, 97, 115, 116]) = false := by rw [beq_eq_false_iff_ne]; exact fun e => hCast (op_is (h4.trans e))
    clear h hc
    go_enter Tryz.func12, Tryz.ntmps12
    go_wp2_with fail
    go_quiet (fail)
    go_wp2_with fail
    go_loopw [92] (fun sk wr => ∃ k : Nat, sk = .int .i64 k ∧ k ≤ a.parts.length ∧ Hid (E = exL (exS sv n) (a.parts.drop k) (b.parts.drop k)) ∧ Below w.heap.size w wr) (fun sk _ => a.parts.length - (intOf sk).toNat)
    case atStart => exact ⟨0, rfl, Nat.zero_le _, HE, belN (Below.refl _ w) _⟩
    case round =>
      obtain ⟨k, rfl, hk, hd, hb⟩ := hrel
      clear HE
      have k1 := cellNext hb c1
      have k2 := cellNext hb d1
      by_cases hlt : k < a.parts.length
      · obtain ⟨x, hx⟩ : ∃ v, a.parts[k]? = some v := ⟨a.parts[k], List.getElem?_eq_getElem hlt⟩
        obtain ⟨y, hy'⟩ : ∃ v, b.parts[k]? = some v := ⟨b.parts[k]'(by have := hlen.out; omega), List.getElem?_eq_getElem _⟩
        obtain ⟨g, o, Px, Cx, rfl, ix, cx⟩ := HA.out.part hx
        obtain ⟨h, r, Qy, Dy, rfl, iy, cy⟩ := HB.out.part hy'
        have T0 : tv w p s q t (.slice (some ⟨g, o, none⟩) a.parts.length C) (.slice (some ⟨h, r, none⟩) b.parts.length D) wr := ⟨hb, k1, k2⟩
        have OO : Hid (∀ w', tv w p s q t (.slice (some ⟨g, o, none⟩) a.parts.length C) (.slice (some ⟨h, r, none⟩) b.parts.length D) w' → Calls Tryz.prog 12 #[.pointer (some ⟨g, o + k * 9, none⟩), .pointer (some ⟨h, r + k * 9, none⟩)] w' fun e w'' => e = .returned (.bool (exS sv n x y)) ∧ Below w'.heap.size w' w'') := fun w' t => HI.out x y _ _ _ _ Px Qy Cx Dy w' ((nine_of cx).next t.1) ((nine_of cy).next t.1) (ix.below t.1) (iy.below t.1)
        have hl2 : k < b.parts.length := by have := hlen.out; omega
        rw [exL_at hx hy'] at hd
        clear hx hy' ix iy cx cy
        cases hS : exS sv n x y
        · have hE : E = false := by rw [hd.out, hS]; rfl
          subst hE
          rw [hS] at OO
          clear hd hS
          go_wp2_with fail
          go_region_held3 (fun w' => Below w.heap.size w w' ∧ w'.cell? ⟨p, s + 1, none⟩ = some (.slice (some ⟨g, o, none⟩) a.parts.length C) ∧ w'.cell? ⟨q, t + 1, none⟩ = some (.slice (some ⟨h, r, none⟩) b.parts.length D)) (first | exact T0.drew | exact tv.step (by assumption) hb2) ((go_at_call 12; refine (OO.out _ (by assumption)).mono ?_; rintro e w1 ⟨rfl, hb2⟩))
          go_wp2_with fail
          go_ret
          exact ⟨rfl, hb.drew.trans (hb2.mono hb.size)⟩
        · have hd2 : Hid (E = exL (exS sv n) (a.parts.drop (k + 1)) (b.parts.drop (k + 1))) := by show _ = _; rw [hd.out, hS]; rfl
          rw [hS] at OO
          clear hd hS
          go_wp2_with fail
          go_region_held3 (fun w' => Below w.heap.size w w' ∧ w'.cell? ⟨p, s + 1, none⟩ = some (.slice (some ⟨g, o, none⟩) a.parts.length C) ∧ w'.cell? ⟨q, t + 1, none⟩ = some (.slice (some ⟨h, r, none⟩) b.parts.length D)) (first | exact T0.drew | exact tv.step (by assumption) hb2) ((go_at_call 12; refine (OO.out _ (by assumption)).mono ?_; rintro e w1 ⟨rfl, hb2⟩))
          go_wp2_with fail
          go_roundw
          case rel => exact ⟨k + 1, by go_num, hlt, hd2, hb.drew.trans (hb2.mono hb.size)⟩
          case measure => simp [intOf]; omega
      · have hE : E = true := by
          rw [hd.out, List.drop_eq_nil_of_le (by omega)]
          rfl
        subst hE
        clear hd
        go_wp2_with fail
        go_ret
        exact ⟨rfl, hb⟩
theorem same_ex (sv : Ex → Ex → Bool) (S : Nat → Prop) (hS : ∀ a b : Ex, exG a → exG b → ∀ w, Calls Tryz.prog 19 #[.agg #[.int .i64 a.vt, .int .i64 a.vn, .string a.vs], .agg #[.int .i64 b.vt, .int .i64 b.vn, .string b.vs]] w fun e w' => e = .returned (.bool (sv a b)) ∧ Below w.heap.size w w') :
    ∀ (n : Nat) (a b : Ex) (p s q t : Nat) (P Q : Option Addr) (C D : Nat) (w : World), nine w p s a P C → nine w q t b Q D → exIn w S n a (exC a P C) → exIn w S n b (exC b Q D) → Calls Tryz.prog 12 #[.pointer (some ⟨p, s, none⟩), .pointer (some ⟨q, t, none⟩)] w fun e w' => e = .returned (.bool (exS sv n a b)) ∧ Below w.heap.size w w' := by
  intro n
  induction n with
  | zero => intro a b p s q t P Q C D w _ _ ha; exact ha.elim
  | succ n ih =>
    intro a b p s q t P Q C D w c d ha hb
    rw [exS]
    by_cases h : a.op = b.op ∧ a.parts.length = b.parts.length
    · rw [if_neg (not_not_intro h)]
      by_cases hValue : a.op = bValue
      · rw [if_pos hValue]
        exact same_value a b p s q t P Q C D w c d h hValue _ (hS a b ha.good hb.good)
      rw [if_neg hValue]
      by_cases hColumn : a.op = bColumn
      · rw [if_pos hColumn]
        exact same_column a b p s q t P Q C D w c d h hValue hColumn
      rw [if_neg hColumn]
      by_cases hParam : a.op = bParam
      · rw [if_pos hParam]
        exact same_param a b p s q t P Q C D w c d h hValue hColumn hParam
      rw [if_neg hParam]
      by_cases hc : a.op = bCast ∧ a.ty ≠ b.ty
      · rw [if_pos hc]
        exact same_cast a b p s q t P Q C D w c d h hValue hColumn hParam hc.1 hc.2
      rw [if_neg hc]
      exact same_parts sv n a b p s q t P Q C D w S c d h hValue hColumn hParam hc ha hb ha.good.1 ih
    · rw [if_pos h]
      exact same_no a b p s q t P Q C D w c d h
end Go.Proofs.YtokppkinhlcafaaGreatDoor
