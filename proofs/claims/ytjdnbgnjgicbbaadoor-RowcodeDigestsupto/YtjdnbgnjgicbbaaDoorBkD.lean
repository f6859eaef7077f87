/-
  Bytes that came in; the walk of rowcode.readNumber and readBool.
-/
import Derived.Test.YtjdnbgnjgicbbaaDoorBkC
import Derived.BigQuiet
import Derived.Deep.QuietTactic
namespace Go.Proofs.YtjdnbgnjgicbbaaDoor
open Go.RowKit Go.Shelf

/-- bytes as a number, the greatest first -/
def beN : List UInt8 → Nat
  | [] => 0
  | x :: l => x.toNat * 256 ^ l.length + beN l
theorem beN_lt : ∀ l : List UInt8, beN l < 256 ^ l.length
  | [] => by simp [beN]
  | x :: l => by
    have h := beN_lt l
    have hx := x.toNat_lt
    simp only [beN, List.length_cons, Nat.pow_succ]
    have : x.toNat * 256 ^ l.length ≤ 255 * 256 ^ l.length := Nat.mul_le_mul_right _ (by omega)
    omega
theorem beN_app : ∀ x y : List UInt8, beN (x ++ y) = beN x * 256 ^ y.length + beN y
  | [], y => by simp [beN]
  | a :: x, y => by
    have h := beN_app x y
    simp only [List.cons_append, beN, h, List.length_append, Nat.pow_add, Nat.add_mul, Nat.mul_assoc, Nat.add_assoc]
theorem be8_val {lo : Nat} (h : lo < 18446744073709551616) : beN (be8 lo 8) = lo := by
  have e : be8 lo 8 = [UInt8.ofNat (lo / 2 ^ 56), UInt8.ofNat (lo / 2 ^ 48), UInt8.ofNat (lo / 2 ^ 40), UInt8.ofNat (lo / 2 ^ 32), UInt8.ofNat (lo / 2 ^ 24), UInt8.ofNat (lo / 2 ^ 16), UInt8.ofNat (lo / 2 ^ 8), UInt8.ofNat (lo / 2 ^ 0)] := rfl
  rw [e]
  simp only [beN, List.length_cons, List.length_nil, UInt8.toNat_ofNat']
  simp only [Nat.reducePow, Nat.zero_add, Nat.reduceAdd]
  omega
theorem words_val {hi lo kd : Nat} (h1 : hi < 65536) (h2 : lo < 18446744073709551616) (h3 : kd < 256) : beN (wordsB hi lo kd) = 2 * 256 ^ 11 + (hi * 18446744073709551616 + lo) * 256 + kd := by
  unfold wordsB
  rw [beN_app, beN_app, be8_val h2, be8_len]
  simp only [beN, List.length_cons, List.length_nil, UInt8.toNat_ofNat', Nat.reducePow, Nat.zero_add, Nat.reduceAdd]
  have : (2 : UInt8).toNat = 2 := rfl
  rw [this]
  omega

theorem beN_next {l : List UInt8} {k : Nat} {x : UInt8} (h : l[k]? = some x) : beN (l.take (k + 1)) = beN (l.take k) * 256 + x.toNat := by
  rw [List.take_add_one, h, beN_app]; simp [beN]
theorem or8 (L : Nat) (x : UInt8) (h : L < 72057594037927936) : bits .or .u64 ((L : Int) * 256) (x.toNat : Int) = ((L * 256 + x.toNat : Nat) : Int) := by
  have hx := x.toNat_lt
  have e : (L : Int) * 256 = ((L * 256 : Nat) : Int) := by omega
  rw [e, bits_or_u64_nat _ _ (by omega) (by omega)]
  have := Nat.shiftLeft_add_eq_or_of_lt (b := x.toNat) (i := 8) (by omega) L
  rw [Nat.shiftLeft_eq] at this
  rw [← this]
/-- bytes lie behind a place -/
def byIn (w : World) (p : Option Addr) (l : List UInt8) : Prop := l = [] ∨ ∃ g off, p = some ⟨g, off, none⟩ ∧ g < w.heap.size ∧ ∀ i x, l[i]? = some x → w.cell? ⟨g, off + i, none⟩ = some (.int .u8 (x.toNat : Int))
theorem byIn.below {w w' : World} {p : Option Addr} {l : List UInt8} (h : byIn w p l) (hb : Below w.heap.size w w') : byIn w' p l := by
  rcases h with h | ⟨g, off, h1, h2, h3⟩
  · exact Or.inl h
  · exact Or.inr ⟨g, off, h1, Nat.lt_of_lt_of_le h2 hb.size, fun i x hx => (hb.cell (p := ⟨g, off + i, none⟩) h2).trans (h3 i x hx)⟩
/-- what reading answers -/
def vrd : Except Int (Va × Nat) → Value
  | .ok (v, n) => .tuple #[.agg #[.int .i64 v.ty, .int .i64 v.n, .string v.s], .int .i64 (n : Int), .int .i64 0]
  | .error e => .tuple #[.agg #[.int .i64 0, .int .i64 0, .string ⟨#[]⟩], .int .i64 0, .int .i64 e]
def rdNum (l : List UInt8) : Except Int (Va × Nat) :=
  if l.length < 12 then .error 4 else
    match numV ((l.getD 1 0).toNat * 256 + (l.getD 2 0).toNat) (beN ((l.drop 3).take 8)) (l.getD 11 0).toNat with
    | some v => .ok (v, 12)
    | none => .error 20

set_option maxHeartbeats 4000000 in
set_option maxRecDepth 1000000 in
theorem readNumber_any (p : Option Addr) (c : Nat) (l : List UInt8) (w : World) (hp : byIn w p l) (hc : l.length ≤ c) (hcm : c ≤ 9223372036854775807) :
    Calls Tryd.prog 25 #[.slice p l.length c] w fun e w' => e = .returned (vrd (rdNum l)) ∧ Below w.heap.size w w' := by
  by_cases h12 : l.length < 12
  · have e : rdNum l = .error 4 := if_pos h12
    rw [e]
    have hi : (l.length : Int) < 12 := by omega
    go_enter Tryd.func25, Tryd.ntmps25
    go_wp2_with fail
    refine bodyPost_ret (v := vrd (.error 4)) (by simp [results, Tryd.results25, go_sem, vrd]) rfl ⟨rfl, (Below.refl _ w).alloc (Nat.le_refl _) _⟩
  · have get : ∀ i, i < l.length → l[i]? = some (l.getD i 0) := fun i hi => by rw [List.getElem?_eq_getElem hi, List.getD_eq_getElem?_getD, List.getElem?_eq_getElem hi]; rfl
    rcases hp with rfl | ⟨g, off, rfl, hg, hcs⟩
    · simp at h12
    obtain ⟨b1, hb1⟩ : ∃ b, b = l.getD 1 0 := ⟨_, rfl⟩
    obtain ⟨b2, hb2⟩ : ∃ b, b = l.getD 2 0 := ⟨_, rfl⟩
    obtain ⟨b11, hb11⟩ : ∃ b, b = l.getD 11 0 := ⟨_, rfl⟩
    obtain ⟨m, hm⟩ : ∃ m, m = (l.drop 3).take 8 := ⟨_, rfl⟩
    have hml : m.length = 8 := by rw [hm, List.length_take, List.length_drop]; omega
    have c1 := hcs 1 b1 (by rw [hb1]; exact get 1 (by omega))
    have c2 := hcs 2 b2 (by rw [hb2]; exact get 2 (by omega))
    have c11 : Hid (w.cell? ⟨g, off + 11, none⟩ = some (.int .u8 (b11.toNat : Int))) := hcs 11 b11 (by rw [hb11]; exact get 11 (by omega))
    have cm : Hid (∀ k x, m[k]? = some x → w.cell? ⟨g, off + 3 + k, none⟩ = some (.int .u8 (x.toNat : Int))) := fun k x hx => by
      have hk := (List.getElem?_eq_some_iff.1 hx).1
      rw [hm, List.getElem?_take_of_lt (by omega), List.getElem?_drop] at hx
      have := hcs (3 + k) x hx
      rw [← Nat.add_assoc] at this; exact this
    have e : rdNum l = match numV (b1.toNat * 256 + b2.toNat) (beN m) b11.toNat with | some v => .ok (v, 12) | none => .error 20 := by
      unfold rdNum; rw [if_neg h12, ← hb1, ← hb2, ← hb11, ← hm]
    rw [e]
    have hx1 := b1.toNat_lt
    have hx2 := b2.toNat_lt
    have hx3 := b11.toNat_lt
    have hlo : beN m < 18446744073709551616 := by have := beN_lt m; rw [hml] at this; exact this
    have NO : Hid (∀ w, Calls Tryd.prog 38 #[.int .u64 ((b1.toNat * 256 + b2.toNat : Nat) : Int), .int .u64 ((beN m : Nat) : Int), .int .u8 (b11.toNat : Int)] w fun e w' => e = .returned (vopt (numV (b1.toNat * 256 + b2.toNat) (beN m) b11.toNat)) ∧ Below w.heap.size w w') := fun w => numberOf_any _ _ _ w (by omega) hlo (by omega)
    have or1 := or8 b1.toNat b2 (by omega)
    have l12 : (12 : Int) ≤ (l.length : Int) := by omega
    have lc : (l.length : Int) ≤ (c : Int) := by omega
    obtain ⟨H, hH⟩ : ∃ H : Nat, H = b1.toNat * 256 + b2.toNat := ⟨_, rfl⟩
    rw [← hH] at NO or1 ⊢
    have R0 : Hid _ := Res.new w 0 0 ⟨#[]⟩
    have B0 : Hid (∀ o, Below w.heap.size w (w.alloc o)) := fun o => (Below.refl _ w).alloc (Nat.le_refl _) o
    clear e hH hb1 hb2 hb11 hm get hcs h12
    obtain ⟨L, hL0⟩ : ∃ L, L = beN m := ⟨_, rfl⟩
    rw [← hL0] at NO ⊢
    have HL : Hid (L = beN m) := hL0
    clear hL0 hlo
    generalize numV H L b11.toNat = o at *
    rcases o with _ | ⟨t, n, s⟩
    · go_enter Tryd.func25, Tryd.ntmps25
      go_wp2_with fail
      go_quiet (fail)
      go_wp2_with fail
      have BW := below_drewN (B0.out (.cells #[.int .i64 0, .int .i64 0, .string ⟨#[]⟩] 23)) nq
      have RW : Hid _ := R0.out.below (below_drewN (Below.refl _ _) nq)
      generalize (w.alloc (.cells #[.int .i64 0, .int .i64 0, .string ⟨#[]⟩] 23)).drewN nq = w2 at *
      have d11 := (BW.cell (p := ⟨g, off + 11, none⟩) hg).trans c11.out
      go_loop [6, 28] (fun sl sk => ∃ k : Nat, sk = .int .i64 k ∧ k ≤ 8 ∧ sl = .int .u64 ((beN (m.take k) : Nat) : Int)) (fun _ sk => 8 - (intOf sk).toNat)
      case atStart => exact ⟨0, rfl, by omega, rfl⟩
      case round =>
        obtain ⟨k, rfl, hk, rfl⟩ := hrel
        by_cases hlt : k < 8
        · obtain ⟨x, hx⟩ : ∃ x, m[k]? = some x := ⟨m[k], List.getElem?_eq_getElem (by omega)⟩
          have dx := (BW.cell (p := ⟨g, off + 3 + k, none⟩) hg).trans (cm.out k x hx)
          have hn : Hid (beN (m.take (k + 1)) = beN (m.take k) * 256 + x.toNat) := beN_next hx
          have hL : beN (m.take k) < 72057594037927936 := by
            have h := beN_lt (m.take k)
            have h7 : (m.take k).length ≤ 7 := by rw [List.length_take]; omega
            have : 256 ^ (m.take k).length ≤ 256 ^ 7 := Nat.pow_le_pow_right (by omega) h7
            omega
          have o8 := or8 _ x hL
          clear hx
          have wx : IntKind.u64.wrap (x.toNat : Int) = (x.toNat : Int) := by have := x.toNat_lt; rw [IntKind.wrap_u64]; omega
          generalize beN (m.take k) = L1 at *
          go_wp2_with fail
          go_round
          case rel => exact ⟨k + 1, by go_num, by omega, by rw [hn.out]; exact congrArg _ (by omega)⟩
          case measure => simp [intOf]; omega
        · obtain rfl : k = 8 := by omega
          rw [show beN (m.take 8) = L by rw [← hml, List.take_length]; exact HL.out.symm]
          go_wp2_with fail
          refine (NO.out _).mono ?_
          rintro e w3 ⟨rfl, hb3⟩
          have R3 := RW.out.below hb3
          have B3 := BW.trans (hb3.mono BW.size)
          obtain ⟨lt3, r0, r1, r2, f0, f1, f2⟩ := id R3
          unfold vopt
          go_wp2_with fail
          obtain ⟨_, x0, x1, x2, _, _, _⟩ := (R3.put 0 0 ⟨#[]⟩).alloc (.cells #[.int .i64 0, .int .i64 0, .string ⟨#[]⟩] 23)
          refine bodyPost_ret (v := vrd (.error 20)) (by simp [results, Tryd.results25, go_sem, vrd, x0, x1, x2]) rfl ⟨rfl, ?_⟩
          exact (((B3.setCell (p := ⟨w.heap.size, 0, none⟩) (Nat.le_refl _) _).setCell (p := ⟨w.heap.size, 1, none⟩) (Nat.le_refl _) _).setCell (p := ⟨w.heap.size, 2, none⟩) (Nat.le_refl _) _).alloc (by simp; exact B3.size) _
    · go_enter Tryd.func25, Tryd.ntmps25
      go_wp2_with fail
      go_quiet (fail)
      go_wp2_with fail
      have BW := below_drewN (B0.out (.cells #[.int .i64 0, .int .i64 0, .string ⟨#[]⟩] 23)) nq
      have RW : Hid _ := R0.out.below (below_drewN (Below.refl _ _) nq)
      generalize (w.alloc (.cells #[.int .i64 0, .int .i64 0, .string ⟨#[]⟩] 23)).drewN nq = w2 at *
      have d11 := (BW.cell (p := ⟨g, off + 11, none⟩) hg).trans c11.out
      go_loop [6, 28] (fun sl sk => ∃ k : Nat, sk = .int .i64 k ∧ k ≤ 8 ∧ sl = .int .u64 ((beN (m.take k) : Nat) : Int)) (fun _ sk => 8 - (intOf sk).toNat)
      case atStart => exact ⟨0, rfl, by omega, rfl⟩
      case round =>
        obtain ⟨k, rfl, hk, rfl⟩ := hrel
        by_cases hlt : k < 8
        · obtain ⟨x, hx⟩ : ∃ x, m[k]? = some x := ⟨m[k], List.getElem?_eq_getElem (by omega)⟩
          have dx := (BW.cell (p := ⟨g, off + 3 + k, none⟩) hg).trans (cm.out k x hx)
          have hn : Hid (beN (m.take (k + 1)) = beN (m.take k) * 256 + x.toNat) := beN_next hx
          have hL : beN (m.take k) < 72057594037927936 := by
            have h := beN_lt (m.take k)
            have h7 : (m.take k).length ≤ 7 := by rw [List.length_take]; omega
            have : 256 ^ (m.take k).length ≤ 256 ^ 7 := Nat.pow_le_pow_right (by omega) h7
            omega
          have o8 := or8 _ x hL
          clear hx
          have wx : IntKind.u64.wrap (x.toNat : Int) = (x.toNat : Int) := by have := x.toNat_lt; rw [IntKind.wrap_u64]; omega
          generalize beN (m.take k) = L1 at *
          go_wp2_with fail
          go_round
          case rel => exact ⟨k + 1, by go_num, by omega, by rw [hn.out]; exact congrArg _ (by omega)⟩
          case measure => simp [intOf]; omega
        · obtain rfl : k = 8 := by omega
          rw [show beN (m.take 8) = L by rw [← hml, List.take_length]; exact HL.out.symm]
          go_wp2_with fail
          refine (NO.out _).mono ?_
          rintro e w3 ⟨rfl, hb3⟩
          have R3 := RW.out.below hb3
          have B3 := BW.trans (hb3.mono BW.size)
          obtain ⟨lt3, r0, r1, r2, f0, f1, f2⟩ := id R3
          unfold vopt
          go_wp2_with fail
          obtain ⟨_, x0, x1, x2, _, _, _⟩ := (R3.put t n s).alloc (.cells #[.int .i64 t, .int .i64 n, .string s] 23)
          refine bodyPost_ret (v := vrd (.ok (⟨t, n, s⟩, 12))) (by simp [results, Tryd.results25, go_sem, vrd, x0, x1, x2]) rfl ⟨rfl, ?_⟩
          exact (((B3.setCell (p := ⟨w.heap.size, 0, none⟩) (Nat.le_refl _) _).setCell (p := ⟨w.heap.size, 1, none⟩) (Nat.le_refl _) _).setCell (p := ⟨w.heap.size, 2, none⟩) (Nat.le_refl _) _).alloc (by simp; exact B3.size) _
end Go.Proofs.YtjdnbgnjgicbbaaDoor
