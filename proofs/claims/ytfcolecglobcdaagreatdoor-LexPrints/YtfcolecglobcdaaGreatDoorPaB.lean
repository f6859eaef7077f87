/-
  The walks of value.isWhole, readNumber, parseNumber, parseText and Parse.
-/
import Derived.Test.YtfcolecglobcdaaGreatDoorPaA
import Derived.Test.YtfcolecglobcdaaGreatDoorNumA
namespace Go.Proofs.YtfcolecglobcdaaGreatDoor
open Go.RowKit Go.Shelf

/-- a result's block -/
structure Res (w : World) (g : Nat) (t n : Int) (s : ByteArray) : Prop where
  lt : g < w.heap.size
  c0 : w.cell? ⟨g, 0, none⟩ = some (.int .i64 t)
  c1 : w.cell? ⟨g, 1, none⟩ = some (.int .i64 n)
  c2 : w.cell? ⟨g, 2, none⟩ = some (.string s)
  f0 : w.frozen? ⟨g, 0, none⟩ = false
  f1 : w.frozen? ⟨g, 1, none⟩ = false
  f2 : w.frozen? ⟨g, 2, none⟩ = false
theorem Res.new (w : World) (t n : Int) (s : ByteArray) : Res (w.alloc (.cells #[.int .i64 t, .int .i64 n, .string s] 35)) w.heap.size t n s := by
  constructor
  all_goals go_simp
theorem Res.below {w w' : World} {g : Nat} {t n : Int} {s : ByteArray} (h : Res w g t n s) (hb : Below w.heap.size w w') : Res w' g t n s := by
  obtain ⟨l, c0, c1, c2, f0, f1, f2⟩ := h
  exact ⟨Nat.lt_of_lt_of_le l hb.size, (hb.cell (p := ⟨g, 0, none⟩) l).trans c0, (hb.cell (p := ⟨g, 1, none⟩) l).trans c1, (hb.cell (p := ⟨g, 2, none⟩) l).trans c2, (hb.frozen (p := ⟨g, 0, none⟩) l).trans f0, (hb.frozen (p := ⟨g, 1, none⟩) l).trans f1, (hb.frozen (p := ⟨g, 2, none⟩) l).trans f2⟩
theorem Res.put {w : World} {g : Nat} {t n : Int} {s : ByteArray} (h : Res w g t n s) (t' n' : Int) (s' : ByteArray) : Res (((w.setCell ⟨g, 0, none⟩ (.int .i64 t')).setCell ⟨g, 1, none⟩ (.int .i64 n')).setCell ⟨g, 2, none⟩ (.string s')) g t' n' s' := by
  obtain ⟨l, c0, c1, c2, f0, f1, f2⟩ := h
  constructor
  all_goals first | (simp; exact l) | go_simp
theorem Res.alloc {w : World} {g : Nat} {t n : Int} {s : ByteArray} (h : Res w g t n s) (o : Obj) : Res (w.alloc o) g t n s := h.below ((Below.refl _ w).alloc (Nat.le_refl _) o)
/-- a value and what is wrong, as an answer -/
def av (p : Va × Int) : Value := .tuple #[.agg #[.int .i64 p.1.ty, .int .i64 p.1.n, .string p.1.s], .int .i64 p.2]

set_option maxHeartbeats 2000000 in
set_option maxRecDepth 1000000 in
theorem isWhole_any (l : List UInt8) (w : World) :
    Calls Tryz.prog 143 #[.string ⟨l.toArray⟩] w fun e w' => e = .returned (.bool (whole l)) ∧ Below w.heap.size w w' := by
  have AD : Hid (∀ w, Calls Tryz.prog 146 #[.string ⟨l.toArray⟩] w fun e w' => e = .returned (.bool (allD l)) ∧ Below w.heap.size w w') := fun w => allDigits_any ⟨l.toArray⟩ w
  rcases l with _ | ⟨x, r⟩
  · have e : whole [] = false := rfl
    rw [e]
    clear AD
    go_enter Tryz.func143, Tryz.ntmps143
    go_wp2_with fail
    go_ret
    exact ⟨rfl, Below.refl _ _⟩
  · obtain ⟨l, hl⟩ : ∃ l, l = x :: r := ⟨_, rfl⟩
    have hw : whole (x :: r) = (allD l && (l == [48] || (x != 48))) := by
      have hsx : (some x != some 48) = (x != 48) := by
        by_cases h : x = 48
        · subst h; rfl
        · have : some x ≠ some 48 := fun e => h (Option.some.inj e)
          rw [bne_iff_ne.2 this, bne_iff_ne.2 h]
      rw [hl]; simp [whole, hsx]
    rw [hw]
    have h0 : (l == ([] : List UInt8)) = false := by rw [hl]; rfl
    have h1 : ∀ h, (ByteArray.mk l.toArray)[0]'h = x := by rw [hl]; intro h; rfl
    have h2 : 0 < l.length := by rw [hl]; simp
    have h3 : (0 : Int) < (l.length : Int) := by omega
    have hsz : (ByteArray.mk l.toArray).size = l.length := by show l.toArray.size = _; simp
    rw [← hl] at AD ⊢
    have hx : ((x.toNat : Int) != 48) = (x != 48) := by
      by_cases h : x = 48
      · subst h; rfl
      · have : ¬ (x.toNat : Int) = 48 := fun e => h (UInt8.toNat_inj.1 (by show x.toNat = 48; omega))
        rw [bne_iff_ne.2 this, bne_iff_ne.2 h]
    clear hl hw
    generalize allD l = D at AD ⊢
    rcases D with _ | _
    · go_enter Tryz.func143, Tryz.ntmps143
      go_wp2_with fail
      refine (AD.out _).mono ?_
      rintro e w1 ⟨rfl, b1⟩
      clear AD
      go_wp2_with fail
      go_ret
      exact ⟨rfl, b1⟩
    · cases h48 : (l == [48])
      · go_enter Tryz.func143, Tryz.ntmps143
        go_wp2_with fail
        refine (AD.out _).mono ?_
        rintro e w1 ⟨rfl, b1⟩
        clear AD
        go_wp2_with fail
        go_ret
        exact ⟨by first | rfl | simp [hx] | simp, b1⟩
      · go_enter Tryz.func143, Tryz.ntmps143
        go_wp2_with fail
        refine (AD.out _).mono ?_
        rintro e w1 ⟨rfl, b1⟩
        clear AD
        go_wp2_with fail
        go_ret
        exact ⟨by first | rfl | simp, b1⟩

/-- digits with a sign: the number, and what is wrong -/
def sgn (n : Nat) (neg : Bool) : Int := if neg = true then -(n : Int) else (n : Int)
def rdV (l : List UInt8) (neg : Bool) : Int := if dval 0 l ≤ 18446744073709551615 then ovV (sgn (dval 0 l) neg) else 0
def rdE (l : List UInt8) (neg : Bool) : Int := if dval 0 l ≤ 18446744073709551615 then ovE (sgn (dval 0 l) neg) else 10
theorem signed_any (m : Nat) (neg : Bool) (w : World) (hm : m < 18446744073709551616) :
    Calls Tryz.prog 156 #[.int .u64 m, .bool neg] w fun e w' => e = .returned (.tuple #[.int .i64 (ovV (sgn m neg)), .int .i64 (ovE (sgn m neg))]) ∧ w' = w := by
  cases neg
  · exact signed_pos m w hm
  · exact signed_neg m w hm

set_option maxHeartbeats 2000000 in
set_option maxRecDepth 1000000 in
theorem readNumber_any (l : List UInt8) (neg : Bool) (w : World) (hs : l.length ≤ 100000) (ha : allD l = true) (hne : l ≠ []) (hR : Rg w) :
    Calls Tryz.prog 144 #[.string ⟨l.toArray⟩, .bool neg] w fun e w' => e = .returned (.tuple #[.int .i64 (rdV l neg), .int .i64 (rdE l neg)]) ∧ Below w.heap.size w w' := by
  have hp := parseU_all ha hne
  by_cases h : dval 0 l ≤ 18446744073709551615
  · rw [if_pos h] at hp
    have e1 : rdV l neg = ovV (sgn (dval 0 l) neg) := if_pos h
    have e2 : rdE l neg = ovE (sgn (dval 0 l) neg) := if_pos h
    rw [e1, e2]
    have PU : Hid (∀ w, Calls Tryz.prog 155 #[.string ⟨l.toArray⟩, .int .i64 10, .int .i64 64] w fun e w' => e = .returned (.tuple #[.int .u64 (dval 0 l : Nat), .nilIface]) ∧ Below w.heap.size w w') := fun w => ParseUint_ok ⟨l.toArray⟩ (dval 0 l) w (show l.toArray.size ≤ _ by simpa using hs) (by simpa using hp)
    have SG : Hid (∀ w, Calls Tryz.prog 156 #[.int .u64 (dval 0 l : Nat), .bool neg] w fun e w' => e = .returned (.tuple #[.int .i64 (ovV (sgn (dval 0 l) neg)), .int .i64 (ovE (sgn (dval 0 l) neg))]) ∧ w' = w) := fun w => signed_any _ neg w (by omega)
    generalize dval 0 l = m at *
    generalize ovV (sgn m neg) = V at *
    generalize ovE (sgn m neg) = E at *
    clear hp e1 e2 h hne ha hs
    go_enter Tryz.func144, Tryz.ntmps144
    go_wp2_with fail
    refine (PU.out _).mono ?_
    rintro e w1 ⟨rfl, b1⟩
    clear PU
    go_wp2_with fail
    refine (SG.out _).mono ?_
    rintro e w2 ⟨rfl, rfl⟩
    clear SG
    go_wp2_with fail
    refine bodyPost_ret (v := .tuple #[.int .i64 V, .int .i64 E]) (by simp [results, Tryz.results144, go_sem]) rfl ⟨rfl, b1⟩
  · rw [if_neg h] at hp
    have e1 : rdV l neg = 0 := if_neg h
    have e2 : rdE l neg = 10 := if_neg h
    rw [e1, e2]
    have PU : Hid (∀ w, Rg w → Calls Tryz.prog 155 #[.string ⟨l.toArray⟩, .int .i64 10, .int .i64 64] w fun e w' => (∃ ty p, e = .returned (.tuple #[.int .u64 18446744073709551615, .iface ty p])) ∧ Below w.heap.size w w') := fun w hR => ParseUint_range ⟨l.toArray⟩ w (show l.toArray.size ≤ _ by simpa using hs) hR (by simpa using hp)
    have HR : Hid (Rg w) := hR
    clear hp e1 e2 h hne ha hs hR
    go_enter Tryz.func144, Tryz.ntmps144
    go_wp2_with fail
    refine (PU.out _ HR.out).mono ?_
    rintro e w1 ⟨⟨ty, p, rfl⟩, b1⟩
    clear PU
    go_wp2_with fail
    refine bodyPost_ret (v := .tuple #[.int .i64 0, .int .i64 10]) (by simp [results, Tryz.results144, go_sem]) rfl ⟨rfl, b1⟩
end Go.Proofs.YtfcolecglobcdaaGreatDoor
