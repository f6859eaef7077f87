/-
  The walk of simfs.Used: how many bytes the files that have names have together, in whatever order they come.
-/
import Derived.Test.YtlfcmhofpieacaaDkB
namespace Go.Proofs.Ytlfcmhofpieacaa
open Go.RowKit Go.Maps Go.Joins

/-- how many bytes the files have together -/
def usedL : List (List UInt8 × Fl) → Nat
  | [] => 0
  | p :: t => p.2.l.length + usedL t
/-- .. those that are no longer to come -/
def met (left : Lit → Bool) : List (List UInt8 × Fl) → Nat
  | [] => 0
  | p :: t => (if left (.string p.1) = true then 0 else p.2.l.length) + met left t
theorem met_le (left : Lit → Bool) : ∀ xs, met left xs ≤ usedL xs
  | [] => Nat.le_refl _
  | p :: t => by
    have := met_le left t
    show (if left (.string p.1) = true then 0 else p.2.l.length) + met left t ≤ p.2.l.length + usedL t
    split <;> omega
theorem met_all {left : Lit → Bool} : ∀ {xs : List (List UInt8 × Fl)}, (∀ p ∈ xs, left (.string p.1) = true) → met left xs = 0
  | [], _ => rfl
  | p :: t, h => by
    show (if left (.string p.1) = true then 0 else p.2.l.length) + met left t = 0
    rw [if_pos (h p (by simp)), met_all (fun q hq => h q (by simp [hq]))]
theorem met_none {left : Lit → Bool} (h : ∀ z, left z = false) : ∀ xs : List (List UInt8 × Fl), met left xs = usedL xs
  | [] => rfl
  | p :: t => by
    show (if left (.string p.1) = true then 0 else p.2.l.length) + met left t = p.2.l.length + usedL t
    rw [if_neg (by rw [h]; simp), met_none h t]
theorem same_str (a b : List UInt8) : (Lit.string a).sameKey (.string b) = (a == b) := rfl
theorem met_out {left : Lit → Bool} {n : List UInt8} : ∀ {xs : List (List UInt8 × Fl)}, (∀ p ∈ xs, p.1 ≠ n) → met (fun z => left z && !z.sameKey (.string n)) xs = met left xs
  | [], _ => rfl
  | p :: t, h => by
    have e : (p.1 == n) = false := by rw [beq_eq_false_iff_ne]; exact h p (by simp)
    show (if (left (.string p.1) && !(Lit.string p.1).sameKey (.string n)) = true then 0 else p.2.l.length) + met _ t = (if left (.string p.1) = true then 0 else p.2.l.length) + met left t
    rw [met_out (fun q hq => h q (by simp [hq])), same_str, e, Bool.not_false, Bool.and_true]
theorem met_step {left : Lit → Bool} {p : List UInt8 × Fl} : ∀ {xs : List (List UInt8 × Fl)}, xs.Pairwise (fun p q => p.1 ≠ q.1) → p ∈ xs → left (.string p.1) = true → met (fun z => left z && !z.sameKey (.string p.1)) xs = met left xs + p.2.l.length
  | [], _, hp, _ => by simp at hp
  | q :: t, hx, hp, hl => by
    rw [List.pairwise_cons] at hx
    show (if (left (.string q.1) && !(Lit.string q.1).sameKey (.string p.1)) = true then 0 else q.2.l.length) + met _ t = (if left (.string q.1) = true then 0 else q.2.l.length) + met left t + p.2.l.length
    rcases List.mem_cons.1 hp with rfl | hp
    · rw [met_out (fun r hr => fun e => hx.1 r hr e.symm), same_str, beq_self_eq_true, Bool.not_true, Bool.and_false, if_neg (by simp), hl, if_pos rfl]; omega
    · have e : (q.1 == p.1) = false := by rw [beq_eq_false_iff_ne]; exact hx.1 p hp
      rw [met_step hx.2 hp hl, same_str, e, Bool.not_false, Bool.and_true]; omega
theorem found {xs : List (List UInt8 × Fl)} {kl : Lit} {y : DataW Unit} (h : ∀ zd, (DataW.map (xs.map ent)).atKey kl zd = y) : ∃ p ∈ xs, kl = .string p.1 ∧ y = .lit (.int .i64 (p.2.b : Int)) := by
  cases hf : (xs.map ent).find? (fun p => p.1.sameKey kl) with
  | none =>
    have h1 := h .nil
    have h2 := h (.lit (.bool true))
    simp only [DataW.atKey, hf] at h1 h2
    rw [← h1] at h2; cases h2
  | some e =>
    have h1 := h .nil
    simp only [DataW.atKey, hf] at h1
    have hm := List.mem_of_find?_eq_some hf
    have hs := List.find?_some hf
    rw [List.mem_map] at hm
    obtain ⟨p, hp, rfl⟩ := hm
    refine ⟨p, hp, ?_, h1.symm⟩
    cases kl with
    | string n =>
      have : (p.1 == n) = true := hs
      rw [beq_iff_eq] at this; rw [this]
    | bool _ => cases hs
    | int _ _ => cases hs
    | float _ _ => cases hs
    | nil => cases hs
theorem keyStr {key : Value} {kl : Lit} (h : keyOf Try.prog 9 key = some kl) : ∃ x, key = .string x := by
  cases key <;> simp [keyOf, mapKey] at h
  exact ⟨_, rfl⟩
theorem Mp.names {w : World} {m : Nat} {xs : List (List UInt8 × Fl)} (h : Mp w m xs) : xs.Pairwise (fun p q => p.1 ≠ q.1) := by
  obtain ⟨es, e, hp⟩ := World.ownsMap.tidy h keyS
  rw [DataW.map.injEq] at e
  rw [← e, List.pairwise_map] at hp
  refine hp.imp ?_
  intro a b hab e
  exact hab (by show Lit.string a.1 = Lit.string b.1; rw [e])
theorem has_ent {xs : List (List UInt8 × Fl)} {p : List UInt8 × Fl} (hp : p ∈ xs) : Maps.has (DataW.map (xs.map ent)) (.string p.1) = true := by
  rw [Maps.has_eq, List.any_eq_true]
  exact ⟨ent p, List.mem_map_of_mem hp, by show (p.1 == p.1) = true; exact beq_self_eq_true _⟩

set_option maxHeartbeats 2000000 in
set_option maxRecDepth 100000 in
theorem Used_any (f m base : Nat) (q st : Int) (ov : Value) (xs : List (List UInt8 × Fl)) (w : World) (h : FsAt w f q (some m) ov st) (hm : Mp w m xs) (hf : ∀ p ∈ xs, FlOk w base p.2) (hu : usedL xs ≤ 1000000000000) :
    Calls Try.prog 17 #[.pointer (some ⟨f, 0, none⟩)] w fun e w' => e = .returned (.int .i64 (usedL xs : Int)) ∧ w.grownBy w' none := by
  obtain ⟨c0, c1, c2, c3, cf⟩ := h.c
  have hnd := hm.names
  have hlt := World.ownsMap.lt hm
  clear h c0 c2 c3
  unfold Mp at hm
  go_enter Try.func17, Try.ntmps17
  go_wp2_with (first
    | (at_range; refine wpList_range_own _ rfl _ 37 rfl 9 42 keyS mapT ptrR m xs.length _ rfl hm ?_; intro w0 hrg0 hg0 hs0)
    | go_in)
  go_frame
  go_loopw [3] (fun s3 wr => ∃ (left : Lit → Bool) (cnt : Nat), s3 = .int .i64 (met left xs : Int) ∧ wr.ranges Try.prog 9 ptrR m w.heap.size xs.length (DataW.map (xs.map ent)) left cnt ∧ w.grownBy wr none)
    (fun _ wr => wr.rangeLeft m w.heap.size)
  case atStart => exact ⟨_, _, by rw [met_all (fun p hp => has_ent hp)]; rfl, hrg0, hg0⟩
  case round =>
    obtain ⟨left, cnt, rfl, hrg, hgw⟩ := hrel
    go_wp2_with (first
      | (at_next; refine wpList_next_ranges _ rfl _ rfl 9 keyS ptrR Value.string Value.pointer (fun key kl hk => keyStr hk) (fun v y hv => by rcases ptrR_inv hv with ⟨rfl, _⟩ | ⟨b, rfl, _⟩ <;> exact ⟨_, rfl⟩) m w.heap.size xs.length _ _ _ rfl hrg ?_ ?_)
      | go_in)
    · intro _ hl0
      have e := met_none hl0 xs
      rw [e]
      go_wp2
      go_ret
      exact ⟨rfl, hgw⟩
    · intro x c kl y yp w1 cnt1 hkey hlk hv hat hrg1 hlt1 hg1 hs1 hen
      obtain ⟨p, hp, rfl, hy⟩ := found hat
      have hc : c = some ⟨p.2.b, 0, none⟩ := by
        rcases ptrR_inv hv with ⟨_, e⟩ | ⟨b, e1, e2⟩
        · cases e; cases hy
        · cases e2
          have : (b : Int) = (p.2.b : Int) := by simpa using hy
          have : b = p.2.b := by omega
          cases e1; rw [this]
      subst hc
      have hgw1 := hgw.andThen hg1 (fun j hj => by cases hj; exact Or.inl (Nat.le_refl _))
      have ok := hf p hp
      have k0 : w1.cell? ⟨p.2.b, 0, none⟩ = some p.2.v := hgw1.cell ok.c.1 (by simp)
      have hst : Hid (met (fun z => left z && !z.sameKey (.string p.1)) xs = met left xs + p.2.l.length) := met_step hnd hp hlk
      have hle := met_le (fun z => left z && !z.sameKey (.string p.1)) xs
      rw [hst.out] at hle
      obtain ⟨P, C, hP⟩ : ∃ P C, p.2.v = .slice P p.2.l.length C := by
        rcases ok.row.2 with ⟨e, h0⟩ | ⟨g, cap, cur, e, _⟩
        · exact ⟨none, 0, by rw [e, h0]⟩
        · exact ⟨_, _, e⟩
      rw [hP] at k0
      have hsum : IntKind.i64.wrap ((met left xs : Int) + (p.2.l.length : Int)) = ((met left xs + p.2.l.length : Nat) : Int) := by rw [IntKind.wrap_i64]; omega
      have hsum2 : wrap64 ((met left xs : Int) + (p.2.l.length : Int)) = ((met left xs + p.2.l.length : Nat) : Int) := by unfold wrap64; omega
      clear hat hv hkey hy hP
      go_wp2
      go_roundw
      case rel => exact ⟨_, cnt1, by rw [hst.out]; first | rfl | (congr 1; omega), hrg1, hgw1⟩
      case measure => rw [hrg1.left_eq, hrg.left_eq]; exact hlt1
end Go.Proofs.Ytlfcmhofpieacaa
