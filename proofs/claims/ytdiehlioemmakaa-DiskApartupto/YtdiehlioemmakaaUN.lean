/-
  Calls of a disk that came in; what their bulk says.
-/
import Derived.Test.YtdiehlioemmakaaRows
import Derived.Test.YtdiehlioemmakaaUD
import Derived.Test.YtdiehlioemmakaaUM
import Derived.Test.YtdiehlioemmakaaGeFpx
namespace Go.Proofs.Ytdiehlioemmakaa
open Go.ChangeShapes Go.WideShapes Go.ChangeAt Go.RowKit Go.Lib Go.Joins Go.Deep
set_option maxRecDepth 100000

theorem bulk_one {H : Type} (d : DataW H) : 1 ≤ Rows.uptoBulk d := by
  cases d with
  | lit x => cases x <;> simp [Rows.uptoBulk]
  | _ => simp [Rows.uptoBulk]
theorem bulk_all {H : Type} : ∀ l : List (DataW H), l.length ≤ Rows.uptoBulkAll l
  | [] => Nat.zero_le _
  | d :: l => by
    have h1 := bulk_one d
    have h2 := bulk_all l
    simp only [Rows.uptoBulkAll, List.length_cons]; omega
theorem bulk_slice {H : Type} (elems spare : List (DataW H)) : elems.length ≤ Rows.uptoBulk (.slice elems spare) := by
  have := bulk_all elems
  simp only [Rows.uptoBulk]; omega
theorem bulk_part {H : Type} {d : DataW H} : ∀ {l : List (DataW H)}, d ∈ l → Rows.uptoBulk d ≤ Rows.uptoBulkAll l
  | x :: r, h => by
    simp only [Rows.uptoBulkAll]
    rcases List.mem_cons.1 h with e | e
    · subst e; omega
    · have := bulk_part (l := r) e; omega
theorem bulk_elem {H : Type} {d : DataW H} {elems spare : List (DataW H)} (h : d ∈ elems) : Rows.uptoBulk d ≤ Rows.uptoBulk (.slice elems spare) := by
  have := bulk_part h
  simp only [Rows.uptoBulk]; omega

theorem cellsAct : Try.prog.cellsOf 30 = 6 := by kernel_rfl
theorem cellsStr : Try.prog.cellsOf 9 = 1 := by kernel_rfl
theorem cellsBs : Try.prog.cellsOf 27 = 1 := by kernel_rfl
theorem cellsIs : Try.prog.cellsOf 28 = 1 := by kernel_rfl
theorem trod_struct6 {H : Type} {enc : TypeId × Value → H} {P : Program} {w : World} {base : Nat} {spare : Nat → Bool} {held : Bool} {t : TypeId} {f0 f1 f2 f3 f4 f5 : Field} {fuel : Nat} {cs : List Value} {x : DataW H × List MemPlace} (ht : P.underlying t = some (.struct #[f0, f1, f2, f3, f4, f5])) (h : DataW.trod enc P w base spare held fuel t cs = some x) :
    ∃ y0 y1 y2 y3 y4 y5 n, x.1 = .agg [y0.1, y1.1, y2.1, y3.1, y4.1, y5.1] ∧ cs.length = P.cellsOf t ∧ DataW.trod enc P w base spare held n f0.type ((cs.drop f0.offset).take (P.cellsOf f0.type)) = some y0 ∧
      DataW.trod enc P w base spare held n f1.type ((cs.drop f1.offset).take (P.cellsOf f1.type)) = some y1 ∧ DataW.trod enc P w base spare held n f2.type ((cs.drop f2.offset).take (P.cellsOf f2.type)) = some y2 ∧
      DataW.trod enc P w base spare held n f3.type ((cs.drop f3.offset).take (P.cellsOf f3.type)) = some y3 ∧ DataW.trod enc P w base spare held n f4.type ((cs.drop f4.offset).take (P.cellsOf f4.type)) = some y4 ∧
      DataW.trod enc P w base spare held n f5.type ((cs.drop f5.offset).take (P.cellsOf f5.type)) = some y5 := by
  obtain ⟨xs, n, _, rfl, hl, hlen, hf⟩ := DataW.trod_struct ht h
  match xs, hlen with
  | [y0, y1, y2, y3, y4, y5], _ => exact ⟨y0, y1, y2, y3, y4, y5, n, by simp, hl, by simpa using hf 0 f0 rfl, by simpa using hf 1 f1 rfl, by simpa using hf 2 f2 rfl, by simpa using hf 3 f3 rfl, by simpa using hf 4 f4 rfl, by simpa using hf 5 f5 rfl⟩
/-- bytes that stand in memory -/
theorem in_bytes {H : Type} {enc : TypeId × Value → H} {W : World} {n : Nat} {c : Value} {x : DataW H × List MemPlace} (h : DataW.trod enc Try.prog W 0 (fun _ => true) true n 27 [c] = some x) :
    ∃ (P : Option Addr) (C : Nat) (l : List UInt8), c = .slice P l.length C ∧ byIn W P l ∧ (P = none → C = 0) ∧ l.length ≤ C ∧ (l ≠ [] → ∀ a, P = some a → a.block < W.heap.size) ∧ l.length ≤ Rows.uptoBulk x.1 := by
  rcases open_slice1 Try.underlying27 cellsU8 h with ⟨hcs, _⟩ | ⟨a', len', cap', m, n', V, D, Pl, hcs, _, hl, hm, hmm, hx, hc⟩
  · have e : c = .slice none 0 0 := by simpa using hcs
    subst e
    exact ⟨none, 0, [], rfl, Or.inl ⟨rfl, rfl⟩, fun _ => rfl, Nat.le_refl _, fun h => absurd rfl h, Nat.zero_le _⟩
  · have e : c = .slice (some a') len' cap' := by simpa using hcs
    subst e
    simp only [if_true] at hmm
    subst hmm
    have each : ∀ i, i < len' → ∃ x : UInt8, W.cell? (a'.add i) = some (.int .u8 (x.toNat : Int)) := by
      intro i hi
      obtain ⟨h1, h2⟩ := hc i (by omega)
      obtain ⟨z, e0, _, wz⟩ := DataW.trod_int Try.underlying5 h2
      simp only [List.cons.injEq, and_true] at e0
      have hb := bounds_u8 wz
      refine ⟨UInt8.ofNat z.toNat, ?_⟩
      rw [h1, e0, UInt8.toNat_ofNat']
      have : ((z.toNat % 2 ^ 8 : Nat) : Int) = z := by omega
      rw [this]
    obtain ⟨B, hB⟩ := choose_lt each
    subst hx
    refine ⟨some a', m, (List.range len').map B, by simp, Or.inr ⟨a', rfl, fun i x hv => ?_⟩, (by intro h; cases h), by simpa using hl, fun hne a ea => ?_, ?_⟩
    · have hi : i < len' := by have := (List.getElem?_eq_some_iff.1 hv).1; simpa using this
      have ev : B i = x := by simpa [hi] using hv
      have c0 := hB i hi
      rw [ev] at c0
      exact c0
    · simp only [Option.some.injEq] at ea
      subst ea
      have hp : 0 < len' := by
        rcases Nat.eq_zero_or_pos len' with h0 | h0
        · subst h0; exact absurd rfl hne
        · exact h0
      have hlt := World.block_lt_of_cell? W _ (hB 0 hp)
      have hb : (a'.add 0).block = a'.block := by unfold Addr.add; split <;> rfl
      rw [hb] at hlt
      exact hlt
    · have := bulk_slice ((List.range len').map D) ((List.range (m - len')).map fun j => D (len' + j))
      simpa using this
/-- numbers that stand in memory -/
theorem in_ints {H : Type} {enc : TypeId × Value → H} {W : World} {n : Nat} {c : Value} {x : DataW H × List MemPlace} (h : DataW.trod enc Try.prog W 0 (fun _ => true) true n 28 [c] = some x) :
    ∃ (P : Option Addr) (C : Nat) (l : List Int), c = .slice P l.length C ∧ intIn W P l ∧ (P = none → C = 0 ∧ l = []) ∧ (l ≠ [] → ∀ a, P = some a → a.block < W.heap.size) ∧ (∀ x ∈ l, -9223372036854775808 ≤ x ∧ x ≤ 9223372036854775807) ∧ l.length ≤ Rows.uptoBulk x.1 := by
  rcases open_slice1 Try.underlying28 cellsI h with ⟨hcs, _⟩ | ⟨a', len', cap', m, n', V, D, Pl, hcs, _, hl, hm, hmm, hx, hc⟩
  · have e : c = .slice none 0 0 := by simpa using hcs
    subst e
    exact ⟨none, 0, [], rfl, Or.inl rfl, fun _ => ⟨rfl, rfl⟩, fun h => absurd rfl h, by simp, Nat.zero_le _⟩
  · have e : c = .slice (some a') len' cap' := by simpa using hcs
    subst e
    simp only [if_true] at hmm
    subst hmm
    have each : ∀ i, i < len' → ∃ x : Int, W.cell? (a'.add i) = some (.int .i64 x) ∧ -9223372036854775808 ≤ x ∧ x ≤ 9223372036854775807 := by
      intro i hi
      obtain ⟨h1, h2⟩ := hc i (by omega)
      obtain ⟨z, e0, _, wz⟩ := DataW.trod_int Try.underlying3 h2
      simp only [List.cons.injEq, and_true] at e0
      have hb := bounds_i64 wz
      exact ⟨z, by rw [h1, e0], by omega, by omega⟩
    obtain ⟨B, hB⟩ := choose_lt each
    subst hx
    have hsl : ∀ (hp : 0 < len'), a'.block < W.heap.size := fun hp => by
      have hlt := World.block_lt_of_cell? W _ (hB 0 hp).1
      have hb : (a'.add 0).block = a'.block := by unfold Addr.add; split <;> rfl
      rw [hb] at hlt
      exact hlt
    refine ⟨some a', m, (List.range len').map B, by simp, ?_, (by intro h; cases h), fun hne a ea => ?_, fun x hx => ?_, ?_⟩
    · by_cases h0 : len' = 0
      · subst h0; exact Or.inl rfl
      · have g0 := (hB 0 (by omega)).1
        have hsp : a'.spot = none := by simpa [Addr.add] using World.cell?_spot g0
        obtain ⟨b, off, spot⟩ := a'
        simp only at hsp
        subst hsp
        refine Or.inr ⟨b, off, rfl, fun i x hv => ?_⟩
        have hi : i < len' := by have := (List.getElem?_eq_some_iff.1 hv).1; simpa using this
        have ev : B i = x := by simpa [hi] using hv
        have c0 := (hB i hi).1
        rw [add_plain, ev] at c0
        exact c0
    · simp only [Option.some.injEq] at ea
      subst ea
      refine hsl ?_
      rcases Nat.eq_zero_or_pos len' with h0 | h0
      · subst h0; exact absurd rfl hne
      · exact h0
    · rw [List.mem_map] at hx
      obtain ⟨i, hi, rfl⟩ := hx
      exact (hB i (by simpa using hi)).2
    · have := bulk_slice ((List.range len').map D) ((List.range (m - len')).map fun j => D (len' + j))
      simpa using this
/-- what a call's bulk bounds -/
def acSz (a : AcV) (n : Nat) : Prop := a.n.length ≤ n ∧ a.t.length ≤ n ∧ a.b.length ≤ n ∧ a.ks.length ≤ n
structure AcW (a : AcV) (w : World) (base : Nat) : Prop where
  m : -9223372036854775808 ≤ a.m ∧ a.m ≤ 9223372036854775807
  b : byIn w a.pb a.b
  bb : a.b ≠ [] → ∀ x, a.pb = some x → x.block < base
  bc : a.pb = none → a.cb = 0
  bl : a.b.length ≤ a.cb
  k : intIn w a.pk a.ks
  kb : a.ks ≠ [] → ∀ x, a.pk = some x → x.block < base
  kc : a.pk = none → a.ck = 0 ∧ a.ks = []
  kr : ∀ x ∈ a.ks, -9223372036854775808 ≤ x ∧ x ≤ 9223372036854775807
def cellsA (a : AcV) : List Value := [.int .i64 a.k, .string ⟨a.n.toArray⟩, .string ⟨a.t.toArray⟩, .slice a.pb a.b.length a.cb, .int .i64 a.m, .slice a.pk a.ks.length a.ck]
theorem str_of (s : ByteArray) : s = ⟨s.data.toList.toArray⟩ := by cases s; simp
theorem open_act {H : Type} {enc : TypeId × Value → H} {W : World} {n : Nat} {cs : List Value} {x : DataW H × List MemPlace} (h : DataW.trod enc Try.prog W 0 (fun _ => true) true n 30 cs = some x) :
    ∃ a : AcV, cs = cellsA a ∧ AcW a W W.heap.size ∧ acSz a (Rows.uptoBulk x.1) := by
  obtain ⟨y0, y1, y2, y3, y4, y5, m, hx, hl, t0, t1, t2, t3, t4, t5⟩ := trod_struct6 Try.underlying30 h
  rw [cellsAct] at hl
  match cs, hl with
  | [c0, c1, c2, c3, c4, c5], _ =>
    have u0 : DataW.trod enc Try.prog W 0 (fun _ => true) true m 3 [c0] = some y0 := by simpa [cellsI] using t0
    have u1 : DataW.trod enc Try.prog W 0 (fun _ => true) true m 9 [c1] = some y1 := by simpa [cellsStr] using t1
    have u2 : DataW.trod enc Try.prog W 0 (fun _ => true) true m 9 [c2] = some y2 := by simpa [cellsStr] using t2
    have u3 : DataW.trod enc Try.prog W 0 (fun _ => true) true m 27 [c3] = some y3 := by simpa [cellsBs] using t3
    have u4 : DataW.trod enc Try.prog W 0 (fun _ => true) true m 3 [c4] = some y4 := by simpa [cellsI] using t4
    have u5 : DataW.trod enc Try.prog W 0 (fun _ => true) true m 28 [c5] = some y5 := by simpa [cellsIs] using t5
    obtain ⟨k, e0, _, _⟩ := DataW.trod_int Try.underlying3 u0
    obtain ⟨s1, e1, hy1, _⟩ := DataW.trod_string Try.underlying9 u1
    obtain ⟨s2, e2, hy2, _⟩ := DataW.trod_string Try.underlying9 u2
    obtain ⟨pb, cb, b, e3, b1, b2, b3, b4, b5⟩ := in_bytes u3
    obtain ⟨z, e4, _, wz⟩ := DataW.trod_int Try.underlying3 u4
    obtain ⟨pk, ck, ks, e5, k1, k2, k3, k4, k5⟩ := in_ints u5
    simp only [List.cons.injEq, and_true] at e0 e1 e2 e4
    subst e0 e1 e2 e3 e4 e5
    have hz := bounds_i64 wz
    have hd1 : y1.1 = .lit (.string s1.data.toList) := congrArg Prod.fst hy1
    have hd2 : y2.1 = .lit (.string s2.data.toList) := congrArg Prod.fst hy2
    have B : Rows.uptoBulk x.1 = Rows.uptoBulk y0.1 + ((s1.data.toList.length + 1) + ((s2.data.toList.length + 1) + (Rows.uptoBulk y3.1 + (Rows.uptoBulk y4.1 + (Rows.uptoBulk y5.1 + 0))))) + 1 := by
      rw [hx, hd1, hd2]; simp only [Rows.uptoBulk, Rows.uptoBulkAll]
    refine ⟨⟨k, z, s1.data.toList, s2.data.toList, b, pb, cb, ks, pk, ck⟩, ?_, ⟨⟨show (-9223372036854775808 : Int) ≤ z by omega, show z ≤ 9223372036854775807 by omega⟩, b1, b4, b2, b3, k1, k3, k2, k4⟩, ?_, ?_, ?_, ?_⟩
    · simp only [cellsA, ← str_of]
    · show s1.data.toList.length ≤ _; omega
    · show s2.data.toList.length ≤ _; omega
    · show b.length ≤ _; omega
    · show ks.length ≤ _; omega
theorem AcW.ok {a : AcV} {w : World} {base N : Nat} (h : AcW a w base) (hs : acSz a N) (hN : N ≤ 1048576) : a.ok w base :=
  ⟨h.m, by have := hs.1; omega, by have := hs.2.1; omega, h.b, h.bb, h.bc, h.bl, by have := hs.2.2.1; omega, h.k, h.kb, h.kc, h.kr, by have := hs.2.2.2; omega⟩
/-- calls that came in -/
theorem arg_acts {H : Type} {enc : TypeId × Value → H} {W : World} {base : Nat} {v : Value} {d : DataW H} {p : List MemPlace} (hv : Value.okWide Try.prog W .any base 22 v) (h : DataW.Trod enc Try.prog W 0 (fun _ => true) true 22 v d p) (hN : Rows.uptoBulk d ≤ 1048576) :
    ∃ (P : Option Addr) (C : Nat) (L : List AcV), v = .slice P L.length C ∧ acsIn W W.heap.size P L ∧ L.length ≤ Rows.uptoBulk d := by
  obtain ⟨a, len, cap, rfl⟩ := okWide_slice Try.underlying22 hv
  obtain ⟨n, hn⟩ := h
  rcases open_slice Try.underlying22 hn with ⟨hcs, _⟩ | ⟨a', len', cap', m, n', D, Pl, hcs, _, hl, hm, hmm, hx, hc⟩
  · have e : (.slice a len cap : Value) = .slice none 0 0 := by simpa [Value.cells] using hcs
    simp only [Value.slice.injEq] at e
    obtain ⟨rfl, rfl, rfl⟩ := e
    exact ⟨none, 0, [], rfl, ⟨by simp, Or.inl rfl⟩, Nat.zero_le _⟩
  · have e : (.slice a len cap : Value) = .slice (some a') len' cap' := by simpa [Value.cells] using hcs
    simp only [Value.slice.injEq] at e
    obtain ⟨rfl, rfl, rfl⟩ := e
    simp only [if_true] at hmm
    subst hmm
    simp only [Prod.mk.injEq] at hx
    obtain ⟨hd, _⟩ := hx
    have each : ∀ i, i < len → ∃ t : AcV, (∀ r u, (cellsA t)[r]? = some u → W.cell? ((a'.add (i * 6)).add r) = some u) ∧ t.ok W W.heap.size := by
      intro i hi
      obtain ⟨cs', h1, h2⟩ := hc i (by omega)
      rw [cellsAct] at h1
      obtain ⟨_, _, hcell⟩ := World.cells?_some h1
      obtain ⟨t, rfl, hw, hz⟩ := open_act h2
      refine ⟨t, fun r u hr => ?_, hw.ok hz ?_⟩
      · have hr6 := (List.getElem?_eq_some_iff.1 hr).1
        have := hcell r (by simpa [cellsA] using hr6)
        rw [this, hr]
      · have hmem : D i ∈ (List.range len).map D := List.mem_map.2 ⟨i, List.mem_range.2 hi, rfl⟩
        have := bulk_elem (spare := (List.range (m - len)).map fun j => D (len + j)) hmem
        rw [← hd] at this
        exact Nat.le_trans this hN
    obtain ⟨T, hT⟩ := @choose_lt AcV ⟨⟨0, 0, [], [], [], none, 0, [], none, 0⟩⟩ _ _ each
    refine ⟨some a', m, (List.range len).map T, by simp, ⟨fun t ht => ?_, ?_⟩, ?_⟩
    · simp only [List.mem_map, List.mem_range] at ht
      obtain ⟨i, hi, rfl⟩ := ht
      exact (hT i hi).2
    · by_cases h0 : len = 0
      · subst h0; exact Or.inl rfl
      · have g0 := (hT 0 (by omega)).1 0 _ rfl
        have hsp : a'.spot = none := by simpa [Addr.add] using World.cell?_spot g0
        obtain ⟨b, off, spot⟩ := a'
        simp only at hsp
        subst hsp
        have hlt := World.block_lt_of_cell? W _ g0
        refine Or.inr ⟨b, off, rfl, by simpa [Addr.add] using hlt, fun i t hv => ?_⟩
        have hi : i < len := by have := (List.getElem?_eq_some_iff.1 hv).1; simpa using this
        have ev : T i = t := by simpa [hi] using hv
        subst ev
        have g := (hT i hi).1
        refine ⟨?_, ?_, ?_, ?_, ?_, ?_⟩
        · have := g 0 _ rfl; rw [add_plain, add_plain] at this; exact this
        · have := g 1 _ rfl; rw [add_plain, add_plain] at this; exact this
        · have := g 2 _ rfl; rw [add_plain, add_plain] at this; exact this
        · have := g 3 _ rfl; rw [add_plain, add_plain] at this; exact this
        · have := g 4 _ rfl; rw [add_plain, add_plain] at this; exact this
        · have := g 5 _ rfl; rw [add_plain, add_plain] at this; exact this
    · have := bulk_slice ((List.range len).map D) ((List.range (m - len)).map fun j => D (len + j))
      rw [← hd] at this
      simp only [List.length_map, List.length_range] at this ⊢
      exact this
/-- numbers that came in, with where they lie -/
theorem arg_ints0 {H : Type} {enc : TypeId × Value → H} {W : World} {base : Nat} {v : Value} {d : DataW H} {p : List MemPlace} (hv : Value.okWide Try.prog W .any base 28 v) (h : DataW.Trod enc Try.prog W 0 (fun _ => true) true 28 v d p) (hN : Rows.uptoBulk d ≤ 1048576) :
    ∃ (P : Option Addr) (C : Nat) (l : List Int), v = .slice P l.length C ∧ intIn W P l ∧ (l ≠ [] → ∀ a, P = some a → a.block < W.heap.size) ∧ (∀ x ∈ l, -9223372036854775808 ≤ x ∧ x ≤ 9223372036854775807) ∧ l.length ≤ 1000000000 := by
  obtain ⟨a, len, cap, rfl⟩ := okWide_slice Try.underlying28 hv
  obtain ⟨n, hn⟩ := h
  obtain ⟨P, C, l, e, h1, _, h3, h4, h5⟩ := in_ints (c := .slice a len cap) (by simpa [Value.cells] using hn)
  simp only at h5
  exact ⟨P, C, l, e, h1, h3, h4, by omega⟩
end Go.Proofs.Ytdiehlioemmakaa

namespace Go.Proofs.Ytdiehlioemmakaa
open Go.RowKit Go.Maps Go.Joins

/-- an entry of an image in memory -/
structure enAt (w : World) (g i : Nat) (z : List UInt8 × (List UInt8 × Nat)) (Pz : Option Addr) (Cz : Nat) : Prop where
  n : w.cell? ⟨g, i * 3, none⟩ = some (.string ⟨z.1.toArray⟩)
  b : w.cell? ⟨g, i * 3 + 1, none⟩ = some (.slice Pz z.2.1.length Cz)
  k : w.cell? ⟨g, i * 3 + 2, none⟩ = some (.int .i64 (z.2.2 : Int))
  by_ : byIn w Pz z.2.1
  no : Pz = none → Cz = 0
/-- entries of an image in memory -/
def enIn (w : World) (P : Option Addr) (zs : List (List UInt8 × (List UInt8 × Nat))) : Prop := ∀ (i : Nat) (z : List UInt8 × (List UInt8 × Nat)), zs[i]? = some z → ∃ g Pz Cz, P = some ⟨g, 0, none⟩ ∧ enAt w g i z Pz Cz
theorem enIn.grow {w w' : World} {P : Option Addr} {zs : List (List UInt8 × (List UInt8 × Nat))} (h : enIn w P zs) (hg : w.grownBy w' none) : enIn w' P zs := fun i z hz => by
  obtain ⟨g, Pz, Cz, e, h1, h2, h3, h4, h5⟩ := h i z hz
  exact ⟨g, Pz, Cz, e, hg.cell h1 (by simp), hg.cell h2 (by simp), hg.cell h3 (by simp), h4.kept hg, h5⟩
theorem imgIn.en {w : World} {base : Nat} {P : Option Addr} {C L : Nat} {zs : List (List UInt8 × Fl)} (h : imgIn w base (.slice P L C) zs) (hL : zs.length = L) : enIn w P (absX zs) := fun i z hz => by
  obtain ⟨y, hy⟩ : ∃ y, zs[i]? = some y := by
    have hi := (List.getElem?_eq_some_iff.1 hz).1
    rw [abs_len] at hi
    exact ⟨zs[i], List.getElem?_eq_getElem hi⟩
  obtain ⟨g, e, h1, h2, h3, Pz, Cz, ez, ho⟩ := h.at_ hL hy
  have hz2 : z = (y.1, (y.2.l, y.2.k)) := by
    have : (absX zs)[i]? = some (y.1, (y.2.l, y.2.k)) := by simp [absX, hy]
    rw [this] at hz; exact (Option.some.inj hz).symm
  subst hz2
  have ob := own_by ho
  exact ⟨g, Pz, Cz, e, h1, by rw [h2, ez], h3, ob.1, ob.2.1⟩
set_option maxHeartbeats 8000000 in
set_option maxRecDepth 1000000 in
theorem Images_any (zs : List (List UInt8 × (List UInt8 × Nat))) (Pa Pb : Option Addr) (Ca Cb L : Nat) (w : World) (hL : zs.length = L) (hLb : L ≤ 1000) (ha : enIn w Pa zs) (hb : enIn w Pb zs) : Calls Try.prog 20 #[.slice Pa L Ca, .slice Pb L Cb] w fun e w' => e = .returned (.bool true) ∧ w.grownBy w' none := by
  have HA := mkHid ha
  have HB := mkHid hb
  have HL := mkHid hL
  clear ha hb hL
  go_enter Try.func20, Try.ntmps20
  go_wp2_with fail
  go_loopw [5] (fun s5 wr => ∃ (i : Nat), s5 = .int .i64 (i : Int) ∧ i ≤ L ∧ Hid (w.grownBy wr none)) (fun s5 _ => L - (intOf s5).toNat)
  case atStart => exact ⟨0, rfl, Nat.zero_le _, gr_refl w⟩
  case round =>
    obtain ⟨i, rfl, hi, GR⟩ := hrel
    by_cases hlt : i < L
    · have hlti : (i : Int) < (L : Int) := by omega
      obtain ⟨z, hz⟩ : ∃ z, zs[i]? = some z := ⟨zs[i]'(by have : zs.length = L := HL.out; omega), List.getElem?_eq_getElem _⟩
      obtain ⟨g1, Pz, Cz, rfl, a0, a1, a2, a3, a4⟩ := (HA.out.grow GR.out) i z hz
      obtain ⟨g2, Py, Cy, rfl, b0, b1, b2, b3, b4⟩ := (HB.out.grow GR.out) i z hz
      have cz := conv_by (a3.kept (gr_drew wr)) a4
      have cy := conv_by (b3.kept (gr_drew wr)) b4
      obtain ⟨n, hn5⟩ : ∃ n, n = z.1 := ⟨_, rfl⟩
      obtain ⟨l, hl5⟩ : ∃ l, l = z.2.1 := ⟨_, rfl⟩
      obtain ⟨k, hk5⟩ : ∃ k, k = z.2.2 := ⟨_, rfl⟩
      rw [← hn5] at a0 b0
      rw [← hl5] at a1 b1 cz cy
      rw [← hk5] at a2 b2
      obtain ⟨M, hM⟩ : ∃ M, M = l.length := ⟨_, rfl⟩
      rw [← hM] at a1 b1 cz cy
      have hl1 := World.block_lt_of_cell? wr _ a0
      have hl2 := World.block_lt_of_cell? wr _ b0
      clear a3 a4 b3 b4 hz hn5 hl5 hk5 hM
      have G7 := mkHid (gr_drew wr)
      go_wp2_with fail
      refine wp_region_noPanic ?_
      refine wp_region_held_drew (S := fun w' : World => w'.cell? ⟨g1, i * 3, none⟩ = some (.string ⟨n.toArray⟩) ∧ w'.cell? ⟨g1, i * 3 + 1, none⟩ = some (.slice Pz M Cz) ∧ w'.cell? ⟨g1, i * 3 + 2, none⟩ = some (.int .i64 (k : Int)) ∧ w'.cell? ⟨g2, i * 3, none⟩ = some (.string ⟨n.toArray⟩) ∧ w'.cell? ⟨g2, i * 3 + 1, none⟩ = some (.slice Py M Cy) ∧ w'.cell? ⟨g2, i * 3 + 2, none⟩ = some (.int .i64 (k : Int)) ∧ (convert 27 9 (.slice Pz M Cz)).run Try.prog w' = .ok (.string ⟨l.toArray⟩) w' ∧ (convert 27 9 (.slice Py M Cy)).run Try.prog w' = .ok (.string ⟨l.toArray⟩) w') (by kernel_rfl) (⟨a0, a1, a2, b0, b1, b2, cz, cy⟩) (fun hH => ?_)
      refine tKx (i := 0) (v := .slice (some ⟨g1, 0, none⟩) L Ca) rfl rfl (by kernel_rfl) (fun _ _ _ h => h) ?_ hH ?_
      · intro w5 hSw; obtain ⟨c0, c1, c2, d0, d1, d2, v1, v2⟩ := hSw; go_simp
      simp only [zA9, zB9, zC9]
      refine tKx (i := 1) (v := .int .i64 (i : Int)) rfl rfl (by kernel_rfl) (fun _ _ _ h => h) ?_ hH ?_
      · intro w5 hSw; obtain ⟨c0, c1, c2, d0, d1, d2, v1, v2⟩ := hSw; go_simp
      simp only [zA9, zB9, zC9]
      refine tKx (i := 2) (v := .pointer (some ⟨g1, i * 3, none⟩)) rfl rfl (by kernel_rfl) (fun _ _ _ h => h) ?_ hH ?_
      · intro w5 hSw; obtain ⟨c0, c1, c2, d0, d1, d2, v1, v2⟩ := hSw; go_simp
      simp only [zA9, zB9, zC9]
      refine tKx (i := 3) (v := .pointer (some ⟨g1, i * 3, none⟩)) rfl rfl (by kernel_rfl) (fun _ _ _ h => h) ?_ hH ?_
      · intro w5 hSw; obtain ⟨c0, c1, c2, d0, d1, d2, v1, v2⟩ := hSw; go_simp
      simp only [zA9, zB9, zC9]
      refine tKx (i := 4) (v := .string ⟨n.toArray⟩) rfl rfl (by kernel_rfl) (fun _ _ _ h => h) ?_ hH ?_
      · intro w5 hSw; obtain ⟨c0, c1, c2, d0, d1, d2, v1, v2⟩ := hSw; go_simp
      simp only [zA9, zB9, zC9]
      refine tKx (i := 5) (v := .slice (some ⟨g2, 0, none⟩) L Cb) rfl rfl (by kernel_rfl) (fun _ _ _ h => h) ?_ hH ?_
      · intro w5 hSw; obtain ⟨c0, c1, c2, d0, d1, d2, v1, v2⟩ := hSw; go_simp
      simp only [zA9, zB9, zC9]
      refine tKx (i := 6) (v := .int .i64 (i : Int)) rfl rfl (by kernel_rfl) (fun _ _ _ h => h) ?_ hH ?_
      · intro w5 hSw; obtain ⟨c0, c1, c2, d0, d1, d2, v1, v2⟩ := hSw; go_simp
      simp only [zA9, zB9, zC9]
      refine tKx (i := 7) (v := .pointer (some ⟨g2, i * 3, none⟩)) rfl rfl (by kernel_rfl) (fun _ _ _ h => h) ?_ hH ?_
      · intro w5 hSw; obtain ⟨c0, c1, c2, d0, d1, d2, v1, v2⟩ := hSw; go_simp
      simp only [zA9, zB9, zC9]
      refine tKx (i := 8) (v := .pointer (some ⟨g2, i * 3, none⟩)) rfl rfl (by kernel_rfl) (fun _ _ _ h => h) ?_ hH ?_
      · intro w5 hSw; obtain ⟨c0, c1, c2, d0, d1, d2, v1, v2⟩ := hSw; go_simp
      simp only [zA9, zB9, zC9]
      refine tKx (i := 9) (v := .string ⟨n.toArray⟩) rfl rfl (by kernel_rfl) (fun _ _ _ h => h) ?_ hH ?_
      · intro w5 hSw; obtain ⟨c0, c1, c2, d0, d1, d2, v1, v2⟩ := hSw; go_simp
      simp only [zA9, zB9, zC9]
      refine tKx (i := 10) (v := .bool false) rfl rfl (by kernel_rfl) (fun _ _ _ h => h) ?_ hH ?_
      · intro w5 hSw; obtain ⟨c0, c1, c2, d0, d1, d2, v1, v2⟩ := hSw; go_simp
      simp only [zA9, zB9, zC9]
      refine tKx (i := 11) (v := .bool false) rfl rfl (by kernel_rfl) (fun _ _ _ h => h) ?_ hH ?_
      · intro w5 hSw; obtain ⟨c0, c1, c2, d0, d1, d2, v1, v2⟩ := hSw; go_simp
      simp only [zA9, zB9, zC9]
      refine tKx (i := 12) (v := .slice (some ⟨g1, 0, none⟩) L Ca) rfl rfl (by kernel_rfl) (fun _ _ _ h => h) ?_ hH ?_
      · intro w5 hSw; obtain ⟨c0, c1, c2, d0, d1, d2, v1, v2⟩ := hSw; go_simp
      simp only [zA9, zB9, zC9]
      refine tKx (i := 13) (v := .int .i64 (i : Int)) rfl rfl (by kernel_rfl) (fun _ _ _ h => h) ?_ hH ?_
      · intro w5 hSw; obtain ⟨c0, c1, c2, d0, d1, d2, v1, v2⟩ := hSw; go_simp
      simp only [zA9, zB9, zC9]
      refine tKx (i := 14) (v := .pointer (some ⟨g1, i * 3, none⟩)) rfl rfl (by kernel_rfl) (fun _ _ _ h => h) ?_ hH ?_
      · intro w5 hSw; obtain ⟨c0, c1, c2, d0, d1, d2, v1, v2⟩ := hSw; go_simp
      simp only [zA9, zB9, zC9]
      refine tKx (i := 15) (v := .pointer (some ⟨g1, i * 3 + 2, none⟩)) rfl rfl (by kernel_rfl) (fun _ _ _ h => h) ?_ hH ?_
      · intro w5 hSw; obtain ⟨c0, c1, c2, d0, d1, d2, v1, v2⟩ := hSw; go_simp
      simp only [zA9, zB9, zC9]
      refine tKx (i := 16) (v := .int .i64 (k : Int)) rfl rfl (by kernel_rfl) (fun _ _ _ h => h) ?_ hH ?_
      · intro w5 hSw; obtain ⟨c0, c1, c2, d0, d1, d2, v1, v2⟩ := hSw; go_simp
      simp only [zA9, zB9, zC9]
      refine tKx (i := 17) (v := .slice (some ⟨g2, 0, none⟩) L Cb) rfl rfl (by kernel_rfl) (fun _ _ _ h => h) ?_ hH ?_
      · intro w5 hSw; obtain ⟨c0, c1, c2, d0, d1, d2, v1, v2⟩ := hSw; go_simp
      simp only [zA9, zB9, zC9]
      refine tKx (i := 18) (v := .int .i64 (i : Int)) rfl rfl (by kernel_rfl) (fun _ _ _ h => h) ?_ hH ?_
      · intro w5 hSw; obtain ⟨c0, c1, c2, d0, d1, d2, v1, v2⟩ := hSw; go_simp
      simp only [zA9, zB9, zC9]
      refine tKx (i := 19) (v := .pointer (some ⟨g2, i * 3, none⟩)) rfl rfl (by kernel_rfl) (fun _ _ _ h => h) ?_ hH ?_
      · intro w5 hSw; obtain ⟨c0, c1, c2, d0, d1, d2, v1, v2⟩ := hSw; go_simp
      simp only [zA9, zB9, zC9]
      refine tKx (i := 20) (v := .pointer (some ⟨g2, i * 3 + 2, none⟩)) rfl rfl (by kernel_rfl) (fun _ _ _ h => h) ?_ hH ?_
      · intro w5 hSw; obtain ⟨c0, c1, c2, d0, d1, d2, v1, v2⟩ := hSw; go_simp
      simp only [zA9, zB9, zC9]
      refine tKx (i := 21) (v := .int .i64 (k : Int)) rfl rfl (by kernel_rfl) (fun _ _ _ h => h) ?_ hH ?_
      · intro w5 hSw; obtain ⟨c0, c1, c2, d0, d1, d2, v1, v2⟩ := hSw; go_simp
      simp only [zA9, zB9, zC9]
      refine tKx (i := 22) (v := .bool false) rfl rfl (by kernel_rfl) (fun _ _ _ h => h) ?_ hH ?_
      · intro w5 hSw; obtain ⟨c0, c1, c2, d0, d1, d2, v1, v2⟩ := hSw; go_simp
      simp only [zA9, zB9, zC9]
      refine tKx (i := 23) (v := .bool false) rfl rfl (by kernel_rfl) (fun _ _ _ h => h) ?_ hH ?_
      · intro w5 hSw; obtain ⟨c0, c1, c2, d0, d1, d2, v1, v2⟩ := hSw; go_simp
      simp only [zA9, zB9, zC9]
      refine tKx (i := 24) (v := .bool false) rfl rfl (by kernel_rfl) (fun _ _ _ h => h) ?_ hH ?_
      · intro w5 hSw; obtain ⟨c0, c1, c2, d0, d1, d2, v1, v2⟩ := hSw; go_simp
      simp only [zA9, zB9, zC9]
      refine tKx (i := 25) (v := .slice (some ⟨g1, 0, none⟩) L Ca) rfl rfl (by kernel_rfl) (fun _ _ _ h => h) ?_ hH ?_
      · intro w5 hSw; obtain ⟨c0, c1, c2, d0, d1, d2, v1, v2⟩ := hSw; go_simp
      simp only [zA9, zB9, zC9]
      refine tKx (i := 26) (v := .int .i64 (i : Int)) rfl rfl (by kernel_rfl) (fun _ _ _ h => h) ?_ hH ?_
      · intro w5 hSw; obtain ⟨c0, c1, c2, d0, d1, d2, v1, v2⟩ := hSw; go_simp
      simp only [zA9, zB9, zC9]
      refine tKx (i := 27) (v := .pointer (some ⟨g1, i * 3, none⟩)) rfl rfl (by kernel_rfl) (fun _ _ _ h => h) ?_ hH ?_
      · intro w5 hSw; obtain ⟨c0, c1, c2, d0, d1, d2, v1, v2⟩ := hSw; go_simp
      simp only [zA9, zB9, zC9]
      refine tKx (i := 28) (v := .pointer (some ⟨g1, i * 3 + 1, none⟩)) rfl rfl (by kernel_rfl) (fun _ _ _ h => h) ?_ hH ?_
      · intro w5 hSw; obtain ⟨c0, c1, c2, d0, d1, d2, v1, v2⟩ := hSw; go_simp
      simp only [zA9, zB9, zC9]
      refine tKx (i := 29) (v := .slice Pz M Cz) rfl rfl (by kernel_rfl) (fun _ _ _ h => h) ?_ hH ?_
      · intro w5 hSw; obtain ⟨c0, c1, c2, d0, d1, d2, v1, v2⟩ := hSw; go_simp
      simp only [zA9, zB9, zC9]
      refine tKx (i := 30) (v := .string ⟨l.toArray⟩) rfl rfl (by kernel_rfl) (fun _ _ _ h => h) ?_ hH ?_
      · intro w5 hSw; obtain ⟨c0, c1, c2, d0, d1, d2, v1, v2⟩ := hSw; go_simp
      simp only [zA9, zB9, zC9]
      refine tKx (i := 31) (v := .slice (some ⟨g2, 0, none⟩) L Cb) rfl rfl (by kernel_rfl) (fun _ _ _ h => h) ?_ hH ?_
      · intro w5 hSw; obtain ⟨c0, c1, c2, d0, d1, d2, v1, v2⟩ := hSw; go_simp
      simp only [zA9, zB9, zC9]
      refine tKx (i := 32) (v := .int .i64 (i : Int)) rfl rfl (by kernel_rfl) (fun _ _ _ h => h) ?_ hH ?_
      · intro w5 hSw; obtain ⟨c0, c1, c2, d0, d1, d2, v1, v2⟩ := hSw; go_simp
      simp only [zA9, zB9, zC9]
      refine tKx (i := 33) (v := .pointer (some ⟨g2, i * 3, none⟩)) rfl rfl (by kernel_rfl) (fun _ _ _ h => h) ?_ hH ?_
      · intro w5 hSw; obtain ⟨c0, c1, c2, d0, d1, d2, v1, v2⟩ := hSw; go_simp
      simp only [zA9, zB9, zC9]
      refine tKx (i := 34) (v := .pointer (some ⟨g2, i * 3 + 1, none⟩)) rfl rfl (by kernel_rfl) (fun _ _ _ h => h) ?_ hH ?_
      · intro w5 hSw; obtain ⟨c0, c1, c2, d0, d1, d2, v1, v2⟩ := hSw; go_simp
      simp only [zA9, zB9, zC9]
      refine tKx (i := 35) (v := .slice Py M Cy) rfl rfl (by kernel_rfl) (fun _ _ _ h => h) ?_ hH ?_
      · intro w5 hSw; obtain ⟨c0, c1, c2, d0, d1, d2, v1, v2⟩ := hSw; go_simp
      simp only [zA9, zB9, zC9]
      refine tKx (i := 36) (v := .string ⟨l.toArray⟩) rfl rfl (by kernel_rfl) (fun _ _ _ h => h) ?_ hH ?_
      · intro w5 hSw; obtain ⟨c0, c1, c2, d0, d1, d2, v1, v2⟩ := hSw; go_simp
      simp only [zA9, zB9, zC9]
      refine tKx (i := 37) (v := .bool false) rfl rfl (by kernel_rfl) (fun _ _ _ h => h) ?_ hH ?_
      · intro w5 hSw; obtain ⟨c0, c1, c2, d0, d1, d2, v1, v2⟩ := hSw; go_simp
      simp only [zA9, zB9, zC9]
      refine tKx (i := 38) (v := .bool false) rfl rfl (by kernel_rfl) (fun _ _ _ h => h) ?_ hH ?_
      · intro w5 hSw; obtain ⟨c0, c1, c2, d0, d1, d2, v1, v2⟩ := hSw; go_simp
      simp only [zA9, zB9, zC9]
      refine wpAnyH_done (by kernel_rfl) ?_ _
      refine NoPanic.normal ?_
      go_wp2_with fail
      go_roundw
      case rel => exact ⟨i + 1, by go_num, hlt, grTrans GR.out G7.out⟩
      case measure => simp [intOf]; omega
    · have hlti : ¬ (i : Int) < (L : Int) := by omega
      go_wp2_with fail
      go_ret
      exact ⟨rfl, GR.out⟩
end Go.Proofs.Ytdiehlioemmakaa

namespace Go.Proofs.Ytdiehlioemmakaa
open Go.RowKit Go.Maps Go.Joins

abbrev Ab' := List (List UInt8 × (List UInt8 × Nat))
/-- a disk of the program with these files, no open change, not stopped -/
def Dz (P : Nat → Prop) (w : World) (base fp : Nat) (q : Int) (A : Ab') : Prop := ∃ mo xs s, absX xs = A ∧ Dsk P w base fp q 0 mo xs [] ∧ Jn s 0 xs [] ∧ s.q = q
theorem Dz.kept {P : Nat → Prop} {w w' : World} {base fp : Nat} {q : Int} {A : Ab'} (h : Dz P w base fp q A) (hg : w.grownBy w' none) : Dz P w' base fp q A := by
  obtain ⟨mo, xs, s, h1, h2, h3, h4⟩ := h
  exact ⟨mo, xs, s, h1, h2.kept hg, h3, h4⟩
theorem Dz.pb {P : Nat → Prop} {w : World} {base fp : Nat} {q : Int} {A : Ab'} (h : Dz P w base fp q A) : ∀ i, P i → base ≤ i ∧ i < w.heap.size := by
  obtain ⟨mo, xs, s, h1, h2, h3, h4⟩ := h
  exact h2.pb
theorem abs_names (xs : List (List UInt8 × Fl)) : (absX xs).map (·.1) = xs.map (·.1) := by simp [absX]
theorem Jn.names {s : St} {st : Int} {xs : List (List UInt8 × Fl)} {us : List Ux} (h : Jn s st xs us) : ∀ p ∈ absX xs, nmOk p.1 = true := fun p hp => by
  rw [h.ab] at hp
  obtain ⟨y, hy, rfl⟩ := List.mem_map.1 hp
  exact (h.nw.nm y hy).1
theorem Dz.facts {P : Nat → Prop} {w : World} {base fp : Nat} {q : Int} {A : Ab'} (h : Dz P w base fp q A) : SrtN A ∧ A.length ≤ 64 ∧ ∀ p ∈ A, nmOk p.1 = true := by
  obtain ⟨mo, xs, s, rfl, h2, h3, h4⟩ := h
  exact ⟨abs_srt.2 h3.so, by rw [abs_len]; exact h3.len.2, h3.names⟩
theorem put_keys {α : Type} {n : List UInt8} {v x : α} {A : List (List UInt8 × α)} (so : SrtN A) (h : lookN n A = some x) : (putN n v A).map (·.1) = A.map (·.1) := by
  obtain ⟨a, b, rfl⟩ := List.append_of_mem (look_mem h)
  rw [put_mid so]; simp
theorem mem_look {n : List UInt8} {A : Ab'} (so : SrtN A) (h : n ∈ A.map (·.1)) : ∃ x, lookN n A = some x := by
  obtain ⟨p, hp, rfl⟩ := List.mem_map.1 h
  exact ⟨p.2, look_in so hp⟩
theorem stp_q (s : St) : (stp s).1.q = s.q := by unfold stp; (repeat' split) <;> rfl
theorem snS_q (n : List UInt8) (s : St) : (snS n s).q = s.q := by unfold snS; (repeat' split) <;> first | rfl | exact stp_q s
theorem apS_q (n b : List UInt8) (s : St) : (apS n b s).q = s.q := by unfold apS; (repeat' split) <;> first | rfl | exact stp_q s
theorem Dz.crash {P : Nat → Prop} {w : World} {base fp : Nat} {q : Int} {A : Ab'} (h : Dz P w base fp q A) (keeps : List Int) (Pk : Option Addr) (Ck : Nat) (names : Int) (hn : -9223372036854775808 ≤ names ∧ names ≤ 9223372036854775807) (hk : ∀ w', Chg P w w' → intIn w' Pk keeps) (hkr : ∀ x ∈ keeps, -9223372036854775808 ≤ x ∧ x ≤ 9223372036854775807) (hkl : keeps.length ≤ 1000000000) :
    Calls Try.prog 17 #[.pointer (some ⟨fp, 0, none⟩), .slice Pk keeps.length Ck, .int .i64 names] w fun e w' => e = .returned (.tuple #[]) ∧ Dz (ext P w w') w' base fp q (cutsA keeps 0 A) ∧ Chg P w w' := by
  obtain ⟨mo, xs, s, rfl, d, j, hq⟩ := h
  refine (Crash_any base fp q 0 mo xs [] keeps Pk Ck names (fun j => absW s.fs (s.ways.getD j [])) w hn (by simp) j.una.1 j.una.2.1 j.una.2.2.1 j.una.2.2.2 hk hkr (by omega) d).mono ?_
  rintro e w' ⟨rfl, xs', hx, d', c⟩
  have h0 : kp names ([] : List Ux).length = ([] : List Ux).length := by unfold kp; simp [Nat.mod_one]
  refine ⟨rfl, ⟨mo, xs', crashS keeps names s, ?_, d', j.crash keeps names hx, hq⟩, c⟩
  rw [hx, h0, j.una.1]
def ImZ (w : World) (A : Ab') (e : Ending) (w' : World) : Prop := ∃ P C, e = .returned (.slice P A.length C) ∧ enIn w' P A ∧ (∀ S : Nat → Prop, (∀ i, S i → i < w.heap.size) → ∀ w2, Chg S w' w2 → enIn w2 P A) ∧ w.grownBy w' none
theorem ImZ.of {w : World} {xs : List (List UInt8 × Fl)} {e : Ending} {w' : World} (h : ImQ w xs e w') : ImZ w (absX xs) e w' := by
  obtain ⟨v, zs, rfl, im, ab, g⟩ := h
  have hl : zs.length = (absX xs).length := by rw [← ab, abs_len]
  obtain ⟨P, C, hv⟩ := row_formS im.row
  rw [hl] at hv
  subst hv
  refine ⟨P, C, rfl, ?_, fun S hS w2 hc => ?_, g⟩
  · have := im.en hl; rw [ab] at this; exact this
  · have := (im.chg hc hS).en hl; rw [ab] at this; exact this
theorem Dz.image {P : Nat → Prop} {w : World} {base fp : Nat} {q : Int} {A : Ab'} (h : Dz P w base fp q A) : Calls Try.prog 16 #[.pointer (some ⟨fp, 0, none⟩)] w fun e w' => ImZ w A e w' := by
  obtain ⟨mo, xs, s, rfl, d, j, hq⟩ := h
  refine (Image_any base fp q 0 mo xs [] w j.so (by have := j.len.2; omega) (fun p hp => ?_) d).mono (fun e w' h => ImZ.of h)
  have := (nm_len (j.names (p.1, (p.2.l, p.2.k)) (List.mem_map.2 ⟨p, hp, rfl⟩))).2
  have h2 : p.1.length ≤ 64 := this
  omega
theorem nm0 {n : List UInt8} {A : Ab'} {x : List UInt8 × Nat} (h1 : nmOk n = true) (h2 : lookN n A = some x) : nmE n A = 0 := by
  unfold nmE; rw [h1, h2]; rfl
theorem Dz.append {P : Nat → Prop} {w : World} {base fp : Nat} {q : Int} {A : Ab'} (h : Dz P w base fp q A) (n b : List UInt8) (Pb : Option Addr) (C : Nat) (hmem : n ∈ A.map (·.1)) (hin : byIn w Pb b) (hout : ∀ a, Pb = some a → ¬ P a.block) (hC : Pb = none → C = 0) (hbC : b.length ≤ C) :
    Calls Try.prog 22 #[.pointer (some ⟨fp, 0, none⟩), .string ⟨n.toArray⟩, .slice Pb b.length C] w fun e w' => ∃ k A', e = .returned (.int .i64 k) ∧ A'.map (·.1) = A.map (·.1) ∧ (∀ p ∈ A', p.1 ≠ n → p ∈ A) ∧ Dz (ext P w w') w' base fp q A' ∧ Chg P w w' := by
  have fa := h.facts
  obtain ⟨x, hx⟩ := mem_look fa.1 hmem
  obtain ⟨p, hp, hpn⟩ := List.mem_map.1 hmem
  have hok : nmOk n = true := by rw [← hpn]; exact fa.2.2 p hp
  obtain ⟨mo, xs, s, rfl, d, j, rfl⟩ := h
  have hnl := (nm_len hok).2
  refine (Append_any base fp s.q 0 mo xs [] n b Pb C w (by omega) ⟨by omega, by omega⟩ j.so hin hout hC hbC j.q (by rw [← used_abs, j.ab, usd_abs]; have := usd_le j.fl s.now; have := j.nw.len; omega) d).mono ?_
  rintro e w' ⟨rfl, xs', hx', d', c⟩
  have hst : stA n b s.q (absX xs) 0 = 0 := by unfold stA rfS; simp
  have j' := j.app hx'
  rw [hst] at d' j'
  have hq : (apS n b s).q = s.q := apS_q n b s
  have key : apPX n b s.q (absX xs) 0 = absX xs ∨ ∃ v, apPX n b s.q (absX xs) 0 = putN n v (absX xs) := by
    unfold apPX
    rw [hx]
    simp only
    split
    · exact Or.inr ⟨_, rfl⟩
    · split
      · exact Or.inr ⟨_, rfl⟩
      · exact Or.inl rfl
  refine ⟨_, absX xs', rfl, ?_, fun p hp hne => ?_, ⟨mo, xs', _, rfl, d', j', hq⟩, c⟩
  · rw [hx']
    rcases key with e | ⟨v, e⟩
    · rw [e]
    · rw [e]; exact put_keys fa.1 hx
  · rw [hx'] at hp
    rcases key with e | ⟨v, e⟩
    · rw [e] at hp; exact hp
    · rw [e] at hp
      rcases mem_put.1 hp with e | ⟨h1, _⟩
      · rw [e] at hne; exact absurd rfl hne
      · exact h1
theorem Dz.sync {P : Nat → Prop} {w : World} {base fp : Nat} {q : Int} {A : Ab'} (h : Dz P w base fp q A) (n : List UInt8) (hmem : n ∈ A.map (·.1)) :
    Calls Try.prog 23 #[.pointer (some ⟨fp, 0, none⟩), .string ⟨n.toArray⟩] w fun e w' => ∃ A', e = .returned (.int .i64 0) ∧ A'.map (·.1) = A.map (·.1) ∧ (∀ p ∈ A', p.1 = n → p.2.2 = p.2.1.length) ∧ (∀ p ∈ A', p.1 ≠ n → p ∈ A) ∧ Dz (ext P w w') w' base fp q A' ∧ Chg P w w' := by
  have fa := h.facts
  obtain ⟨x, hx⟩ := mem_look fa.1 hmem
  obtain ⟨p, hp, hpn⟩ := List.mem_map.1 hmem
  have hok : nmOk n = true := by rw [← hpn]; exact fa.2.2 p hp
  obtain ⟨mo, xs, s, rfl, d, j, rfl⟩ := h
  have hnl := (nm_len hok).2
  have h0 := nm0 hok hx
  have hE : snPE n (absX xs) 0 = 0 := by unfold snPE rfB; rw [h0]; rfl
  refine (Sync_any base fp s.q 0 mo xs [] n w (by omega) ⟨by omega, by omega⟩ j.so d).mono ?_
  rintro e w' ⟨rfl, xs', hx', d', c⟩
  have hst : stF n (absX xs) 0 = 0 := by unfold stF rfS; simp
  have j' := j.sync hx'
  rw [hst] at d' j'
  have hq : (snS n s).q = s.q := snS_q n s
  have key : snPX n (absX xs) 0 = putN n (x.1, x.1.length) (absX xs) := by
    unfold snPX
    rw [hE, hx]; rfl
  rw [hE]
  refine ⟨absX xs', rfl, ?_, fun p hp he => ?_, fun p hp hne => ?_, ⟨mo, xs', _, rfl, d', j', hq⟩, c⟩
  · rw [hx', key]; exact put_keys fa.1 hx
  · rw [hx', key] at hp
    rcases mem_put.1 hp with e | ⟨_, h1⟩
    · rw [e]
    · exact absurd he h1
  · rw [hx', key] at hp
    rcases mem_put.1 hp with e | ⟨h1, _⟩
    · rw [e] at hne; exact absurd rfl hne
    · exact h1
/-- behind a crash, whatever was open -/
theorem Dz.first {P : Nat → Prop} {w : World} {base fp fr pr N : Nat} {s : St} (h : Both P w base fp fr pr s N) (hN : N < 2000000) (keeps : List Int) (Pk : Option Addr) (Ck : Nat) (names : Int) (hn : -9223372036854775808 ≤ names ∧ names ≤ 9223372036854775807) (hk : ∀ w', Chg P w w' → intIn w' Pk keeps) (hkr : ∀ x ∈ keeps, -9223372036854775808 ≤ x ∧ x ≤ 9223372036854775807) (hkl : keeps.length ≤ 1000000000) :
    Calls Try.prog 17 #[.pointer (some ⟨fp, 0, none⟩), .slice Pk keeps.length Ck, .int .i64 names] w fun e w' => e = .returned (.tuple #[]) ∧ ∃ A, Dz (ext P w w') w' base fp s.q A ∧ (∀ p ∈ A, p.2.2 = p.2.1.length) ∧ Chg P w w' := by
  obtain ⟨st, mo, xs, us, d, j⟩ := h.d
  have hul : us.length ≤ 9000000 := by have := j.ul; have := h.bd; omega
  refine (Crash_any base fp s.q st mo xs us keeps Pk Ck names (fun j => absW s.fs (s.ways.getD j [])) w hn hul j.una.1 j.una.2.1 j.una.2.2.1 j.una.2.2.2 hk hkr (by omega) d).mono ?_
  rintro e w' ⟨rfl, xs', hx, d', c⟩
  refine ⟨rfl, absX xs', ⟨mo, xs', crashS keeps names s, rfl, d', j.crash keeps names hx, rfl⟩, ?_, c⟩
  rw [hx]
  refine cuts_fast keeps 0 _ (fun p hp => ?_)
  obtain ⟨y, hy, rfl⟩ := List.mem_map.1 hp
  show (s.fs.getD y.2 ([], 0)).2 ≤ (s.fs.getD y.2 ([], 0)).1.length
  by_cases hlt : y.2 < s.fs.length
  · rw [List.getD_eq_getElem?_getD, List.getElem?_eq_getElem hlt]; exact (j.fl _ (List.getElem_mem hlt)).1
  · rw [List.getD_eq_getElem?_getD, List.getElem?_eq_none (by omega)]; exact Nat.zero_le _
end Go.Proofs.Ytdiehlioemmakaa

namespace Go.Proofs.Ytdiehlioemmakaa
open Go.RowKit Go.Maps Go.Joins

theorem bmore {b : Nat} {w W W' : World} {Q : Nat → Prop} (h : Below b w W) (hc : Chg Q W W') (hs : b ≤ W.heap.size) (hQ : ∀ i, Q i → b ≤ i) : Below b w W' := h.trans (hc.below hs hQ)
theorem bgrew {b : Nat} {w W W' : World} (h : Below b w W) (hg : W.grownBy W' none) (hs : b ≤ W.heap.size) : Below b w W' := h.trans ⟨hg.os, hg.tape, hg.output, hg.size, fun k hk => hg.block k (Nat.lt_of_lt_of_le hk hs) (by simp)⟩
theorem int_far {w W w' : World} {Q : Nat → Prop} {P : Option Addr} {l : List Int} (hk : intIn w P l) (hb : l ≠ [] → ∀ a, P = some a → a.block < w.heap.size) (B : Below w.heap.size w W) (hc : Chg Q W w') (hQ : ∀ i, Q i → w.heap.size ≤ i) : intIn w' P l :=
  (hk.chg (chgBl B) (fun ne a e hx => by have := hb ne a e; omega)).chg hc (fun ne a e hx => by have := hb ne a e; have := hQ _ hx; omega)
end Go.Proofs.Ytdiehlioemmakaa

namespace Go.Proofs.Ytdiehlioemmakaa
open Go.RowKit Go.Maps Go.Joins

/-- a map that is none is gone through -/
theorem wpList_range_none {P : Program} (w : World) {ops : Array Oper} {rest : List Oper} {o : Oper} {a : Act} {Q : Exit → Act → World → Prop} (hg : o.guard = none) (m : Operand) (t k e : TypeId) (hop : o.op = Op.range t m) (ht : P.underlying t = some (.map k e)) (hm : a.eval m = .map none)
    (hK : wpList P ops Q rest (a.put o.dst (.pointer (some ⟨w.heap.size, 0, none⟩))) (w.alloc (.mapIter none 0 #[] 0))) : wpList P ops Q (o :: rest) a w := by
  refine wpList_plain hg fun K' hK' => ?_
  have hrun : (Instr.range t (.map none)).run P w = .ok (.pointer (some ⟨w.heap.size, 0, none⟩)) (w.alloc (.mapIter none 0 #[] 0)) := by
    simp [Instr.range, run_underlying ht]
  unfold Oper.wp
  simp [execOp, hop, hm, hrun, Result.andThen]
  exact hK' _ _ hK
theorem wpList_next_none {P : Program} (w : World) {ops : Array Oper} {rest : List Oper} {o : Oper} {a : Act} {Q : Exit → Act → World → Prop} (hg : o.guard = none) (it : Operand) (hop : o.op = Op.next it false) (r : Nat) (hit : a.eval it = .pointer (some ⟨r, 0, none⟩)) (h : w.heap[r]? = some (.mapIter none 0 #[] 0))
    (hK : wpList P ops Q rest (a.put o.dst (.tuple #[.bool false])) w) : wpList P ops Q (o :: rest) a w := by
  refine wpList_plain hg fun K' hK' => ?_
  have hrun : (Instr.next (.pointer (some ⟨r, 0, none⟩)) false o.type).run P w = .ok (.tuple #[.bool false]) w := by
    simp only [Instr.next, getObj, Sem.run_bind, Sem.run, h, Result.andThen]
    rfl
  unfold Oper.wp
  simp [execOp, hop, hit, hrun, Result.andThen]
  exact hK' _ _ hK
theorem uxv_one (u : Ux) : u.val.oneCell' = true := by
  unfold Ux.val
  (repeat' split) <;> rfl
theorem eqNilB (w : World) : (binOp .eql 65 (.slice none 0 0) (.slice none 0 0)).run Try.prog w = .ok (.bool true) w := by kernel_rfl
theorem neNilB (a : Addr) (n c : Nat) (w : World) : (binOp .eql 65 (.slice (some a) n c) (.slice none 0 0)).run Try.prog w = .ok (.bool false) w := by kernel_rfl
set_option maxHeartbeats 1000000 in
set_option maxRecDepth 100000 in
/-- open changes, copied -/
theorem CloneB_any (base n : Nat) (v : Value) (vs : List Value) (w : World) (h : w.ownsRow base 72 1 v n vs) (hn9 : n ≤ 9000000) (h1 : ∀ u ∈ vs, u.oneCell' = true) :
    Calls Try.prog 28 #[v] w fun e w' => ∃ v', e = .returned v' ∧ w'.ownsRow w.heap.size 72 1 v' n vs ∧ w.grownBy w' none := by
  have hvl := h.1
  rcases h.2 with ⟨rfl, h0⟩ | ⟨g, cap, cur, rfl, hb, hcur, hn, hm, hs, ht⟩
  · subst h0
    have hv0 : vs = [] := List.eq_nil_of_length_eq_zero (by simpa using hvl)
    subst hv0
    have z := eqNilB w
    go_enter Try.func28, Try.ntmps28
    go_wp2_with fail
    go_ret
    exact ⟨_, rfl, World.ownsRow_nil _ _ _ _, ⟨rfl, rfl, rfl, Nat.le_refl _, fun _ _ _ => rfl⟩⟩
  · obtain ⟨i0, hi, hz0, hz1, hz2⟩ := info_parts fnInfo
    have HI : Hid (∀ o, ∀ j u, vs[j]? = some u → (w.alloc o).cell? ((⟨g, 0, none⟩ : Addr).add j) = some u) := fun o j u hj => by
      have hjl := (List.getElem?_eq_some_iff.1 hj).1
      rw [add_plain, Nat.zero_add]
      refine (World.grownBy_alloc w o none).cell ?_ (by simp)
      rw [World.ownsRow.cellAt h j (by omega)]; exact hj
    have O0 : Hid (∀ t, (w.alloc (.cells #[] t)).ownsRow w.heap.size t 1 (.slice (some ⟨w.heap.size, 0, none⟩) 0 0) 0 []) := fun t => World.ownsRow_made w #[] 0 (Nat.le_refl _) (by unfold maxLen; omega) rfl
    have z := neNilB ⟨g, 0, none⟩ n cap w
    have H1 := mkHid h1
    have HVL : Hid (vs.length = n * 1) := hvl
    clear h hb hcur hn hm hs ht h1 hvl
    go_enter Try.func28, Try.ntmps28
    go_wp2_with (at_builtin; refine wpList_append_own_at _ rfl (.tmp 5) (.tmp 6) 65 rfl w.heap.size 72 i0 .nilFunc 1 8 fnSlice hi hz0 hz1 hz2 rfl (by decide) _ 0 [] rfl (O0.out _) ⟨g, 0, none⟩ n cap vs rfl HVL.out (HI.out _) H1.out (by unfold maxLen; omega) (by omega) (by simp) ?_; intro v3 w3 ho3 hg3 _ hl3)
    go_ret
    refine ⟨_, rfl, ?_, ⟨hg3.os, hg3.tape, hg3.output, Nat.le_trans (by simp) hg3.size, fun k hk _ => ?_⟩⟩
    · rw [Nat.zero_add] at ho3; exact ho3
    · rw [hg3.block k (by simp; omega) (fun e => by cases e; exact Nat.lt_irrefl _ hk)]
      exact Below.heap_alloc _ _ k hk
/-- a name is put into a map -/
theorem Mp.store {a : World} {m : Nat} {ys : List (List UInt8 × Fl)} (h : Mp a m ys) (n : List UInt8) (X : Fl) (hn : n.length ≤ maxLen) (hy : ys.length ≤ 1000000) :
    ∃ b, (Instr.mapUpdate 64 (.map (some m)) (.string ⟨n.toArray⟩) (.pointer (some ⟨X.b, 0, none⟩))).run Try.prog a = .ok () b ∧ Mp b m (putN n X ys) ∧ a.grownBy b (some m) := by
  have hn2 : (⟨n.toArray⟩ : ByteArray).size ≤ maxLen := by rw [mk_size]; exact hn
  obtain ⟨b, hrun, hown, hturn⟩ := World.ownsMap.store (key := .string ⟨n.toArray⟩) (val := .pointer (some ⟨X.b, 0, none⟩)) h keyS mapT (by unfold maxLen; omega) (WideMaps.keyOf_string_mk strT hn2) (ptrR_mk X.b)
  rw [show (⟨n.toArray⟩ : ByteArray).data.toList = n from rfl, put_ent] at hown
  refine ⟨b, hrun, ?_, hturn.grown⟩
  have := own_tight hown
  unfold Mp
  rw [List.length_map] at this
  exact this
/-- names that are not to come -/
def gone (left : Lit → Bool) (A : Ab') : Ab' := A.filter fun p => !left (.string p.1)
theorem gone_out {left : Lit → Bool} {n : List UInt8} : ∀ {A : Ab'}, (∀ p ∈ A, p.1 ≠ n) → gone (fun z => left z && !z.sameKey (.string n)) A = gone left A
  | [], _ => rfl
  | p :: t, h => by
    have e : (p.1 == n) = false := by rw [beq_eq_false_iff_ne]; exact h p (by simp)
    have ih := gone_out (left := left) (n := n) (A := t) (fun q hq => h q (by simp [hq]))
    unfold gone at ih ⊢
    have e7 : ((fun z : Lit => left z && !z.sameKey (.string n)) (.string p.1)) = left (.string p.1) := by
      show (left (.string p.1) && !(Lit.string p.1).sameKey (.string n)) = _
      rw [same_str, e, Bool.not_false, Bool.and_true]
    rw [List.filter_cons, List.filter_cons, ih, e7]
theorem ins_first {n : List UInt8} {v : List UInt8 × Nat} : ∀ {A : Ab'}, (∀ p ∈ A, bytesBefore n p.1 = true) → insN n v A = (n, v) :: A
  | [], _ => rfl
  | p :: t, h => by unfold insN; rw [if_pos (h p (by simp))]
theorem gone_step {left : Lit → Bool} {p : List UInt8 × (List UInt8 × Nat)} : ∀ {A : Ab'}, SrtN A → p ∈ A → left (.string p.1) = true → gone (fun z => left z && !z.sameKey (.string p.1)) A = putN p.1 p.2 (gone left A)
  | [], _, hp, _ => by simp at hp
  | a :: t, hs, hp, hl => by
    have hs2 := List.pairwise_cons.1 hs
    rcases List.mem_cons.1 hp with rfl | hp
    · have e1 := gone_out (left := left) (n := p.1) (A := t) (fun q hq e => before_ne (hs2.1 q hq) e.symm)
      have hnd : ∀ q ∈ gone left t, bytesBefore p.1 q.1 = true := fun q hq => hs2.1 q (List.mem_filter.1 hq).1
      have e2 : delN p.1 (gone left t) = gone left t := List.filter_eq_self.2 (fun q hq => by
        have := before_ne (hnd q hq)
        simp [Ne.symm this])
      have e3 : gone left (p :: t) = gone left t := by unfold gone; rw [List.filter_cons, hl]; rfl
      have e4 : gone (fun z => left z && !z.sameKey (.string p.1)) (p :: t) = p :: gone (fun z => left z && !z.sameKey (.string p.1)) t := by
        unfold gone; rw [List.filter_cons, if_pos]
        show (!(left (.string p.1) && !(Lit.string p.1).sameKey (.string p.1))) = true
        rw [same_str, beq_self_eq_true, Bool.not_true, Bool.and_false]; rfl
      rw [e4, e1, e3]
      unfold putN
      rw [e2, ins_first hnd]
    · have ih := gone_step (left := left) (p := p) hs2.2 hp hl
      have hb := hs2.1 p hp
      have hne : a.1 ≠ p.1 := before_ne hb
      have e : (a.1 == p.1) = false := by rw [beq_eq_false_iff_ne]; exact hne
      have e4 : gone (fun z => left z && !z.sameKey (.string p.1)) (a :: t) = if left (.string a.1) = true then gone (fun z => left z && !z.sameKey (.string p.1)) t else a :: gone (fun z => left z && !z.sameKey (.string p.1)) t := by
        have e7 : ((fun z : Lit => left z && !z.sameKey (.string p.1)) (.string a.1)) = left (.string a.1) := by
          show (left (.string a.1) && !(Lit.string a.1).sameKey (.string p.1)) = _
          rw [same_str, e, Bool.not_false, Bool.and_true]
        unfold gone; rw [List.filter_cons, e7]
        cases left (.string a.1) <;> rfl
      have e5 : gone left (a :: t) = if left (.string a.1) = true then gone left t else a :: gone left t := by
        unfold gone; rw [List.filter_cons]; cases left (.string a.1) <;> rfl
      rw [e4, e5]
      split
      · exact ih
      · rw [ih]
        unfold putN delN
        rw [List.filter_cons, e, Bool.not_false]
        simp only [if_true]
        have hnb : bytesBefore p.1 a.1 = false := by
          cases h : bytesBefore p.1 a.1 with
          | false => rfl
          | true => rw [before_as hb] at h; cases h
        show _ = insN p.1 p.2 (a :: _)
        conv => rhs; unfold insN
        rw [hnb]; simp
theorem gone_all {left : Lit → Bool} {A : Ab'} (h : ∀ z, left z = false) : gone left A = A := by
  unfold gone; exact List.filter_eq_self.2 (fun p _ => by rw [h]; rfl)
theorem gone_none {left : Lit → Bool} {A : Ab'} (h : ∀ p ∈ A, left (.string p.1) = true) : gone left A = [] := by
  unfold gone; exact List.filter_eq_nil_iff.2 (fun p hp => by rw [h p hp]; simp)
end Go.Proofs.Ytdiehlioemmakaa

namespace Go.Proofs.Ytdiehlioemmakaa
open Go.RowKit Go.Maps Go.Joins

/-- a disk of the program, but for what its open changes hold -/
structure Dv (P : Nat → Prop) (w : World) (base f : Nat) (q st : Int) (mo : Option Nat) (xs : List (List UInt8 × Fl)) (us : List Ux) : Prop where
  bs : base ≤ w.heap.size
  pb : ∀ i, P i → base ≤ i ∧ i < w.heap.size
  pf : P f
  fs : ∃ ov, FsAt w f q mo ov st ∧ w.ownsRow base 72 1 ov us.length (us.map Ux.val) ∧ ∀ g, ov.ownBlock = some g → P g
  mp : ∀ m, mo = some m → P m ∧ Mp w m xs
  mn : mo = none → xs = [] ∧ us = []
  fl : Fls w base (xs.map (·.2))
  pl : ∀ x ∈ xs.map (·.2), P x.b ∧ ∀ g, x.v.ownBlock = some g → P g
theorem Dv.away {P N : Nat → Prop} {w w' : World} {base f : Nat} {q st : Int} {mo : Option Nat} {xs : List (List UInt8 × Fl)} {us : List Ux} (h : Dv P w base f q st mo xs us) (hc : Chg N w w') (hn : ∀ i, P i → ¬ N i) : Dv P w' base f q st mo xs us := by
  obtain ⟨ov, h1, h2, h3⟩ := h.fs
  exact ⟨Nat.le_trans h.bs hc.size, fun i hi => ⟨(h.pb i hi).1, Nat.lt_of_lt_of_le (h.pb i hi).2 hc.size⟩, h.pf, ⟨ov, hc.at_ h1 (hn _ h.pf), hc.row h2 (fun g hg => hn _ (h3 g hg)), h3⟩, fun m e => ⟨(h.mp m e).1, hc.map (h.mp m e).2 (hn _ (h.mp m e).1)⟩, h.mn, ⟨fun x hx => hc.file (h.fl.ok x hx) (hn _ (h.pl x hx).1) (fun g hg => hn _ ((h.pl x hx).2 g hg)), h.fl.nb, h.fl.nv⟩, h.pl⟩
theorem Dv.kept {P : Nat → Prop} {w w' : World} {base f : Nat} {q st : Int} {mo : Option Nat} {xs : List (List UInt8 × Fl)} {us : List Ux} (h : Dv P w base f q st mo xs us) (hg : w.grownBy w' none) : Dv P w' base f q st mo xs us :=
  h.away (Chg.of_none hg (fun _ => False)) (fun _ _ e => e)
/-- what open changes hold -/
def lostS (us : List Ux) (i : Nat) : Prop := (∃ u ∈ us, i = u.c ∨ (∃ y, u.r = some y ∧ i = y.1) ∨ ∃ z, u.l = some z ∧ i = z.1) ∨ ∃ x ∈ us.flatMap Ux.lost, i = x.b ∨ x.v.ownBlock = some i
theorem Dsk.lostP {P : Nat → Prop} {w : World} {base f : Nat} {q st : Int} {mo : Option Nat} {xs : List (List UInt8 × Fl)} {us : List Ux} (h : Dsk P w base f q st mo xs us) {i : Nat} (hi : lostS us i) : P i := by
  rcases hi with ⟨u, hu, e | ⟨y, hy, e⟩ | ⟨z, hz, e⟩⟩ | ⟨x, hx, e | e⟩
  · rw [e]; exact (h.un u hu).pc
  · rw [e]; exact ((h.un u hu).r y hy).1
  · rw [e]; exact ((h.un u hu).l z hz).1
  · rw [e]; exact (h.pl x (List.mem_append_right _ hx)).1
  · exact (h.pl x (List.mem_append_right _ hx)).2 i e
/-- a block of what open changes hold is a text's, a pointer's, a file's or bytes -/
theorem Dsk.lostK {P : Nat → Prop} {w : World} {base f : Nat} {q st : Int} {mo : Option Nat} {xs : List (List UInt8 × Fl)} {us : List Ux} (h : Dsk P w base f q st mo xs us) {i : Nat} (hi : lostS us i) : (∃ cs t, w.heap[i]? = some (.cells cs t (0, 0)) ∧ (t = 9 ∨ t = 68)) ∨ ∃ x ∈ us.flatMap Ux.lost, i = x.b ∨ x.v.ownBlock = some i := by
  rcases hi with ⟨u, hu, e | ⟨y, hy, e⟩ | ⟨z, hz, e⟩⟩ | hx
  · exact Or.inl ⟨_, _, by rw [e]; exact (h.un u hu).c, Or.inl rfl⟩
  · exact Or.inl ⟨_, _, by rw [e]; exact ((h.un u hu).r y hy).2, Or.inl rfl⟩
  · exact Or.inl ⟨_, _, by rw [e]; exact ((h.un u hu).l z hz).2, Or.inr rfl⟩
  · exact Or.inr hx
/-- the disk without what its open changes hold: in blocks that these don't hold -/
theorem Dsk.view {P : Nat → Prop} {w : World} {base f : Nat} {q st : Int} {mo : Option Nat} {xs : List (List UInt8 × Fl)} {us : List Ux} (h : Dsk P w base f q st mo xs us) : Dv (fun i => P i ∧ ¬ lostS us i) w base f q st mo xs us := by
  obtain ⟨ov, h1, h2, h3⟩ := h.fs
  have split : ∀ x ∈ xs.map (·.2), ∀ y ∈ us.flatMap Ux.lost, x.b ≠ y.b ∧ ∀ g, x.v.ownBlock = some g → y.v.ownBlock ≠ some g := fun x hx y hy => by
    have a := List.pairwise_append.1 h.fl.nb
    have b := List.pairwise_append.1 h.fl.nv
    exact ⟨a.2.2 x hx y hy, b.2.2 x hx y hy⟩
  have kx : ∀ {i : Nat} {cs : Array Value} {t : TypeId} {fr : Nat × Nat}, w.heap[i]? = some (.cells cs t fr) → t ≠ 9 → t ≠ 68 → (∀ y ∈ us.flatMap Ux.lost, i ≠ y.b ∧ y.v.ownBlock ≠ some i) → ¬ lostS us i := fun hb t1 t2 ho hl => by
    rcases h.lostK hl with ⟨cs, t, hk, ht⟩ | ⟨x, hx, e⟩
    · rw [hk] at hb; cases hb; rcases ht with ht | ht
      · exact t1 ht
      · exact t2 ht
    · rcases e with e | e
      · exact (ho x hx).1 e
      · exact (ho x hx).2 e
  have lk : ∀ y ∈ us.flatMap Ux.lost, FlOk w base y := fun y hy => h.fl.ok y (List.mem_append_right _ hy)
  have ob : ∀ {i : Nat} {cs : Array Value} {t : TypeId} {fr : Nat × Nat}, w.heap[i]? = some (.cells cs t fr) → t ≠ 86 → t ≠ 5 → ∀ y ∈ us.flatMap Ux.lost, i ≠ y.b ∧ y.v.ownBlock ≠ some i := fun hb t1 t2 y hy => by
    refine ⟨fun e => ?_, fun e => ?_⟩
    · have := (lk y hy).at_
      rw [← e, hb] at this; cases this; exact t1 rfl
    · obtain ⟨cs, hk⟩ := own_kind (lk y hy).row _ e
      rw [hb] at hk; cases hk; exact t2 rfl
  refine ⟨h.bs, fun i hi => h.pb i hi.1, ⟨h.pf, kx h1 (by decide) (by decide) (ob h1 (by decide) (by decide))⟩, ⟨ov, h1, h2, fun g hg => ⟨h3 g hg, ?_⟩⟩, fun m e => ⟨⟨(h.mp m e).1, ?_⟩, (h.mp m e).2⟩, h.mn, h.fl.sub (List.sublist_append_left _ _), fun x hx => ⟨⟨(h.pl x (List.mem_append_left _ hx)).1, ?_⟩, fun g hg => ⟨(h.pl x (List.mem_append_left _ hx)).2 g hg, ?_⟩⟩⟩
  · obtain ⟨cs, hk⟩ := own_kind h2 g hg
    exact kx hk (by decide) (by decide) (ob hk (by decide) (by decide))
  · obtain ⟨es, c, hk⟩ := (h.mp m e).2.kind
    intro hl
    rcases h.lostK hl with ⟨cs, t, hk2, _⟩ | ⟨y, hy, e | e⟩
    · rw [hk] at hk2; cases hk2
    · have := (lk y hy).at_
      rw [← e, hk] at this; cases this
    · obtain ⟨cs, hk2⟩ := own_kind (lk y hy).row _ e
      rw [hk] at hk2; cases hk2
  · have ok := h.fl.ok x (List.mem_append_left _ hx)
    refine kx ok.at_ (by decide) (by decide) (fun y hy => ⟨(split x hx y hy).1, fun e => ?_⟩)
    obtain ⟨cs, hk⟩ := own_kind (lk y hy).row _ e
    rw [ok.at_] at hk; simp at hk
  · have ok := h.fl.ok x (List.mem_append_left _ hx)
    obtain ⟨cs, hk⟩ := own_kind ok.row g hg
    refine kx hk (by decide) (by decide) (fun y hy => ⟨fun e => ?_, fun e => (split x hx y hy).2 g hg e⟩)
    have := (lk y hy).at_
    rw [← e, hk] at this; simp at this
theorem Dv.look {P : Nat → Prop} {w : World} {base f : Nat} {q st : Int} {mo : Option Nat} {xs : List (List UInt8 × Fl)} {us : List Ux} (h : Dv P w base f q st mo xs us) (n : List UInt8) (hn : n.length ≤ maxLen) : (Instr.lookup 64 (.map mo) (.string ⟨n.toArray⟩) false).run Try.prog w = .ok (lookV (lookN n xs)) w := by
  have hn2 : (⟨n.toArray⟩ : ByteArray).size ≤ maxLen := by rw [show (⟨n.toArray⟩ : ByteArray).size = n.length from by simp [ByteArray.size]]; exact hn
  cases mo with
  | none =>
    rw [(h.mn rfl).1]
    exact Maps.look_nil (w := w) false keyS mapT (zeroP _) (WideMaps.keyOf_string_mk strT hn2)
  | some m =>
    obtain ⟨v, ps, hrun, hR⟩ := World.ownsMap.lookup (key := .string ⟨n.toArray⟩) (h.mp m rfl).2 keyS mapT (zeroP w) (zd := .nil) (zp := []) rfl (WideMaps.keyOf_string_mk strT hn2)
    rw [show (⟨n.toArray⟩ : ByteArray).data.toList = n from rfl, at_ent] at hR
    cases hl : lookN n xs with
    | none =>
      rw [hl] at hR
      rcases ptrR_inv hR with ⟨rfl, _⟩ | ⟨b', _, e⟩
      · exact hrun
      · cases e
    | some X =>
      rw [hl] at hR
      rcases ptrR_inv hR with ⟨_, e⟩ | ⟨b', rfl, e⟩
      · cases e
      · cases e; exact hrun
set_option maxHeartbeats 2000000 in
theorem List_dv {P : Nat → Prop} (base f : Nat) (q st : Int) (mo : Option Nat) (xs : List (List UInt8 × Fl)) (us : List Ux) (w : World) (so : SrtN xs) (hl : xs.length ≤ 1000) (d : Dv P w base f q st mo xs us) :
    Calls Try.prog 21 #[.pointer (some ⟨f, 0, none⟩)] w fun e w' => ∃ v, e = .returned v ∧ w'.ownsRow w.heap.size 9 1 v xs.length ((xs.map (·.1)).map encStr) ∧ w.grownBy w' none := by
  obtain ⟨ov, h1, h2, _⟩ := d.fs
  obtain ⟨c0, c1, c2, c3, cf⟩ := h1.c
  cases mo with
  | none =>
    obtain ⟨rfl, _⟩ := d.mn rfl
    clear h1 h2 c0 c2 c3 d so hl
    refine (callsIn_wide (n := 6)).1 ?_
    have hfK : Fence.wide.fn 57 := trivial
    have hfS : Fence.wide.fn 56 := trivial
    refine callsIn_of_wp Try.func21 rfl trivial ?_ rfl
    simp only [Try.ntmps21, List.size_toArray, List.length_cons, List.length_nil, Nat.reduceAdd, Nat.reduceSub, Array.replicate_succ, Array.replicate_zero, List.push_toArray, List.append_toArray, List.nil_append, List.cons_append]
    gi_wp2_with (first
      | (gi_at_call 57; refine (Try.maps_Keys_57 _ _).mono ?_; rintro e w' ⟨rfl, rfl⟩)
      | (gi_at_call 56; refine (Try.slices_Sorted_keys_nil_56_57 w).mono ?_; rintro e w' ⟨v, ss, rfl, hS, hrow, hnil, hb⟩))
    go_ret
    have hb2 : Below w.heap.size w w' := ((Below.refl _ w).alloc (Nat.le_refl _) _).trans (hb.mono (by simp))
    subst hS
    have e0 : ([] : List (List UInt8)).mergeSort (fun x y => decide (x ≤ y)) = [] := by simp
    rw [e0] at hrow
    exact ⟨v, rfl, ownsRow_base_a (base' := w.heap.size) (k := 0) (xs := []) hrow (by simp), ⟨hb2.os, hb2.tape, hb2.output, hb2.size, fun k hk _ => hb2.block k hk⟩⟩
  | some m =>
    have hm := (d.mp m rfl).2
    have hsz : Maps.size (DataW.map (xs.map ent)) = xs.length := by rw [Maps.size_eq, List.length_map]
    clear h1 h2 c0 c2 c3 d
    refine (callsIn_wide (n := 6)).1 ?_
    have hfK : Fence.wide.fn 57 := trivial
    have hfS : Fence.wide.fn 56 := trivial
    refine callsIn_of_wp Try.func21 rfl trivial ?_ rfl
    simp only [Try.ntmps21, List.size_toArray, List.length_cons, List.length_nil, Nat.reduceAdd, Nat.reduceSub, Array.replicate_succ, Array.replicate_zero, List.push_toArray, List.append_toArray, List.nil_append, List.cons_append]
    gi_wp2_with (first
      | (gi_at_call 57; refine (Try.maps_Keys_57 _ _).mono ?_; rintro e w' ⟨rfl, rfl⟩)
      | (gi_at_call 56; refine (Try.slices_Sorted_keys_56_57 m xs.length _ ptrR w hm (by rw [hsz]; unfold maxLen; omega) (by rw [hsz]; omega)).mono ?_; rintro e w' ⟨v, ss, rfl, hS, hrow, hnil, hb⟩))
    go_ret
    have hb2 : Below w.heap.size w w' := ((Below.refl _ w).alloc (Nat.le_refl _) _).trans (hb.mono (by simp))
    have hS2 : ss.Perm (xs.map (·.1)) := by
      have e : strKeys (DataW.map (xs.map ent)) = xs.map (·.1) := by
        show (xs.map ent).map (fun p => strOf p.1) = _
        rw [List.map_map]; rfl
      rw [← e]; exact hS
    have hlen : ss.length = xs.length := by rw [hS2.length_eq, List.length_map]
    rw [srt_sort so ss hS2, hlen] at hrow
    exact ⟨v, rfl, ownsRow_base_a hrow (by simp), ⟨hb2.os, hb2.tape, hb2.output, hb2.size, fun k hk _ => hb2.block k hk⟩⟩
/-- an image whose bytes lie each in a block of their own -/
structure imgX (w : World) (base : Nat) (v : Value) (zs : List (List UInt8 × Fl)) : Prop where
  im : imgIn w base v zs
  nv : zs.Pairwise fun x y => ∀ g, x.2.v.ownBlock = some g → y.2.v.ownBlock ≠ some g
  ll : ∀ z ∈ zs, z.2.l.length ≤ 100000000
theorem imgX.row {w : World} {base : Nat} {v : Value} {zs : List (List UInt8 × Fl)} (h : imgX w base v zs) : w.ownsRow base 50 3 v zs.length (entsV zs) := h.im.row
theorem imgX.grow {w w' : World} {base : Nat} {v : Value} {zs : List (List UInt8 × Fl)} (h : imgX w base v zs) (hg : w.grownBy w' none) : imgX w' base v zs := ⟨h.im.grow hg, h.nv, h.ll⟩
theorem img_appX {w : World} {base : Nat} {v : Value} {zs : List (List UInt8 × Fl)} (h : imgX w base v zs) {n : List UInt8} {Pz : Option Addr} {Cz : Nat} {Z : Fl} (hv : Z.v = .slice Pz Z.l.length Cz) (hZ : ownsB w base Z.v Z.l) (hl : zs.length ≤ 1000) (hb : base ≤ w.heap.size) {W : World} (hW : W = w.alloc (.cells #[.string ⟨n.toArray⟩, .slice Pz Z.l.length Cz, .int .i64 (Z.k : Int)] 50)) (hnew : ∀ z ∈ zs, ∀ g, z.2.v.ownBlock = some g → Z.v.ownBlock ≠ some g) (hll : Z.l.length ≤ 100000000) :
    ∃ v' w', (∀ ty, (Builtin.append_ #[45, 45] ty #[v, .slice (some ⟨w.heap.size, 0, none⟩) 1 1]).run Try.prog W = .ok v' w') ∧ imgX w' base v' (zs ++ [(n, Z)]) ∧ W.grownBy w' v.ownBlock := by
  obtain ⟨v', w', h1, h2, h3⟩ := img_app h.im hv hZ hl hb hW
  refine ⟨v', w', h1, ⟨h2, List.pairwise_append.2 ⟨h.nv, List.pairwise_singleton _ _, fun x hx y hy g hg => ?_⟩, fun z hz => ?_⟩, h3⟩
  · simp at hy; subst hy; exact hnew x hx g hg
  · rcases List.mem_append.1 hz with hz | hz
    · exact h.ll z hz
    · simp at hz; subst hz; exact hll
def ImX (w : World) (xs : List (List UInt8 × Fl)) (e : Ending) (w' : World) : Prop := ∃ v zs, e = .returned v ∧ imgX w' w.heap.size v zs ∧ absX zs = absX xs ∧ w.grownBy w' none
set_option maxHeartbeats 8000000 in
set_option maxRecDepth 1000000 in
theorem Image_dv {P : Nat → Prop} (base f : Nat) (q st : Int) (mo : Option Nat) (xs : List (List UInt8 × Fl)) (us : List Ux) (w : World) (so : SrtN xs) (hl : xs.length ≤ 1000) (hn : ∀ p ∈ xs, p.1.length ≤ 1000000000) (d : Dv P w base f q st mo xs us) :
    Calls Try.prog 16 #[.pointer (some ⟨f, 0, none⟩)] w fun e w' => ImX w xs e w' := by
  have LI := mkHid (List_dv base f q st mo xs us w so hl d)
  have D := mkHid d
  have SO := mkHid so
  have HN := mkHid hn
  obtain ⟨L, hL⟩ : ∃ L, L = xs.length := ⟨_, rfl⟩
  have HL := mkHid hL
  rw [← hL] at hl LI
  clear d so hn hL
  go_enter Try.func16, Try.ntmps16
  go_wp2_with fail
  refine LI.out.mono ?_
  rintro e w1 ⟨v1, rfl, o1, g1⟩
  obtain ⟨P1, C1, rfl⟩ := row_form o1
  have O1 := mkHid o1
  have G1 := mkHid g1
  have I0 : Hid (imgX w1 w.heap.size (.slice none 0 0) []) := ⟨⟨⟨rfl, Or.inl ⟨rfl, rfl⟩⟩, fun z hz => by simp at hz⟩, List.Pairwise.nil, fun z hz => by simp at hz⟩
  clear o1 g1 LI
  go_wp2_with fail
  go_loopw [3, 5, 6, 10] (fun s3 _ _ s10 wr => ∃ (i : Nat) (P3 : Option Addr) (C3 : Nat) (zs : List (List UInt8 × Fl)), s3 = .slice P3 i C3 ∧ s10 = .int .i64 (i : Int) ∧ i ≤ L ∧ Hid (imgX wr w.heap.size (.slice P3 i C3) zs ∧ zs.length = i ∧ absX zs = absX (xs.take i)) ∧ Hid (wr.ownsRow w.heap.size 9 1 (.slice P1 L C1) L ((xs.map (·.1)).map encStr)) ∧ Hid (w.grownBy wr none)) (fun _ _ _ s10 _ => L - (intOf s10).toNat)
  case atStart => exact ⟨0, none, 0, [], rfl, rfl, Nat.zero_le _, ⟨I0, rfl, rfl⟩, O1, G1⟩
  case round =>
    obtain ⟨i, P3, C3, zs, rfl, rfl, hi, HI, OR, GR⟩ := hrel
    by_cases hlt : i < L
    · have hlti : (i : Int) < (L : Int) := by omega
      obtain ⟨⟨n, X⟩, hx⟩ : ∃ p, xs[i]? = some p := ⟨xs[i]'(by have : L = xs.length := HL.out; omega), List.getElem?_eq_getElem _⟩
      have hmem := List.mem_of_getElem? hx
      have hnl : n.length ≤ 1000000000 := HN.out (n, X) hmem
      have hlook := look_in SO.out hmem
      obtain ⟨g1, hg1e⟩ : ∃ g, P1 = some ⟨g, 0, none⟩ := by
        rcases OR.out.2 with ⟨e, h0⟩ | ⟨g, cap, cur, e, _⟩
        · exfalso; omega
        · cases e; exact ⟨g, rfl⟩
      subst hg1e
      have cnm : wr.cell? ⟨g1, i, none⟩ = some (.string ⟨n.toArray⟩) := by
        rw [World.ownsRow.cellAt OR.out i (by omega), List.getElem?_map, List.getElem?_map, hx]; rfl
      have DR := D.out.kept GR.out
      obtain ⟨ov, h1, h2, _⟩ := DR.fs
      obtain ⟨c0, c1, c2, c3, cf⟩ := h1.c
      have okX : FlOk wr base X := DR.fl.ok X (List.mem_map.2 ⟨(n, X), hmem, rfl⟩)
      have lk := DR.look n (by unfold maxLen; omega)
      rw [hlook] at lk
      unfold lookV at lk
      have CP := mkHid (copied_ok base X wr okX DR.bs)
      have hw1 := World.block_lt_of_cell? wr _ cnm
      have hbw := GR.out.size
      have kl := okX.kl
      have ll := okX.ll
      clear h1 h2 c0 c2 c3 cf DR okX hmem hlook
      go_wp2_with fail
      refine CP.out.mono ?_
      rintro e w2 ⟨b, v2, rfl, hb2, ok2, hf2, g2⟩
      obtain ⟨P2, C2, hP2⟩ := ok2.form
      have hP2' : v2 = .slice P2 X.l.length C2 := hP2
      subst hP2'
      obtain ⟨x0, x1, xf⟩ := ok2.c
      have gd2 : wr.grownBy w2.drew none := grTrans g2 ⟨rfl, rfl, rfl, Nat.le_refl _, fun _ _ _ => rfl⟩
      obtain ⟨W, hW⟩ : ∃ W, W = w2.drew.alloc (.cells #[.string ⟨n.toArray⟩, .slice P2 X.l.length C2, .int .i64 (X.k : Int)] 50) := ⟨_, rfl⟩
      have hsz : w.heap.size ≤ w2.drew.heap.size := Nat.le_trans hbw gd2.size
      have gW : w2.drew.grownBy W none := by rw [hW]; exact World.grownBy_alloc _ _ none
      have im2 := HI.out.1.grow gd2
      obtain ⟨v5, w5, run5, im5, g5⟩ := img_appX im2 (n := n) (Z := ⟨b, .slice P2 X.l.length C2, X.l, X.k⟩) rfl (ownG (rebase ok2.row (fun g hg => Nat.le_trans hbw (hf2 g hg))) ⟨rfl, rfl, rfl, Nat.le_refl _, fun _ _ _ => rfl⟩) (by have : zs.length = i := HI.out.2.1; omega) hsz hW (fun z hz g hg e => by
        obtain ⟨cs, hk⟩ := own_kind (HI.out.1.im.by_ z hz) g hg
        have := lt_of_heap hk
        have := hf2 g e
        omega) ll
      have hzl : zs.length = i := HI.out.2.1
      have row5 := im5.row
      rw [List.length_append, hzl] at row5
      obtain ⟨P5, C5, hv5⟩ := row_formS row5
      have hv5' : v5 = .slice P5 (i + 1) C5 := hv5
      subst hv5'
      have imW := im2.grow gW
      have og : ∀ g, (Value.slice P3 i C3).ownBlock = some g → w.heap.size ≤ g := fun g hg => by
        rcases im2.row.2 with ⟨e, _⟩ | ⟨g', cap, cur, e, hge, _⟩
        · rw [e] at hg; cases hg
        · rw [e] at hg; cases hg; exact hge
      have g05 : w.grownBy w5 none := by
        have gw := grTrans (grTrans GR.out gd2) gW
        exact ⟨g5.os.trans gw.os, g5.tape.trans gw.tape, g5.output.trans gw.output, Nat.le_trans gw.size g5.size, fun k hk _ => (g5.block k (Nat.lt_of_lt_of_le hk gw.size) (fun e => by have := og k e.symm; omega)).trans (gw.block k hk (by simp))⟩
      have xc : w5.cell? ⟨b, 0, none⟩ = some (.slice P2 X.l.length C2) ∧ w5.cell? ⟨b, 1, none⟩ = some (.int .i64 (X.k : Int)) := by
        have hbk : W.heap[b]? = some (.cells #[.slice P2 X.l.length C2, .int .i64 (X.k : Int)] 86 (0, 0)) := (gW.block b (lt_of_heap ok2.at_) (by simp)).trans ok2.at_
        have hb5 := (g5.block b (lt_of_heap hbk) (fun e => by
          obtain ⟨cs, hk⟩ := own_kind imW.row b e.symm
          rw [hbk] at hk; simp at hk)).trans hbk
        exact ⟨(cell_of_block hb5 0).trans rfl, (cell_of_block hb5 1).trans rfl⟩
      have xW : W.cell? ⟨b, 0, none⟩ = some (.slice P2 X.l.length C2) ∧ W.cell? ⟨b, 1, none⟩ = some (.int .i64 (X.k : Int)) := ⟨gW.cell x0 (by simp), gW.cell x1 (by simp)⟩
      have OR5 : Hid (w5.ownsRow w.heap.size 9 1 (.slice (some ⟨g1, 0, none⟩) L C1) L ((xs.map (·.1)).map encStr)) := row_other (World.ownsRow.kept OR.out (grTrans gd2 gW) (by right; simp [Value.ownBlock])) imW.row (by decide) g5
      have HI5 : Hid (imgX w5 w.heap.size (.slice P5 (i + 1) C5) (zs ++ [(n, ⟨b, .slice P2 X.l.length C2, X.l, X.k⟩)]) ∧ (zs ++ [(n, (⟨b, .slice P2 X.l.length C2, X.l, X.k⟩ : Fl))]).length = i + 1 ∧ absX (zs ++ [(n, ⟨b, .slice P2 X.l.length C2, X.l, X.k⟩)]) = absX (xs.take (i + 1))) := by
        refine ⟨im5, by rw [List.length_append, hzl]; rfl, ?_⟩
        have h5 : absX zs = absX (xs.take i) := HI.out.2.2
        rw [abs_app, h5, List.take_add_one, hx]
        simp [absX]
      have G5 := mkHid g05
      have HX5 := mkHid xc
      have HXW := mkHid xW
      have hbl := lt_of_heap ok2.at_
      clear im2 im5 imW row5 og g05 xc xW hzl gW ok2 hf2 hP2 xf CP hx hv5
      go_wp2_with fail
      refine wp_region_noPanic ?_
      refine wp_region_held_drew (S := fun w' : World => w'.cell? ⟨b, 0, none⟩ = some (.slice P2 X.l.length C2) ∧ w'.cell? ⟨b, 1, none⟩ = some (.int .i64 (X.k : Int))) (by kernel_rfl) (⟨x0, x1⟩) (fun hH => ?_)
      refine tKx (i := 0) (v := .slice P3 i C3) rfl rfl (by kernel_rfl) (fun _ _ _ h => h) ?_ hH ?_
      · intro w5 hSw; obtain ⟨hv0, hv1⟩ := hSw; go_simp
      simp only [zA9, zB9, zC9]
      refine tKx (i := 1) (v := .string ⟨n.toArray⟩) rfl rfl (by kernel_rfl) (fun _ _ _ h => h) ?_ hH ?_
      · intro w5 hSw; obtain ⟨hv0, hv1⟩ := hSw; go_simp
      simp only [zA9, zB9, zC9]
      refine tKx (i := 2) (v := .pointer (some ⟨b, 0, none⟩)) rfl rfl (by kernel_rfl) (fun _ _ _ h => h) ?_ hH ?_
      · intro w5 hSw; obtain ⟨hv0, hv1⟩ := hSw; go_simp
      simp only [zA9, zB9, zC9]
      refine tKx (i := 3) (v := .pointer (some ⟨b, 0, none⟩)) rfl rfl (by kernel_rfl) (fun _ _ _ h => h) ?_ hH ?_
      · intro w5 hSw; obtain ⟨hv0, hv1⟩ := hSw; go_simp
      simp only [zA9, zB9, zC9]
      refine tKx (i := 4) (v := .pointer (some ⟨b, 0, none⟩)) rfl rfl (by kernel_rfl) (fun _ _ _ h => h) ?_ hH ?_
      · intro w5 hSw; obtain ⟨hv0, hv1⟩ := hSw; go_simp
      simp only [zA9, zB9, zC9]
      refine tKx (i := 5) (v := .slice P2 X.l.length C2) rfl rfl (by kernel_rfl) (fun _ _ _ h => h) ?_ hH ?_
      · intro w5 hSw; obtain ⟨hv0, hv1⟩ := hSw; go_simp
      simp only [zA9, zB9, zC9]
      refine tKx (i := 6) (v := .pointer (some ⟨b, 0, none⟩)) rfl rfl (by kernel_rfl) (fun _ _ _ h => h) ?_ hH ?_
      · intro w5 hSw; obtain ⟨hv0, hv1⟩ := hSw; go_simp
      simp only [zA9, zB9, zC9]
      refine tKx (i := 7) (v := .pointer (some ⟨b, 0, none⟩)) rfl rfl (by kernel_rfl) (fun _ _ _ h => h) ?_ hH ?_
      · intro w5 hSw; obtain ⟨hv0, hv1⟩ := hSw; go_simp
      simp only [zA9, zB9, zC9]
      refine tKx (i := 8) (v := .pointer (some ⟨b, 1, none⟩)) rfl rfl (by kernel_rfl) (fun _ _ _ h => h) ?_ hH ?_
      · intro w5 hSw; obtain ⟨hv0, hv1⟩ := hSw; go_simp
      simp only [zA9, zB9, zC9]
      refine tKx (i := 9) (v := .int .i64 (X.k : Int)) rfl rfl (by kernel_rfl) (fun _ _ _ h => h) ?_ hH ?_
      · intro w5 hSw; obtain ⟨hv0, hv1⟩ := hSw; go_simp
      simp only [zA9, zB9, zC9]
      refine tKx (i := 10) (v := .agg #[.string ⟨n.toArray⟩, .slice P2 X.l.length C2, .int .i64 (X.k : Int)]) rfl rfl (by kernel_rfl) (fun _ _ _ h => h) ?_ hH ?_
      · intro w5 hSw; obtain ⟨hv0, hv1⟩ := hSw; go_simp
      simp only [zA9, zB9, zC9]
      refine wpAnyH_ready (rs := [11]) (by kernel_rfl) (by simp) ?_
      refine AllReadyH.cons rfl (fun K hK => ?_) AllReadyH.nil
      refine step_lit3 rfl (.tmp 31) rfl rfl ?_
      rw [← hW]
      refine hK.out _ _ HXW.out (fun hH => ?_)
      clear hK K
      simp only [Act.put, List.setIfInBounds_toArray]
      refine wpAnyH_ready (rs := [12]) (by kernel_rfl) (by simp) ?_
      refine AllReadyH.cons rfl (fun K hK => ?_) AllReadyH.nil
      refine step_app 45 rfl (.tmp 21) (.tmp 32) rfl rfl rfl run5 ?_
      refine hK.out _ _ HX5.out (fun hH => ?_)
      clear hK K
      simp only [Act.put]
      refine wpAnyH_ready (rs := [13]) (by kernel_rfl) (by simp) ?_
      refine AllReadyH.cons rfl (fun K hK => ?_) AllReadyH.nil
      go_simp
      refine hK.out _ _ HX5.out (fun hH => ?_)
      clear hK K
      refine wpAnyH_done (by kernel_rfl) ?_ _
      refine NoPanic.normal ?_
      clear hH hW run5
      go_wp2_with fail
      go_roundw
      case rel => exact ⟨i + 1, P5, C5, _, rfl, by go_num, hlt, HI5, OR5, G5⟩
      case measure => simp [intOf]; omega
    · have hlti : ¬ (i : Int) < (L : Int) := by omega
      have e : i = L := by omega
      subst e
      have HE : Hid (absX zs = absX xs) := by
        have h5 : absX zs = absX (xs.take i) := HI.out.2.2
        have h6 : i = xs.length := HL.out
        rw [List.take_of_length_le (by omega)] at h5
        exact h5
      go_wp2_with fail
      go_ret
      exact ⟨_, zs, rfl, HI.out.1, HE.out, GR.out⟩
end Go.Proofs.Ytdiehlioemmakaa

