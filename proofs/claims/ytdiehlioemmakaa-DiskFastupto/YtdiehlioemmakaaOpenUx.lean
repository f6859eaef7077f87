/-
  Calls of a disk that came in; what their bulk says.
-/
import Derived.Test.YtdiehlioemmakaaRows
import Derived.Test.YtdiehlioemmakaaDkUx
import Derived.Test.YtdiehlioemmakaaHK
namespace Go.Proofs.Ytdiehlioemmakaa
open Go.ChangeShapes Go.WideShapes Go.ChangeAt Go.RowKit Go.Lib Go.Joins Go.Deep
set_option maxRecDepth 100000

theorem bulk_one {H : Type} (d : DataW H) : 1 ≤ Rows.uptoBulk d := by
  cases d with
  | lit x => cases x <;> simp [Rows.uptoBulk]
  | _ => simp [Rows.uptoBulk]
theorem bulk_all {H : Type} : ∀ l : List (DataW H), l.length ≤ Rows.uptoBulkAll l
  | [] => Nat.zero_le _
  | d :: l => by
    have h1 := bulk_one d
    have h2 := bulk_all l
    simp only [Rows.uptoBulkAll, List.length_cons]; omega
theorem bulk_slice {H : Type} (elems spare : List (DataW H)) : elems.length ≤ Rows.uptoBulk (.slice elems spare) := by
  have := bulk_all elems
  simp only [Rows.uptoBulk]; omega
theorem bulk_part {H : Type} {d : DataW H} : ∀ {l : List (DataW H)}, d ∈ l → Rows.uptoBulk d ≤ Rows.uptoBulkAll l
  | x :: r, h => by
    simp only [Rows.uptoBulkAll]
    rcases List.mem_cons.1 h with e | e
    · subst e; omega
    · have := bulk_part (l := r) e; omega
theorem bulk_elem {H : Type} {d : DataW H} {elems spare : List (DataW H)} (h : d ∈ elems) : Rows.uptoBulk d ≤ Rows.uptoBulk (.slice elems spare) := by
  have := bulk_part h
  simp only [Rows.uptoBulk]; omega

theorem cellsAct : Try.prog.cellsOf 30 = 6 := by kernel_rfl
theorem cellsStr : Try.prog.cellsOf 9 = 1 := by kernel_rfl
theorem cellsBs : Try.prog.cellsOf 27 = 1 := by kernel_rfl
theorem cellsIs : Try.prog.cellsOf 28 = 1 := by kernel_rfl
theorem trod_struct6 {H : Type} {enc : TypeId × Value → H} {P : Program} {w : World} {base : Nat} {spare : Nat → Bool} {held : Bool} {t : TypeId} {f0 f1 f2 f3 f4 f5 : Field} {fuel : Nat} {cs : List Value} {x : DataW H × List MemPlace} (ht : P.underlying t = some (.struct #[f0, f1, f2, f3, f4, f5])) (h : DataW.trod enc P w base spare held fuel t cs = some x) :
    ∃ y0 y1 y2 y3 y4 y5 n, x.1 = .agg [y0.1, y1.1, y2.1, y3.1, y4.1, y5.1] ∧ cs.length = P.cellsOf t ∧ DataW.trod enc P w base spare held n f0.type ((cs.drop f0.offset).take (P.cellsOf f0.type)) = some y0 ∧
      DataW.trod enc P w base spare held n f1.type ((cs.drop f1.offset).take (P.cellsOf f1.type)) = some y1 ∧ DataW.trod enc P w base spare held n f2.type ((cs.drop f2.offset).take (P.cellsOf f2.type)) = some y2 ∧
      DataW.trod enc P w base spare held n f3.type ((cs.drop f3.offset).take (P.cellsOf f3.type)) = some y3 ∧ DataW.trod enc P w base spare held n f4.type ((cs.drop f4.offset).take (P.cellsOf f4.type)) = some y4 ∧
      DataW.trod enc P w base spare held n f5.type ((cs.drop f5.offset).take (P.cellsOf f5.type)) = some y5 := by
  obtain ⟨xs, n, _, rfl, hl, hlen, hf⟩ := DataW.trod_struct ht h
  match xs, hlen with
  | [y0, y1, y2, y3, y4, y5], _ => exact ⟨y0, y1, y2, y3, y4, y5, n, by simp, hl, by simpa using hf 0 f0 rfl, by simpa using hf 1 f1 rfl, by simpa using hf 2 f2 rfl, by simpa using hf 3 f3 rfl, by simpa using hf 4 f4 rfl, by simpa using hf 5 f5 rfl⟩
/-- bytes that stand in memory -/
theorem in_bytes {H : Type} {enc : TypeId × Value → H} {W : World} {n : Nat} {c : Value} {x : DataW H × List MemPlace} (h : DataW.trod enc Try.prog W 0 (fun _ => true) true n 27 [c] = some x) :
    ∃ (P : Option Addr) (C : Nat) (l : List UInt8), c = .slice P l.length C ∧ byIn W P l ∧ (P = none → C = 0) ∧ l.length ≤ C ∧ (l ≠ [] → ∀ a, P = some a → a.block < W.heap.size) ∧ l.length ≤ Rows.uptoBulk x.1 := by
  rcases open_slice1 Try.underlying27 cellsU8 h with ⟨hcs, _⟩ | ⟨a', len', cap', m, n', V, D, Pl, hcs, _, hl, hm, hmm, hx, hc⟩
  · have e : c = .slice none 0 0 := by simpa using hcs
    subst e
    exact ⟨none, 0, [], rfl, Or.inl ⟨rfl, rfl⟩, fun _ => rfl, Nat.le_refl _, fun h => absurd rfl h, Nat.zero_le _⟩
  · have e : c = .slice (some a') len' cap' := by simpa using hcs
    subst e
    simp only [if_true] at hmm
    subst hmm
    have each : ∀ i, i < len' → ∃ x : UInt8, W.cell? (a'.add i) = some (.int .u8 (x.toNat : Int)) := by
      intro i hi
      obtain ⟨h1, h2⟩ := hc i (by omega)
      obtain ⟨z, e0, _, wz⟩ := DataW.trod_int Try.underlying5 h2
      simp only [List.cons.injEq, and_true] at e0
      have hb := bounds_u8 wz
      refine ⟨UInt8.ofNat z.toNat, ?_⟩
      rw [h1, e0, UInt8.toNat_ofNat']
      have : ((z.toNat % 2 ^ 8 : Nat) : Int) = z := by omega
      rw [this]
    obtain ⟨B, hB⟩ := choose_lt each
    subst hx
    refine ⟨some a', m, (List.range len').map B, by simp, Or.inr ⟨a', rfl, fun i x hv => ?_⟩, (by intro h; cases h), by simpa using hl, fun hne a ea => ?_, ?_⟩
    · have hi : i < len' := by have := (List.getElem?_eq_some_iff.1 hv).1; simpa using this
      have ev : B i = x := by simpa [hi] using hv
      have c0 := hB i hi
      rw [ev] at c0
      exact c0
    · simp only [Option.some.injEq] at ea
      subst ea
      have hp : 0 < len' := by
        rcases Nat.eq_zero_or_pos len' with h0 | h0
        · subst h0; exact absurd rfl hne
        · exact h0
      have hlt := World.block_lt_of_cell? W _ (hB 0 hp)
      have hb : (a'.add 0).block = a'.block := by unfold Addr.add; split <;> rfl
      rw [hb] at hlt
      exact hlt
    · have := bulk_slice ((List.range len').map D) ((List.range (m - len')).map fun j => D (len' + j))
      simpa using this
/-- numbers that stand in memory -/
theorem in_ints {H : Type} {enc : TypeId × Value → H} {W : World} {n : Nat} {c : Value} {x : DataW H × List MemPlace} (h : DataW.trod enc Try.prog W 0 (fun _ => true) true n 28 [c] = some x) :
    ∃ (P : Option Addr) (C : Nat) (l : List Int), c = .slice P l.length C ∧ intIn W P l ∧ (P = none → C = 0 ∧ l = []) ∧ (l ≠ [] → ∀ a, P = some a → a.block < W.heap.size) ∧ (∀ x ∈ l, -9223372036854775808 ≤ x ∧ x ≤ 9223372036854775807) ∧ l.length ≤ Rows.uptoBulk x.1 := by
  rcases open_slice1 Try.underlying28 cellsI h with ⟨hcs, _⟩ | ⟨a', len', cap', m, n', V, D, Pl, hcs, _, hl, hm, hmm, hx, hc⟩
  · have e : c = .slice none 0 0 := by simpa using hcs
    subst e
    exact ⟨none, 0, [], rfl, Or.inl rfl, fun _ => ⟨rfl, rfl⟩, fun h => absurd rfl h, by simp, Nat.zero_le _⟩
  · have e : c = .slice (some a') len' cap' := by simpa using hcs
    subst e
    simp only [if_true] at hmm
    subst hmm
    have each : ∀ i, i < len' → ∃ x : Int, W.cell? (a'.add i) = some (.int .i64 x) ∧ -9223372036854775808 ≤ x ∧ x ≤ 9223372036854775807 := by
      intro i hi
      obtain ⟨h1, h2⟩ := hc i (by omega)
      obtain ⟨z, e0, _, wz⟩ := DataW.trod_int Try.underlying3 h2
      simp only [List.cons.injEq, and_true] at e0
      have hb := bounds_i64 wz
      exact ⟨z, by rw [h1, e0], by omega, by omega⟩
    obtain ⟨B, hB⟩ := choose_lt each
    subst hx
    have hsl : ∀ (hp : 0 < len'), a'.block < W.heap.size := fun hp => by
      have hlt := World.block_lt_of_cell? W _ (hB 0 hp).1
      have hb : (a'.add 0).block = a'.block := by unfold Addr.add; split <;> rfl
      rw [hb] at hlt
      exact hlt
    refine ⟨some a', m, (List.range len').map B, by simp, ?_, (by intro h; cases h), fun hne a ea => ?_, fun x hx => ?_, ?_⟩
    · by_cases h0 : len' = 0
      · subst h0; exact Or.inl rfl
      · have g0 := (hB 0 (by omega)).1
        have hsp : a'.spot = none := by simpa [Addr.add] using World.cell?_spot g0
        obtain ⟨b, off, spot⟩ := a'
        simp only at hsp
        subst hsp
        refine Or.inr ⟨b, off, rfl, fun i x hv => ?_⟩
        have hi : i < len' := by have := (List.getElem?_eq_some_iff.1 hv).1; simpa using this
        have ev : B i = x := by simpa [hi] using hv
        have c0 := (hB i hi).1
        rw [add_plain, ev] at c0
        exact c0
    · simp only [Option.some.injEq] at ea
      subst ea
      refine hsl ?_
      rcases Nat.eq_zero_or_pos len' with h0 | h0
      · subst h0; exact absurd rfl hne
      · exact h0
    · rw [List.mem_map] at hx
      obtain ⟨i, hi, rfl⟩ := hx
      exact (hB i (by simpa using hi)).2
    · have := bulk_slice ((List.range len').map D) ((List.range (m - len')).map fun j => D (len' + j))
      simpa using this
/-- what a call's bulk bounds -/
def acSz (a : AcV) (n : Nat) : Prop := a.n.length ≤ n ∧ a.t.length ≤ n ∧ a.b.length ≤ n ∧ a.ks.length ≤ n
structure AcW (a : AcV) (w : World) (base : Nat) : Prop where
  m : -9223372036854775808 ≤ a.m ∧ a.m ≤ 9223372036854775807
  b : byIn w a.pb a.b
  bb : a.b ≠ [] → ∀ x, a.pb = some x → x.block < base
  bc : a.pb = none → a.cb = 0
  bl : a.b.length ≤ a.cb
  k : intIn w a.pk a.ks
  kb : a.ks ≠ [] → ∀ x, a.pk = some x → x.block < base
  kc : a.pk = none → a.ck = 0 ∧ a.ks = []
  kr : ∀ x ∈ a.ks, -9223372036854775808 ≤ x ∧ x ≤ 9223372036854775807
def cellsA (a : AcV) : List Value := [.int .i64 a.k, .string ⟨a.n.toArray⟩, .string ⟨a.t.toArray⟩, .slice a.pb a.b.length a.cb, .int .i64 a.m, .slice a.pk a.ks.length a.ck]
theorem str_of (s : ByteArray) : s = ⟨s.data.toList.toArray⟩ := by cases s; simp
theorem open_act {H : Type} {enc : TypeId × Value → H} {W : World} {n : Nat} {cs : List Value} {x : DataW H × List MemPlace} (h : DataW.trod enc Try.prog W 0 (fun _ => true) true n 30 cs = some x) :
    ∃ a : AcV, cs = cellsA a ∧ AcW a W W.heap.size ∧ acSz a (Rows.uptoBulk x.1) := by
  obtain ⟨y0, y1, y2, y3, y4, y5, m, hx, hl, t0, t1, t2, t3, t4, t5⟩ := trod_struct6 Try.underlying30 h
  rw [cellsAct] at hl
  match cs, hl with
  | [c0, c1, c2, c3, c4, c5], _ =>
    have u0 : DataW.trod enc Try.prog W 0 (fun _ => true) true m 3 [c0] = some y0 := by simpa [cellsI] using t0
    have u1 : DataW.trod enc Try.prog W 0 (fun _ => true) true m 9 [c1] = some y1 := by simpa [cellsStr] using t1
    have u2 : DataW.trod enc Try.prog W 0 (fun _ => true) true m 9 [c2] = some y2 := by simpa [cellsStr] using t2
    have u3 : DataW.trod enc Try.prog W 0 (fun _ => true) true m 27 [c3] = some y3 := by simpa [cellsBs] using t3
    have u4 : DataW.trod enc Try.prog W 0 (fun _ => true) true m 3 [c4] = some y4 := by simpa [cellsI] using t4
    have u5 : DataW.trod enc Try.prog W 0 (fun _ => true) true m 28 [c5] = some y5 := by simpa [cellsIs] using t5
    obtain ⟨k, e0, _, _⟩ := DataW.trod_int Try.underlying3 u0
    obtain ⟨s1, e1, hy1, _⟩ := DataW.trod_string Try.underlying9 u1
    obtain ⟨s2, e2, hy2, _⟩ := DataW.trod_string Try.underlying9 u2
    obtain ⟨pb, cb, b, e3, b1, b2, b3, b4, b5⟩ := in_bytes u3
    obtain ⟨z, e4, _, wz⟩ := DataW.trod_int Try.underlying3 u4
    obtain ⟨pk, ck, ks, e5, k1, k2, k3, k4, k5⟩ := in_ints u5
    simp only [List.cons.injEq, and_true] at e0 e1 e2 e4
    subst e0 e1 e2 e3 e4 e5
    have hz := bounds_i64 wz
    have hd1 : y1.1 = .lit (.string s1.data.toList) := congrArg Prod.fst hy1
    have hd2 : y2.1 = .lit (.string s2.data.toList) := congrArg Prod.fst hy2
    have B : Rows.uptoBulk x.1 = Rows.uptoBulk y0.1 + ((s1.data.toList.length + 1) + ((s2.data.toList.length + 1) + (Rows.uptoBulk y3.1 + (Rows.uptoBulk y4.1 + (Rows.uptoBulk y5.1 + 0))))) + 1 := by
      rw [hx, hd1, hd2]; simp only [Rows.uptoBulk, Rows.uptoBulkAll]
    refine ⟨⟨k, z, s1.data.toList, s2.data.toList, b, pb, cb, ks, pk, ck⟩, ?_, ⟨⟨show (-9223372036854775808 : Int) ≤ z by omega, show z ≤ 9223372036854775807 by omega⟩, b1, b4, b2, b3, k1, k3, k2, k4⟩, ?_, ?_, ?_, ?_⟩
    · simp only [cellsA, ← str_of]
    · show s1.data.toList.length ≤ _; omega
    · show s2.data.toList.length ≤ _; omega
    · show b.length ≤ _; omega
    · show ks.length ≤ _; omega
theorem AcW.ok {a : AcV} {w : World} {base N : Nat} (h : AcW a w base) (hs : acSz a N) (hN : N ≤ 1048576) : a.ok w base :=
  ⟨h.m, by have := hs.1; omega, by have := hs.2.1; omega, h.b, h.bb, h.bc, h.bl, by have := hs.2.2.1; omega, h.k, h.kb, h.kc, h.kr, by have := hs.2.2.2; omega⟩
/-- calls that came in -/
theorem arg_acts {H : Type} {enc : TypeId × Value → H} {W : World} {base : Nat} {v : Value} {d : DataW H} {p : List MemPlace} (hv : Value.okWide Try.prog W .any base 22 v) (h : DataW.Trod enc Try.prog W 0 (fun _ => true) true 22 v d p) (hN : Rows.uptoBulk d ≤ 1048576) :
    ∃ (P : Option Addr) (C : Nat) (L : List AcV), v = .slice P L.length C ∧ acsIn W W.heap.size P L ∧ L.length ≤ 1048576 := by
  obtain ⟨a, len, cap, rfl⟩ := okWide_slice Try.underlying22 hv
  obtain ⟨n, hn⟩ := h
  rcases open_slice Try.underlying22 hn with ⟨hcs, _⟩ | ⟨a', len', cap', m, n', D, Pl, hcs, _, hl, hm, hmm, hx, hc⟩
  · have e : (.slice a len cap : Value) = .slice none 0 0 := by simpa [Value.cells] using hcs
    simp only [Value.slice.injEq] at e
    obtain ⟨rfl, rfl, rfl⟩ := e
    exact ⟨none, 0, [], rfl, ⟨by simp, Or.inl rfl⟩, Nat.zero_le _⟩
  · have e : (.slice a len cap : Value) = .slice (some a') len' cap' := by simpa [Value.cells] using hcs
    simp only [Value.slice.injEq] at e
    obtain ⟨rfl, rfl, rfl⟩ := e
    simp only [if_true] at hmm
    subst hmm
    simp only [Prod.mk.injEq] at hx
    obtain ⟨hd, _⟩ := hx
    have each : ∀ i, i < len → ∃ t : AcV, (∀ r u, (cellsA t)[r]? = some u → W.cell? ((a'.add (i * 6)).add r) = some u) ∧ t.ok W W.heap.size := by
      intro i hi
      obtain ⟨cs', h1, h2⟩ := hc i (by omega)
      rw [cellsAct] at h1
      obtain ⟨_, _, hcell⟩ := World.cells?_some h1
      obtain ⟨t, rfl, hw, hz⟩ := open_act h2
      refine ⟨t, fun r u hr => ?_, hw.ok hz ?_⟩
      · have hr6 := (List.getElem?_eq_some_iff.1 hr).1
        have := hcell r (by simpa [cellsA] using hr6)
        rw [this, hr]
      · have hmem : D i ∈ (List.range len).map D := List.mem_map.2 ⟨i, List.mem_range.2 hi, rfl⟩
        have := bulk_elem (spare := (List.range (m - len)).map fun j => D (len + j)) hmem
        rw [← hd] at this
        exact Nat.le_trans this hN
    obtain ⟨T, hT⟩ := @choose_lt AcV ⟨⟨0, 0, [], [], [], none, 0, [], none, 0⟩⟩ _ _ each
    refine ⟨some a', m, (List.range len).map T, by simp, ⟨fun t ht => ?_, ?_⟩, ?_⟩
    · simp only [List.mem_map, List.mem_range] at ht
      obtain ⟨i, hi, rfl⟩ := ht
      exact (hT i hi).2
    · by_cases h0 : len = 0
      · subst h0; exact Or.inl rfl
      · have g0 := (hT 0 (by omega)).1 0 _ rfl
        have hsp : a'.spot = none := by simpa [Addr.add] using World.cell?_spot g0
        obtain ⟨b, off, spot⟩ := a'
        simp only at hsp
        subst hsp
        have hlt := World.block_lt_of_cell? W _ g0
        refine Or.inr ⟨b, off, rfl, by simpa [Addr.add] using hlt, fun i t hv => ?_⟩
        have hi : i < len := by have := (List.getElem?_eq_some_iff.1 hv).1; simpa using this
        have ev : T i = t := by simpa [hi] using hv
        subst ev
        have g := (hT i hi).1
        refine ⟨?_, ?_, ?_, ?_, ?_, ?_⟩
        · have := g 0 _ rfl; rw [add_plain, add_plain] at this; exact this
        · have := g 1 _ rfl; rw [add_plain, add_plain] at this; exact this
        · have := g 2 _ rfl; rw [add_plain, add_plain] at this; exact this
        · have := g 3 _ rfl; rw [add_plain, add_plain] at this; exact this
        · have := g 4 _ rfl; rw [add_plain, add_plain] at this; exact this
        · have := g 5 _ rfl; rw [add_plain, add_plain] at this; exact this
    · have := bulk_slice ((List.range len).map D) ((List.range (m - len)).map fun j => D (len + j))
      rw [← hd] at this
      simp only [List.length_map, List.length_range] at this ⊢
      omega
/-- numbers that came in, with where they lie -/
theorem arg_ints0 {H : Type} {enc : TypeId × Value → H} {W : World} {base : Nat} {v : Value} {d : DataW H} {p : List MemPlace} (hv : Value.okWide Try.prog W .any base 28 v) (h : DataW.Trod enc Try.prog W 0 (fun _ => true) true 28 v d p) (hN : Rows.uptoBulk d ≤ 1048576) :
    ∃ (P : Option Addr) (C : Nat) (l : List Int), v = .slice P l.length C ∧ intIn W P l ∧ (l ≠ [] → ∀ a, P = some a → a.block < W.heap.size) ∧ (∀ x ∈ l, -9223372036854775808 ≤ x ∧ x ≤ 9223372036854775807) ∧ l.length ≤ 1000000000 := by
  obtain ⟨a, len, cap, rfl⟩ := okWide_slice Try.underlying28 hv
  obtain ⟨n, hn⟩ := h
  obtain ⟨P, C, l, e, h1, _, h3, h4, h5⟩ := in_ints (c := .slice a len cap) (by simpa [Value.cells] using hn)
  simp only at h5
  exact ⟨P, C, l, e, h1, h3, h4, by omega⟩
end Go.Proofs.Ytdiehlioemmakaa
