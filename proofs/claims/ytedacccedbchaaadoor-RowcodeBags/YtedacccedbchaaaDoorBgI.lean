/-
  A bag's bytes, read: what they say, as a function; the walk of rowcode.ReadBag.
-/
import Derived.Test.YtedacccedbchaaaDoorBgC
import Derived.Test.YtedacccedbchaaaDoorBgF
import Derived.Laws.Bits64b
namespace Go.Proofs.YtedacccedbchaaaDoor
open Go.RowKit Go.Shelf

/-- so many rows of a bag, read -/
def rdBs : Nat → List (List Va) → List UInt8 → List UInt8 → Except Int (List (List Va))
  | 0, acc, _, rest => if rest = [] then .ok acc else .error 5
  | k + 1, acc, ah, rest =>
    match rdRow rest with
    | .error e => .error e
    | .ok (s, m) => if leB ah (rest.take m) = true then rdBs k (acc ++ [s]) (rest.take m) (rest.drop m) else .error 20
/-- a bag, read -/
def rdBag (l : List UInt8) : Except Int (List (List Va)) :=
  if l.length < 4 then .error 4 else if 65536 < beN (l.take 4) then .error 20 else rdBs (beN (l.take 4)) [] [] (l.drop 4)
def bErr : Except Int (List (List Va)) → Int
  | .error e => e
  | .ok _ => 0
theorem rdRs_err : ∀ (f : Nat) (acc : List Va) (l : List UInt8) (n : Nat) (e : Int), rdRs f acc l n = .error e → e ≠ 0
  | 0, acc, l, n, e, h => by unfold rdRs at h; cases h; decide
  | f + 1, acc, [], n, e, h => by rw [rdRs] at h; cases h; decide
  | f + 1, acc, x :: l, n, e, h => by
    rw [rdRs] at h
    split at h
    · cases h
    · split at h
      · cases h; decide
      · rcases hq : rdV (x :: l) with e' | ⟨v, k⟩
        · rw [hq] at h
          have h : Except.error e' = Except.error e := h
          cases h
          exact rdV_err hq
        · rw [hq] at h
          exact rdRs_err f _ _ _ e h
theorem rdRow_err {l : List UInt8} {e : Int} (h : rdRow l = .error e) : e ≠ 0 := rdRs_err _ _ _ _ _ h
theorem leB_cmp (x a : List UInt8) : (Lib.compareBytes x a < 0) ↔ leB a x = false := by
  unfold leB
  rw [bc_turn x a, decide_eq_false_iff_not]
  omega
theorem leB_nil (x : List UInt8) : leB [] x = true := by
  unfold leB
  rcases x with _ | ⟨y, x⟩ <;> rfl
theorem or_add (a b i : Nat) (h : b < 2 ^ i) : a * 2 ^ i ||| b = a * 2 ^ i + b := by
  have := Nat.shiftLeft_add_eq_or_of_lt (b := b) (i := i) h a
  rw [Nat.shiftLeft_eq] at this
  exact this.symm
theorem or_u32 (a b : Nat) (ha : a < 4294967296) (hb : b < 4294967296) : bits .or .u32 (a : Int) (b : Int) = ((a ||| b : Nat) : Int) := by
  have hx : a ||| b < 2 ^ 32 := Nat.or_lt_two_pow (by omega) (by omega)
  have h1 : (BitVec.ofInt 32 (a : Int)).toNat = a := by
    rw [BitVec.ofInt_natCast, BitVec.toNat_ofNat]; exact Nat.mod_eq_of_lt (by omega)
  have h2 : (BitVec.ofInt 32 (b : Int)).toNat = b := by
    rw [BitVec.ofInt_natCast, BitVec.toNat_ofNat]; exact Nat.mod_eq_of_lt (by omega)
  show IntKind.u32.wrap ((BitVec.ofInt 32 (a : Int) ||| BitVec.ofInt 32 (b : Int)).toNat : Int) = _
  rw [BitVec.toNat_or, h1, h2]
  simp [IntKind.wrap, IntKind.bits, IntKind.signed]
  omega
theorem or_i64 (a b : Nat) (ha : a < 4294967296) (hb : b < 4294967296) : bits .or .i64 (a : Int) (b : Int) = ((a ||| b : Nat) : Int) := by
  have hx : a ||| b < 2 ^ 32 := Nat.or_lt_two_pow (by omega) (by omega)
  have h1 : (BitVec.ofInt 64 (a : Int)).toNat = a := by
    rw [BitVec.ofInt_natCast, BitVec.toNat_ofNat]; exact Nat.mod_eq_of_lt (by omega)
  have h2 : (BitVec.ofInt 64 (b : Int)).toNat = b := by
    rw [BitVec.ofInt_natCast, BitVec.toNat_ofNat]; exact Nat.mod_eq_of_lt (by omega)
  show IntKind.i64.wrap ((BitVec.ofInt 64 (a : Int) ||| BitVec.ofInt 64 (b : Int)).toNat : Int) = _
  rw [BitVec.toNat_or, h1, h2]
  simp [IntKind.wrap, IntKind.bits, IntKind.signed]
  omega
theorem be4 {b0 b1 b2 b3 : UInt8} {l : List UInt8} (h : l.take 4 = [b0, b1, b2, b3]) : beN (l.take 4) = b0.toNat * 16777216 + b1.toNat * 65536 + b2.toNat * 256 + b3.toNat := by
  rw [h]
  simp [beN]
  omega
theorem take4 {l : List UInt8} (h : ¬ l.length < 4) : ∃ b0 b1 b2 b3, l.take 4 = [b0, b1, b2, b3] ∧ l[0]? = some b0 ∧ l[1]? = some b1 ∧ l[2]? = some b2 ∧ l[3]? = some b3 := by
  rcases l with _ | ⟨b0, _ | ⟨b1, _ | ⟨b2, _ | ⟨b3, l⟩⟩⟩⟩
  · simp at h
  · simp at h
  · simp at h
  · simp at h
  · exact ⟨b0, b1, b2, b3, rfl, rfl, rfl, rfl, rfl⟩
theorem byIn.from {w : World} {g off : Nat} {l : List UInt8} (h : byIn w (some ⟨g, off, none⟩) l) (n : Nat) : byIn w (some ⟨g, off + n, none⟩) (l.drop n) := by
  rcases h with rfl | ⟨g', off', e, hg, hcs⟩
  · exact Or.inl (by simp)
  · simp only [Option.some.injEq, Addr.mk.injEq] at e
    obtain ⟨rfl, rfl, _⟩ := e
    refine Or.inr ⟨g, off + n, rfl, hg, fun i x hx => ?_⟩
    rw [List.getElem?_drop] at hx
    have := hcs (n + i) x hx
    rw [← Nat.add_assoc] at this; exact this
theorem byIn.upto {w : World} {p : Option Addr} {l : List UInt8} (h : byIn w p l) (n : Nat) : byIn w p (l.take n) := by
  rcases h with rfl | ⟨g, off, e, hg, hcs⟩
  · exact Or.inl (by simp)
  · refine Or.inr ⟨g, off, e, hg, fun i x hx => ?_⟩
    rw [List.getElem?_take] at hx
    split at hx
    · exact hcs i x hx
    · cases hx
theorem byIn.some_of {w : World} {p : Option Addr} {l : List UInt8} (h : byIn w p l) (hl : 1 ≤ l.length) : ∃ g off, p = some ⟨g, off, none⟩ := by
  rcases h with rfl | ⟨g, off, e, _⟩
  · simp at hl
  · exact ⟨g, off, e⟩
theorem ownsV.grownW {w w' : World} {base b2 : Nat} {v : Value} {l : List Rw} {r : Rw} (h : ownsV w base r.val r.la) (ho : ownsW w b2 v l) (hg : w.grownBy w' v.ownBlock) : ownsV w' base r.val r.la :=
  World.ownsRow.kept h hg (kinds h ho (by decide))
/-- an append of one row onto a list of one's own, as a step -/
theorem step_app_r {ops : Array Oper} {o : Oper} {a : Act} {w : World} {K : Act → World → Prop} {Q : Exit → Act → World → Prop} {E : Prop}
    (hgd : o.guard = none) (s x : Operand) (ho : o.op = .call { callee := .builtin .append, args := #[s, x], argTypes := #[22, 22] })
    (base : Nat) (v : Value) (l : List Rw) (r : Rw) (g : Nat) (hs : a.eval s = v) (hown : ownsW w base v l)
    (hx : a.eval x = .slice (some ⟨g, 0, none⟩) 1 1) (hg : w.cell? ⟨g, 0, none⟩ = some r.val) (hl : l.length ≤ 10000000) (hb : base ≤ w.heap.size)
    (h : ∀ v' w', ownsW w' base v' (l ++ [r]) → w.grownBy w' v.ownBlock → K (a.put o.dst v') w') :
    if Region.wanted o (yielded ops a.tmps) = true then Oper.wp Tryd.prog o a w K Q else E := by
  obtain ⟨i0, hi, hz0, hz1, hz2⟩ := info_parts rInfo
  have hw : Region.wanted o (yielded ops a.tmps) = true := by simp [Region.wanted, hgd]
  rw [if_pos hw]
  refine wp_append_own _ s x 22 ho base 30 i0 (.slice none 0 0) 1 24 rSlice hi hz0 hz1 hz2 rfl (by decide) v l.length (l.map Rw.val) hs hown ⟨g, 0, none⟩ 1 1 [r.val] hx rfl ?_ (by intro u hu; simp at hu; subst hu; rfl) (by unfold maxLen; omega) (by omega) hb ?_
  · intro j u hj
    have hj0 : j = 0 := by have := (List.getElem?_eq_some_iff.1 hj).1; simp at this; exact this
    subst hj0
    simp at hj
    subst hj
    have ea : (⟨g, 0, none⟩ : Addr).add 0 = ⟨g, 0, none⟩ := by simp [Addr.add]
    rw [ea]; exact hg
  · intro v' w' h1 h2 _
    refine h v' w' ?_ h2
    show w'.ownsRow _ _ _ _ _ _
    rw [List.map_append, List.length_append]; exact h1

set_option maxHeartbeats 8000000 in
set_option maxRecDepth 1000000 in
theorem ReadBag_any (p : Option Addr) (c : Nat) (l : List UInt8) (w : World) (hp : byIn w p l) (hc : l.length ≤ c) (hcm : c ≤ 9223372036854775807) (hlm : l.length ≤ 140737488351232) (hT : Tabs w) :
    Calls Tryd.prog 15 #[.slice p l.length c] w fun e w' => ∃ v', e = .returned (.tuple #[v', .int .i64 (bErr (rdBag l))]) ∧ Below w.heap.size w w' ∧ (∀ s, (rdBag l) = .ok s → ∃ L : List Rw, ownsW w' w.heap.size v' L ∧ L.map (·.la) = s ∧ ∀ r ∈ L, ownsV w' w.heap.size r.val r.la) ∧ (∀ x, (rdBag l) = .error x → v' = .slice none 0 0) := by
  by_cases h4 : l.length < 4
  · have e : rdBag l = .error 4 := if_pos h4
    rw [e]
    have hi : (l.length : Int) < 4 := by omega
    go_enter Tryd.func15, Tryd.ntmps15
    go_wp2_with fail
    refine bodyPost_ret (v := .tuple #[.slice none 0 0, .int .i64 4]) (by simp [results, Tryd.results15, go_sem]) rfl (by first | exact ⟨_, rfl, Below.refl _ _, (by intro s h; cases h), fun _ _ => rfl⟩ | exact ⟨_, rfl, Below.refl _ _, by simp⟩ | exact ⟨_, Below.refl _ _⟩ | exact Below.refl _ _)
  obtain ⟨b0, b1, b2, b3, ht, g0, g1, g2, g3⟩ := take4 h4
  obtain ⟨g, off, rfl⟩ := hp.some_of (by omega)
  have hN := be4 ht
  obtain ⟨N, hN0⟩ : ∃ N, N = beN (l.take 4) := ⟨_, rfl⟩
  have HP : Hid (byIn w (some ⟨g, off, none⟩) l) := hp
  have HT : Hid (Tabs w) := hT
  rcases hp with rfl | ⟨g', off', e, hg, hcs⟩
  · simp at h4
  simp only [Option.some.injEq, Addr.mk.injEq] at e
  obtain ⟨rfl, rfl, _⟩ := e
  have c0 := hcs 0 b0 g0
  have c1 := hcs 1 b1 g1
  have c2 := hcs 2 b2 g2
  have c3 := hcs 3 b3 g3
  rw [Nat.add_zero] at c0
  have x0 := b0.toNat_lt
  have x1 := b1.toNat_lt
  have x2 := b2.toNat_lt
  have x3 := b3.toNat_lt
  obtain ⟨A1, hA1⟩ : ∃ A1 : Nat, A1 = b0.toNat * 16777216 + b1.toNat * 65536 := ⟨_, rfl⟩
  obtain ⟨A2, hA2⟩ : ∃ A2 : Nat, A2 = A1 + b2.toNat * 256 := ⟨_, rfl⟩
  have o1 : bits .or .u32 ((b0.toNat : Int) * 16777216) ((b1.toNat : Int) * 65536) = (A1 : Int) := by
    rw [show (b0.toNat : Int) * 16777216 = ((b0.toNat * 16777216 : Nat) : Int) by omega, show (b1.toNat : Int) * 65536 = ((b1.toNat * 65536 : Nat) : Int) by omega, or_u32 _ _ (by omega) (by omega), or_add b0.toNat _ 24 (by omega), hA1]
  have o2 : bits .or .u32 (A1 : Int) ((b2.toNat : Int) * 256) = (A2 : Int) := by
    rw [show (b2.toNat : Int) * 256 = ((b2.toNat * 256 : Nat) : Int) by omega, or_u32 _ _ (by omega) (by omega), show A1 = (b0.toNat * 256 + b1.toNat) * 2 ^ 16 by omega, or_add _ _ 16 (by omega), hA2, hA1]
    omega
  have o3 : bits .or .u32 (A2 : Int) (b3.toNat : Int) = (N : Int) := by
    rw [or_u32 _ _ (by omega) (by omega), show A2 = (b0.toNat * 65536 + b1.toNat * 256 + b2.toNat) * 2 ^ 8 by omega, or_add _ _ 8 (by omega), hN0, hN]
    omega
  have l4 : (4 : Int) ≤ (l.length : Int) := by omega
  have l4n : ¬ (l.length : Int) < 4 := by omega
  have lc : (l.length : Int) ≤ (c : Int) := by omega
  clear hA1 hA2 hN ht g0 g1 g2 g3 hcs hT
  by_cases h65 : 65536 < N
  · have e : rdBag l = .error 20 := by unfold rdBag; rw [if_neg h4, if_pos (by rw [← hN0]; exact h65)]
    rw [e]
    have h65i : (65536 : Int) < (N : Int) := by omega
    clear hN0 HP HT
    go_enter Tryd.func15, Tryd.ntmps15
    go_wp2_with fail
    go_quiet (fail)
    go_wp2_with fail
    refine bodyPost_ret (v := .tuple #[.slice none 0 0, .int .i64 20]) (by simp [results, Tryd.results15, go_sem]) rfl (by first | exact ⟨_, rfl, below_drewN (Below.refl _ w) _, (by intro s h; cases h), fun _ _ => rfl⟩ | exact ⟨_, rfl, below_drewN (Below.refl _ w) _, by simp⟩ | exact ⟨_, below_drewN (Below.refl _ w) _⟩ | exact below_drewN (Below.refl _ w) _)
  have e : rdBag l = rdBs N [] [] (l.drop 4) := by unfold rdBag; rw [if_neg h4, if_neg (by rw [← hN0]; exact h65), hN0]
  rw [e]
  obtain ⟨E, hE⟩ : ∃ E, E = rdBs N [] [] (l.drop 4) := ⟨_, rfl⟩
  rw [← hE]
  have HE : Hid (E = rdBs (N - 0) (([] : List Rw).map (·.la)) [] (l.drop 4)) := hE
  have h65i : ¬ (65536 : Int) < (N : Int) := by omega
  have hN65 : N ≤ 65536 := by omega
  clear hE e hN0 h65
  by_cases hc4 : c = 4
  · subst hc4
    go_enter Tryd.func15, Tryd.ntmps15
    go_wp2_with fail
    go_quiet (fail)
    go_wp2_with fail
    have BW : Below w.heap.size w (w.drewN nq) := below_drewN (Below.refl _ w) nq
    generalize w.drewN nq = w2 at *
    go_loopw [0, 5, 6, 40] (fun s0 s5 s6 sk wr => ∃ (k : Nat) (P C : _) (rest : List UInt8) (A : Bv) (L : List Rw), s0 = .slice P rest.length C ∧ s6 = .slice A.p A.l.length A.c ∧ sk = .int .u32 k ∧ k ≤ N ∧ L.length = k ∧ rest.length ≤ C ∧ C ≤ 9223372036854775807 ∧ rest.length ≤ 140737488351232 ∧ Hid (E = rdBs (N - k) (L.map (·.la)) A.l rest) ∧ Hid (byIn w P rest) ∧ Hid (byIn w A.p A.l) ∧ Hid (ownsW wr w.heap.size s5 L) ∧ Hid (∀ r ∈ L, ownsV wr w.heap.size r.val r.la) ∧ Hid (Below w.heap.size w wr)) (fun _ _ _ sk _ => N - (intOf sk).toNat)
    case atStart =>
      refine ⟨0, (some ⟨g, off, none⟩), 0, l.drop 4, ⟨none, 0, []⟩, [], ?_, rfl, rfl, Nat.zero_le _, rfl, ?_, by omega, ?_, HE, ?_, Or.inl rfl, World.ownsRow_nil _ _ _ _, (fun r h => by simp at h), BW⟩
      · rw [List.length_drop]; rw [show l.length - 4 = 0 by omega]
      · rw [List.length_drop]; omega
      · rw [List.length_drop]; omega
      · have := HP.out.from 4; exact Or.inl (List.drop_eq_nil_of_le (by omega))
    case round =>
      obtain ⟨k, P, C, rest, A, L, rfl, rfl, rfl, hk, hLk, hrC, hCm, hrl, hd, hPr, hAr, ho, hLo, hbr⟩ := hrel
      clear HE
      have bs := hbr.out.size
      by_cases hlt : k < N
      · have hlti : (k : Int) < (N : Int) := by omega
        have hd1 := hd.out
        rw [show N - k = (N - (k + 1)) + 1 by omega, rdBs] at hd1
        have RD : Hid (Calls Tryd.prog 13 #[.slice P rest.length C] wr fun e w' => ∃ v', e = .returned (.tuple #[v', .int .i64 ((rCnt (rdRow rest) : Nat) : Int), .int .i64 (rErr (rdRow rest))]) ∧ Below wr.heap.size wr w' ∧ (∀ s m, rdRow rest = .ok (s, m) → ownsV w' wr.heap.size v' s) ∧ (∀ x, rdRow rest = .error x → v' = .slice none 0 0)) := ReadRow_any P C rest wr (hPr.out.below hbr.out) hrC hCm hrl (HT.out.below hbr.out)
        rcases hq : rdRow rest with x | ⟨s, m⟩
        · rw [hq] at hd1 RD
          have hd2 : E = .error x := hd1
          subst hd2
          have hne : (x != 0) = true := by rw [bne_iff_ne]; exact rdRow_err hq
          clear hd hd1 hq
          simp only [rCnt, rErr] at RD
          go_wp2_with fail
          refine RD.out.mono ?_
          rintro e' w4 ⟨v4, rfl, hb4, _, _⟩
          have B4 := hbr.out.trans (hb4.mono bs)
          clear RD
          go_wp2_with fail
          refine bodyPost_ret (v := .tuple #[.slice none 0 0, .int .i64 x]) (by simp [results, Tryd.results15, go_sem]) rfl (by first | exact ⟨_, rfl, B4, (by intro s h; cases h), fun _ _ => rfl⟩ | exact ⟨_, rfl, B4, by simp⟩ | exact ⟨_, B4⟩ | exact B4)
        · obtain ⟨hsok, hs16, hm1, hm2, hm3⟩ := rdRow_back hq
          obtain ⟨gr, orr, rfl⟩ := hPr.out.some_of (by omega)
          rw [hq] at hd1 RD
          simp only [rCnt, rErr] at RD
          have hmi : (m : Int) ≤ (rest.length : Int) := by omega
          have hmC : (m : Int) ≤ (C : Int) := by omega
          have CP : Hid (∀ W, Below wr.heap.size wr W → Calls Tryd.prog 25 #[.slice (some ⟨gr, orr, none⟩) m C, .slice A.p A.l.length A.c] W fun e w' => e = .returned (.int .i64 (Lib.compareBytes (rest.take m) A.l)) ∧ w' = W) := fun W hW => by
            have h1 := Compare_any C A.c (((hPr.out.upto m).below hbr.out).below hW) ((hAr.out.below hbr.out).below hW)
            rw [List.length_take, Nat.min_eq_left hm2] at h1
            exact h1
          by_cases hle : leB A.l (rest.take m) = true
          · have hd2 : Hid (E = rdBs (N - (k + 1)) (L.map (·.la) ++ [s]) (rest.take m) (rest.drop m)) := by
              show _ = _
              rw [hd1]; simp only [hle, if_true]
            have hz : ¬ Lib.compareBytes (rest.take m) A.l < 0 := by rw [leB_cmp, hle]; simp
            generalize Lib.compareBytes (rest.take m) A.l = z at CP hz
            clear hd hd1 hq hle hsok hm3
            go_wp2_with fail
            refine RD.out.mono ?_
            rintro e' w4 ⟨v4, rfl, hb4, hV4, _⟩
            have hV4 := hV4 s m rfl
            obtain ⟨r4, hr4, hla4, _, _, _⟩ := ownsV.row hV4
            subst hr4
            have B4 := hbr.out.trans (hb4.mono bs)
            have s4 := B4.size
            have o4 : Hid (ownsW w4 w.heap.size u5 L) := own_below ho.out hb4
            have L4 : Hid (∀ r ∈ L, ownsV w4 w.heap.size r.val r.la) := fun r h => own_below (hLo.out r h) hb4
            have N4 : Hid (ownsV w4 w.heap.size r4.val r4.la) := by rw [hla4]; exact own_low hV4 bs
            have HLA : Hid (r4.la = s) := hla4
            clear RD ho hLo hbr hV4 hla4
            go_wp2_with fail
            refine (CP.out _ hb4).mono ?_
            rintro e' w5 ⟨rfl, hw5⟩
            obtain rfl : w4 = w5 := hw5.symm
            clear CP hb4
            by_cases hCm2 : C = m
            · obtain rfl : m = C := hCm2.symm
              go_wp2_with fail
              refine wp_region_noPanic ?_
              refine wp_region_held_drew (S := fun _ => True) (by kernel_rfl) (trivial) (fun hH0 => ?_)
              refine take_at (i := 0) (v := u5) rfl rfl (by kernel_rfl) (by kernel_rfl) (by kernel_rfl) (fun _ _ _ h => h) (Or.inl ⟨by rfl, ?_⟩) hH0 ?_
              · intro w hSw; (try dsimp only at hSw); go_simp
              simp only [List.setIfInBounds_toArray, List.set_cons_zero, List.set_cons_succ]
              refine take_at (i := 1) (v := .slice r4.p r4.la.length r4.c) rfl rfl (by kernel_rfl) (by kernel_rfl) (by kernel_rfl) (fun _ _ _ h => h) (Or.inl ⟨by rfl, ?_⟩) hH0 ?_
              · intro w hSw; (try dsimp only at hSw); go_simp
              simp only [List.setIfInBounds_toArray, List.set_cons_zero, List.set_cons_succ]
              refine take_at (i := 4) (v := .slice (some ⟨gr, orr, none⟩) rest.length m) rfl rfl (by kernel_rfl) (by kernel_rfl) (by kernel_rfl) (fun _ _ _ h => h) (Or.inl ⟨by rfl, ?_⟩) hH0 ?_
              · intro w hSw; (try dsimp only at hSw); go_simp
              simp only [List.setIfInBounds_toArray, List.set_cons_zero, List.set_cons_succ]
              refine take_at (i := 5) (v := .int .i64 m) rfl rfl (by kernel_rfl) (by kernel_rfl) (by kernel_rfl) (fun _ _ _ h => h) (Or.inl ⟨by rfl, ?_⟩) hH0 ?_
              · intro w hSw; (try dsimp only at hSw); go_simp
              simp only [List.setIfInBounds_toArray, List.set_cons_zero, List.set_cons_succ]
              refine take_at (i := 6) (v := .slice (some ⟨gr, orr, none⟩) m m) rfl rfl (by kernel_rfl) (by kernel_rfl) (by kernel_rfl) (fun _ _ _ h => h) (Or.inl ⟨by rfl, ?_⟩) hH0 ?_
              · intro w hSw; (try dsimp only at hSw); go_simp
              simp only [List.setIfInBounds_toArray, List.set_cons_zero, List.set_cons_succ]
              refine take_at (i := 7) (v := .slice (some ⟨gr, orr, none⟩) rest.length m) rfl rfl (by kernel_rfl) (by kernel_rfl) (by kernel_rfl) (fun _ _ _ h => h) (Or.inl ⟨by rfl, ?_⟩) hH0 ?_
              · intro w hSw; (try dsimp only at hSw); go_simp
              simp only [List.setIfInBounds_toArray, List.set_cons_zero, List.set_cons_succ]
              refine take_at (i := 8) (v := .int .i64 m) rfl rfl (by kernel_rfl) (by kernel_rfl) (by kernel_rfl) (fun _ _ _ h => h) (Or.inl ⟨by rfl, ?_⟩) hH0 ?_
              · intro w hSw; (try dsimp only at hSw); go_simp
              simp only [List.setIfInBounds_toArray, List.set_cons_zero, List.set_cons_succ]
              refine take_at (i := 9) (v := .slice (some ⟨gr, orr, none⟩) (rest.length - m) 0) rfl rfl (by kernel_rfl) (by kernel_rfl) (by kernel_rfl) (fun _ _ _ h => h) (Or.inl ⟨by rfl, ?_⟩) hH0 ?_
              · intro w hSw; (try dsimp only at hSw); go_simp
              simp only [List.setIfInBounds_toArray, List.set_cons_zero, List.set_cons_succ]
              refine wpAnyH_ready (rs := [2]) (by kernel_rfl) (by simp) ?_
              refine AllReadyH.cons rfl (fun K hK => ?_) AllReadyH.nil
              go_simp
              refine hK.out _ _ trivial (fun hH1 => ?_)
              clear hK K
              have W5 : Below w4.heap.size w4 (w4.drew.alloc (.cells #[r4.val] 30)) := (below_drewN (Below.refl _ w4) 1).alloc (by exact Nat.le_refl _) _
              have y5 : (w4.drew.alloc (.cells #[r4.val] 30)).cell? ⟨w4.heap.size, 0, none⟩ = some r4.val := by
                have e : w4.heap.size = w4.drew.heap.size := rfl
                rw [e]; simp only [World.cell?, heap_alloc_new]; simp
              refine wpAnyH_ready (rs := [3]) (by kernel_rfl) (by simp) ?_
              refine AllReadyH.cons rfl (fun K hK => ?_) AllReadyH.nil
              refine step_app_r rfl (.tmp 57) (.tmp 59) rfl w.heap.size u5 L r4 w4.heap.size rfl (own_below o4.out W5) rfl y5 (by omega) (Nat.le_trans s4 W5.size) ?_
              intro v6 w6 ho6 hg6
              refine hK.out _ _ trivial (fun hH2 => ?_)
              clear hK K
              simp only [Act.put, List.setIfInBounds_toArray]
              refine take_at (i := 10) (v := v6) rfl rfl (by kernel_rfl) (by kernel_rfl) (by kernel_rfl) (fun _ _ _ h => h) (Or.inl ⟨by rfl, ?_⟩) hH2 ?_
              · intro w hSw; (try dsimp only at hSw); go_simp
              simp only [List.setIfInBounds_toArray, List.set_cons_zero, List.set_cons_succ]
              refine take_at (i := 11) (v := .slice (some ⟨gr, orr, none⟩) m m) rfl rfl (by kernel_rfl) (by kernel_rfl) (by kernel_rfl) (fun _ _ _ h => h) (Or.inl ⟨by rfl, ?_⟩) hH2 ?_
              · intro w hSw; (try dsimp only at hSw); go_simp
              simp only [List.setIfInBounds_toArray, List.set_cons_zero, List.set_cons_succ]
              refine take_at (i := 12) (v := .slice (some ⟨gr, orr, none⟩) (rest.length - m) 0) rfl rfl (by kernel_rfl) (by kernel_rfl) (by kernel_rfl) (fun _ _ _ h => h) (Or.inl ⟨by rfl, ?_⟩) hH2 ?_
              · intro w hSw; (try dsimp only at hSw); go_simp
              simp only [List.setIfInBounds_toArray, List.set_cons_zero]
              refine wpAnyH_done (by kernel_rfl) ?_ _
              refine NoPanic.normal ?_
              have o5 := own_below o4.out W5
              have B6 : Below w.heap.size w w6 := B4.trans ((W5.mono s4).trans (grown_below hg6 (Nat.le_trans s4 W5.size) (fun g h => (World.ownsRow.lt o5 g h).1)))
              have L6 : Hid (∀ r ∈ L ++ [r4], ownsV w6 w.heap.size r.val r.la) := fun r h => by
                rcases List.mem_append.1 h with h | h
                · exact ownsV.grownW (own_below (L4.out r h) W5) o5 hg6
                · simp at h; subst h; exact ownsV.grownW (own_below N4.out W5) o5 hg6
              have hd3 : Hid (E = rdBs (N - (k + 1)) ((L ++ [r4]).map (·.la)) (rest.take m) (rest.drop m)) := by
                show _ = _
                rw [List.map_append, List.map_cons, List.map_nil, HLA.out]; exact hd2.out
              clear o4 L4 N4 W5 y5 hg6 o5 hd2
              go_wp2_with fail
              go_roundw
              case rel =>
                refine ⟨k + 1, some ⟨gr, orr, none⟩, 0, rest.drop m, ⟨some ⟨gr, orr, none⟩, m, rest.take m⟩, L ++ [r4], ?_, ?_, by go_num, hlt, by simp [hLk], ?_, by omega, ?_, hd3, ?_, hPr.out.upto m, ho6, L6, B6⟩
                · rw [List.length_drop]
                · simp only [List.length_take, Nat.min_eq_left hm2]
                · rw [List.length_drop]; omega
                · rw [List.length_drop]; omega
                · exact Or.inl (List.drop_eq_nil_of_le (by omega))
              case measure => simp [intOf]; omega
            · go_wp2_with fail
              refine wp_region_noPanic ?_
              refine wp_region_held_drew (S := fun _ => True) (by kernel_rfl) (trivial) (fun hH0 => ?_)
              refine take_at (i := 0) (v := u5) rfl rfl (by kernel_rfl) (by kernel_rfl) (by kernel_rfl) (fun _ _ _ h => h) (Or.inl ⟨by rfl, ?_⟩) hH0 ?_
              · intro w hSw; (try dsimp only at hSw); go_simp
              simp only [List.setIfInBounds_toArray, List.set_cons_zero, List.set_cons_succ]
              refine take_at (i := 1) (v := .slice r4.p r4.la.length r4.c) rfl rfl (by kernel_rfl) (by kernel_rfl) (by kernel_rfl) (fun _ _ _ h => h) (Or.inl ⟨by rfl, ?_⟩) hH0 ?_
              · intro w hSw; (try dsimp only at hSw); go_simp
              simp only [List.setIfInBounds_toArray, List.set_cons_zero, List.set_cons_succ]
              refine take_at (i := 4) (v := .slice (some ⟨gr, orr, none⟩) rest.length C) rfl rfl (by kernel_rfl) (by kernel_rfl) (by kernel_rfl) (fun _ _ _ h => h) (Or.inl ⟨by rfl, ?_⟩) hH0 ?_
              · intro w hSw; (try dsimp only at hSw); go_simp
              simp only [List.setIfInBounds_toArray, List.set_cons_zero, List.set_cons_succ]
              refine take_at (i := 5) (v := .int .i64 m) rfl rfl (by kernel_rfl) (by kernel_rfl) (by kernel_rfl) (fun _ _ _ h => h) (Or.inl ⟨by rfl, ?_⟩) hH0 ?_
              · intro w hSw; (try dsimp only at hSw); go_simp
              simp only [List.setIfInBounds_toArray, List.set_cons_zero, List.set_cons_succ]
              refine take_at (i := 6) (v := .slice (some ⟨gr, orr, none⟩) m C) rfl rfl (by kernel_rfl) (by kernel_rfl) (by kernel_rfl) (fun _ _ _ h => h) (Or.inl ⟨by rfl, ?_⟩) hH0 ?_
              · intro w hSw; (try dsimp only at hSw); go_simp
              simp only [List.setIfInBounds_toArray, List.set_cons_zero, List.set_cons_succ]
              refine take_at (i := 7) (v := .slice (some ⟨gr, orr, none⟩) rest.length C) rfl rfl (by kernel_rfl) (by kernel_rfl) (by kernel_rfl) (fun _ _ _ h => h) (Or.inl ⟨by rfl, ?_⟩) hH0 ?_
              · intro w hSw; (try dsimp only at hSw); go_simp
              simp only [List.setIfInBounds_toArray, List.set_cons_zero, List.set_cons_succ]
              refine take_at (i := 8) (v := .int .i64 m) rfl rfl (by kernel_rfl) (by kernel_rfl) (by kernel_rfl) (fun _ _ _ h => h) (Or.inl ⟨by rfl, ?_⟩) hH0 ?_
              · intro w hSw; (try dsimp only at hSw); go_simp
              simp only [List.setIfInBounds_toArray, List.set_cons_zero, List.set_cons_succ]
              refine take_at (i := 9) (v := .slice (some ⟨gr, orr + m, none⟩) (rest.length - m) (C - m)) rfl rfl (by kernel_rfl) (by kernel_rfl) (by kernel_rfl) (fun _ _ _ h => h) (Or.inl ⟨by rfl, ?_⟩) hH0 ?_
              · intro w hSw; (try dsimp only at hSw); go_simp
              simp only [List.setIfInBounds_toArray, List.set_cons_zero, List.set_cons_succ]
              refine wpAnyH_ready (rs := [2]) (by kernel_rfl) (by simp) ?_
              refine AllReadyH.cons rfl (fun K hK => ?_) AllReadyH.nil
              go_simp
              refine hK.out _ _ trivial (fun hH1 => ?_)
              clear hK K
              have W5 : Below w4.heap.size w4 (w4.drew.alloc (.cells #[r4.val] 30)) := (below_drewN (Below.refl _ w4) 1).alloc (by exact Nat.le_refl _) _
              have y5 : (w4.drew.alloc (.cells #[r4.val] 30)).cell? ⟨w4.heap.size, 0, none⟩ = some r4.val := by
                have e : w4.heap.size = w4.drew.heap.size := rfl
                rw [e]; simp only [World.cell?, heap_alloc_new]; simp
              refine wpAnyH_ready (rs := [3]) (by kernel_rfl) (by simp) ?_
              refine AllReadyH.cons rfl (fun K hK => ?_) AllReadyH.nil
              refine step_app_r rfl (.tmp 57) (.tmp 59) rfl w.heap.size u5 L r4 w4.heap.size rfl (own_below o4.out W5) rfl y5 (by omega) (Nat.le_trans s4 W5.size) ?_
              intro v6 w6 ho6 hg6
              refine hK.out _ _ trivial (fun hH2 => ?_)
              clear hK K
              simp only [Act.put, List.setIfInBounds_toArray]
              refine take_at (i := 10) (v := v6) rfl rfl (by kernel_rfl) (by kernel_rfl) (by kernel_rfl) (fun _ _ _ h => h) (Or.inl ⟨by rfl, ?_⟩) hH2 ?_
              · intro w hSw; (try dsimp only at hSw); go_simp
              simp only [List.setIfInBounds_toArray, List.set_cons_zero, List.set_cons_succ]
              refine take_at (i := 11) (v := .slice (some ⟨gr, orr, none⟩) m C) rfl rfl (by kernel_rfl) (by kernel_rfl) (by kernel_rfl) (fun _ _ _ h => h) (Or.inl ⟨by rfl, ?_⟩) hH2 ?_
              · intro w hSw; (try dsimp only at hSw); go_simp
              simp only [List.setIfInBounds_toArray, List.set_cons_zero, List.set_cons_succ]
              refine take_at (i := 12) (v := .slice (some ⟨gr, orr + m, none⟩) (rest.length - m) (C - m)) rfl rfl (by kernel_rfl) (by kernel_rfl) (by kernel_rfl) (fun _ _ _ h => h) (Or.inl ⟨by rfl, ?_⟩) hH2 ?_
              · intro w hSw; (try dsimp only at hSw); go_simp
              simp only [List.setIfInBounds_toArray, List.set_cons_zero]
              refine wpAnyH_done (by kernel_rfl) ?_ _
              refine NoPanic.normal ?_
              have o5 := own_below o4.out W5
              have B6 : Below w.heap.size w w6 := B4.trans ((W5.mono s4).trans (grown_below hg6 (Nat.le_trans s4 W5.size) (fun g h => (World.ownsRow.lt o5 g h).1)))
              have L6 : Hid (∀ r ∈ L ++ [r4], ownsV w6 w.heap.size r.val r.la) := fun r h => by
                rcases List.mem_append.1 h with h | h
                · exact ownsV.grownW (own_below (L4.out r h) W5) o5 hg6
                · simp at h; subst h; exact ownsV.grownW (own_below N4.out W5) o5 hg6
              have hd3 : Hid (E = rdBs (N - (k + 1)) ((L ++ [r4]).map (·.la)) (rest.take m) (rest.drop m)) := by
                show _ = _
                rw [List.map_append, List.map_cons, List.map_nil, HLA.out]; exact hd2.out
              clear o4 L4 N4 W5 y5 hg6 o5 hd2
              go_wp2_with fail
              go_roundw
              case rel =>
                refine ⟨k + 1, some ⟨gr, orr + m, none⟩, C - m, rest.drop m, ⟨some ⟨gr, orr, none⟩, C, rest.take m⟩, L ++ [r4], ?_, ?_, by go_num, hlt, by simp [hLk], ?_, by omega, ?_, hd3, ?_, hPr.out.upto m, ho6, L6, B6⟩
                · rw [List.length_drop]
                · simp only [List.length_take, Nat.min_eq_left hm2]
                · rw [List.length_drop]; omega
                · rw [List.length_drop]; omega
                · exact hPr.out.from m
              case measure => simp [intOf]; omega
          · have hle : leB A.l (rest.take m) = false := by simpa using hle
            have hd2 : E = .error 20 := by rw [hd1]; simp only [hle, Bool.false_eq_true, if_false]
            subst hd2
            have hz : Lib.compareBytes (rest.take m) A.l < 0 := by rw [leB_cmp]; exact hle
            generalize Lib.compareBytes (rest.take m) A.l = z at CP hz
            clear hd hd1 hq hle hsok hm3
            go_wp2_with fail
            refine RD.out.mono ?_
            rintro e' w4 ⟨v4, rfl, hb4, _, _⟩
            have B4 := hbr.out.trans (hb4.mono bs)
            clear RD
            go_wp2_with fail
            refine (CP.out _ hb4).mono ?_
            rintro e' w5 ⟨rfl, hw5⟩
            obtain rfl : w4 = w5 := hw5.symm
            clear CP
            go_wp2_with fail
            refine bodyPost_ret (v := .tuple #[.slice none 0 0, .int .i64 20]) (by simp [results, Tryd.results15, go_sem]) rfl (by first | exact ⟨_, rfl, B4, (by intro s h; cases h), fun _ _ => rfl⟩ | exact ⟨_, rfl, B4, by simp⟩ | exact ⟨_, B4⟩ | exact B4)
      · have hk0 : k = N := by omega
        subst hk0
        have hd1 := hd.out
        rw [Nat.sub_self, rdBs] at hd1
        have hB := hbr.out
        by_cases hr0 : rest = []
        · have hd2 : E = .ok (L.map (·.la)) := by rw [hd1, if_pos hr0]
          subst hd2
          subst hr0
          have O5 : Hid (ownsW wr w.heap.size u5 L) := ho.out
          clear hd hd1 ho
          go_wp2_with fail
          refine bodyPost_ret (v := .tuple #[u5, .int .i64 0]) (by simp [results, Tryd.results15, go_sem]) rfl (⟨_, rfl, hB, (by intro s h; cases h; exact ⟨L, O5.out, rfl, hLo.out⟩), (by intro x h; cases h)⟩)
        · have hd2 : E = .error 5 := by rw [hd1, if_neg hr0]
          subst hd2
          have hrp : (0 : Int) < (rest.length : Int) := by have := List.length_pos_iff.2 hr0; omega
          clear hd hd1 ho
          go_wp2_with fail
          refine bodyPost_ret (v := .tuple #[.slice none 0 0, .int .i64 5]) (by simp [results, Tryd.results15, go_sem]) rfl (by first | exact ⟨_, rfl, hB, (by intro s h; cases h), fun _ _ => rfl⟩ | exact ⟨_, rfl, hB, by simp⟩ | exact ⟨_, hB⟩ | exact hB)
  · go_enter Tryd.func15, Tryd.ntmps15
    go_wp2_with fail
    go_quiet (fail)
    go_wp2_with fail
    have BW : Below w.heap.size w (w.drewN nq) := below_drewN (Below.refl _ w) nq
    generalize w.drewN nq = w2 at *
    go_loopw [0, 5, 6, 40] (fun s0 s5 s6 sk wr => ∃ (k : Nat) (P C : _) (rest : List UInt8) (A : Bv) (L : List Rw), s0 = .slice P rest.length C ∧ s6 = .slice A.p A.l.length A.c ∧ sk = .int .u32 k ∧ k ≤ N ∧ L.length = k ∧ rest.length ≤ C ∧ C ≤ 9223372036854775807 ∧ rest.length ≤ 140737488351232 ∧ Hid (E = rdBs (N - k) (L.map (·.la)) A.l rest) ∧ Hid (byIn w P rest) ∧ Hid (byIn w A.p A.l) ∧ Hid (ownsW wr w.heap.size s5 L) ∧ Hid (∀ r ∈ L, ownsV wr w.heap.size r.val r.la) ∧ Hid (Below w.heap.size w wr)) (fun _ _ _ sk _ => N - (intOf sk).toNat)
    case atStart =>
      refine ⟨0, (some ⟨g, off + 4, none⟩), (c - 4), l.drop 4, ⟨none, 0, []⟩, [], ?_, rfl, rfl, Nat.zero_le _, rfl, ?_, by omega, ?_, HE, ?_, Or.inl rfl, World.ownsRow_nil _ _ _ _, (fun r h => by simp at h), BW⟩
      · rw [List.length_drop]
      · rw [List.length_drop]; omega
      · rw [List.length_drop]; omega
      · exact HP.out.from 4
    case round =>
      obtain ⟨k, P, C, rest, A, L, rfl, rfl, rfl, hk, hLk, hrC, hCm, hrl, hd, hPr, hAr, ho, hLo, hbr⟩ := hrel
      clear HE
      have bs := hbr.out.size
      by_cases hlt : k < N
      · have hlti : (k : Int) < (N : Int) := by omega
        have hd1 := hd.out
        rw [show N - k = (N - (k + 1)) + 1 by omega, rdBs] at hd1
        have RD : Hid (Calls Tryd.prog 13 #[.slice P rest.length C] wr fun e w' => ∃ v', e = .returned (.tuple #[v', .int .i64 ((rCnt (rdRow rest) : Nat) : Int), .int .i64 (rErr (rdRow rest))]) ∧ Below wr.heap.size wr w' ∧ (∀ s m, rdRow rest = .ok (s, m) → ownsV w' wr.heap.size v' s) ∧ (∀ x, rdRow rest = .error x → v' = .slice none 0 0)) := ReadRow_any P C rest wr (hPr.out.below hbr.out) hrC hCm hrl (HT.out.below hbr.out)
        rcases hq : rdRow rest with x | ⟨s, m⟩
        · rw [hq] at hd1 RD
          have hd2 : E = .error x := hd1
          subst hd2
          have hne : (x != 0) = true := by rw [bne_iff_ne]; exact rdRow_err hq
          clear hd hd1 hq
          simp only [rCnt, rErr] at RD
          go_wp2_with fail
          refine RD.out.mono ?_
          rintro e' w4 ⟨v4, rfl, hb4, _, _⟩
          have B4 := hbr.out.trans (hb4.mono bs)
          clear RD
          go_wp2_with fail
          refine bodyPost_ret (v := .tuple #[.slice none 0 0, .int .i64 x]) (by simp [results, Tryd.results15, go_sem]) rfl (by first | exact ⟨_, rfl, B4, (by intro s h; cases h), fun _ _ => rfl⟩ | exact ⟨_, rfl, B4, by simp⟩ | exact ⟨_, B4⟩ | exact B4)
        · obtain ⟨hsok, hs16, hm1, hm2, hm3⟩ := rdRow_back hq
          obtain ⟨gr, orr, rfl⟩ := hPr.out.some_of (by omega)
          rw [hq] at hd1 RD
          simp only [rCnt, rErr] at RD
          have hmi : (m : Int) ≤ (rest.length : Int) := by omega
          have hmC : (m : Int) ≤ (C : Int) := by omega
          have CP : Hid (∀ W, Below wr.heap.size wr W → Calls Tryd.prog 25 #[.slice (some ⟨gr, orr, none⟩) m C, .slice A.p A.l.length A.c] W fun e w' => e = .returned (.int .i64 (Lib.compareBytes (rest.take m) A.l)) ∧ w' = W) := fun W hW => by
            have h1 := Compare_any C A.c (((hPr.out.upto m).below hbr.out).below hW) ((hAr.out.below hbr.out).below hW)
            rw [List.length_take, Nat.min_eq_left hm2] at h1
            exact h1
          by_cases hle : leB A.l (rest.take m) = true
          · have hd2 : Hid (E = rdBs (N - (k + 1)) (L.map (·.la) ++ [s]) (rest.take m) (rest.drop m)) := by
              show _ = _
              rw [hd1]; simp only [hle, if_true]
            have hz : ¬ Lib.compareBytes (rest.take m) A.l < 0 := by rw [leB_cmp, hle]; simp
            generalize Lib.compareBytes (rest.take m) A.l = z at CP hz
            clear hd hd1 hq hle hsok hm3
            go_wp2_with fail
            refine RD.out.mono ?_
            rintro e' w4 ⟨v4, rfl, hb4, hV4, _⟩
            have hV4 := hV4 s m rfl
            obtain ⟨r4, hr4, hla4, _, _, _⟩ := ownsV.row hV4
            subst hr4
            have B4 := hbr.out.trans (hb4.mono bs)
            have s4 := B4.size
            have o4 : Hid (ownsW w4 w.heap.size u5 L) := own_below ho.out hb4
            have L4 : Hid (∀ r ∈ L, ownsV w4 w.heap.size r.val r.la) := fun r h => own_below (hLo.out r h) hb4
            have N4 : Hid (ownsV w4 w.heap.size r4.val r4.la) := by rw [hla4]; exact own_low hV4 bs
            have HLA : Hid (r4.la = s) := hla4
            clear RD ho hLo hbr hV4 hla4
            go_wp2_with fail
            refine (CP.out _ hb4).mono ?_
            rintro e' w5 ⟨rfl, hw5⟩
            obtain rfl : w4 = w5 := hw5.symm
            clear CP hb4
            by_cases hCm2 : C = m
            · obtain rfl : m = C := hCm2.symm
              go_wp2_with fail
              refine wp_region_noPanic ?_
              refine wp_region_held_drew (S := fun _ => True) (by kernel_rfl) (trivial) (fun hH0 => ?_)
              refine take_at (i := 0) (v := u5) rfl rfl (by kernel_rfl) (by kernel_rfl) (by kernel_rfl) (fun _ _ _ h => h) (Or.inl ⟨by rfl, ?_⟩) hH0 ?_
              · intro w hSw; (try dsimp only at hSw); go_simp
              simp only [List.setIfInBounds_toArray, List.set_cons_zero, List.set_cons_succ]
              refine take_at (i := 1) (v := .slice r4.p r4.la.length r4.c) rfl rfl (by kernel_rfl) (by kernel_rfl) (by kernel_rfl) (fun _ _ _ h => h) (Or.inl ⟨by rfl, ?_⟩) hH0 ?_
              · intro w hSw; (try dsimp only at hSw); go_simp
              simp only [List.setIfInBounds_toArray, List.set_cons_zero, List.set_cons_succ]
              refine take_at (i := 4) (v := .slice (some ⟨gr, orr, none⟩) rest.length m) rfl rfl (by kernel_rfl) (by kernel_rfl) (by kernel_rfl) (fun _ _ _ h => h) (Or.inl ⟨by rfl, ?_⟩) hH0 ?_
              · intro w hSw; (try dsimp only at hSw); go_simp
              simp only [List.setIfInBounds_toArray, List.set_cons_zero, List.set_cons_succ]
              refine take_at (i := 5) (v := .int .i64 m) rfl rfl (by kernel_rfl) (by kernel_rfl) (by kernel_rfl) (fun _ _ _ h => h) (Or.inl ⟨by rfl, ?_⟩) hH0 ?_
              · intro w hSw; (try dsimp only at hSw); go_simp
              simp only [List.setIfInBounds_toArray, List.set_cons_zero, List.set_cons_succ]
              refine take_at (i := 6) (v := .slice (some ⟨gr, orr, none⟩) m m) rfl rfl (by kernel_rfl) (by kernel_rfl) (by kernel_rfl) (fun _ _ _ h => h) (Or.inl ⟨by rfl, ?_⟩) hH0 ?_
              · intro w hSw; (try dsimp only at hSw); go_simp
              simp only [List.setIfInBounds_toArray, List.set_cons_zero, List.set_cons_succ]
              refine take_at (i := 7) (v := .slice (some ⟨gr, orr, none⟩) rest.length m) rfl rfl (by kernel_rfl) (by kernel_rfl) (by kernel_rfl) (fun _ _ _ h => h) (Or.inl ⟨by rfl, ?_⟩) hH0 ?_
              · intro w hSw; (try dsimp only at hSw); go_simp
              simp only [List.setIfInBounds_toArray, List.set_cons_zero, List.set_cons_succ]
              refine take_at (i := 8) (v := .int .i64 m) rfl rfl (by kernel_rfl) (by kernel_rfl) (by kernel_rfl) (fun _ _ _ h => h) (Or.inl ⟨by rfl, ?_⟩) hH0 ?_
              · intro w hSw; (try dsimp only at hSw); go_simp
              simp only [List.setIfInBounds_toArray, List.set_cons_zero, List.set_cons_succ]
              refine take_at (i := 9) (v := .slice (some ⟨gr, orr, none⟩) (rest.length - m) 0) rfl rfl (by kernel_rfl) (by kernel_rfl) (by kernel_rfl) (fun _ _ _ h => h) (Or.inl ⟨by rfl, ?_⟩) hH0 ?_
              · intro w hSw; (try dsimp only at hSw); go_simp
              simp only [List.setIfInBounds_toArray, List.set_cons_zero, List.set_cons_succ]
              refine wpAnyH_ready (rs := [2]) (by kernel_rfl) (by simp) ?_
              refine AllReadyH.cons rfl (fun K hK => ?_) AllReadyH.nil
              go_simp
              refine hK.out _ _ trivial (fun hH1 => ?_)
              clear hK K
              have W5 : Below w4.heap.size w4 (w4.drew.alloc (.cells #[r4.val] 30)) := (below_drewN (Below.refl _ w4) 1).alloc (by exact Nat.le_refl _) _
              have y5 : (w4.drew.alloc (.cells #[r4.val] 30)).cell? ⟨w4.heap.size, 0, none⟩ = some r4.val := by
                have e : w4.heap.size = w4.drew.heap.size := rfl
                rw [e]; simp only [World.cell?, heap_alloc_new]; simp
              refine wpAnyH_ready (rs := [3]) (by kernel_rfl) (by simp) ?_
              refine AllReadyH.cons rfl (fun K hK => ?_) AllReadyH.nil
              refine step_app_r rfl (.tmp 57) (.tmp 59) rfl w.heap.size u5 L r4 w4.heap.size rfl (own_below o4.out W5) rfl y5 (by omega) (Nat.le_trans s4 W5.size) ?_
              intro v6 w6 ho6 hg6
              refine hK.out _ _ trivial (fun hH2 => ?_)
              clear hK K
              simp only [Act.put, List.setIfInBounds_toArray]
              refine take_at (i := 10) (v := v6) rfl rfl (by kernel_rfl) (by kernel_rfl) (by kernel_rfl) (fun _ _ _ h => h) (Or.inl ⟨by rfl, ?_⟩) hH2 ?_
              · intro w hSw; (try dsimp only at hSw); go_simp
              simp only [List.setIfInBounds_toArray, List.set_cons_zero, List.set_cons_succ]
              refine take_at (i := 11) (v := .slice (some ⟨gr, orr, none⟩) m m) rfl rfl (by kernel_rfl) (by kernel_rfl) (by kernel_rfl) (fun _ _ _ h => h) (Or.inl ⟨by rfl, ?_⟩) hH2 ?_
              · intro w hSw; (try dsimp only at hSw); go_simp
              simp only [List.setIfInBounds_toArray, List.set_cons_zero, List.set_cons_succ]
              refine take_at (i := 12) (v := .slice (some ⟨gr, orr, none⟩) (rest.length - m) 0) rfl rfl (by kernel_rfl) (by kernel_rfl) (by kernel_rfl) (fun _ _ _ h => h) (Or.inl ⟨by rfl, ?_⟩) hH2 ?_
              · intro w hSw; (try dsimp only at hSw); go_simp
              simp only [List.setIfInBounds_toArray, List.set_cons_zero]
              refine wpAnyH_done (by kernel_rfl) ?_ _
              refine NoPanic.normal ?_
              have o5 := own_below o4.out W5
              have B6 : Below w.heap.size w w6 := B4.trans ((W5.mono s4).trans (grown_below hg6 (Nat.le_trans s4 W5.size) (fun g h => (World.ownsRow.lt o5 g h).1)))
              have L6 : Hid (∀ r ∈ L ++ [r4], ownsV w6 w.heap.size r.val r.la) := fun r h => by
                rcases List.mem_append.1 h with h | h
                · exact ownsV.grownW (own_below (L4.out r h) W5) o5 hg6
                · simp at h; subst h; exact ownsV.grownW (own_below N4.out W5) o5 hg6
              have hd3 : Hid (E = rdBs (N - (k + 1)) ((L ++ [r4]).map (·.la)) (rest.take m) (rest.drop m)) := by
                show _ = _
                rw [List.map_append, List.map_cons, List.map_nil, HLA.out]; exact hd2.out
              clear o4 L4 N4 W5 y5 hg6 o5 hd2
              go_wp2_with fail
              go_roundw
              case rel =>
                refine ⟨k + 1, some ⟨gr, orr, none⟩, 0, rest.drop m, ⟨some ⟨gr, orr, none⟩, m, rest.take m⟩, L ++ [r4], ?_, ?_, by go_num, hlt, by simp [hLk], ?_, by omega, ?_, hd3, ?_, hPr.out.upto m, ho6, L6, B6⟩
                · rw [List.length_drop]
                · simp only [List.length_take, Nat.min_eq_left hm2]
                · rw [List.length_drop]; omega
                · rw [List.length_drop]; omega
                · exact Or.inl (List.drop_eq_nil_of_le (by omega))
              case measure => simp [intOf]; omega
            · go_wp2_with fail
              refine wp_region_noPanic ?_
              refine wp_region_held_drew (S := fun _ => True) (by kernel_rfl) (trivial) (fun hH0 => ?_)
              refine take_at (i := 0) (v := u5) rfl rfl (by kernel_rfl) (by kernel_rfl) (by kernel_rfl) (fun _ _ _ h => h) (Or.inl ⟨by rfl, ?_⟩) hH0 ?_
              · intro w hSw; (try dsimp only at hSw); go_simp
              simp only [List.setIfInBounds_toArray, List.set_cons_zero, List.set_cons_succ]
              refine take_at (i := 1) (v := .slice r4.p r4.la.length r4.c) rfl rfl (by kernel_rfl) (by kernel_rfl) (by kernel_rfl) (fun _ _ _ h => h) (Or.inl ⟨by rfl, ?_⟩) hH0 ?_
              · intro w hSw; (try dsimp only at hSw); go_simp
              simp only [List.setIfInBounds_toArray, List.set_cons_zero, List.set_cons_succ]
              refine take_at (i := 4) (v := .slice (some ⟨gr, orr, none⟩) rest.length C) rfl rfl (by kernel_rfl) (by kernel_rfl) (by kernel_rfl) (fun _ _ _ h => h) (Or.inl ⟨by rfl, ?_⟩) hH0 ?_
              · intro w hSw; (try dsimp only at hSw); go_simp
              simp only [List.setIfInBounds_toArray, List.set_cons_zero, List.set_cons_succ]
              refine take_at (i := 5) (v := .int .i64 m) rfl rfl (by kernel_rfl) (by kernel_rfl) (by kernel_rfl) (fun _ _ _ h => h) (Or.inl ⟨by rfl, ?_⟩) hH0 ?_
              · intro w hSw; (try dsimp only at hSw); go_simp
              simp only [List.setIfInBounds_toArray, List.set_cons_zero, List.set_cons_succ]
              refine take_at (i := 6) (v := .slice (some ⟨gr, orr, none⟩) m C) rfl rfl (by kernel_rfl) (by kernel_rfl) (by kernel_rfl) (fun _ _ _ h => h) (Or.inl ⟨by rfl, ?_⟩) hH0 ?_
              · intro w hSw; (try dsimp only at hSw); go_simp
              simp only [List.setIfInBounds_toArray, List.set_cons_zero, List.set_cons_succ]
              refine take_at (i := 7) (v := .slice (some ⟨gr, orr, none⟩) rest.length C) rfl rfl (by kernel_rfl) (by kernel_rfl) (by kernel_rfl) (fun _ _ _ h => h) (Or.inl ⟨by rfl, ?_⟩) hH0 ?_
              · intro w hSw; (try dsimp only at hSw); go_simp
              simp only [List.setIfInBounds_toArray, List.set_cons_zero, List.set_cons_succ]
              refine take_at (i := 8) (v := .int .i64 m) rfl rfl (by kernel_rfl) (by kernel_rfl) (by kernel_rfl) (fun _ _ _ h => h) (Or.inl ⟨by rfl, ?_⟩) hH0 ?_
              · intro w hSw; (try dsimp only at hSw); go_simp
              simp only [List.setIfInBounds_toArray, List.set_cons_zero, List.set_cons_succ]
              refine take_at (i := 9) (v := .slice (some ⟨gr, orr + m, none⟩) (rest.length - m) (C - m)) rfl rfl (by kernel_rfl) (by kernel_rfl) (by kernel_rfl) (fun _ _ _ h => h) (Or.inl ⟨by rfl, ?_⟩) hH0 ?_
              · intro w hSw; (try dsimp only at hSw); go_simp
              simp only [List.setIfInBounds_toArray, List.set_cons_zero, List.set_cons_succ]
              refine wpAnyH_ready (rs := [2]) (by kernel_rfl) (by simp) ?_
              refine AllReadyH.cons rfl (fun K hK => ?_) AllReadyH.nil
              go_simp
              refine hK.out _ _ trivial (fun hH1 => ?_)
              clear hK K
              have W5 : Below w4.heap.size w4 (w4.drew.alloc (.cells #[r4.val] 30)) := (below_drewN (Below.refl _ w4) 1).alloc (by exact Nat.le_refl _) _
              have y5 : (w4.drew.alloc (.cells #[r4.val] 30)).cell? ⟨w4.heap.size, 0, none⟩ = some r4.val := by
                have e : w4.heap.size = w4.drew.heap.size := rfl
                rw [e]; simp only [World.cell?, heap_alloc_new]; simp
              refine wpAnyH_ready (rs := [3]) (by kernel_rfl) (by simp) ?_
              refine AllReadyH.cons rfl (fun K hK => ?_) AllReadyH.nil
              refine step_app_r rfl (.tmp 57) (.tmp 59) rfl w.heap.size u5 L r4 w4.heap.size rfl (own_below o4.out W5) rfl y5 (by omega) (Nat.le_trans s4 W5.size) ?_
              intro v6 w6 ho6 hg6
              refine hK.out _ _ trivial (fun hH2 => ?_)
              clear hK K
              simp only [Act.put, List.setIfInBounds_toArray]
              refine take_at (i := 10) (v := v6) rfl rfl (by kernel_rfl) (by kernel_rfl) (by kernel_rfl) (fun _ _ _ h => h) (Or.inl ⟨by rfl, ?_⟩) hH2 ?_
              · intro w hSw; (try dsimp only at hSw); go_simp
              simp only [List.setIfInBounds_toArray, List.set_cons_zero, List.set_cons_succ]
              refine take_at (i := 11) (v := .slice (some ⟨gr, orr, none⟩) m C) rfl rfl (by kernel_rfl) (by kernel_rfl) (by kernel_rfl) (fun _ _ _ h => h) (Or.inl ⟨by rfl, ?_⟩) hH2 ?_
              · intro w hSw; (try dsimp only at hSw); go_simp
              simp only [List.setIfInBounds_toArray, List.set_cons_zero, List.set_cons_succ]
              refine take_at (i := 12) (v := .slice (some ⟨gr, orr + m, none⟩) (rest.length - m) (C - m)) rfl rfl (by kernel_rfl) (by kernel_rfl) (by kernel_rfl) (fun _ _ _ h => h) (Or.inl ⟨by rfl, ?_⟩) hH2 ?_
              · intro w hSw; (try dsimp only at hSw); go_simp
              simp only [List.setIfInBounds_toArray, List.set_cons_zero]
              refine wpAnyH_done (by kernel_rfl) ?_ _
              refine NoPanic.normal ?_
              have o5 := own_below o4.out W5
              have B6 : Below w.heap.size w w6 := B4.trans ((W5.mono s4).trans (grown_below hg6 (Nat.le_trans s4 W5.size) (fun g h => (World.ownsRow.lt o5 g h).1)))
              have L6 : Hid (∀ r ∈ L ++ [r4], ownsV w6 w.heap.size r.val r.la) := fun r h => by
                rcases List.mem_append.1 h with h | h
                · exact ownsV.grownW (own_below (L4.out r h) W5) o5 hg6
                · simp at h; subst h; exact ownsV.grownW (own_below N4.out W5) o5 hg6
              have hd3 : Hid (E = rdBs (N - (k + 1)) ((L ++ [r4]).map (·.la)) (rest.take m) (rest.drop m)) := by
                show _ = _
                rw [List.map_append, List.map_cons, List.map_nil, HLA.out]; exact hd2.out
              clear o4 L4 N4 W5 y5 hg6 o5 hd2
              go_wp2_with fail
              go_roundw
              case rel =>
                refine ⟨k + 1, some ⟨gr, orr + m, none⟩, C - m, rest.drop m, ⟨some ⟨gr, orr, none⟩, C, rest.take m⟩, L ++ [r4], ?_, ?_, by go_num, hlt, by simp [hLk], ?_, by omega, ?_, hd3, ?_, hPr.out.upto m, ho6, L6, B6⟩
                · rw [List.length_drop]
                · simp only [List.length_take, Nat.min_eq_left hm2]
                · rw [List.length_drop]; omega
                · rw [List.length_drop]; omega
                · exact hPr.out.from m
              case measure => simp [intOf]; omega
          · have hle : leB A.l (rest.take m) = false := by simpa using hle
            have hd2 : E = .error 20 := by rw [hd1]; simp only [hle, Bool.false_eq_true, if_false]
            subst hd2
            have hz : Lib.compareBytes (rest.take m) A.l < 0 := by rw [leB_cmp]; exact hle
            generalize Lib.compareBytes (rest.take m) A.l = z at CP hz
            clear hd hd1 hq hle hsok hm3
            go_wp2_with fail
            refine RD.out.mono ?_
            rintro e' w4 ⟨v4, rfl, hb4, _, _⟩
            have B4 := hbr.out.trans (hb4.mono bs)
            clear RD
            go_wp2_with fail
            refine (CP.out _ hb4).mono ?_
            rintro e' w5 ⟨rfl, hw5⟩
            obtain rfl : w4 = w5 := hw5.symm
            clear CP
            go_wp2_with fail
            refine bodyPost_ret (v := .tuple #[.slice none 0 0, .int .i64 20]) (by simp [results, Tryd.results15, go_sem]) rfl (by first | exact ⟨_, rfl, B4, (by intro s h; cases h), fun _ _ => rfl⟩ | exact ⟨_, rfl, B4, by simp⟩ | exact ⟨_, B4⟩ | exact B4)
      · have hk0 : k = N := by omega
        subst hk0
        have hd1 := hd.out
        rw [Nat.sub_self, rdBs] at hd1
        have hB := hbr.out
        by_cases hr0 : rest = []
        · have hd2 : E = .ok (L.map (·.la)) := by rw [hd1, if_pos hr0]
          subst hd2
          subst hr0
          have O5 : Hid (ownsW wr w.heap.size u5 L) := ho.out
          clear hd hd1 ho
          go_wp2_with fail
          refine bodyPost_ret (v := .tuple #[u5, .int .i64 0]) (by simp [results, Tryd.results15, go_sem]) rfl (⟨_, rfl, hB, (by intro s h; cases h; exact ⟨L, O5.out, rfl, hLo.out⟩), (by intro x h; cases h)⟩)
        · have hd2 : E = .error 5 := by rw [hd1, if_neg hr0]
          subst hd2
          have hrp : (0 : Int) < (rest.length : Int) := by have := List.length_pos_iff.2 hr0; omega
          clear hd hd1 ho
          go_wp2_with fail
          refine bodyPost_ret (v := .tuple #[.slice none 0 0, .int .i64 5]) (by simp [results, Tryd.results15, go_sem]) rfl (by first | exact ⟨_, rfl, hB, (by intro s h; cases h), fun _ _ => rfl⟩ | exact ⟨_, rfl, hB, by simp⟩ | exact ⟨_, hB⟩ | exact hB)
end Go.Proofs.YtedacccedbchaaaDoor
