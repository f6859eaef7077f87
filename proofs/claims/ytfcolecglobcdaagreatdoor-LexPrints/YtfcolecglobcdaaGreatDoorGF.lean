/-
  The walk of lockstepref03.Print.
-/
import Derived.Test.YtfcolecglobcdaaGreatDoorLrGx
import Derived.OwnWalk
namespace Go.Proofs.YtfcolecglobcdaaGreatDoor
open Go.RowKit Go.Shelf

theorem str_by8 (l : List UInt8) : Lib.strCells ⟨l.toArray⟩ = by8 l := by
  unfold Lib.strCells by8
  simp
theorem app_s {ops : Array Oper} {rest : List Oper} {o : Oper} {a : Act} {w : World} {Q : Exit → Act → World → Prop} (hgd : o.guard = none) (s x : Operand)
    (ho : o.op = .call { callee := .builtin .append, args := #[s, x], argTypes := #[40, 9] })
    (base : Nat) (v : Value) (l news : List UInt8) (hs : a.eval s = v) (hown : ownsB w base v l)
    (hx : a.eval x = .string ⟨news.toArray⟩) (hl : l.length + news.length ≤ 20000000000) (hb : base ≤ w.heap.size)
    (h : ∀ v' w', ownsB w' base v' (l ++ news) → Below base w w' → base ≤ w'.heap.size → wpList Tryz.prog ops Q rest (a.put o.dst v') w') :
    wpList Tryz.prog ops Q (o :: rest) a w := by
  obtain ⟨i0, hi, hz0, hz1, hz2⟩ := info_parts u8Info
  have hz : (ByteArray.mk news.toArray).size = news.length := size_mk news
  refine Lib.wpList_append_own_string w hgd s x 40 9 ho base 5 i0 u8Slice strT hi hz0 hz1 hz2 v l.length (by8 l) hs hown ⟨news.toArray⟩ hx (by unfold maxLen; rw [hz]; omega) (by rw [hz]; omega) hb ?_
  intro v' w' h1 h2 _
  have e : ownsB w' base v' (l ++ news) := by
    show w'.ownsRow _ _ _ _ _ _
    rw [by8_app, List.length_append, ← str_by8 news]
    rw [hz] at h1
    exact h1
  have hb2 : Below base w w' := below_own h2 hb (own_ge hown)
  exact h v' w' e hb2 (Nat.le_trans hb hb2.size)
theorem own_none (W : World) : ownsB (W.alloc (.cells #[] 5)) W.heap.size (.slice (some ⟨W.heap.size, 0, none⟩) 0 0) [] :=
  ⟨rfl, Or.inr ⟨W.heap.size, 0, #[], rfl, Nat.le_refl _, heap_alloc_new W _, Nat.le_refl _, by unfold maxLen; omega, rfl, rfl⟩⟩
theorem jn_take {L : List Ti} {k : Nat} {t : Ti} (ht : L[k]? = some t) : jn ((L.take (k + 1)).map pnT) = (if k = 0 then [] else jn ((L.take k).map pnT) ++ [32]) ++ pnT t := by
  have hl := (List.getElem?_eq_some_iff.1 ht).1
  rw [List.take_add_one, ht, List.map_append]
  show jn (_ ++ [pnT t]) = _
  rw [jn_snoc]
  have : ((L.take k).map pnT = []) = (k = 0) := by
    apply propext
    rw [List.map_eq_nil_iff, List.take_eq_nil_iff]
    constructor
    · rintro (h | h)
      · exact h
      · rw [h] at hl; simp at hl
    · exact Or.inl
  simp only [this]
set_option maxHeartbeats 2000000 in
set_option maxRecDepth 1000000 in
theorem refPrint_end (P : Option Addr) (C N N1 : Nat) (M L : List Ti) (S : List UInt8) (E : Int) (w : World) (hI : tokII w P L) (hN : M.length = N) (hL : L.length = N1) (hK : N1 ≤ 16384) (hZ : ∀ t ∈ L, Sz t ∧ t.text.length ≤ 3000000) (hE0 : M.all okT = false → S = [] ∧ E = 1) (hE1 : M.all okT = true → S = jn (M.map pnT) ∧ E = 0) (hP : Pw w) (hM : ∀ (k : Nat) (t : Ti), M[k]? = some t → L[k]? = some t) (hNN : N1 = N + 1) (he : ∃ t, L[N]? = some t ∧ t.kind = 6) :
    Calls Tryz.prog 16 #[.slice P N1 C] w fun e w' => e = .returned (.tuple #[.string ⟨S.toArray⟩, .int .i64 E]) ∧ Below w.heap.size w w' := by
  have HI : Hid (tokII w P L) := hI
  have HN : Hid (M.length = N) := hN
  have HL : Hid (L.length = N1) := hL
  have HK : Hid (N1 ≤ 16384) := hK
  have HZ : Hid (∀ t ∈ L, Sz t ∧ t.text.length ≤ 3000000) := hZ
  have HE0 : Hid (M.all okT = false → S = [] ∧ E = 1) := hE0
  have HE1 : Hid (M.all okT = true → S = jn (M.map pnT) ∧ E = 0) := hE1
  have HP : Hid (Pw w) := hP
  have hKi : (N1 : Int) ≤ 16384 := by omega
  have ON : Hid (ownsB (w.alloc (.cells #[] 5)) w.heap.size (.slice (some ⟨w.heap.size, 0, none⟩) 0 0) []) := own_none w
  have BN : Hid (Below w.heap.size w (w.alloc (.cells #[] 5))) := (Below.refl _ w).alloc (Nat.le_refl _) _
  clear hI hN hL hZ hE0 hE1 hP
  have HM : Hid (∀ (k : Nat) (t : Ti), M[k]? = some t → L[k]? = some t) := hM
  have HNN : Hid (N ≤ N1) := by show N ≤ N1; omega
  have HLast : Hid (∀ (k : Nat) (t : Ti), M[k]? = some t → t.kind = 6 → k + 1 ≠ N1) := fun k t ht _ => by
    have := (List.getElem?_eq_some_iff.1 ht).1
    rw [HN.out] at this
    omega
  have hN1 : (N1 : Int) = (N : Int) + 1 := by omega
  have HEN : Hid (∃ t, L[N]? = some t ∧ t.kind = 6) := he
  clear hM he hNN
  go_enter Tryz.func16, Tryz.ntmps16
  go_wp2_with fail
  go_loopw [4, 5] (fun s4 s5 wr => ∃ (k : Nat), s5 = .int .i64 k ∧ k ≤ N ∧ Hid ((M.take k).all okT = true) ∧ Hid (ownsB wr w.heap.size s4 (jn ((M.take k).map pnT))) ∧ Hid (Below w.heap.size w wr)) (fun _ s5 _ => N + 1 - (intOf s5).toNat)
  case atStart => exact ⟨0, rfl, Nat.zero_le _, rfl, ON, BN⟩
  case round =>
    obtain ⟨k, rfl, hk, hok, ho, hbr⟩ := hrel
    clear ON BN
    by_cases hlt : k < N
    · have HJ0 : Hid (k = 0 → jn ((M.take k).map pnT) = []) := fun h => by rw [h]; rfl
      obtain ⟨t, ht⟩ : ∃ t, M[k]? = some t := ⟨M[k]'(by rw [HN.out]; exact hlt), List.getElem?_eq_getElem _⟩
      have htL : L[k]? = some t := HM.out k t ht
      obtain ⟨g, o, rfl, hx⟩ := (HI.out.below hbr.out).at htL
      have hx := hx k t htL
      obtain ⟨a0, a1, a2, a3, a4, a5, a6, a7⟩ := hx
      have hz := HZ.out t (List.mem_of_getElem? htL)
      have OP : Hid (∀ w, Pw w → Calls Tryz.prog 35 #[.agg #[.int .i64 t.kind, .string ⟨t.text.toArray⟩, .int .i64 t.v.ty, .int .i64 t.v.n, .string t.v.s, .int .i64 t.pos, .int .i64 t.line, .int .i64 t.col]] w (oneP t w.heap.size w)) := fun w h => one_any t w hz.1 hz.2 h
      unfold oneP oneQ at OP
      have hlti : (k : Int) < (N1 : Int) := by have := HNN.out; omega
      have HT : Hid (M[k]? = some t) := ht
      have H6 : Hid (t.kind = 6 → k + 1 ≠ N1) := HLast.out k t ht
      clear ht htL
      by_cases hq : okT t = true
      · have k6 : (t.kind == 6) = false := by
          rw [beq_eq_false_iff_ne]; intro e
          unfold okT at hq
          rw [e] at hq
          simp at hq
        have HOK : Hid ((M.take (k + 1)).all okT = true) := all_more hok.out HT.out hq
        have hpl := pnT_len hz.1.n hq
        have HJ : Hid (jn ((M.take (k + 1)).map pnT) = (if k = 0 then [] else jn ((M.take k).map pnT) ++ [32]) ++ pnT t) := jn_take HT.out
        have hjl : (jn ((M.take k).map pnT)).length ≤ 8195 * 16384 := by
          have h1 := jn_len ((M.take k).map pnT) (fun q hq => by
            obtain ⟨y, hy, rfl⟩ := List.mem_map.1 hq
            have hyM := List.mem_of_mem_take hy
            obtain ⟨j, hj⟩ := List.getElem?_of_mem hyM
            exact pnT_len (HZ.out y (List.mem_of_getElem? (HM.out j y hj))).1.n (List.all_eq_true.1 hok.out y hy))
          rw [List.length_map, List.length_take, HN.out] at h1
          have := HNN.out
          have := HK.out
          omega
        generalize jn ((M.take k).map pnT) = J0 at *
        generalize pnT t = U at *
        clear hz hok HT H6
        by_cases hk0 : k = 0
        · subst hk0
          simp only [Nat.zero_mul, Nat.add_zero] at a0 a1 a2 a3 a4 a5 a6 a7
          have hJ : Hid (jn ((M.take (0 + 1)).map pnT) = U ∧ J0 = []) := ⟨by rw [HJ.out]; rfl, HJ0.out rfl⟩
          go_wp2_with fail
          refine (OP.out _ (HP.out.below hbr.out)).mono ?_
          rintro e w2 ⟨u, rfl, hu, hb2⟩
          have B2 : Below w.heap.size w w2 := hbr.out.trans (hb2.mono hbr.out.size)
          rw [hq] at hu ⊢
          have hu := hu (by trivial)
          subst hu
          have ho2 := (ho.out).below hb2
          have sb := B2.size
          have HB2 : Hid (Below w.heap.size w w2) := B2
          clear OP ho hbr B2 hb2
          rw [hJ.out.2] at ho2
          clear HJ
          go_wp2_with (at_builtin; refine app_s rfl (.tmp 46) (.tmp 47) rfl w.heap.size _ [] U rfl ho2 rfl (by simp; omega) sb ?_; intro v3 w3 ho3 hb3 hs3)
          rw [List.nil_append] at ho3
          have HO3 : Hid (ownsB w3 w.heap.size v3 (jn ((M.take (0 + 1)).map pnT))) := by show ownsB _ _ _ _; rw [hJ.out.1]; exact ho3
          have B3 := HB2.out.trans hb3
          go_roundw
          case rel => exact ⟨1, by go_num, by omega, HOK, HO3, B3⟩
          case measure => simp [intOf] <;> omega
        · have hk0i : (0 : Int) < (k : Int) := by omega
          have hJ : Hid (jn ((M.take (k + 1)).map pnT) = J0 ++ [32] ++ U) := by show _ = _; rw [HJ.out, if_neg hk0]
          clear HJ
          go_wp2_with fail
          refine (OP.out _ (HP.out.below hbr.out)).mono ?_
          rintro e w2 ⟨u, rfl, hu, hb2⟩
          have B2 : Below w.heap.size w w2 := hbr.out.trans (hb2.mono hbr.out.size)
          rw [hq] at hu ⊢
          have hu := hu (by trivial)
          subst hu
          have ho2 := (ho.out).below hb2
          have sb := B2.size
          have HB2 : Hid (Below w.heap.size w w2) := B2
          clear OP ho hbr B2 hb2
          go_wp2_with (at_builtin; first | (refine app_b rfl (.tmp 43) (.tmp 44) rfl w.heap.size _ J0 [32] _ rfl ho2 rfl rfl (by simp only [List.length_cons, List.length_nil]; omega) sb ?_; intro v3 w3 ho3 hb3 hs3) | (refine app_s rfl (.tmp 46) (.tmp 47) rfl w.heap.size _ (J0 ++ [32]) U rfl ho3 rfl (by simp only [List.length_append, List.length_cons, List.length_nil]; omega) hs3 ?_; intro v4 w4 ho4 hb4 hs4))
          have HO4 : Hid (ownsB w4 w.heap.size v4 (jn ((M.take (k + 1)).map pnT))) := by show ownsB _ _ _ _; rw [hJ.out]; exact ho4
          have B4 := (HB2.out.trans hb3).trans hb4
          go_roundw
          case rel => exact ⟨k + 1, by go_num, by omega, HOK, HO4, B4⟩
          case measure => simp [intOf] <;> omega
      · have hq : okT t = false := by simpa using hq
        obtain ⟨rfl, rfl⟩ := HE0.out (all_not HT.out hq)
        clear hz ho hok
        by_cases h6 : t.kind = 6
        · have k6 : (t.kind == 6) = true := by rw [h6]; rfl
          have hn1 : ((k : Int) + 1 == (N1 : Int)) = false := by rw [beq_eq_false_iff_ne]; have := H6.out h6; omega
          clear h6
          go_wp2_with fail
          refine (OP.out _ (HP.out.below hbr.out)).mono ?_
          rintro e w2 ⟨u, rfl, hu, hb2⟩
          have B2 : Below w.heap.size w w2 := hbr.out.trans (hb2.mono hbr.out.size)
          rw [hq] at hu ⊢
          clear hu OP
          go_wp2_with fail
          go_ret2
          exact ⟨rfl, B2⟩
        · have k6 : (t.kind == 6) = false := by rw [beq_eq_false_iff_ne]; exact h6
          clear h6
          go_wp2_with fail
          refine (OP.out _ (HP.out.below hbr.out)).mono ?_
          rintro e w2 ⟨u, rfl, hu, hb2⟩
          have B2 : Below w.heap.size w w2 := hbr.out.trans (hb2.mono hbr.out.size)
          rw [hq] at hu ⊢
          clear hu OP
          go_wp2_with fail
          go_ret2
          exact ⟨rfl, B2⟩
    · have hkN : k = N := by omega
      subst hkN
      obtain ⟨t, htL, h6⟩ := HEN.out
      obtain ⟨g, o, rfl, hx⟩ := (HI.out.below hbr.out).at htL
      have a0 := (hx k t htL).c0
      rw [h6] at a0
      have hlti : (k : Int) < (N1 : Int) := by omega
      have hn1 : ((k : Int) + 1 == (N1 : Int)) = true := by rw [beq_iff_eq]; omega
      have hall : M.all okT = true := by
        have := hok.out
        rw [List.take_of_length_le (by rw [HN.out]; omega)] at this
        exact this
      obtain ⟨hS, rfl⟩ := HE1.out hall
      have ho2 := ho.out
      rw [List.take_of_length_le (by rw [HN.out]; omega)] at ho2
      rw [← hS] at ho2
      have cv := conv_own ho2
      have B2 := hbr.out
      clear hS
      clear hx htL h6 hok ho hbr hall HI HEN HE0 HE1 HZ HM HLast ho2 hN1
      go_wp2_with fail
      go_ret2
      exact ⟨rfl, B2⟩
set_option maxHeartbeats 2000000 in
set_option maxRecDepth 1000000 in
theorem refPrint_all (P : Option Addr) (C N N1 : Nat) (M L : List Ti) (S : List UInt8) (E : Int) (w : World) (hI : tokII w P L) (hN : M.length = N) (hL : L.length = N1) (hK : N1 ≤ 16384) (hZ : ∀ t ∈ L, Sz t ∧ t.text.length ≤ 3000000) (hE0 : M.all okT = false → S = [] ∧ E = 1) (hE1 : M.all okT = true → S = jn (M.map pnT) ∧ E = 0) (hP : Pw w) (hNN : N1 = N) (hML : M = L) (he : ∀ t, L[N - 1]? = some t → t.kind ≠ 6) :
    Calls Tryz.prog 16 #[.slice P N1 C] w fun e w' => e = .returned (.tuple #[.string ⟨S.toArray⟩, .int .i64 E]) ∧ Below w.heap.size w w' := by
  have HI : Hid (tokII w P L) := hI
  have HN : Hid (M.length = N) := hN
  have HL : Hid (L.length = N1) := hL
  have HK : Hid (N1 ≤ 16384) := hK
  have HZ : Hid (∀ t ∈ L, Sz t ∧ t.text.length ≤ 3000000) := hZ
  have HE0 : Hid (M.all okT = false → S = [] ∧ E = 1) := hE0
  have HE1 : Hid (M.all okT = true → S = jn (M.map pnT) ∧ E = 0) := hE1
  have HP : Hid (Pw w) := hP
  have hKi : (N1 : Int) ≤ 16384 := by omega
  have ON : Hid (ownsB (w.alloc (.cells #[] 5)) w.heap.size (.slice (some ⟨w.heap.size, 0, none⟩) 0 0) []) := own_none w
  have BN : Hid (Below w.heap.size w (w.alloc (.cells #[] 5))) := (Below.refl _ w).alloc (Nat.le_refl _) _
  clear hI hN hL hZ hE0 hE1 hP
  have HM : Hid (∀ (k : Nat) (t : Ti), M[k]? = some t → L[k]? = some t) := fun k t h => by rw [← hML]; exact h
  have HNN : Hid (N ≤ N1) := by show N ≤ N1; omega
  have HLast : Hid (∀ (k : Nat) (t : Ti), M[k]? = some t → t.kind = 6 → k + 1 ≠ N1) := fun k t ht h6 e => by
    rw [hML] at ht
    exact he t (by rw [show N - 1 = k by omega]; exact ht) h6
  clear he hML
  subst hNN
  go_enter Tryz.func16, Tryz.ntmps16
  go_wp2_with fail
  go_loopw [4, 5] (fun s4 s5 wr => ∃ (k : Nat), s5 = .int .i64 k ∧ k ≤ N1 ∧ Hid ((M.take k).all okT = true) ∧ Hid (ownsB wr w.heap.size s4 (jn ((M.take k).map pnT))) ∧ Hid (Below w.heap.size w wr)) (fun _ s5 _ => N1 + 1 - (intOf s5).toNat)
  case atStart => exact ⟨0, rfl, Nat.zero_le _, rfl, ON, BN⟩
  case round =>
    obtain ⟨k, rfl, hk, hok, ho, hbr⟩ := hrel
    clear ON BN
    by_cases hlt : k < N1
    · have HJ0 : Hid (k = 0 → jn ((M.take k).map pnT) = []) := fun h => by rw [h]; rfl
      obtain ⟨t, ht⟩ : ∃ t, M[k]? = some t := ⟨M[k]'(by rw [HN.out]; exact hlt), List.getElem?_eq_getElem _⟩
      have htL : L[k]? = some t := HM.out k t ht
      obtain ⟨g, o, rfl, hx⟩ := (HI.out.below hbr.out).at htL
      have hx := hx k t htL
      obtain ⟨a0, a1, a2, a3, a4, a5, a6, a7⟩ := hx
      have hz := HZ.out t (List.mem_of_getElem? htL)
      have OP : Hid (∀ w, Pw w → Calls Tryz.prog 35 #[.agg #[.int .i64 t.kind, .string ⟨t.text.toArray⟩, .int .i64 t.v.ty, .int .i64 t.v.n, .string t.v.s, .int .i64 t.pos, .int .i64 t.line, .int .i64 t.col]] w (oneP t w.heap.size w)) := fun w h => one_any t w hz.1 hz.2 h
      unfold oneP oneQ at OP
      have hlti : (k : Int) < (N1 : Int) := by have := HNN.out; omega
      have HT : Hid (M[k]? = some t) := ht
      have H6 : Hid (t.kind = 6 → k + 1 ≠ N1) := HLast.out k t ht
      clear ht htL
      by_cases hq : okT t = true
      · have k6 : (t.kind == 6) = false := by
          rw [beq_eq_false_iff_ne]; intro e
          unfold okT at hq
          rw [e] at hq
          simp at hq
        have HOK : Hid ((M.take (k + 1)).all okT = true) := all_more hok.out HT.out hq
        have hpl := pnT_len hz.1.n hq
        have HJ : Hid (jn ((M.take (k + 1)).map pnT) = (if k = 0 then [] else jn ((M.take k).map pnT) ++ [32]) ++ pnT t) := jn_take HT.out
        have hjl : (jn ((M.take k).map pnT)).length ≤ 8195 * 16384 := by
          have h1 := jn_len ((M.take k).map pnT) (fun q hq => by
            obtain ⟨y, hy, rfl⟩ := List.mem_map.1 hq
            have hyM := List.mem_of_mem_take hy
            obtain ⟨j, hj⟩ := List.getElem?_of_mem hyM
            exact pnT_len (HZ.out y (List.mem_of_getElem? (HM.out j y hj))).1.n (List.all_eq_true.1 hok.out y hy))
          rw [List.length_map, List.length_take, HN.out] at h1
          have := HNN.out
          have := HK.out
          omega
        generalize jn ((M.take k).map pnT) = J0 at *
        generalize pnT t = U at *
        clear hz hok HT H6
        by_cases hk0 : k = 0
        · subst hk0
          simp only [Nat.zero_mul, Nat.add_zero] at a0 a1 a2 a3 a4 a5 a6 a7
          have hJ : Hid (jn ((M.take (0 + 1)).map pnT) = U ∧ J0 = []) := ⟨by rw [HJ.out]; rfl, HJ0.out rfl⟩
          go_wp2_with fail
          refine (OP.out _ (HP.out.below hbr.out)).mono ?_
          rintro e w2 ⟨u, rfl, hu, hb2⟩
          have B2 : Below w.heap.size w w2 := hbr.out.trans (hb2.mono hbr.out.size)
          rw [hq] at hu ⊢
          have hu := hu (by trivial)
          subst hu
          have ho2 := (ho.out).below hb2
          have sb := B2.size
          have HB2 : Hid (Below w.heap.size w w2) := B2
          clear OP ho hbr B2 hb2
          rw [hJ.out.2] at ho2
          clear HJ
          go_wp2_with (at_builtin; refine app_s rfl (.tmp 46) (.tmp 47) rfl w.heap.size _ [] U rfl ho2 rfl (by simp; omega) sb ?_; intro v3 w3 ho3 hb3 hs3)
          rw [List.nil_append] at ho3
          have HO3 : Hid (ownsB w3 w.heap.size v3 (jn ((M.take (0 + 1)).map pnT))) := by show ownsB _ _ _ _; rw [hJ.out.1]; exact ho3
          have B3 := HB2.out.trans hb3
          go_roundw
          case rel => exact ⟨1, by go_num, by omega, HOK, HO3, B3⟩
          case measure => simp [intOf] <;> omega
        · have hk0i : (0 : Int) < (k : Int) := by omega
          have hJ : Hid (jn ((M.take (k + 1)).map pnT) = J0 ++ [32] ++ U) := by show _ = _; rw [HJ.out, if_neg hk0]
          clear HJ
          go_wp2_with fail
          refine (OP.out _ (HP.out.below hbr.out)).mono ?_
          rintro e w2 ⟨u, rfl, hu, hb2⟩
          have B2 : Below w.heap.size w w2 := hbr.out.trans (hb2.mono hbr.out.size)
          rw [hq] at hu ⊢
          have hu := hu (by trivial)
          subst hu
          have ho2 := (ho.out).below hb2
          have sb := B2.size
          have HB2 : Hid (Below w.heap.size w w2) := B2
          clear OP ho hbr B2 hb2
          go_wp2_with (at_builtin; first | (refine app_b rfl (.tmp 43) (.tmp 44) rfl w.heap.size _ J0 [32] _ rfl ho2 rfl rfl (by simp only [List.length_cons, List.length_nil]; omega) sb ?_; intro v3 w3 ho3 hb3 hs3) | (refine app_s rfl (.tmp 46) (.tmp 47) rfl w.heap.size _ (J0 ++ [32]) U rfl ho3 rfl (by simp only [List.length_append, List.length_cons, List.length_nil]; omega) hs3 ?_; intro v4 w4 ho4 hb4 hs4))
          have HO4 : Hid (ownsB w4 w.heap.size v4 (jn ((M.take (k + 1)).map pnT))) := by show ownsB _ _ _ _; rw [hJ.out]; exact ho4
          have B4 := (HB2.out.trans hb3).trans hb4
          go_roundw
          case rel => exact ⟨k + 1, by go_num, by omega, HOK, HO4, B4⟩
          case measure => simp [intOf] <;> omega
      · have hq : okT t = false := by simpa using hq
        obtain ⟨rfl, rfl⟩ := HE0.out (all_not HT.out hq)
        clear hz ho hok
        by_cases h6 : t.kind = 6
        · have k6 : (t.kind == 6) = true := by rw [h6]; rfl
          have hn1 : ((k : Int) + 1 == (N1 : Int)) = false := by rw [beq_eq_false_iff_ne]; have := H6.out h6; omega
          clear h6
          go_wp2_with fail
          refine (OP.out _ (HP.out.below hbr.out)).mono ?_
          rintro e w2 ⟨u, rfl, hu, hb2⟩
          have B2 : Below w.heap.size w w2 := hbr.out.trans (hb2.mono hbr.out.size)
          rw [hq] at hu ⊢
          clear hu OP
          go_wp2_with fail
          go_ret2
          exact ⟨rfl, B2⟩
        · have k6 : (t.kind == 6) = false := by rw [beq_eq_false_iff_ne]; exact h6
          clear h6
          go_wp2_with fail
          refine (OP.out _ (HP.out.below hbr.out)).mono ?_
          rintro e w2 ⟨u, rfl, hu, hb2⟩
          have B2 : Below w.heap.size w w2 := hbr.out.trans (hb2.mono hbr.out.size)
          rw [hq] at hu ⊢
          clear hu OP
          go_wp2_with fail
          go_ret2
          exact ⟨rfl, B2⟩
    · have hkN : k = N1 := by omega
      subst hkN
      have hlti : ¬ (k : Int) < (k : Int) := by omega
      have hall : M.all okT = true := by
        have := hok.out
        rw [List.take_of_length_le (by rw [HN.out]; omega)] at this
        exact this
      obtain ⟨hS, rfl⟩ := HE1.out hall
      have ho2 := ho.out
      rw [List.take_of_length_le (by rw [HN.out]; omega)] at ho2
      rw [← hS] at ho2
      have cv := conv_own ho2
      have B2 := hbr.out
      clear hS
      clear hok ho hbr hall HI HE0 HE1 HZ HM HLast ho2
      go_wp2_with fail
      go_ret2
      exact ⟨rfl, B2⟩
set_option maxHeartbeats 2000000 in
set_option maxRecDepth 1000000 in
theorem refPrint_long (P : Option Addr) (C N : Nat) (w : World) (h : 16384 < N) :
    Calls Tryz.prog 16 #[.slice P N C] w fun e w' => e = .returned (.tuple #[.string ⟨#[]⟩, .int .i64 1]) ∧ Below w.heap.size w w' := by
  have hi : (16384 : Int) < (N : Int) := by omega
  go_enter Tryz.func16, Tryz.ntmps16
  go_wp2_with fail
  go_ret2
  exact ⟨rfl, Below.refl _ _⟩
end Go.Proofs.YtfcolecglobcdaaGreatDoor
namespace Go.Proofs.YtfcolecglobcdaaGreatDoor
open Go.RowKit Go.Shelf

def cellsI (t : Ti) : List Value := [.int .i64 t.kind, .string ⟨t.text.toArray⟩, .int .i64 t.v.ty, .int .i64 t.v.n, .string t.v.s, .int .i64 t.pos, .int .i64 t.line, .int .i64 t.col]
def flatI (l : List Ti) : List Value := l.flatMap cellsI
theorem flatI_cons (v : Ti) (l : List Ti) : flatI (v :: l) = cellsI v ++ flatI l := rfl
theorem flatI_len : ∀ l : List Ti, (flatI l).length = l.length * 8
  | [] => rfl
  | v :: l => by rw [flatI_cons, List.length_append, flatI_len l]; simp [cellsI]; omega
theorem flatI_get : ∀ (l : List Ti) (i : Nat) (v : Ti) (r : Nat), l[i]? = some v → r < 8 → (flatI l)[i * 8 + r]? = (cellsI v)[r]?
  | [], i, v, r, h, _ => by simp at h
  | x :: l, 0, v, r, h, hr => by
    simp at h; subst h
    rw [flatI_cons, Nat.zero_mul, Nat.zero_add, List.getElem?_append_left (by simp [cellsI]; exact hr)]
  | x :: l, i + 1, v, r, h, hr => by
    simp at h
    rw [flatI_cons, List.getElem?_append_right (by simp [cellsI]; omega), ← flatI_get l i v r h hr]
    congr 1
    simp [cellsI]; omega
theorem flatI_one (l : List Ti) : ∀ u ∈ flatI l, u.oneCell' = true := by
  intro u hu
  simp only [flatI, List.mem_flatMap, cellsI, List.mem_cons, List.not_mem_nil, or_false] at hu
  obtain ⟨v, _, rfl | rfl | rfl | rfl | rfl | rfl | rfl | rfl⟩ := hu <;> rfl
theorem I8.get {w : World} {g o : Nat} {t : Ti} (h : I8 w g o t) : ∀ r u, (cellsI t)[r]? = some u → w.cell? ⟨g, o + r, none⟩ = some u := by
  intro r u hr
  have hl := (List.getElem?_eq_some_iff.1 hr).1
  simp only [cellsI, List.length_cons, List.length_nil] at hl
  rcases (show r = 0 ∨ r = 1 ∨ r = 2 ∨ r = 3 ∨ r = 4 ∨ r = 5 ∨ r = 6 ∨ r = 7 by omega) with rfl | rfl | rfl | rfl | rfl | rfl | rfl | rfl
  · rw [← hr]; exact h.c0
  · rw [← hr]; exact h.c1
  · rw [← hr]; exact h.c2
  · rw [← hr]; exact h.c3
  · rw [← hr]; exact h.c4
  · rw [← hr]; exact h.c5
  · rw [← hr]; exact h.c6
  · rw [← hr]; exact h.c7
theorem addP (g off j : Nat) : (⟨g, off, none⟩ : Addr).add j = ⟨g, off + j, none⟩ := by simp only [Addr.add]; split <;> simp_all
theorem flat_in {w : World} {g o : Nat} {L : List Ti} (h : ∀ i t, L[i]? = some t → I8 w g (o + i * 8) t) : ∀ j u, (flatI L)[j]? = some u → w.cell? ((⟨g, o, none⟩ : Addr).add j) = some u := by
  intro j u hj
  have hl := (List.getElem?_eq_some_iff.1 hj).1
  rw [flatI_len] at hl
  have hi : j / 8 < L.length := by omega
  have hv : L[j / 8]? = some L[j / 8] := List.getElem?_eq_getElem hi
  have k := flatI_get L (j / 8) _ (j % 8) hv (by omega)
  have e : j / 8 * 8 + j % 8 = j := by omega
  rw [e, hj] at k
  have := (h _ _ hv).get (j % 8) u k.symm
  rw [addP, ← e, ← Nat.add_assoc]; exact this
theorem ownI_read {w : World} {base : Nat} {v : Value} {l : List Ti} (h : w.ownsRow base 37 8 v l.length (flatI l)) : ∃ (p : Option Addr) (c : Nat), v = .slice p l.length c ∧ tokII w p l ∧ l.length ≤ c := by
  rcases h.2 with ⟨rfl, h0⟩ | ⟨g, cap, cur, rfl, hb, hcur, h1, h2, h3, h4⟩
  · obtain rfl : l = [] := List.eq_nil_of_length_eq_zero h0
    exact ⟨none, 0, rfl, Or.inl rfl, Nat.le_refl _⟩
  · refine ⟨some ⟨g, 0, none⟩, cap, rfl, Or.inr ⟨g, 0, rfl, fun i t ht => ?_⟩, h1⟩
    have hi := (List.getElem?_eq_some_iff.1 ht).1
    have k : ∀ r, r < 8 → (flatI l)[i * 8 + r]? = (cellsI t)[r]? := fun r hr => flatI_get l i t r ht hr
    rw [Nat.zero_add]
    refine ⟨?_, ?_, ?_, ?_, ?_, ?_, ?_, ?_⟩
    · rw [World.ownsRow.cellAt h _ (by omega)]; exact k 0 (by omega)
    · rw [World.ownsRow.cellAt h _ (by omega)]; exact k 1 (by omega)
    · rw [World.ownsRow.cellAt h _ (by omega)]; exact k 2 (by omega)
    · rw [World.ownsRow.cellAt h _ (by omega)]; exact k 3 (by omega)
    · rw [World.ownsRow.cellAt h _ (by omega)]; exact k 4 (by omega)
    · rw [World.ownsRow.cellAt h _ (by omega)]; exact k 5 (by omega)
    · rw [World.ownsRow.cellAt h _ (by omega)]; exact k 6 (by omega)
    · rw [World.ownsRow.cellAt h _ (by omega)]; exact k 7 (by omega)
/-- tokens put behind none of one's own -/
theorem app_T {ops : Array Oper} {rest : List Oper} {o : Oper} {a : Act} {w : World} {Q : Exit → Act → World → Prop} (hgd : o.guard = none) (s x : Operand)
    (ho : o.op = .call { callee := .builtin .append, args := #[s, x], argTypes := #[30, 30] })
    (L : List Ti) (P : Option Addr) (C : Nat) (hs : a.eval s = .slice (some ⟨w.heap.size, 0, none⟩) 0 0) (hin : tokII w P L) (hC : P = none → C = 0) (hP : P = none → L = [])
    (hx : a.eval x = .slice P L.length C) (hl : L.length ≤ 3000000)
    (h : ∀ p c w', tokII w' p L → L.length ≤ c → Below w.heap.size w w' → wpList Tryz.prog ops Q rest (a.put o.dst (.slice p L.length c)) w') :
    wpList Tryz.prog ops Q (o :: rest) a (w.alloc (.cells #[] 37)) := by
  obtain ⟨i0, hi, hz0, hz1, hz2⟩ := info_parts tokInfo
  have b0 : Below w.heap.size w (w.alloc (.cells #[] 37)) := (Below.refl _ w).alloc (Nat.le_refl _) _
  have hown : (w.alloc (.cells #[] 37)).ownsRow w.heap.size 37 8 (.slice (some ⟨w.heap.size, 0, none⟩) 0 0) 0 [] :=
    ⟨rfl, Or.inr ⟨w.heap.size, 0, #[], rfl, Nat.le_refl _, heap_alloc_new w _, Nat.le_refl _, by unfold maxLen; omega, rfl, rfl⟩⟩
  have hin0 := hin.below b0
  rcases P with _ | ad
  · obtain rfl := hC rfl
    obtain rfl := hP rfl
    refine wpList_plain hgd fun K hK => ?_
    have hr := run_append_owned_none (P := Tryz.prog) (w := w.alloc (.cells #[] 37)) w.heap.size 30 o.type 37 i0 8 tokType hi _ 0 [] hown
    unfold Oper.wp execOp
    simp only [List.length_nil] at hx
    simp only [ho, resolve, invoke, builtin, Sem.run_bind, Sem.run_pure, Result.andThen_ok, List.map_toArray, List.map_cons, List.map_nil, hs, hx, hr]
    exact hK _ _ (h _ 0 _ (Or.inl rfl) (Nat.le_refl _) b0)
  · refine wpList_append_own _ hgd s x 30 ho w.heap.size 37 i0 (.agg #[.int .i64 0, .string ⟨#[]⟩, .int .i64 0, .int .i64 0, .string ⟨#[]⟩, .int .i64 0, .int .i64 0, .int .i64 0]) 8 80 tokType hi hz0 hz1 hz2 rfl (by decide) _ 0 [] hs hown ad L.length C (flatI L) hx (by rw [flatI_len]) ?_ (flatI_one _) (by unfold maxLen; omega) (by omega) b0.size ?_
    · rcases hin0 with h0 | ⟨g', o', he, h0⟩
      · rw [h0]; intro j u hj; simp [flatI] at hj
      · cases he
        exact flat_in h0
    · intro v' w' h1 h2 _
      rw [Nat.zero_add, List.nil_append] at h1
      obtain ⟨p, c, rfl, h3, h4⟩ := ownI_read h1
      have hb2 : Below w.heap.size (w.alloc (.cells #[] 37)) w' := below_own h2 b0.size (by intro g h; simp [Value.ownBlock] at h; omega)
      exact h p c w' h3 h4 (b0.trans hb2)
theorem pn_long {L : List Ti} (h : 16384 < L.length) : pnS L = [] ∧ pnE L = 1 := by
  unfold pnS pnE
  rw [if_pos h, if_pos h]; exact ⟨rfl, rfl⟩
theorem pn_bad {L : List Ti} (h : ¬ 16384 < L.length) (h1 : (cutE L).all okT = false) : pnS L = [] ∧ pnE L = 1 := by
  unfold pnS pnE
  rw [if_neg h, if_neg h, h1]; exact ⟨rfl, rfl⟩
theorem pn_good {L : List Ti} (h : ¬ 16384 < L.length) (h1 : (cutE L).all okT = true) : pnS L = jn ((cutE L).map pnT) ∧ pnE L = 0 := by
  unfold pnS pnE
  rw [if_neg h, if_neg h, if_pos h1, if_pos h1]; exact ⟨rfl, rfl⟩
/-- the last one of tokens -/
theorem snoc_cases (L : List Ti) : L = [] ∨ ∃ M t, L = M ++ [t] := by
  rcases L.eq_nil_or_concat with h | ⟨M, t, h⟩
  · exact Or.inl h
  · exact Or.inr ⟨M, t, by simpa using h⟩
theorem last_at (M : List Ti) (t : Ti) : (M ++ [t])[M.length]? = some t := by simp
theorem lexPrint_any (P : Option Addr) (C : Nat) (L : List Ti) (w : World) (hI : tokII w P L) (hC : L.length ≤ C) (hZ : ∀ t ∈ L, Sz t) (hW : LxW w) (hP : Pow w) :
    Calls Tryz.prog 15 #[.slice P L.length C] w fun e w' => e = .returned (.tuple #[.string ⟨(pnS L).toArray⟩, .int .i64 (pnE L)]) ∧ Below w.heap.size w w' := by
  by_cases hl : 16384 < L.length
  · obtain ⟨e1, e2⟩ := pn_long hl
    rw [e1, e2]
    exact Print_long P C L.length w hl
  · have hE0 := pn_bad hl
    have hE1 := pn_good hl
    rcases snoc_cases L with rfl | ⟨M, t, rfl⟩
    · obtain ⟨e1, e2⟩ := hE1 rfl
      rw [e1, e2]
      exact Print_nil P C w
    · obtain ⟨g, o, rfl, hx⟩ := hI.at (last_at M t)
      have c0 := (hx _ _ (last_at M t)).c0
      by_cases h6 : t.kind = 6
      · rw [cutE_end h6] at hE0 hE1
        rw [h6] at c0
        exact Print_end _ C M.length M _ _ w hI.head rfl (by simp at hl; omega) (fun t h => hZ t (List.mem_append_left _ h)) hE0 hE1 hW hP (M ++ [t]).length g o (by simp) rfl hC (by omega) c0
      · rw [cutE_not h6] at hE0 hE1
        exact Print_all _ C (M ++ [t]).length (M ++ [t]) _ _ w hI rfl (by omega) hZ hE0 hE1 hW hP M.length t.kind g o (by simp) rfl c0 h6
theorem refPrint_tok (P : Option Addr) (C : Nat) (L : List Ti) (w : World) (hI : tokII w P L) (hZ : ∀ t ∈ L, Sz t ∧ t.text.length ≤ 3000000) (hP : Pw w) :
    Calls Tryz.prog 16 #[.slice P L.length C] w fun e w' => e = .returned (.tuple #[.string ⟨(pnS L).toArray⟩, .int .i64 (pnE L)]) ∧ Below w.heap.size w w' := by
  by_cases hl : 16384 < L.length
  · obtain ⟨e1, e2⟩ := pn_long hl
    rw [e1, e2]
    exact refPrint_long P C L.length w hl
  · have hE0 := pn_bad hl
    have hE1 := pn_good hl
    rcases snoc_cases L with rfl | ⟨M, t, rfl⟩
    · exact refPrint_all P C 0 0 [] [] _ _ w hI rfl rfl (by omega) hZ hE0 hE1 hP rfl rfl (fun t h => by simp at h)
    · by_cases h6 : t.kind = 6
      · rw [cutE_end h6] at hE0 hE1
        exact refPrint_end P C M.length (M ++ [t]).length M (M ++ [t]) _ _ w hI rfl rfl (by omega) hZ hE0 hE1 hP (fun k u hu => by rw [List.getElem?_append_left (List.getElem?_eq_some_iff.1 hu).1]; exact hu) (by simp) ⟨t, last_at M t, h6⟩
      · rw [cutE_not h6] at hE0 hE1
        exact refPrint_all P C (M ++ [t]).length (M ++ [t]).length (M ++ [t]) (M ++ [t]) _ _ w hI rfl rfl (by omega) hZ hE0 hE1 hP rfl rfl (fun u hu => by
          rw [show (M ++ [t]).length - 1 = M.length by simp, last_at] at hu
          cases hu; exact h6)
end Go.Proofs.YtfcolecglobcdaaGreatDoor
