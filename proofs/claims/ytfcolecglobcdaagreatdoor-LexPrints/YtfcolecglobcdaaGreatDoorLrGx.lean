/-
  The walk of lex.Print.
-/
import Derived.Test.YtfcolecglobcdaaGreatDoorLrHx
import Derived.Test.YtfcolecglobcdaaGreatDoorShelfJ
import Derived.Shelf.Strings.OnBuilder
namespace Go.Proofs.YtfcolecglobcdaaGreatDoor
open Go.RowKit Go.Shelf

theorem xJoin : Builder.Extra Tryz.prog Tryz.laysJoin_ren where
  sizeBuilder := by kernel_rfl
  liesBuilder := by kernel_rfl
  t5 := Tryz.underlying5
  a5 := Tryz.isAgg5
  z5 := Tryz.sizeOf5
  v5 := Tryz.zeroValue5
  infoByte := by kernel_rfl
  cellsByte := by kernel_rfl
  sizeByte := by kernel_rfl
  neB5 := by decide
theorem Join_any (bk c : Nat) (Ws : List (List UInt8)) (w : World) (hcells : ∀ (j : Nat) x, Ws[j]? = some x → w.cell? ⟨bk, j, none⟩ = some (.string ⟨x.toArray⟩)) (hbk : bk < w.heap.size) (hN : Ws.length ≤ 16384) (hc : Ws.length ≤ c) (hlen : (jn Ws).length ≤ 140737488355328) :
    Calls Tryz.prog 34 #[.slice (some ⟨bk, 0, none⟩) Ws.length c, .string ⟨#[32]⟩] w fun e w' => e = .returned (.string ⟨(jn Ws).toArray⟩) ∧ Below w.heap.size w w' := by
  have e1 : (Ws.map (fun x => ByteArray.mk x.toArray)).map (·.data.toList) = Ws := by rw [List.map_map]; exact List.map_id'' (fun x => rfl) Ws
  have h := Any.strings_Join Tryz.laysJoin xJoin bk 0 c (Ws.map (fun x => ByteArray.mk x.toArray)) ⟨#[32]⟩ w (fun j x hx => by
    rw [List.getElem?_map] at hx
    obtain ⟨y, hy, rfl⟩ := Option.map_eq_some_iff.1 hx
    rw [Nat.zero_add]
    exact hcells j y hy) hbk (by rw [List.length_map]; omega) (by rw [List.length_map]; exact hc) (by
    rw [e1]
    show (Lib.join Ws [32]).length ≤ _
    rw [jn_join]; exact hlen)
  rw [e1, List.length_map] at h
  have e2 : Lib.join Ws (ByteArray.mk #[32]).data.toList = jn Ws := jn_join Ws
  rw [e2] at h
  exact h
theorem strInfo : (Tryz.prog.info? 9).map (fun i => (i.zero, i.size, i.bytes)) = some (some (.string ⟨#[]⟩), 1, 16) := by kernel_rfl
theorem strSlice : Tryz.prog.underlying 41 = some (.slice 9) := by kernel_rfl
theorem ownBelow {w w' : World} {base e sz n : Nat} {v : Value} {xs : List Value} (h : w.ownsRow base e sz v n xs) (hb : Below w.heap.size w w') : w'.ownsRow base e sz v n xs :=
  World.ownsRow.kept h (row := none) ⟨hb.os, hb.tape, hb.output, hb.size, fun k hk _ => hb.block k hk⟩ (by cases hv : v.ownBlock <;> simp)
/-- a printed token's cell -/
def pcell (t : Ti) : Value := .string ⟨(pnT t).toArray⟩
theorem pset (L : List Ti) (m : Nat) (z : Value) (b : Ti) : (L.map pcell ++ List.replicate (m + 1) z).set L.length (pcell b) = (L ++ [b]).map pcell ++ List.replicate m z := by
  rw [List.set_append_right _ _ (by simp)]
  simp [List.replicate_succ]
theorem cutE_nil : cutE [] = [] := rfl
theorem cutE_end {l : List Ti} {t : Ti} (h : t.kind = 6) : cutE (l ++ [t]) = l := by
  unfold cutE; simp [h]
theorem cutE_not {l : List Ti} {t : Ti} (h : t.kind ≠ 6) : cutE (l ++ [t]) = l ++ [t] := by
  unfold cutE; simp [h]
theorem all_more {L : List Ti} {k : Nat} {t : Ti} (h : (L.take k).all okT = true) (ht : L[k]? = some t) (hk : okT t = true) : (L.take (k + 1)).all okT = true := by
  rw [List.take_add_one, ht, List.all_append, h]; simp [hk]
theorem all_not {L : List Ti} {k : Nat} {t : Ti} (ht : L[k]? = some t) (hk : okT t = false) : L.all okT = false := by
  cases h : L.all okT
  · rfl
  · rw [List.all_eq_true.1 h t (List.mem_of_getElem? ht)] at hk; cases hk
set_option maxHeartbeats 2000000 in
set_option maxRecDepth 1000000 in
theorem Print_nil (P : Option Addr) (C : Nat) (w : World) :
    Calls Tryz.prog 15 #[.slice P 0 C] w fun e w' => e = .returned (.tuple #[.string ⟨#[]⟩, .int .i64 0]) ∧ Below w.heap.size w w' := by
  obtain ⟨i0, hi, hz0, hz1, hz2⟩ := info_parts strInfo
  go_enter Tryz.func15, Tryz.ntmps15
  go_wp2_with (at_make; refine wpList_make_full _ rfl (.tmp 28) (.tmp 28) 41 rfl w.heap.size 9 i0 (.string ⟨#[]⟩) 1 strSlice hi hz0 hz1 .i64 .i64 0 0 0 rfl rfl rfl rfl (by rw [hz2]; omega) (by unfold maxLen; omega) (Nat.le_refl _) ?_; intro w1 ho1 hg1)
  have b1 : Below w.heap.size w w1 := below_own hg1 (Nat.le_refl _) (by intro g h; cases h)
  have hlt1 : w.heap.size < w1.heap.size := by
    rcases ho1.2 with ⟨h, _⟩ | ⟨g', cap', cur, h', _, hg, _⟩
    · cases h
    · simp only [Value.slice.injEq, Option.some.injEq, Addr.mk.injEq, and_true, true_and] at h'
      obtain ⟨rfl, _⟩ := h'
      exact (Array.getElem?_eq_some_iff.1 hg).1
  clear ho1 hg1 hi hz0 hz1 hz2
  go_loopw [32] (fun si wr => si = .int .i64 0 ∧ Hid (w.heap.size < wr.heap.size) ∧ Hid (Below w.heap.size w wr)) (fun _ _ => 0)
  case atStart => exact ⟨rfl, hlt1, b1⟩
  case round =>
    obtain ⟨rfl, hl, hbr⟩ := hrel
    have JN : Hid (Calls Tryz.prog 34 #[.slice (some ⟨w.heap.size, 0, none⟩) 0 0, .string ⟨#[32]⟩] wr fun e w' => e = .returned (.string ⟨#[]⟩) ∧ Below wr.heap.size wr w') := Join_any w.heap.size 0 [] wr (fun j y hy => by simp at hy) hl.out (by simp) (by simp) (by simp [jn])
    have hbr2 := hbr.out
    clear hbr b1 hlt1 hl
    go_wp2_with fail
    refine JN.out.mono ?_
    rintro e w5 ⟨rfl, hb5⟩
    have B5 := hbr2.trans (hb5.mono hbr2.size)
    clear JN
    go_wp2_with fail
    go_ret2
    exact ⟨rfl, B5⟩
set_option maxHeartbeats 2000000 in
set_option maxRecDepth 1000000 in
theorem Print_all (P : Option Addr) (C N : Nat) (M : List Ti) (S : List UInt8) (E : Int) (w : World) (hI : tokII w P M) (hN : M.length = N) (hK : N ≤ 16384) (hZ : ∀ t ∈ M, Sz t) (hE0 : M.all okT = false → S = [] ∧ E = 1) (hE1 : M.all okT = true → S = jn (M.map pnT) ∧ E = 0) (hW : LxW w) (hP : Pow w) (K : Nat) (kd : Int) (g o : Nat) (hK1 : N = K + 1) (hPg : P = some ⟨g, o, none⟩) (hc : w.cell? ⟨g, o + K * 8, none⟩ = some (.int .i64 kd)) (h6 : kd ≠ 6) :
    Calls Tryz.prog 15 #[.slice P N C] w fun e w' => e = .returned (.tuple #[.string ⟨S.toArray⟩, .int .i64 E]) ∧ Below w.heap.size w w' := by
  have HI : Hid (tokII w P M) := hI
  have HN : Hid (M.length = N) := hN
  have HK : Hid (N ≤ 16384) := hK
  have HZ : Hid (∀ t ∈ M, Sz t) := hZ
  have HE0 : Hid (M.all okT = false → S = [] ∧ E = 1) := hE0
  have HE1 : Hid (M.all okT = true → S = jn (M.map pnT) ∧ E = 0) := hE1
  have HW : Hid (LxW w) := hW
  have HP : Hid (Pow w) := hP
  have hKi : (N : Int) ≤ 16384 := by omega
  obtain ⟨i0, hi, hz0, hz1, hz2⟩ := info_parts strInfo
  clear hI hN hZ hE0 hE1 hW hP
  subst hPg
  have b6 : (kd == 6) = false := by rw [beq_eq_false_iff_ne]; exact h6
  have u1 : (N : Int) - 1 = (K : Int) := by omega
  have u2 : (K : Int) < (N : Int) := by omega
  clear h6 hK1
  go_enter Tryz.func15, Tryz.ntmps15
  go_wp2_with (at_make; refine wpList_make_full _ rfl (.tmp 28) (.tmp 28) 41 rfl w.heap.size 9 i0 (.string ⟨#[]⟩) 1 strSlice hi hz0 hz1 .i64 .i64 (N : Int) (N : Int) N rfl rfl rfl rfl (by rw [hz2]; omega) (by unfold maxLen; omega) (Nat.le_refl _) ?_; intro w1 ho1 hg1)
  clear hc b6 u1 u2
  have b1 : Below w.heap.size w w1 := below_own hg1 (Nat.le_refl _) (by intro g h; cases h)
  have ho1' : w1.ownsRow w.heap.size 9 1 (.slice (some ⟨w.heap.size, 0, none⟩) N N) N (([] : List Ti).map pcell ++ List.replicate (N - 0) (.string ⟨#[]⟩)) := by
    have e2 : (madeCells (Value.string ⟨#[]⟩).cells (N * 1)).toList = ([] : List Ti).map pcell ++ List.replicate (N - 0) (.string ⟨#[]⟩) := by
      apply List.ext_getElem
      · simp [madeCells]
      · intro i h1 h2; simp [madeCells, Value.cells, Nat.mod_one]
    rw [← e2]; exact ho1
  clear ho1 hg1 hi hz0 hz1 hz2
  go_loopw [32] (fun si wr => ∃ (k : Nat), si = .int .i64 k ∧ k ≤ N ∧ Hid ((M.take k).all okT = true) ∧ Hid (wr.ownsRow w.heap.size 9 1 (.slice (some ⟨w.heap.size, 0, none⟩) N N) N ((M.take k).map pcell ++ List.replicate (N - k) (.string ⟨#[]⟩))) ∧ Hid (Below w.heap.size w wr)) (fun si _ => N - (intOf si).toNat)
  case atStart => exact ⟨0, rfl, Nat.zero_le _, rfl, ho1', b1⟩
  case round =>
    obtain ⟨k, rfl, hk, hok, ho, hbr⟩ := hrel
    clear ho1' b1
    by_cases hlt : k < N
    · have hlti : (k : Int) < (N : Int) := by omega
      obtain ⟨t, ht⟩ : ∃ t, M[k]? = some t := ⟨M[k]'(by rw [HN.out]; exact hlt), List.getElem?_eq_getElem _⟩
      obtain ⟨g, o, hPe, hI⟩ := (HI.out.below hbr.out).at ht
      cases hPe
      have hI := hI k t ht
      have hz := HZ.out t (List.mem_of_getElem? ht)
      have HT : Hid (M[k]? = some t) := ht
      clear ht
      obtain ⟨kd, x, ⟨ty, n, s⟩, p, a, b⟩ := t
      obtain ⟨a0, a1, a2, a3, a4, a5, a6, a7⟩ := hI
      simp only at a0 a1 a2 a3 a4 a5 a6 a7
      have P1 : Hid (R8 (wr.alloc (.cells #[.int .i64 kd, .string ⟨x.toArray⟩, .int .i64 ty, .int .i64 n, .string s, .int .i64 p, .int .i64 a, .int .i64 b] 37)) wr.heap.size (.int .i64 kd) (.string ⟨x.toArray⟩) (.int .i64 ty) (.int .i64 n) (.string s) (.int .i64 p) (.int .i64 a) (.int .i64 b)) := R8.new wr 37 (.int .i64 kd) (.string ⟨x.toArray⟩) (.int .i64 ty) (.int .i64 n) (.string s) (.int .i64 p) (.int .i64 a) (.int .i64 b)
      have B1 : Hid (Below w.heap.size w (wr.alloc (.cells #[.int .i64 kd, .string ⟨x.toArray⟩, .int .i64 ty, .int .i64 n, .string s, .int .i64 p, .int .i64 a, .int .i64 b] 37))) := hbr.out.alloc hbr.out.size _
      have BW : Hid (Below wr.heap.size wr (wr.alloc (.cells #[.int .i64 kd, .string ⟨x.toArray⟩, .int .i64 ty, .int .i64 n, .string s, .int .i64 p, .int .i64 a, .int .i64 b] 37))) := (Below.refl _ wr).alloc (Nat.le_refl _) _
      have CB : Hid (∀ w, Tabs w → Sg w → Calls Tryz.prog 32 #[.agg #[.int .i64 kd, .string ⟨x.toArray⟩, .int .i64 ty, .int .i64 n, .string s, .int .i64 p, .int .i64 a, .int .i64 b]] w fun e w' => e = .returned (.bool (okT ⟨kd, x, ⟨ty, n, s⟩, p, a, b⟩)) ∧ Below w.heap.size w w') := fun w h1 h2 => canBe_any kd x ty n s p a b w hz.x hz.s h1 h2
      by_cases hq : okT ⟨kd, x, ⟨ty, n, s⟩, p, a, b⟩ = true
      · have PT : Hid (∀ w, LxW w → Pow w → Calls Tryz.prog 33 #[.agg #[.int .i64 kd, .string ⟨x.toArray⟩, .int .i64 ty, .int .i64 n, .string s, .int .i64 p, .int .i64 a, .int .i64 b]] w fun e w' => e = .returned (.string ⟨(pnT ⟨kd, x, ⟨ty, n, s⟩, p, a, b⟩).toArray⟩) ∧ Below w.heap.size w w') := fun w h1 h2 => printToken_any kd x ty n s p a b w hq hz.n hz.s h1 h2
        have HOK : Hid ((M.take (k + 1)).all okT = true) := all_more hok.out HT.out hq
        have HM : Hid ((M.take (k + 1)) = M.take k ++ [⟨kd, x, ⟨ty, n, s⟩, p, a, b⟩]) := by show _ = _; rw [List.take_add_one, HT.out]; rfl
        have HL : Hid ((M.take k).length = k) := by show _ = _; rw [List.length_take, HN.out]; omega
        have HO : Hid (wr.ownsRow w.heap.size 9 1 (.slice (some ⟨w.heap.size, 0, none⟩) N N) N ((M.take k).map pcell ++ List.replicate (N - k) (.string ⟨#[]⟩))) := ho.out
        have HV : Hid (pcell ⟨kd, x, ⟨ty, n, s⟩, p, a, b⟩ = .string ⟨(pnT ⟨kd, x, ⟨ty, n, s⟩, p, a, b⟩).toArray⟩) := rfl
        rw [hq] at CB
        obtain ⟨T, hT⟩ : ∃ T, T = (⟨kd, x, ⟨ty, n, s⟩, p, a, b⟩ : Ti) := ⟨_, rfl⟩
        rw [← hT] at PT HM HV
        generalize pnT T = U at *
        clear hq hz HT hok ho hT HZ
        go_wp2_with fail
        refine (CB.out _ (HW.out.t.below B1.out) (HW.out.s.below B1.out)).mono ?_
        rintro e w2 ⟨rfl, hb2⟩
        have B2 : Hid (Below w.heap.size w w2) := B1.out.trans (hb2.mono B1.out.size)
        have BW2 : Hid (Below wr.heap.size wr w2) := BW.out.trans (hb2.mono BW.out.size)
        obtain ⟨_, c0, c1, c2, c3, c4, c5, c6, c7, _, _, _, _, _, _, _, _⟩ := P1.out.below hb2
        clear CB B1 BW P1 hb2 a0 a1 a2 a3 a4 a5 a6 a7
        go_wp2_with fail
        refine (PT.out _ (HW.out.below B2.out) (HP.out.below B2.out)).mono ?_
        rintro e w3 ⟨rfl, hb3⟩
        have B3 := B2.out.trans (hb3.mono B2.out.size)
        have BW3 := BW2.out.trans (hb3.mono BW2.out.size)
        have ho3 := ownBelow HO.out BW3
        have f0 := World.ownsRow.frozenAt ho3 k
        have cw : w3.cell? ⟨w.heap.size, k, none⟩ = some (.string ⟨#[]⟩) := by
          rw [World.ownsRow.cellAt ho3 k (by omega), List.getElem?_append_right (by rw [List.length_map, HL.out]; exact Nat.le_refl _), List.length_map, HL.out, Nat.sub_self, List.getElem?_replicate, if_pos (by omega)]
        obtain ⟨s1, t1⟩ := World.ownsRow.stored ho3 k (.string ⟨U.toArray⟩)
        have S1 : Hid ((w3.setCell ⟨w.heap.size, k, none⟩ (.string ⟨U.toArray⟩)).ownsRow w.heap.size 9 1 (.slice (some ⟨w.heap.size, 0, none⟩) N N) N ((M.take (k + 1)).map pcell ++ List.replicate (N - (k + 1)) (.string ⟨#[]⟩))) := by
          show World.ownsRow _ _ _ _ _ _ _
          have hl := HL.out
          rw [HM.out, ← pset, HV.out, hl, show N - (k + 1) + 1 = N - k by omega]
          exact s1
        have S2 : Hid (Below w.heap.size w (w3.setCell ⟨w.heap.size, k, none⟩ (.string ⟨U.toArray⟩))) := B3.trans (below_own t1 B3.size (by intro g h; cases h; exact Nat.le_refl _))
        clear PT B2 BW2 hb3 B3 BW3 ho3 s1 t1 c0 c1 c2 c3 c4 c5 c6 c7 HO HM HL HV
        go_wp2_with fail
        go_roundw
        case rel => exact ⟨k + 1, by go_num, hlt, HOK, S1, S2⟩
        case measure => simp [intOf]; omega
      · have hq2 : okT ⟨kd, x, ⟨ty, n, s⟩, p, a, b⟩ = false := by simpa using hq
        obtain ⟨rfl, rfl⟩ := HE0.out (all_not HT.out hq2)
        rw [hq2] at CB
        clear hq hq2 hz HT hok ho HZ
        go_wp2_with fail
        refine (CB.out _ (HW.out.t.below B1.out) (HW.out.s.below B1.out)).mono ?_
        rintro e w2 ⟨rfl, hb2⟩
        have B2 : Below w.heap.size w w2 := B1.out.trans (hb2.mono B1.out.size)
        clear CB B1 BW P1 hb2 a0 a1 a2 a3 a4 a5 a6 a7
        go_wp2_with fail
        go_ret2
        exact ⟨rfl, B2⟩
    · have hkl : k = N := by omega
      have hlti : ¬ (k : Int) < (N : Int) := by omega
      have hall : M.all okT = true := by
        have := hok.out
        rw [List.take_of_length_le (by rw [HN.out]; omega)] at this
        exact this
      obtain ⟨hS, rfl⟩ := HE1.out hall
      subst hkl
      have ho3 : wr.ownsRow w.heap.size 9 1 (.slice (some ⟨w.heap.size, 0, none⟩) k k) k (M.map pcell) := by
        have := ho.out
        rw [Nat.sub_self, List.replicate_zero, List.append_nil, List.take_of_length_le (by rw [HN.out]; exact Nat.le_refl _)] at this
        exact this
      have hbr2 := hbr.out
      have hlt2 : w.heap.size < wr.heap.size := by
        rcases ho3.2 with ⟨h, _⟩ | ⟨g', cap', cur, h', _, hg, _⟩
        · cases h
        · simp only [Value.slice.injEq, Option.some.injEq, Addr.mk.injEq, and_true, true_and] at h'
          obtain ⟨rfl, _⟩ := h'
          exact (Array.getElem?_eq_some_iff.1 hg).1
      have JN : Hid (Calls Tryz.prog 34 #[.slice (some ⟨w.heap.size, 0, none⟩) k k, .string ⟨#[32]⟩] wr fun e w' => e = .returned (.string ⟨(jn (M.map pnT)).toArray⟩) ∧ Below wr.heap.size wr w') := by
        have hl : (M.map pnT).length = k := by rw [List.length_map]; exact HN.out
        have h := Join_any w.heap.size k (M.map pnT) wr (fun j y hy => by
          rw [List.getElem?_map] at hy
          obtain ⟨t, ht, rfl⟩ := Option.map_eq_some_iff.1 hy
          have hj := (List.getElem?_eq_some_iff.1 ht).1
          rw [HN.out] at hj
          rw [World.ownsRow.cellAt ho3 j (by omega), List.getElem?_map, ht]; rfl) hlt2 (by rw [hl]; exact HK.out) (by rw [hl]; exact Nat.le_refl _) (by
          have := jn_len (M.map pnT) (fun q hq => by
            obtain ⟨t, ht, rfl⟩ := List.mem_map.1 hq
            exact pnT_len (HZ.out t ht).n (List.all_eq_true.1 hall t ht))
          rw [hl] at this
          have := HK.out
          omega)
        rw [hl] at h
        exact h
      rw [← hS] at JN
      clear ho ho3 hbr hok hall HE0 HE1 HZ HI hlt2 hS
      go_wp2_with fail
      refine JN.out.mono ?_
      rintro e w5 ⟨rfl, hb5⟩
      have B5 := hbr2.trans (hb5.mono hbr2.size)
      clear JN
      go_wp2_with fail
      go_ret2
      exact ⟨rfl, B5⟩
set_option maxHeartbeats 2000000 in
set_option maxRecDepth 1000000 in
theorem Print_end (P : Option Addr) (C N : Nat) (M : List Ti) (S : List UInt8) (E : Int) (w : World) (hI : tokII w P M) (hN : M.length = N) (hK : N ≤ 16384) (hZ : ∀ t ∈ M, Sz t) (hE0 : M.all okT = false → S = [] ∧ E = 1) (hE1 : M.all okT = true → S = jn (M.map pnT) ∧ E = 0) (hW : LxW w) (hP : Pow w) (N1 : Nat) (g o : Nat) (hK1 : N1 = N + 1) (hPg : P = some ⟨g, o, none⟩) (hC : N1 ≤ C) (hN1 : N1 ≤ 16384) (hc : w.cell? ⟨g, o + N * 8, none⟩ = some (.int .i64 6)) :
    Calls Tryz.prog 15 #[.slice P N1 C] w fun e w' => e = .returned (.tuple #[.string ⟨S.toArray⟩, .int .i64 E]) ∧ Below w.heap.size w w' := by
  have HI : Hid (tokII w P M) := hI
  have HN : Hid (M.length = N) := hN
  have HK : Hid (N ≤ 16384) := hK
  have HZ : Hid (∀ t ∈ M, Sz t) := hZ
  have HE0 : Hid (M.all okT = false → S = [] ∧ E = 1) := hE0
  have HE1 : Hid (M.all okT = true → S = jn (M.map pnT) ∧ E = 0) := hE1
  have HW : Hid (LxW w) := hW
  have HP : Hid (Pow w) := hP
  have hKi : (N : Int) ≤ 16384 := by omega
  obtain ⟨i0, hi, hz0, hz1, hz2⟩ := info_parts strInfo
  clear hI hN hZ hE0 hE1 hW hP
  subst hPg
  have u1 : (N1 : Int) - 1 = (N : Int) := by omega
  have u2 : (N : Int) < (N1 : Int) := by omega
  have u3 : (N1 : Int) ≤ 16384 := by omega
  have u4 : (N : Int) ≤ (C : Int) := by omega
  have u5 : N ≤ C := by omega
  clear hN1 hK1 hC
  go_enter Tryz.func15, Tryz.ntmps15
  go_wp2_with (at_make; refine wpList_make_full _ rfl (.tmp 28) (.tmp 28) 41 rfl w.heap.size 9 i0 (.string ⟨#[]⟩) 1 strSlice hi hz0 hz1 .i64 .i64 (N : Int) (N : Int) N rfl rfl rfl rfl (by rw [hz2]; omega) (by unfold maxLen; omega) (Nat.le_refl _) ?_; intro w1 ho1 hg1)
  clear hc u1 u2 u3 u4 u5
  have b1 : Below w.heap.size w w1 := below_own hg1 (Nat.le_refl _) (by intro g h; cases h)
  have ho1' : w1.ownsRow w.heap.size 9 1 (.slice (some ⟨w.heap.size, 0, none⟩) N N) N (([] : List Ti).map pcell ++ List.replicate (N - 0) (.string ⟨#[]⟩)) := by
    have e2 : (madeCells (Value.string ⟨#[]⟩).cells (N * 1)).toList = ([] : List Ti).map pcell ++ List.replicate (N - 0) (.string ⟨#[]⟩) := by
      apply List.ext_getElem
      · simp [madeCells]
      · intro i h1 h2; simp [madeCells, Value.cells, Nat.mod_one]
    rw [← e2]; exact ho1
  clear ho1 hg1 hi hz0 hz1 hz2
  go_loopw [32] (fun si wr => ∃ (k : Nat), si = .int .i64 k ∧ k ≤ N ∧ Hid ((M.take k).all okT = true) ∧ Hid (wr.ownsRow w.heap.size 9 1 (.slice (some ⟨w.heap.size, 0, none⟩) N N) N ((M.take k).map pcell ++ List.replicate (N - k) (.string ⟨#[]⟩))) ∧ Hid (Below w.heap.size w wr)) (fun si _ => N - (intOf si).toNat)
  case atStart => exact ⟨0, rfl, Nat.zero_le _, rfl, ho1', b1⟩
  case round =>
    obtain ⟨k, rfl, hk, hok, ho, hbr⟩ := hrel
    clear ho1' b1
    by_cases hlt : k < N
    · have hlti : (k : Int) < (N : Int) := by omega
      obtain ⟨t, ht⟩ : ∃ t, M[k]? = some t := ⟨M[k]'(by rw [HN.out]; exact hlt), List.getElem?_eq_getElem _⟩
      obtain ⟨g, o, hPe, hI⟩ := (HI.out.below hbr.out).at ht
      cases hPe
      have hI := hI k t ht
      have hz := HZ.out t (List.mem_of_getElem? ht)
      have HT : Hid (M[k]? = some t) := ht
      clear ht
      obtain ⟨kd, x, ⟨ty, n, s⟩, p, a, b⟩ := t
      obtain ⟨a0, a1, a2, a3, a4, a5, a6, a7⟩ := hI
      simp only at a0 a1 a2 a3 a4 a5 a6 a7
      have P1 : Hid (R8 (wr.alloc (.cells #[.int .i64 kd, .string ⟨x.toArray⟩, .int .i64 ty, .int .i64 n, .string s, .int .i64 p, .int .i64 a, .int .i64 b] 37)) wr.heap.size (.int .i64 kd) (.string ⟨x.toArray⟩) (.int .i64 ty) (.int .i64 n) (.string s) (.int .i64 p) (.int .i64 a) (.int .i64 b)) := R8.new wr 37 (.int .i64 kd) (.string ⟨x.toArray⟩) (.int .i64 ty) (.int .i64 n) (.string s) (.int .i64 p) (.int .i64 a) (.int .i64 b)
      have B1 : Hid (Below w.heap.size w (wr.alloc (.cells #[.int .i64 kd, .string ⟨x.toArray⟩, .int .i64 ty, .int .i64 n, .string s, .int .i64 p, .int .i64 a, .int .i64 b] 37))) := hbr.out.alloc hbr.out.size _
      have BW : Hid (Below wr.heap.size wr (wr.alloc (.cells #[.int .i64 kd, .string ⟨x.toArray⟩, .int .i64 ty, .int .i64 n, .string s, .int .i64 p, .int .i64 a, .int .i64 b] 37))) := (Below.refl _ wr).alloc (Nat.le_refl _) _
      have CB : Hid (∀ w, Tabs w → Sg w → Calls Tryz.prog 32 #[.agg #[.int .i64 kd, .string ⟨x.toArray⟩, .int .i64 ty, .int .i64 n, .string s, .int .i64 p, .int .i64 a, .int .i64 b]] w fun e w' => e = .returned (.bool (okT ⟨kd, x, ⟨ty, n, s⟩, p, a, b⟩)) ∧ Below w.heap.size w w') := fun w h1 h2 => canBe_any kd x ty n s p a b w hz.x hz.s h1 h2
      by_cases hq : okT ⟨kd, x, ⟨ty, n, s⟩, p, a, b⟩ = true
      · have PT : Hid (∀ w, LxW w → Pow w → Calls Tryz.prog 33 #[.agg #[.int .i64 kd, .string ⟨x.toArray⟩, .int .i64 ty, .int .i64 n, .string s, .int .i64 p, .int .i64 a, .int .i64 b]] w fun e w' => e = .returned (.string ⟨(pnT ⟨kd, x, ⟨ty, n, s⟩, p, a, b⟩).toArray⟩) ∧ Below w.heap.size w w') := fun w h1 h2 => printToken_any kd x ty n s p a b w hq hz.n hz.s h1 h2
        have HOK : Hid ((M.take (k + 1)).all okT = true) := all_more hok.out HT.out hq
        have HM : Hid ((M.take (k + 1)) = M.take k ++ [⟨kd, x, ⟨ty, n, s⟩, p, a, b⟩]) := by show _ = _; rw [List.take_add_one, HT.out]; rfl
        have HL : Hid ((M.take k).length = k) := by show _ = _; rw [List.length_take, HN.out]; omega
        have HO : Hid (wr.ownsRow w.heap.size 9 1 (.slice (some ⟨w.heap.size, 0, none⟩) N N) N ((M.take k).map pcell ++ List.replicate (N - k) (.string ⟨#[]⟩))) := ho.out
        have HV : Hid (pcell ⟨kd, x, ⟨ty, n, s⟩, p, a, b⟩ = .string ⟨(pnT ⟨kd, x, ⟨ty, n, s⟩, p, a, b⟩).toArray⟩) := rfl
        rw [hq] at CB
        obtain ⟨T, hT⟩ : ∃ T, T = (⟨kd, x, ⟨ty, n, s⟩, p, a, b⟩ : Ti) := ⟨_, rfl⟩
        rw [← hT] at PT HM HV
        generalize pnT T = U at *
        clear hq hz HT hok ho hT HZ
        go_wp2_with fail
        refine (CB.out _ (HW.out.t.below B1.out) (HW.out.s.below B1.out)).mono ?_
        rintro e w2 ⟨rfl, hb2⟩
        have B2 : Hid (Below w.heap.size w w2) := B1.out.trans (hb2.mono B1.out.size)
        have BW2 : Hid (Below wr.heap.size wr w2) := BW.out.trans (hb2.mono BW.out.size)
        obtain ⟨_, c0, c1, c2, c3, c4, c5, c6, c7, _, _, _, _, _, _, _, _⟩ := P1.out.below hb2
        clear CB B1 BW P1 hb2 a0 a1 a2 a3 a4 a5 a6 a7
        go_wp2_with fail
        refine (PT.out _ (HW.out.below B2.out) (HP.out.below B2.out)).mono ?_
        rintro e w3 ⟨rfl, hb3⟩
        have B3 := B2.out.trans (hb3.mono B2.out.size)
        have BW3 := BW2.out.trans (hb3.mono BW2.out.size)
        have ho3 := ownBelow HO.out BW3
        have f0 := World.ownsRow.frozenAt ho3 k
        have cw : w3.cell? ⟨w.heap.size, k, none⟩ = some (.string ⟨#[]⟩) := by
          rw [World.ownsRow.cellAt ho3 k (by omega), List.getElem?_append_right (by rw [List.length_map, HL.out]; exact Nat.le_refl _), List.length_map, HL.out, Nat.sub_self, List.getElem?_replicate, if_pos (by omega)]
        obtain ⟨s1, t1⟩ := World.ownsRow.stored ho3 k (.string ⟨U.toArray⟩)
        have S1 : Hid ((w3.setCell ⟨w.heap.size, k, none⟩ (.string ⟨U.toArray⟩)).ownsRow w.heap.size 9 1 (.slice (some ⟨w.heap.size, 0, none⟩) N N) N ((M.take (k + 1)).map pcell ++ List.replicate (N - (k + 1)) (.string ⟨#[]⟩))) := by
          show World.ownsRow _ _ _ _ _ _ _
          have hl := HL.out
          rw [HM.out, ← pset, HV.out, hl, show N - (k + 1) + 1 = N - k by omega]
          exact s1
        have S2 : Hid (Below w.heap.size w (w3.setCell ⟨w.heap.size, k, none⟩ (.string ⟨U.toArray⟩))) := B3.trans (below_own t1 B3.size (by intro g h; cases h; exact Nat.le_refl _))
        clear PT B2 BW2 hb3 B3 BW3 ho3 s1 t1 c0 c1 c2 c3 c4 c5 c6 c7 HO HM HL HV
        go_wp2_with fail
        go_roundw
        case rel => exact ⟨k + 1, by go_num, hlt, HOK, S1, S2⟩
        case measure => simp [intOf]; omega
      · have hq2 : okT ⟨kd, x, ⟨ty, n, s⟩, p, a, b⟩ = false := by simpa using hq
        obtain ⟨rfl, rfl⟩ := HE0.out (all_not HT.out hq2)
        rw [hq2] at CB
        clear hq hq2 hz HT hok ho HZ
        go_wp2_with fail
        refine (CB.out _ (HW.out.t.below B1.out) (HW.out.s.below B1.out)).mono ?_
        rintro e w2 ⟨rfl, hb2⟩
        have B2 : Below w.heap.size w w2 := B1.out.trans (hb2.mono B1.out.size)
        clear CB B1 BW P1 hb2 a0 a1 a2 a3 a4 a5 a6 a7
        go_wp2_with fail
        go_ret2
        exact ⟨rfl, B2⟩
    · have hkl : k = N := by omega
      have hlti : ¬ (k : Int) < (N : Int) := by omega
      have hall : M.all okT = true := by
        have := hok.out
        rw [List.take_of_length_le (by rw [HN.out]; omega)] at this
        exact this
      obtain ⟨hS, rfl⟩ := HE1.out hall
      subst hkl
      have ho3 : wr.ownsRow w.heap.size 9 1 (.slice (some ⟨w.heap.size, 0, none⟩) k k) k (M.map pcell) := by
        have := ho.out
        rw [Nat.sub_self, List.replicate_zero, List.append_nil, List.take_of_length_le (by rw [HN.out]; exact Nat.le_refl _)] at this
        exact this
      have hbr2 := hbr.out
      have hlt2 : w.heap.size < wr.heap.size := by
        rcases ho3.2 with ⟨h, _⟩ | ⟨g', cap', cur, h', _, hg, _⟩
        · cases h
        · simp only [Value.slice.injEq, Option.some.injEq, Addr.mk.injEq, and_true, true_and] at h'
          obtain ⟨rfl, _⟩ := h'
          exact (Array.getElem?_eq_some_iff.1 hg).1
      have JN : Hid (Calls Tryz.prog 34 #[.slice (some ⟨w.heap.size, 0, none⟩) k k, .string ⟨#[32]⟩] wr fun e w' => e = .returned (.string ⟨(jn (M.map pnT)).toArray⟩) ∧ Below wr.heap.size wr w') := by
        have hl : (M.map pnT).length = k := by rw [List.length_map]; exact HN.out
        have h := Join_any w.heap.size k (M.map pnT) wr (fun j y hy => by
          rw [List.getElem?_map] at hy
          obtain ⟨t, ht, rfl⟩ := Option.map_eq_some_iff.1 hy
          have hj := (List.getElem?_eq_some_iff.1 ht).1
          rw [HN.out] at hj
          rw [World.ownsRow.cellAt ho3 j (by omega), List.getElem?_map, ht]; rfl) hlt2 (by rw [hl]; exact HK.out) (by rw [hl]; exact Nat.le_refl _) (by
          have := jn_len (M.map pnT) (fun q hq => by
            obtain ⟨t, ht, rfl⟩ := List.mem_map.1 hq
            exact pnT_len (HZ.out t ht).n (List.all_eq_true.1 hall t ht))
          rw [hl] at this
          have := HK.out
          omega)
        rw [hl] at h
        exact h
      rw [← hS] at JN
      clear ho ho3 hbr hok hall HE0 HE1 HZ HI hlt2 hS
      go_wp2_with fail
      refine JN.out.mono ?_
      rintro e w5 ⟨rfl, hb5⟩
      have B5 := hbr2.trans (hb5.mono hbr2.size)
      clear JN
      go_wp2_with fail
      go_ret2
      exact ⟨rfl, B5⟩
set_option maxHeartbeats 2000000 in
set_option maxRecDepth 1000000 in
theorem Print_long (P : Option Addr) (C N : Nat) (w : World) (h : 16384 < N) :
    Calls Tryz.prog 15 #[.slice P N C] w fun e w' => e = .returned (.tuple #[.string ⟨#[]⟩, .int .i64 1]) ∧ Below w.heap.size w w' := by
  have hi : (16384 : Int) < (N : Int) := by omega
  go_enter Tryz.func15, Tryz.ntmps15
  go_wp2_with fail
  go_ret2
  exact ⟨rfl, Below.refl _ _⟩
end Go.Proofs.YtfcolecglobcdaaGreatDoor
