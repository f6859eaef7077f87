/-
  The walk of lex.canBeLiteral.
-/
import Derived.Test.YtfcolecglobcdaaGreatDoorGD
import Derived.Test.YtfcolecglobcdaaGreatDoorLxA
import Derived.Test.YtfcolecglobcdaaGreatDoorLxR
import Derived.Test.YtfcolecglobcdaaGreatDoorLxS
namespace Go.Proofs.YtfcolecglobcdaaGreatDoor
open Go.RowKit Go.Shelf

/-- there is such a literal -/
def cbL (ty n : Int) (s : List UInt8) : Bool := decide (chk ty n ⟨s.toArray⟩ = 0) && (if ty = 1 ∨ ty = 2 then decide (0 ≤ n) else if ty = 3 then decide (Lib.indexByte s 0 < 0) else false)
set_option maxHeartbeats 2000000 in
set_option maxRecDepth 1000000 in
theorem canBeLiteral_any (ty n : Int) (s : List UInt8) (w : World) (hs : s.length ≤ 9223372036854775807) (hT : Tabs w) :
    Calls Tryz.prog 53 #[.agg #[.int .i64 ty, .int .i64 n, .string ⟨s.toArray⟩]] w fun e w' => e = .returned (.bool (cbL ty n s)) ∧ Below w.heap.size w w' := by
  have CK : Hid (∀ w, Tabs w → Calls Tryz.prog 72 #[.agg #[.int .i64 ty, .int .i64 n, .string ⟨s.toArray⟩]] w fun e w' => e = .returned (.int .i64 (chk ty n ⟨s.toArray⟩)) ∧ Below w.heap.size w w') := fun w h => Check_any ty n ⟨s.toArray⟩ w (by rw [size_mk]; exact hs) h
  have IB : Hid (∀ w, Calls Tryz.prog 73 #[.string ⟨s.toArray⟩, .int .u8 0] w fun e w' => e = .returned (.int .i64 (Lib.indexByte s 0)) ∧ Below w.heap.size w w') := fun w => (IndexByte_any s 0 w).mono (fun _ _ h => ⟨h.1, h.2 ▸ Below.refl _ _⟩)
  have B0 : Hid (∀ o, Below w.heap.size w (w.alloc o)) := fun o => (Below.refl _ w).alloc (Nat.le_refl _) o
  have HT : Hid (Tabs w) := hT
  have HE : Hid (cbL ty n s = (decide (chk ty n ⟨s.toArray⟩ = 0) && (if ty = 1 ∨ ty = 2 then decide (0 ≤ n) else if ty = 3 then decide (Lib.indexByte s 0 < 0) else false))) := rfl
  generalize cbL ty n s = A at *
  generalize Lib.indexByte s 0 = ix at *
  generalize chk ty n ⟨s.toArray⟩ = ck at *
  clear hT hs
  by_cases hc : ck = 0
  · subst hc
    by_cases h1 : ty = 1
    · subst h1
      by_cases hn : 0 ≤ n
      · have e : A = true := by rw [HE.out]; simp [hn]
        subst e
        clear HE IB
        go_enter Tryz.func53, Tryz.ntmps53
        go_wp2_with fail
        refine (CK.out _ (HT.out.below (B0.out _))).mono ?_
        rintro e w1 ⟨rfl, hb1⟩
        have B1 := (B0.out _).trans (hb1.mono (B0.out _).size)
        obtain ⟨hc1, hf1⟩ := bcell hb1
        clear CK
        go_wp2_with fail
        go_ret
        exact ⟨rfl, B1⟩
      · have e : A = false := by rw [HE.out]; simp [hn]
        subst e
        clear HE IB
        go_enter Tryz.func53, Tryz.ntmps53
        go_wp2_with fail
        refine (CK.out _ (HT.out.below (B0.out _))).mono ?_
        rintro e w1 ⟨rfl, hb1⟩
        have B1 := (B0.out _).trans (hb1.mono (B0.out _).size)
        obtain ⟨hc1, hf1⟩ := bcell hb1
        clear CK
        go_wp2_with fail
        go_ret
        exact ⟨congrArg (fun b => Ending.returned (.bool b)) (decide_eq_false (by omega)), B1⟩
    by_cases h2 : ty = 2
    · subst h2
      by_cases hn : 0 ≤ n
      · have e : A = true := by rw [HE.out]; simp [hn]
        subst e
        clear HE IB h1
        go_enter Tryz.func53, Tryz.ntmps53
        go_wp2_with fail
        refine (CK.out _ (HT.out.below (B0.out _))).mono ?_
        rintro e w1 ⟨rfl, hb1⟩
        have B1 := (B0.out _).trans (hb1.mono (B0.out _).size)
        obtain ⟨hc1, hf1⟩ := bcell hb1
        clear CK
        go_wp2_with fail
        go_ret
        exact ⟨rfl, B1⟩
      · have e : A = false := by rw [HE.out]; simp [hn]
        subst e
        clear HE IB h1
        go_enter Tryz.func53, Tryz.ntmps53
        go_wp2_with fail
        refine (CK.out _ (HT.out.below (B0.out _))).mono ?_
        rintro e w1 ⟨rfl, hb1⟩
        have B1 := (B0.out _).trans (hb1.mono (B0.out _).size)
        obtain ⟨hc1, hf1⟩ := bcell hb1
        clear CK
        go_wp2_with fail
        go_ret
        exact ⟨congrArg (fun b => Ending.returned (.bool b)) (decide_eq_false (by omega)), B1⟩
    by_cases h3 : ty = 3
    · subst h3
      by_cases hn : ix < 0
      · have e : A = true := by rw [HE.out]; simp [hn]
        subst e
        clear HE h1 h2
        go_enter Tryz.func53, Tryz.ntmps53
        go_wp2_with fail
        refine (CK.out _ (HT.out.below (B0.out _))).mono ?_
        rintro e w1 ⟨rfl, hb1⟩
        have B1 := (B0.out _).trans (hb1.mono (B0.out _).size)
        obtain ⟨hc1, hf1⟩ := bcell hb1
        clear CK
        go_wp2_with fail
        refine (IB.out _).mono ?_
        rintro e w2 ⟨rfl, hb2⟩
        have B2 := B1.trans (hb2.mono B1.size)
        go_wp2_with fail
        go_ret
        exact ⟨rfl, B2⟩
      · have e : A = false := by rw [HE.out]; simp [hn]
        subst e
        clear HE h1 h2
        go_enter Tryz.func53, Tryz.ntmps53
        go_wp2_with fail
        refine (CK.out _ (HT.out.below (B0.out _))).mono ?_
        rintro e w1 ⟨rfl, hb1⟩
        have B1 := (B0.out _).trans (hb1.mono (B0.out _).size)
        obtain ⟨hc1, hf1⟩ := bcell hb1
        clear CK
        go_wp2_with fail
        refine (IB.out _).mono ?_
        rintro e w2 ⟨rfl, hb2⟩
        have B2 := B1.trans (hb2.mono B1.size)
        go_wp2_with fail
        go_ret
        exact ⟨congrArg (fun b => Ending.returned (.bool b)) (decide_eq_false (by omega)), B2⟩
    · have e : A = false := by rw [HE.out]; simp [h1, h2, h3]
      subst e
      have b1 : (ty == 1) = false := by rw [beq_eq_false_iff_ne]; exact h1
      have b2 : (ty == 2) = false := by rw [beq_eq_false_iff_ne]; exact h2
      have b3 : (ty == 3) = false := by rw [beq_eq_false_iff_ne]; exact h3
      clear HE IB h1 h2 h3
      go_enter Tryz.func53, Tryz.ntmps53
      go_wp2_with fail
      refine (CK.out _ (HT.out.below (B0.out _))).mono ?_
      rintro e w1 ⟨rfl, hb1⟩
      have B1 := (B0.out _).trans (hb1.mono (B0.out _).size)
      obtain ⟨hc1, hf1⟩ := bcell hb1
      clear CK
      go_wp2_with fail
      go_ret
      exact ⟨rfl, B1⟩
  · have e : A = false := by rw [HE.out]; simp [hc]
    subst e
    have b1 : (ck != 0) = true := by rw [bne_iff_ne]; exact hc
    clear HE IB hc
    go_enter Tryz.func53, Tryz.ntmps53
    go_wp2_with fail
    refine (CK.out _ (HT.out.below (B0.out _))).mono ?_
    rintro e w1 ⟨rfl, hb1⟩
    have B1 := (B0.out _).trans (hb1.mono (B0.out _).size)
    clear CK
    go_wp2_with fail
    go_ret
    exact ⟨rfl, B1⟩
end Go.Proofs.YtfcolecglobcdaaGreatDoor
namespace Go.Proofs.YtfcolecglobcdaaGreatDoor
open Go.RowKit Go.Shelf

theorem qd_dq : ∀ l : List UInt8, qd l = dq 39 l
  | [] => rfl
  | x :: r => by rw [qd, dq, qd_dq r]
theorem dec_zero (l : List UInt8) (hne : l ≠ []) (h : (Lib.decodeL l).1 = 0) : (0 : UInt8) ∈ l := by
  rw [Lib.decodeL_N] at h
  unfold Lib.decodeN at h
  by_cases h1 : (l.getD 0 0).toNat < 128
  · rw [if_pos h1] at h
    rcases l with _ | ⟨x, r⟩
    · exact absurd rfl hne
    · have e : x.toNat = 0 := h
      have : x = 0 := UInt8.toNat_inj.1 e
      rw [this]; exact List.mem_cons_self
  rw [if_neg h1] at h
  exfalso
  split at h
  · split at h
    · simp only at h; omega
    · simp at h
  · split at h
    · split at h
      · simp only at h; omega
      · simp at h
    · split at h
      · split at h
        · simp only at h; omega
        · simp at h
      · simp at h
theorem gd_valid (l : List UInt8) (hv : Lib.validD l = true) (h0 : (0 : UInt8) ∉ l) : badA l < 0 := by
  by_cases hl : l = []
  · subst hl; exact gd_nil
  · have hw := Lib.decodeL_width l
    have hle := Lib.decodeL_le l hl
    rw [Lib.validD_step l hl] at hv
    by_cases hb : (Lib.decodeL l).1 = 65533 ∧ (Lib.decodeL l).2 = 1
    · rw [if_pos hb] at hv; cases hv
    · rw [if_neg hb] at hv
      refine (gd_step hl).2 ⟨?_, gd_valid _ hv (fun e => h0 (List.mem_of_mem_drop e))⟩
      unfold badHere
      rw [decide_eq_false (fun e => h0 (dec_zero l hl e)), pre_repl]
      by_cases hr : (Lib.decodeL l).1 = 65533
      · by_cases hp : repl l = true
        · rw [hp]; simp
        · exact absurd ⟨hr, decode_bad l hr (by simpa using hp)⟩ hb
      · rw [decide_eq_false hr]; rfl
termination_by l.length
decreasing_by simp; omega
theorem ib_mem (l : List UInt8) : Lib.indexByte l 0 < 0 ↔ (0 : UInt8) ∉ l := by
  have hg := Lib.indexByte_ge l 0
  constructor
  · intro h hm
    obtain ⟨k, hk, e⟩ := List.mem_iff_getElem.1 hm
    exact Lib.indexByte_none (show Lib.indexByte l 0 = -1 by omega) k (by rw [List.getElem?_eq_getElem hk, e])
  · intro h
    by_cases h0 : Lib.indexByte l 0 < 0
    · exact h0
    · obtain ⟨o, ho⟩ : ∃ o : Nat, Lib.indexByte l 0 = o := ⟨(Lib.indexByte l 0).toNat, by omega⟩
      exact absurd (List.mem_of_getElem? (Lib.indexByte_some ho).1) h
/-- a token that came in -/
structure Ti where
  kind : Int
  text : List UInt8
  v : Va
  pos : Int
  line : Int
  col : Int
/-- there is such a token, an End left out -/
def okT (t : Ti) : Bool :=
  if t.kind = 1 ∨ t.kind = 4 then plB t.text else if t.kind = 2 then nmB t.text else if t.kind = 3 then cbL t.v.ty t.v.n t.v.s.data.toList
  else if t.kind = 5 then decide (t.text ≠ []) && decide (ssz t.text = t.text.length) else false
/-- how it is printed -/
def pnT (t : Ti) : List UInt8 :=
  if t.kind = 2 then 34 :: (qdq t.text ++ [34]) else if t.kind = 3 then prV t.v.ty t.v.n t.v.s else if t.kind = 4 then 58 :: t.text else t.text
/-- what it is read as -/
def rdT' (t : Ti) : Int × List UInt8 × Va := (t.kind, if t.kind = 3 then [] else t.text, if t.kind = 3 then pln t.v else v0)
theorem okT_one {t : Ti} (hf : fit t.v.n) (h : okT t = true) : One (pnT t) (rdT' t) := by
  obtain ⟨k, x, ⟨ty, n, s⟩, p, a, b⟩ := t
  unfold okT at h
  unfold pnT rdT'
  simp only at h hf ⊢
  by_cases h1 : k = 1
  · subst h1
    simp only [true_or, if_true] at h
    obtain ⟨y, r, e, _⟩ := pl_open h
    refine ⟨?_, ?_, by simp⟩
    · exact rd_word h
    · show x ≠ []
      rw [e]; simp
  by_cases h4 : k = 4
  · subst h4
    simp only [or_true, if_true] at h
    refine ⟨?_, ?_, by simp⟩
    · have := rd_param h
      simpa using this
    · show 58 :: x ≠ []
      simp
  rw [if_neg (by omega)] at h
  by_cases h2 : k = 2
  · subst h2
    simp only [if_true] at h
    refine ⟨?_, ?_, by simp⟩
    · have := rd_quoted h
      rw [dq_qdq] at this
      simpa using this
    · show 34 :: _ ≠ []
      simp
  rw [if_neg h2] at h
  by_cases h3 : k = 3
  · subst h3
    simp only [if_true] at h ⊢
    unfold cbL at h
    rw [Bool.and_eq_true, decide_eq_true_eq] at h
    obtain ⟨hc, h⟩ := h
    rw [← bytes_of s] at hc
    by_cases t1 : ty = 1
    · subst t1
      simp only [true_or, if_true, decide_eq_true_eq] at h
      refine ⟨?_, ?_, by simp⟩
      · have := rd_itoa hf h
        simpa [prV, pln] using this
      · show Lib.itoa n ≠ []
        rw [itoa_eq, if_neg (by omega)]
        exact dd_ne _
    by_cases t2 : ty = 2
    · subst t2
      simp only [or_true, if_true, decide_eq_true_eq] at h
      refine ⟨?_, ?_, by simp⟩
      · have := rd_decL hf h
        simpa [prV, pln] using this
      · show decL n ≠ []
        unfold decL
        simp
    rw [if_neg (by omega)] at h
    by_cases t3 : ty = 3
    · subst t3
      simp only [if_true, decide_eq_true_eq] at h
      rw [chk_text] at hc
      obtain ⟨hz, hv⟩ := chkT_zero hc
      have hl : s.data.toList.length ≤ 4096 := by rw [Array.length_toList]; exact hz
      refine ⟨?_, ?_, by simp⟩
      · have := rd_text hl (gd_valid _ hv ((ib_mem _).1 h))
        rw [← qd_dq, ← bytes_of s] at this
        simpa [prV, pln] using this
      · show 39 :: _ ≠ []
        simp
    · rw [if_neg t3] at h; cases h
  rw [if_neg h3] at h
  by_cases h5 : k = 5
  · subst h5
    simp only [if_true, Bool.and_eq_true, decide_eq_true_eq] at h
    exact ⟨rd_sign h.1 h.2, h.1, by simp⟩
  · rw [if_neg h5] at h; cases h
theorem itoa_len {n : Int} (hf : fit n) (h0 : 0 ≤ n) : (Lib.itoa n).length ≤ 20 := by
  have := abs_lt hf
  rw [itoa_eq, if_neg (by omega)]
  exact dd_len (by omega)
theorem decL_len {n : Int} (hf : fit n) (h0 : 0 ≤ n) : (decL n).length ≤ 30 := by
  have := abs_lt hf
  have hl := dd_len (u := n.natAbs / 10000) (by omega)
  have k := (fdS_ok (f := n.natAbs % 10000) (Nat.mod_lt _ (by decide))).2.1
  unfold decL
  rw [if_neg (by omega)]
  simp; omega
theorem pnT_len {t : Ti} (hf : fit t.v.n) (h : okT t = true) : (pnT t).length ≤ 8194 := by
  obtain ⟨k, x, ⟨ty, n, s⟩, p, a, b⟩ := t
  unfold okT at h
  unfold pnT
  simp only at h hf ⊢
  by_cases h1 : k = 1 ∨ k = 4
  · rw [if_pos h1] at h
    obtain ⟨_, _, _, _, _, hl, _⟩ := pl_open h
    rw [if_neg (by omega), if_neg (by omega)]
    split
    · simp; omega
    · omega
  rw [if_neg h1] at h
  by_cases h2 : k = 2
  · rw [if_pos h2] at h
    have h3 := nm_len h
    have h4 := qdq_len x
    rw [if_pos h2]
    simp; omega
  rw [if_neg h2] at h
  rw [if_neg h2]
  by_cases h3 : k = 3
  · rw [if_pos h3] at h
    rw [if_pos h3]
    unfold cbL at h
    rw [Bool.and_eq_true, decide_eq_true_eq] at h
    obtain ⟨hc, h⟩ := h
    rw [← bytes_of s] at hc
    unfold prV
    by_cases t1 : ty = 1
    · rw [if_pos (Or.inl t1), decide_eq_true_eq] at h
      rw [if_pos t1]
      have := itoa_len hf h
      omega
    by_cases t2 : ty = 2
    · rw [if_pos (Or.inr t2), decide_eq_true_eq] at h
      rw [if_neg t1, if_pos t2]
      have := decL_len hf h
      omega
    rw [if_neg (by omega)] at h
    by_cases t3 : ty = 3
    · subst t3
      rw [chk_text] at hc
      obtain ⟨hz, _⟩ := chkT_zero hc
      have hl : s.data.toList.length ≤ 4096 := by rw [Array.length_toList]; exact hz
      have := qd_len s.data.toList
      rw [if_neg t1, if_neg t2, if_pos rfl]
      simp only [List.length_cons, List.length_append, List.length_nil]; omega
    · rw [if_neg t3] at h; cases h
  rw [if_neg h3] at h
  rw [if_neg h3, if_neg (by omega)]
  by_cases h5 : k = 5
  · rw [if_pos h5] at h
    simp only [Bool.and_eq_true, decide_eq_true_eq] at h
    have hm := ssF_mem x h.1 sgs h.2
    have : ∀ g ∈ sgs, g.length ≤ 2 := by decide
    have := this x hm
    omega
  · rw [if_neg h5] at h; cases h
theorem jn_cons (p : List UInt8) (l : List (List UInt8)) : jn (p :: l) = p ++ (l.map (32 :: ·)).flatten := by
  induction l generalizing p with
  | nil => simp [jn]
  | cons q r ih => rw [jn, ih q]; simp
theorem jn_join : ∀ l : List (List UInt8), Lib.join l [32] = jn l
  | [] => rfl
  | p :: l => by rw [Lib.join_cons, jn_cons]; rfl
theorem jn_len : ∀ l : List (List UInt8), (∀ p ∈ l, p.length ≤ 8194) → (jn l).length ≤ 8195 * l.length
  | [], _ => by simp [jn]
  | [p], h => by have := h p (by simp); simp only [jn, List.length_cons, List.length_nil]; omega
  | p :: q :: r, h => by
    have h1 := h p (by simp)
    have h2 := jn_len (q :: r) (fun x hx => h x (List.mem_cons_of_mem _ hx))
    rw [jn, List.length_append, List.length_cons, List.length_cons (a := p)]
    omega
/-- one more at the end -/
theorem jn_snoc (l : List (List UInt8)) (p : List UInt8) : jn (l ++ [p]) = (if l = [] then [] else jn l ++ [32]) ++ p := by
  rcases l with _ | ⟨q, r⟩
  · simp [jn]
  · rw [List.cons_append, jn_cons, if_neg (by simp), jn_cons]
    simp
/-- an End at the end is left out -/
def cutE (l : List Ti) : List Ti := if l.getLast?.map (·.kind) = some 6 then l.dropLast else l
/-- what Print answers -/
def pnS (l : List Ti) : List UInt8 := if 16384 < l.length then [] else if (cutE l).all okT = true then jn ((cutE l).map pnT) else []
def pnE (l : List Ti) : Int := if 16384 < l.length then 1 else if (cutE l).all okT = true then 0 else 1
theorem pn_ok {l : List Ti} (h : pnE l = 0) : l.length ≤ 16384 ∧ (cutE l).all okT = true ∧ pnS l = jn ((cutE l).map pnT) := by
  unfold pnE at h
  unfold pnS
  by_cases h1 : 16384 < l.length
  · rw [if_pos h1] at h; cases h
  · rw [if_neg h1] at h ⊢
    by_cases h2 : (cutE l).all okT = true
    · rw [if_pos h2]; exact ⟨by omega, h2, rfl⟩
    · rw [if_neg h2] at h; cases h
/-- what is printed is read as what it was -/
theorem pn_read {l : List Ti} (hf : ∀ t ∈ l, fit t.v.n) (h : pnE l = 0) (hl : (pnS l).length ≤ 65536) : (tks (pnS l)).why = 0 ∧ (tks (pnS l)).l.map bare = (cutE l).map rdT' ++ [(6, [], v0)] := by
  obtain ⟨_, h2, h3⟩ := pn_ok h
  have hmem : ∀ t ∈ cutE l, t ∈ l := by
    unfold cutE
    split
    · exact fun t ht => List.dropLast_subset l ht
    · exact fun t ht => ht
  have h4 := tb_jn ((cutE l).map fun t => (pnT t, rdT' t)) (by
    intro x hx
    obtain ⟨t, ht, rfl⟩ := List.mem_map.1 hx
    exact okT_one (hf t (hmem t ht)) (List.all_eq_true.1 h2 t ht))
  rw [List.map_map, List.map_map] at h4
  have e1 : (Prod.fst ∘ fun t : Ti => (pnT t, rdT' t)) = pnT := rfl
  have e2 : (Prod.snd ∘ fun t : Ti => (pnT t, rdT' t)) = rdT' := rfl
  rw [e1, e2, ← h3] at h4
  rw [tks_short hl]
  have h5 := congrArg Prod.fst h4
  have h6 := congrArg Prod.snd h4
  exact ⟨h6, h5⟩
end Go.Proofs.YtfcolecglobcdaaGreatDoor
namespace Go.Proofs.YtfcolecglobcdaaGreatDoor
open Go.RowKit Go.Shelf

/-- two tokens' blocks -/
structure S3 (w : World) (x0 x1 x2 x3 x4 x5 x6 x7 y0 y1 y2 y3 y4 y5 y6 y7 : Value) (w' : World) : Prop where
  b : Below w.heap.size w w'
  x : R8 w' w.heap.size x0 x1 x2 x3 x4 x5 x6 x7
  y : R8 w' (w.heap.size + 1) y0 y1 y2 y3 y4 y5 y6 y7
theorem S3.next {w : World} {x0 x1 x2 x3 x4 x5 x6 x7 y0 y1 y2 y3 y4 y5 y6 y7 : Value} {w' w'' : World} (h : S3 w x0 x1 x2 x3 x4 x5 x6 x7 y0 y1 y2 y3 y4 y5 y6 y7 w') (hb : Below w'.heap.size w' w'') : S3 w x0 x1 x2 x3 x4 x5 x6 x7 y0 y1 y2 y3 y4 y5 y6 y7 w'' := ⟨h.b.trans (hb.mono h.b.size), h.x.below hb, h.y.below hb⟩
theorem S3.drew {w : World} {x0 x1 x2 x3 x4 x5 x6 x7 y0 y1 y2 y3 y4 y5 y6 y7 : Value} {w' : World} (h : S3 w x0 x1 x2 x3 x4 x5 x6 x7 y0 y1 y2 y3 y4 y5 y6 y7 w') : S3 w x0 x1 x2 x3 x4 x5 x6 x7 y0 y1 y2 y3 y4 y5 y6 y7 w'.drew := h.next (below_drewN (Below.refl _ w') 1)
theorem S3.new (w : World) (t : TypeId) (x0 x1 x2 x3 x4 x5 x6 x7 y0 y1 y2 y3 y4 y5 y6 y7 : Value) : S3 w x0 x1 x2 x3 x4 x5 x6 x7 y0 y1 y2 y3 y4 y5 y6 y7 ((w.alloc (.cells #[x0, x1, x2, x3, x4, x5, x6, x7] t)).alloc (.cells #[y0, y1, y2, y3, y4, y5, y6, y7] t)) := by
  have hz1 : (w.alloc (.cells #[x0, x1, x2, x3, x4, x5, x6, x7] t)).heap.size = w.heap.size + 1 := by simp
  refine ⟨((Below.refl _ w).alloc (Nat.le_refl _) _).alloc (by rw [hz1]; omega) _, (R8.new w t x0 x1 x2 x3 x4 x5 x6 x7).alloc _, ?_⟩
  have h := R8.new (w.alloc (.cells #[x0, x1, x2, x3, x4, x5, x6, x7] t)) t y0 y1 y2 y3 y4 y5 y6 y7
  rw [hz1] at h
  exact h
set_option maxHeartbeats 2000000 in
set_option maxRecDepth 1000000 in
theorem same_loose (kd : Int) (tx tz : List UInt8) (v u : Va) (p a b : Nat) (p' a' b' : Int) (w : World) (hl : kd = 3 → pln v = pln u) (ht : kd ≠ 3 → tx = tz) : Calls Tryz.prog 38 #[.agg #[.int .i64 kd, .string ⟨tx.toArray⟩, .int .i64 v.ty, .int .i64 v.n, .string v.s, .int .i64 (p : Nat), .int .i64 (a : Nat), .int .i64 (b : Nat)], .agg #[.int .i64 kd, .string ⟨tz.toArray⟩, .int .i64 u.ty, .int .i64 u.n, .string u.s, .int .i64 p', .int .i64 a', .int .i64 b'], .bool false] w fun e w' => e = .returned (.bool true) ∧ Below w.heap.size w w' := by
  have PL0 : ∀ w, Calls Tryz.prog 61 #[.agg #[.int .i64 v.ty, .int .i64 v.n, .string v.s]] w fun e w' => e = .returned (.agg #[.int .i64 (pln v).ty, .int .i64 (pln v).n, .string (pln v).s]) ∧ Below w.heap.size w w' := fun w => Plain_any v w
  have PU0 : ∀ w, Calls Tryz.prog 61 #[.agg #[.int .i64 u.ty, .int .i64 u.n, .string u.s]] w fun e w' => e = .returned (.agg #[.int .i64 (pln u).ty, .int .i64 (pln u).n, .string (pln u).s]) ∧ Below w.heap.size w w' := fun w => Plain_any u w
  by_cases h3 : kd = 3
  · have hl := hl h3
    rw [← hl] at PU0
    clear hl ht
    generalize pln v = q at PL0 PU0
    obtain ⟨vt, vn, vs⟩ := v
    obtain ⟨ut, un, us⟩ := u
    obtain ⟨qt, qn, qs⟩ := q
    have PL : Hid (∀ w, Calls Tryz.prog 61 #[.agg #[.int .i64 vt, .int .i64 vn, .string vs]] w fun e w' => e = .returned (.agg #[.int .i64 qt, .int .i64 qn, .string qs]) ∧ Below w.heap.size w w') := PL0
    have PU : Hid (∀ w, Calls Tryz.prog 61 #[.agg #[.int .i64 ut, .int .i64 un, .string us]] w fun e w' => e = .returned (.agg #[.int .i64 qt, .int .i64 qn, .string qs]) ∧ Below w.heap.size w w') := PU0
    clear PL0 PU0
    simp only
    have k3 : (kd != 3) = false := by rw [h3]; rfl
    have k3' : (kd == 3) = true := by rw [h3]; rfl
    clear h3
    have n0 := S3.new w 37 (.int .i64 kd) (.string ⟨tx.toArray⟩) (.int .i64 vt) (.int .i64 vn) (.string vs) (.int .i64 (p : Nat)) (.int .i64 (a : Nat)) (.int .i64 (b : Nat)) (.int .i64 kd) (.string ⟨tz.toArray⟩) (.int .i64 ut) (.int .i64 un) (.string us) (.int .i64 p') (.int .i64 a') (.int .i64 b')
    go_enter Tryz.func38, Tryz.ntmps38
    go_wp2_with fail
    generalize (w.alloc (.cells #[.int .i64 kd, .string ⟨tx.toArray⟩, .int .i64 vt, .int .i64 vn, .string vs, .int .i64 (p : Nat), .int .i64 (a : Nat), .int .i64 (b : Nat)] 37)).alloc (.cells #[.int .i64 kd, .string ⟨tz.toArray⟩, .int .i64 ut, .int .i64 un, .string us, .int .i64 p', .int .i64 a', .int .i64 b'] 37) = w2 at *
    refine wp_region_noPanic ?_
    refine wp_region_held_drew (S := fun w' => S3 w (.int .i64 kd) (.string ⟨tx.toArray⟩) (.int .i64 vt) (.int .i64 vn) (.string vs) (.int .i64 (p : Nat)) (.int .i64 (a : Nat)) (.int .i64 (b : Nat)) (.int .i64 kd) (.string ⟨tz.toArray⟩) (.int .i64 ut) (.int .i64 un) (.string us) (.int .i64 p') (.int .i64 a') (.int .i64 b') w') (by kernel_rfl) (n0.drew) (fun hH => ?_)
    refine take_at (i := 0) (v := .pointer (some ⟨w.heap.size, 0, none⟩)) rfl rfl (by kernel_rfl) (by kernel_rfl) (by kernel_rfl) (fun _ _ _ h => h) (Or.inl ⟨by rfl, ?_⟩) hH ?_
    · intro w hSw; (try dsimp only at hSw); obtain ⟨_, a0, a1, a2, a3, a4, _, _, _, _, _, _, _, _, _, _, _⟩ := hSw.x; obtain ⟨_, d0, d1, d2, d3, d4, _, _, _, _, _, _, _, _, _, _, _⟩ := hSw.y; go_simp
    simp only [List.setIfInBounds_toArray, List.set_cons_zero, List.set_cons_succ]
    refine take_at (i := 1) (v := .int .i64 kd) rfl rfl (by kernel_rfl) (by kernel_rfl) (by kernel_rfl) (fun _ _ _ h => h) (Or.inl ⟨by rfl, ?_⟩) hH ?_
    · intro w hSw; (try dsimp only at hSw); obtain ⟨_, a0, a1, a2, a3, a4, _, _, _, _, _, _, _, _, _, _, _⟩ := hSw.x; obtain ⟨_, d0, d1, d2, d3, d4, _, _, _, _, _, _, _, _, _, _, _⟩ := hSw.y; go_simp
    simp only [List.setIfInBounds_toArray, List.set_cons_zero, List.set_cons_succ]
    refine take_at (i := 2) (v := .pointer (some ⟨w.heap.size + 1, 0, none⟩)) rfl rfl (by kernel_rfl) (by kernel_rfl) (by kernel_rfl) (fun _ _ _ h => h) (Or.inl ⟨by rfl, ?_⟩) hH ?_
    · intro w hSw; (try dsimp only at hSw); obtain ⟨_, a0, a1, a2, a3, a4, _, _, _, _, _, _, _, _, _, _, _⟩ := hSw.x; obtain ⟨_, d0, d1, d2, d3, d4, _, _, _, _, _, _, _, _, _, _, _⟩ := hSw.y; go_simp
    simp only [List.setIfInBounds_toArray, List.set_cons_zero, List.set_cons_succ]
    refine take_at (i := 3) (v := .int .i64 kd) rfl rfl (by kernel_rfl) (by kernel_rfl) (by kernel_rfl) (fun _ _ _ h => h) (Or.inl ⟨by rfl, ?_⟩) hH ?_
    · intro w hSw; (try dsimp only at hSw); obtain ⟨_, a0, a1, a2, a3, a4, _, _, _, _, _, _, _, _, _, _, _⟩ := hSw.x; obtain ⟨_, d0, d1, d2, d3, d4, _, _, _, _, _, _, _, _, _, _, _⟩ := hSw.y; go_simp
    simp only [List.setIfInBounds_toArray, List.set_cons_zero, List.set_cons_succ]
    refine take_at (i := 4) (v := .bool false) rfl rfl (by kernel_rfl) (by kernel_rfl) (by kernel_rfl) (fun _ _ _ h => h) (Or.inl ⟨by rfl, ?_⟩) hH ?_
    · intro w hSw; (try dsimp only at hSw); obtain ⟨_, a0, a1, a2, a3, a4, _, _, _, _, _, _, _, _, _, _, _⟩ := hSw.x; obtain ⟨_, d0, d1, d2, d3, d4, _, _, _, _, _, _, _, _, _, _, _⟩ := hSw.y; go_simp
    simp only [List.setIfInBounds_toArray, List.set_cons_zero, List.set_cons_succ]
    refine take_at (i := 5) (v := .bool false) rfl rfl (by kernel_rfl) (by kernel_rfl) (by kernel_rfl) (fun _ _ _ h => h) (Or.inl ⟨by rfl, ?_⟩) hH ?_
    · intro w hSw; (try dsimp only at hSw); obtain ⟨_, a0, a1, a2, a3, a4, _, _, _, _, _, _, _, _, _, _, _⟩ := hSw.x; obtain ⟨_, d0, d1, d2, d3, d4, _, _, _, _, _, _, _, _, _, _, _⟩ := hSw.y; go_simp
    simp only [List.setIfInBounds_toArray, List.set_cons_zero, List.set_cons_succ]
    refine take_at (i := 6) (v := .pointer (some ⟨w.heap.size, 0, none⟩)) rfl rfl (by kernel_rfl) (by kernel_rfl) (by kernel_rfl) (fun _ _ _ h => h) (Or.inl ⟨by rfl, ?_⟩) hH ?_
    · intro w hSw; (try dsimp only at hSw); obtain ⟨_, a0, a1, a2, a3, a4, _, _, _, _, _, _, _, _, _, _, _⟩ := hSw.x; obtain ⟨_, d0, d1, d2, d3, d4, _, _, _, _, _, _, _, _, _, _, _⟩ := hSw.y; go_simp
    simp only [List.setIfInBounds_toArray, List.set_cons_zero, List.set_cons_succ]
    refine take_at (i := 7) (v := .int .i64 kd) rfl rfl (by kernel_rfl) (by kernel_rfl) (by kernel_rfl) (fun _ _ _ h => h) (Or.inl ⟨by rfl, ?_⟩) hH ?_
    · intro w hSw; (try dsimp only at hSw); obtain ⟨_, a0, a1, a2, a3, a4, _, _, _, _, _, _, _, _, _, _, _⟩ := hSw.x; obtain ⟨_, d0, d1, d2, d3, d4, _, _, _, _, _, _, _, _, _, _, _⟩ := hSw.y; go_simp
    simp only [List.setIfInBounds_toArray, List.set_cons_zero, List.set_cons_succ]
    refine take_at (i := 8) (v := .bool false) rfl rfl (by kernel_rfl) (by kernel_rfl) (by kernel_rfl) (fun _ _ _ h => h) (Or.inl ⟨by rfl, ?_⟩) hH ?_
    · intro w hSw; (try dsimp only at hSw); obtain ⟨_, a0, a1, a2, a3, a4, _, _, _, _, _, _, _, _, _, _, _⟩ := hSw.x; obtain ⟨_, d0, d1, d2, d3, d4, _, _, _, _, _, _, _, _, _, _, _⟩ := hSw.y; go_simp
    simp only [List.setIfInBounds_toArray, List.set_cons_zero, List.set_cons_succ]
    refine take_at (i := 9) (v := .bool false) rfl rfl (by kernel_rfl) (by kernel_rfl) (by kernel_rfl) (fun _ _ _ h => h) (Or.inl ⟨by rfl, ?_⟩) hH ?_
    · intro w hSw; (try dsimp only at hSw); obtain ⟨_, a0, a1, a2, a3, a4, _, _, _, _, _, _, _, _, _, _, _⟩ := hSw.x; obtain ⟨_, d0, d1, d2, d3, d4, _, _, _, _, _, _, _, _, _, _, _⟩ := hSw.y; go_simp
    simp only [List.setIfInBounds_toArray, List.set_cons_zero, List.set_cons_succ]
    refine take_at (i := 10) (v := undef) rfl rfl (by kernel_rfl) (by kernel_rfl) (by kernel_rfl) (fun _ _ _ h => h) (Or.inr ⟨by rfl, rfl⟩) hH ?_
    simp only [List.setIfInBounds_toArray, List.set_cons_zero, List.set_cons_succ]
    refine take_at (i := 11) (v := undef) rfl rfl (by kernel_rfl) (by kernel_rfl) (by kernel_rfl) (fun _ _ _ h => h) (Or.inr ⟨by rfl, rfl⟩) hH ?_
    simp only [List.setIfInBounds_toArray, List.set_cons_zero, List.set_cons_succ]
    refine take_at (i := 12) (v := undef) rfl rfl (by kernel_rfl) (by kernel_rfl) (by kernel_rfl) (fun _ _ _ h => h) (Or.inr ⟨by rfl, rfl⟩) hH ?_
    simp only [List.setIfInBounds_toArray, List.set_cons_zero, List.set_cons_succ]
    refine take_at (i := 13) (v := .bool false) rfl rfl (by kernel_rfl) (by kernel_rfl) (by kernel_rfl) (fun _ _ _ h => h) (Or.inl ⟨by rfl, ?_⟩) hH ?_
    · intro w hSw; (try dsimp only at hSw); obtain ⟨_, a0, a1, a2, a3, a4, _, _, _, _, _, _, _, _, _, _, _⟩ := hSw.x; obtain ⟨_, d0, d1, d2, d3, d4, _, _, _, _, _, _, _, _, _, _, _⟩ := hSw.y; go_simp
    simp only [List.setIfInBounds_toArray, List.set_cons_zero, List.set_cons_succ]
    refine take_at (i := 14) (v := .bool false) rfl rfl (by kernel_rfl) (by kernel_rfl) (by kernel_rfl) (fun _ _ _ h => h) (Or.inl ⟨by rfl, ?_⟩) hH ?_
    · intro w hSw; (try dsimp only at hSw); obtain ⟨_, a0, a1, a2, a3, a4, _, _, _, _, _, _, _, _, _, _, _⟩ := hSw.x; obtain ⟨_, d0, d1, d2, d3, d4, _, _, _, _, _, _, _, _, _, _, _⟩ := hSw.y; go_simp
    simp only [List.setIfInBounds_toArray, List.set_cons_zero, List.set_cons_succ]
    refine take_at (i := 15) (v := undef) rfl rfl (by kernel_rfl) (by kernel_rfl) (by kernel_rfl) (fun _ _ _ h => h) (Or.inr ⟨by rfl, rfl⟩) hH ?_
    simp only [List.setIfInBounds_toArray, List.set_cons_zero, List.set_cons_succ]
    refine take_at (i := 16) (v := undef) rfl rfl (by kernel_rfl) (by kernel_rfl) (by kernel_rfl) (fun _ _ _ h => h) (Or.inr ⟨by rfl, rfl⟩) hH ?_
    simp only [List.setIfInBounds_toArray, List.set_cons_zero, List.set_cons_succ]
    refine take_at (i := 17) (v := undef) rfl rfl (by kernel_rfl) (by kernel_rfl) (by kernel_rfl) (fun _ _ _ h => h) (Or.inr ⟨by rfl, rfl⟩) hH ?_
    simp only [List.setIfInBounds_toArray, List.set_cons_zero, List.set_cons_succ]
    refine take_at (i := 18) (v := undef) rfl rfl (by kernel_rfl) (by kernel_rfl) (by kernel_rfl) (fun _ _ _ h => h) (Or.inr ⟨by rfl, rfl⟩) hH ?_
    simp only [List.setIfInBounds_toArray, List.set_cons_zero, List.set_cons_succ]
    refine take_at (i := 19) (v := undef) rfl rfl (by kernel_rfl) (by kernel_rfl) (by kernel_rfl) (fun _ _ _ h => h) (Or.inr ⟨by rfl, rfl⟩) hH ?_
    simp only [List.setIfInBounds_toArray, List.set_cons_zero, List.set_cons_succ]
    refine take_at (i := 20) (v := .bool false) rfl rfl (by kernel_rfl) (by kernel_rfl) (by kernel_rfl) (fun _ _ _ h => h) (Or.inl ⟨by rfl, ?_⟩) hH ?_
    · intro w hSw; (try dsimp only at hSw); obtain ⟨_, a0, a1, a2, a3, a4, _, _, _, _, _, _, _, _, _, _, _⟩ := hSw.x; obtain ⟨_, d0, d1, d2, d3, d4, _, _, _, _, _, _, _, _, _, _, _⟩ := hSw.y; go_simp
    simp only [List.setIfInBounds_toArray, List.set_cons_zero, List.set_cons_succ]
    refine take_at (i := 21) (v := .bool false) rfl rfl (by kernel_rfl) (by kernel_rfl) (by kernel_rfl) (fun _ _ _ h => h) (Or.inl ⟨by rfl, ?_⟩) hH ?_
    · intro w hSw; (try dsimp only at hSw); obtain ⟨_, a0, a1, a2, a3, a4, _, _, _, _, _, _, _, _, _, _, _⟩ := hSw.x; obtain ⟨_, d0, d1, d2, d3, d4, _, _, _, _, _, _, _, _, _, _, _⟩ := hSw.y; go_simp
    simp only [List.setIfInBounds_toArray, List.set_cons_zero, List.set_cons_succ]
    refine take_at (i := 22) (v := .bool false) rfl rfl (by kernel_rfl) (by kernel_rfl) (by kernel_rfl) (fun _ _ _ h => h) (Or.inl ⟨by rfl, ?_⟩) hH ?_
    · intro w hSw; (try dsimp only at hSw); obtain ⟨_, a0, a1, a2, a3, a4, _, _, _, _, _, _, _, _, _, _, _⟩ := hSw.x; obtain ⟨_, d0, d1, d2, d3, d4, _, _, _, _, _, _, _, _, _, _, _⟩ := hSw.y; go_simp
    simp only [List.setIfInBounds_toArray, List.set_cons_zero, List.set_cons_succ]
    refine take_at (i := 23) (v := .pointer (some ⟨w.heap.size, 0, none⟩)) rfl rfl (by kernel_rfl) (by kernel_rfl) (by kernel_rfl) (fun _ _ _ h => h) (Or.inl ⟨by rfl, ?_⟩) hH ?_
    · intro w hSw; (try dsimp only at hSw); obtain ⟨_, a0, a1, a2, a3, a4, _, _, _, _, _, _, _, _, _, _, _⟩ := hSw.x; obtain ⟨_, d0, d1, d2, d3, d4, _, _, _, _, _, _, _, _, _, _, _⟩ := hSw.y; go_simp
    simp only [List.setIfInBounds_toArray, List.set_cons_zero, List.set_cons_succ]
    refine take_at (i := 24) (v := .int .i64 kd) rfl rfl (by kernel_rfl) (by kernel_rfl) (by kernel_rfl) (fun _ _ _ h => h) (Or.inl ⟨by rfl, ?_⟩) hH ?_
    · intro w hSw; (try dsimp only at hSw); obtain ⟨_, a0, a1, a2, a3, a4, _, _, _, _, _, _, _, _, _, _, _⟩ := hSw.x; obtain ⟨_, d0, d1, d2, d3, d4, _, _, _, _, _, _, _, _, _, _, _⟩ := hSw.y; go_simp
    simp only [List.setIfInBounds_toArray, List.set_cons_zero, List.set_cons_succ]
    refine take_at (i := 25) (v := .bool true) rfl rfl (by kernel_rfl) (by kernel_rfl) (by kernel_rfl) (fun _ _ _ h => h) (Or.inl ⟨by rfl, ?_⟩) hH ?_
    · intro w hSw; (try dsimp only at hSw); obtain ⟨_, a0, a1, a2, a3, a4, _, _, _, _, _, _, _, _, _, _, _⟩ := hSw.x; obtain ⟨_, d0, d1, d2, d3, d4, _, _, _, _, _, _, _, _, _, _, _⟩ := hSw.y; go_simp
    simp only [List.setIfInBounds_toArray, List.set_cons_zero, List.set_cons_succ]
    refine take_at (i := 26) (v := .bool true) rfl rfl (by kernel_rfl) (by kernel_rfl) (by kernel_rfl) (fun _ _ _ h => h) (Or.inl ⟨by rfl, ?_⟩) hH ?_
    · intro w hSw; (try dsimp only at hSw); obtain ⟨_, a0, a1, a2, a3, a4, _, _, _, _, _, _, _, _, _, _, _⟩ := hSw.x; obtain ⟨_, d0, d1, d2, d3, d4, _, _, _, _, _, _, _, _, _, _, _⟩ := hSw.y; go_simp
    simp only [List.setIfInBounds_toArray, List.set_cons_zero, List.set_cons_succ]
    refine take_at (i := 27) (v := .pointer (some ⟨w.heap.size, 2, none⟩)) rfl rfl (by kernel_rfl) (by kernel_rfl) (by kernel_rfl) (fun _ _ _ h => h) (Or.inl ⟨by rfl, ?_⟩) hH ?_
    · intro w hSw; (try dsimp only at hSw); obtain ⟨_, a0, a1, a2, a3, a4, _, _, _, _, _, _, _, _, _, _, _⟩ := hSw.x; obtain ⟨_, d0, d1, d2, d3, d4, _, _, _, _, _, _, _, _, _, _, _⟩ := hSw.y; go_simp
    simp only [List.setIfInBounds_toArray, List.set_cons_zero, List.set_cons_succ]
    refine take_at (i := 28) (v := .agg #[.int .i64 vt, .int .i64 vn, .string vs]) rfl rfl (by kernel_rfl) (by kernel_rfl) (by kernel_rfl) (fun _ _ _ h => h) (Or.inl ⟨by rfl, ?_⟩) hH ?_
    · intro w hSw; (try dsimp only at hSw); obtain ⟨_, a0, a1, a2, a3, a4, _, _, _, _, _, _, _, _, _, _, _⟩ := hSw.x; obtain ⟨_, d0, d1, d2, d3, d4, _, _, _, _, _, _, _, _, _, _, _⟩ := hSw.y; go_simp
    simp only [List.setIfInBounds_toArray, List.set_cons_zero, List.set_cons_succ]
    refine take_at (i := 30) (v := .pointer (some ⟨w.heap.size + 1, 2, none⟩)) rfl rfl (by kernel_rfl) (by kernel_rfl) (by kernel_rfl) (fun _ _ _ h => h) (Or.inl ⟨by rfl, ?_⟩) hH ?_
    · intro w hSw; (try dsimp only at hSw); obtain ⟨_, a0, a1, a2, a3, a4, _, _, _, _, _, _, _, _, _, _, _⟩ := hSw.x; obtain ⟨_, d0, d1, d2, d3, d4, _, _, _, _, _, _, _, _, _, _, _⟩ := hSw.y; go_simp
    simp only [List.setIfInBounds_toArray, List.set_cons_zero, List.set_cons_succ]
    refine take_at (i := 31) (v := .agg #[.int .i64 ut, .int .i64 un, .string us]) rfl rfl (by kernel_rfl) (by kernel_rfl) (by kernel_rfl) (fun _ _ _ h => h) (Or.inl ⟨by rfl, ?_⟩) hH ?_
    · intro w hSw; (try dsimp only at hSw); obtain ⟨_, a0, a1, a2, a3, a4, _, _, _, _, _, _, _, _, _, _, _⟩ := hSw.x; obtain ⟨_, d0, d1, d2, d3, d4, _, _, _, _, _, _, _, _, _, _, _⟩ := hSw.y; go_simp
    simp only [List.setIfInBounds_toArray, List.set_cons_zero, List.set_cons_succ]
    refine wpAnyH_ready (rs := [29]) (by kernel_rfl) (by simp) ?_
    refine AllReadyH.cons rfl (fun K hK => ?_) AllReadyH.nil
    go_simp
    go_at_call 61
    refine (PL.out _).mono ?_
    rintro e w3 ⟨rfl, hb3⟩
    go_wp2_with fail
    refine hK.out _ _ (hH.next hb3) (fun hH3 => ?_)
    clear hK K
    clear hH
    refine wpAnyH_ready (rs := [32]) (by kernel_rfl) (by simp) ?_
    refine AllReadyH.cons rfl (fun K hK => ?_) AllReadyH.nil
    go_simp
    go_at_call 61
    refine (PU.out _).mono ?_
    rintro e w4 ⟨rfl, hb4⟩
    go_wp2_with fail
    refine hK.out _ _ (hH3.next hb4) (fun hH4 => ?_)
    clear hK K
    clear hH3
    refine take_at (i := 33) (v := .bool false) rfl rfl (by kernel_rfl) (by kernel_rfl) (by kernel_rfl) (fun _ _ _ h => h) (Or.inl ⟨by rfl, ?_⟩) hH4 ?_
    · intro w hSw; (try dsimp only at hSw); obtain ⟨_, a0, a1, a2, a3, a4, _, _, _, _, _, _, _, _, _, _, _⟩ := hSw.x; obtain ⟨_, d0, d1, d2, d3, d4, _, _, _, _, _, _, _, _, _, _, _⟩ := hSw.y; go_simp
    simp only [List.setIfInBounds_toArray, List.set_cons_zero, List.set_cons_succ]
    refine take_at (i := 34) (v := .bool false) rfl rfl (by kernel_rfl) (by kernel_rfl) (by kernel_rfl) (fun _ _ _ h => h) (Or.inl ⟨by rfl, ?_⟩) hH4 ?_
    · intro w hSw; (try dsimp only at hSw); obtain ⟨_, a0, a1, a2, a3, a4, _, _, _, _, _, _, _, _, _, _, _⟩ := hSw.x; obtain ⟨_, d0, d1, d2, d3, d4, _, _, _, _, _, _, _, _, _, _, _⟩ := hSw.y; go_simp
    simp only [List.setIfInBounds_toArray, List.set_cons_zero, List.set_cons_succ]
    refine take_at (i := 35) (v := .bool false) rfl rfl (by kernel_rfl) (by kernel_rfl) (by kernel_rfl) (fun _ _ _ h => h) (Or.inl ⟨by rfl, ?_⟩) hH4 ?_
    · intro w hSw; (try dsimp only at hSw); obtain ⟨_, a0, a1, a2, a3, a4, _, _, _, _, _, _, _, _, _, _, _⟩ := hSw.x; obtain ⟨_, d0, d1, d2, d3, d4, _, _, _, _, _, _, _, _, _, _, _⟩ := hSw.y; go_simp
    simp only [List.setIfInBounds_toArray, List.set_cons_zero, List.set_cons_succ]
    refine wpAnyH_done (by kernel_rfl) ?_ _
    refine NoPanic.normal ?_
    have B9 := hH4.b
    go_wp2_with fail
    go_ret
    exact ⟨rfl, B9⟩
  have k3 : (kd != 3) = true := by rw [bne_iff_ne]; exact h3
  have k3' : (kd == 3) = false := by rw [beq_eq_false_iff_ne]; exact h3
  clear PL0 PU0 hl
  have ht := ht h3
  obtain ⟨vt, vn, vs⟩ := v
  obtain ⟨ut, un, us⟩ := u
  simp only
  subst ht
  by_cases h6 : kd = 6
  · have k6 : (kd != 6) = false := by rw [h6]; rfl
    clear h3 h6
    have n0 := S3.new w 37 (.int .i64 kd) (.string ⟨tx.toArray⟩) (.int .i64 vt) (.int .i64 vn) (.string vs) (.int .i64 (p : Nat)) (.int .i64 (a : Nat)) (.int .i64 (b : Nat)) (.int .i64 kd) (.string ⟨tx.toArray⟩) (.int .i64 ut) (.int .i64 un) (.string us) (.int .i64 p') (.int .i64 a') (.int .i64 b')
    go_enter Tryz.func38, Tryz.ntmps38
    go_wp2_with fail
    generalize (w.alloc (.cells #[.int .i64 kd, .string ⟨tx.toArray⟩, .int .i64 vt, .int .i64 vn, .string vs, .int .i64 (p : Nat), .int .i64 (a : Nat), .int .i64 (b : Nat)] 37)).alloc (.cells #[.int .i64 kd, .string ⟨tx.toArray⟩, .int .i64 ut, .int .i64 un, .string us, .int .i64 p', .int .i64 a', .int .i64 b'] 37) = w2 at *
    refine wp_region_noPanic ?_
    refine wp_region_held_drew (S := fun w' => S3 w (.int .i64 kd) (.string ⟨tx.toArray⟩) (.int .i64 vt) (.int .i64 vn) (.string vs) (.int .i64 (p : Nat)) (.int .i64 (a : Nat)) (.int .i64 (b : Nat)) (.int .i64 kd) (.string ⟨tx.toArray⟩) (.int .i64 ut) (.int .i64 un) (.string us) (.int .i64 p') (.int .i64 a') (.int .i64 b') w') (by kernel_rfl) (n0.drew) (fun hH => ?_)
    refine take_at (i := 0) (v := .pointer (some ⟨w.heap.size, 0, none⟩)) rfl rfl (by kernel_rfl) (by kernel_rfl) (by kernel_rfl) (fun _ _ _ h => h) (Or.inl ⟨by rfl, ?_⟩) hH ?_
    · intro w hSw; (try dsimp only at hSw); obtain ⟨_, a0, a1, a2, a3, a4, _, _, _, _, _, _, _, _, _, _, _⟩ := hSw.x; obtain ⟨_, d0, d1, d2, d3, d4, _, _, _, _, _, _, _, _, _, _, _⟩ := hSw.y; go_simp
    simp only [List.setIfInBounds_toArray, List.set_cons_zero, List.set_cons_succ]
    refine take_at (i := 1) (v := .int .i64 kd) rfl rfl (by kernel_rfl) (by kernel_rfl) (by kernel_rfl) (fun _ _ _ h => h) (Or.inl ⟨by rfl, ?_⟩) hH ?_
    · intro w hSw; (try dsimp only at hSw); obtain ⟨_, a0, a1, a2, a3, a4, _, _, _, _, _, _, _, _, _, _, _⟩ := hSw.x; obtain ⟨_, d0, d1, d2, d3, d4, _, _, _, _, _, _, _, _, _, _, _⟩ := hSw.y; go_simp
    simp only [List.setIfInBounds_toArray, List.set_cons_zero, List.set_cons_succ]
    refine take_at (i := 2) (v := .pointer (some ⟨w.heap.size + 1, 0, none⟩)) rfl rfl (by kernel_rfl) (by kernel_rfl) (by kernel_rfl) (fun _ _ _ h => h) (Or.inl ⟨by rfl, ?_⟩) hH ?_
    · intro w hSw; (try dsimp only at hSw); obtain ⟨_, a0, a1, a2, a3, a4, _, _, _, _, _, _, _, _, _, _, _⟩ := hSw.x; obtain ⟨_, d0, d1, d2, d3, d4, _, _, _, _, _, _, _, _, _, _, _⟩ := hSw.y; go_simp
    simp only [List.setIfInBounds_toArray, List.set_cons_zero, List.set_cons_succ]
    refine take_at (i := 3) (v := .int .i64 kd) rfl rfl (by kernel_rfl) (by kernel_rfl) (by kernel_rfl) (fun _ _ _ h => h) (Or.inl ⟨by rfl, ?_⟩) hH ?_
    · intro w hSw; (try dsimp only at hSw); obtain ⟨_, a0, a1, a2, a3, a4, _, _, _, _, _, _, _, _, _, _, _⟩ := hSw.x; obtain ⟨_, d0, d1, d2, d3, d4, _, _, _, _, _, _, _, _, _, _, _⟩ := hSw.y; go_simp
    simp only [List.setIfInBounds_toArray, List.set_cons_zero, List.set_cons_succ]
    refine take_at (i := 4) (v := .bool false) rfl rfl (by kernel_rfl) (by kernel_rfl) (by kernel_rfl) (fun _ _ _ h => h) (Or.inl ⟨by rfl, ?_⟩) hH ?_
    · intro w hSw; (try dsimp only at hSw); obtain ⟨_, a0, a1, a2, a3, a4, _, _, _, _, _, _, _, _, _, _, _⟩ := hSw.x; obtain ⟨_, d0, d1, d2, d3, d4, _, _, _, _, _, _, _, _, _, _, _⟩ := hSw.y; go_simp
    simp only [List.setIfInBounds_toArray, List.set_cons_zero, List.set_cons_succ]
    refine take_at (i := 5) (v := .bool false) rfl rfl (by kernel_rfl) (by kernel_rfl) (by kernel_rfl) (fun _ _ _ h => h) (Or.inl ⟨by rfl, ?_⟩) hH ?_
    · intro w hSw; (try dsimp only at hSw); obtain ⟨_, a0, a1, a2, a3, a4, _, _, _, _, _, _, _, _, _, _, _⟩ := hSw.x; obtain ⟨_, d0, d1, d2, d3, d4, _, _, _, _, _, _, _, _, _, _, _⟩ := hSw.y; go_simp
    simp only [List.setIfInBounds_toArray, List.set_cons_zero, List.set_cons_succ]
    refine take_at (i := 6) (v := .pointer (some ⟨w.heap.size, 0, none⟩)) rfl rfl (by kernel_rfl) (by kernel_rfl) (by kernel_rfl) (fun _ _ _ h => h) (Or.inl ⟨by rfl, ?_⟩) hH ?_
    · intro w hSw; (try dsimp only at hSw); obtain ⟨_, a0, a1, a2, a3, a4, _, _, _, _, _, _, _, _, _, _, _⟩ := hSw.x; obtain ⟨_, d0, d1, d2, d3, d4, _, _, _, _, _, _, _, _, _, _, _⟩ := hSw.y; go_simp
    simp only [List.setIfInBounds_toArray, List.set_cons_zero, List.set_cons_succ]
    refine take_at (i := 7) (v := .int .i64 kd) rfl rfl (by kernel_rfl) (by kernel_rfl) (by kernel_rfl) (fun _ _ _ h => h) (Or.inl ⟨by rfl, ?_⟩) hH ?_
    · intro w hSw; (try dsimp only at hSw); obtain ⟨_, a0, a1, a2, a3, a4, _, _, _, _, _, _, _, _, _, _, _⟩ := hSw.x; obtain ⟨_, d0, d1, d2, d3, d4, _, _, _, _, _, _, _, _, _, _, _⟩ := hSw.y; go_simp
    simp only [List.setIfInBounds_toArray, List.set_cons_zero, List.set_cons_succ]
    refine take_at (i := 8) (v := .bool true) rfl rfl (by kernel_rfl) (by kernel_rfl) (by kernel_rfl) (fun _ _ _ h => h) (Or.inl ⟨by rfl, ?_⟩) hH ?_
    · intro w hSw; (try dsimp only at hSw); obtain ⟨_, a0, a1, a2, a3, a4, _, _, _, _, _, _, _, _, _, _, _⟩ := hSw.x; obtain ⟨_, d0, d1, d2, d3, d4, _, _, _, _, _, _, _, _, _, _, _⟩ := hSw.y; go_simp
    simp only [List.setIfInBounds_toArray, List.set_cons_zero, List.set_cons_succ]
    refine take_at (i := 9) (v := .bool true) rfl rfl (by kernel_rfl) (by kernel_rfl) (by kernel_rfl) (fun _ _ _ h => h) (Or.inl ⟨by rfl, ?_⟩) hH ?_
    · intro w hSw; (try dsimp only at hSw); obtain ⟨_, a0, a1, a2, a3, a4, _, _, _, _, _, _, _, _, _, _, _⟩ := hSw.x; obtain ⟨_, d0, d1, d2, d3, d4, _, _, _, _, _, _, _, _, _, _, _⟩ := hSw.y; go_simp
    simp only [List.setIfInBounds_toArray, List.set_cons_zero, List.set_cons_succ]
    refine take_at (i := 10) (v := .pointer (some ⟨w.heap.size, 0, none⟩)) rfl rfl (by kernel_rfl) (by kernel_rfl) (by kernel_rfl) (fun _ _ _ h => h) (Or.inl ⟨by rfl, ?_⟩) hH ?_
    · intro w hSw; (try dsimp only at hSw); obtain ⟨_, a0, a1, a2, a3, a4, _, _, _, _, _, _, _, _, _, _, _⟩ := hSw.x; obtain ⟨_, d0, d1, d2, d3, d4, _, _, _, _, _, _, _, _, _, _, _⟩ := hSw.y; go_simp
    simp only [List.setIfInBounds_toArray, List.set_cons_zero, List.set_cons_succ]
    refine take_at (i := 11) (v := .int .i64 kd) rfl rfl (by kernel_rfl) (by kernel_rfl) (by kernel_rfl) (fun _ _ _ h => h) (Or.inl ⟨by rfl, ?_⟩) hH ?_
    · intro w hSw; (try dsimp only at hSw); obtain ⟨_, a0, a1, a2, a3, a4, _, _, _, _, _, _, _, _, _, _, _⟩ := hSw.x; obtain ⟨_, d0, d1, d2, d3, d4, _, _, _, _, _, _, _, _, _, _, _⟩ := hSw.y; go_simp
    simp only [List.setIfInBounds_toArray, List.set_cons_zero, List.set_cons_succ]
    refine take_at (i := 12) (v := .bool false) rfl rfl (by kernel_rfl) (by kernel_rfl) (by kernel_rfl) (fun _ _ _ h => h) (Or.inl ⟨by rfl, ?_⟩) hH ?_
    · intro w hSw; (try dsimp only at hSw); obtain ⟨_, a0, a1, a2, a3, a4, _, _, _, _, _, _, _, _, _, _, _⟩ := hSw.x; obtain ⟨_, d0, d1, d2, d3, d4, _, _, _, _, _, _, _, _, _, _, _⟩ := hSw.y; go_simp
    simp only [List.setIfInBounds_toArray, List.set_cons_zero, List.set_cons_succ]
    refine take_at (i := 13) (v := .bool false) rfl rfl (by kernel_rfl) (by kernel_rfl) (by kernel_rfl) (fun _ _ _ h => h) (Or.inl ⟨by rfl, ?_⟩) hH ?_
    · intro w hSw; (try dsimp only at hSw); obtain ⟨_, a0, a1, a2, a3, a4, _, _, _, _, _, _, _, _, _, _, _⟩ := hSw.x; obtain ⟨_, d0, d1, d2, d3, d4, _, _, _, _, _, _, _, _, _, _, _⟩ := hSw.y; go_simp
    simp only [List.setIfInBounds_toArray, List.set_cons_zero, List.set_cons_succ]
    refine take_at (i := 14) (v := .bool false) rfl rfl (by kernel_rfl) (by kernel_rfl) (by kernel_rfl) (fun _ _ _ h => h) (Or.inl ⟨by rfl, ?_⟩) hH ?_
    · intro w hSw; (try dsimp only at hSw); obtain ⟨_, a0, a1, a2, a3, a4, _, _, _, _, _, _, _, _, _, _, _⟩ := hSw.x; obtain ⟨_, d0, d1, d2, d3, d4, _, _, _, _, _, _, _, _, _, _, _⟩ := hSw.y; go_simp
    simp only [List.setIfInBounds_toArray, List.set_cons_zero, List.set_cons_succ]
    refine take_at (i := 15) (v := undef) rfl rfl (by kernel_rfl) (by kernel_rfl) (by kernel_rfl) (fun _ _ _ h => h) (Or.inr ⟨by rfl, rfl⟩) hH ?_
    simp only [List.setIfInBounds_toArray, List.set_cons_zero, List.set_cons_succ]
    refine take_at (i := 16) (v := undef) rfl rfl (by kernel_rfl) (by kernel_rfl) (by kernel_rfl) (fun _ _ _ h => h) (Or.inr ⟨by rfl, rfl⟩) hH ?_
    simp only [List.setIfInBounds_toArray, List.set_cons_zero, List.set_cons_succ]
    refine take_at (i := 17) (v := undef) rfl rfl (by kernel_rfl) (by kernel_rfl) (by kernel_rfl) (fun _ _ _ h => h) (Or.inr ⟨by rfl, rfl⟩) hH ?_
    simp only [List.setIfInBounds_toArray, List.set_cons_zero, List.set_cons_succ]
    refine take_at (i := 18) (v := undef) rfl rfl (by kernel_rfl) (by kernel_rfl) (by kernel_rfl) (fun _ _ _ h => h) (Or.inr ⟨by rfl, rfl⟩) hH ?_
    simp only [List.setIfInBounds_toArray, List.set_cons_zero, List.set_cons_succ]
    refine take_at (i := 19) (v := undef) rfl rfl (by kernel_rfl) (by kernel_rfl) (by kernel_rfl) (fun _ _ _ h => h) (Or.inr ⟨by rfl, rfl⟩) hH ?_
    simp only [List.setIfInBounds_toArray, List.set_cons_zero, List.set_cons_succ]
    refine take_at (i := 20) (v := .bool false) rfl rfl (by kernel_rfl) (by kernel_rfl) (by kernel_rfl) (fun _ _ _ h => h) (Or.inl ⟨by rfl, ?_⟩) hH ?_
    · intro w hSw; (try dsimp only at hSw); obtain ⟨_, a0, a1, a2, a3, a4, _, _, _, _, _, _, _, _, _, _, _⟩ := hSw.x; obtain ⟨_, d0, d1, d2, d3, d4, _, _, _, _, _, _, _, _, _, _, _⟩ := hSw.y; go_simp
    simp only [List.setIfInBounds_toArray, List.set_cons_zero, List.set_cons_succ]
    refine take_at (i := 21) (v := .bool false) rfl rfl (by kernel_rfl) (by kernel_rfl) (by kernel_rfl) (fun _ _ _ h => h) (Or.inl ⟨by rfl, ?_⟩) hH ?_
    · intro w hSw; (try dsimp only at hSw); obtain ⟨_, a0, a1, a2, a3, a4, _, _, _, _, _, _, _, _, _, _, _⟩ := hSw.x; obtain ⟨_, d0, d1, d2, d3, d4, _, _, _, _, _, _, _, _, _, _, _⟩ := hSw.y; go_simp
    simp only [List.setIfInBounds_toArray, List.set_cons_zero, List.set_cons_succ]
    refine take_at (i := 22) (v := .bool false) rfl rfl (by kernel_rfl) (by kernel_rfl) (by kernel_rfl) (fun _ _ _ h => h) (Or.inl ⟨by rfl, ?_⟩) hH ?_
    · intro w hSw; (try dsimp only at hSw); obtain ⟨_, a0, a1, a2, a3, a4, _, _, _, _, _, _, _, _, _, _, _⟩ := hSw.x; obtain ⟨_, d0, d1, d2, d3, d4, _, _, _, _, _, _, _, _, _, _, _⟩ := hSw.y; go_simp
    simp only [List.setIfInBounds_toArray, List.set_cons_zero, List.set_cons_succ]
    refine take_at (i := 23) (v := .pointer (some ⟨w.heap.size, 0, none⟩)) rfl rfl (by kernel_rfl) (by kernel_rfl) (by kernel_rfl) (fun _ _ _ h => h) (Or.inl ⟨by rfl, ?_⟩) hH ?_
    · intro w hSw; (try dsimp only at hSw); obtain ⟨_, a0, a1, a2, a3, a4, _, _, _, _, _, _, _, _, _, _, _⟩ := hSw.x; obtain ⟨_, d0, d1, d2, d3, d4, _, _, _, _, _, _, _, _, _, _, _⟩ := hSw.y; go_simp
    simp only [List.setIfInBounds_toArray, List.set_cons_zero, List.set_cons_succ]
    refine take_at (i := 24) (v := .int .i64 kd) rfl rfl (by kernel_rfl) (by kernel_rfl) (by kernel_rfl) (fun _ _ _ h => h) (Or.inl ⟨by rfl, ?_⟩) hH ?_
    · intro w hSw; (try dsimp only at hSw); obtain ⟨_, a0, a1, a2, a3, a4, _, _, _, _, _, _, _, _, _, _, _⟩ := hSw.x; obtain ⟨_, d0, d1, d2, d3, d4, _, _, _, _, _, _, _, _, _, _, _⟩ := hSw.y; go_simp
    simp only [List.setIfInBounds_toArray, List.set_cons_zero, List.set_cons_succ]
    refine take_at (i := 25) (v := .bool false) rfl rfl (by kernel_rfl) (by kernel_rfl) (by kernel_rfl) (fun _ _ _ h => h) (Or.inl ⟨by rfl, ?_⟩) hH ?_
    · intro w hSw; (try dsimp only at hSw); obtain ⟨_, a0, a1, a2, a3, a4, _, _, _, _, _, _, _, _, _, _, _⟩ := hSw.x; obtain ⟨_, d0, d1, d2, d3, d4, _, _, _, _, _, _, _, _, _, _, _⟩ := hSw.y; go_simp
    simp only [List.setIfInBounds_toArray, List.set_cons_zero, List.set_cons_succ]
    refine take_at (i := 26) (v := .bool false) rfl rfl (by kernel_rfl) (by kernel_rfl) (by kernel_rfl) (fun _ _ _ h => h) (Or.inl ⟨by rfl, ?_⟩) hH ?_
    · intro w hSw; (try dsimp only at hSw); obtain ⟨_, a0, a1, a2, a3, a4, _, _, _, _, _, _, _, _, _, _, _⟩ := hSw.x; obtain ⟨_, d0, d1, d2, d3, d4, _, _, _, _, _, _, _, _, _, _, _⟩ := hSw.y; go_simp
    simp only [List.setIfInBounds_toArray, List.set_cons_zero, List.set_cons_succ]
    refine take_at (i := 27) (v := undef) rfl rfl (by kernel_rfl) (by kernel_rfl) (by kernel_rfl) (fun _ _ _ h => h) (Or.inr ⟨by rfl, rfl⟩) hH ?_
    simp only [List.setIfInBounds_toArray, List.set_cons_zero, List.set_cons_succ]
    refine take_at (i := 28) (v := undef) rfl rfl (by kernel_rfl) (by kernel_rfl) (by kernel_rfl) (fun _ _ _ h => h) (Or.inr ⟨by rfl, rfl⟩) hH ?_
    simp only [List.setIfInBounds_toArray, List.set_cons_zero, List.set_cons_succ]
    refine take_at (i := 29) (v := undef) rfl rfl (by kernel_rfl) (by kernel_rfl) (by kernel_rfl) (fun _ _ _ h => h) (Or.inr ⟨by rfl, rfl⟩) hH ?_
    simp only [List.setIfInBounds_toArray, List.set_cons_zero, List.set_cons_succ]
    refine take_at (i := 30) (v := undef) rfl rfl (by kernel_rfl) (by kernel_rfl) (by kernel_rfl) (fun _ _ _ h => h) (Or.inr ⟨by rfl, rfl⟩) hH ?_
    simp only [List.setIfInBounds_toArray, List.set_cons_zero, List.set_cons_succ]
    refine take_at (i := 31) (v := undef) rfl rfl (by kernel_rfl) (by kernel_rfl) (by kernel_rfl) (fun _ _ _ h => h) (Or.inr ⟨by rfl, rfl⟩) hH ?_
    simp only [List.setIfInBounds_toArray, List.set_cons_zero, List.set_cons_succ]
    refine take_at (i := 32) (v := undef) rfl rfl (by kernel_rfl) (by kernel_rfl) (by kernel_rfl) (fun _ _ _ h => h) (Or.inr ⟨by rfl, rfl⟩) hH ?_
    simp only [List.setIfInBounds_toArray, List.set_cons_zero, List.set_cons_succ]
    refine take_at (i := 33) (v := undef) rfl rfl (by kernel_rfl) (by kernel_rfl) (by kernel_rfl) (fun _ _ _ h => h) (Or.inr ⟨by rfl, rfl⟩) hH ?_
    simp only [List.setIfInBounds_toArray, List.set_cons_zero, List.set_cons_succ]
    refine take_at (i := 34) (v := .bool false) rfl rfl (by kernel_rfl) (by kernel_rfl) (by kernel_rfl) (fun _ _ _ h => h) (Or.inl ⟨by rfl, ?_⟩) hH ?_
    · intro w hSw; (try dsimp only at hSw); obtain ⟨_, a0, a1, a2, a3, a4, _, _, _, _, _, _, _, _, _, _, _⟩ := hSw.x; obtain ⟨_, d0, d1, d2, d3, d4, _, _, _, _, _, _, _, _, _, _, _⟩ := hSw.y; go_simp
    simp only [List.setIfInBounds_toArray, List.set_cons_zero, List.set_cons_succ]
    refine take_at (i := 35) (v := .bool false) rfl rfl (by kernel_rfl) (by kernel_rfl) (by kernel_rfl) (fun _ _ _ h => h) (Or.inl ⟨by rfl, ?_⟩) hH ?_
    · intro w hSw; (try dsimp only at hSw); obtain ⟨_, a0, a1, a2, a3, a4, _, _, _, _, _, _, _, _, _, _, _⟩ := hSw.x; obtain ⟨_, d0, d1, d2, d3, d4, _, _, _, _, _, _, _, _, _, _, _⟩ := hSw.y; go_simp
    simp only [List.setIfInBounds_toArray, List.set_cons_zero, List.set_cons_succ]
    refine wpAnyH_done (by kernel_rfl) ?_ _
    refine NoPanic.normal ?_
    have B9 := hH.b
    go_wp2_with fail
    go_ret
    exact ⟨rfl, B9⟩
  · have k6 : (kd != 6) = true := by rw [bne_iff_ne]; exact h6
    clear h3 h6
    have n0 := S3.new w 37 (.int .i64 kd) (.string ⟨tx.toArray⟩) (.int .i64 vt) (.int .i64 vn) (.string vs) (.int .i64 (p : Nat)) (.int .i64 (a : Nat)) (.int .i64 (b : Nat)) (.int .i64 kd) (.string ⟨tx.toArray⟩) (.int .i64 ut) (.int .i64 un) (.string us) (.int .i64 p') (.int .i64 a') (.int .i64 b')
    go_enter Tryz.func38, Tryz.ntmps38
    go_wp2_with fail
    generalize (w.alloc (.cells #[.int .i64 kd, .string ⟨tx.toArray⟩, .int .i64 vt, .int .i64 vn, .string vs, .int .i64 (p : Nat), .int .i64 (a : Nat), .int .i64 (b : Nat)] 37)).alloc (.cells #[.int .i64 kd, .string ⟨tx.toArray⟩, .int .i64 ut, .int .i64 un, .string us, .int .i64 p', .int .i64 a', .int .i64 b'] 37) = w2 at *
    refine wp_region_noPanic ?_
    refine wp_region_held_drew (S := fun w' => S3 w (.int .i64 kd) (.string ⟨tx.toArray⟩) (.int .i64 vt) (.int .i64 vn) (.string vs) (.int .i64 (p : Nat)) (.int .i64 (a : Nat)) (.int .i64 (b : Nat)) (.int .i64 kd) (.string ⟨tx.toArray⟩) (.int .i64 ut) (.int .i64 un) (.string us) (.int .i64 p') (.int .i64 a') (.int .i64 b') w') (by kernel_rfl) (n0.drew) (fun hH => ?_)
    refine take_at (i := 0) (v := .pointer (some ⟨w.heap.size, 0, none⟩)) rfl rfl (by kernel_rfl) (by kernel_rfl) (by kernel_rfl) (fun _ _ _ h => h) (Or.inl ⟨by rfl, ?_⟩) hH ?_
    · intro w hSw; (try dsimp only at hSw); obtain ⟨_, a0, a1, a2, a3, a4, _, _, _, _, _, _, _, _, _, _, _⟩ := hSw.x; obtain ⟨_, d0, d1, d2, d3, d4, _, _, _, _, _, _, _, _, _, _, _⟩ := hSw.y; go_simp
    simp only [List.setIfInBounds_toArray, List.set_cons_zero, List.set_cons_succ]
    refine take_at (i := 1) (v := .int .i64 kd) rfl rfl (by kernel_rfl) (by kernel_rfl) (by kernel_rfl) (fun _ _ _ h => h) (Or.inl ⟨by rfl, ?_⟩) hH ?_
    · intro w hSw; (try dsimp only at hSw); obtain ⟨_, a0, a1, a2, a3, a4, _, _, _, _, _, _, _, _, _, _, _⟩ := hSw.x; obtain ⟨_, d0, d1, d2, d3, d4, _, _, _, _, _, _, _, _, _, _, _⟩ := hSw.y; go_simp
    simp only [List.setIfInBounds_toArray, List.set_cons_zero, List.set_cons_succ]
    refine take_at (i := 2) (v := .pointer (some ⟨w.heap.size + 1, 0, none⟩)) rfl rfl (by kernel_rfl) (by kernel_rfl) (by kernel_rfl) (fun _ _ _ h => h) (Or.inl ⟨by rfl, ?_⟩) hH ?_
    · intro w hSw; (try dsimp only at hSw); obtain ⟨_, a0, a1, a2, a3, a4, _, _, _, _, _, _, _, _, _, _, _⟩ := hSw.x; obtain ⟨_, d0, d1, d2, d3, d4, _, _, _, _, _, _, _, _, _, _, _⟩ := hSw.y; go_simp
    simp only [List.setIfInBounds_toArray, List.set_cons_zero, List.set_cons_succ]
    refine take_at (i := 3) (v := .int .i64 kd) rfl rfl (by kernel_rfl) (by kernel_rfl) (by kernel_rfl) (fun _ _ _ h => h) (Or.inl ⟨by rfl, ?_⟩) hH ?_
    · intro w hSw; (try dsimp only at hSw); obtain ⟨_, a0, a1, a2, a3, a4, _, _, _, _, _, _, _, _, _, _, _⟩ := hSw.x; obtain ⟨_, d0, d1, d2, d3, d4, _, _, _, _, _, _, _, _, _, _, _⟩ := hSw.y; go_simp
    simp only [List.setIfInBounds_toArray, List.set_cons_zero, List.set_cons_succ]
    refine take_at (i := 4) (v := .bool false) rfl rfl (by kernel_rfl) (by kernel_rfl) (by kernel_rfl) (fun _ _ _ h => h) (Or.inl ⟨by rfl, ?_⟩) hH ?_
    · intro w hSw; (try dsimp only at hSw); obtain ⟨_, a0, a1, a2, a3, a4, _, _, _, _, _, _, _, _, _, _, _⟩ := hSw.x; obtain ⟨_, d0, d1, d2, d3, d4, _, _, _, _, _, _, _, _, _, _, _⟩ := hSw.y; go_simp
    simp only [List.setIfInBounds_toArray, List.set_cons_zero, List.set_cons_succ]
    refine take_at (i := 5) (v := .bool false) rfl rfl (by kernel_rfl) (by kernel_rfl) (by kernel_rfl) (fun _ _ _ h => h) (Or.inl ⟨by rfl, ?_⟩) hH ?_
    · intro w hSw; (try dsimp only at hSw); obtain ⟨_, a0, a1, a2, a3, a4, _, _, _, _, _, _, _, _, _, _, _⟩ := hSw.x; obtain ⟨_, d0, d1, d2, d3, d4, _, _, _, _, _, _, _, _, _, _, _⟩ := hSw.y; go_simp
    simp only [List.setIfInBounds_toArray, List.set_cons_zero, List.set_cons_succ]
    refine take_at (i := 6) (v := .pointer (some ⟨w.heap.size, 0, none⟩)) rfl rfl (by kernel_rfl) (by kernel_rfl) (by kernel_rfl) (fun _ _ _ h => h) (Or.inl ⟨by rfl, ?_⟩) hH ?_
    · intro w hSw; (try dsimp only at hSw); obtain ⟨_, a0, a1, a2, a3, a4, _, _, _, _, _, _, _, _, _, _, _⟩ := hSw.x; obtain ⟨_, d0, d1, d2, d3, d4, _, _, _, _, _, _, _, _, _, _, _⟩ := hSw.y; go_simp
    simp only [List.setIfInBounds_toArray, List.set_cons_zero, List.set_cons_succ]
    refine take_at (i := 7) (v := .int .i64 kd) rfl rfl (by kernel_rfl) (by kernel_rfl) (by kernel_rfl) (fun _ _ _ h => h) (Or.inl ⟨by rfl, ?_⟩) hH ?_
    · intro w hSw; (try dsimp only at hSw); obtain ⟨_, a0, a1, a2, a3, a4, _, _, _, _, _, _, _, _, _, _, _⟩ := hSw.x; obtain ⟨_, d0, d1, d2, d3, d4, _, _, _, _, _, _, _, _, _, _, _⟩ := hSw.y; go_simp
    simp only [List.setIfInBounds_toArray, List.set_cons_zero, List.set_cons_succ]
    refine take_at (i := 8) (v := .bool true) rfl rfl (by kernel_rfl) (by kernel_rfl) (by kernel_rfl) (fun _ _ _ h => h) (Or.inl ⟨by rfl, ?_⟩) hH ?_
    · intro w hSw; (try dsimp only at hSw); obtain ⟨_, a0, a1, a2, a3, a4, _, _, _, _, _, _, _, _, _, _, _⟩ := hSw.x; obtain ⟨_, d0, d1, d2, d3, d4, _, _, _, _, _, _, _, _, _, _, _⟩ := hSw.y; go_simp
    simp only [List.setIfInBounds_toArray, List.set_cons_zero, List.set_cons_succ]
    refine take_at (i := 9) (v := .bool true) rfl rfl (by kernel_rfl) (by kernel_rfl) (by kernel_rfl) (fun _ _ _ h => h) (Or.inl ⟨by rfl, ?_⟩) hH ?_
    · intro w hSw; (try dsimp only at hSw); obtain ⟨_, a0, a1, a2, a3, a4, _, _, _, _, _, _, _, _, _, _, _⟩ := hSw.x; obtain ⟨_, d0, d1, d2, d3, d4, _, _, _, _, _, _, _, _, _, _, _⟩ := hSw.y; go_simp
    simp only [List.setIfInBounds_toArray, List.set_cons_zero, List.set_cons_succ]
    refine take_at (i := 10) (v := .pointer (some ⟨w.heap.size, 0, none⟩)) rfl rfl (by kernel_rfl) (by kernel_rfl) (by kernel_rfl) (fun _ _ _ h => h) (Or.inl ⟨by rfl, ?_⟩) hH ?_
    · intro w hSw; (try dsimp only at hSw); obtain ⟨_, a0, a1, a2, a3, a4, _, _, _, _, _, _, _, _, _, _, _⟩ := hSw.x; obtain ⟨_, d0, d1, d2, d3, d4, _, _, _, _, _, _, _, _, _, _, _⟩ := hSw.y; go_simp
    simp only [List.setIfInBounds_toArray, List.set_cons_zero, List.set_cons_succ]
    refine take_at (i := 11) (v := .int .i64 kd) rfl rfl (by kernel_rfl) (by kernel_rfl) (by kernel_rfl) (fun _ _ _ h => h) (Or.inl ⟨by rfl, ?_⟩) hH ?_
    · intro w hSw; (try dsimp only at hSw); obtain ⟨_, a0, a1, a2, a3, a4, _, _, _, _, _, _, _, _, _, _, _⟩ := hSw.x; obtain ⟨_, d0, d1, d2, d3, d4, _, _, _, _, _, _, _, _, _, _, _⟩ := hSw.y; go_simp
    simp only [List.setIfInBounds_toArray, List.set_cons_zero, List.set_cons_succ]
    refine take_at (i := 12) (v := .bool true) rfl rfl (by kernel_rfl) (by kernel_rfl) (by kernel_rfl) (fun _ _ _ h => h) (Or.inl ⟨by rfl, ?_⟩) hH ?_
    · intro w hSw; (try dsimp only at hSw); obtain ⟨_, a0, a1, a2, a3, a4, _, _, _, _, _, _, _, _, _, _, _⟩ := hSw.x; obtain ⟨_, d0, d1, d2, d3, d4, _, _, _, _, _, _, _, _, _, _, _⟩ := hSw.y; go_simp
    simp only [List.setIfInBounds_toArray, List.set_cons_zero, List.set_cons_succ]
    refine take_at (i := 13) (v := .bool true) rfl rfl (by kernel_rfl) (by kernel_rfl) (by kernel_rfl) (fun _ _ _ h => h) (Or.inl ⟨by rfl, ?_⟩) hH ?_
    · intro w hSw; (try dsimp only at hSw); obtain ⟨_, a0, a1, a2, a3, a4, _, _, _, _, _, _, _, _, _, _, _⟩ := hSw.x; obtain ⟨_, d0, d1, d2, d3, d4, _, _, _, _, _, _, _, _, _, _, _⟩ := hSw.y; go_simp
    simp only [List.setIfInBounds_toArray, List.set_cons_zero, List.set_cons_succ]
    refine take_at (i := 14) (v := .bool true) rfl rfl (by kernel_rfl) (by kernel_rfl) (by kernel_rfl) (fun _ _ _ h => h) (Or.inl ⟨by rfl, ?_⟩) hH ?_
    · intro w hSw; (try dsimp only at hSw); obtain ⟨_, a0, a1, a2, a3, a4, _, _, _, _, _, _, _, _, _, _, _⟩ := hSw.x; obtain ⟨_, d0, d1, d2, d3, d4, _, _, _, _, _, _, _, _, _, _, _⟩ := hSw.y; go_simp
    simp only [List.setIfInBounds_toArray, List.set_cons_zero, List.set_cons_succ]
    refine take_at (i := 15) (v := .pointer (some ⟨w.heap.size, 1, none⟩)) rfl rfl (by kernel_rfl) (by kernel_rfl) (by kernel_rfl) (fun _ _ _ h => h) (Or.inl ⟨by rfl, ?_⟩) hH ?_
    · intro w hSw; (try dsimp only at hSw); obtain ⟨_, a0, a1, a2, a3, a4, _, _, _, _, _, _, _, _, _, _, _⟩ := hSw.x; obtain ⟨_, d0, d1, d2, d3, d4, _, _, _, _, _, _, _, _, _, _, _⟩ := hSw.y; go_simp
    simp only [List.setIfInBounds_toArray, List.set_cons_zero, List.set_cons_succ]
    refine take_at (i := 16) (v := .string ⟨tx.toArray⟩) rfl rfl (by kernel_rfl) (by kernel_rfl) (by kernel_rfl) (fun _ _ _ h => h) (Or.inl ⟨by rfl, ?_⟩) hH ?_
    · intro w hSw; (try dsimp only at hSw); obtain ⟨_, a0, a1, a2, a3, a4, _, _, _, _, _, _, _, _, _, _, _⟩ := hSw.x; obtain ⟨_, d0, d1, d2, d3, d4, _, _, _, _, _, _, _, _, _, _, _⟩ := hSw.y; go_simp
    simp only [List.setIfInBounds_toArray, List.set_cons_zero, List.set_cons_succ]
    refine take_at (i := 17) (v := .pointer (some ⟨w.heap.size + 1, 1, none⟩)) rfl rfl (by kernel_rfl) (by kernel_rfl) (by kernel_rfl) (fun _ _ _ h => h) (Or.inl ⟨by rfl, ?_⟩) hH ?_
    · intro w hSw; (try dsimp only at hSw); obtain ⟨_, a0, a1, a2, a3, a4, _, _, _, _, _, _, _, _, _, _, _⟩ := hSw.x; obtain ⟨_, d0, d1, d2, d3, d4, _, _, _, _, _, _, _, _, _, _, _⟩ := hSw.y; go_simp
    simp only [List.setIfInBounds_toArray, List.set_cons_zero, List.set_cons_succ]
    refine take_at (i := 18) (v := .string ⟨tx.toArray⟩) rfl rfl (by kernel_rfl) (by kernel_rfl) (by kernel_rfl) (fun _ _ _ h => h) (Or.inl ⟨by rfl, ?_⟩) hH ?_
    · intro w hSw; (try dsimp only at hSw); obtain ⟨_, a0, a1, a2, a3, a4, _, _, _, _, _, _, _, _, _, _, _⟩ := hSw.x; obtain ⟨_, d0, d1, d2, d3, d4, _, _, _, _, _, _, _, _, _, _, _⟩ := hSw.y; go_simp
    simp only [List.setIfInBounds_toArray, List.set_cons_zero, List.set_cons_succ]
    refine take_at (i := 19) (v := .bool false) rfl rfl (by kernel_rfl) (by kernel_rfl) (by kernel_rfl) (fun _ _ _ h => h) (Or.inl ⟨by rfl, ?_⟩) hH ?_
    · intro w hSw; (try dsimp only at hSw); obtain ⟨_, a0, a1, a2, a3, a4, _, _, _, _, _, _, _, _, _, _, _⟩ := hSw.x; obtain ⟨_, d0, d1, d2, d3, d4, _, _, _, _, _, _, _, _, _, _, _⟩ := hSw.y; go_simp
    simp only [List.setIfInBounds_toArray, List.set_cons_zero, List.set_cons_succ]
    refine take_at (i := 20) (v := .bool false) rfl rfl (by kernel_rfl) (by kernel_rfl) (by kernel_rfl) (fun _ _ _ h => h) (Or.inl ⟨by rfl, ?_⟩) hH ?_
    · intro w hSw; (try dsimp only at hSw); obtain ⟨_, a0, a1, a2, a3, a4, _, _, _, _, _, _, _, _, _, _, _⟩ := hSw.x; obtain ⟨_, d0, d1, d2, d3, d4, _, _, _, _, _, _, _, _, _, _, _⟩ := hSw.y; go_simp
    simp only [List.setIfInBounds_toArray, List.set_cons_zero, List.set_cons_succ]
    refine take_at (i := 21) (v := .bool false) rfl rfl (by kernel_rfl) (by kernel_rfl) (by kernel_rfl) (fun _ _ _ h => h) (Or.inl ⟨by rfl, ?_⟩) hH ?_
    · intro w hSw; (try dsimp only at hSw); obtain ⟨_, a0, a1, a2, a3, a4, _, _, _, _, _, _, _, _, _, _, _⟩ := hSw.x; obtain ⟨_, d0, d1, d2, d3, d4, _, _, _, _, _, _, _, _, _, _, _⟩ := hSw.y; go_simp
    simp only [List.setIfInBounds_toArray, List.set_cons_zero, List.set_cons_succ]
    refine take_at (i := 22) (v := .bool false) rfl rfl (by kernel_rfl) (by kernel_rfl) (by kernel_rfl) (fun _ _ _ h => h) (Or.inl ⟨by rfl, ?_⟩) hH ?_
    · intro w hSw; (try dsimp only at hSw); obtain ⟨_, a0, a1, a2, a3, a4, _, _, _, _, _, _, _, _, _, _, _⟩ := hSw.x; obtain ⟨_, d0, d1, d2, d3, d4, _, _, _, _, _, _, _, _, _, _, _⟩ := hSw.y; go_simp
    simp only [List.setIfInBounds_toArray, List.set_cons_zero, List.set_cons_succ]
    refine take_at (i := 23) (v := .pointer (some ⟨w.heap.size, 0, none⟩)) rfl rfl (by kernel_rfl) (by kernel_rfl) (by kernel_rfl) (fun _ _ _ h => h) (Or.inl ⟨by rfl, ?_⟩) hH ?_
    · intro w hSw; (try dsimp only at hSw); obtain ⟨_, a0, a1, a2, a3, a4, _, _, _, _, _, _, _, _, _, _, _⟩ := hSw.x; obtain ⟨_, d0, d1, d2, d3, d4, _, _, _, _, _, _, _, _, _, _, _⟩ := hSw.y; go_simp
    simp only [List.setIfInBounds_toArray, List.set_cons_zero, List.set_cons_succ]
    refine take_at (i := 24) (v := .int .i64 kd) rfl rfl (by kernel_rfl) (by kernel_rfl) (by kernel_rfl) (fun _ _ _ h => h) (Or.inl ⟨by rfl, ?_⟩) hH ?_
    · intro w hSw; (try dsimp only at hSw); obtain ⟨_, a0, a1, a2, a3, a4, _, _, _, _, _, _, _, _, _, _, _⟩ := hSw.x; obtain ⟨_, d0, d1, d2, d3, d4, _, _, _, _, _, _, _, _, _, _, _⟩ := hSw.y; go_simp
    simp only [List.setIfInBounds_toArray, List.set_cons_zero, List.set_cons_succ]
    refine take_at (i := 25) (v := .bool false) rfl rfl (by kernel_rfl) (by kernel_rfl) (by kernel_rfl) (fun _ _ _ h => h) (Or.inl ⟨by rfl, ?_⟩) hH ?_
    · intro w hSw; (try dsimp only at hSw); obtain ⟨_, a0, a1, a2, a3, a4, _, _, _, _, _, _, _, _, _, _, _⟩ := hSw.x; obtain ⟨_, d0, d1, d2, d3, d4, _, _, _, _, _, _, _, _, _, _, _⟩ := hSw.y; go_simp
    simp only [List.setIfInBounds_toArray, List.set_cons_zero, List.set_cons_succ]
    refine take_at (i := 26) (v := .bool false) rfl rfl (by kernel_rfl) (by kernel_rfl) (by kernel_rfl) (fun _ _ _ h => h) (Or.inl ⟨by rfl, ?_⟩) hH ?_
    · intro w hSw; (try dsimp only at hSw); obtain ⟨_, a0, a1, a2, a3, a4, _, _, _, _, _, _, _, _, _, _, _⟩ := hSw.x; obtain ⟨_, d0, d1, d2, d3, d4, _, _, _, _, _, _, _, _, _, _, _⟩ := hSw.y; go_simp
    simp only [List.setIfInBounds_toArray, List.set_cons_zero, List.set_cons_succ]
    refine take_at (i := 27) (v := undef) rfl rfl (by kernel_rfl) (by kernel_rfl) (by kernel_rfl) (fun _ _ _ h => h) (Or.inr ⟨by rfl, rfl⟩) hH ?_
    simp only [List.setIfInBounds_toArray, List.set_cons_zero, List.set_cons_succ]
    refine take_at (i := 28) (v := undef) rfl rfl (by kernel_rfl) (by kernel_rfl) (by kernel_rfl) (fun _ _ _ h => h) (Or.inr ⟨by rfl, rfl⟩) hH ?_
    simp only [List.setIfInBounds_toArray, List.set_cons_zero, List.set_cons_succ]
    refine take_at (i := 29) (v := undef) rfl rfl (by kernel_rfl) (by kernel_rfl) (by kernel_rfl) (fun _ _ _ h => h) (Or.inr ⟨by rfl, rfl⟩) hH ?_
    simp only [List.setIfInBounds_toArray, List.set_cons_zero, List.set_cons_succ]
    refine take_at (i := 30) (v := undef) rfl rfl (by kernel_rfl) (by kernel_rfl) (by kernel_rfl) (fun _ _ _ h => h) (Or.inr ⟨by rfl, rfl⟩) hH ?_
    simp only [List.setIfInBounds_toArray, List.set_cons_zero, List.set_cons_succ]
    refine take_at (i := 31) (v := undef) rfl rfl (by kernel_rfl) (by kernel_rfl) (by kernel_rfl) (fun _ _ _ h => h) (Or.inr ⟨by rfl, rfl⟩) hH ?_
    simp only [List.setIfInBounds_toArray, List.set_cons_zero, List.set_cons_succ]
    refine take_at (i := 32) (v := undef) rfl rfl (by kernel_rfl) (by kernel_rfl) (by kernel_rfl) (fun _ _ _ h => h) (Or.inr ⟨by rfl, rfl⟩) hH ?_
    simp only [List.setIfInBounds_toArray, List.set_cons_zero, List.set_cons_succ]
    refine take_at (i := 33) (v := undef) rfl rfl (by kernel_rfl) (by kernel_rfl) (by kernel_rfl) (fun _ _ _ h => h) (Or.inr ⟨by rfl, rfl⟩) hH ?_
    simp only [List.setIfInBounds_toArray, List.set_cons_zero, List.set_cons_succ]
    refine take_at (i := 34) (v := .bool false) rfl rfl (by kernel_rfl) (by kernel_rfl) (by kernel_rfl) (fun _ _ _ h => h) (Or.inl ⟨by rfl, ?_⟩) hH ?_
    · intro w hSw; (try dsimp only at hSw); obtain ⟨_, a0, a1, a2, a3, a4, _, _, _, _, _, _, _, _, _, _, _⟩ := hSw.x; obtain ⟨_, d0, d1, d2, d3, d4, _, _, _, _, _, _, _, _, _, _, _⟩ := hSw.y; go_simp
    simp only [List.setIfInBounds_toArray, List.set_cons_zero, List.set_cons_succ]
    refine take_at (i := 35) (v := .bool false) rfl rfl (by kernel_rfl) (by kernel_rfl) (by kernel_rfl) (fun _ _ _ h => h) (Or.inl ⟨by rfl, ?_⟩) hH ?_
    · intro w hSw; (try dsimp only at hSw); obtain ⟨_, a0, a1, a2, a3, a4, _, _, _, _, _, _, _, _, _, _, _⟩ := hSw.x; obtain ⟨_, d0, d1, d2, d3, d4, _, _, _, _, _, _, _, _, _, _, _⟩ := hSw.y; go_simp
    simp only [List.setIfInBounds_toArray, List.set_cons_zero, List.set_cons_succ]
    refine wpAnyH_done (by kernel_rfl) ?_ _
    refine NoPanic.normal ?_
    have B9 := hH.b
    go_wp2_with fail
    go_ret
    exact ⟨rfl, B9⟩
theorem pln_pln (v : Va) : pln (pln v) = pln v := by
  obtain ⟨ty, n, s⟩ := v
  unfold pln
  by_cases h : ty = 1 ∨ ty = 2 ∨ ty = 4
  · simp [h]
  · by_cases h3 : ty = 3
    · subst h3; simp
    · simp [h, h3]
/-- a token that came in lies at a place -/
structure I8 (w : World) (g o : Nat) (t : Ti) : Prop where
  c0 : w.cell? ⟨g, o, none⟩ = some (.int .i64 t.kind)
  c1 : w.cell? ⟨g, o + 1, none⟩ = some (.string ⟨t.text.toArray⟩)
  c2 : w.cell? ⟨g, o + 2, none⟩ = some (.int .i64 t.v.ty)
  c3 : w.cell? ⟨g, o + 3, none⟩ = some (.int .i64 t.v.n)
  c4 : w.cell? ⟨g, o + 4, none⟩ = some (.string t.v.s)
  c5 : w.cell? ⟨g, o + 5, none⟩ = some (.int .i64 t.pos)
  c6 : w.cell? ⟨g, o + 6, none⟩ = some (.int .i64 t.line)
  c7 : w.cell? ⟨g, o + 7, none⟩ = some (.int .i64 t.col)
theorem I8.below {w w' : World} {g o : Nat} {t : Ti} (h : I8 w g o t) (hb : Below w.heap.size w w') : I8 w' g o t := by
  have hl := World.block_lt_of_cell? w _ h.c0
  exact ⟨(hb.cell (p := ⟨g, o, none⟩) hl).trans h.c0, (hb.cell (p := ⟨g, o + 1, none⟩) hl).trans h.c1, (hb.cell (p := ⟨g, o + 2, none⟩) hl).trans h.c2, (hb.cell (p := ⟨g, o + 3, none⟩) hl).trans h.c3, (hb.cell (p := ⟨g, o + 4, none⟩) hl).trans h.c4, (hb.cell (p := ⟨g, o + 5, none⟩) hl).trans h.c5, (hb.cell (p := ⟨g, o + 6, none⟩) hl).trans h.c6, (hb.cell (p := ⟨g, o + 7, none⟩) hl).trans h.c7⟩
/-- tokens that came in lie in a row -/
def tokII (w : World) (p : Option Addr) (L : List Ti) : Prop := L = [] ∨ ∃ g o, p = some ⟨g, o, none⟩ ∧ ∀ i t, L[i]? = some t → I8 w g (o + i * 8) t
theorem tokII.below {w w' : World} {p : Option Addr} {L : List Ti} (h : tokII w p L) (hb : Below w.heap.size w w') : tokII w' p L := by
  rcases h with h | ⟨g, o, hp, h⟩
  · exact Or.inl h
  · exact Or.inr ⟨g, o, hp, fun i t ht => (h i t ht).below hb⟩
theorem tokII.head {w : World} {p : Option Addr} {L M : List Ti} (h : tokII w p (L ++ M)) : tokII w p L := by
  rcases h with h | ⟨g, o, hp, h⟩
  · exact Or.inl (List.append_eq_nil_iff.1 h).1
  · exact Or.inr ⟨g, o, hp, fun i t ht => h i t (by rw [List.getElem?_append_left (List.getElem?_eq_some_iff.1 ht).1]; exact ht)⟩
theorem tokII.at {w : World} {p : Option Addr} {L : List Ti} {k : Nat} {t : Ti} (h : tokII w p L) (ht : L[k]? = some t) : ∃ g o, p = some ⟨g, o, none⟩ ∧ ∀ i t, L[i]? = some t → I8 w g (o + i * 8) t := by
  rcases h with h | h
  · rw [h] at ht; simp at ht
  · exact h
/-- two tokens, read -/
structure R3' (w : World) (g1 o1 g2 o2 : Nat) (t : Tk) (u : Ti) (w' : World) : Prop where
  b : Below w.heap.size w w'
  x : T8 w' g1 o1 t
  y : I8 w' g2 o2 u
theorem R3'.next {w : World} {g1 o1 g2 o2 : Nat} {t : Tk} {u : Ti} {w' w'' : World} (h : R3' w g1 o1 g2 o2 t u w') (hb : Below w'.heap.size w' w'') : R3' w g1 o1 g2 o2 t u w'' := ⟨h.b.trans (hb.mono h.b.size), h.x.below hb, h.y.below hb⟩
theorem R3'.drew {w : World} {g1 o1 g2 o2 : Nat} {t : Tk} {u : Ti} {w' : World} (h : R3' w g1 o1 g2 o2 t u w') : R3' w g1 o1 g2 o2 t u w'.drew := h.next (below_drewN (Below.refl _ w') 1)
set_option maxHeartbeats 2000000 in
set_option maxRecDepth 1000000 in
theorem tokens_loose (p1 p2 : Option Addr) (c1 c2 N : Nat) (L1 : List Tk) (L2 : List Ti) (w : World) (h1 : tokIn w p1 L1) (h2 : tokII w p2 L2) (n1 : L1.length = N) (n2 : L2.length = N) (hN : N ≤ 9223372036854775807) (hbare : L1.map bare = L2.map rdT') :
    Calls Tryz.prog 18 #[.slice p1 N c1, .slice p2 N c2, .bool false] w fun e w' => e = .returned (.bool true) ∧ Below w.heap.size w w' := by
  have SM : Hid (∀ (t : Tk) (u : Ti) w, bare t = rdT' u → Calls Tryz.prog 38 #[.agg #[.int .i64 t.kind, .string ⟨t.text.toArray⟩, .int .i64 t.v.ty, .int .i64 t.v.n, .string t.v.s, .int .i64 (t.pos : Nat), .int .i64 (t.line : Nat), .int .i64 (t.col : Nat)], .agg #[.int .i64 u.kind, .string ⟨u.text.toArray⟩, .int .i64 u.v.ty, .int .i64 u.v.n, .string u.v.s, .int .i64 u.pos, .int .i64 u.line, .int .i64 u.col], .bool false] w fun e w' => e = .returned (.bool true) ∧ Below w.heap.size w w') := fun t u w hbt => by
    obtain ⟨k, x, v, p, a, b⟩ := t
    obtain ⟨k', x', v', p', a', b'⟩ := u
    simp only [bare, rdT', Prod.mk.injEq] at hbt
    obtain ⟨rfl, h5, h6⟩ := hbt
    refine same_loose k x x' v v' p a b p' a' b' w (fun h => ?_) (fun h => ?_)
    · rw [h6, if_pos h, pln_pln]
    · rw [h5, if_neg h]
  have HB1 : Hid (∀ (i : Nat) (t : Tk) (u : Ti), L1[i]? = some t → L2[i]? = some u → bare t = rdT' u) := fun (i : Nat) t u ht hu => by
    have e := congrArg (fun l : List (Int × List UInt8 × Va) => l[i]?) hbare
    simp only [List.getElem?_map, ht, hu, Option.map_some] at e
    exact Option.some.inj e
  have H1 : Hid (tokIn w p1 L1) := h1
  have H2 : Hid (tokII w p2 L2) := h2
  have HN1 : Hid (L1.length = N) := n1
  have HN2 : Hid (L2.length = N) := n2
  have hne : ((N : Int) != (N : Int)) = false := by simp
  clear h1 h2 hbare n1 n2
  go_enter Tryz.func18, Tryz.ntmps18
  go_wp2_with fail
  go_loopw [7] (fun s7 wr => ∃ (k : Nat), s7 = .int .i64 k ∧ k ≤ N ∧ Hid (Below w.heap.size w wr)) (fun s7 _ => N - (intOf s7).toNat)
  case atStart => exact ⟨0, rfl, Nat.zero_le _, Below.refl _ _⟩
  case round =>
    obtain ⟨k, rfl, hk, hbr⟩ := hrel
    by_cases hlt : k < N
    · have hlti : (k : Int) < (N : Int) := by omega
      obtain ⟨t, ht⟩ : ∃ t, L1[k]? = some t := ⟨L1[k]'(by rw [HN1.out]; exact hlt), List.getElem?_eq_getElem _⟩
      obtain ⟨u, hu⟩ : ∃ u, L2[k]? = some u := ⟨L2[k]'(by rw [HN2.out]; exact hlt), List.getElem?_eq_getElem _⟩
      obtain ⟨g1, o1, rfl, x1⟩ : ∃ g o, p1 = some ⟨g, o, none⟩ ∧ ∀ i t, L1[i]? = some t → T8 wr g (o + i * 8) t := by
        rcases H1.out.below hbr.out with h | h
        · rw [h] at ht; simp at ht
        · exact h
      obtain ⟨g2, o2, rfl, x2⟩ := (H2.out.below hbr.out).at hu
      have y1 := x1 k t ht
      have y2 := x2 k u hu
      have SA : Hid (∀ w, Calls Tryz.prog 38 #[.agg #[.int .i64 t.kind, .string ⟨t.text.toArray⟩, .int .i64 t.v.ty, .int .i64 t.v.n, .string t.v.s, .int .i64 (t.pos : Nat), .int .i64 (t.line : Nat), .int .i64 (t.col : Nat)], .agg #[.int .i64 u.kind, .string ⟨u.text.toArray⟩, .int .i64 u.v.ty, .int .i64 u.v.n, .string u.v.s, .int .i64 u.pos, .int .i64 u.line, .int .i64 u.col], .bool false] w fun e w' => e = .returned (.bool true) ∧ Below w.heap.size w w') := fun w => SM.out t u w (HB1.out k t u ht hu)
      have n0 : R3' w g1 (o1 + k * 8) g2 (o2 + k * 8) t u wr := ⟨hbr.out, y1, y2⟩
      clear x1 x2 y1 y2 ht hu SM HB1 H1 H2 hbr HN1 HN2
      go_wp2_with fail
      refine wp_region_noPanic ?_
      refine wp_region_held_drew (S := fun w' => R3' w g1 (o1 + k * 8) g2 (o2 + k * 8) t u w') (by kernel_rfl) (n0.drew) (fun hH => ?_)
      refine take_at (i := 0) (v := .slice (some ⟨g1, o1, none⟩) N c1) rfl rfl (by kernel_rfl) (by kernel_rfl) (by kernel_rfl) (fun _ _ _ h => h) (Or.inl ⟨by rfl, ?_⟩) hH ?_
      · intro w hSw; (try dsimp only at hSw); obtain ⟨a0, a1, a2, a3, a4, a5, a6, a7⟩ := hSw.x; obtain ⟨d0, d1, d2, d3, d4, d5, d6, d7⟩ := hSw.y; go_simp
      simp only [List.setIfInBounds_toArray, List.set_cons_zero, List.set_cons_succ]
      refine take_at (i := 1) (v := .int .i64 (k : Nat)) rfl rfl (by kernel_rfl) (by kernel_rfl) (by kernel_rfl) (fun _ _ _ h => h) (Or.inl ⟨by rfl, ?_⟩) hH ?_
      · intro w hSw; (try dsimp only at hSw); obtain ⟨a0, a1, a2, a3, a4, a5, a6, a7⟩ := hSw.x; obtain ⟨d0, d1, d2, d3, d4, d5, d6, d7⟩ := hSw.y; go_simp
      simp only [List.setIfInBounds_toArray, List.set_cons_zero, List.set_cons_succ]
      refine take_at (i := 2) (v := .pointer (some ⟨g1, o1 + k * 8, none⟩)) rfl rfl (by kernel_rfl) (by kernel_rfl) (by kernel_rfl) (fun _ _ _ h => h) (Or.inl ⟨by rfl, ?_⟩) hH ?_
      · intro w hSw; (try dsimp only at hSw); obtain ⟨a0, a1, a2, a3, a4, a5, a6, a7⟩ := hSw.x; obtain ⟨d0, d1, d2, d3, d4, d5, d6, d7⟩ := hSw.y; go_simp
      simp only [List.setIfInBounds_toArray, List.set_cons_zero, List.set_cons_succ]
      refine take_at (i := 3) (v := .agg #[.int .i64 t.kind, .string ⟨t.text.toArray⟩, .int .i64 t.v.ty, .int .i64 t.v.n, .string t.v.s, .int .i64 (t.pos : Nat), .int .i64 (t.line : Nat), .int .i64 (t.col : Nat)]) rfl rfl (by kernel_rfl) (by kernel_rfl) (by kernel_rfl) (fun _ _ _ h => h) (Or.inl ⟨by rfl, ?_⟩) hH ?_
      · intro w hSw; (try dsimp only at hSw); obtain ⟨a0, a1, a2, a3, a4, a5, a6, a7⟩ := hSw.x; obtain ⟨d0, d1, d2, d3, d4, d5, d6, d7⟩ := hSw.y; go_simp
      simp only [List.setIfInBounds_toArray, List.set_cons_zero, List.set_cons_succ]
      refine take_at (i := 4) (v := .slice (some ⟨g2, o2, none⟩) N c2) rfl rfl (by kernel_rfl) (by kernel_rfl) (by kernel_rfl) (fun _ _ _ h => h) (Or.inl ⟨by rfl, ?_⟩) hH ?_
      · intro w hSw; (try dsimp only at hSw); obtain ⟨a0, a1, a2, a3, a4, a5, a6, a7⟩ := hSw.x; obtain ⟨d0, d1, d2, d3, d4, d5, d6, d7⟩ := hSw.y; go_simp
      simp only [List.setIfInBounds_toArray, List.set_cons_zero, List.set_cons_succ]
      refine take_at (i := 5) (v := .int .i64 (k : Nat)) rfl rfl (by kernel_rfl) (by kernel_rfl) (by kernel_rfl) (fun _ _ _ h => h) (Or.inl ⟨by rfl, ?_⟩) hH ?_
      · intro w hSw; (try dsimp only at hSw); obtain ⟨a0, a1, a2, a3, a4, a5, a6, a7⟩ := hSw.x; obtain ⟨d0, d1, d2, d3, d4, d5, d6, d7⟩ := hSw.y; go_simp
      simp only [List.setIfInBounds_toArray, List.set_cons_zero, List.set_cons_succ]
      refine take_at (i := 6) (v := .pointer (some ⟨g2, o2 + k * 8, none⟩)) rfl rfl (by kernel_rfl) (by kernel_rfl) (by kernel_rfl) (fun _ _ _ h => h) (Or.inl ⟨by rfl, ?_⟩) hH ?_
      · intro w hSw; (try dsimp only at hSw); obtain ⟨a0, a1, a2, a3, a4, a5, a6, a7⟩ := hSw.x; obtain ⟨d0, d1, d2, d3, d4, d5, d6, d7⟩ := hSw.y; go_simp
      simp only [List.setIfInBounds_toArray, List.set_cons_zero, List.set_cons_succ]
      refine take_at (i := 7) (v := .agg #[.int .i64 u.kind, .string ⟨u.text.toArray⟩, .int .i64 u.v.ty, .int .i64 u.v.n, .string u.v.s, .int .i64 u.pos, .int .i64 u.line, .int .i64 u.col]) rfl rfl (by kernel_rfl) (by kernel_rfl) (by kernel_rfl) (fun _ _ _ h => h) (Or.inl ⟨by rfl, ?_⟩) hH ?_
      · intro w hSw; (try dsimp only at hSw); obtain ⟨a0, a1, a2, a3, a4, a5, a6, a7⟩ := hSw.x; obtain ⟨d0, d1, d2, d3, d4, d5, d6, d7⟩ := hSw.y; go_simp
      simp only [List.setIfInBounds_toArray, List.set_cons_zero, List.set_cons_succ]
      refine take_at (i := 8) (v := .bool false) rfl rfl (by kernel_rfl) (by kernel_rfl) (by kernel_rfl) (fun _ _ _ h => h) (Or.inl ⟨by rfl, ?_⟩) hH ?_
      · intro w hSw; (try dsimp only at hSw); obtain ⟨a0, a1, a2, a3, a4, a5, a6, a7⟩ := hSw.x; obtain ⟨d0, d1, d2, d3, d4, d5, d6, d7⟩ := hSw.y; go_simp
      simp only [List.setIfInBounds_toArray, List.set_cons_zero, List.set_cons_succ]
      refine wpAnyH_ready (rs := [9]) (by kernel_rfl) (by simp) ?_
      refine AllReadyH.cons rfl (fun K hK => ?_) AllReadyH.nil
      go_simp
      go_at_call 38
      refine (SA.out _).mono ?_
      rintro e w5 ⟨rfl, hb5⟩
      go_wp2_with fail
      refine hK.out _ _ (hH.next hb5) (fun hH5 => ?_)
      clear hK K
      clear hH
      refine take_at (i := 10) (v := .bool false) rfl rfl (by kernel_rfl) (by kernel_rfl) (by kernel_rfl) (fun _ _ _ h => h) (Or.inl ⟨by rfl, ?_⟩) hH5 ?_
      · intro w hSw; (try dsimp only at hSw); obtain ⟨a0, a1, a2, a3, a4, a5, a6, a7⟩ := hSw.x; obtain ⟨d0, d1, d2, d3, d4, d5, d6, d7⟩ := hSw.y; go_simp
      simp only [List.setIfInBounds_toArray, List.set_cons_zero, List.set_cons_succ]
      refine wpAnyH_done (by kernel_rfl) ?_ _
      refine NoPanic.normal ?_
      have B9 := hH5.b
      clear hH5
      go_wp2_with fail
      go_roundw
      case rel => exact ⟨k + 1, by go_num, hlt, B9⟩
      case measure => simp [intOf]; omega
    · have hlti : ¬ (k : Int) < (N : Int) := by omega
      have hb := hbr.out
      clear SM HB1 H1 H2 hbr
      go_wp2_with fail
      go_ret
      exact ⟨rfl, hb⟩
end Go.Proofs.YtfcolecglobcdaaGreatDoor
