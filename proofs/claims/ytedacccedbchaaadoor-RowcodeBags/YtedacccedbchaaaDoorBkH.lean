/-
  The walk of rowcode.ReadRow.
-/
import Derived.Test.YtedacccedbchaaaDoorBkN
import Derived.OwnWalk
namespace Go.Proofs.YtedacccedbchaaaDoor
open Go.RowKit Go.Shelf

/-- a value's three cells -/
def cellsOf (v : Va) : List Value := [.int .i64 v.ty, .int .i64 v.n, .string v.s]
/-- the cells of a row -/
def flat (l : List Va) : List Value := l.flatMap cellsOf
theorem flat_cons (v : Va) (l : List Va) : flat (v :: l) = cellsOf v ++ flat l := rfl
theorem flat_len : ∀ l : List Va, (flat l).length = l.length * 3
  | [] => rfl
  | v :: l => by rw [flat_cons, List.length_append, flat_len l]; simp [cellsOf]; omega
theorem flat_get : ∀ (l : List Va) (i : Nat) (v : Va) (r : Nat), l[i]? = some v → r < 3 → (flat l)[i * 3 + r]? = (cellsOf v)[r]?
  | [], i, v, r, h, _ => by simp at h
  | x :: l, 0, v, r, h, hr => by
    simp at h; subst h
    rw [flat_cons, Nat.zero_mul, Nat.zero_add, List.getElem?_append_left (by simp [cellsOf]; exact hr)]
  | x :: l, i + 1, v, r, h, hr => by
    simp at h
    rw [flat_cons, List.getElem?_append_right (by simp [cellsOf]; omega), ← flat_get l i v r h hr]
    congr 1
    simp [cellsOf]; omega
theorem flat_one (l : List Va) : ∀ u ∈ flat l, u.oneCell' = true := by
  intro u hu
  simp only [flat, List.mem_flatMap, cellsOf, List.mem_cons, List.not_mem_nil, or_false] at hu
  obtain ⟨v, _, rfl | rfl | rfl⟩ := hu <;> rfl
theorem rowInfo : (Tryd.prog.info? 46).map (fun i => (i.zero, i.size, i.bytes)) = some (some (.agg #[.int .i64 0, .int .i64 0, .string ⟨#[]⟩]), 3, 32) := by kernel_rfl
theorem rowType : Tryd.prog.underlying 30 = some (.slice 46) := by kernel_rfl
theorem flat_app (a b : List Va) : flat (a ++ b) = flat a ++ flat b := by simp [flat]
/-- a row's values, in memory of one's own -/
def ownsV (w : World) (base : Nat) (v : Value) (l : List Va) : Prop := w.ownsRow base 46 3 v l.length (flat l)
theorem ownsV_nil (w : World) (base : Nat) : ownsV w base (.slice none 0 0) [] := World.ownsRow_nil _ _ _ _
theorem ownsV.alloc {w : World} {base : Nat} {v : Value} {l : List Va} (h : ownsV w base v l) (o : Obj) : ownsV (w.alloc o) base v l := World.ownsRow.alloc h o
theorem ownsV.below {w w' : World} {base : Nat} {v : Value} {l : List Va} (h : ownsV w base v l) (hb : Below w.heap.size w w') : ownsV w' base v l :=
  World.ownsRow.kept h (row := none) ⟨hb.os, hb.tape, hb.output, hb.size, fun k hk _ => hb.block k hk⟩ (by cases hv : v.ownBlock <;> simp)
theorem ownsV.row {w : World} {base : Nat} {v : Value} {l : List Va} (h : ownsV w base v l) : ∃ r : Rw, v = .slice r.p r.la.length r.c ∧ r.la = l ∧ rowIn w r.p l ∧ l.length ≤ r.c ∧ r.c ≤ 9223372036854775807 := by
  rcases h.2 with ⟨rfl, h0⟩ | ⟨g, cap, cur, rfl, hb, hcur, h1, h2, h3, h4⟩
  · obtain rfl : l = [] := List.eq_nil_of_length_eq_zero h0
    exact ⟨⟨none, 0, []⟩, rfl, rfl, Or.inl rfl, Nat.le_refl _, Nat.zero_le _⟩
  · refine ⟨⟨some ⟨g, 0, none⟩, cap, l⟩, rfl, rfl, Or.inr ⟨g, 0, rfl, ?_, fun i v hv => ?_⟩, h1, by unfold maxLen at h2; exact h2⟩
    · rcases Nat.lt_or_ge g w.heap.size with h | h
      · exact h
      · rw [Array.getElem?_eq_none h] at hcur; cases hcur
    · have hi := (List.getElem?_eq_some_iff.1 hv).1
      have k0 := flat_get l i v 0 hv (by omega)
      have k1 := flat_get l i v 1 hv (by omega)
      have k2 := flat_get l i v 2 hv (by omega)
      rw [Nat.zero_add]
      refine ⟨?_, ?_, ?_⟩
      · rw [World.ownsRow.cellAt h _ (by omega)]; exact k0
      · rw [World.ownsRow.cellAt h _ (by omega)]; exact k1
      · rw [World.ownsRow.cellAt h _ (by omega)]; exact k2
theorem ownV_ge {w : World} {base : Nat} {v : Value} {l : List Va} (h : ownsV w base v l) : ∀ g, v.ownBlock = some g → base ≤ g := by
  intro g hg
  rcases h.2 with ⟨rfl, _⟩ | ⟨g', cap, cur, rfl, hb, _⟩
  · simp [Value.ownBlock] at hg
  · simp [Value.ownBlock] at hg; omega
theorem app_v {ops : Array Oper} {rest : List Oper} {o : Oper} {a : Act} {w : World} {Q : Exit → Act → World → Prop} (hgd : o.guard = none) (s x : Operand)
    (ho : o.op = .call { callee := .builtin .append, args := #[s, x], argTypes := #[30, 30] })
    (base : Nat) (v : Value) (l : List Va) (u : Va) (hs : a.eval s = v) (hown : ownsV w base v l)
    (hx : a.eval x = .slice (some ⟨w.heap.size, 0, none⟩) 1 1) (hl : l.length ≤ 1000) (hb : base ≤ w.heap.size)
    (h : ∀ v' w', ownsV w' base v' (l ++ [u]) → Below base w w' → base ≤ w'.heap.size → wpList Tryd.prog ops Q rest (a.put o.dst v') w') :
    wpList Tryd.prog ops Q (o :: rest) a (w.alloc (.cells #[.int .i64 u.ty, .int .i64 u.n, .string u.s] 46)) := by
  obtain ⟨i0, hi, hz0, hz1, hz2⟩ := info_parts rowInfo
  refine wpList_append_own _ hgd s x 30 ho base 46 i0 (.agg #[.int .i64 0, .int .i64 0, .string ⟨#[]⟩]) 3 32 rowType hi hz0 hz1 hz2 rfl (by decide) v l.length (flat l) hs (hown.alloc _) ⟨w.heap.size, 0, none⟩ 1 1 (flat [u]) hx (by rw [flat_len]; rfl) ?_ (flat_one _) (by unfold maxLen; omega) (by omega) (by simp; omega) ?_
  · intro j y hj
    have ea : (⟨w.heap.size, 0, none⟩ : Addr).add j = ⟨w.heap.size, j, none⟩ := by simp [Addr.add]; intro h; exact h.symm
    rw [ea, ← hj]
    simp only [World.cell?, heap_alloc_new]
    simp [flat, cellsOf]
  · intro v' w' h1 h2 _
    have e : ownsV w' base v' (l ++ [u]) := by
      show w'.ownsRow _ _ _ _ _ _
      rw [flat_app, List.length_append]; exact h1
    have hb2 : Below base (w.alloc (.cells #[.int .i64 u.ty, .int .i64 u.n, .string u.s] 46)) w' := below_own h2 (by simp; omega) (ownV_ge hown)
    have hb1 : Below base w (w.alloc (.cells #[.int .i64 u.ty, .int .i64 u.n, .string u.s] 46)) := (Below.refl _ w).alloc hb _
    exact h v' w' e (hb1.trans hb2) (Nat.le_trans hb (hb1.trans hb2).size)

theorem rdV_err {l : List UInt8} {e : Int} (h : rdV l = .error e) : e ≠ 0 := by
  have tx : ∀ (n : Nat) (l : List UInt8) (e : Int), l.length ≤ n → rdTx l = .error e → e ≠ 0 := by
    intro n
    induction n with
    | zero =>
      intro l e hn h
      obtain rfl : l = [] := List.eq_nil_of_length_eq_zero (by omega)
      rw [rdTx_nil] at h; cases h; decide
    | succ n ih =>
      intro l e hn h
      rcases l with _ | ⟨x, r⟩
      · rw [rdTx_nil] at h; cases h; decide
      by_cases x0 : x = 0
      · subst x0
        rcases r with _ | ⟨y, r'⟩
        · rw [rdTx_open] at h; cases h; decide
        by_cases y255 : y = 255
        · subst y255
          rw [rdTx_zero] at h
          rcases hq : rdTx r' with e' | q
          · rw [hq] at h
            have h : Except.error e' = Except.error e := h
            cases h
            exact ih r' _ (by simp at hn; omega) hq
          · rw [hq] at h; cases h
        by_cases y0 : y = 0
        · subst y0; rw [rdTx_end] at h; cases h
        · rw [rdTx_bad y255 y0] at h; cases h; decide
      · rw [rdTx_plain x0] at h
        rcases hq : rdTx r with e' | q
        · rw [hq] at h
          have h : Except.error e' = Except.error e := h
          cases h
          exact ih r _ (by simp at hn; omega) hq
        · rw [hq] at h; cases h
  rcases l with _ | ⟨x, l'⟩
  · have h : Except.error 4 = Except.error e := h
    cases h; decide
  have h : (if x = 1 then .ok (⟨0, 0, ⟨#[]⟩⟩, 1) else if x = 2 then rdNum (x :: l') else if x = 3 then rdText (x :: l') else if x = 4 then rdBool (x :: l') else .error 20) = Except.error e := h
  split at h
  · cases h
  · split at h
    · unfold rdNum at h
      split at h
      · cases h; decide
      · split at h
        · cases h
        · cases h; decide
    · split at h
      · unfold rdText at h
        rcases hq : rdTx (List.drop 1 (x :: l')) with e' | ⟨t, n⟩
        · rw [hq] at h
          have h : Except.error e' = Except.error e := h
          cases h
          exact tx _ _ _ (Nat.le_refl _) hq
        · rw [hq] at h
          have h : whT _ _ = Except.error e := h
          unfold whT at h
          split at h
          · cases h
          · cases h; decide
      · split at h
        · unfold rdBool at h
          split at h
          · cases h; decide
          · split at h
            · cases h; decide
            · cases h
        · cases h; decide
def rErr : Except Int (List Va × Nat) → Int
  | .error e => e
  | .ok _ => 0
def rCnt : Except Int (List Va × Nat) → Nat
  | .error _ => 0
  | .ok (_, m) => m

set_option maxHeartbeats 4000000 in
set_option maxRecDepth 1000000 in
theorem ReadRow_any (p : Option Addr) (c : Nat) (l : List UInt8) (w : World) (hp : byIn w p l) (hc : l.length ≤ c) (hcm : c ≤ 9223372036854775807) (hlm : l.length ≤ 140737488351232) (hT : Tabs w) :
    Calls Tryd.prog 13 #[.slice p l.length c] w fun e w' => ∃ v', e = .returned (.tuple #[v', .int .i64 ((rCnt (rdRow l) : Nat) : Int), .int .i64 (rErr (rdRow l))]) ∧ Below w.heap.size w w' ∧ (∀ s m, rdRow l = .ok (s, m) → ownsV w' w.heap.size v' s) ∧ (∀ x, rdRow l = .error x → v' = .slice none 0 0) := by
  obtain ⟨E, hE⟩ : ∃ E, E = rdRow l := ⟨_, rfl⟩
  rw [← hE]
  have HE : Hid (E = rdRs (l.length + 1) [] (l.drop 0) 0) := hE
  have HP : Hid (byIn w p l) := hp
  clear hE
  go_enter Tryd.func13, Tryd.ntmps13
  go_wp2_with fail
  go_loopw [5, 6] (fun sv si wr => ∃ (n f : Nat) (acc : List Va), si = .int .i64 n ∧ n ≤ l.length ∧ l.length - n < f ∧ acc.length ≤ 16 ∧ Hid (E = rdRs f acc (l.drop n) n) ∧ ownsV wr w.heap.size sv acc ∧ Below w.heap.size w wr) (fun _ si _ => l.length - (intOf si).toNat)
  case atStart => exact ⟨0, l.length + 1, [], rfl, Nat.zero_le _, by omega, by simp, HE, ownsV_nil _ _, Below.refl _ _⟩
  case round =>
    obtain ⟨n, f, acc, rfl, hn, hf, ha, hd, ho, hbr⟩ := hrel
    clear HE
    have hsr := hbr.size
    obtain ⟨f, rfl⟩ : ∃ f', f = f' + 1 := ⟨f - 1, by omega⟩
    by_cases hlt : n < l.length
    · obtain ⟨x, hx⟩ : ∃ x, l[n]? = some x := ⟨l[n], List.getElem?_eq_getElem hlt⟩
      rcases hp with rfl | ⟨g, off, rfl, hg, hcs⟩
      · simp at hx
      have dx := (hbr.cell (p := ⟨g, off + n, none⟩) hg).trans (hcs n x hx)
      have hdr := drop_at hx
      rw [hdr, rdRs] at hd
      obtain ⟨⟨P5, C5, la⟩, h5, hla, _, _, _⟩ := ho.row
      simp only at h5 hla
      subst hla
      subst h5
      by_cases x0 : x = 0
      · have hd2 : E = .ok (la, n + 1) := by rw [hd.out, if_pos x0]
        subst hd2
        subst x0
        have dx0 : wr.cell? ⟨g, off + n, none⟩ = some (.int .u8 0) := dx
        have HO : Hid (ownsV wr w.heap.size (.slice P5 la.length C5) la) := ho
        clear dx hd hx hcs ho
        go_wp2_with fail
        refine bodyPost_ret (v := .tuple #[.slice P5 la.length C5, .int .i64 ((n : Int) + 1), .int .i64 0]) (by simp [results, Tryd.results13, go_sem]) rfl ⟨_, rfl, hbr, ?_⟩
        first
          | exact HO.out
          | exact ⟨by intro s m h; simp only [Except.ok.injEq, Prod.mk.injEq] at h; obtain ⟨rfl, rfl⟩ := h; exact HO.out, by intro x h; cases h⟩
      · have hd1 : Hid (E = if la.length = 16 then .error 20 else match rdV (x :: l.drop (n + 1)) with | .error e => .error e | .ok (v, k) => rdRs f (la ++ [v]) ((x :: l.drop (n + 1)).drop k) (n + k)) := by
          show E = _
          rw [hd.out, if_neg x0]
          rfl
        have hx0 : ((x.toNat : Int) == 0) = false := by rw [beq_eq_false_iff_ne]; intro h; exact x0 (UInt8.toNat_inj.1 (by show x.toNat = 0; omega))
        clear hd
        by_cases h16 : la.length = 16
        · have hd2 : E = .error 20 := by rw [hd1.out, if_pos h16]
          subst hd2
          have h16i : ((la.length : Int) == 16) = true := by rw [h16]; rfl
          clear hd1 hx hcs ho x0 h16
          go_wp2_with fail
          refine bodyPost_ret (v := .tuple #[.slice none 0 0, .int .i64 0, .int .i64 20]) (by simp [results, Tryd.results13, go_sem]) rfl (by first | exact hbr | exact ⟨rfl, hbr⟩ | exact ⟨_, hbr⟩ | exact ⟨_, rfl, hbr⟩ | exact ⟨_, rfl, hbr, (by intro s m h; cases h), fun _ _ => rfl⟩)
        · have h16i : ((la.length : Int) == 16) = false := by rw [beq_eq_false_iff_ne]; omega
          have RD : Hid (Calls Tryd.prog 27 #[.slice (some ⟨g, off + n, none⟩) (l.length - n) (c - n)] wr fun e w' => e = .returned (vrd (rdV (x :: l.drop (n + 1)))) ∧ Below wr.heap.size wr w') := by
            have hby : byIn wr (some ⟨g, off + n, none⟩) (l.drop n) := Or.inr ⟨g, off + n, rfl, Nat.lt_of_lt_of_le hg hbr.size, fun i y hy => by
              rw [List.getElem?_drop] at hy
              have := (hbr.cell (p := ⟨g, off + (n + i), none⟩) hg).trans (hcs (n + i) y hy)
              rw [← Nat.add_assoc] at this; exact this⟩
            have := Read_any (some ⟨g, off + n, none⟩) (c - n) (l.drop n) wr hby (by rw [List.length_drop]; omega) (by omega) (by rw [List.length_drop]; omega) (hT.below hbr)
            rw [List.length_drop, hdr] at this; exact this
          have nc : ¬ c = n := by omega
          have hnl : (n : Int) ≤ (l.length : Int) := by omega
          have hlc : (l.length : Int) ≤ (c : Int) := by omega
          have hX : Hid (l[n]? = some x) := hx
          have HO : Hid (ownsV wr w.heap.size (.slice P5 la.length C5) la) := ho
          rcases hq : rdV (x :: l.drop (n + 1)) with e | ⟨⟨t, m, s⟩, k⟩
          · have hd2 : E = .error e := by rw [hd1.out, if_neg h16, hq]
            subst hd2
            have hne : (e != 0) = true := by rw [bne_iff_ne]; exact rdV_err hq
            rw [hq] at RD
            clear hd1 hx hcs ho x0 h16 hq
            go_wp2_with fail
            refine RD.out.mono ?_
            rintro e' w4 ⟨rfl, hb4⟩
            have B4 := hbr.trans (hb4.mono hbr.size)
            unfold vrd
            go_wp2_with fail
            refine bodyPost_ret (v := .tuple #[.slice none 0 0, .int .i64 0, .int .i64 e]) (by simp [results, Tryd.results13, go_sem]) rfl (by first | exact B4.alloc B4.size _ | exact ⟨rfl, B4.alloc B4.size _⟩ | exact ⟨_, B4.alloc B4.size _⟩ | exact ⟨_, rfl, B4.alloc B4.size _⟩ | exact ⟨_, rfl, B4.alloc B4.size _, (by intro s m h; cases h), fun _ _ => rfl⟩)
          · obtain ⟨k1, k2, _, _, _⟩ := rdV_back hq
            have hkl : n + k ≤ l.length := by simp at k2; omega
            have hd2 : Hid (E = rdRs f (la ++ [⟨t, m, s⟩]) (l.drop (n + k)) (n + k)) := by
              show E = _
              rw [hd1.out, if_neg h16, hq]
              show rdRs f (la ++ [⟨t, m, s⟩]) ((x :: l.drop (n + 1)).drop k) (n + k) = _
              rw [← hdr, List.drop_drop]
            rw [hq] at RD
            have hlal : la.length < 16 := by omega
            clear hd1 hx hcs ho x0 h16 hq k2
            go_wp2_with fail
            refine RD.out.mono ?_
            rintro e' w4 ⟨rfl, hb4⟩
            have B4 := hbr.trans (hb4.mono hbr.size)
            have O4 := HO.out.below hb4
            have B5 : Hid (∀ o, Below w.heap.size w (w4.alloc o)) := fun o => B4.alloc B4.size o
            have S5 : Hid (∀ o, w.heap.size ≤ (w4.alloc o).heap.size) := fun o => by have := B4.size; simp; omega
            have O5 : Hid (∀ o, ownsV (w4.alloc o) w.heap.size (.slice P5 la.length C5) la) := fun o => O4.alloc o
            unfold vrd
            go_wp2_with (at_builtin; refine app_v rfl (.tmp 36) (.tmp 38) rfl w.heap.size _ la ⟨t, m, s⟩ rfl (O5.out _) (by simp [Act.eval]) (by omega) (S5.out _) ?_; intro v6 w6 ho6 hb6 hs6)
            go_roundw
            case rel => exact ⟨n + k, f, la ++ [⟨t, m, s⟩], by go_num, hkl, by omega, by simp; omega, hd2, ho6, (B5.out _).trans hb6⟩
            case measure => simp [intOf]; omega
    · have hd2 : E = .error 4 := by rw [hd.out, List.drop_eq_nil_of_le (by omega), rdRs]
      subst hd2
      clear hd
      go_wp2_with fail
      refine bodyPost_ret (v := .tuple #[.slice none 0 0, .int .i64 0, .int .i64 4]) (by simp [results, Tryd.results13, go_sem]) rfl (by first | exact hbr | exact ⟨rfl, hbr⟩ | exact ⟨_, hbr⟩ | exact ⟨_, rfl, hbr⟩ | exact ⟨_, rfl, hbr, (by intro s m h; cases h), fun _ _ => rfl⟩)
end Go.Proofs.YtedacccedbchaaaDoor
