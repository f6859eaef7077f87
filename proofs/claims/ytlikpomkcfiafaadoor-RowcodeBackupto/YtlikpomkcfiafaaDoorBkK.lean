/-
  The walk of locksteplaw02.RowcodeBack.
-/
import Derived.Test.YtlikpomkcfiafaaDoorBkJ
namespace Go.Proofs.YtlikpomkcfiafaaDoor
open Go.RowKit Go.Shelf

theorem ownsB.bytes {w : World} {base : Nat} {v : Value} {l : List UInt8} (h : ownsB w base v l) : ∃ p c, v = .slice p l.length c ∧ byIn w p l ∧ l.length ≤ c ∧ c ≤ 9223372036854775807 ∧ (p = none → c = 0) := by
  rcases h.2 with ⟨rfl, h0⟩ | ⟨g, cap, cur, rfl, hb, hcur, h1, h2, _⟩
  · obtain rfl : l = [] := List.eq_nil_of_length_eq_zero h0
    exact ⟨none, 0, rfl, Or.inl rfl, Nat.le_refl _, Nat.zero_le _, fun _ => rfl⟩
  · refine ⟨some ⟨g, 0, none⟩, cap, rfl, Or.inr ⟨g, 0, rfl, ?_, fun i x hx => ?_⟩, h1, by unfold maxLen at h2; exact h2, by intro h; cases h⟩
    · rcases Nat.lt_or_ge g w.heap.size with h | h
      · exact h
      · rw [Array.getElem?_eq_none h] at hcur; cases hcur
    · have hi := (List.getElem?_eq_some_iff.1 hx).1
      rw [Nat.zero_add, World.ownsRow.cellAt h i (by omega)]; exact by8_get hx
theorem own_own {w : World} {base : Nat} {v : Value} {l : List UInt8} (h : ownsB w base v l) (hl : l.length ≤ 10000000) :
    Calls Tryd.prog 5 #[v] w fun e w' => ∃ v', e = .returned v' ∧ ownsB w' w.heap.size v' l ∧ Below w.heap.size w w' ∧ ∃ g cap, v' = .slice (some ⟨g, 0, none⟩) l.length cap := by
  obtain ⟨p, c, rfl, h1, _, _, h4⟩ := h.bytes
  exact own_any p c l w h1 h4 hl
theorem ReadRow_own {w : World} {base : Nat} {v : Value} {l : List UInt8} (h : ownsB w base v l) (hl : l.length ≤ 140737488351232) (hT : Tabs w) :
    Calls Tryd.prog 16 #[v] w fun e w' => ∃ v', e = .returned (.tuple #[v', .int .i64 ((rCnt (rdRow l) : Nat) : Int), .int .i64 (rErr (rdRow l))]) ∧ Below w.heap.size w w' ∧ (∀ s m, rdRow l = .ok (s, m) → ownsV w' w.heap.size v' s) ∧ (∀ x, rdRow l = .error x → v' = .slice none 0 0) := by
  obtain ⟨p, c, rfl, h1, h2, h3, _⟩ := h.bytes
  exact ReadRow_any p c l w h1 h2 h3 hl hT
theorem Read_own {w : World} {base : Nat} {v : Value} {l : List UInt8} (h : ownsB w base v l) (hl : l.length ≤ 140737488351232) (hT : Tabs w) :
    Calls Tryd.prog 8 #[v] w fun e w' => e = .returned (vrd (rdV l)) ∧ Below w.heap.size w w' := by
  obtain ⟨p, c, rfl, h1, h2, h3, _⟩ := h.bytes
  exact Read_any p c l w h1 h2 h3 hl hT
theorem numV_s {hi lo kd : Nat} {v : Va} (h : numV hi lo kd = some v) : v.s = ⟨#[]⟩ := by
  unfold numV at h
  split at h
  · unfold whV at h
    split at h
    · obtain rfl := Option.some.inj h; rfl
    · cases h
  · split at h
    · split at h
      · obtain rfl := Option.some.inj h; rfl
      · cases h
    · cases h
theorem rdV_small {l : List UInt8} {v : Va} {k : Nat} (h : rdV l = .ok (v, k)) : v.s.size ≤ 9223372036854775807 := by
  have z : (⟨#[]⟩ : ByteArray).size ≤ 9223372036854775807 := Nat.zero_le _
  rcases l with _ | ⟨x, l'⟩
  · cases h
  have h : (if x = 1 then .ok (⟨0, 0, ⟨#[]⟩⟩, 1) else if x = 2 then rdNum (x :: l') else if x = 3 then rdText (x :: l') else if x = 4 then rdBool (x :: l') else .error 20) = Except.ok (v, k) := h
  split at h
  · simp only [Except.ok.injEq, Prod.mk.injEq] at h
    obtain ⟨rfl, rfl⟩ := h
    exact z
  · split at h
    · unfold rdNum at h
      split at h
      · cases h
      · split at h
        · rename_i v' hv
          simp only [Except.ok.injEq, Prod.mk.injEq] at h
          obtain ⟨rfl, rfl⟩ := h
          rw [numV_s hv]; exact z
        · cases h
    · split at h
      · unfold rdText at h
        rcases hq : rdTx (List.drop 1 (x :: l')) with e' | ⟨t, n⟩
        · rw [hq] at h; cases h
        · rw [hq] at h
          have h : whT ⟨([] ++ t).toArray⟩ (1 + n) = Except.ok (v, k) := h
          unfold whT at h
          split at h
          · rename_i hc
            simp only [Except.ok.injEq, Prod.mk.injEq] at h
            obtain ⟨rfl, rfl⟩ := h
            have := (chkT_zero hc).1
            exact Nat.le_trans this (by omega)
          · cases h
      · split at h
        · unfold rdBool at h
          split at h
          · cases h
          · split at h
            · cases h
            · simp only [Except.ok.injEq, Prod.mk.injEq] at h
              obtain ⟨rfl, rfl⟩ := h
              exact z
        · cases h
theorem rdRs_small : ∀ (f : Nat) (acc : List Va) (l : List UInt8) (n : Nat) (s : List Va) (m : Nat), rdRs f acc l n = .ok (s, m) → (∀ v ∈ acc, v.s.size ≤ 9223372036854775807) → ∀ v ∈ s, v.s.size ≤ 9223372036854775807
  | 0, _, _, _, _, _, h, _ => by rw [rdRs] at h; cases h
  | _ + 1, _, [], _, _, _, h, _ => by rw [rdRs] at h; cases h
  | f + 1, acc, x :: r, n, s, m, h, ha => by
    rw [rdRs] at h
    split at h
    · simp only [Except.ok.injEq, Prod.mk.injEq] at h
      obtain ⟨rfl, rfl⟩ := h
      exact ha
    · split at h
      · cases h
      · rcases hq : rdV (x :: r) with e | ⟨v, k⟩
        · rw [hq] at h; cases h
        · rw [hq] at h
          refine rdRs_small f (acc ++ [v]) _ _ s m h (fun u hu => ?_)
          simp only [List.mem_append, List.mem_cons, List.not_mem_nil, or_false] at hu
          rcases hu with hu | rfl
          · exact ha u hu
          · exact rdV_small hq
theorem rdRow_small {l : List UInt8} {s : List Va} {m : Nat} (h : rdRow l = .ok (s, m)) : ∀ v ∈ s, v.s.size ≤ 9223372036854775807 := rdRs_small _ _ _ _ _ _ h (by simp)
theorem rErr_err {l : List UInt8} {x : Int} (h : rdRow l = .error x) : x ≠ 0 := by
  have key : ∀ (f : Nat) (acc : List Va) (l : List UInt8) (n : Nat) (x : Int), rdRs f acc l n = .error x → x ≠ 0 := by
    intro f
    induction f with
    | zero => intro acc l n x h; rw [rdRs] at h; cases h; decide
    | succ f ih =>
      intro acc l n x h
      rcases l with _ | ⟨y, r⟩
      · rw [rdRs] at h; cases h; decide
      · rw [rdRs] at h
        split at h
        · cases h
        · split at h
          · cases h; decide
          · rcases hq : rdV (y :: r) with e | ⟨v, k⟩
            · rw [hq] at h
              have h : Except.error e = Except.error x := h
              cases h
              exact rdV_err hq
            · rw [hq] at h
              exact ih _ _ _ _ h
  exact key _ _ _ _ _ h
theorem rowE_zero {s : List Va} (h : ∀ v ∈ s, okV v) (h16 : s.length ≤ 16) : rowE s = 0 := by
  have e : ∀ l : List Va, (∀ v ∈ l, okV v) → errs l = 0 := by
    intro l
    induction l with
    | nil => intro _; rfl
    | cons x l ih => intro h; rw [errs_pass (h x List.mem_cons_self).1]; exact ih (fun v hv => h v (List.mem_cons_of_mem _ hv))
  unfold rowE
  rw [if_neg (by omega)]; exact e s h
theorem Rows_own {w : World} {b1 b2 : Nat} {va vb : Value} {l : List Va} (ha : ownsV w b1 va l) (hb : ownsV w b2 vb l) (hl : l.length ≤ 1000) :
    Calls Tryd.prog 17 #[va, vb] w fun e w' => e = .returned (.bool true) ∧ Below w.heap.size w w' := by
  obtain ⟨⟨p, c, la⟩, h1, h2, h3, _, _⟩ := ha.row
  obtain ⟨⟨q, d, lb⟩, g1, g2, g3, _, _⟩ := hb.row
  simp only at h1 h2 h3 g1 g2 g3
  subst h1 g1
  rw [h2, g2]
  exact Rows2_eq p q c d l w h3 g3 hl
/-- a box and a value of a row, and what lay below them -/
@[reducible] def twoR (w0 : World) (A g o : Nat) (a b : Va) (w' : World) : Prop := Below w0.heap.size w0 w' ∧ w'.cell? ⟨A, 0, none⟩ = some (.int .i64 a.ty) ∧ w'.cell? ⟨A, 1, none⟩ = some (.int .i64 a.n) ∧ w'.cell? ⟨A, 2, none⟩ = some (.string a.s) ∧ w'.cell? ⟨g, o, none⟩ = some (.int .i64 b.ty) ∧ w'.cell? ⟨g, o + 1, none⟩ = some (.int .i64 b.n) ∧ w'.cell? ⟨g, o + 2, none⟩ = some (.string b.s)
theorem twoR.next {w0 w w' : World} {A g o : Nat} {a b : Va} (h : twoR w0 A g o a b w) (hA : A < w0.heap.size) (hB : g < w0.heap.size) (hb : Below w.heap.size w w') : twoR w0 A g o a b w' := by
  obtain ⟨h0, a0, a1, a2, b0, b1, b2⟩ := h
  have s := h0.size
  have lA : A < w.heap.size := by omega
  have lB : g < w.heap.size := by omega
  exact ⟨h0.trans (hb.mono s), (hb.cell (p := ⟨A, 0, none⟩) lA).trans a0, (hb.cell (p := ⟨A, 1, none⟩) lA).trans a1, (hb.cell (p := ⟨A, 2, none⟩) lA).trans a2, (hb.cell (p := ⟨g, o, none⟩) lB).trans b0, (hb.cell (p := ⟨g, o + 1, none⟩) lB).trans b1, (hb.cell (p := ⟨g, o + 2, none⟩) lB).trans b2⟩
theorem twoR.drew {w0 w : World} {A g o : Nat} {a b : Va} (h : twoR w0 A g o a b w) (hA : A < w0.heap.size) (hB : g < w0.heap.size) : twoR w0 A g o a b w.drew := h.next hA hB (below_drewN (Below.refl _ w) 1)
/-- a beginning of bytes that lie anywhere, as a text -/
theorem conv_in {w : World} {g off : Nat} {l : List UInt8} (c : Nat) (hcs : ∀ i x, l[i]? = some x → w.cell? ⟨g, off + i, none⟩ = some (.int .u8 (x.toNat : Int))) : (convert 24 9 (.slice (some ⟨g, off, none⟩) l.length c)).run Tryd.prog w = .ok (.string ⟨l.toArray⟩) w :=
  run_convert_bytes_back (P := Tryd.prog) w 24 9 5 ⟨g, off, none⟩ c l u8Slice u8T strT (fun j hj => by
    have ea : (⟨g, off, none⟩ : Addr).add j = ⟨g, off + j, none⟩ := by simp only [Addr.add]; split <;> simp_all
    rw [ea]; exact hcs j _ (List.getElem?_eq_getElem hj))

set_option maxHeartbeats 8000000 in
set_option maxRecDepth 1000000 in
theorem RowcodeBack_any (r : Rw) (P1 : Option Addr) (C1 : Nat) (l1 : List UInt8) (P2 : Option Addr) (C2 : Nat) (l2 : List UInt8) (w : World) (hr : rwOk w r) (_ : r.la.length ≤ 9223372036854775807) (hp1 : byIn w P1 l1) (hn1 : P1 = none → C1 = 0) (hl1 : l1.length ≤ 1048576) (_ : l1.length ≤ C1) (hp2 : byIn w P2 l2) (hn2 : P2 = none → C2 = 0) (hl2 : l2.length ≤ 1048576) (hc2 : l2.length ≤ C2) (hT : Tabs w) :
    Calls Tryd.prog 4 #[.slice r.p r.la.length r.c, .slice P1 l1.length C1, .slice P2 l2.length C2] w fun e w' => e = .returned (.bool true) ∧ Below w.heap.size w w' := by
  have LV : Hid (∀ w, Tabs w → Calls Tryd.prog 14 #[] w fun e w' => e = .returned (.bool true) ∧ Below w.heap.size w w') := fun w h => lives_any w h
  have RR : Hid (∀ w', Below w.heap.size w w' → Calls Tryd.prog 15 #[.slice r.p r.la.length r.c] w' fun e w'' => ∃ v', e = .returned (.tuple #[v', .int .i64 (rowE r.la)]) ∧ Below w'.heap.size w' w'' ∧ (rowE r.la = 0 → ownsB w'' w'.heap.size v' (rowB r.la)) ∧ (¬ rowE r.la = 0 → v' = .slice none 0 0)) := fun w' h => Row_any r.p r.c r.la w' (hr.below h).1 hr.2.1 hr.2.2 (hT.below h)
  have HR : Hid (rwOk w r) := hr
  have H1 : Hid (byIn w P1 l1 ∧ (P1 = none → C1 = 0)) := ⟨hp1, hn1⟩
  have H2 : Hid (byIn w P2 l2 ∧ (P2 = none → C2 = 0)) := ⟨hp2, hn2⟩
  clear hr hp1 hn1 hp2 hn2
  go_enter Tryd.func4, Tryd.ntmps4
  go_wp2_with fail
  refine (LV.out _ hT).mono ?_
  rintro e w1 ⟨rfl, b1⟩
  go_wp2_with fail
  refine (RR.out _ b1).mono ?_
  rintro e w2 ⟨v1, rfl, hb2, ho1, hx1⟩
  have b2 := b1.trans (hb2.mono b1.size)
  by_cases hE : rowE r.la = 0
  · have O2 := ho1 hE
    have hlen := rowB_len hE
    have hok : Hid (∀ v ∈ r.la, okV v) := fun v hv => ⟨(rowE_ok hE).2 v hv, HR.out.2.1 v hv⟩
    have h16 := (rowE_ok hE).1
    obtain ⟨p7, c7, rfl, _, _, _, _⟩ := O2.bytes
    rw [hE]
    clear ho1 hx1 hE
    have OW : Hid (Calls Tryd.prog 5 #[.slice p7 (rowB r.la).length c7] w2 _) := own_own O2 (by omega)
    go_wp2_with fail
    refine OW.out.mono ?_
    rintro e w3 ⟨v3, rfl, ho3, hb3, hv3⟩
    have b3 := b2.trans (hb3.mono b2.size)
    have s3 := hb3.size
    go_wp2_with (at_builtin; refine app_any rfl (.tmp 34) (.tmp 35) rfl w2.heap.size v3 (rowB r.la) l1 rfl ho3 hv3 P1 C1 (H1.out.1.below b3) H1.out.2 rfl (by omega) s3 ?_; intro v4 w4 ho4 hb4 hs4)
    have b4 := b3.trans (hb4.mono b2.size)
    refine (ReadRow_own ho4 (by rw [List.length_append]; omega) (hT.below b4)).mono ?_
    rintro e w5 ⟨v5, rfl, hb5, ho5, _⟩
    have b5 := b4.trans (hb5.mono b4.size)
    have hq := rdRow_of h16 hok.out l1
    have O5 := ho5 _ _ hq
    rw [hq]
    have k1 : rErr (Except.ok (ε := Int) (r.la.map pl, (rowB r.la).length)) = 0 := rfl
    have k2 : rCnt (Except.ok (ε := Int) (r.la.map pl, (rowB r.la).length)) = (rowB r.la).length := rfl
    rw [k1, k2]
    have PR : Hid (Calls Tryd.prog 18 #[.slice r.p r.la.length r.c] w5 _) := PlainRow_any r.p r.c r.la w5 (HR.out.below b5).1 (by omega)
    clear ho5 hq k1 k2 OW O2 ho3 hv3 ho4 hb3 hb4 hb5 b3 b4
    go_wp2_with fail
    refine PR.out.mono ?_
    rintro e w6 ⟨v6, rfl, ho6, hb6⟩
    have b6 := b5.trans (hb6.mono b5.size)
    have RE : Hid (Calls Tryd.prog 17 #[v5, v6] w6 fun e w' => e = .returned (.bool true) ∧ Below w6.heap.size w6 w') := Rows_own (O5.below hb6) ho6 (by rw [List.length_map]; omega)
    go_wp2_with fail
    refine RE.out.mono ?_
    rintro e w7 ⟨rfl, hb7⟩
    have b7 := b6.trans (hb7.mono b6.size)
    clear O5 ho6 hb6 hb7 b5 b6 PR RE
    go_wp2_with fail
    go_loopw [12] (fun si wr => ∃ k : Nat, si = .int .i64 k ∧ k ≤ r.la.length ∧ Below w.heap.size w wr) (fun si _ => r.la.length - (intOf si).toNat)
    case atStart => exact ⟨0, rfl, Nat.zero_le _, b7⟩
    case round =>
      obtain ⟨k, rfl, hk, hbr⟩ := hrel
      clear b7 b2 b1 hb2
      by_cases hlt : k < r.la.length
      · obtain ⟨x, hxk⟩ : ∃ x, r.la[k]? = some x := ⟨r.la[k], List.getElem?_eq_getElem hlt⟩
        have hxm := List.mem_of_getElem? hxk
        obtain ⟨xc, xf⟩ := hok.out x hxm
        have xs := HR.out.2.2 x hxm
        rcases HR.out.1 with hnil | ⟨g, off, hpe, hgw, hcs⟩
        · rw [hnil] at hxk; simp at hxk
        obtain ⟨c1, c2, c3⟩ := hcs k x hxk
        have d1 := (hbr.cell (p := ⟨g, off + k * 3, none⟩) hgw).trans c1
        have d2 := (hbr.cell (p := ⟨g, off + k * 3 + 1, none⟩) hgw).trans c2
        have d3 := (hbr.cell (p := ⟨g, off + k * 3 + 2, none⟩) hgw).trans c3
        have HC : Hid (w.cell? ⟨g, off + k * 3, none⟩ = some (.int .i64 x.ty) ∧ w.cell? ⟨g, off + k * 3 + 1, none⟩ = some (.int .i64 x.n) ∧ w.cell? ⟨g, off + k * 3 + 2, none⟩ = some (.string x.s)) := ⟨c1, c2, c3⟩
        have VA : Hid (Calls Tryd.prog 6 #[.agg #[.int .i64 x.ty, .int .i64 x.n, .string x.s]] wr _) := Value_any x wr xf xs (hT.below hbr) xc
        have hvl := valB_len xc
        have hq := rdV_of xc xf l1
        clear c1 c2 c3 hcs hxk hxm
        rw [hpe]
        go_wp2_with fail
        refine VA.out.mono ?_
        rintro e w3 ⟨v3, rfl, hb3, ho3⟩
        have b3 := hbr.trans (hb3.mono hbr.size)
        obtain ⟨p8, c8, rfl, _, _, _, _⟩ := ho3.bytes
        have OW : Hid (Calls Tryd.prog 5 #[.slice p8 (valB x).length c8] w3 _) := own_own ho3 (by omega)
        clear d1 d2 d3 VA
        go_wp2_with fail
        refine OW.out.mono ?_
        rintro e w4 ⟨v4, rfl, ho4, hb4, hv4⟩
        have b4 := b3.trans (hb4.mono b3.size)
        have s4 := hb4.size
        go_wp2_with (at_builtin; refine app_any rfl (.tmp 76) (.tmp 77) rfl w3.heap.size v4 (valB x) l1 rfl ho4 hv4 P1 C1 (H1.out.1.below b4) H1.out.2 rfl (by omega) s4 ?_; intro v5 w5 ho5 hb5 hs5)
        have b5 := b4.trans (hb5.mono b3.size)
        refine (Read_own ho5 (by rw [List.length_append]; omega) (hT.below b5)).mono ?_
        rintro e w6 ⟨rfl, hb6⟩
        have b6 := b5.trans (hb6.mono b5.size)
        rw [hq]
        have k3 : vrd (.ok (pl x, (valB x).length)) = .tuple #[.agg #[.int .i64 (pl x).ty, .int .i64 (pl x).n, .string (pl x).s], .int .i64 ((valB x).length : Int), .int .i64 0] := rfl
        rw [k3]
        clear k3 hq ho3 ho4 ho5 hv4 OW hb3 hb4 hb5 hb6 b3 b4 b5 s4 hs5
        have B7 : Hid (∀ o, Below w.heap.size w (w6.alloc o)) := fun o => b6.alloc b6.size o
        have R7 : Hid (Res (w6.alloc (.cells #[.int .i64 (pl x).ty, .int .i64 (pl x).n, .string (pl x).s] 23)) w6.heap.size (pl x).ty (pl x).n (pl x).s) := Res.new w6 _ _ _
        have PA : Hid (∀ w, Calls Tryd.prog 19 #[.agg #[.int .i64 x.ty, .int .i64 x.n, .string x.s]] w fun e w' => e = .returned (.agg #[.int .i64 (pl x).ty, .int .i64 (pl x).n, .string (pl x).s]) ∧ Below w.heap.size w w') := fun w => Plain_any x w
        have SA : Hid (∀ w, Calls Tryd.prog 11 #[.agg #[.int .i64 (pl x).ty, .int .i64 (pl x).n, .string (pl x).s], .agg #[.int .i64 (pl x).ty, .int .i64 (pl x).n, .string (pl x).s]] w fun e w' => e = .returned (.bool true) ∧ Below w.heap.size w w') := fun w => Same2_eq (pl x) w
        generalize pl x = y at *
        go_wp2_with fail
        have b7 := B7.out (.cells #[.int .i64 y.ty, .int .i64 y.n, .string y.s] 23)
        clear B7
        generalize w6.alloc (.cells #[.int .i64 y.ty, .int .i64 y.n, .string y.s] 23) = w7 at *
        obtain ⟨lt7, y0, y1, y2, _, _, _⟩ := R7.out
        have gw7 : g < w7.heap.size := Nat.lt_of_lt_of_le hgw b7.size
        have T0 : twoR w7 w6.heap.size g (off + k * 3) y x w7 := ⟨Below.refl _ _, y0, y1, y2, (b7.cell (p := ⟨g, off + k * 3, none⟩) hgw).trans HC.out.1, (b7.cell (p := ⟨g, off + k * 3 + 1, none⟩) hgw).trans HC.out.2.1, (b7.cell (p := ⟨g, off + k * 3 + 2, none⟩) hgw).trans HC.out.2.2⟩
        clear y0 y1 y2 R7
        go_region_held3 (fun w' => Below w7.heap.size w7 w' ∧ w'.cell? ⟨w6.heap.size, 0, none⟩ = some (.int .i64 y.ty) ∧ w'.cell? ⟨w6.heap.size, 1, none⟩ = some (.int .i64 y.n) ∧ w'.cell? ⟨w6.heap.size, 2, none⟩ = some (.string y.s) ∧ w'.cell? ⟨g, off + k * 3, none⟩ = some (.int .i64 x.ty) ∧ w'.cell? ⟨g, off + k * 3 + 1, none⟩ = some (.int .i64 x.n) ∧ w'.cell? ⟨g, off + k * 3 + 2, none⟩ = some (.string x.s)) (first | exact twoR.drew T0 lt7 gw7 | exact twoR.next (by assumption) lt7 gw7 hb8) ((first | (go_at_call 19; refine (PA.out _).mono ?_; rintro e w8 ⟨rfl, hb8⟩) | (go_at_call 11; refine (SA.out _).mono ?_; rintro e w8 ⟨rfl, hb8⟩)))
        have T1 : twoR w7 w6.heap.size g (off + k * 3) y x w8 := by assumption
        have b8 := b7.trans (T1.1.mono b7.size)
        clear T0 T1
        go_wp2_with fail
        go_roundw
        case rel => exact ⟨k + 1, by go_num, hlt, b8⟩
        case measure => simp [intOf]; omega
      · have hk2 : ¬ (k : Int) < (r.la.length : Int) := by omega
        have OB : Hid (Calls Tryd.prog 5 #[.slice P2 l2.length C2] wr fun e w' => ∃ v', e = .returned v' ∧ ownsB w' wr.heap.size v' l2 ∧ Below wr.heap.size wr w' ∧ ∃ g cap, v' = .slice (some ⟨g, 0, none⟩) l2.length cap) := own_any P2 C2 l2 wr (H2.out.1.below hbr) H2.out.2 (by omega)
        go_wp2_with fail
        all_goals
          refine OB.out.mono ?_
          rintro e w7 ⟨v7, rfl, ho7, hb7, _⟩
          have b7 := hbr.trans (hb7.mono hbr.size)
          go_wp2_with fail
          refine (ReadRow_own ho7 (by omega) (hT.below b7)).mono ?_
          rintro e w8 ⟨v8, rfl, hb8, ho8, hx8⟩
          have b8 := b7.trans (hb8.mono b7.size)
          rcases hq : rdRow l2 with x | ⟨s, m⟩
          · obtain rfl := hx8 x hq
            have hne : (x != 0) = true := by rw [bne_iff_ne]; exact rErr_err hq
            have k1 : rErr (Except.error (ε := Int) (α := List Va × Nat) x) = x := rfl
            have k2 : rCnt (Except.error (ε := Int) (α := List Va × Nat) x) = 0 := rfl
            rw [k1, k2]
            clear ho8 hx8 hq
            go_wp2_with fail
            go_ret
            exact ⟨rfl, b8⟩
          · obtain ⟨q1, q2, q3, q4, q5⟩ := rdRow_back hq
            have O8 := ho8 s m hq
            obtain ⟨⟨P5, C5, la5⟩, h5, hla5, hin5, _, _⟩ := O8.row
            simp only at h5 hla5 hin5
            subst hla5
            subst h5
            have k1 : rErr (Except.ok (ε := Int) (la5, m)) = 0 := rfl
            have k2 : rCnt (Except.ok (ε := Int) (la5, m)) = m := rfl
            rw [k1, k2]
            have RS : Hid (Calls Tryd.prog 15 #[.slice P5 la5.length C5] w8 fun e w'' => ∃ v', e = .returned (.tuple #[v', .int .i64 0]) ∧ Below w8.heap.size w8 w'' ∧ ownsB w'' w8.heap.size v' (l2.take m)) := by
              have := Row_any P5 C5 la5 w8 hin5 (fun v hv => (q1 v hv).2) (rdRow_small hq) (hT.below b8)
              rw [rowE_zero q1 q2] at this
              refine this.mono ?_
              rintro e w' ⟨v', rfl, h1, h2, _⟩
              exact ⟨v', rfl, h1, by rw [← q5]; exact h2 rfl⟩
            rcases H2.out.1 with rfl | ⟨g2, off2, rfl, hg2, hcs2⟩
            · simp at q4; omega
            clear ho8 hx8 hq q1 q2 q5 O8 hin5
            go_wp2_with fail
            refine RS.out.mono ?_
            rintro e w9 ⟨v9, rfl, hb9, ho9⟩
            have b9 := b8.trans (hb9.mono b8.size)
            have hml : (l2.take m).length = m := by rw [List.length_take]; omega
            have cv1 : ∀ n, (convert 24 9 v9).run Tryd.prog (w9.drewN n) = .ok (.string ⟨(l2.take m).toArray⟩) (w9.drewN n) := fun n => conv_own (ho9.below (below_drewN (Below.refl _ _) n))
            have cv2 : ∀ n, (convert 24 9 (.slice (some ⟨g2, off2, none⟩) m C2)).run Tryd.prog (w9.drewN n) = .ok (.string ⟨(l2.take m).toArray⟩) (w9.drewN n) := fun n => by
              have := conv_in (w := w9.drewN n) (g := g2) (off := off2) (l := l2.take m) C2 (fun i x hx => by
                have hi := (List.getElem?_eq_some_iff.1 hx).1
                rw [List.getElem?_take_of_lt (by omega)] at hx
                have h1 := (b9.cell (p := ⟨g2, off2 + i, none⟩) hg2).trans (hcs2 i x hx)
                simpa using h1)
              rw [hml] at this; exact this
            have m1 : (1 : Int) ≤ (m : Int) := by omega
            have m2 : (m : Int) ≤ (l2.length : Int) := by omega
            have m3 : (m : Int) ≤ (C2 : Int) := by omega
            have m4 : (l2.take m == l2.take m) = true := by simp
            clear hcs2 ho9 H2 OB RS
            generalize l2.take m = L at *
            go_wp2_with fail
            go_quiet (fail)
            go_wp2_with fail
            go_ret
            exact ⟨rfl, below_drewN b9 _⟩
  · have hne : (rowE r.la == 0) = false := by rw [beq_eq_false_iff_ne]; exact hE
    obtain rfl := hx1 hE
    clear ho1 hx1 hE
    go_wp2_with fail
    go_loopw [12] (fun si wr => si = .int .i64 0 ∧ Below w.heap.size w wr) (fun _ _ => 0)
    case atStart => exact ⟨rfl, b2⟩
    case round =>
      obtain ⟨rfl, hbr⟩ := hrel
      have OB : Hid (Calls Tryd.prog 5 #[.slice P2 l2.length C2] wr fun e w' => ∃ v', e = .returned v' ∧ ownsB w' wr.heap.size v' l2 ∧ Below wr.heap.size wr w' ∧ ∃ g cap, v' = .slice (some ⟨g, 0, none⟩) l2.length cap) := own_any P2 C2 l2 wr (H2.out.1.below hbr) H2.out.2 (by omega)
      go_wp2_with fail
      all_goals
        refine OB.out.mono ?_
        rintro e w7 ⟨v7, rfl, ho7, hb7, _⟩
        have b7 := hbr.trans (hb7.mono hbr.size)
        go_wp2_with fail
        refine (ReadRow_own ho7 (by omega) (hT.below b7)).mono ?_
        rintro e w8 ⟨v8, rfl, hb8, ho8, hx8⟩
        have b8 := b7.trans (hb8.mono b7.size)
        rcases hq : rdRow l2 with x | ⟨s, m⟩
        · obtain rfl := hx8 x hq
          have hne : (x != 0) = true := by rw [bne_iff_ne]; exact rErr_err hq
          have k1 : rErr (Except.error (ε := Int) (α := List Va × Nat) x) = x := rfl
          have k2 : rCnt (Except.error (ε := Int) (α := List Va × Nat) x) = 0 := rfl
          rw [k1, k2]
          clear ho8 hx8 hq
          go_wp2_with fail
          go_ret
          exact ⟨rfl, b8⟩
        · obtain ⟨q1, q2, q3, q4, q5⟩ := rdRow_back hq
          have O8 := ho8 s m hq
          obtain ⟨⟨P5, C5, la5⟩, h5, hla5, hin5, _, _⟩ := O8.row
          simp only at h5 hla5 hin5
          subst hla5
          subst h5
          have k1 : rErr (Except.ok (ε := Int) (la5, m)) = 0 := rfl
          have k2 : rCnt (Except.ok (ε := Int) (la5, m)) = m := rfl
          rw [k1, k2]
          have RS : Hid (Calls Tryd.prog 15 #[.slice P5 la5.length C5] w8 fun e w'' => ∃ v', e = .returned (.tuple #[v', .int .i64 0]) ∧ Below w8.heap.size w8 w'' ∧ ownsB w'' w8.heap.size v' (l2.take m)) := by
            have := Row_any P5 C5 la5 w8 hin5 (fun v hv => (q1 v hv).2) (rdRow_small hq) (hT.below b8)
            rw [rowE_zero q1 q2] at this
            refine this.mono ?_
            rintro e w' ⟨v', rfl, h1, h2, _⟩
            exact ⟨v', rfl, h1, by rw [← q5]; exact h2 rfl⟩
          rcases H2.out.1 with rfl | ⟨g2, off2, rfl, hg2, hcs2⟩
          · simp at q4; omega
          clear ho8 hx8 hq q1 q2 q5 O8 hin5
          go_wp2_with fail
          refine RS.out.mono ?_
          rintro e w9 ⟨v9, rfl, hb9, ho9⟩
          have b9 := b8.trans (hb9.mono b8.size)
          have hml : (l2.take m).length = m := by rw [List.length_take]; omega
          have cv1 : ∀ n, (convert 24 9 v9).run Tryd.prog (w9.drewN n) = .ok (.string ⟨(l2.take m).toArray⟩) (w9.drewN n) := fun n => conv_own (ho9.below (below_drewN (Below.refl _ _) n))
          have cv2 : ∀ n, (convert 24 9 (.slice (some ⟨g2, off2, none⟩) m C2)).run Tryd.prog (w9.drewN n) = .ok (.string ⟨(l2.take m).toArray⟩) (w9.drewN n) := fun n => by
            have := conv_in (w := w9.drewN n) (g := g2) (off := off2) (l := l2.take m) C2 (fun i x hx => by
              have hi := (List.getElem?_eq_some_iff.1 hx).1
              rw [List.getElem?_take_of_lt (by omega)] at hx
              have h1 := (b9.cell (p := ⟨g2, off2 + i, none⟩) hg2).trans (hcs2 i x hx)
              simpa using h1)
            rw [hml] at this; exact this
          have m1 : (1 : Int) ≤ (m : Int) := by omega
          have m2 : (m : Int) ≤ (l2.length : Int) := by omega
          have m3 : (m : Int) ≤ (C2 : Int) := by omega
          have m4 : (l2.take m == l2.take m) = true := by simp
          clear hcs2 ho9 H2 OB RS
          generalize l2.take m = L at *
          go_wp2_with fail
          go_quiet (fail)
          go_wp2_with fail
          go_ret
          exact ⟨rfl, below_drewN b9 _⟩
end Go.Proofs.YtlikpomkcfiafaaDoor
