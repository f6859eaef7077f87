/-
  The walks of simfs.Append, slices.Clone, simfs.Read.
-/
import Derived.Test.YtlfcmhofpieacaaDkE
import Derived.Laws.OwnMore
namespace Go.Proofs.Ytlfcmhofpieacaa
open Go.RowKit Go.Maps Go.Joins

/-- a slice of bytes that was handed in -/
def byIn (w : World) (P : Option Addr) (l : List UInt8) : Prop := (P = none ∧ l = []) ∨ ∃ a : Addr, P = some a ∧ ∀ i x, l[i]? = some x → w.cell? (a.add i) = some (.int .u8 (x.toNat : Int))
theorem byIn.kept {w w' : World} {P : Option Addr} {l : List UInt8} (h : byIn w P l) (hg : w.grownBy w' none) : byIn w' P l := by
  rcases h with h | ⟨a, e, hc⟩
  · exact Or.inl h
  · exact Or.inr ⟨a, e, fun i x hx => hg.cell (hc i x hx) (by simp)⟩
theorem add_plain (g off j : Nat) : (⟨g, off, none⟩ : Addr).add j = ⟨g, off + j, none⟩ := by simp only [Addr.add]; split <;> simp_all
theorem app_in {ops : Array Oper} {rest : List Oper} {o : Oper} {a : Act} {w : World} {Q : Exit → Act → World → Prop} (hgd : o.guard = none) (s x : Operand)
    (ho : o.op = .call { callee := .builtin .append, args := #[s, x], argTypes := #[22, 22] })
    (base : Nat) (v : Value) (l bs : List UInt8) (P : Option Addr) (C : Nat) (hs : a.eval s = v) (hown : ownsB w base v l) (hin : byIn w P bs) (hC : P = none → C = 0)
    (hx : a.eval x = .slice P bs.length C) (hl : l.length + bs.length ≤ 200000000) (hb : base ≤ w.heap.size)
    (h : ∀ v' w', ownsB w' base v' (l ++ bs) → w.grownBy w' v.ownBlock → (∀ g, v'.ownBlock = some g → v.ownBlock = some g ∨ w.heap.size ≤ g) → wpList Try.prog ops Q rest (a.put o.dst v') w') :
    wpList Try.prog ops Q (o :: rest) a w := by
  obtain ⟨i0, hi, hz0, hz1, hz2⟩ := info_parts u8Info
  rcases hin with ⟨rfl, rfl⟩ | ⟨ad, rfl, hc⟩
  · obtain rfl := hC rfl
    refine wpList_plain hgd fun K hK => ?_
    have hr := run_append_owned_none (P := Try.prog) (w := w) base 22 o.type 5 i0 1 u8Slice hi v l.length (by8 l) hown
    unfold Oper.wp execOp
    simp only [List.length_nil] at hx
    simp only [ho, resolve, invoke, builtin, Sem.run_bind, Sem.run_pure, Result.andThen_ok, List.map_toArray, List.map_cons, List.map_nil, hs, hx, hr]
    exact hK _ _ (h v w (by rw [List.append_nil]; exact hown) ⟨rfl, rfl, rfl, Nat.le_refl _, fun _ _ _ => rfl⟩ (fun g hg => Or.inl hg))
  · refine wpList_append_own_at _ hgd s x 22 ho base 5 i0 (.int .u8 0) 1 1 u8Slice hi hz0 hz1 hz2 rfl (by decide) v l.length (by8 l) hs hown ad bs.length C (by8 bs) hx (by rw [by8_len]; omega) ?_ (by8_one _) (by unfold maxLen; omega) (by omega) hb ?_
    · intro j u hj
      simp only [by8, List.getElem?_map, Option.map_eq_some_iff] at hj
      obtain ⟨x, hx, rfl⟩ := hj
      exact hc j x hx
    · intro v' w' h1 h2 _ h4
      refine h v' w' ?_ h2 (fun g' hg => ?_)
      · show w'.ownsRow _ _ _ _ _ _
        rw [by8_app, List.length_append]; exact h1
      · rcases h4 with h4 | h4
        · exact Or.inl (h4.symm.trans hg)
        · rw [h4] at hg; cases hg; exact Or.inr (Nat.le_refl _)
theorem own_form {w : World} {base : Nat} {v : Value} {l : List UInt8} (h : ownsB w base v l) : ∃ P C, v = .slice P l.length C := by
  rcases h.2 with ⟨e, h0⟩ | ⟨g, cap, cur, e, _⟩
  · exact ⟨none, 0, by rw [e, h0]⟩
  · exact ⟨_, _, e⟩
theorem grown_drewN {w w' : World} {n : Nat} {row : Option Nat} (h : (w.drewN n).grownBy w' row) : w.grownBy w' row := ⟨h.os, h.tape, h.output, h.size, h.block⟩

set_option maxHeartbeats 4000000 in
set_option maxRecDepth 100000 in
theorem Append_ok (base f m : Nat) (q : Int) (s : ByteArray) (X : Fl) (A B : List (List UInt8 × Fl)) (us : List Un) (bs : List UInt8) (P : Option Addr) (C : Nat) (w : World) (d : Disk w base f q m (A ++ (s.data.toList, X) :: B) us) (hs : okN s)
    (hin : byIn w P bs) (hC : P = none → C = 0) (hu : (usedL (A ++ (s.data.toList, X) :: B) : Int) + (bs.length : Int) ≤ q) (hq : q ≤ 16777216) :
    Calls Try.prog 7 #[.pointer (some ⟨f, 0, none⟩), .string s, .slice P bs.length C] w fun e w' => e = .returned (.int .i64 0) ∧ ∃ v', Disk w' base f q m (A ++ (s.data.toList, { X with v := v', l := X.l ++ bs }) :: B) us ∧ Below base w w' := by
  obtain ⟨ov, h1, h2⟩ := d.fs
  have okX : FlOk w base X := d.fl.ok X (by simp)
  have hX : (s.data.toList, X) ∈ A ++ (s.data.toList, X) :: B := by simp
  have hXl : X.l.length ≤ usedL (A ++ (s.data.toList, X) :: B) := by
    clear d okX hu
    induction A with
    | nil => show X.l.length ≤ X.l.length + usedL B; omega
    | cons p t ih => have := ih (by simp); show X.l.length ≤ p.2.l.length + usedL (t ++ (s.data.toList, X) :: B); omega
  obtain ⟨U, hU⟩ : ∃ U, U = usedL (A ++ (s.data.toList, X) :: B) := ⟨_, rfl⟩
  rw [← hU] at hu hXl
  have NM : Hid (Calls Try.prog 16 #[.pointer (some ⟨f, 0, none⟩), .string s] w fun e w' => e = .returned (.tuple #[.pointer (some ⟨X.b, 0, none⟩), .int .i64 0]) ∧ w' = w) := named_ok f m q 0 ov s X.b _ w h1 d.mp hs (at_of d.mp.names hX)
  have US : Hid (∀ n, Calls Try.prog 17 #[.pointer (some ⟨f, 0, none⟩)] (w.drewN n) fun e w' => e = .returned (.int .i64 (U : Int)) ∧ w.grownBy w' none) := fun n => by
    refine (Used_any f m base q 0 ov (A ++ (s.data.toList, X) :: B) (w.drewN n) h1 d.mp (fun p hp => by have h := d.fl.ok p.2 (by rw [List.mem_append]; exact Or.inl (List.mem_map_of_mem hp)); exact ⟨h.ge, h.at_, h.row, h.kl, h.ll⟩) (by rw [← hU]; omega)).mono ?_
    rintro e w' ⟨rfl, hg⟩
    exact ⟨by rw [hU], grown_drewN hg⟩
  obtain ⟨c0, c1, c2, c3, cf⟩ := h1.c
  have t1 : IntKind.i64.wrap (q - (U : Int)) = q - (U : Int) := by rw [IntKind.wrap_i64]; omega
  have t2 : wrap64 (q - (U : Int)) = q - (U : Int) := by unfold wrap64; omega
  have t3 : ¬ q - (U : Int) < (bs.length : Int) := by omega
  have D : Hid (Disk w base f q m (A ++ (s.data.toList, X) :: B) us) := d
  have HI : Hid (byIn w P bs) := hin
  have F1 : Hid (FsAt w f q (some m) ov 0) := h1
  clear d h1 h2 okX hin c1 c2 c3 hU
  go_enter Try.func7, Try.ntmps7
  go_wp2_with fail
  refine NM.out.mono ?_
  rintro e wx ⟨rfl, hwx⟩; have hwx2 := hwx.symm; subst hwx2; clear hwx
  go_wp2_with fail
  go_region_with ((go_at_call 17; refine (US.out _).mono ?_; rintro e w2 ⟨rfl, hg2⟩; have d0 := hg2.cell c0 (by simp)))
  all_goals
    have D2 := D.out.kept hg2
    obtain ⟨ov2, h12, h22⟩ := D2.fs
    have okX := D2.fl.ok X (by simp)
    have HI2 := HI.out.kept hg2
    have B2 : Below base w w2 := below_own hg2 D.out.bs (fun g e => by cases e)
    have RF : Hid (Calls Try.prog 14 #[.pointer (some ⟨f, 0, none⟩)] w2 fun e w' => e = .returned (.bool false) ∧ w' = w2) := refuses_no f q (some m) ov2 w2 h12
    obtain ⟨_, _, _, e3, ef⟩ := h12.c
    obtain ⟨k0, k1, kf⟩ := okX.c
    go_wp2_with fail
    refine RF.out.mono ?_
    rintro e wx ⟨rfl, hwx⟩; have hwx2 := hwx.symm; subst hwx2; clear hwx
    go_wp2_with (at_builtin; refine app_in rfl (.tmp 54) (.tmp 55) rfl base X.v X.l bs P C rfl okX.row HI2 hC rfl (by omega) D2.bs ?_; intro v3 w3 ho3 hg3 hl3; obtain ⟨P3, C3, rfl⟩ := own_form ho3; have nb : some X.b ≠ X.v.ownBlock := (fun e => by obtain ⟨cs, hk⟩ := own_kind okX.row _ e.symm; rw [okX.at_] at hk; simp at hk); have m0 := hg3.cell k0 nb; have mf : ∀ i, w3.frozen? ⟨X.b, i, none⟩ = false := fun i => (World.frozen?_of_block (hg3.block X.b (lt_of_heap okX.at_) nb)).trans (kf i))
    go_ret
    rw [List.length_append] at ho3 hl3
    refine ⟨rfl, .slice P3 (X.l.length + bs.length) C3, ?_⟩
    obtain ⟨v3, hv3⟩ : ∃ v3, v3 = Value.slice P3 (X.l.length + bs.length) C3 := ⟨_, rfl⟩
    rw [← hv3] at ho3 hl3 ⊢
    clear hv3
    have hc3 : Chg (fun i => i = X.b ∨ X.v.ownBlock = some i) w2 (w3.setCell ⟨X.b, 0, none⟩ v3) := ((Chg.of_grown hg3).mono (fun i _ e => Or.inr e)).trans ((Chg.of_cell w3 ⟨X.b, 0, none⟩ v3).mono (fun i _ e => Or.inl e))
    have at3 : w3.heap[X.b]? = some (.cells #[X.v, .int .i64 (X.k : Int)] 44 (0, 0)) := (hg3.block X.b (lt_of_heap okX.at_) nb).trans okX.at_
    have ok3 : FlOk (w3.setCell ⟨X.b, 0, none⟩ v3) base { X with v := v3, l := X.l ++ bs } := ⟨okX.ge, (block_setCell at3 _).trans rfl, (Chg.of_cell w3 ⟨X.b, 0, none⟩ v3).row ho3 (fun g hg e => by
      have e : g = X.b := e
      obtain ⟨cs, hk⟩ := own_kind ho3 _ hg
      rw [e, at3] at hk; simp at hk), Nat.le_trans okX.kl (by simp), by simp; omega⟩
    have := D2.file hc3 ok3 rfl hl3
    exact ⟨this.1, B2.trans this.2⟩
end Go.Proofs.Ytlfcmhofpieacaa
