/-
  The walks of simfs's Append and Cut on any disk.
-/
import Derived.Test.YtdiehlioemmakaaUH
import Derived.Test.YtdiehlioemmakaaUE
namespace Go.Proofs.Ytdiehlioemmakaa
open Go.RowKit Go.Maps Go.Joins

theorem byIn.chg0 {S : Nat → Prop} {w w' : World} {P : Option Addr} {l : List UInt8} (h : byIn w P l) (hc : Chg S w w') (hn : l ≠ [] → ∀ a, P = some a → ¬ S a.block) : byIn w' P l := by
  rcases h with h | ⟨a, e, hk⟩
  · exact Or.inl h
  · refine Or.inr ⟨a, e, fun i x hx => ?_⟩
    have hne : l ≠ [] := by intro e0; rw [e0] at hx; simp at hx
    have h1 := hk i x hx
    have hb : (a.add i).block = a.block := by unfold Addr.add; split <;> rfl
    have hlt := World.block_lt_of_cell? w _ h1
    exact (World.cell?_of_block (w := w) (hc.block _ hlt (by rw [hb]; exact hn hne a e))).trans h1
theorem byIn.chg {S : Nat → Prop} {w w' : World} {P : Option Addr} {l : List UInt8} (h : byIn w P l) (hc : Chg S w w') (hn : ∀ a, P = some a → ¬ S a.block) : byIn w' P l := by
  rcases h with h | ⟨a, e, hk⟩
  · exact Or.inl h
  · refine Or.inr ⟨a, e, fun i x hx => ?_⟩
    have h1 := hk i x hx
    have hb : (a.add i).block = a.block := by unfold Addr.add; split <;> rfl
    have hlt := World.block_lt_of_cell? w _ h1
    exact (World.cell?_of_block (w := w) (hc.block _ hlt (by rw [hb]; exact hn a e))).trans h1
theorem byIn.take {w : World} {P : Option Addr} {l : List UInt8} (h : byIn w P l) (k : Nat) : byIn w P (l.take k) := by
  rcases h with ⟨h1, h2⟩ | ⟨a, e, hk⟩
  · exact Or.inl ⟨h1, by rw [h2]; simp⟩
  · refine Or.inr ⟨a, e, fun i x hx => hk i x ?_⟩
    rw [List.getElem?_take] at hx
    split at hx
    · exact hx
    · simp at hx
/-- bytes behind bytes of one's own: what the append does -/
theorem app_run (base : Nat) (v : Value) (l bs : List UInt8) (P : Option Addr) (n C : Nat) (w : World) (hown : ownsB w base v l) (hin : byIn w P bs) (hn : n = bs.length) (hC : P = none → C = 0) (hl : l.length + bs.length ≤ 200000000) (hb : base ≤ w.heap.size) :
    ∃ v' w', (∀ ty, (Builtin.append_ #[27, 27] ty #[v, .slice P n C]).run Try.prog w = .ok v' w') ∧ ownsB w' base v' (l ++ bs) ∧ w.grownBy w' v.ownBlock ∧ ∀ g, v'.ownBlock = some g → v.ownBlock = some g ∨ w.heap.size ≤ g := by
  subst hn
  obtain ⟨i0, hi, hz0, hz1, hz2⟩ := info_parts u8Info
  rcases hin with ⟨rfl, rfl⟩ | ⟨ad, rfl, hc⟩
  · obtain rfl := hC rfl
    refine ⟨v, w, fun ty => run_append_owned_none (P := Try.prog) (w := w) base 27 ty 5 i0 1 u8Slice hi v l.length (by8 l) hown, by rw [List.append_nil]; exact hown, ⟨rfl, rfl, rfl, Nat.le_refl _, fun _ _ _ => rfl⟩, fun g hg => Or.inl hg⟩
  · have key : ∀ ty, ∃ v' w', (Builtin.append_ #[27, 27] ty #[v, .slice (some ad) bs.length C]).run Try.prog w = .ok v' w' ∧ w'.ownsRow base 5 1 v' (l.length + bs.length) (by8 l ++ by8 bs) ∧ w.grownBy w' v.ownBlock ∧ (v' = .slice none 0 0 ↔ v = .slice none 0 0 ∧ bs.length = 0) ∧ (v'.ownBlock = v.ownBlock ∨ v'.ownBlock = some w.heap.size) := fun ty =>
      run_append_own_at (P := Try.prog) w base 27 ty 5 i0 (.int .u8 0) 1 1 u8Slice hi hz0 hz1 hz2 rfl (by decide) v l.length (by8 l) hown ad bs.length C (by8 bs) (by rw [by8_len]; omega) (fun j u hj => by
        simp only [by8, List.getElem?_map, Option.map_eq_some_iff] at hj
        obtain ⟨x, hx, rfl⟩ := hj
        exact hc j x hx) (by8_one _) (by unfold maxLen; omega) (by omega) hb
    obtain ⟨v', w', h1, h2, h3, _, h5⟩ := key 0
    refine ⟨v', w', fun ty => h1, ?_, h3, fun g hg => ?_⟩
    · show w'.ownsRow _ _ _ _ _ _
      rw [by8_app, List.length_append]; exact h2
    · rcases h5 with h5 | h5
      · exact Or.inl (h5.symm.trans hg)
      · rw [h5] at hg; cases hg; exact Or.inr (Nat.le_refl _)
/-- an append by its run -/
theorem step_app (t : TypeId) {ops : Array Oper} {o : Oper} {a : Act} {w : World} {K : Act → World → Prop} {Q : Exit → Act → World → Prop} {E : Prop} (hgd : o.guard = none) (s x : Operand) (ho : o.op = .call { callee := .builtin .append, args := #[s, x], argTypes := #[t, t] })
    {v y v' : Value} {w' : World} (hs : a.eval s = v) (hx : a.eval x = y) (hr : ∀ ty, (Builtin.append_ #[t, t] ty #[v, y]).run Try.prog w = .ok v' w') (h : K (a.put o.dst v') w') :
    if Region.wanted o (yielded ops a.tmps) = true then Oper.wp Try.prog o a w K Q else E := by
  have hwd : Region.wanted o (yielded ops a.tmps) = true := by simp [Region.wanted, hgd]
  rw [if_pos hwd]
  unfold Oper.wp execOp
  simp only [ho, resolve, invoke, builtin, Sem.run_bind, Sem.run_pure, Result.andThen_ok, List.map_toArray, List.map_cons, List.map_nil, hs, hx, hr]
  exact h
theorem list_app (t : TypeId) {ops : Array Oper} {rest : List Oper} {o : Oper} {a : Act} {w : World} {Q : Exit → Act → World → Prop} (hgd : o.guard = none) (s x : Operand) (ho : o.op = .call { callee := .builtin .append, args := #[s, x], argTypes := #[t, t] })
    {v y v' : Value} {w' : World} (hs : a.eval s = v) (hx : a.eval x = y) (hr : ∀ ty, (Builtin.append_ #[t, t] ty #[v, y]).run Try.prog w = .ok v' w') (h : wpList Try.prog ops Q rest (a.put o.dst v') w') :
    wpList Try.prog ops Q (o :: rest) a w := by
  refine wpList_plain hgd fun K hK => ?_
  unfold Oper.wp execOp
  simp only [ho, resolve, invoke, builtin, Sem.run_bind, Sem.run_pure, Result.andThen_ok, List.map_toArray, List.map_cons, List.map_nil, hs, hx, hr]
  exact hK _ _ h
theorem own_form3 {w : World} {base : Nat} {v : Value} {l : List UInt8} (h : ownsB w base v l) : ∃ P C N, v = .slice P N C := by
  obtain ⟨P, C, e⟩ := own_form h
  exact ⟨P, C, _, e⟩
/-- how many bytes -/
def usedA : List (List UInt8 × (List UInt8 × Nat)) → Nat
  | [] => 0
  | p :: t => p.2.1.length + usedA t
theorem used_abs : ∀ xs : List (List UInt8 × Fl), usedA (absX xs) = usedL xs
  | [] => rfl
  | p :: t => by show p.2.l.length + usedA (absX t) = p.2.l.length + usedL t; rw [used_abs t]
theorem used_look {n : List UInt8} {X : Fl} : ∀ {xs : List (List UInt8 × Fl)}, lookN n xs = some X → X.l.length ≤ usedL xs
  | [], h => by cases h
  | p :: t, h => by
    unfold lookN at h
    show _ ≤ p.2.l.length + usedL t
    by_cases e : p.1 = n
    · rw [if_pos e] at h; cases h; omega
    · rw [if_neg e] at h; have := used_look h; omega
def apPE (n : List UInt8) (b : List UInt8) (q : Int) (xs : List (List UInt8 × (List UInt8 × Nat))) (st : Int) : Int := if nmE n xs ≠ 0 then nmE n xs else if q - (usedA xs : Int) < (b.length : Int) then 42 else if rfB st = true then 44 else 0
def apPX (n : List UInt8) (b : List UInt8) (q : Int) (xs : List (List UInt8 × (List UInt8 × Nat))) (st : Int) : List (List UInt8 × (List UInt8 × Nat)) :=
  match lookN n xs with
  | none => xs
  | some x => if apPE n b q xs st = 0 then putN n (x.1 ++ b, x.2) xs else if apPE n b q xs st = 44 ∧ st ≠ -1 then putN n (x.1 ++ b.take (b.length / 2), x.2) xs else xs
def stA (n : List UInt8) (b : List UInt8) (q : Int) (xs : List (List UInt8 × (List UInt8 × Nat))) (st : Int) : Int := if nmE n xs ≠ 0 then st else if q - (usedA xs : Int) < (b.length : Int) then st else rfS st
/-- the file with bytes more -/
theorem Dsk.appended {P : Nat → Prop} {w w3 : World} {base f : Nat} {q st : Int} {mo : Option Nat} {n : List UInt8} {X : Fl} {xs : List (List UInt8 × Fl)} {us : List Ux} {v3 : Value} {l3 : List UInt8} (d : Dsk P w base f q st mo xs us) (so : SrtN xs) (hl : lookN n xs = some X) (ho3 : ownsB w3 base v3 l3) (hg3 : w.grownBy w3 X.v.ownBlock) (hl3 : ∀ g, v3.ownBlock = some g → X.v.ownBlock = some g ∨ w.heap.size ≤ g) (hk : X.l.length ≤ l3.length) (hll : l3.length ≤ 100000000) :
    (w3.cell? ⟨X.b, 0, none⟩ = some X.v ∧ w3.cell? ⟨X.b, 1, none⟩ = some (.int .i64 (X.k : Int)) ∧ ∀ i, w3.frozen? ⟨X.b, i, none⟩ = false) ∧ Dsk (ext P w (w3.setCell ⟨X.b, 0, none⟩ v3)) (w3.setCell ⟨X.b, 0, none⟩ v3) base f q st mo (putN n { X with v := v3, l := l3 } xs) us ∧ Chg P w (w3.setCell ⟨X.b, 0, none⟩ v3) := by
  obtain ⟨okX, pX, pv⟩ := d.okX hl
  have nb : some X.b ≠ X.v.ownBlock := (fun e => by obtain ⟨cs, hk⟩ := own_kind okX.row _ e.symm; rw [okX.at_] at hk; simp at hk)
  have at3 : w3.heap[X.b]? = some (.cells #[X.v, .int .i64 (X.k : Int)] 86 (0, 0)) := (hg3.block X.b (lt_of_heap okX.at_) nb).trans okX.at_
  have hc3 : Chg (fun i => i = X.b ∨ X.v.ownBlock = some i) w (w3.setCell ⟨X.b, 0, none⟩ v3) := ((Chg.of_grown hg3).mono (fun i _ e => Or.inr e)).trans ((Keep.set w3 X.b 0 v3).mono (fun i _ e => Or.inl e))
  refine ⟨⟨(cell_of_block at3 0).trans rfl, (cell_of_block at3 1).trans rfl, fun i => unfrozen_of_block at3 i⟩, d.file2 so hl hc3 ⟨okX.ge, (block_setCell at3 _).trans rfl, (Chg.of_cell w3 ⟨X.b, 0, none⟩ v3).row ho3 (fun g hg e => ?_), Nat.le_trans okX.kl hk, hll⟩ rfl hl3⟩
  have e : g = X.b := e
  obtain ⟨cs, hk⟩ := own_kind ho3 _ hg
  rw [e, at3] at hk; simp at hk
theorem ext_chg {P : Nat → Prop} {w w1 w2 : World} {base f : Nat} {q st : Int} {mo : Option Nat} {xs : List (List UInt8 × Fl)} {us : List Ux} (hp : ∀ i, P i → i < w.heap.size) (h1 : w.heap.size ≤ w1.heap.size) (h2 : Dsk (ext P w1 w2) w2 base f q st mo xs us) (hs : w1.heap.size ≤ w2.heap.size) (hb : base ≤ w.heap.size) (hpb : ∀ i, P i → base ≤ i) : Dsk (ext P w w2) w2 base f q st mo xs us := by
  refine h2.more (fun i hi => ?_) (fun i hi => ?_)
  · rcases hi with hi | hi
    · exact Or.inl hi
    · exact Or.inr ⟨by omega, hi.2⟩
  · rcases hi with hi | hi
    · exact ⟨hpb i hi, by have := hp i hi; omega⟩
    · exact ⟨by omega, hi.2⟩
set_option maxHeartbeats 8000000 in
set_option maxRecDepth 1000000 in
theorem Append_any {P : Nat → Prop} (base f : Nat) (q st : Int) (mo : Option Nat) (xs : List (List UInt8 × Fl)) (us : List Ux) (n : List UInt8) (b : List UInt8) (Pb : Option Addr) (C : Nat) (w : World) (hll : n.length ≤ 1000000000) (hr : -9223372036854775808 ≤ st ∧ st ≤ 9223372036854775807) (so : SrtN xs) (hin : byIn w Pb b) (hout : ∀ a, Pb = some a → ¬ P a.block) (hC : Pb = none → C = 0) (hbC : b.length ≤ C) (hq : 0 ≤ q ∧ q ≤ 16777216) (hu : usedL xs ≤ 1000000000000) (d : Dsk P w base f q st mo xs us) :
    Calls Try.prog 22 #[.pointer (some ⟨f, 0, none⟩), .string ⟨n.toArray⟩, .slice Pb b.length C] w fun e w' => e = .returned (.int .i64 (apPE n b q (absX xs) st)) ∧ ∃ xs', absX xs' = apPX n b q (absX xs) st ∧ Dsk (ext P w w') w' base f q (stA n b q (absX xs) st) mo xs' us ∧ Chg P w w' := by
  have hbl := hbC
  have E0 : apPX n b q (absX xs) st = match lookN n xs with | none => absX xs | some X => if apPE n b q (absX xs) st = 0 then putN n (X.l ++ b, X.k) (absX xs) else if apPE n b q (absX xs) st = 44 ∧ st ≠ -1 then putN n (X.l ++ b.take (b.length / 2), X.k) (absX xs) else absX xs := by
    unfold apPX; rw [abs_look]; cases lookN n xs <;> rfl
  rw [E0]
  clear E0
  have NM := mkHid (named_any base f q st mo xs us n w hll d)
  rcases nm_cases n xs with ⟨e1, e2, e3⟩ | ⟨e1, e2, e3, e4⟩ | ⟨X, e1, e2, e3, e4⟩
  · rw [e1, e2] at NM
    have eE : apPE n b q (absX xs) st = nmE n xs := by unfold apPE; rw [abs_nmE, e1, if_pos (by decide)]
    have eS : stA n b q (absX xs) st = st := by unfold stA; rw [abs_nmE, e1, if_pos (by decide)]
    have eX : (match lookN n xs with | none => absX xs | some X => if apPE n b q (absX xs) st = 0 then putN n (X.l ++ b, X.k) (absX xs) else if apPE n b q (absX xs) st = 44 ∧ st ≠ -1 then putN n (X.l ++ b.take (b.length / 2), X.k) (absX xs) else absX xs) = absX xs := by
      rw [eE, e1]; cases lookN n xs <;> simp
    rw [eX, eE, eS, e1]
    have D := mkHid d
    clear d hll so hin hout hu eX eE eS hq hC hbC hbl
    go_enter Try.func22, Try.ntmps22
    go_wp2_with fail
    refine NM.out.mono ?_
    rintro e wx ⟨rfl, hwx⟩; have hwx2 := hwx.symm; subst hwx2; clear hwx
    go_wp2_with fail
    go_ret
    exact ⟨rfl, xs, rfl, D.out.same⟩
  · rw [e1, e2] at NM
    have eE : apPE n b q (absX xs) st = nmE n xs := by unfold apPE; rw [abs_nmE, e1, if_pos (by decide)]
    have eS : stA n b q (absX xs) st = st := by unfold stA; rw [abs_nmE, e1, if_pos (by decide)]
    have eX : (match lookN n xs with | none => absX xs | some X => if apPE n b q (absX xs) st = 0 then putN n (X.l ++ b, X.k) (absX xs) else if apPE n b q (absX xs) st = 44 ∧ st ≠ -1 then putN n (X.l ++ b.take (b.length / 2), X.k) (absX xs) else absX xs) = absX xs := by
      rw [eE, e1]; cases lookN n xs <;> simp
    rw [eX, eE, eS, e1]
    have D := mkHid d
    clear d hll so hin hout hu eX eE eS hq hC hbC hbl
    go_enter Try.func22, Try.ntmps22
    go_wp2_with fail
    refine NM.out.mono ?_
    rintro e wx ⟨rfl, hwx⟩; have hwx2 := hwx.symm; subst hwx2; clear hwx
    go_wp2_with fail
    go_ret
    exact ⟨rfl, xs, rfl, D.out.same⟩
  · rw [e1, e2] at NM
    rw [e4]
    show Calls _ _ _ _ fun e w' => e = .returned (.int .i64 (apPE n b q (absX xs) st)) ∧ ∃ xs', absX xs' = (if apPE n b q (absX xs) st = 0 then putN n (X.l ++ b, X.k) (absX xs) else if apPE n b q (absX xs) st = 44 ∧ st ≠ -1 then putN n (X.l ++ b.take (b.length / 2), X.k) (absX xs) else absX xs) ∧ Dsk (ext P w w') w' base f q (stA n b q (absX xs) st) mo xs' us ∧ Chg P w w'
    obtain ⟨U, hU⟩ : ∃ U, U = usedL xs := ⟨_, rfl⟩
    have hXl := used_look e4
    have EE : apPE n b q (absX xs) st = if q - (U : Int) < (b.length : Int) then 42 else if rfB st = true then 44 else 0 := by unfold apPE; rw [abs_nmE, e1, if_neg (by decide), used_abs, ← hU]
    have ES : stA n b q (absX xs) st = if q - (U : Int) < (b.length : Int) then st else rfS st := by unfold stA; rw [abs_nmE, e1, if_neg (by decide), used_abs, ← hU]
    rw [EE, ES]
    rw [← hU] at hu hXl
    have hmo : ∃ m, mo = some m := by
      cases mo with
      | none => have := (d.mn rfl).1; rw [this] at e4; cases e4
      | some m => exact ⟨m, rfl⟩
    obtain ⟨m, rfl⟩ := hmo
    obtain ⟨ov, h1, h2, h3⟩ := d.fs
    have USE : Hid (∀ k, Calls Try.prog 48 #[.pointer (some ⟨f, 0, none⟩)] (w.drewN k) fun e w' => e = .returned (.int .i64 (U : Int)) ∧ w.grownBy w' none) := fun k => by
      have hm := (d.drewN k).mp m rfl
      refine (Used_any f m base q st ov xs (w.drewN k) h1 hm.2 (fun p hp => (d.drewN k).fl.ok p.2 (by rw [List.mem_append]; exact Or.inl (List.mem_map_of_mem hp))) (by rw [← hU]; omega)).mono ?_
      rintro e w' ⟨rfl, hg⟩
      exact ⟨by rw [hU], grown_drewN hg⟩
    obtain ⟨c0, c1, c2, c3, cf⟩ := h1.c
    have D := mkHid d
    have pf := d.pf
    have SO := mkHid so
    have HI := mkHid hin
    have HO := mkHid hout
    have hpb := mkHid d.pb
    have hbs := d.bs
    clear d so hin hout h1 h2 h3 c1 c2 hU EE ES
    have t1 : IntKind.i64.wrap (q - (U : Int)) = q - (U : Int) := by rw [IntKind.wrap_i64]; omega
    have t2 : wrap64 (q - (U : Int)) = q - (U : Int) := by unfold wrap64; omega
    by_cases hqq : q - (U : Int) < (b.length : Int)
    · rw [if_pos hqq, if_neg (by decide), if_neg (by simp)]
      rw [if_pos hqq]
      go_enter Try.func22, Try.ntmps22
      go_wp2_with fail
      refine NM.out.mono ?_
      rintro e wx ⟨rfl, hwx⟩; have hwx2 := hwx.symm; subst hwx2; clear hwx
      go_wp2_with fail
      refine wp_region_noPanic ?_
      refine wp_region_held_drew (S := fun w' => w'.cell? ⟨f, 0, none⟩ = some (.int .i64 q)) (by kernel_rfl) (c0) (fun hH => ?_)
      refine tKx (i := 0) (v := .slice Pb b.length C) rfl rfl (by kernel_rfl) (fun _ _ _ h => h) ?_ hH ?_
      · intro w5 hSw; go_simp
      simp only [zA9, zB9, zC9]
      refine tKx (i := 1) (v := .int .i64 (b.length : Int)) rfl rfl (by kernel_rfl) (fun _ _ _ h => h) ?_ hH ?_
      · intro w5 hSw; go_simp
      simp only [zA9, zB9, zC9]
      refine tKx (i := 2) (v := .pointer (some ⟨f, 0, none⟩)) rfl rfl (by kernel_rfl) (fun _ _ _ h => h) ?_ hH ?_
      · intro w5 hSw; go_simp
      simp only [zA9, zB9, zC9]
      refine tKx (i := 3) (v := .pointer (some ⟨f, 0, none⟩)) rfl rfl (by kernel_rfl) (fun _ _ _ h => h) ?_ hH ?_
      · intro w5 hSw; go_simp
      simp only [zA9, zB9, zC9]
      refine tKx (i := 4) (v := .pointer (some ⟨f, 0, none⟩)) rfl rfl (by kernel_rfl) (fun _ _ _ h => h) ?_ hH ?_
      · intro w5 hSw; go_simp
      simp only [zA9, zB9, zC9]
      refine tKx (i := 5) (v := .int .i64 q) rfl rfl (by kernel_rfl) (fun _ _ _ h => h) ?_ hH ?_
      · intro w5 hSw; go_simp
      simp only [zA9, zB9, zC9]
      refine tKx (i := 6) (v := .pointer (some ⟨f, 0, none⟩)) rfl rfl (by kernel_rfl) (fun _ _ _ h => h) ?_ hH ?_
      · intro w5 hSw; go_simp
      simp only [zA9, zB9, zC9]
      refine wpAnyH_ready (rs := [7]) (by kernel_rfl) (by simp) ?_
      refine AllReadyH.cons rfl (fun K hK => ?_) AllReadyH.nil
      go_simp
      go_at_call 48
      refine (USE.out 1).mono ?_
      rintro e w2 ⟨rfl, hg2⟩
      go_wp2_with fail
      have hH9 := hH
      clear hH
      refine hK.out _ _ (hg2.cell c0 (by simp)) (fun hH => ?_)
      clear hK K
      refine tKx (i := 8) (v := .int .i64 (q - (U : Int))) rfl rfl (by kernel_rfl) (fun _ _ _ h => h) ?_ hH ?_
      · intro w5 hSw; go_simp
      simp only [zA9, zB9, zC9]
      refine tKx (i := 9) (v := .bool true) rfl rfl (by kernel_rfl) (fun _ _ _ h => h) ?_ hH ?_
      · intro w5 hSw; go_simp
      simp only [zA9, zB9, zC9]
      refine wpAnyH_done (by kernel_rfl) ?_ _
      refine NoPanic.normal ?_
      go_wp2_with fail
      go_ret
      exact ⟨rfl, xs, rfl, D.out.same2 (D.out.kept hg2) (Chg.of_none hg2 (fun _ => False)) (fun _ e => e.elim)⟩
    rw [if_neg hqq]
    have RFU : Hid (∀ w2, w.grownBy w2 none → Calls Try.prog 53 #[.pointer (some ⟨f, 0, none⟩)] w2 fun e w' => e = .returned (.bool (rfB st)) ∧ Dsk P w' base f q (rfS st) (some m) xs us ∧ Chg (fun i => i = f) w2 w' ∧ w'.heap.size = w2.heap.size) := fun w2 g => refuses_any base f q st (some m) xs us w2 (D.out.kept g) hr
    cases hB : rfB st with
    | true =>
      rw [if_pos rfl, if_neg (by decide)]
      by_cases hs1 : st = -1
      · rw [if_neg (by simp [hs1])]
        rw [if_neg hqq]
        have bs1 : (st == -1) = true := by rw [hs1]; rfl
        go_enter Try.func22, Try.ntmps22
        go_wp2_with fail
        refine NM.out.mono ?_
        rintro e wx ⟨rfl, hwx⟩; have hwx2 := hwx.symm; subst hwx2; clear hwx
        go_wp2_with fail
        refine wp_region_noPanic ?_
        refine wp_region_held_drew (S := fun w' => w'.cell? ⟨f, 0, none⟩ = some (.int .i64 q)) (by kernel_rfl) (c0) (fun hH => ?_)
        refine tKx (i := 0) (v := .slice Pb b.length C) rfl rfl (by kernel_rfl) (fun _ _ _ h => h) ?_ hH ?_
        · intro w5 hSw; go_simp
        simp only [zA9, zB9, zC9]
        refine tKx (i := 1) (v := .int .i64 (b.length : Int)) rfl rfl (by kernel_rfl) (fun _ _ _ h => h) ?_ hH ?_
        · intro w5 hSw; go_simp
        simp only [zA9, zB9, zC9]
        refine tKx (i := 2) (v := .pointer (some ⟨f, 0, none⟩)) rfl rfl (by kernel_rfl) (fun _ _ _ h => h) ?_ hH ?_
        · intro w5 hSw; go_simp
        simp only [zA9, zB9, zC9]
        refine tKx (i := 3) (v := .pointer (some ⟨f, 0, none⟩)) rfl rfl (by kernel_rfl) (fun _ _ _ h => h) ?_ hH ?_
        · intro w5 hSw; go_simp
        simp only [zA9, zB9, zC9]
        refine tKx (i := 4) (v := .pointer (some ⟨f, 0, none⟩)) rfl rfl (by kernel_rfl) (fun _ _ _ h => h) ?_ hH ?_
        · intro w5 hSw; go_simp
        simp only [zA9, zB9, zC9]
        refine tKx (i := 5) (v := .int .i64 q) rfl rfl (by kernel_rfl) (fun _ _ _ h => h) ?_ hH ?_
        · intro w5 hSw; go_simp
        simp only [zA9, zB9, zC9]
        refine tKx (i := 6) (v := .pointer (some ⟨f, 0, none⟩)) rfl rfl (by kernel_rfl) (fun _ _ _ h => h) ?_ hH ?_
        · intro w5 hSw; go_simp
        simp only [zA9, zB9, zC9]
        refine wpAnyH_ready (rs := [7]) (by kernel_rfl) (by simp) ?_
        refine AllReadyH.cons rfl (fun K hK => ?_) AllReadyH.nil
        go_simp
        go_at_call 48
        refine (USE.out 1).mono ?_
        rintro e w2 ⟨rfl, hg2⟩
        go_wp2_with fail
        have hH9 := hH
        clear hH
        refine hK.out _ _ (hg2.cell c0 (by simp)) (fun hH => ?_)
        clear hK K
        refine tKx (i := 8) (v := .int .i64 (q - (U : Int))) rfl rfl (by kernel_rfl) (fun _ _ _ h => h) ?_ hH ?_
        · intro w5 hSw; go_simp
        simp only [zA9, zB9, zC9]
        refine tKx (i := 9) (v := .bool false) rfl rfl (by kernel_rfl) (fun _ _ _ h => h) ?_ hH ?_
        · intro w5 hSw; go_simp
        simp only [zA9, zB9, zC9]
        refine wpAnyH_done (by kernel_rfl) ?_ _
        refine NoPanic.normal ?_
        have c32 := hg2.cell c3 (by simp)
        have RF := mkHid (RFU.out w2 hg2)
        have hC2 := mkHid (Chg.of_none hg2 P)
        rw [hB] at RF
        clear hg2 hH hH9
        go_wp2_with fail
        refine RF.out.mono ?_
        rintro e w4 ⟨rfl, d4, c4, s4⟩
        have C4 : Hid (Chg P w w4) := hC2.out.trans (c4.mono (fun i _ e => by subst e; exact pf))
        clear c4 RF
        go_wp2_with fail
        go_ret
        exact ⟨rfl, xs, rfl, D.out.same2 d4 C4.out (fun _ e => e)⟩
      · rw [if_pos ⟨rfl, hs1⟩]
        rw [if_neg hqq]
        have bs1 : (st == -1) = false := by rw [beq_eq_false_iff_ne]; exact hs1
        obtain ⟨H, hH0⟩ : ∃ H, H = b.length / 2 := ⟨_, rfl⟩
        rw [← hH0]
        have hHl : H ≤ b.length := by omega
        have hdiv : (b.length : Int).tdiv 2 = (H : Int) := by rw [hH0, Int.tdiv_eq_ediv_of_nonneg (by omega)]; omega
        have hdiv2 : (b.length : Int) / 2 = (H : Int) := by omega
        have hwr : IntKind.i64.wrap (H : Int) = (H : Int) := by rw [IntKind.wrap_i64]; omega
        have hHC : ¬ C < H := by omega
        have hz0 : (if C = 0 then Pb else Option.map (fun x => x.add 0) Pb) = Pb := by
          cases Pb with
          | none => simp
          | some a => simp [Addr.add]
        have htl : (b.take H).length = H := by rw [List.length_take]; omega
        go_enter Try.func22, Try.ntmps22
        go_wp2_with fail
        refine NM.out.mono ?_
        rintro e wx ⟨rfl, hwx⟩; have hwx2 := hwx.symm; subst hwx2; clear hwx
        go_wp2_with fail
        refine wp_region_noPanic ?_
        refine wp_region_held_drew (S := fun w' => w'.cell? ⟨f, 0, none⟩ = some (.int .i64 q)) (by kernel_rfl) (c0) (fun hH => ?_)
        refine tKx (i := 0) (v := .slice Pb b.length C) rfl rfl (by kernel_rfl) (fun _ _ _ h => h) ?_ hH ?_
        · intro w5 hSw; go_simp
        simp only [zA9, zB9, zC9]
        refine tKx (i := 1) (v := .int .i64 (b.length : Int)) rfl rfl (by kernel_rfl) (fun _ _ _ h => h) ?_ hH ?_
        · intro w5 hSw; go_simp
        simp only [zA9, zB9, zC9]
        refine tKx (i := 2) (v := .pointer (some ⟨f, 0, none⟩)) rfl rfl (by kernel_rfl) (fun _ _ _ h => h) ?_ hH ?_
        · intro w5 hSw; go_simp
        simp only [zA9, zB9, zC9]
        refine tKx (i := 3) (v := .pointer (some ⟨f, 0, none⟩)) rfl rfl (by kernel_rfl) (fun _ _ _ h => h) ?_ hH ?_
        · intro w5 hSw; go_simp
        simp only [zA9, zB9, zC9]
        refine tKx (i := 4) (v := .pointer (some ⟨f, 0, none⟩)) rfl rfl (by kernel_rfl) (fun _ _ _ h => h) ?_ hH ?_
        · intro w5 hSw; go_simp
        simp only [zA9, zB9, zC9]
        refine tKx (i := 5) (v := .int .i64 q) rfl rfl (by kernel_rfl) (fun _ _ _ h => h) ?_ hH ?_
        · intro w5 hSw; go_simp
        simp only [zA9, zB9, zC9]
        refine tKx (i := 6) (v := .pointer (some ⟨f, 0, none⟩)) rfl rfl (by kernel_rfl) (fun _ _ _ h => h) ?_ hH ?_
        · intro w5 hSw; go_simp
        simp only [zA9, zB9, zC9]
        refine wpAnyH_ready (rs := [7]) (by kernel_rfl) (by simp) ?_
        refine AllReadyH.cons rfl (fun K hK => ?_) AllReadyH.nil
        go_simp
        go_at_call 48
        refine (USE.out 1).mono ?_
        rintro e w2 ⟨rfl, hg2⟩
        go_wp2_with fail
        have hH9 := hH
        clear hH
        refine hK.out _ _ (hg2.cell c0 (by simp)) (fun hH => ?_)
        clear hK K
        refine tKx (i := 8) (v := .int .i64 (q - (U : Int))) rfl rfl (by kernel_rfl) (fun _ _ _ h => h) ?_ hH ?_
        · intro w5 hSw; go_simp
        simp only [zA9, zB9, zC9]
        refine tKx (i := 9) (v := .bool false) rfl rfl (by kernel_rfl) (fun _ _ _ h => h) ?_ hH ?_
        · intro w5 hSw; go_simp
        simp only [zA9, zB9, zC9]
        refine wpAnyH_done (by kernel_rfl) ?_ _
        refine NoPanic.normal ?_
        have c32 := hg2.cell c3 (by simp)
        have RF := mkHid (RFU.out w2 hg2)
        have hC2 := mkHid (Chg.of_none hg2 P)
        rw [hB] at RF
        clear hg2 hH hH9
        go_wp2_with fail
        refine RF.out.mono ?_
        rintro e w4 ⟨rfl, d4, c4, s4⟩
        have C4 : Hid (Chg P w w4) := hC2.out.trans (c4.mono (fun i _ e => by subst e; exact pf))
        clear c4 RF
        obtain ⟨okX, pX, pv⟩ := d4.okX e4
        obtain ⟨x0, x1, xf⟩ := okX.c
        obtain ⟨v3, w3, hrun3, ho3, hg3, hl3⟩ := app_run base X.v X.l (b.take H) Pb H C w4.drew okX.row ((HI.out.chg C4.out HO.out).take H) htl.symm hC (by rw [htl]; omega) d4.bs
        obtain ⟨⟨y0, y1, yf⟩, d5, c5⟩ := (d4.drewN 1).appended SO.out e4 ho3 hg3 hl3 (by simp) (by rw [List.length_append, htl]; omega)
        obtain ⟨P3, C3, N3, hv3⟩ := own_form3 ho3
        obtain ⟨PX, CX, hPX⟩ := okX.form
        rw [hPX] at x0 hrun3 y0
        have yf0 := yf 0
        have hw3 := World.block_lt_of_cell? w3 _ y0
        have D5 : Hid (Dsk (ext P w4 (w3.setCell ⟨X.b, 0, none⟩ v3)) (w3.setCell ⟨X.b, 0, none⟩ v3) base f q (rfS st) (some m) (putN n { X with v := v3, l := X.l ++ b.take H } xs) us) := d5
        have C5 : Hid (Chg P w4 (w3.setCell ⟨X.b, 0, none⟩ v3)) := ⟨c5.os, c5.tape, c5.output, c5.size, c5.block⟩
        have S5 := c5.size
        have S4 := C4.out.size
        clear okX hPX ho3 hg3 hl3 d5 c5 yf hH0 htl d4 xf x1
        subst hv3
        go_wp2_with fail
        refine wp_region_noPanic ?_
        refine wp_region_G (S := SG 13 13 (fun w' => w'.cell? ⟨X.b, 0, none⟩ = some (.slice PX X.l.length CX)) (fun _ => True) (fun _ => True)) (by kernel_rfl) (⟨fun _ => x0, fun _ => trivial, trivial⟩) (fun hH => ?_)
        simp only [Array.replicate, List.size_toArray, List.length_cons, List.length_nil, List.replicate, Nat.zero_add, Nat.reduceAdd] at hH ⊢
        refine takeG (i := 0) (v := .pointer (some ⟨X.b, 0, none⟩)) [] rfl rfl (by kernel_rfl) (by kernel_rfl) (by kernel_rfl) (by kernel_rfl) (by kernel_rfl) (SG_set (by decide) (by decide)) (fun _ _ _ h => h) (Or.inl ⟨by rfl, ?_⟩) hH (fun hH => ?_)
        · intro w5 hSw; go_simp
        simp only [zA9, zB9, zC9] at hH ⊢
        refine takeG (i := 1) (v := .pointer (some ⟨X.b, 0, none⟩)) [] rfl rfl (by kernel_rfl) (by kernel_rfl) (by kernel_rfl) (by kernel_rfl) (by kernel_rfl) (SG_set (by decide) (by decide)) (fun _ _ _ h => h) (Or.inl ⟨by rfl, ?_⟩) hH (fun hH => ?_)
        · intro w5 hSw; go_simp
        simp only [zA9, zB9, zC9] at hH ⊢
        refine takeG (i := 2) (v := .pointer (some ⟨X.b, 0, none⟩)) [] rfl rfl (by kernel_rfl) (by kernel_rfl) (by kernel_rfl) (by kernel_rfl) (by kernel_rfl) (SG_set (by decide) (by decide)) (fun _ _ _ h => h) (Or.inl ⟨by rfl, ?_⟩) hH (fun hH => ?_)
        · intro w5 hSw; go_simp
        simp only [zA9, zB9, zC9] at hH ⊢
        refine takeG (i := 3) (v := .pointer (some ⟨X.b, 0, none⟩)) [] rfl rfl (by kernel_rfl) (by kernel_rfl) (by kernel_rfl) (by kernel_rfl) (by kernel_rfl) (SG_set (by decide) (by decide)) (fun _ _ _ h => h) (Or.inl ⟨by rfl, ?_⟩) hH (fun hH => ?_)
        · intro w5 hSw; go_simp
        simp only [zA9, zB9, zC9] at hH ⊢
        refine takeG (i := 4) (v := .slice PX X.l.length CX) [13] rfl rfl (by kernel_rfl) (by kernel_rfl) (by kernel_rfl) (by kernel_rfl) (by kernel_rfl) (SG_set (by decide) (by decide)) (fun _ _ _ h => h) (Or.inl ⟨by rfl, ?_⟩) hH (fun hH => ?_)
        · intro w5 hSw; obtain ⟨L5, hU5, hA5, _⟩ := hSw; have a5 := hA5 (hU5 _ (by simp)); go_simp
        simp only [zA9, zB9, zC9] at hH ⊢
        refine takeG (i := 5) (v := .slice Pb b.length C) [] rfl rfl (by kernel_rfl) (by kernel_rfl) (by kernel_rfl) (by kernel_rfl) (by kernel_rfl) (SG_set (by decide) (by decide)) (fun _ _ _ h => h) (Or.inl ⟨by rfl, ?_⟩) hH (fun hH => ?_)
        · intro w5 hSw; go_simp
        simp only [zA9, zB9, zC9] at hH ⊢
        refine takeG (i := 6) (v := .slice Pb b.length C) [] rfl rfl (by kernel_rfl) (by kernel_rfl) (by kernel_rfl) (by kernel_rfl) (by kernel_rfl) (SG_set (by decide) (by decide)) (fun _ _ _ h => h) (Or.inl ⟨by rfl, ?_⟩) hH (fun hH => ?_)
        · intro w5 hSw; go_simp
        simp only [zA9, zB9, zC9] at hH ⊢
        refine takeG (i := 7) (v := .int .i64 (b.length : Int)) [] rfl rfl (by kernel_rfl) (by kernel_rfl) (by kernel_rfl) (by kernel_rfl) (by kernel_rfl) (SG_set (by decide) (by decide)) (fun _ _ _ h => h) (Or.inl ⟨by rfl, ?_⟩) hH (fun hH => ?_)
        · intro w5 hSw; go_simp
        simp only [zA9, zB9, zC9] at hH ⊢
        refine takeG (i := 8) (v := .int .i64 (H : Int)) [] rfl rfl (by kernel_rfl) (by kernel_rfl) (by kernel_rfl) (by kernel_rfl) (by kernel_rfl) (SG_set (by decide) (by decide)) (fun _ _ _ h => h) (Or.inl ⟨by rfl, ?_⟩) hH (fun hH => ?_)
        · intro w5 hSw; go_simp
        simp only [zA9, zB9, zC9] at hH ⊢
        refine takeG (i := 9) (v := .slice Pb H C) [] rfl rfl (by kernel_rfl) (by kernel_rfl) (by kernel_rfl) (by kernel_rfl) (by kernel_rfl) (SG_set (by decide) (by decide)) (fun _ _ _ h => h) (Or.inl ⟨by rfl, ?_⟩) hH (fun hH => ?_)
        · intro w5 hSw; go_simp
        simp only [zA9, zB9, zC9] at hH ⊢
        refine wpAnyG_ready (rs := [10]) (by kernel_rfl) (by simp) ?_
        refine AllReadyG.cons rfl (fun K hK => ?_) AllReadyG.nil
        refine step_app 27 rfl (.tmp 41) (.tmp 46) rfl rfl rfl hrun3 ?_
        refine hK.out _ _ (⟨fun _ => y0, fun _ => trivial, trivial⟩) (fun hH => ?_)
        clear hK K
        simp only [Act.put, List.setIfInBounds_toArray, List.set_cons_zero, List.set_cons_succ] at hH ⊢
        refine takeG (i := 11) (v := .pointer (some ⟨X.b, 0, none⟩)) [] rfl rfl (by kernel_rfl) (by kernel_rfl) (by kernel_rfl) (by kernel_rfl) (by kernel_rfl) (SG_set (by decide) (by decide)) (fun _ _ _ h => h) (Or.inl ⟨by rfl, ?_⟩) hH (fun hH => ?_)
        · intro w5 hSw; go_simp
        simp only [zA9, zB9, zC9] at hH ⊢
        refine takeG (i := 12) (v := .pointer (some ⟨X.b, 0, none⟩)) [] rfl rfl (by kernel_rfl) (by kernel_rfl) (by kernel_rfl) (by kernel_rfl) (by kernel_rfl) (SG_set (by decide) (by decide)) (fun _ _ _ h => h) (Or.inl ⟨by rfl, ?_⟩) hH (fun hH => ?_)
        · intro w5 hSw; go_simp
        simp only [zA9, zB9, zC9] at hH ⊢
        refine wpAnyG_ready (rs := [13]) (by kernel_rfl) (by simp) ?_
        refine AllReadyG.cons rfl (fun K hK => ?_) AllReadyG.nil
        go_simp
        refine hK.out _ _ (⟨fun h => by simp at h, fun _ => trivial, trivial⟩) (fun hH => ?_)
        clear hK K
        simp only [zA9, zB9, zC9] at hH ⊢
        refine wpAnyG_done (by kernel_rfl) ?_ _
        refine NoPanic.normal ?_
        go_wp2_with fail
        go_ret
        exact ⟨rfl, _, abs_put n { X with v := .slice P3 N3 C3, l := X.l ++ b.take H } xs, ext_chg (fun i hi => (hpb.out i hi).2) S4 D5.out S5 hbs (fun i hi => (hpb.out i hi).1), C4.out.trans C5.out⟩
    | false =>
      rw [if_neg (by simp), if_pos rfl]
      rw [if_neg hqq]
      go_enter Try.func22, Try.ntmps22
      go_wp2_with fail
      refine NM.out.mono ?_
      rintro e wx ⟨rfl, hwx⟩; have hwx2 := hwx.symm; subst hwx2; clear hwx
      go_wp2_with fail
      refine wp_region_noPanic ?_
      refine wp_region_held_drew (S := fun w' => w'.cell? ⟨f, 0, none⟩ = some (.int .i64 q)) (by kernel_rfl) (c0) (fun hH => ?_)
      refine tKx (i := 0) (v := .slice Pb b.length C) rfl rfl (by kernel_rfl) (fun _ _ _ h => h) ?_ hH ?_
      · intro w5 hSw; go_simp
      simp only [zA9, zB9, zC9]
      refine tKx (i := 1) (v := .int .i64 (b.length : Int)) rfl rfl (by kernel_rfl) (fun _ _ _ h => h) ?_ hH ?_
      · intro w5 hSw; go_simp
      simp only [zA9, zB9, zC9]
      refine tKx (i := 2) (v := .pointer (some ⟨f, 0, none⟩)) rfl rfl (by kernel_rfl) (fun _ _ _ h => h) ?_ hH ?_
      · intro w5 hSw; go_simp
      simp only [zA9, zB9, zC9]
      refine tKx (i := 3) (v := .pointer (some ⟨f, 0, none⟩)) rfl rfl (by kernel_rfl) (fun _ _ _ h => h) ?_ hH ?_
      · intro w5 hSw; go_simp
      simp only [zA9, zB9, zC9]
      refine tKx (i := 4) (v := .pointer (some ⟨f, 0, none⟩)) rfl rfl (by kernel_rfl) (fun _ _ _ h => h) ?_ hH ?_
      · intro w5 hSw; go_simp
      simp only [zA9, zB9, zC9]
      refine tKx (i := 5) (v := .int .i64 q) rfl rfl (by kernel_rfl) (fun _ _ _ h => h) ?_ hH ?_
      · intro w5 hSw; go_simp
      simp only [zA9, zB9, zC9]
      refine tKx (i := 6) (v := .pointer (some ⟨f, 0, none⟩)) rfl rfl (by kernel_rfl) (fun _ _ _ h => h) ?_ hH ?_
      · intro w5 hSw; go_simp
      simp only [zA9, zB9, zC9]
      refine wpAnyH_ready (rs := [7]) (by kernel_rfl) (by simp) ?_
      refine AllReadyH.cons rfl (fun K hK => ?_) AllReadyH.nil
      go_simp
      go_at_call 48
      refine (USE.out 1).mono ?_
      rintro e w2 ⟨rfl, hg2⟩
      go_wp2_with fail
      have hH9 := hH
      clear hH
      refine hK.out _ _ (hg2.cell c0 (by simp)) (fun hH => ?_)
      clear hK K
      refine tKx (i := 8) (v := .int .i64 (q - (U : Int))) rfl rfl (by kernel_rfl) (fun _ _ _ h => h) ?_ hH ?_
      · intro w5 hSw; go_simp
      simp only [zA9, zB9, zC9]
      refine tKx (i := 9) (v := .bool false) rfl rfl (by kernel_rfl) (fun _ _ _ h => h) ?_ hH ?_
      · intro w5 hSw; go_simp
      simp only [zA9, zB9, zC9]
      refine wpAnyH_done (by kernel_rfl) ?_ _
      refine NoPanic.normal ?_
      have c32 := hg2.cell c3 (by simp)
      have RF := mkHid (RFU.out w2 hg2)
      have hC2 := mkHid (Chg.of_none hg2 P)
      rw [hB] at RF
      clear hg2 hH hH9
      go_wp2_with fail
      refine RF.out.mono ?_
      rintro e w4 ⟨rfl, d4, c4, s4⟩
      have C4 : Hid (Chg P w w4) := hC2.out.trans (c4.mono (fun i _ e => by subst e; exact pf))
      clear c4 RF
      obtain ⟨okX, pX, pv⟩ := d4.okX e4
      obtain ⟨x0, x1, xf⟩ := okX.c
      obtain ⟨v3, w3, hrun3, ho3, hg3, hl3⟩ := app_run base X.v X.l b Pb b.length C w4 okX.row (HI.out.chg C4.out HO.out) rfl hC (by omega) d4.bs
      obtain ⟨⟨y0, y1, yf⟩, d5, c5⟩ := d4.appended SO.out e4 ho3 hg3 hl3 (by simp) (by rw [List.length_append]; omega)
      obtain ⟨P3, C3, N3, hv3⟩ := own_form3 ho3
      obtain ⟨PX, CX, hPX⟩ := okX.form
      rw [hPX] at x0 hrun3 y0
      have yf0 := yf 0
      have hw3 := World.block_lt_of_cell? w3 _ y0
      have D5 := mkHid d5
      have C5 := mkHid c5
      have S5 := c5.size
      have S4 := C4.out.size
      clear okX hPX ho3 hg3 hl3 d5 c5 yf d4 xf x1
      subst hv3
      go_wp2_with (at_builtin; refine list_app 27 rfl (.tmp 54) (.tmp 55) rfl rfl rfl hrun3 ?_)
      go_ret
      exact ⟨rfl, _, abs_put n { X with v := .slice P3 N3 C3, l := X.l ++ b } xs, ext_chg (fun i hi => (hpb.out i hi).2) S4 D5.out S5 hbs (fun i hi => (hpb.out i hi).1), C4.out.trans C5.out⟩
end Go.Proofs.Ytdiehlioemmakaa

