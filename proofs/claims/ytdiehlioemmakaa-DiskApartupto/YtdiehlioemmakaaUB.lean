/-
  The walks of slices.Clone and simfs.Read.
-/
import Derived.Test.YtdiehlioemmakaaUA
namespace Go.Proofs.Ytdiehlioemmakaa
open Go.RowKit Go.Maps Go.Joins

theorem eqNil (w : World) : (binOp .eql 27 (.slice none 0 0) (.slice none 0 0)).run Try.prog w = .ok (.bool true) w := by kernel_rfl
theorem neNil (a : Addr) (n c : Nat) (w : World) : (binOp .eql 27 (.slice (some a) n c) (.slice none 0 0)).run Try.prog w = .ok (.bool false) w := by kernel_rfl
theorem eqNilM (w : World) : (binOp .eql 64 (.map none) (.map none)).run Try.prog w = .ok (.bool true) w := by kernel_rfl
theorem neNilM (m : Nat) (w : World) : (binOp .eql 64 (.map (some m)) (.map none)).run Try.prog w = .ok (.bool false) w := by kernel_rfl

set_option maxHeartbeats 1000000 in
set_option maxRecDepth 100000 in
theorem Clone_any (base : Nat) (v : Value) (l : List UInt8) (w : World) (h : ownsB w base v l) (hl : l.length ≤ 100000000) :
    Calls Try.prog 61 #[v] w fun e w' => ∃ v', e = .returned v' ∧ ownsB w' w.heap.size v' l ∧ w.grownBy w' none := by
  rcases h.2 with ⟨rfl, h0⟩ | ⟨g, cap, cur, rfl, hb, hcur, hn, hm, hs, ht⟩
  · obtain rfl : l = [] := List.eq_nil_of_length_eq_zero h0
    have z := eqNil w
    go_enter Try.func61, Try.ntmps61
    go_wp2_with fail
    go_ret
    exact ⟨_, rfl, ownsB_nil _ _, ⟨rfl, rfl, rfl, Nat.le_refl _, fun _ _ _ => rfl⟩⟩
  · have hin : byIn w (some ⟨g, 0, none⟩) l := Or.inr ⟨⟨g, 0, none⟩, rfl, fun i x hx => by
      have hi := (List.getElem?_eq_some_iff.1 hx).1
      rw [add_plain, Nat.zero_add, World.ownsRow.cellAt h i (by omega)]
      simp [by8, hx]⟩
    have HI : Hid (∀ o, byIn (w.alloc o) (some ⟨g, 0, none⟩) l) := fun o => hin.kept (World.grownBy_alloc w o none)
    have O0 : Hid (∀ t, (w.alloc (.cells #[] t)).ownsRow w.heap.size t 1 (.slice (some ⟨w.heap.size, 0, none⟩) 0 0) 0 []) := fun t => World.ownsRow_made w #[] 0 (Nat.le_refl _) (by unfold maxLen; omega) rfl
    have z := neNil ⟨g, 0, none⟩ l.length cap w
    clear h hb hcur hn hm hs ht hin
    go_enter Try.func61, Try.ntmps61
    go_wp2_with (at_builtin; refine app_in rfl (.tmp 5) (.tmp 6) rfl w.heap.size _ [] l _ cap rfl (O0.out _) (HI.out _) (fun e => by cases e) rfl (by simp; omega) (by simp) ?_; intro v3 w3 ho3 hg3 hl3)
    go_ret
    refine ⟨_, rfl, ho3, ⟨hg3.os, hg3.tape, hg3.output, Nat.le_trans (by simp) hg3.size, fun k hk _ => ?_⟩⟩
    rw [hg3.block k (by simp; omega) (fun e => by cases e; exact Nat.lt_irrefl _ hk)]
    exact Below.heap_alloc _ _ k hk

set_option maxHeartbeats 1000000 in
set_option maxRecDepth 100000 in
theorem Read_ok (base f m : Nat) (q : Int) (s : ByteArray) (X : Fl) (A B : List (List UInt8 × Fl)) (us : List Un) (w : World) (d : Disk w base f q m (A ++ (s.data.toList, X) :: B) us) (hs : okN s) :
    Calls Try.prog 43 #[.pointer (some ⟨f, 0, none⟩), .string s] w fun e w' => ∃ v', e = .returned (.tuple #[v', .int .i64 0]) ∧ ownsB w' w.heap.size v' X.l ∧ w.grownBy w' none := by
  obtain ⟨ov, h1, h2⟩ := d.fs
  have okX : FlOk w base X := d.fl.ok X (by simp)
  have NM : Hid (Calls Try.prog 58 #[.pointer (some ⟨f, 0, none⟩), .string s] w fun e w' => e = .returned (.tuple #[.pointer (some ⟨X.b, 0, none⟩), .int .i64 0]) ∧ w' = w) := named_ok f m q 0 ov s X.b _ w h1 d.mp hs (at_of d.mp.names (by simp))
  have CL : Hid (Calls Try.prog 61 #[X.v] w fun e w' => ∃ v', e = .returned v' ∧ ownsB w' w.heap.size v' X.l ∧ w.grownBy w' none) := Clone_any base X.v X.l w okX.row okX.ll
  obtain ⟨c0, c1, cf⟩ := okX.c
  obtain ⟨P, C, hP⟩ := okX.form
  rw [hP] at c0 CL
  clear d h1 h2 okX hP
  go_enter Try.func43, Try.ntmps43
  go_wp2_with fail
  refine NM.out.mono ?_
  rintro e wx ⟨rfl, hwx⟩; have hwx2 := hwx.symm; subst hwx2; clear hwx
  go_wp2_with fail
  refine CL.out.mono ?_
  rintro e w2 ⟨v', rfl, ho, hg⟩
  go_wp2_with fail
  go_ret2
  exact ⟨v', rfl, ho, hg⟩
end Go.Proofs.Ytdiehlioemmakaa

namespace Go.Proofs.Ytdiehlioemmakaa
open Go.RowKit Go.Maps Go.Joins

theorem take_at {P : Program} {ops : Array Oper} {Q : Exit → Act → World → Prop} {md : Region.Mode} {S : World → Prop} {i d : Nat} {oi : Oper} {v : Value} {fuel : Nat} {listed : Array Bool} {ts : Array Value} {df : List Deferred} {w : World} (hi : ops[i]? = some oi) (hd : oi.dst = some d)
    (hs : Region.noSelect ops = true) (hf : Region.free md ops listed i = true) (hr : (Region.ready md ops listed).contains i = true)
    (hQ : ∀ c a w, Q (.panic c) (a.put oi.dst v) w → Q (.panic c) a w) (hy : YieldsIf P ops S oi v ⟨ts, df⟩) (hS : S w)
    (h : wpAnyH P md ops Q S fuel (listed.setIfInBounds i true) ⟨ts.setIfInBounds d v, df⟩ w) : wpAnyH P md ops Q S (fuel + 1) listed ⟨ts, df⟩ w :=
  wpAnyH_take hi hs hf hr hQ hy hS (by rw [hd]; exact h)
theorem tKx {P : Program} {ops : Array Oper} {Q : Exit → Act → World → Prop} {md : Region.Mode} {S : World → Prop} {i d : Nat} {oi : Oper} {v : Value} {fuel : Nat} {listed : Array Bool} {ts : Array Value} {df : List Deferred} {w : World} (hi : ops[i]? = some oi) (hd : oi.dst = some d)
    (hk : (Region.noSelect ops && Region.free md ops listed i && (Region.ready md ops listed).contains i && Region.wanted oi (yielded ops ts)) = true)
    (hQ : ∀ c a w, Q (.panic c) (a.put oi.dst v) w → Q (.panic c) a w) (hy : ∀ w', S w' → (execOp (Act.eval ⟨ts, df⟩) oi).run P w' = .ok (.value v) w') (hS : S w)
    (h : wpAnyH P md ops Q S fuel (listed.setIfInBounds i true) ⟨ts.setIfInBounds d v, df⟩ w) : wpAnyH P md ops Q S (fuel + 1) listed ⟨ts, df⟩ w := by
  simp only [Bool.and_eq_true] at hk
  exact take_at hi hd hk.1.1.1 hk.1.1.2 hk.1.2 hQ (Or.inl ⟨hk.2, hy⟩) hS h
theorem fnInfo : (Try.prog.info? 72).map (fun i => (i.zero, i.size, i.bytes)) = some (some .nilFunc, 1, 8) := by kernel_rfl
theorem fnSlice : Try.prog.underlying 65 = some (.slice 72) := by kernel_rfl
theorem row_form {w : World} {base n : Nat} {e : TypeId} {v : Value} {xs : List Value} (h : w.ownsRow base e 1 v n xs) : ∃ P C, v = .slice P n C := by
  rcases h.2 with ⟨e, h0⟩ | ⟨g, cap, cur, e, _⟩
  · exact ⟨none, 0, by rw [e, h0]⟩
  · exact ⟨_, _, e⟩
theorem app_f {ops : Array Oper} {rest : List Oper} {o : Oper} {a : Act} {w : World} {Q : Exit → Act → World → Prop} (hgd : o.guard = none) (s x : Operand)
    (ho : o.op = .call { callee := .builtin .append, args := #[s, x], argTypes := #[65, 65] })
    (base : Nat) (v u : Value) (n : Nat) (us : List Value) (hs : a.eval s = v) (hown : w.ownsRow base 72 1 v n us) (hu : u.oneCell' = true)
    (hx : a.eval x = .slice (some ⟨w.heap.size, 0, none⟩) 1 1) (hl : n ≤ 1000000) (hb : base ≤ w.heap.size)
    (h : ∀ P C w', w'.ownsRow base 72 1 (.slice P (n + 1) C) (n + 1) (us ++ [u]) → Chg (fun i => v.ownBlock = some i) w w' → (∀ g, (Value.slice P (n + 1) C).ownBlock = some g → v.ownBlock = some g ∨ w.heap.size ≤ g) → wpList Try.prog ops Q rest (a.put o.dst (.slice P (n + 1) C)) w') :
    wpList Try.prog ops Q (o :: rest) a (w.alloc (.cells #[u] 72)) := by
  obtain ⟨i0, hi, hz0, hz1, hz2⟩ := info_parts fnInfo
  refine wpList_append_own_at _ hgd s x 65 ho base 72 i0 .nilFunc 1 8 fnSlice hi hz0 hz1 hz2 rfl (by decide) v n us hs (hown.alloc _) ⟨w.heap.size, 0, none⟩ 1 1 [u] hx rfl (cell_one_new _ _ _) (by intro y hy; simp at hy; subst hy; exact hu) (by unfold maxLen; omega) (by omega) (by simp; omega) ?_
  intro v' w' h1 h2 _ h4
  obtain ⟨P, C, rfl⟩ := row_form h1
  refine h P C w' h1 ((Chg.of_alloc w _ _).trans (Chg.of_grown h2)) (fun g hg => ?_)
  rcases h4 with h4 | h4
  · exact Or.inl (h4.symm.trans hg)
  · rw [h4] at hg
    have : (w.alloc (.cells #[u] 72)).heap.size = g := by simpa using hg
    simp at this
    exact Or.inr (by omega)
/-- one more change of names is open -/
theorem opened {w3 w4 : World} {base f m : Nat} {q : Int} {ov : Value} {P : Option Addr} {C : Nat} {xs : List (List UInt8 × Fl)} {us : List Un} {u : Un} (h1 : FsAt w3 f q (some m) ov 0) (hr : w3.ownsRow base 72 1 ov us.length (us.map Un.val)) (hm : Mp w3 m xs) (hf : Fls w3 base (xs.map (·.2) ++ (us ++ [u]).flatMap Un.lost)) (hu : ∀ u' ∈ us ++ [u], u'.ok w3 base) (fge : base ≤ f) (mge : base ≤ m) (bs : base ≤ w3.heap.size)
    (h4 : w4.ownsRow base 72 1 (.slice P (us.length + 1) C) (us.length + 1) (us.map Un.val ++ [u.val])) (hc : Chg (fun i => ov.ownBlock = some i) w3 w4) :
    Disk (w4.setCell ⟨f, 2, none⟩ (.slice P (us.length + 1) C)) base f q m xs (us ++ [u]) ∧ Below base w3 (w4.setCell ⟨f, 2, none⟩ (.slice P (us.length + 1) C)) := by
  have kind : ∀ i, ov.ownBlock = some i → ∃ cs, w3.heap[i]? = some (.cells cs 72 (0, 0)) := fun i e => own_kind hr i e
  have nf : ¬ ov.ownBlock = some f := fun e => by obtain ⟨cs, hk⟩ := kind _ e; unfold FsAt at h1; rw [h1] at hk; simp at hk
  have F4 : FsAt w4 f q (some m) ov 0 := hc.at_ h1 nf
  have c5 := Chg.of_cell w4 ⟨f, 2, none⟩ (.slice P (us.length + 1) C)
  have c35 : Chg (fun i => i = f ∨ ov.ownBlock = some i) w3 (w4.setCell ⟨f, 2, none⟩ (.slice P (us.length + 1) C)) := (hc.mono (fun i _ e => Or.inr e)).trans (c5.mono (fun i _ e => Or.inl e))
  have kindS : ∀ i, (i = f ∨ ov.ownBlock = some i) → ∃ cs t, w3.heap[i]? = some (.cells cs t (0, 0)) ∧ (t = 67 ∨ t = 72) := by
    rintro i (rfl | e)
    · exact ⟨_, _, h1, Or.inl rfl⟩
    · obtain ⟨cs, hk⟩ := kind _ e
      exact ⟨_, _, hk, Or.inr rfl⟩
  refine ⟨⟨Nat.le_trans bs c35.size, fge, mge, ⟨.slice P (us.length + 1) C, (block_setCell F4 _).trans rfl, ?_⟩, c35.map hm (fun e => ?_), c35.files hf (fun r e => ?_), fun u' hu' => c35.un (hu u' hu') (fun r e => ?_)⟩, c35.below bs ?_⟩
  · have e : (us ++ [u]).length = us.length + 1 := by simp
    have e2 : (us ++ [u]).map Un.val = us.map Un.val ++ [u.val] := by simp
    rw [e, e2]
    refine c5.row h4 (fun g hg e => ?_)
    obtain ⟨cs, hk⟩ := own_kind h4 g hg
    have e : g = f := e
    unfold FsAt at F4
    rw [e, F4] at hk; simp at hk
  · obtain ⟨cs, t, hk, _⟩ := kindS _ e
    obtain ⟨es, c, hk'⟩ := hm.kind
    rw [hk'] at hk; simp at hk
  · obtain ⟨cs, t, hk, ht⟩ := kindS _ e
    refine other_cells hk ?_ ?_ <;> rcases ht with rfl | rfl <;> decide
  · obtain ⟨cs, t, hk, ht⟩ := kindS _ e
    refine plainB_cells hk ?_ ?_ <;> rcases ht with rfl | rfl <;> decide
  · rintro i (rfl | e)
    · exact fge
    · exact own_ge hr _ e

end Go.Proofs.Ytdiehlioemmakaa

namespace Go.Proofs.Ytdiehlioemmakaa
open Go.RowKit Go.Maps Go.Joins

set_option maxHeartbeats 8000000 in
set_option maxRecDepth 1000000 in
theorem Create_nil0 (base f : Nat) (q : Int) (s : ByteArray) (A B : List (List UInt8 × Fl)) (us : List Un) (w : World) (d : FsAt w f q none (.slice none 0 0) 0) (fge : base ≤ f) (bs : base ≤ w.heap.size) (hs : okN s) (hA : A = []) (hB : B = []) (hus : us = []) :
    Calls Try.prog 29 #[.pointer (some ⟨f, 0, none⟩), .string s] w fun e w' => e = .returned (.int .i64 0) ∧ ∃ m b c, Disk w' base f q m (A ++ (s.data.toList, ⟨b, .slice none 0 0, [], 0⟩) :: B) (us ++ [.cr c s]) ∧ Below base w w' := by
  have CB : Hid (∀ w, Calls Try.prog 62 #[.string s] w fun e w' => e = .returned (.bool true) ∧ w' = w) := fun w => canBe_ok s w hs
  have hsz : s.size ≤ maxLen := by have := hs.2.1; unfold maxLen; omega
  have hput : ∀ b : Nat, (DataW.map ((A ++ B).map ent)).put (.string s.data.toList) (.lit (.int .i64 (b : Int))) = .map (A.map ent ++ (.string s.data.toList, .lit (.int .i64 (b : Int))) :: B.map ent) := by subst hA hB; intro b; rfl
  have hl : A.length + B.length < 64 := by subst hA hB; simp
  have hu : us.length ≤ 1000 := by subst hus; simp
  have g0 := World.grownBy_alloc w (.cells #[.string s] 9) none
  have D0 : FsAt (w.alloc (.cells #[.string s] 9)) f q none (.slice none 0 0) 0 := FsAt.kept d g0 (by simp)
  have hc0 : (w.alloc (.cells #[.string s] 9)).heap[w.heap.size]? = some (.cells #[.string s] 9 (0, 0)) := heap_alloc_new _ _
  have B0 : Below base w (w.alloc (.cells #[.string s] 9)) := (Below.refl _ w).alloc bs _
  have hcb : base ≤ w.heap.size := bs
  go_enter Try.func29, Try.ntmps29
  go_wp2_with fail
  generalize w.alloc (.cells #[.string s] 9) = w0 at *
  refine (CB.out _).mono ?_
  rintro e wx ⟨rfl, hwx⟩; have hwx2 := hwx.symm; subst hwx2; clear hwx
  have h1 := D0
  obtain ⟨c0, c1, c2, c3, cf⟩ := FsAt.c h1
  have cn : w0.cell? ⟨w.heap.size, 0, none⟩ = some (.string s) := (cell_of_block hc0 0).trans rfl
  have lk : ∀ n, (Instr.lookup 64 (.map none) (.string s) false).run Try.prog (w0.drewN n) = .ok (.pointer none) (w0.drewN n) := fun n => Maps.look_nil (w := w0.drewN n) false keyS mapT (zeroP _) (WideMaps.keyOf_string_mk strT hsz)
  have ln : ∀ n ty, (Builtin.len_ #[64] ty #[.map none]).run Try.prog (w0.drewN n) = .ok (.int .i64 0) (w0.drewN n) := fun n ty => Maps.len_nil (w := w0.drewN n) mapT ty
  have RF : Hid (∀ n, Calls Try.prog 53 #[.pointer (some ⟨f, 0, none⟩)] (w0.drewN n) fun e w' => e = .returned (.bool false) ∧ w' = w0.drewN n) := fun n => refuses_no f q none (.slice none 0 0) (w0.drewN n) h1
  go_wp2_with fail
  go_quiet (fail)
  go_wp2_with fail
  refine (RF.out _).mono ?_
  rintro e wx ⟨rfl, hwx⟩; have hwx2 := hwx.symm; subst hwx2; clear hwx
  have B0' : Below base w (w0.drewN nq) := below_drewN B0 nq
  have F0 : FsAt (w0.drewN nq) f q none (.slice none 0 0) 0 := h1
  have hc0' : (w0.drewN nq).heap[w.heap.size]? = some (.cells #[.string s] 9 (0, 0)) := hc0
  have bs0 : base ≤ (w0.drewN nq).heap.size := Nat.le_trans bs B0'.size
  generalize w0.drewN nq = w00 at *
  clear lk ln RF c0 c1 c2 c3 cf cn h1 hc0 B0 D0
  obtain ⟨c0, c1, c2, c3, cf⟩ := F0.c
  have z := eqNilM
  have hmm := @run_makeMap Try.prog
  -- the world behind the making of the map
  obtain ⟨m, hmq⟩ : ∃ m, m = w00.heap.size := ⟨_, rfl⟩
  have hlt0 := lt_of_heap F0
  have F1 : FsAt ((w00.alloc (.map #[] 0)).setCell ⟨f, 1, none⟩ (.map (some w00.heap.size))) f q (some w00.heap.size) (.slice none 0 0) 0 := (block_setCell (i := 1) (v := .map (some w00.heap.size)) (FsAt.kept F0 (World.grownBy_alloc w00 (.map #[] 0) none) (by simp))).trans rfl
  have M1 : Mp ((w00.alloc (.map #[] 0)).setCell ⟨f, 1, none⟩ (.map (some w00.heap.size))) w00.heap.size [] := World.ownsMap.setCell (World.ownsMap_made w00 Try.prog 9 ptrR) (fun e => by have e : w00.heap.size = f := e; omega) _
  have B1 : Below base w ((w00.alloc (.map #[] 0)).setCell ⟨f, 1, none⟩ (.map (some w00.heap.size))) := (B0'.alloc bs0 _).setCell fge _
  have hc1 : ((w00.alloc (.map #[] 0)).setCell ⟨f, 1, none⟩ (.map (some w00.heap.size))).heap[w.heap.size]? = some (.cells #[.string s] 9 (0, 0)) := (heap_setCell_other _ _ _ _ (fun e => by
    have e : w.heap.size = f := e
    have h : w00.heap[f]? = some (.cells #[.string s] 9 (0, 0)) := by rw [← e]; exact hc0'
    unfold FsAt at F0
    rw [F0] at h; simp at h)).trans ((Below.heap_alloc _ _ _ (lt_of_heap hc0')).trans hc0')
  have bs1 : base ≤ ((w00.alloc (.map #[] 0)).setCell ⟨f, 1, none⟩ (.map (some w00.heap.size))).heap.size := by simp; omega
  have D1 : Hid (Disk ((w00.alloc (.map #[] 0)).setCell ⟨f, 1, none⟩ (.map (some w00.heap.size))) base f q w00.heap.size (A ++ B) us) := by
    subst hA hB hus
    exact ⟨bs1, fge, bs0, ⟨_, F1, World.ownsRow_nil _ _ _ _⟩, M1, ⟨fun x hx => by simp at hx, List.Pairwise.nil, List.Pairwise.nil⟩, fun u hu => by simp at hu⟩
  have R1 : ((w00.alloc (.map #[] 0)).setCell ⟨f, 1, none⟩ (.map (some w00.heap.size))).ownsRow base 72 1 (.slice none 0 0) us.length (us.map Un.val) := by
    subst hus; exact World.ownsRow_nil _ _ _ _
  have hEq := World.setCell_alloc_past (w := w00) (.map #[] 0) f 1 (.map (some w00.heap.size)) hlt0
  rw [hEq] at F1 M1 B1 hc1 bs1 D1 R1
  clear hEq
  go_wp2_with fail
  generalize (w00.setCell ⟨f, 1, none⟩ (.map (some w00.heap.size))).alloc (.map #[] 0) = w1 at *
  rw [← hmq] at F1 M1 D1 ⊢
  clear hmq z hmm c0 c1 c2 c3 cf F0 hc0' B0' bs0 bs1 hlt0 M1 hA hB hus
  obtain ⟨ov, hov⟩ : ∃ ov, ov = Value.slice none 0 0 := ⟨_, rfl⟩
  rw [← hov] at F1 R1
  clear hov
  obtain ⟨c0, c1, c2, c3, cf⟩ := F1.c
  have cn : w1.cell? ⟨w.heap.size, 0, none⟩ = some (.string s) := (cell_of_block hc1 0).trans rfl
  go_wp2_with fail
  refine wp_region_noPanic ?_
  refine wp_region_held_drew (S := fun w' => w'.cell? ⟨f, 1, none⟩ = some (.map (some m)) ∧ w'.cell? ⟨w.heap.size, 0, none⟩ = some (.string s)) (by kernel_rfl) ⟨c1, cn⟩ (fun hH => ?_)
  refine tKx (i := 0) (v := .pointer (some ⟨f, 0, none⟩)) rfl rfl (by kernel_rfl) (fun _ _ _ h => h) ?_ hH ?_
  · intro v hv; obtain ⟨hv1, hv2⟩ := hv; go_simp
  simp only [zA9, zB9, zC9]
  refine tKx (i := 1) (v := .pointer (some ⟨f, 0, none⟩)) rfl rfl (by kernel_rfl) (fun _ _ _ h => h) ?_ hH ?_
  · intro v hv; obtain ⟨hv1, hv2⟩ := hv; go_simp
  simp only [zA9, zB9, zC9]
  refine tKx (i := 2) (v := .pointer (some ⟨f, 1, none⟩)) rfl rfl (by kernel_rfl) (fun _ _ _ h => h) ?_ hH ?_
  · intro v hv; obtain ⟨hv1, hv2⟩ := hv; go_simp
  simp only [zA9, zB9, zC9]
  refine tKx (i := 3) (v := .map (some m)) rfl rfl (by kernel_rfl) (fun _ _ _ h => h) ?_ hH ?_
  · intro v hv; obtain ⟨hv1, hv2⟩ := hv; go_simp
  simp only [zA9, zB9, zC9]
  refine tKx (i := 4) (v := .string s) rfl rfl (by kernel_rfl) (fun _ _ _ h => h) ?_ hH ?_
  · intro v hv; obtain ⟨hv1, hv2⟩ := hv; go_simp
  simp only [zA9, zB9, zC9]
  refine tKx (i := 5) (v := .agg #[.slice none 0 0, .int .i64 0]) rfl rfl (by kernel_rfl) (fun _ _ _ h => h) ?_ hH ?_
  · intro v hv; obtain ⟨hv1, hv2⟩ := hv; go_simp
  simp only [zA9, zB9, zC9]
  refine wpAnyH_ready (rs := [6]) (by kernel_rfl) (by simp) ?_
  refine AllReadyH.cons rfl (fun K hK => ?_) AllReadyH.nil
  go_simp
  have hH2 : (fun w' : World => w'.cell? ⟨f, 1, none⟩ = some (.map (some m)) ∧ w'.cell? ⟨w.heap.size, 0, none⟩ = some (.string s)) (w1.alloc (.cells #[.slice none 0 0, .int .i64 0] 86)).drew := ⟨(World.grownBy_alloc w1 (.cells #[.slice none 0 0, .int .i64 0] 86) none).cell c1 (by simp), (World.grownBy_alloc w1 (.cells #[.slice none 0 0, .int .i64 0] 86) none).cell cn (by simp)⟩
  refine hK.out _ _ hH2 (fun _ => ?_)
  clear hK K hH
  have g2 : w1.grownBy (w1.alloc (.cells #[.slice none 0 0, .int .i64 0] 86)).drew none := by
    have h := World.grownBy_alloc w1 (.cells #[.slice none 0 0, .int .i64 0] 86) none
    exact ⟨h.os, h.tape, h.output, h.size, h.block⟩
  have y2 : (w1.alloc (.cells #[.slice none 0 0, .int .i64 0] 86)).drew.heap[w1.heap.size]? = some (.cells #[.slice none 0 0, .int .i64 0] 86 (0, 0)) := heap_alloc_new _ _
  generalize (w1.alloc (.cells #[.slice none 0 0, .int .i64 0] 86)).drew = w2 at *
  have D2 := D1.out.kept g2
  obtain ⟨w3, hrun, hown3, hturn⟩ := World.ownsMap.store (key := .string s) (val := .pointer (some ⟨w1.heap.size, 0, none⟩)) D2.mp keyS mapT (by simp; unfold maxLen; omega) (WideMaps.keyOf_string_mk strT hsz) (ptrR_mk w1.heap.size)
  rw [hput] at hown3
  have g3 := hturn.grown
  have hc13 : Chg (fun i => i = m) w1 w3 := (Chg.of_none g2 _).trans ((Chg.of_grown g3).mono (fun i _ e => by cases e; rfl))
  obtain ⟨es, ck, hmk⟩ := D1.out.mp.kind
  have nm : ∀ {b : Nat} {cs : Array Value} {t : TypeId} {fr : Nat × Nat}, w1.heap[b]? = some (.cells cs t fr) → ¬ b = m := fun h e => by rw [e, hmk] at h; cases h
  have F3 : FsAt w3 f q (some m) ov 0 := hc13.at_ F1 (nm F1)
  have R3 : w3.ownsRow base 72 1 ov us.length (us.map Un.val) := hc13.row R1 (fun g hg e => by obtain ⟨cs, hk⟩ := own_kind R1 g hg; exact nm hk e)
  have hc3 := hc13.at_ hc1 (nm hc1)
  obtain ⟨e0, e1, e2, e3, ef⟩ := F3.c
  have en : w3.cell? ⟨w.heap.size, 0, none⟩ = some (.string s) := (cell_of_block hc3 0).trans rfl
  refine wpAnyH_ready (rs := [7]) (by kernel_rfl) (by simp) ?_
  refine AllReadyH.cons rfl (fun K hK => ?_) AllReadyH.nil
  go_simp
  refine hK.out _ _ ⟨e1, en⟩ (fun _ => ?_)
  clear hK K
  refine wpAnyH_done (by kernel_rfl) ?_ _
  refine NoPanic.normal ?_
  obtain ⟨Po, Co, rfl⟩ := row_form R3
  have B3 : Below base w1 w3 := hc13.below D1.out.bs (fun i e => by subst e; exact D1.out.mge)
  have m3 : m ≠ w1.heap.size := fun e => by have := lt_of_heap hmk; omega
  have y3 : w3.heap[w1.heap.size]? = some (.cells #[.slice none 0 0, .int .i64 0] 86 (0, 0)) := (g3.block w1.heap.size (lt_of_heap y2) (by simp; exact fun e => m3 e.symm)).trans y2
  have Y3 : FlOk w3 base ⟨w1.heap.size, .slice none 0 0, [], 0⟩ := ⟨D1.out.bs, y3, ownsB_nil _ _, Nat.le_refl _, by simp⟩
  have L3 : Fls w3 base ((A ++ (s.data.toList, (⟨w1.heap.size, .slice none 0 0, [], 0⟩ : Fl)) :: B).map (·.2) ++ (us ++ [Un.cr w.heap.size s]).flatMap Un.lost) := by
    have h0 := hc13.files D1.out.fl (fun r e => by subst e; exact other_map hmk)
    have e0 : (A ++ B).map (·.2) ++ us.flatMap Un.lost = A.map (·.2) ++ (B.map (·.2) ++ us.flatMap Un.lost) := by simp
    have e1 : (A ++ (s.data.toList, (⟨w1.heap.size, .slice none 0 0, [], 0⟩ : Fl)) :: B).map (·.2) ++ (us ++ [Un.cr w.heap.size s]).flatMap Un.lost = A.map (·.2) ++ (⟨w1.heap.size, .slice none 0 0, [], 0⟩ : Fl) :: (B.map (·.2) ++ us.flatMap Un.lost) := by simp [Un.lost, Un.cr]
    rw [e1]
    rw [e0] at h0
    refine Fls.add (w := w3) h0 Y3 (fun x hx e => ?_) (fun x hx g hg e => by cases e) rfl
    have hx1 := D1.out.fl.ok x (by rw [e0]; exact hx)
    have := lt_of_heap hx1.at_
    have e : x.b = w1.heap.size := e
    omega
  have M3 : Mp w3 m (A ++ (s.data.toList, (⟨w1.heap.size, .slice none 0 0, [], 0⟩ : Fl)) :: B) := by
    have e : (A ++ (s.data.toList, (⟨w1.heap.size, .slice none 0 0, [], 0⟩ : Fl)) :: B).map ent = A.map ent ++ (.string s.data.toList, .lit (.int .i64 (w1.heap.size : Int))) :: B.map ent := by simp [ent]
    have := own_tight hown3
    unfold Mp
    rw [← e, List.length_map] at this
    exact this
  have U3 : ∀ u ∈ us ++ [Un.cr w.heap.size s], Un.ok w3 base u := fun u hu => by
    rw [List.mem_append] at hu
    rcases hu with hu | hu
    · exact hc13.un (D1.out.un u hu) (fun r e => by subst e; exact plainB_map hmk)
    · rw [List.mem_singleton] at hu; subst hu; exact ⟨hcb, hc3⟩
  have B13 := B1.trans B3
  have bs3 : base ≤ w3.heap.size := Nat.le_trans D1.out.bs B3.size
  have mge := D1.out.mge
  clear hturn hrun hown3 D1 D2 g2 g3 hc13 hmk nm F1 R1 y2 y3 Y3 hc1 hc3 c0 c1 c2 c3 cf cn hH2 d hput e0 e1 e3
  go_wp2_with (at_builtin; refine app_f rfl (.tmp 43) (.tmp 45) rfl base _ (Un.val (.cr w.heap.size s)) us.length _ rfl R3 rfl rfl (by omega) bs3 ?_; intro P4 C4 w4 h4 hc4 hl4; have F4 := hc4.at_ F3 (fun e => by obtain ⟨cs, hk⟩ := own_kind R3 _ e; unfold FsAt at F3; rw [F3] at hk; simp at hk); obtain ⟨k0, k1, k2, k3, kf⟩ := FsAt.c F4)
  go_ret
  have := opened F3 R3 M3 L3 U3 fge mge bs3 h4 hc4
  exact ⟨rfl, m, w1.heap.size, w.heap.size, this.1, B13.trans this.2⟩
theorem Create_nil (base f : Nat) (q : Int) (s : ByteArray) (w : World) (d : FsAt w f q none (.slice none 0 0) 0) (fge : base ≤ f) (bs : base ≤ w.heap.size) (hs : okN s) :
    Calls Try.prog 29 #[.pointer (some ⟨f, 0, none⟩), .string s] w fun e w' => e = .returned (.int .i64 0) ∧ ∃ m b c, Disk w' base f q m [(s.data.toList, ⟨b, .slice none 0 0, [], 0⟩)] [.cr c s] ∧ Below base w w' :=
  Create_nil0 base f q s [] [] [] w d fge bs hs rfl rfl rfl
end Go.Proofs.Ytdiehlioemmakaa

namespace Go.Proofs.Ytdiehlioemmakaa
open Go.RowKit Go.Maps Go.Joins

set_option maxHeartbeats 4000000 in
set_option maxRecDepth 1000000 in
theorem copied_ok (base : Nat) (X : Fl) (w : World) (okX : FlOk w base X) (hb : base ≤ w.heap.size) :
    Calls Try.prog 27 #[.pointer (some ⟨X.b, 0, none⟩)] w fun e w' => ∃ b v, e = .returned (.pointer (some ⟨b, 0, none⟩)) ∧ w.heap.size ≤ b ∧ FlOk w' base ⟨b, v, X.l, X.k⟩ ∧ (∀ g, v.ownBlock = some g → w.heap.size ≤ g) ∧ w.grownBy w' none := by
  obtain ⟨P, C, hP⟩ := okX.form
  obtain ⟨c0, c1, cf⟩ := okX.c
  have CL : Hid (Calls Try.prog 61 #[X.v] w.drew fun e w' => ∃ v', e = .returned v' ∧ ownsB w' w.heap.size v' X.l ∧ w.grownBy w' none) := by
    refine (Clone_any base X.v X.l w.drew okX.row okX.ll).mono ?_
    rintro e w' ⟨v', rfl, ho, hg⟩
    exact ⟨v', rfl, ho, ⟨hg.os, hg.tape, hg.output, hg.size, hg.block⟩⟩
  rw [hP] at c0 CL
  have kl := okX.kl
  have ll := okX.ll
  clear okX hP cf
  go_enter Try.func27, Try.ntmps27
  go_wp2_with fail
  refine wp_region_noPanic ?_
  refine wp_region_held_drew (S := fun w' => w'.cell? ⟨X.b, 0, none⟩ = some (.slice P X.l.length C) ∧ w'.cell? ⟨X.b, 1, none⟩ = some (.int .i64 (X.k : Int))) (by kernel_rfl) ⟨c0, c1⟩ (fun hH => ?_)
  refine tKx (i := 0) (v := .pointer (some ⟨X.b, 0, none⟩)) rfl rfl (by kernel_rfl) (fun _ _ _ h => h) ?_ hH ?_
  · intro v hv; obtain ⟨hv1, hv2⟩ := hv; go_simp
  simp only [zA9, zB9, zC9]
  refine tKx (i := 1) (v := .pointer (some ⟨X.b, 0, none⟩)) rfl rfl (by kernel_rfl) (fun _ _ _ h => h) ?_ hH ?_
  · intro v hv; obtain ⟨hv1, hv2⟩ := hv; go_simp
  simp only [zA9, zB9, zC9]
  refine tKx (i := 2) (v := .pointer (some ⟨X.b, 0, none⟩)) rfl rfl (by kernel_rfl) (fun _ _ _ h => h) ?_ hH ?_
  · intro v hv; obtain ⟨hv1, hv2⟩ := hv; go_simp
  simp only [zA9, zB9, zC9]
  refine tKx (i := 3) (v := .slice P X.l.length C) rfl rfl (by kernel_rfl) (fun _ _ _ h => h) ?_ hH ?_
  · intro v hv; obtain ⟨hv1, hv2⟩ := hv; go_simp
  simp only [zA9, zB9, zC9]
  refine tKx (i := 5) (v := .pointer (some ⟨X.b, 0, none⟩)) rfl rfl (by kernel_rfl) (fun _ _ _ h => h) ?_ hH ?_
  · intro v hv; obtain ⟨hv1, hv2⟩ := hv; go_simp
  simp only [zA9, zB9, zC9]
  refine tKx (i := 6) (v := .pointer (some ⟨X.b, 0, none⟩)) rfl rfl (by kernel_rfl) (fun _ _ _ h => h) ?_ hH ?_
  · intro v hv; obtain ⟨hv1, hv2⟩ := hv; go_simp
  simp only [zA9, zB9, zC9]
  refine tKx (i := 7) (v := .pointer (some ⟨X.b, 1, none⟩)) rfl rfl (by kernel_rfl) (fun _ _ _ h => h) ?_ hH ?_
  · intro v hv; obtain ⟨hv1, hv2⟩ := hv; go_simp
  simp only [zA9, zB9, zC9]
  refine tKx (i := 8) (v := .int .i64 (X.k : Int)) rfl rfl (by kernel_rfl) (fun _ _ _ h => h) ?_ hH ?_
  · intro v hv; obtain ⟨hv1, hv2⟩ := hv; go_simp
  simp only [zA9, zB9, zC9]
  refine wpAnyH_ready (rs := [4]) (by kernel_rfl) (by simp) ?_
  refine AllReadyH.cons rfl (fun K hK => ?_) AllReadyH.nil
  go_simp
  go_at_call 61
  refine CL.out.mono ?_
  rintro e w2 ⟨v2, rfl, ho2, hg2⟩
  obtain ⟨P2, C2, rfl⟩ := own_form ho2
  go_wp2_with fail
  have hH2 : (fun w' : World => w'.cell? ⟨X.b, 0, none⟩ = some (.slice P X.l.length C) ∧ w'.cell? ⟨X.b, 1, none⟩ = some (.int .i64 (X.k : Int))) w2 := ⟨hg2.cell c0 (by simp), hg2.cell c1 (by simp)⟩
  refine hK.out _ _ hH2 (fun _ => ?_)
  clear hK K hH
  have hH := hH2
  refine tKx (i := 9) (v := .agg #[.slice P2 X.l.length C2, .int .i64 (X.k : Int)]) rfl rfl (by kernel_rfl) (fun _ _ _ h => h) ?_ hH ?_
  · intro v hv; obtain ⟨hv1, hv2⟩ := hv; go_simp
  simp only [zA9, zB9, zC9]
  refine wpAnyH_ready (rs := [10]) (by kernel_rfl) (by simp) ?_
  refine AllReadyH.cons rfl (fun K hK => ?_) AllReadyH.nil
  go_simp
  have hH3 : (fun w' : World => w'.cell? ⟨X.b, 0, none⟩ = some (.slice P X.l.length C) ∧ w'.cell? ⟨X.b, 1, none⟩ = some (.int .i64 (X.k : Int))) (w2.alloc (.cells #[.slice P2 X.l.length C2, .int .i64 (X.k : Int)] 86)) := ⟨(World.grownBy_alloc w2 _ none).cell hH2.1 (by simp), (World.grownBy_alloc w2 _ none).cell hH2.2 (by simp)⟩
  refine hK.out _ _ hH3 (fun _ => ?_)
  clear hK K hH hH2
  have hH := hH3
  refine tKx (i := 11) (v := .pointer (some ⟨w2.heap.size, 0, none⟩)) rfl rfl (by kernel_rfl) (fun _ _ _ h => h) ?_ hH ?_
  · intro v hv; obtain ⟨hv1, hv2⟩ := hv; go_simp
  simp only [zA9, zB9, zC9]
  refine wpAnyH_done (by kernel_rfl) ?_ _
  refine NoPanic.normal ?_
  go_wp2_with fail
  go_ret
  have g3 := World.grownBy_alloc w2 (.cells #[.slice P2 X.l.length C2, .int .i64 (X.k : Int)] 86) none
  refine ⟨w2.heap.size, rfl, hg2.size, .slice P2 X.l.length C2, ⟨Nat.le_trans hb hg2.size, heap_alloc_new _ _, ?_, kl, ll⟩, own_ge ho2, hg2.trans g3⟩
  exact ownsRow_le (World.ownsRow.kept ho2 g3 (by cases h : (Value.slice P2 X.l.length C2).ownBlock <;> simp)) hb

/-- files fewer -/
theorem Fls.sub {w : World} {base : Nat} {xs ys : List Fl} (h : Fls w base xs) (hs : ys.Sublist xs) : Fls w base ys := ⟨fun x hx => h.ok x (hs.subset hx), h.nb.sublist hs, h.nv.sublist hs⟩

end Go.Proofs.Ytdiehlioemmakaa

namespace Go.Proofs.Ytdiehlioemmakaa
open Go.RowKit Go.Maps Go.Joins

theorem Fls.perm {w : World} {base : Nat} {xs ys : List Fl} (h : Fls w base xs) (hp : xs.Perm ys) : Fls w base ys :=
  ⟨fun x hx => h.ok x (hp.mem_iff.2 hx), (hp.pairwise_iff (fun hab e => hab e.symm)).1 h.nb, (hp.pairwise_iff (fun hab g hg e => hab g e hg)).1 h.nv⟩
end Go.Proofs.Ytdiehlioemmakaa

namespace Go.Proofs.Ytdiehlioemmakaa
open Go.RowKit Go.Maps Go.Joins

end Go.Proofs.Ytdiehlioemmakaa

