/-
  Walks: a packet that flies.
-/
import Derived.Test.YtbdlamlplfogjaaNtD
import Derived.Deep.RegionLaw
namespace Go.Proofs.Ytbdlamlplfogjaa
open Go.RowKit Go.Maps Go.Joins
variable {P : Nat → Prop} {w w' : World} {n c : Nat} {S : St} {L : Ly}

/-- the net behind a call that changes nothing but what is on the way, and where that lies -/
def UpF (P : Nat → Prop) (w : World) (n c : Nat) (S : St) (L : Ly) (w' : World) : Prop := ∃ fv, NetL (ext P w w') w' n c S { L with fv := fv } ∧ Chg P w w'
/-- the net behind a call -/
def UpN (P : Nat → Prop) (w : World) (n c : Nat) (S : St) (w' : World) : Prop := ∃ L, NetL (ext P w w') w' n c S L ∧ Chg P w w'
theorem UpF.up (h : UpF P w n c S L w') : UpN P w n c S w' := by obtain ⟨fv, h1, h2⟩ := h; exact ⟨_, h1, h2⟩
theorem one_of {l : List Value} {g : Nat} {t : TypeId} (h : w.heap[g]? = some (.cells l.toArray t (0, 0))) : ∀ j u, l[j]? = some u → w.cell? ((⟨g, 0, none⟩ : Addr).add j) = some u := by
  intro j u hj
  rw [add_plain, Nat.zero_add]
  exact (cell_of_block h j).trans (by simpa using hj)
theorem pkL_one (p : Pk) : ∀ u ∈ pkL p, u.oneCell' = true := by
  intro u hu
  simp only [pkL, List.mem_cons, List.mem_nil_iff, or_false] at hu
  rcases hu with rfl | rfl | rfl | rfl | rfl | rfl <;> rfl
theorem grown_al2 (w : World) (o p : Obj) : w.grownBy ((w.alloc o).alloc p).drew none := grown_drew (grown_none_trans (World.grownBy_alloc w o none) (World.grownBy_alloc _ p none))
theorem step_app (t : TypeId) {ops : Array Oper} {o : Oper} {a : Act} {w : World} {K : Act → World → Prop} {Q : Exit → Act → World → Prop} {E : Prop} (hgd : o.guard = none) (s x : Operand) (ho : o.op = .call { callee := .builtin .append, args := #[s, x], argTypes := #[t, t] })
    {v y v' : Value} {w' : World} (hs : a.eval s = v) (hx : a.eval x = y) (hr : ∀ ty, (Builtin.append_ #[t, t] ty #[v, y]).run Try.prog w = .ok v' w') (h : K (a.put o.dst v') w') : if Region.wanted o (yielded ops a.tmps) = true then Oper.wp Try.prog o a w K Q else E := by
  have hwd : Region.wanted o (yielded ops a.tmps) = true := by simp [Region.wanted, hgd]
  rw [if_pos hwd]
  unfold Oper.wp execOp
  simp only [ho, resolve, invoke, builtin, Sem.run_bind, Sem.run_pure, Result.andThen_ok, List.map_toArray, List.map_cons, List.map_nil, hs, hx, hr]
  exact h
theorem wp_app (t : TypeId) {ops : Array Oper} {rest : List Oper} {o : Oper} {a : Act} {w : World} {Q : Exit → Act → World → Prop} (hgd : o.guard = none) (s x : Operand) (ho : o.op = .call { callee := .builtin .append, args := #[s, x], argTypes := #[t, t] })
    {v y v' : Value} {w' : World} (hs : a.eval s = v) (hx : a.eval x = y) (hr : ∀ ty, (Builtin.append_ #[t, t] ty #[v, y]).run Try.prog w = .ok v' w') (h : wpList Try.prog ops Q rest (a.put o.dst v') w') : wpList Try.prog ops Q (o :: rest) a w := by
  refine wpList_plain hgd fun K hK => ?_
  unfold Oper.wp execOp
  simp only [ho, resolve, invoke, builtin, Sem.run_bind, Sem.run_pure, Result.andThen_ok, List.map_toArray, List.map_cons, List.map_nil, hs, hx, hr]
  exact hK _ _ h
/-- the append of a packet, laid ahead -/
theorem NetL.fly_run (h : NetL P w n c S L) (p : Pk) (hl : S.fl.length < 4096) {W : World} (hW : w.grownBy W none) {g : Nat} (hg : W.heap[g]? = some (.cells (pkL p).toArray 79 (0, 0))) :
    ∃ v' w', (∀ ty, (Builtin.append_ #[71, 71] ty #[L.fv, .slice (some ⟨g, 0, none⟩) 1 1]).run Try.prog W = .ok v' w') ∧
      w'.cell? ⟨n, 2, none⟩ = some L.fv ∧ w'.frozen? ⟨n, 2, none⟩ = false ∧ (∃ p' c', v' = .slice p' (S.fl.length + 1) c') ∧ NetL (ext P w (w'.setCell ⟨n, 2, none⟩ v')) (w'.setCell ⟨n, 2, none⟩ v') n c { S with fl := S.fl ++ [p] } { L with fv := v' } ∧ Chg P w (w'.setCell ⟨n, 2, none⟩ v') := by
  have h' := h.kept hW
  obtain ⟨v', w', hr, hs, hgr, hbl⟩ := rwP.app (c := 1) h'.fly (m := 1) (news := pkL p) (by simp [pkL]) (one_of hg) (pkL_one p) (by omega) (by omega)
  have hne : some n ≠ L.fv.ownBlock := fun e => by
    have := (h'.fly.kd n e.symm).1
    rw [h'.kn] at this; simp at this
  have hn : w'.heap[n]? = _ := (hgr.block n (lt_of_heap h'.net) hne).trans h'.net
  have hset := grown_setCell w' ⟨n, 2, none⟩ v'
  have hn2 : (w'.setCell ⟨n, 2, none⟩ v').heap[n]? = some (.cells #[.slice (some ⟨L.nb, 0, none⟩) S.N L.ncap, .map (some L.m), v'] 73 (0, 0)) := (block_setCell hn _).trans rfl
  have hne2 : ∀ g, v'.ownBlock = some g → g ≠ n := fun g hg e => by
    subst e
    have := (hs.kd g hg).1
    rw [kd_cells hn] at this; simp at this
  have C : Chg (fun i => i = n ∨ L.fv.ownBlock = some i) w (w'.setCell ⟨n, 2, none⟩ v') := by
    refine (Chg.of_none hW _).trans (((Chg.of_grown hgr).mono (fun i _ hi => Or.inr hi)).trans ((Chg.of_cell w' ⟨n, 2, none⟩ v').mono (fun i _ hi => Or.inl hi)))
  have fin := h.flights C (fun i hi => hi) (fv := v') (fl := S.fl ++ [p]) hn2 (by
    have := hs.kept (Chg.of_cell w' ⟨n, 2, none⟩ v') (fun g hg => hne2 g hg)
    rw [pkC_app, List.length_append]
    simpa [pkC] using this) (fun g hg => by
    rcases hbl with e | ⟨g', e, h1, h2⟩
    · exact Or.inl (by rw [← e]; exact hg)
    · rw [hg] at e; cases e
      refine Or.inr ⟨Nat.le_trans hW.size h1, Nat.lt_of_lt_of_le h2 hset.size⟩)
  obtain ⟨p', c', h1c, _⟩ := hs.form
  exact ⟨v', w', hr, (cell_of_block hn 2).trans rfl, unfrozen_of_block hn 2, ⟨p', c', h1c⟩, fin.1, fin.2⟩
set_option maxHeartbeats 1000000 in
set_option maxRecDepth 100000 in
theorem fly_room (h : NetL P w n c S L) (p : Pk) (hl : S.fl.length < 4096) : Calls Try.prog 48 #[.pointer (some ⟨n, 0, none⟩), pkV p] w fun e w' => e = .returned (.tuple #[]) ∧ UpF P w n c { S with fl := S.fl ++ [p] } L w' := by
  obtain ⟨c0, c1, c2, cf⟩ := h.cs
  have hf2 := cf 2
  have hn := lt_of_heap h.net
  have hl2 : (S.fl.length : Int) < 4096 := by omega
  have g0 : w.grownBy (((w.alloc (.cells (pkL p).toArray 79)).alloc (.cells (pkL p).toArray 79)).drew) none := grown_al2 _ _ _
  obtain ⟨v', w', hr, k1, k2, ⟨p', c', rfl⟩, k4, k5⟩ := h.fly_run p hl g0 (g := w.heap.size + 1) (by
    have := heap_alloc_new (w.alloc (.cells (pkL p).toArray 79)) (.cells (pkL p).toArray 79)
    rw [World.size_alloc] at this
    exact this)
  have K4 := mkHid k4
  have K5 := mkHid k5
  obtain ⟨pf, cap, hfv, _⟩ := h.fly.form
  rw [hfv] at c2 hr k1
  unfold pkV
  unfold pkL at hr
  clear cf h g0 k4 k5 hfv
  go_enter Try.func48, Try.ntmps48
  go_wp2_with fail
  go_region_law (refine step_app 71 rfl _ _ rfl rfl rfl hr ?_)
  all_goals
    go_wp2_with fail
    go_end0
    exact ⟨rfl, _, K4.out, K5.out⟩
/-- a packet that is sent, if there is room -/
def flyS (S : St) (p : Pk) : St := if S.fl.length < 4096 then { S with fl := S.fl ++ [p] } else S
set_option maxHeartbeats 1000000 in
set_option maxRecDepth 100000 in
theorem fly_any (h : NetL P w n c S L) (p : Pk) : Calls Try.prog 48 #[.pointer (some ⟨n, 0, none⟩), pkV p] w fun e w' => e = .returned (.tuple #[]) ∧ UpF P w n c (flyS S p) L w' := by
  by_cases hl : S.fl.length < 4096
  · have e : flyS S p = { S with fl := S.fl ++ [p] } := if_pos hl
    rw [e]; exact fly_room h p hl
  · have e : flyS S p = S := if_neg hl
    rw [e]
    obtain ⟨c0, c1, c2, cf⟩ := h.cs
    have hn := lt_of_heap h.net
    have hl2 : ¬ (S.fl.length : Int) < 4096 := by omega
    obtain ⟨pf, cap, hfv, _⟩ := h.fly.form
    rw [hfv] at c2
    have H := mkHid h
    unfold pkV
    clear cf h hfv e
    go_enter Try.func48, Try.ntmps48
    go_wp2_with fail
    go_end0
    have g1 := World.grownBy_alloc w (.cells #[.int .i64 p.f, .int .i64 p.t, .bool p.ack, .int .u64 p.s, .int .u64 p.e, .string p.x] 79) none
    exact ⟨rfl, L.fv, (H.out.kept g1).more (fun _ => ext_le) (ext_pb H.out.pb g1.size), Chg.of_none g1 _⟩
end Go.Proofs.Ytbdlamlplfogjaa
