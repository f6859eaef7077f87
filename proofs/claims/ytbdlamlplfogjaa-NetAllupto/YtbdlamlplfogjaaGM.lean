/-
  Walks: a new network; the document's; a place among so many; bytes of one's own.
-/
import Derived.Test.YtbdlamlplfogjaaNtT
import Derived.Test.YtbdlamlplfogjaaNtU
import Derived.Test.YtbdlamlplfogjaaNtV
namespace Go.Proofs.Ytbdlamlplfogjaa
open Go.RowKit Go.Maps Go.Joins
variable {P : Nat → Prop} {w w' : World} {n c : Nat} {S : St} {L : Ly}

/-- a net of nodes that nothing has come to -/
def st0 (N : Nat) : St := ⟨N, fun _ => false, fun _ => [], fun _ _ => ⟨0, 0, 0, []⟩, []⟩
/-- all that is new -/
def newP (w w' : World) : Nat → Prop := fun i => w.heap.size ≤ i ∧ i < w'.heap.size
theorem made_get (z : Array Value) (k j : Nat) (h : j < k) (h0 : 0 < z.size) : (madeCells z k)[j]? = z[j % z.size]? := by
  have hm : j % z.size < z.size := Nat.mod_lt _ h0
  have e : z[j % z.size]! = z[j % z.size]'hm := getElem!_pos z (j % z.size) hm
  simp [madeCells, h, e, Array.getElem?_eq_getElem hm]
theorem Wm_mk (w : World) {N : Nat} (hN : N ≤ 64) : Wm (w.alloc (.map #[] 0)) w.heap.size 0 N (fun _ _ => zW) := ⟨0, _, World.ownsMap_made w _ _ _, Nat.le_refl _, hN, (fun kl h => by simp [Maps.has_eq] at h), fun _ _ _ _ => rfl⟩
/-- a make of a row, laid ahead -/
theorem Rw.make {t e : TypeId} {z : Value} {sz by' : Nat} (R : Rw t e z sz by') (w : World) (k : Nat) (hk : k ≤ 1000000000) : ∃ w' cur, (Instr.makeSlice t (.int .i64 (k : Int)) (.int .i64 (k : Int))).run Try.prog w = .ok (.slice (some ⟨w.heap.size, 0, none⟩) k k) w' ∧ w'.heap[w.heap.size]? = some (.cells cur e (0, 0)) ∧ cur.size = k * sz ∧ (∀ j, j < k * sz → cur[j]? = z.cells[j % sz]?) ∧ w.grownBy w' none := by
  obtain ⟨i, hi, hz, hs, hb⟩ := info_parts R.inf
  have hsm := R.sm
  have hbb : i.bytes * k ≤ 281474976710656 := by
    have : i.bytes * k ≤ 64 * 1000000000 := Nat.mul_le_mul (by omega) hk
    omega
  obtain ⟨w', hr, ho, hg⟩ := run_make_full (P := Try.prog) w w.heap.size t e i z sz R.sl hi hz hs .i64 .i64 k hbb (by unfold maxLen; omega) (Nat.le_refl _)
  rcases ho.2 with ⟨e1, _⟩ | ⟨g, cap, cur, e1, _, hc, hn, _, hsz, ht⟩
  · cases e1
  · cases e1
    refine ⟨w', cur, hr, hc, hsz, fun j hj => ?_, hg⟩
    have : cur.toList = (madeCells z.cells (k * sz)).toList := by
      rw [← ht, List.take_of_length_le (by rw [Array.length_toList]; omega)]
    have e2 : cur = madeCells z.cells (k * sz) := Array.toList_inj.1 this
    rw [e2, made_get _ _ _ hj (by rw [R.zs]; exact R.pos), R.zs]
theorem wp_make (t : TypeId) {ops : Array Oper} {rest : List Oper} {o : Oper} {a : Act} {w : World} {Q : Exit → Act → World → Prop} (hgd : o.guard = none) (l c : Operand) (ho : o.op = .makeSlice t l c)
    {v y v' : Value} {w' : World} (hs : a.eval l = v) (hx : a.eval c = y) (hr : (Instr.makeSlice t v y).run Try.prog w = .ok v' w') (h : wpList Try.prog ops Q rest (a.put o.dst v') w') : wpList Try.prog ops Q (o :: rest) a w := by
  refine wpList_plain hgd fun K hK => ?_
  unfold Oper.wp
  simp [execOp, ho, hs, hx, hr, Result.andThen]
  exact hK _ _ h
theorem mkMap (w : World) : (Instr.makeMap 70 none).run Try.prog w = .ok (.map (some w.heap.size)) (w.alloc (.map #[] 0)) := by kernel_rfl
/-- what New answers -/
def NwQ (w : World) (N : Nat) (r : Ending) (w' : World) : Prop := ∃ n L, r = .returned (.tuple #[.pointer (some ⟨n, 0, none⟩), .int .i64 0]) ∧ NetL (newP w w') w' n 0 (st0 N) L ∧ w.grownBy w' none
set_option maxHeartbeats 1000000 in
set_option maxRecDepth 100000 in
theorem New_ok (N : Nat) (h1 : 1 ≤ N) (h64 : N ≤ 64) : Calls Try.prog 24 #[.int .i64 N] w (NwQ w N) := by
  obtain ⟨w1, cur, hr, hb, hsz, hcs, hg⟩ := rwN.make w N (by omega)
  have i1 : ¬ (N : Int) < 1 := by omega
  have i2 : ¬ (64 : Int) < (N : Int) := by omega
  have FN : Hid (∃ L, NetL (newP w ((w1.alloc (.map #[] 0)).alloc (.cells #[.slice (some ⟨w.heap.size, 0, none⟩) N N, .map (some w1.heap.size), .slice none 0 0] 73))) ((w1.alloc (.map #[] 0)).alloc (.cells #[.slice (some ⟨w.heap.size, 0, none⟩) N N, .map (some w1.heap.size), .slice none 0 0] 73)) (w1.heap.size + 1) 0 (st0 N) L) := by
    have lt1 := lt_of_heap hb
    have ss : ((w1.alloc (.map #[] 0)).alloc (.cells #[.slice (some ⟨w.heap.size, 0, none⟩) N N, .map (some w1.heap.size), .slice none 0 0] 73)).heap.size = w1.heap.size + 2 := by simp
    have g2 := grown_al (World.grownBy_alloc w1 (.map #[] 0) none) (.cells #[.slice (some ⟨w.heap.size, 0, none⟩) N N, .map (some w1.heap.size), .slice none 0 0] 73)
    refine ⟨⟨w.heap.size, N, w1.heap.size, .slice none 0 0, fun _ => .slice none 0 0, fun _ _ => .slice none 0 0⟩, fun i hi => hi.2, ⟨by omega, by omega⟩, ⟨Nat.le_refl _, show w.heap.size < _ by omega⟩, ⟨hg.size, show w1.heap.size < _ by omega⟩, h1, h64, al2_snd w1 _ _, ⟨cur, box_keep hb g2 (by simp), Nat.le_refl _, show N ≤ maxLen by unfold maxLen; omega, hsz, fun i hi => ?_⟩, fun i hi => shr_nil _ _ _, fun i hi g hgg => by simp [Value.ownBlock] at hgg, fun i j hi hj hne g hgg => by simp [Value.ownBlock] at hgg, (Wm_mk w1 h64).kept (Chg.of_alloc _ _ (fun _ => False)) (fun e => e), fun i j hi hj => shr_nil _ _ _, fun i j hi hj g hgg => by simp [Value.ownBlock] at hgg, fun i j k l hi hj hk hl hne g hgg => by simp [Value.ownBlock] at hgg, shr_nil _ _ _, fun g hgg => by simp [Value.ownBlock] at hgg⟩
    have hi : i < N := hi
    have a0 := hcs (i * 2) (by omega)
    have a1 := hcs (i * 2 + 1) (by omega)
    rw [show i * 2 % 2 = 0 by omega] at a0
    rw [show (i * 2 + 1) % 2 = 1 by omega] at a1
    exact ⟨a0, a1⟩
  have HG := mkHid hg
  have mm := mkMap w1
  clear hb hsz hcs hg
  go_enter Try.func24, Try.ntmps24
  go_wp2_with (first | (at_make; refine wp_make 65 rfl (.tmp 10) (.tmp 10) rfl rfl rfl hr ?_) | fail)
  go_ret2
  obtain ⟨L, hL⟩ := FN.out
  exact ⟨_, L, rfl, hL, grown_al (grown_al HG.out _) _⟩
set_option maxHeartbeats 1000000 in
set_option maxRecDepth 100000 in
theorem New_bad (N : Int) (h : N < 1 ∨ 64 < N) : Calls Try.prog 24 #[.int .i64 N] w fun e w' => e = .returned (.tuple #[.pointer none, .int .i64 1]) ∧ w' = w := by
  by_cases h1 : N < 1
  · go_enter Try.func24, Try.ntmps24
    go_wp2_with fail
    go_ret2
    exact ⟨rfl, rfl⟩
  · have h2 : 64 < N := by omega
    clear h
    go_enter Try.func24, Try.ntmps24
    go_wp2_with fail
    go_ret2
    exact ⟨rfl, rfl⟩
set_option maxHeartbeats 1000000 in
set_option maxRecDepth 100000 in
theorem refNew_bad (N : Int) (h : N < 1 ∨ 64 < N) : Calls Try.prog 25 #[.int .i64 N] w fun e w' => e = .returned (.tuple #[.pointer none, .int .i64 1]) ∧ w' = w := by
  by_cases h1 : N < 1
  · go_enter Try.func25, Try.ntmps25
    go_wp2_with fail
    go_ret2
    exact ⟨rfl, rfl⟩
  · have h2 : 64 < N := by omega
    clear h
    go_enter Try.func25, Try.ntmps25
    go_wp2_with fail
    go_ret2
    exact ⟨rfl, rfl⟩
end Go.Proofs.Ytbdlamlplfogjaa
namespace Go.Proofs.Ytbdlamlplfogjaa
open Go.RowKit Go.Maps Go.Joins
variable {P : Nat → Prop} {w w' : World} {n c : Nat} {S : St} {L : Ly}

theorem rwBo : Rw 86 4 (.bool false) 1 1 := ⟨by kernel_rfl, by kernel_rfl, rfl, by decide, by decide⟩
theorem rwMM : Rw 88 94 (.slice none 0 0) 1 24 := ⟨by kernel_rfl, by kernel_rfl, rfl, by decide, by decide⟩
theorem rwWW : Rw 87 91 (.slice none 0 0) 1 24 := ⟨by kernel_rfl, by kernel_rfl, rfl, by decide, by decide⟩
theorem rwWa : Rw 91 108 (.agg #[.int .u64 0, .slice none 0 0, .int .i64 0, .int .i64 0]) 4 48 := ⟨by kernel_rfl, by kernel_rfl, rfl, by decide, by decide⟩
/-- a row whose cells do not matter, in memory that is new -/
def anyRow (w : World) (e : TypeId) (sz k : Nat) (v : Value) (wr : World) : Prop := (∃ xs, shr wr e sz v k xs) ∧ ∀ g, v.ownBlock = some g → w.heap.size ≤ g
theorem anyRow.kept {e : TypeId} {sz k : Nat} {v : Value} {wr w5 : World} {C : Nat → Prop} (h : anyRow w e sz k v wr) (hc : Chg C wr w5) (hn : ∀ b, kd wr b = e + 2 → ¬ C b) : anyRow w e sz k v w5 := by
  obtain ⟨⟨xs, hs⟩, ho⟩ := h
  exact ⟨⟨xs, hs.kept hc (fun g hg => hn g (hs.kd g hg).1)⟩, ho⟩
/-- the document's net while it is being made -/
structure RfN (w : World) (d k1 k2 k3 : Nat) (v1 v2 v3 : Value) (wr : World) : Prop where
  gr : w.grownBy wr none
  od : w.heap.size ≤ d
  net : wr.heap[d]? = some (.cells #[v1, v2, v3, .slice none 0 0] 90 (0, 0))
  r1 : anyRow w 4 1 k1 v1 wr
  r2 : anyRow w 91 1 k2 v2 wr
  r3 : anyRow w 94 1 k3 v3 wr
theorem RfN.kept {d k1 k2 k3 : Nat} {v1 v2 v3 : Value} {wr w5 : World} (h : RfN w d k1 k2 k3 v1 v2 v3 wr) (hg : wr.grownBy w5 none) : RfN w d k1 k2 k3 v1 v2 v3 w5 := by
  have hc := Chg.of_none hg (fun _ => False)
  exact ⟨grown_none_trans h.gr hg, h.od, box_keep h.net hg (by simp), h.r1.kept hc (fun _ _ e => e), h.r2.kept hc (fun _ _ e => e), h.r3.kept hc (fun _ _ e => e)⟩
/-- an element behind a row in new memory, laid ahead -/
theorem Rw.push {t e : TypeId} {z : Value} {sz by' : Nat} (R : Rw t e z sz by') {k : Nat} {v : Value} {wr : World} (gr : w.grownBy wr none) (h : anyRow w e sz k v wr) (news : List Value) (hn : news.length = sz) (h1 : ∀ u ∈ news, u.oneCell' = true) (hk : k ≤ 1000) :
    ∃ p' c' w4, (∀ ty, (Builtin.append_ #[t, t] ty #[v, .slice (some ⟨wr.heap.size, 0, none⟩) 1 1]).run Try.prog (wr.alloc (.cells news.toArray e)) = .ok (.slice p' (k + 1) c') w4) ∧ anyRow w e sz (k + 1) (.slice p' (k + 1) c') w4 ∧ w.grownBy w4 none ∧ (∀ b o, wr.heap[b]? = some o → kd wr b ≠ e + 2 → w4.heap[b]? = some o) ∧ (∀ {e2 : TypeId} {s2 k2 : Nat} {v2 : Value}, anyRow w e2 s2 k2 v2 wr → e2 ≠ e → anyRow w e2 s2 k2 v2 w4) := by
  obtain ⟨⟨xs, hs⟩, ho⟩ := h
  have ga := World.grownBy_alloc wr (.cells news.toArray e) none
  have hs' := hs.kept (Chg.of_none ga (fun _ => False)) (fun _ _ e => e)
  obtain ⟨v', w4, hr, s4, g4, o4⟩ := R.app (c := 1) hs' (m := 1) (news := news) (by omega) (one_of (heap_alloc_new wr _)) h1 (by omega) (by omega)
  obtain ⟨p', c', rfl, _⟩ := s4.form
  have gg : w.grownBy w4 none := grown_new (grown_none_trans gr ga) g4 ho
  refine ⟨p', c', w4, hr, ⟨⟨_, s4⟩, fun g hg => ?_⟩, gg, fun b o hb hk => ?_, fun {e2 s2 k2 v2} h2 hne => ?_⟩
  · rcases o4 with e | ⟨g', e, h2, _⟩
    · exact ho g (by rw [← e]; exact hg)
    · rw [hg] at e; cases e
      exact Nat.le_trans (grown_none_trans gr ga).size h2
  · exact box_keep (box_keep hb ga (by simp)) g4 (fun e => hk (hs.kd b e.symm).1)
  · have := h2.kept (Chg.of_none ga (fun _ => False)) (fun _ _ e => e)
    refine this.kept (Chg.of_grown g4) (fun b hb e => ?_)
    exact hne (Nat.add_right_cancel (hb.symm.trans (hs'.kd b e).1))
theorem RfN.There {d k1 k2 k3 : Nat} {v1 v2 v3 : Value} {wr : World} (h : RfN w d k1 k2 k3 v1 v2 v3 wr) (u : Value) (hu : u.oneCell' = true) (hk : k1 ≤ 1000) :
    ∃ p' c' w4, (∀ ty, (Builtin.append_ #[86, 86] ty #[v1, .slice (some ⟨wr.heap.size, 0, none⟩) 1 1]).run Try.prog (wr.alloc (.cells #[u] 4)) = .ok (.slice p' (k1 + 1) c') w4) ∧ w4.heap[d]? = some (.cells #[v1, v2, v3, .slice none 0 0] 90 (0, 0)) ∧ (∀ b o, wr.heap[b]? = some o → kd wr b ≠ 4 + 2 → b ≠ d → (w4.setCell ⟨d, 0, none⟩ (.slice p' (k1 + 1) c')).heap[b]? = some o) ∧ (∀ {e2 : TypeId} {s2 q : Nat} {z : Value}, anyRow w e2 s2 q z wr → e2 ≠ 4 → e2 ≠ 90 → anyRow w e2 s2 q z (w4.setCell ⟨d, 0, none⟩ (.slice p' (k1 + 1) c'))) ∧ RfN w d (k1 + 1) k2 k3 (.slice p' (k1 + 1) c') v2 v3 (w4.setCell ⟨d, 0, none⟩ (.slice p' (k1 + 1) c')) := by
  obtain ⟨p', c', w4, hr, a4, g4, b4, n4⟩ := rwBo.push h.gr h.r1 [u] rfl (by intro x hx; simp at hx; rw [hx]; exact hu) hk
  have hd := b4 d _ h.net (by rw [kd_cells h.net]; decide)
  have kd4 : kd w4 d = 90 + 2 := kd_cells hd
  have CC := Chg.of_cell w4 ⟨d, 0, none⟩ (.slice p' (k1 + 1) c')
  have st : ∀ {e2 : TypeId} {s2 q : Nat} {z : Value}, anyRow w e2 s2 q z w4 → e2 ≠ 90 → anyRow w e2 s2 q z (w4.setCell ⟨d, 0, none⟩ (.slice p' (k1 + 1) c')) := fun {e2 s2 q z} ha hne => ha.kept CC (fun b hb e => by
    have e : b = d := e
    rw [e, kd4] at hb
    exact hne (Nat.add_right_cancel hb).symm)
  exact ⟨p', c', w4, hr, hd, fun b o hb hk hne => (heap_setCell_other w4 ⟨d, 0, none⟩ b _ hne).trans (b4 b o hb hk), fun {e2 s2 q z} ha h1 h2 => st (n4 ha h1) h2, grown_set g4 _ _ h.od, h.od, (block_setCell hd _).trans rfl, st a4 (by decide), st (n4 h.r2 (by decide)) (by decide), st (n4 h.r3 (by decide)) (by decide)⟩
theorem RfN.Ways {d k1 k2 k3 : Nat} {v1 v2 v3 : Value} {wr : World} (h : RfN w d k1 k2 k3 v1 v2 v3 wr) (u : Value) (hu : u.oneCell' = true) (hk : k2 ≤ 1000) :
    ∃ p' c' w4, (∀ ty, (Builtin.append_ #[87, 87] ty #[v2, .slice (some ⟨wr.heap.size, 0, none⟩) 1 1]).run Try.prog (wr.alloc (.cells #[u] 91)) = .ok (.slice p' (k2 + 1) c') w4) ∧ w4.heap[d]? = some (.cells #[v1, v2, v3, .slice none 0 0] 90 (0, 0)) ∧ (∀ b o, wr.heap[b]? = some o → kd wr b ≠ 91 + 2 → b ≠ d → (w4.setCell ⟨d, 1, none⟩ (.slice p' (k2 + 1) c')).heap[b]? = some o) ∧ (∀ {e2 : TypeId} {s2 q : Nat} {z : Value}, anyRow w e2 s2 q z wr → e2 ≠ 91 → e2 ≠ 90 → anyRow w e2 s2 q z (w4.setCell ⟨d, 1, none⟩ (.slice p' (k2 + 1) c'))) ∧ RfN w d k1 (k2 + 1) k3 v1 (.slice p' (k2 + 1) c') v3 (w4.setCell ⟨d, 1, none⟩ (.slice p' (k2 + 1) c')) := by
  obtain ⟨p', c', w4, hr, a4, g4, b4, n4⟩ := rwWW.push h.gr h.r2 [u] rfl (by intro x hx; simp at hx; rw [hx]; exact hu) hk
  have hd := b4 d _ h.net (by rw [kd_cells h.net]; decide)
  have kd4 : kd w4 d = 90 + 2 := kd_cells hd
  have CC := Chg.of_cell w4 ⟨d, 1, none⟩ (.slice p' (k2 + 1) c')
  have st : ∀ {e2 : TypeId} {s2 q : Nat} {z : Value}, anyRow w e2 s2 q z w4 → e2 ≠ 90 → anyRow w e2 s2 q z (w4.setCell ⟨d, 1, none⟩ (.slice p' (k2 + 1) c')) := fun {e2 s2 q z} ha hne => ha.kept CC (fun b hb e => by
    have e : b = d := e
    rw [e, kd4] at hb
    exact hne (Nat.add_right_cancel hb).symm)
  exact ⟨p', c', w4, hr, hd, fun b o hb hk hne => (heap_setCell_other w4 ⟨d, 1, none⟩ b _ hne).trans (b4 b o hb hk), fun {e2 s2 q z} ha h1 h2 => st (n4 ha h1) h2, grown_set g4 _ _ h.od, h.od, (block_setCell hd _).trans rfl, st (n4 h.r1 (by decide)) (by decide), st a4 (by decide), st (n4 h.r3 (by decide)) (by decide)⟩
theorem RfN.Waits {d k1 k2 k3 : Nat} {v1 v2 v3 : Value} {wr : World} (h : RfN w d k1 k2 k3 v1 v2 v3 wr) (u : Value) (hu : u.oneCell' = true) (hk : k3 ≤ 1000) :
    ∃ p' c' w4, (∀ ty, (Builtin.append_ #[88, 88] ty #[v3, .slice (some ⟨wr.heap.size, 0, none⟩) 1 1]).run Try.prog (wr.alloc (.cells #[u] 94)) = .ok (.slice p' (k3 + 1) c') w4) ∧ w4.heap[d]? = some (.cells #[v1, v2, v3, .slice none 0 0] 90 (0, 0)) ∧ (∀ b o, wr.heap[b]? = some o → kd wr b ≠ 94 + 2 → b ≠ d → (w4.setCell ⟨d, 2, none⟩ (.slice p' (k3 + 1) c')).heap[b]? = some o) ∧ (∀ {e2 : TypeId} {s2 q : Nat} {z : Value}, anyRow w e2 s2 q z wr → e2 ≠ 94 → e2 ≠ 90 → anyRow w e2 s2 q z (w4.setCell ⟨d, 2, none⟩ (.slice p' (k3 + 1) c'))) ∧ RfN w d k1 k2 (k3 + 1) v1 v2 (.slice p' (k3 + 1) c') (w4.setCell ⟨d, 2, none⟩ (.slice p' (k3 + 1) c')) := by
  obtain ⟨p', c', w4, hr, a4, g4, b4, n4⟩ := rwMM.push h.gr h.r3 [u] rfl (by intro x hx; simp at hx; rw [hx]; exact hu) hk
  have hd := b4 d _ h.net (by rw [kd_cells h.net]; decide)
  have kd4 : kd w4 d = 90 + 2 := kd_cells hd
  have CC := Chg.of_cell w4 ⟨d, 2, none⟩ (.slice p' (k3 + 1) c')
  have st : ∀ {e2 : TypeId} {s2 q : Nat} {z : Value}, anyRow w e2 s2 q z w4 → e2 ≠ 90 → anyRow w e2 s2 q z (w4.setCell ⟨d, 2, none⟩ (.slice p' (k3 + 1) c')) := fun {e2 s2 q z} ha hne => ha.kept CC (fun b hb e => by
    have e : b = d := e
    rw [e, kd4] at hb
    exact hne (Nat.add_right_cancel hb).symm)
  exact ⟨p', c', w4, hr, hd, fun b o hb hk hne => (heap_setCell_other w4 ⟨d, 2, none⟩ b _ hne).trans (b4 b o hb hk), fun {e2 s2 q z} ha h1 h2 => st (n4 ha h1) h2, grown_set g4 _ _ h.od, h.od, (block_setCell hd _).trans rfl, st (n4 h.r1 (by decide)) (by decide), st (n4 h.r2 (by decide)) (by decide), st a4 (by decide)⟩
end Go.Proofs.Ytbdlamlplfogjaa
namespace Go.Proofs.Ytbdlamlplfogjaa
open Go.RowKit Go.Maps Go.Joins
variable {P : Nat → Prop} {w w' : World} {n c : Nat} {S : St} {L : Ly}

theorem anyRow.form {e : TypeId} {sz k : Nat} {v : Value} {wr : World} (h : anyRow w e sz k v wr) : ∃ p q, v = .slice p k q := by
  obtain ⟨⟨xs, hs⟩, _⟩ := h
  obtain ⟨p, q, e, _⟩ := hs.form
  exact ⟨p, q, e⟩
theorem anyRow_nil (w wr : World) (e : TypeId) (sz : Nat) : anyRow w e sz 0 (.slice none 0 0) wr := ⟨⟨[], shr_nil _ _ _⟩, fun g hg => by simp [Value.ownBlock] at hg⟩
/-- the document's net and a row of ways beside it -/
def RfW (w : World) (d k1 k2 k3 j : Nat) (v1 v2 v3 v : Value) (wr : World) : Prop := RfN w d k1 k2 k3 v1 v2 v3 wr ∧ anyRow w 108 4 j v wr
def RnQ (w : World) (r : Ending) (w' : World) : Prop := ∃ d, r = .returned (.tuple #[.pointer (some ⟨d, 0, none⟩), .int .i64 0]) ∧ w.grownBy w' none
set_option maxHeartbeats 2000000 in
set_option maxRecDepth 100000 in
theorem refNew_ok (N : Nat) (h1 : 1 ≤ N) (h64 : N ≤ 64) : Calls Try.prog 25 #[.int .i64 N] w (RnQ w) := by
  have i1 : ¬ (N : Int) < 1 := by omega
  have i2 : ¬ (64 : Int) < (N : Int) := by omega
  have R0 : Hid (RfN w w.heap.size 0 0 0 (.slice none 0 0) (.slice none 0 0) (.slice none 0 0) (w.alloc (.cells #[.slice none 0 0, .slice none 0 0, .slice none 0 0, .slice none 0 0] 90))) := ⟨World.grownBy_alloc w _ none, Nat.le_refl _, heap_alloc_new w _, anyRow_nil _ _ _ _, anyRow_nil _ _ _ _, anyRow_nil _ _ _ _⟩
  obtain ⟨d, hd⟩ : ∃ d, d = w.heap.size := ⟨_, rfl⟩
  rw [← hd] at R0
  have HD := mkHid hd
  clear hd
  go_enter Try.func25, Try.ntmps25
  go_wp2_with fail
  rw [← show d = w.heap.size from HD.out]
  clear HD
  go_loopw [5] (fun s5 wr => ∃ (k : Nat) (v1 v2 v3 : Value), s5 = .int .i64 (k : Int) ∧ k ≤ N ∧ Hid (RfN w d k k k v1 v2 v3 wr)) (fun s5 _ => N - (intOf s5).toNat)
  case atStart => exact ⟨0, _, _, _, rfl, Nat.zero_le _, R0⟩
  case round =>
    obtain ⟨k, v1, v2, v3, rfl, hk, RN⟩ := hrel
    by_cases hlt : k < N
    · have hlti : (k : Int) < (N : Int) := by omega
      obtain ⟨p1, q1, rfl⟩ := RN.out.r1.form
      obtain ⟨p2, q2, rfl⟩ := RN.out.r2.form
      obtain ⟨p3, q3, rfl⟩ := RN.out.r3.form
      obtain ⟨x0, x1, x2, x3, xf⟩ := cells4 RN.out.net
      have hdl := lt_of_heap RN.out.net
      obtain ⟨pa, ca, w4, hr, hd4, _, _, RA⟩ := RN.out.There (.bool true) rfl (by omega)
      obtain ⟨y0, y1, y2, y3, yf⟩ := cells4 hd4
      have yf0 := yf 0
      obtain ⟨z0, z1, z2, z3, zf⟩ := cells4 RA.net
      have hdl4 := lt_of_heap RA.net
      obtain ⟨pb, cb, w6, hr6, hd6, _, _, RB⟩ := RA.Waits (.slice none 0 0) rfl (by omega)
      rw [World.size_setCell] at hr6
      obtain ⟨t0, t1, t2, t3, tf⟩ := cells4 hd6
      have tf2 := tf 2
      have RW0 : Hid (RfW w d (k + 1) k (k + 1) 0 (.slice pa (k + 1) ca) (.slice p2 k q2) (.slice pb (k + 1) cb) (.slice none 0 0) (w6.setCell ⟨d, 2, none⟩ (.slice pb (k + 1) cb))) := ⟨RB, anyRow_nil _ _ _ _⟩
      clear xf yf zf tf hd4 hd6 RA RB RN
      go_wp2_with (first | (at_builtin; refine wp_app 86 rfl (.tmp 25) (.tmp 26) rfl rfl rfl hr ?_) | (at_builtin; refine wp_app 88 rfl (.tmp 34) (.tmp 35) rfl rfl rfl hr6 ?_) | fail)
      generalize w6.setCell ⟨d, 2, none⟩ (.slice pb (k + 1) cb) = wx at RW0 ⊢
      clear hr hr6 x0 x1 x2 x3 y0 y1 y2 y3 z0 z1 z2 z3 t0 t1 t2 t3 yf0 tf2 hdl hdl4
      go_loopw [6, 7] (fun s6 s7 wr => ∃ j : Nat, s7 = .int .i64 (j : Int) ∧ j ≤ N ∧ Hid (RfW w d (k + 1) k (k + 1) j (.slice pa (k + 1) ca) (.slice p2 k q2) (.slice pb (k + 1) cb) s6 wr)) (fun _ s7 _ => N - (intOf s7).toNat)
      case atStart => exact ⟨0, rfl, Nat.zero_le _, RW0⟩
      case round =>
        rename_i s6 s7
        obtain ⟨j, rfl, hj, RW⟩ := hrel
        by_cases hlj : j < N
        · have hlji : (j : Int) < (N : Int) := by omega
          obtain ⟨hR, hA⟩ := RW.out
          obtain ⟨ps, qs, rfl⟩ := hA.form
          obtain ⟨pc, cc, w7, hr7, a7, g7, b7, n7⟩ := rwWa.push hR.gr hA [.int .u64 1, .slice none 0 0, .int .i64 0, .int .i64 0] rfl (by intro u hu; simp only [List.mem_cons, List.mem_nil_iff, or_false] at hu; rcases hu with rfl | rfl | rfl | rfl <;> rfl) (by omega)
          have RW7 : Hid (RfW w d (k + 1) k (k + 1) (j + 1) (.slice pa (k + 1) ca) (.slice p2 k q2) (.slice pb (k + 1) cb) (.slice pc (j + 1) cc) w7) := ⟨⟨g7, hR.od, b7 d _ hR.net (by rw [kd_cells hR.net]; decide), n7 hR.r1 (by decide), n7 hR.r2 (by decide), n7 hR.r3 (by decide)⟩, a7⟩
          clear hR hA a7 g7 b7 n7
          go_wp2_with (first | (at_builtin; refine wp_app 91 rfl (.tmp 44) (.tmp 46) rfl rfl rfl hr7 ?_) | fail)
          go_roundw
          case rel => exact ⟨j + 1, by go_num, hlj, RW7⟩
          case measure => simp [intOf]; omega
        · obtain rfl : j = N := by omega
          obtain ⟨hR, hA⟩ := RW.out
          obtain ⟨ps, qs, rfl⟩ := hA.form
          obtain ⟨x0, x1, x2, x3, xf⟩ := cells4 hR.net
          have hdl := lt_of_heap hR.net
          obtain ⟨pe, ce, w8, hr8, hd8, _, _, RE⟩ := hR.Ways (.slice ps j qs) rfl (by omega)
          obtain ⟨y0, y1, y2, y3, yf⟩ := cells4 hd8
          have yf1 := yf 1
          have RF := mkHid RE
          clear hR hA xf yf hd8 RE
          go_wp2_with (first | (at_builtin; refine wp_app 87 rfl (.tmp 52) (.tmp 54) rfl rfl rfl hr8 ?_) | fail)
          go_roundw
          case rel => exact ⟨k + 1, _, _, _, by go_num, hlt, RF⟩
          case measure => simp [intOf]; omega
    · obtain rfl : k = N := by omega
      have G := mkHid RN.out.gr
      go_wp2_with fail
      go_ret2
      exact ⟨d, rfl, G.out⟩
/-- what begins answers: a pair -/
def BgQ (w : World) (N : Nat) (r : Ending) (w' : World) : Prop := ∃ pr n d L, r = .returned (.tuple #[.pointer (some ⟨pr, 0, none⟩), .bool true]) ∧ w'.heap[pr]? = some (.cells #[.pointer (some ⟨n, 0, none⟩), .pointer (some ⟨d, 0, none⟩)] 33 (0, 0)) ∧ w.heap.size ≤ pr ∧ NetL (fun i => w.heap.size ≤ i ∧ i < pr) w' n 0 (st0 N) L ∧ w.grownBy w' none
set_option maxHeartbeats 1000000 in
set_option maxRecDepth 100000 in
theorem begins_ok (N : Nat) (h1 : 1 ≤ N) (h64 : N ≤ 64) : Calls Try.prog 6 #[.int .i64 N] w (BgQ w N) := by
  have NW := mkHid (New_ok (w := w) N h1 h64)
  have RN := mkHid (fun w => refNew_ok (w := w) N h1 h64)
  go_enter Try.func6, Try.ntmps6
  go_wp2_with fail
  refine NW.out.mono ?_
  rintro e w1 ⟨n, L, rfl, hL, g1⟩
  have HL := mkHid hL
  have G1 := mkHid g1
  clear hL g1
  go_wp2_with fail
  refine (RN.out _).mono ?_
  rintro e w2 ⟨d, rfl, g2⟩
  have G2 := mkHid g2
  clear g2
  go_wp2_with fail
  go_ret2
  have ga := World.grownBy_alloc w2 (.cells #[.pointer (some ⟨n, 0, none⟩), .pointer (some ⟨d, 0, none⟩)] 33) none
  have g12 := grown_none_trans G2.out ga
  refine ⟨_, n, d, L, rfl, heap_alloc_new w2 _, Nat.le_trans G1.out.size G2.out.size, ?_, grown_none_trans G1.out g12⟩
  have h3 := HL.out.kept g12
  refine h3.more (fun i hi => ⟨hi.1, Nat.lt_of_lt_of_le hi.2 G2.out.size⟩) (fun i hi => Nat.lt_of_lt_of_le hi.2 ga.size)
set_option maxHeartbeats 1000000 in
set_option maxRecDepth 100000 in
theorem begins_bad (N : Int) (h : N < 1 ∨ 64 < N) : Calls Try.prog 6 #[.int .i64 N] w fun e w' => e = .returned (.tuple #[.pointer none, .bool true]) ∧ w' = w := by
  have NW := mkHid (New_bad (w := w) N h)
  have RN := mkHid (refNew_bad (w := w) N h)
  clear h
  go_enter Try.func6, Try.ntmps6
  go_wp2_with fail
  refine NW.out.mono ?_
  rintro e w1 ⟨rfl, hwx⟩; have hwx2 := hwx.symm; subst hwx2; clear hwx
  go_wp2_with fail
  refine RN.out.mono ?_
  rintro e w1 ⟨rfl, hwx⟩; have hwx2 := hwx.symm; subst hwx2; clear hwx
  go_wp2_with fail
  go_ret2
  exact ⟨rfl, rfl⟩
end Go.Proofs.Ytbdlamlplfogjaa
namespace Go.Proofs.Ytbdlamlplfogjaa
open Go.RowKit Go.Maps Go.Joins
variable {P : Nat → Prop} {w w' : World} {n c : Nat} {S : St} {L : Ly}

set_option maxHeartbeats 1000000 in
set_option maxRecDepth 100000 in
theorem place_any (i : Int) (k : Nat) (hk : k ≤ 100000) : Calls Try.prog 12 #[.int .i64 i, .int .i64 k] w fun e w' => (∃ r : Int, e = .returned (.int .i64 r)) ∧ w' = w := by
  by_cases h0 : k = 0
  · subst h0
    go_enter Try.func12, Try.ntmps12
    go_wp2_with fail
    go_ret
    exact ⟨⟨_, rfl⟩, rfl⟩
  · have e5 : ((k : Int) == 0) = false := by rw [beq_eq_false_iff_ne]; omega
    have e6 : ¬ (k : Int) = 0 := by omega
    by_cases h1 : i.tmod (k : Int) < 0
    · go_enter Try.func12, Try.ntmps12
      go_wp2_with fail
      go_ret
      exact ⟨⟨_, rfl⟩, rfl⟩
    · go_enter Try.func12, Try.ntmps12
      go_wp2_with fail
      go_ret
      exact ⟨⟨_, rfl⟩, rfl⟩
def by8 (l : List UInt8) : List Value := l.map fun x => Value.int .u8 (x.toNat : Int)
theorem by8_len (l : List UInt8) : (by8 l).length = l.length := by simp [by8]
theorem by8_one (l : List UInt8) : ∀ u ∈ by8 l, u.oneCell' = true := by
  intro u hu; simp only [by8, List.mem_map] at hu; obtain ⟨x, _, rfl⟩ := hu; rfl
theorem by8_get {l : List UInt8} {i : Nat} {u : Value} (h : (by8 l)[i]? = some u) : ∃ x, l[i]? = some x ∧ u = .int .u8 (x.toNat : Int) := by
  simp only [by8, List.getElem?_map, Option.map_eq_some_iff] at h
  obtain ⟨x, h1, h2⟩ := h
  exact ⟨x, h1, h2.symm⟩
theorem u8Info : (Try.prog.info? 5).map (fun i => (i.zero, i.size, i.bytes)) = some (some (.int .u8 0), 1, 1) := by kernel_rfl
/-- bytes that came in: an empty slice may point anywhere -/
def byA (w : World) (p : Option Addr) (l : List UInt8) : Prop := l = [] ∨ ∃ g o, p = some ⟨g, o, none⟩ ∧ ∀ i x, l[i]? = some x → w.cell? ⟨g, o + i, none⟩ = some (.int .u8 (x.toNat : Int))
theorem byA.kept {p : Option Addr} {l : List UInt8} (h : byA w p l) (hg : w.grownBy w' none) : byA w' p l := by
  rcases h with h | ⟨g, o, e, h⟩
  · exact Or.inl h
  · refine Or.inr ⟨g, o, e, fun i x hx => ?_⟩
    have h1 := h i x hx
    have hlt := World.block_lt_of_cell? w _ h1
    have := hg.block g hlt (by simp)
    unfold World.cell? at h1 ⊢
    simp only at h1 this ⊢
    rw [this]; exact h1
theorem byA.cells {p : Option Addr} {l : List UInt8} (h : byA w p l) : ∀ ad, p = some ad → ∀ j u, (by8 l)[j]? = some u → w.cell? (ad.add j) = some u := by
  intro ad hd j u hj
  obtain ⟨x, hx, rfl⟩ := by8_get hj
  rcases h with h0 | ⟨g, o, e, h⟩
  · rw [h0] at hx; simp at hx
  · rw [e] at hd; cases hd
    rw [add_plain]; exact h j x hx
/-- what own answers -/
def OwQ (w : World) (l : List UInt8) (r : Ending) (w' : World) : Prop := ∃ g cap, r = .returned (.slice (some ⟨g, 0, none⟩) l.length cap) ∧ bys w' (some ⟨g, 0, none⟩) l ∧ w.heap.size ≤ g ∧ w.grownBy w' none
set_option maxHeartbeats 2000000 in
set_option maxRecDepth 1000000 in
theorem own_any (p : Option Addr) (c : Nat) (l : List UInt8) (w : World) (hp : byA w p l) (hn : p = none → l.length = 0 ∧ c = 0) (hl : l.length ≤ 10000000) :
    Calls Try.prog 15 #[.slice p l.length c] w (OwQ w l) := by
  obtain ⟨i0, hi, hz0, hz1, hz2⟩ := info_parts u8Info
  have HP := mkHid hp
  have HN := mkHid hn
  clear hp hn
  go_enter Try.func15, Try.ntmps15
  go_wp2_with (first | (at_make; refine wpList_make_own _ rfl (.const (.int .i64 0)) (.tmp 5) 27 rfl w.heap.size 5 i0 (.int .u8 0) 1 u8Slice hi hz0 hz1 .i64 .i64 ((l.length : Int) + 2) (l.length + 2) rfl rfl (by omega) (by rw [hz2]; omega) (by unfold maxLen; omega) (Nat.le_refl _) ?_; intro w1 ho1 hg1) | (at_builtin; refine wpList_append_fits_any _ rfl (.tmp 6) (.tmp 7) 27 rfl w.heap.size 5 i0 1 u8Slice hi hz1 w.heap.size 0 (l.length + 2) [] rfl ho1 p l.length c (by8 l) rfl (by rw [by8_len]; omega) (fun h => HN.out h) (HP.out.kept hg1).cells (by8_one _) (by omega) ?_; intro w2 ho2 hg2))
  go_ret
  rw [Nat.zero_add, List.nil_append] at ho2
  refine ⟨_, _, rfl, Or.inr ⟨_, 0, rfl, fun i x hx => ?_⟩, Nat.le_refl _, grown_new hg1 hg2 (fun g h => by cases h; exact Nat.le_refl _)⟩
  have hi := (List.getElem?_eq_some_iff.1 hx).1
  rw [Nat.zero_add]
  have := World.ownsRow.cellAt ho2 i (by omega)
  rw [this]
  simp [by8, hx]
end Go.Proofs.Ytbdlamlplfogjaa
namespace Go.Proofs.Ytbdlamlplfogjaa
open Go.RowKit Go.Maps Go.Joins
variable {P : Nat → Prop} {w w' : World} {n c : Nat} {S : St} {L : Ly}

/-- an act, as it is handed over -/
structure Ac where
  k : Int
  a : Int
  t : Int
  i : Int
  p : Option Addr
  b : List UInt8
  q : Nat
  h : Bool
def Ac.cells (x : Ac) : Array Value := #[.int .i64 x.k, .int .i64 x.a, .int .i64 x.t, .int .i64 x.i, .slice x.p x.b.length x.q, .bool x.h]
def downT (S : St) (k : Int) : St := if isS S k = true then downS S k.toNat else S
def aloneS (S : St) (x : Ac) : St := if x.k = 2 then delivS S x.i else if x.k = 3 then loseS S x.i else if x.k = 4 then twiceS S x.i else if x.k = 5 then tickS S x.a else if x.k = 6 then downT S x.a else S
theorem Down_er (h : NetL P w n c S L) (k : Int) : Calls Try.prog 39 #[.pointer (some ⟨n, 0, none⟩), .int .i64 k] w (ErQ P w n c (downT S k) (isE S k)) := by
  refine (Down_any h k).mono ?_
  rintro e w1 ⟨rfl, hu⟩
  exact ⟨rfl, hu⟩
set_option maxHeartbeats 1000000 in
set_option maxRecDepth 100000 in
theorem alone_2 (h : NetL P w n c S L) (x : Ac) {B : Nat} (ok : OkS S B) (hc : c ≤ 900000000) (hk : x.k = 2) : Calls Try.prog 19 #[.agg #[.pointer (some ⟨n, 0, none⟩), .pointer none], .agg x.cells] w (CmQ P w n (c + 1) (aloneS S x)) := by
  have g0 := grown_al (grown_al (grown_refl w) (.cells #[.pointer (some ⟨n, 0, none⟩), .pointer none] 33)) (.cells x.cells 29)
  obtain ⟨L0, h0, C0⟩ := h.upn g0
  have hc : c ≤ 1000000000 := by omega
  have es : aloneS S x = delivS S x.i := by unfold aloneS; rw [hk]; rfl
  rw [es]
  have CL := mkHid (Deliver_any h0 x.i ok hc)
  have HC := mkHid C0
  unfold Ac.cells at CL HC ⊢
  rw [hk] at CL HC ⊢
  clear h h0 C0 g0 es ok hk
  go_enter Try.func19, Try.ntmps19
  go_wp2_with fail
  refine CL.out.mono ?_
  rintro e w2 ⟨rfl, hu⟩
  have FN := mkHid ((UpN.trans HC.out hu).le (c2 := c + 1) (by omega))
  clear hu
  go_wp2_with fail
  go_end0
  exact ⟨rfl, FN.out⟩
set_option maxHeartbeats 1000000 in
set_option maxRecDepth 100000 in
theorem alone_3 (h : NetL P w n c S L) (x : Ac) (hc : c ≤ 900000000) (hk : x.k = 3) : Calls Try.prog 19 #[.agg #[.pointer (some ⟨n, 0, none⟩), .pointer none], .agg x.cells] w (CmQ P w n (c + 1) (aloneS S x)) := by
  have g0 := grown_al (grown_al (grown_refl w) (.cells #[.pointer (some ⟨n, 0, none⟩), .pointer none] 33)) (.cells x.cells 29)
  obtain ⟨L0, h0, C0⟩ := h.upn g0
  have hc : c ≤ 1000000000 := by omega
  have es : aloneS S x = loseS S x.i := by unfold aloneS; rw [hk]; rfl
  rw [es]
  have CL := mkHid (Lose_any h0 x.i)
  have HC := mkHid C0
  unfold Ac.cells at CL HC ⊢
  rw [hk] at CL HC ⊢
  clear h h0 C0 g0 es hk
  go_enter Try.func19, Try.ntmps19
  go_wp2_with fail
  refine CL.out.mono ?_
  rintro e w2 ⟨rfl, hu⟩
  have FN := mkHid ((UpN.trans HC.out hu).le (c2 := c + 1) (by omega))
  clear hu
  go_wp2_with fail
  go_end0
  exact ⟨rfl, FN.out⟩
set_option maxHeartbeats 1000000 in
set_option maxRecDepth 100000 in
theorem alone_4 (h : NetL P w n c S L) (x : Ac) (hc : c ≤ 900000000) (hk : x.k = 4) : Calls Try.prog 19 #[.agg #[.pointer (some ⟨n, 0, none⟩), .pointer none], .agg x.cells] w (CmQ P w n (c + 1) (aloneS S x)) := by
  have g0 := grown_al (grown_al (grown_refl w) (.cells #[.pointer (some ⟨n, 0, none⟩), .pointer none] 33)) (.cells x.cells 29)
  obtain ⟨L0, h0, C0⟩ := h.upn g0
  have hc : c ≤ 1000000000 := by omega
  have es : aloneS S x = twiceS S x.i := by unfold aloneS; rw [hk]; rfl
  rw [es]
  have CL := mkHid (Twice_any h0 x.i)
  have HC := mkHid C0
  unfold Ac.cells at CL HC ⊢
  rw [hk] at CL HC ⊢
  clear h h0 C0 g0 es hk
  go_enter Try.func19, Try.ntmps19
  go_wp2_with fail
  refine CL.out.mono ?_
  rintro e w2 ⟨rfl, hu⟩
  have FN := mkHid ((UpN.trans HC.out hu).le (c2 := c + 1) (by omega))
  clear hu
  go_wp2_with fail
  go_end0
  exact ⟨rfl, FN.out⟩
set_option maxHeartbeats 1000000 in
set_option maxRecDepth 100000 in
theorem alone_5 (h : NetL P w n c S L) (x : Ac) {B : Nat} (ok : OkS S B) (hc : c ≤ 900000000) (hk : x.k = 5) : Calls Try.prog 19 #[.agg #[.pointer (some ⟨n, 0, none⟩), .pointer none], .agg x.cells] w (CmQ P w n (c + 1) (aloneS S x)) := by
  have g0 := grown_al (grown_al (grown_refl w) (.cells #[.pointer (some ⟨n, 0, none⟩), .pointer none] 33)) (.cells x.cells 29)
  obtain ⟨L0, h0, C0⟩ := h.upn g0
  have hc : c ≤ 1000000000 := by omega
  have es : aloneS S x = tickS S x.a := by unfold aloneS; rw [hk]; rfl
  rw [es]
  have CL := mkHid (Tick_any h0 x.a (fun a b => by have := ok.wb a b; have := ok.lt; omega) (fun a b => by have := ok.wt a b; have := ok.lt; omega) (fun a b => ok.wu a b))
  have HC := mkHid C0
  unfold Ac.cells at CL HC ⊢
  rw [hk] at CL HC ⊢
  clear h h0 C0 g0 es ok hk
  go_enter Try.func19, Try.ntmps19
  go_wp2_with fail
  refine CL.out.mono ?_
  rintro e w2 ⟨rfl, hu⟩
  have FN := mkHid ((UpN.trans HC.out hu).le (c2 := c + 1) (by omega))
  clear hu
  go_wp2_with fail
  go_end0
  exact ⟨rfl, FN.out⟩
set_option maxHeartbeats 1000000 in
set_option maxRecDepth 100000 in
theorem alone_6 (h : NetL P w n c S L) (x : Ac) (hc : c ≤ 900000000) (hk : x.k = 6) : Calls Try.prog 19 #[.agg #[.pointer (some ⟨n, 0, none⟩), .pointer none], .agg x.cells] w (CmQ P w n (c + 1) (aloneS S x)) := by
  have g0 := grown_al (grown_al (grown_refl w) (.cells #[.pointer (some ⟨n, 0, none⟩), .pointer none] 33)) (.cells x.cells 29)
  obtain ⟨L0, h0, C0⟩ := h.upn g0
  have hc : c ≤ 1000000000 := by omega
  have es : aloneS S x = downT S x.a := by unfold aloneS; rw [hk]; rfl
  rw [es]
  have CL := mkHid (Down_er h0 x.a)
  have HC := mkHid C0
  unfold Ac.cells at CL HC ⊢
  rw [hk] at CL HC ⊢
  clear h h0 C0 g0 es hk
  go_enter Try.func19, Try.ntmps19
  go_wp2_with fail
  refine CL.out.mono ?_
  rintro e w2 ⟨rfl, hu⟩
  have FN := mkHid ((UpN.trans HC.out hu).le (c2 := c + 1) (by omega))
  clear hu
  go_wp2_with fail
  go_end0
  exact ⟨rfl, FN.out⟩
set_option maxHeartbeats 1000000 in
set_option maxRecDepth 100000 in
theorem alone_no (h : NetL P w n c S L) (x : Ac) (h2 : x.k ≠ 2) (h3 : x.k ≠ 3) (h4 : x.k ≠ 4) (h5 : x.k ≠ 5) (h6 : x.k ≠ 6) : Calls Try.prog 19 #[.agg #[.pointer (some ⟨n, 0, none⟩), .pointer none], .agg x.cells] w (CmQ P w n (c + 1) (aloneS S x)) := by
  have es : aloneS S x = S := by unfold aloneS; rw [if_neg h2, if_neg h3, if_neg h4, if_neg h5, if_neg h6]
  rw [es]
  have g0 := mkHid (grown_al (grown_al (grown_refl w) (.cells #[.pointer (some ⟨n, 0, none⟩), .pointer none] 33)) (.cells x.cells 29))
  have FN := mkHid ((h.upn g0.out).le (c2 := c + 1) (by omega))
  have b2 : (x.k == 2) = false := by rw [beq_eq_false_iff_ne]; exact h2
  have b3 : (x.k == 3) = false := by rw [beq_eq_false_iff_ne]; exact h3
  have b4 : (x.k == 4) = false := by rw [beq_eq_false_iff_ne]; exact h4
  have b5 : (x.k == 5) = false := by rw [beq_eq_false_iff_ne]; exact h5
  have b6 : (x.k == 6) = false := by rw [beq_eq_false_iff_ne]; exact h6
  unfold Ac.cells at FN ⊢
  clear h es h2 h3 h4 h5 h6 g0
  go_enter Try.func19, Try.ntmps19
  go_wp2_with fail
  go_end0
  exact ⟨rfl, FN.out⟩
theorem alone_any (h : NetL P w n c S L) (x : Ac) {B : Nat} (ok : OkS S B) (hc : c ≤ 900000000) : Calls Try.prog 19 #[.agg #[.pointer (some ⟨n, 0, none⟩), .pointer none], .agg x.cells] w (CmQ P w n (c + 1) (aloneS S x)) := by
  by_cases h2 : x.k = 2
  · exact alone_2 h x ok hc h2
  by_cases h3 : x.k = 3
  · exact alone_3 h x hc h3
  by_cases h4 : x.k = 4
  · exact alone_4 h x hc h4
  by_cases h5 : x.k = 5
  · exact alone_5 h x ok hc h5
  by_cases h6 : x.k = 6
  · exact alone_6 h x hc h6
  exact alone_no h x h2 h3 h4 h5 h6
end Go.Proofs.Ytbdlamlplfogjaa
