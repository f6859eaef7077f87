/-
  Walks: a message that is sent.
-/
import Derived.Test.YtbdlamlplfogjaaNtN
import Derived.Deep.RegionHeld
import Derived.Deep.RegionHeld3
namespace Go.Proofs.Ytbdlamlplfogjaa
open Go.RowKit Go.Maps Go.Joins
variable {P : Nat → Prop} {w w' : World} {n c : Nat} {S : St} {L : Ly}

theorem take_at {P : Program} {ops : Array Oper} {Q : Exit → Act → World → Prop} {md : Region.Mode} {S : World → Prop} {i d : Nat} {oi : Oper} {v : Value} {fuel : Nat} {listed : Array Bool} {ts : Array Value} {df : List Deferred} {w : World} (hi : ops[i]? = some oi) (hd : oi.dst = some d)
    (hs : Region.noSelect ops = true) (hf : Region.free md ops listed i = true) (hr : (Region.ready md ops listed).contains i = true)
    (hQ : ∀ c a w, Q (.panic c) (a.put oi.dst v) w → Q (.panic c) a w) (hy : YieldsIf P ops S oi v ⟨ts, df⟩) (hS : S w)
    (h : wpAnyH P md ops Q S fuel (listed.setIfInBounds i true) ⟨ts.setIfInBounds d v, df⟩ w) : wpAnyH P md ops Q S (fuel + 1) listed ⟨ts, df⟩ w :=
  wpAnyH_take hi hs hf hr hQ hy hS (by rw [hd]; exact h)
/-- the blocks of a net, and no others -/
def blk (n N : Nat) (L : Ly) : Nat → Prop := fun i => i = n ∨ i = L.nb ∨ i = L.m ∨ L.fv.ownBlock = some i ∨ (∃ k, k < N ∧ (L.vs k).ownBlock = some i) ∨ ∃ k l, k < N ∧ l < N ∧ (L.uv k l).ownBlock = some i
theorem NetL.blkP (h : NetL P w n c S L) : ∀ i, blk n S.N L i → P i := by
  rintro i (rfl | rfl | rfl | e | ⟨k, hk, e⟩ | ⟨k, l, hk, hl, e⟩)
  · exact h.pn
  · exact h.pnb
  · exact h.pm
  · exact h.flP _ e
  · exact h.wtP k hk _ e
  · exact h.unP k l hk hl _ e
theorem NetL.tight (h : NetL P w n c S L) : NetL (blk n S.N L) w n c S L :=
  ⟨fun i hi => h.pb i (h.blkP i hi), Or.inl rfl, Or.inr (Or.inl rfl), Or.inr (Or.inr (Or.inl rfl)), h.n1, h.n64, h.net, h.nds, h.wts, fun i hi _ hg => Or.inr (Or.inr (Or.inr (Or.inr (Or.inl ⟨i, hi, hg⟩)))), h.wtD, h.map, h.uns, fun i j hi hj _ hg => Or.inr (Or.inr (Or.inr (Or.inr (Or.inr ⟨i, j, hi, hj, hg⟩)))), h.unD, h.fly, fun _ hg => Or.inr (Or.inr (Or.inr (Or.inl hg)))⟩
/-- a block of another kind is none of the net's -/
theorem NetL.other (h : NetL P w n c S L) {b t : Nat} (hb : kd w b = t + 2) (h1 : t ≠ 73) (h2 : t ≠ 69) (h3 : t ≠ 79) (h4 : t ≠ 82) (h5 : t ≠ 9) : ¬ blk n S.N L b := by
  rintro (e | e | e | e | ⟨k, hk, e⟩ | ⟨k, l, hk, hl, e⟩)
  · rw [e, h.kn] at hb; omega
  · rw [e, h.knb] at hb; omega
  · rw [e, h.map.kd.1] at hb; omega
  · rw [(h.fly.kd _ e).1] at hb; omega
  · rw [((h.wts k hk).kd _ e).1] at hb; omega
  · rw [((h.uns k l hk hl).kd _ e).1] at hb; omega
/-- a call on the net's own blocks alone, as one on all -/
theorem UpN.wide {N : Nat} {c2 : Nat} {S2 : St} (hP : ∀ i, blk n N L i → P i) (hb : ∀ i, P i → i < w.heap.size) (h : UpN (blk n N L) w n c2 S2 w') : UpN P w n c2 S2 w' := by
  obtain ⟨L2, h1, h2⟩ := h
  refine ⟨L2, h1.more (fun i hi => ?_) (fun i hi => ?_), h2.mono (fun i _ hi => hP i hi)⟩
  · rcases hi with hi | hi
    · exact Or.inl (hP i hi)
    · exact Or.inr hi
  · rcases hi with hi | hi
    · exact Nat.lt_of_lt_of_le (hb i hi) h2.size
    · exact hi.2
theorem al3_1 (w : World) (a b d : Obj) : (((w.alloc a).alloc b).alloc d).drew.heap[w.heap.size]? = some a := (heap_alloc_old _ d (by simp; omega)).trans (al2_fst w a b)
theorem al3_2 (w : World) (a b d : Obj) : (((w.alloc a).alloc b).alloc d).drew.heap[w.heap.size + 1]? = some b := (heap_alloc_old _ d (by simp)).trans (al2_snd w a b)
theorem al3_3 (w : World) (a b d : Obj) : (((w.alloc a).alloc b).alloc d).drew.heap[w.heap.size + 2]? = some d := by
  have := heap_alloc_new ((w.alloc a).alloc b) d
  rw [World.size_alloc, World.size_alloc] at this
  exact this
/-- a packet flies in a net behind a call -/
theorem send_fly {w6 w8 : World} (U : UpN P w n c S w6) (g8 : w6.grownBy w8 none) (p : Pk) : Calls Try.prog 48 #[.pointer (some ⟨n, 0, none⟩), pkV p] w8 fun e w' => e = .returned (.tuple #[]) ∧ UpN P w n c (flyS S p) w' ∧ ∀ b t, (t = 76 ∨ t = 84) → kd w6 b = t + 2 → w'.heap[b]? = w6.heap[b]? := by
  obtain ⟨L, h6, C6⟩ := U
  have h8 := h6.kept g8
  refine (fly_any h8.tight p).mono ?_
  rintro e w9 ⟨rfl, hu⟩
  have C9 : Chg (blk n S.N L) w8 w9 := by obtain ⟨_, _, h⟩ := hu; exact h
  refine ⟨rfl, ?_, fun b t ht hb => ?_⟩
  · have U9 := UpN.wide (P := ext P w w6) h8.blkP h8.pb hu.up
    have C8 : Chg P w w8 := C6.trans (Chg.of_none g8 _)
    obtain ⟨L9, h9, c9⟩ := U9
    refine ⟨L9, h9.more (fun i hi => ?_) (fun i hi => ?_), C6.xtrans ((Chg.of_none g8 _).trans c9) (fun i hi => hi)⟩
    · rcases hi with (hi | hi) | hi
      · exact Or.inl hi
      · exact Or.inr ⟨hi.1, Nat.lt_of_lt_of_le hi.2 (Nat.le_trans g8.size C9.size)⟩
      · exact Or.inr ⟨Nat.le_trans C8.size hi.1, hi.2⟩
    · rcases hi with hi | hi
      · exact h9.pb i (ext_le (ext_le hi))
      · exact hi.2
  · have hlt : b < w6.heap.size := by
      rcases Nat.lt_or_ge b w6.heap.size with h | h
      · exact h
      · unfold kd at hb
        rw [Array.getElem?_eq_none h] at hb; simp at hb
    have k8 : kd w8 b = t + 2 := by
      unfold kd at hb ⊢
      rw [g8.block b hlt (by simp)]; exact hb
    rw [C9.block b (Nat.lt_of_lt_of_le hlt g8.size) (h8.other k8 (by rcases ht with rfl | rfl <;> decide) (by rcases ht with rfl | rfl <;> decide) (by rcases ht with rfl | rfl <;> decide) (by rcases ht with rfl | rfl <;> decide) (by rcases ht with rfl | rfl <;> decide)), g8.block b hlt (by simp)]
/-- what is sent -/
def sentP (S : St) (i j : Nat) (x : ByteArray) : Pk := ⟨i, j, false, (S.wy i j).t + ((S.wy i j).us.length + 1), (S.wy i j).b + 1, x⟩
def sentW (S : St) (i j : Nat) (x : ByteArray) : Wy := { S.wy i j with us := (S.wy i j).us ++ [x] }
def sendS (S : St) (i j : Nat) (x : ByteArray) : St := flyS { S with wy := upd2 S.wy i j (sentW S i j x) } (sentP S i j x)
/-- the way's list with a text more, laid ahead -/
theorem NetL.send_run (h : NetL P w n c S L) {i j : Nat} (hi : i < S.N) (hj : j < S.N) (x : ByteArray) (hl : (S.wy i j).us.length < 5000) (hc : c ≤ 1000000000) {W : World} (g0 : w.grownBy W none) {g : Nat} (hg : W.heap[g]? = some (.cells #[.string x] 9 (0, 0))) {wb eb : Nat} (hwb : W.heap[wb]? = some (.cells #[.int .u64 (S.wy i j).b, .int .u64 (S.wy i j).t, L.uv i j, .int .u64 (S.wy i j).c] 84 (0, 0))) (heb : W.heap[eb]? = some (.cells #[.int .i64 i, .int .i64 j] 76 (0, 0))) (hwb2 : w.heap.size ≤ wb) :
    ∃ p' c' w4 w6, (∀ ty, (Builtin.append_ #[49, 49] ty #[L.uv i j, .slice (some ⟨g, 0, none⟩) 1 1]).run Try.prog W = .ok (.slice p' ((S.wy i j).us.length + 1) c') w4) ∧
      w4.heap[wb]? = some (.cells #[.int .u64 (S.wy i j).b, .int .u64 (S.wy i j).t, L.uv i j, .int .u64 (S.wy i j).c] 84 (0, 0)) ∧ w4.heap[eb]? = some (.cells #[.int .i64 i, .int .i64 j] 76 (0, 0)) ∧ w4.heap[n]? = W.heap[n]? ∧
      (Instr.mapUpdate 70 (.map (some L.m)) (ky i j) (wyV (sentW S i j x) (.slice p' ((S.wy i j).us.length + 1) c'))).run Try.prog (w4.setCell ⟨wb, 2, none⟩ (.slice p' ((S.wy i j).us.length + 1) c')).drew = .ok () w6 ∧
      w6.heap[wb]? = some (.cells #[.int .u64 (S.wy i j).b, .int .u64 (S.wy i j).t, .slice p' ((S.wy i j).us.length + 1) c', .int .u64 (S.wy i j).c] 84 (0, 0)) ∧ w6.heap[eb]? = some (.cells #[.int .i64 i, .int .i64 j] 76 (0, 0)) ∧
      UpN P w n (c + 1) { S with wy := upd2 S.wy i j (sentW S i j x) } w6 := by
  have h' := h.kept g0
  have h64 := h.n64
  obtain ⟨v4, w4, hr, s4, g4, o4⟩ := rwS.app (c := 1) (h'.uns i j hi hj) (m := 1) (news := [.string x]) rfl (one_of hg) (by simp; rfl) (by omega) (by omega)
  obtain ⟨p', c', rfl, _⟩ := s4.form
  have ub : ∀ b t, W.heap[b]? = some t → kd W b ≠ 9 + 2 → w4.heap[b]? = some t := fun b t hb hk => box_keep hb g4 (fun e => hk ((h'.uns i j hi hj).kd b e.symm).1)
  have b1 := ub wb _ hwb (by rw [kd_cells hwb]; decide)
  have b2 := ub eb _ heb (by rw [kd_cells heb]; decide)
  have b3 := ub n _ h'.net (by rw [h'.kn]; decide)
  have mW := h'.map.kept (Chg.of_grown g4) (fun e => by
    have := ((h'.uns i j hi hj).kd _ e).1
    rw [h'.map.kd.1] at this; simp at this)
  have k4 : kd w4 wb = 84 + 2 := kd_cells b1
  have mS := mW.kept (Chg.of_cell w4 ⟨wb, 2, none⟩ (.slice p' ((S.wy i j).us.length + 1) c')) (fun e => by
    have e : L.m = wb := e
    rw [← e, mW.kd.1] at k4; simp at k4)
  have mD : Wm (w4.setCell ⟨wb, 2, none⟩ (.slice p' ((S.wy i j).us.length + 1) c')).drew L.m c S.N (fun i j => wyV (S.wy i j) (L.uv i j)) := mS.kept (Chg.drew (Chg.refl (fun _ => False) _)) (fun e => e)
  obtain ⟨w6, up, m6, g6⟩ := mD.put (i := i) (j := j) hi hj (wyV (sentW S i j x) (.slice p' ((S.wy i j).us.length + 1) c')) hc
  have b5 : (w4.setCell ⟨wb, 2, none⟩ (.slice p' ((S.wy i j).us.length + 1) c')).heap[wb]? = some (.cells #[.int .u64 (S.wy i j).b, .int .u64 (S.wy i j).t, .slice p' ((S.wy i j).us.length + 1) c', .int .u64 (S.wy i j).c] 84 (0, 0)) := (block_setCell b1 _).trans rfl
  have heb2 : eb ≠ wb := fun e => by rw [e, b1] at b2; simp at b2
  have b6 : (w4.setCell ⟨wb, 2, none⟩ (.slice p' ((S.wy i j).us.length + 1) c')).heap[eb]? = _ := (heap_setCell_other w4 ⟨wb, 2, none⟩ eb _ heb2).trans b2
  have nm : ∀ b o, (w4.setCell ⟨wb, 2, none⟩ (.slice p' ((S.wy i j).us.length + 1) c')).heap[b]? = some o → kd (w4.setCell ⟨wb, 2, none⟩ (.slice p' ((S.wy i j).us.length + 1) c')) b ≠ 1 → w6.heap[b]? = some o := fun b o hb hk => box_keep (w1 := (w4.setCell ⟨wb, 2, none⟩ (.slice p' ((S.wy i j).us.length + 1) c')).drew) hb g6 (fun e => by
    cases e
    exact hk mS.kd.1)
  have s5 := s4.kept (Chg.of_cell w4 ⟨wb, 2, none⟩ (.slice p' ((S.wy i j).us.length + 1) c')) (fun g hg e => by
    have e : g = wb := e
    have := (s4.kd g hg).1
    rw [e, k4] at this; simp at this)
  have s6 := (s5.kept (Chg.drew (Chg.refl (fun _ => False) _)) (fun _ _ e => e)).kept (Chg.of_grown g6) (fun g hg e => by
    have e : L.m = g := by simpa using e
    have := (s5.kd g hg).1
    rw [← e, mS.kd.1] at this; simp at this)
  have CC : Chg (fun k => k = L.m ∨ (L.uv i j).ownBlock = some k) w w6 := by
    have c1 : Chg (fun k => k = L.m ∨ (L.uv i j).ownBlock = some k) w w4 := (Chg.of_none g0 _).trans ((Chg.of_grown g4).mono (fun k _ hk => Or.inr hk))
    have c2 := c1.then_new ((Chg.refl (fun k => w.heap.size ≤ k) w4).set ⟨wb, 2, none⟩ (.slice p' ((S.wy i j).us.length + 1) c') hwb2)
    exact c2.drew.trans ((Chg.of_grown g6).mono (fun k _ hk => Or.inl (by simpa using hk.symm)))
  refine ⟨p', c', w4, w6, hr, b1, b2, b3.trans h'.net.symm, up, nm _ _ b5 (by rw [kd_cells b5]; decide), nm _ _ b6 (by rw [kd_cells b6]; decide), _, h.way CC hi hj (fun k hk => hk) (x := sentW S i j x) (v := .slice p' ((S.wy i j).us.length + 1) c') m6 ?_ (fun g hg => ?_)⟩
  · have e1 : (sentW S i j x).us = (S.wy i j).us ++ [x] := rfl
    rw [e1, List.length_append, usC_app]
    exact s6
  · rcases o4 with e | ⟨g', e, h1, h2⟩
    · exact Or.inl (by rw [← e]; exact hg)
    · rw [hg] at e; cases e
      refine Or.inr ⟨Nat.le_trans g0.size h1, Nat.lt_of_lt_of_le h2 ?_⟩
      have := g6.size
      simpa using this
end Go.Proofs.Ytbdlamlplfogjaa
