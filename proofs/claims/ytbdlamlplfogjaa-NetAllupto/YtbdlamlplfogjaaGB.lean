/-
  The document's net in memory.
-/
import Derived.Test.YtbdlamlplfogjaaGA
import Derived.Maps.AppendAt
import Derived.Laws.OwnMore
namespace Go.Proofs.Ytbdlamlplfogjaa
open Go.RowKit Go.Maps Go.Joins

/-- a row copied behind an empty one -/
theorem Rw.cp {t e : TypeId} {z : Value} {sz by' : Nat} (R : Rw t e z sz by') {w W : World} {v : Value} {n : Nat} {xs : List Value} (h : shr w e sz v n xs) (h1 : ∀ u ∈ xs, u.oneCell' = true) (hg : w.grownBy W none) {B : Nat} (hB : W.heap[B]? = some (.cells #[] e (0, 0))) (hl : n ≤ 500000000) :
    ∃ v' W', (∀ ty, (Builtin.append_ #[t, t] ty #[.slice (some ⟨B, 0, none⟩) 0 0, v]).run Try.prog W = .ok v' W') ∧ shr W' e sz v' n xs ∧ W.grownBy W' (some B) ∧ ∀ g, v'.ownBlock = some g → (g = B ∨ W.heap.size ≤ g) ∧ g < W'.heap.size := by
  obtain ⟨i0, hi, hz0, hzs, hz2⟩ := info_parts R.inf
  have hrow : W.ownsRow 0 e sz (.slice (some ⟨B, 0, none⟩) 0 0) 0 [] := ⟨by simp, Or.inr ⟨B, 0, #[], rfl, Nat.zero_le _, hB, Nat.le_refl _, by unfold maxLen; omega, by simp, by simp⟩⟩
  have toS : ∀ {W' : World} {v' : Value} {n' : Nat} {ys : List Value}, W'.ownsRow 0 e sz v' n' ys → shr W' e sz v' n' ys ∧ ∀ g, v'.ownBlock = some g → g < W'.heap.size := fun {W' v' n' ys} ho => by
    obtain ⟨l1, l2⟩ := ho
    rcases l2 with ⟨e1, e2⟩ | ⟨g, cap, cur, rfl, _, hb, h2, h3, h4, h5⟩
    · subst e1
      exact ⟨⟨l1, Or.inl ⟨rfl, e2⟩⟩, fun g hg => by simp [Value.ownBlock] at hg⟩
    · refine ⟨⟨l1, Or.inr ⟨g, 0, cap, cur, rfl, hb, h2, h3, Or.inr (by rw [Nat.zero_add]; exact h4), fun j u hj => ?_⟩⟩, fun g' hg => ?_⟩
      · rw [← h5, List.getElem?_take] at hj
        split at hj
        · rw [Nat.zero_add]; simpa using hj
        · cases hj
      · simp [Value.ownBlock] at hg; subst hg; exact lt_of_heap hb
  rcases h.2 with ⟨rfl, rfl⟩ | ⟨g, off, cap, cur, rfl, hb, hnc, hcm, hsz, hcs⟩
  · have hx : xs = [] := List.eq_nil_of_length_eq_zero (by simpa using h.1)
    subst hx
    obtain ⟨s1, s2⟩ := toS hrow
    exact ⟨_, W, fun ty => run_append_owned_none (P := Try.prog) (w := W) 0 t ty e i0 sz R.sl hi _ 0 [] hrow, s1, ⟨rfl, rfl, rfl, Nat.le_refl _, fun _ _ _ => rfl⟩, fun g hg => ⟨Or.inl (by simp [Value.ownBlock] at hg; exact hg.symm), s2 g hg⟩⟩
  · have hbb : (0 + n) * by' ≤ 140737488355328 := by
      have : by' * (0 + n) ≤ 64 * 500000000 := Nat.mul_le_mul R.sm (by omega)
      rw [Nat.mul_comm]; omega
    obtain ⟨v', W', k1, k2, k3, _, k5⟩ := run_append_own_at (P := Try.prog) W 0 t 0 e i0 z sz by' R.sl hi hz0 hzs hz2 R.zs R.pos (.slice (some ⟨B, 0, none⟩) 0 0) 0 [] hrow ⟨g, off, none⟩ n cap xs h.1 (fun j u hj => by rw [add_plain]; exact hg.cell ((cell_of_block hb _).trans (hcs j u hj)) (by simp)) h1 (by unfold maxLen; omega) hbb (Nat.zero_le _)
    rw [Nat.zero_add, List.nil_append] at k2
    obtain ⟨s1, s2⟩ := toS k2
    refine ⟨v', W', fun ty => k1, s1, k3, fun g' hg => ⟨?_, s2 g' hg⟩⟩
    rcases k5 with e1 | e1
    · rw [e1] at hg; simp [Value.ownBlock] at hg; exact Or.inl hg.symm
    · rw [e1] at hg; cases hg; exact Or.inr (Nat.le_refl _)
/-- bytes in the document's net -/
def byV (w : World) (Q : Nat → Prop) (v : Value) (x : ByteArray) : Prop := ∃ p cap, v = .slice p x.data.toList.length cap ∧ bys w p x.data.toList ∧ ∀ a, p = some a → Q a.block ∧ kd w a.block = 5 + 2
/-- a row of elements of so many cells, each as R says -/
def rwR (w : World) (Q : Nat → Prop) (e : TypeId) (sz : Nat) (v : Value) (n : Nat) (R : Nat → List Value → Prop) : Prop := ∃ xs, shr w e sz v n xs ∧ (∀ g, v.ownBlock = some g → Q g) ∧ (∀ u ∈ xs, u.oneCell' = true) ∧ ∀ k, k < n → R k ((xs.drop (k * sz)).take sz)
def msR (w : World) (Q : Nat → Prop) (l : List (Nat × ByteArray)) (k : Nat) (ys : List Value) : Prop := ∀ m, l[k]? = some m → ∃ bv, ys = [.int .i64 (m.1 : Int), bv] ∧ byV w Q bv m.2
def snR (w : World) (Q : Nat → Prop) (l : List ByteArray) (k : Nat) (ys : List Value) : Prop := ∀ x, l[k]? = some x → ∃ bv, ys = [bv] ∧ byV w Q bv x
def aiR (w : World) (Q : Nat → Prop) (l : List Pk) (k : Nat) (ys : List Value) : Prop := ∀ p, l[k]? = some p → ∃ bv, ys = [.int .i64 (pkFr p : Int), .int .i64 (pkTo p : Int), .bool p.ack, .int .u64 (p.s : Int), .int .u64 (p.e : Int), bv] ∧ byV w Q bv p.x
/-- where it lies -/
structure Lr where
  tg : Nat
  tc : Nat
  yg : Nat
  yc : Nat
  yb : Nat → Nat
  yk : Nat → Nat
  mg : Nat
  mc : Nat
  mv : Nat → Value
  av : Value
  sv : Nat → Nat → Value
structure RL (Q : Nat → Prop) (w : World) (d : Nat) (S : St) (T : Nat → Nat → List ByteArray) (R : Lr) : Prop where
  pb : ∀ i, Q i → i < w.heap.size
  qd : Q d
  qt : Q R.tg
  qy : Q R.yg
  qm : Q R.mg
  qr : ∀ i, i < S.N → Q (R.yb i)
  n1 : 1 ≤ S.N
  n64 : S.N ≤ 64
  cp : S.N ≤ R.tc ∧ S.N ≤ R.yc ∧ S.N ≤ R.mc ∧ R.tc ≤ maxLen ∧ R.yc ≤ maxLen ∧ R.mc ≤ maxLen ∧ ∀ i, i < S.N → S.N ≤ R.yk i ∧ R.yk i ≤ maxLen
  net : w.heap[d]? = some (.cells #[.slice (some ⟨R.tg, 0, none⟩) S.N R.tc, .slice (some ⟨R.yg, 0, none⟩) S.N R.yc, .slice (some ⟨R.mg, 0, none⟩) S.N R.mc, R.av] 90 (0, 0))
  th : ∃ cur : Array Value, w.heap[R.tg]? = some (.cells cur 4 (0, 0)) ∧ cur.size = R.tc ∧ ∀ i, i < S.N → cur[i]? = some (.bool (!S.dn i))
  yo : ∃ cur : Array Value, w.heap[R.yg]? = some (.cells cur 91 (0, 0)) ∧ cur.size = R.yc ∧ ∀ i, i < S.N → cur[i]? = some (.slice (some ⟨R.yb i, 0, none⟩) S.N (R.yk i))
  yr : ∀ i, i < S.N → ∃ cur : Array Value, w.heap[R.yb i]? = some (.cells cur 108 (0, 0)) ∧ cur.size = R.yk i * 4 ∧ ∀ j, j < S.N → cur[j * 4]? = some (.int .u64 (((S.wy i j).b + 1 : Nat) : Int)) ∧ cur[j * 4 + 1]? = some (R.sv i j) ∧ cur[j * 4 + 2]? = some (.int .i64 ((S.wy i j).t : Int)) ∧ cur[j * 4 + 3]? = some (.int .i64 ((S.wy i j).c : Int))
  yd : ∀ i j, i < S.N → j < S.N → i ≠ j → R.yb i ≠ R.yb j
  mo : ∃ cur : Array Value, w.heap[R.mg]? = some (.cells cur 94 (0, 0)) ∧ cur.size = R.mc ∧ ∀ i, i < S.N → cur[i]? = some (R.mv i)
  mr : ∀ i, i < S.N → rwR w Q 51 2 (R.mv i) (S.ms i).length (msR w Q (S.ms i))
  sr : ∀ i j, i < S.N → j < S.N → rwR w Q 27 1 (R.sv i j) (T i j).length (snR w Q (T i j))
  ar : rwR w Q 97 6 R.av S.fl.length (aiR w Q S.fl)
variable {Q Q' C : Nat → Prop} {w w' : World} {d : Nat} {S : St} {T : Nat → Nat → List ByteArray} {R : Lr}
theorem byV.mv {v : Value} {x : ByteArray} (h : byV w Q v x) (hc : Chg C w w') (hn : ∀ b, kd w b = 5 + 2 → Q b → ¬ C b) (hb : ∀ b, Q b → b < w.heap.size) (hq : ∀ b, Q b → Q' b) : byV w' Q' v x := by
  obtain ⟨p, cap, e, hy, hk⟩ := h
  refine ⟨p, cap, e, hy.chg hc (fun a ea => hn _ (hk a ea).2 (hk a ea).1), fun a ea => ⟨hq _ (hk a ea).1, ?_⟩⟩
  rw [← (hk a ea).2]
  unfold kd
  rw [hc.block _ (hb _ (hk a ea).1) (hn _ (hk a ea).2 (hk a ea).1)]
theorem rwR.mv {e : TypeId} {sz n : Nat} {v : Value} {R1 R2 : Nat → List Value → Prop} (h : rwR w Q e sz v n R1) (hc : Chg C w w') (hn : ∀ b, kd w b = e + 2 → Q b → ¬ C b) (hq : ∀ b, Q b → Q' b) (hr : ∀ k ys, k < n → R1 k ys → R2 k ys) : rwR w' Q' e sz v n R2 := by
  obtain ⟨xs, h1, h2, h3, h4⟩ := h
  exact ⟨xs, h1.kept hc (fun g hg => hn g (h1.kd g hg).1 (h2 g hg)), fun g hg => hq g (h2 g hg), h3, fun k hk => hr k _ hk (h4 k hk)⟩
theorem RL.kb (h : RL Q w d S T R) : kd w d = 90 + 2 ∧ kd w R.tg = 4 + 2 ∧ kd w R.yg = 91 + 2 ∧ kd w R.mg = 94 + 2 ∧ ∀ i, i < S.N → kd w (R.yb i) = 108 + 2 := by
  obtain ⟨_, h1, _⟩ := h.th
  obtain ⟨_, h2, _⟩ := h.yo
  obtain ⟨_, h3, _⟩ := h.mo
  exact ⟨kd_cells h.net, kd_cells h1, kd_cells h2, kd_cells h3, fun i hi => by obtain ⟨_, h4, _⟩ := h.yr i hi; exact kd_cells h4⟩
/-- what is elsewhere changes nothing -/
theorem RL.away (h : RL Q w d S T R) (hc : Chg C w w') (hn : ∀ b, Q b → ¬ C b) (hq : ∀ b, Q b → Q' b) (hb : ∀ b, Q' b → b < w'.heap.size) : RL Q' w' d S T R := by
  obtain ⟨c1, a1, a2⟩ := h.th
  obtain ⟨c2, b1, b2⟩ := h.yo
  obtain ⟨c3, d1, d2⟩ := h.mo
  have nn : ∀ (t : Nat) (b : Nat), kd w b = t → Q b → ¬ C b := fun _ b _ hb => hn b hb
  have by' : ∀ v x, byV w Q v x → byV w' Q' v x := fun v x hv => hv.mv hc (nn _) h.pb hq
  refine ⟨hb, hq _ h.qd, hq _ h.qt, hq _ h.qy, hq _ h.qm, fun i hi => hq _ (h.qr i hi), h.n1, h.n64, h.cp, hc.at_ h.net (hn _ h.qd), ⟨c1, hc.at_ a1 (hn _ h.qt), a2⟩, ⟨c2, hc.at_ b1 (hn _ h.qy), b2⟩, fun i hi => ?_, h.yd, ⟨c3, hc.at_ d1 (hn _ h.qm), d2⟩, fun i hi => ?_, fun i j hi hj => ?_, ?_⟩
  · obtain ⟨cur, e1, e2⟩ := h.yr i hi
    exact ⟨cur, hc.at_ e1 (hn _ (h.qr i hi)), e2⟩
  · exact (h.mr i hi).mv hc (nn _) hq (fun k ys _ hr m hm => by obtain ⟨bv, e, hv⟩ := hr m hm; exact ⟨bv, e, by' _ _ hv⟩)
  · exact (h.sr i j hi hj).mv hc (nn _) hq (fun k ys _ hr m hm => by obtain ⟨bv, e, hv⟩ := hr m hm; exact ⟨bv, e, by' _ _ hv⟩)
  · exact h.ar.mv hc (nn _) hq (fun k ys _ hr m hm => by obtain ⟨bv, e, hv⟩ := hr m hm; exact ⟨bv, e, by' _ _ hv⟩)
theorem RL.kept (h : RL Q w d S T R) (hg : w.grownBy w' none) : RL Q w' d S T R := h.away (Chg.of_none hg (fun _ => False)) (fun _ _ e => e) (fun _ e => e) (fun b hb => Nat.lt_of_lt_of_le (h.pb b hb) hg.size)
/-- blocks of Q that hold no bytes -/
def hbq (Q : Nat → Prop) (w : World) : Nat → Prop := fun b => Q b ∧ kd w b ≠ 5 + 2
theorem Chg.hb (h : Chg (hbq Q w) w w') : Chg Q w w' := h.mono (fun _ _ e => e.1)
theorem kd_of {w w' : World} {b : Nat} (h : w'.heap[b]? = w.heap[b]?) : kd w' b = kd w b := by unfold kd; rw [h]
theorem hb_trans {Q2 : Nat → Prop} {W : World} (h : Chg (hbq Q w) w W) (k : Chg (hbq Q2 W) W w') (hq : ∀ i, Q2 i → ext Q w W i) : Chg (hbq Q w) w w' :=
  ⟨k.os.trans h.os, k.tape.trans h.tape, k.output.trans h.output, Nat.le_trans h.size k.size, fun b hb hn => (k.block b (Nat.lt_of_lt_of_le hb h.size) (fun e => hn ⟨by
    rcases hq b e.1 with e1 | e1
    · exact e1
    · omega, by rw [← kd_of (h.block b hb hn)]; exact e.2⟩)).trans (h.block b hb hn)⟩
/-- what a call leaves -/
def RU (Q : Nat → Prop) (w : World) (d : Nat) (S : St) (T : Nat → Nat → List ByteArray) (w' : World) : Prop := ∃ R, RL (ext Q w w') w' d S T R ∧ Chg (hbq Q w) w w'
theorem RL.up (h : RL Q w d S T R) (hg : w.grownBy w' none) : RU Q w d S T w' := ⟨R, h.away (Chg.of_none hg (fun _ => False)) (fun _ _ e => e) (fun _ => ext_le) (ext_pb h.pb hg.size), Chg.of_none hg _⟩
/-- what is read of it -/
theorem RL.cs (h : RL Q w d S T R) : w.cell? ⟨d, 0, none⟩ = some (.slice (some ⟨R.tg, 0, none⟩) S.N R.tc) ∧ w.cell? ⟨d, 1, none⟩ = some (.slice (some ⟨R.yg, 0, none⟩) S.N R.yc) ∧ w.cell? ⟨d, 2, none⟩ = some (.slice (some ⟨R.mg, 0, none⟩) S.N R.mc) ∧ w.cell? ⟨d, 3, none⟩ = some R.av ∧ (∀ i, w.frozen? ⟨d, i, none⟩ = false) := cells4 h.net
theorem RL.tcell (h : RL Q w d S T R) {i : Nat} (hi : i < S.N) : w.cell? ⟨R.tg, i, none⟩ = some (.bool (!S.dn i)) ∧ w.frozen? ⟨R.tg, i, none⟩ = false := by
  obtain ⟨c, h1, _, h3⟩ := h.th
  exact ⟨(cell_of_block h1 i).trans (h3 i hi), unfrozen_of_block h1 i⟩
theorem RL.ycell (h : RL Q w d S T R) {i j : Nat} (hi : i < S.N) (hj : j < S.N) : w.cell? ⟨R.yg, i, none⟩ = some (.slice (some ⟨R.yb i, 0, none⟩) S.N (R.yk i)) ∧ w.cell? ⟨R.yb i, j * 4, none⟩ = some (.int .u64 (((S.wy i j).b + 1 : Nat) : Int)) ∧ w.cell? ⟨R.yb i, j * 4 + 1, none⟩ = some (R.sv i j) ∧ w.cell? ⟨R.yb i, j * 4 + 2, none⟩ = some (.int .i64 ((S.wy i j).t : Int)) ∧ w.cell? ⟨R.yb i, j * 4 + 3, none⟩ = some (.int .i64 ((S.wy i j).c : Int)) ∧ (∀ k, w.frozen? ⟨R.yb i, k, none⟩ = false) := by
  obtain ⟨c, h1, _, h3⟩ := h.yo
  obtain ⟨c2, g1, _, g3⟩ := h.yr i hi
  obtain ⟨k0, k1, k2, k3⟩ := g3 j hj
  exact ⟨(cell_of_block h1 i).trans (h3 i hi), (cell_of_block g1 _).trans k0, (cell_of_block g1 _).trans k1, (cell_of_block g1 _).trans k2, (cell_of_block g1 _).trans k3, fun k => unfrozen_of_block g1 k⟩
theorem RL.mcell (h : RL Q w d S T R) {i : Nat} (hi : i < S.N) : w.cell? ⟨R.mg, i, none⟩ = some (R.mv i) ∧ w.frozen? ⟨R.mg, i, none⟩ = false := by
  obtain ⟨c, h1, _, h3⟩ := h.mo
  exact ⟨(cell_of_block h1 i).trans (h3 i hi), unfrozen_of_block h1 i⟩
theorem rwR.form {e : TypeId} {sz n : Nat} {v : Value} {R1 : Nat → List Value → Prop} (h : rwR w Q e sz v n R1) : ∃ p c, v = .slice p n c ∧ n ≤ c ∧ c ≤ maxLen ∧ (p = none → n = 0 ∧ c = 0) := by
  obtain ⟨xs, h1, _⟩ := h
  obtain ⟨p, c, e1, e2, e3, e4, _⟩ := h1.form
  exact ⟨p, c, e1, e2, e3, e4⟩
end Go.Proofs.Ytbdlamlplfogjaa
namespace Go.Proofs.Ytbdlamlplfogjaa
open Go.RowKit Go.Maps Go.Joins
variable {Q : Nat → Prop} {w w' : World} {d : Nat} {S : St} {T : Nat → Nat → List ByteArray} {R : Lr}

set_option maxHeartbeats 1000000 in
set_option maxRecDepth 100000 in
theorem rNode_any (h : RL Q w d S T R) (k : Int) : Calls Try.prog 55 #[.pointer (some ⟨d, 0, none⟩), .int .i64 k] w fun e w' => e = .returned (.bool (decide (0 ≤ k ∧ k < S.N))) ∧ w' = w := by
  obtain ⟨c0, _⟩ := h.cs
  by_cases h1 : 0 ≤ k
  · by_cases h2 : k < S.N
    · rw [decide_eq_true ⟨h1, h2⟩]
      go_enter Try.func55, Try.ntmps55
      go_wp2_with fail
      go_ret
      exact ⟨rfl, rfl⟩
    · rw [decide_eq_false (fun e => h2 e.2)]
      go_enter Try.func55, Try.ntmps55
      go_wp2_with fail
      go_ret
      exact ⟨rfl, rfl⟩
  · rw [decide_eq_false (fun e => h1 e.1)]
    go_enter Try.func55, Try.ntmps55
    go_wp2_with fail
    go_ret
    exact ⟨rfl, rfl⟩
set_option maxHeartbeats 1000000 in
set_option maxRecDepth 100000 in
theorem rIs_any (h : RL Q w d S T R) (k : Int) : Calls Try.prog 44 #[.pointer (some ⟨d, 0, none⟩), .int .i64 k] w fun e w' => e = .returned (.bool (isS S k)) ∧ w' = w := by
  obtain ⟨c0, _⟩ := h.cs
  have HS := mkHid (rNode_any h k)
  by_cases h1 : 0 ≤ k ∧ k < S.N
  · obtain ⟨i, rfl⟩ : ∃ i : Nat, k = (i : Int) := ⟨k.toNat, by omega⟩
    have hi : i < S.N := by omega
    obtain ⟨d0, _⟩ := h.tcell hi
    have e : isS S (i : Int) = !S.dn i := by simp [isS, hi]
    rw [decide_eq_true h1] at HS
    rw [e]
    have h2 : (i : Int) < (S.N : Int) := by omega
    clear h h1 e
    go_enter Try.func44, Try.ntmps44
    go_wp2_with fail
    refine HS.out.mono ?_
    rintro e w1 ⟨rfl, hwx⟩; have hwx2 := hwx.symm; subst hwx2; clear hwx
    go_wp2_with fail
    go_ret
    exact ⟨rfl, rfl⟩
  · have e : isS S k = false := by simp only [isS, decide_eq_false h1, Bool.false_and]
    rw [decide_eq_false h1] at HS
    rw [e]
    clear h h1 e
    go_enter Try.func44, Try.ntmps44
    go_wp2_with fail
    refine HS.out.mono ?_
    rintro e w1 ⟨rfl, hwx⟩; have hwx2 := hwx.symm; subst hwx2; clear hwx
    go_wp2_with fail
    go_ret
    exact ⟨rfl, rfl⟩
def unE (S : St) (f t : Int) : Int := if (0 ≤ f ∧ f < S.N) ∧ (0 ≤ t ∧ t < S.N) then 0 else 60
def unK (S : St) (f t : Int) : Int := if (0 ≤ f ∧ f < S.N) ∧ (0 ≤ t ∧ t < S.N) then ((S.wy f.toNat t.toNat).us.length : Int) else 0
/-- what Unsure answers -/
def UnQ (w : World) (S : St) (f t : Int) (r : Ending) (w' : World) : Prop := r = .returned (.tuple #[.int .i64 (unK S f t), .int .i64 (unE S f t)]) ∧ w.grownBy w' none
set_option maxHeartbeats 1000000 in
set_option maxRecDepth 100000 in
theorem rUnsure_any (h : RL Q w d S T R) (f t : Int) (hu : ∀ i j, i < S.N → j < S.N → (S.wy i j).us = (T i j).drop (S.wy i j).t ∧ (S.wy i j).t ≤ (T i j).length ∧ (T i j).length ≤ 10000000) : Calls Try.prog 42 #[.pointer (some ⟨d, 0, none⟩), .int .i64 f, .int .i64 t] w (UnQ w S f t) := by
  obtain ⟨c0, c1, _⟩ := h.cs
  have H1 := mkHid (rNode_any h f)
  have H2 := mkHid (rNode_any h t)
  by_cases h1 : 0 ≤ f ∧ f < S.N
  · by_cases h2 : 0 ≤ t ∧ t < S.N
    · obtain ⟨i, rfl⟩ : ∃ i : Nat, f = (i : Int) := ⟨f.toNat, by omega⟩
      obtain ⟨j, rfl⟩ : ∃ j : Nat, t = (j : Int) := ⟨t.toNat, by omega⟩
      have hi : i < S.N := by omega
      have hj : j < S.N := by omega
      obtain ⟨y0, y1, y2, y3, y4, _⟩ := h.ycell hi hj
      obtain ⟨ps, cs, hs, _⟩ := (h.sr i j hi hj).form
      rw [hs] at y2
      obtain ⟨u1, u2, u3⟩ := hu i j hi hj
      have e1 : unK S (i : Int) (j : Int) = ((T i j).length : Int) - ((S.wy i j).t : Int) := by
        unfold unK
        rw [if_pos ⟨h1, h2⟩, Int.toNat_natCast, Int.toNat_natCast, u1, List.length_drop]; omega
      have e2 : unE S (i : Int) (j : Int) = 0 := by unfold unE; rw [if_pos ⟨h1, h2⟩]
      unfold UnQ
      rw [e1, e2]
      rw [decide_eq_true h1] at H1
      rw [decide_eq_true h2] at H2
      have i1 : (i : Int) < (S.N : Int) := by omega
      have i2 : (j : Int) < (S.N : Int) := by omega
      have hw : IntKind.i64.wrap (((T i j).length : Int) - ((S.wy i j).t : Int)) = ((T i j).length : Int) - ((S.wy i j).t : Int) := by rw [IntKind.wrap_i64]; omega
      clear h h1 h2 e1 e2 u1 u2 u3 hu hs
      go_enter Try.func42, Try.ntmps42
      go_wp2_with fail
      refine H1.out.mono ?_
      rintro e w1 ⟨rfl, hwx⟩; have hwx2 := hwx.symm; subst hwx2; clear hwx
      go_wp2_with fail
      refine H2.out.mono ?_
      rintro e w1 ⟨rfl, hwx⟩; have hwx2 := hwx.symm; subst hwx2; clear hwx
      go_wp2_with fail
      go_ret2
      exact ⟨rfl, grown_al (grown_refl _) _⟩
    · have e1 : unK S f t = 0 := by unfold unK; rw [if_neg (fun e => h2 e.2)]
      have e2 : unE S f t = 60 := by unfold unE; rw [if_neg (fun e => h2 e.2)]
      unfold UnQ
      rw [e1, e2]
      rw [decide_eq_true h1] at H1
      rw [decide_eq_false h2] at H2
      clear h h1 h2 e1 e2 hu
      go_enter Try.func42, Try.ntmps42
      go_wp2_with fail
      refine H1.out.mono ?_
      rintro e w1 ⟨rfl, hwx⟩; have hwx2 := hwx.symm; subst hwx2; clear hwx
      go_wp2_with fail
      refine H2.out.mono ?_
      rintro e w1 ⟨rfl, hwx⟩; have hwx2 := hwx.symm; subst hwx2; clear hwx
      go_wp2_with fail
      go_ret2
      exact ⟨rfl, grown_refl _⟩
  · have e1 : unK S f t = 0 := by unfold unK; rw [if_neg (fun e => h1 e.1)]
    have e2 : unE S f t = 60 := by unfold unE; rw [if_neg (fun e => h1 e.1)]
    unfold UnQ
    rw [e1, e2]
    rw [decide_eq_false h1] at H1
    clear h h1 e1 e2 hu H2
    go_enter Try.func42, Try.ntmps42
    go_wp2_with fail
    refine H1.out.mono ?_
    rintro e w1 ⟨rfl, hwx⟩; have hwx2 := hwx.symm; subst hwx2; clear hwx
    go_wp2_with fail
    go_ret2
    exact ⟨rfl, grown_refl _⟩
theorem fldU (x y z : Int) (p : Option Addr) (n c : Nat) (w : World) : (Instr.field 84 (.agg #[.int .u64 x, .int .u64 y, .slice p n c, .int .u64 z]) 2).run Try.prog w = .ok (.slice p n c) w := by kernel_rfl
set_option maxHeartbeats 1000000 in
set_option maxRecDepth 100000 in
theorem Unsure_any {P : Nat → Prop} {n c : Nat} {L : Ly} (h : NetL P w n c S L) (f t : Int) : Calls Try.prog 21 #[.pointer (some ⟨n, 0, none⟩), .int .i64 f, .int .i64 t] w (UnQ w S f t) := by
  obtain ⟨c0, c1, _⟩ := h.cs
  have H1 := mkHid (has_any h f)
  have H2 := mkHid (has_any h t)
  by_cases h1 : 0 ≤ f ∧ f < S.N
  · by_cases h2 : 0 ≤ t ∧ t < S.N
    · obtain ⟨i, rfl⟩ : ∃ i : Nat, f = (i : Int) := ⟨f.toNat, by omega⟩
      obtain ⟨j, rfl⟩ : ∃ j : Nat, t = (j : Int) := ⟨t.toNat, by omega⟩
      have hi : i < S.N := by omega
      have hj : j < S.N := by omega
      have h64 := h.n64
      have lk := h.map.look (i := i) (j := j) (by omega) (by omega)
      obtain ⟨pu, cu, hu, _⟩ := (h.uns i j hi hj).form
      unfold ky wyV at lk
      rw [hu] at lk
      have e1 : unK S (i : Int) (j : Int) = ((S.wy i j).us.length : Int) := by
        unfold unK
        rw [if_pos ⟨h1, h2⟩, Int.toNat_natCast, Int.toNat_natCast]
      have e2 : unE S (i : Int) (j : Int) = 0 := by unfold unE; rw [if_pos ⟨h1, h2⟩]
      unfold UnQ
      rw [e1, e2]
      rw [decide_eq_true h1] at H1
      rw [decide_eq_true h2] at H2
      have fu := fldU (S.wy i j).b (S.wy i j).t (S.wy i j).c pu (S.wy i j).us.length cu w
      clear h h1 h2 e1 e2 hu
      go_enter Try.func21, Try.ntmps21
      go_wp2_with fail
      refine H1.out.mono ?_
      rintro e w1 ⟨rfl, hwx⟩; have hwx2 := hwx.symm; subst hwx2; clear hwx
      go_wp2_with fail
      refine H2.out.mono ?_
      rintro e w1 ⟨rfl, hwx⟩; have hwx2 := hwx.symm; subst hwx2; clear hwx
      go_wp2_with fail
      go_ret2
      exact ⟨rfl, grown_refl _⟩
    · have e1 : unK S f t = 0 := by unfold unK; rw [if_neg (fun e => h2 e.2)]
      have e2 : unE S f t = 60 := by unfold unE; rw [if_neg (fun e => h2 e.2)]
      unfold UnQ
      rw [e1, e2]
      rw [decide_eq_true h1] at H1
      rw [decide_eq_false h2] at H2
      clear h h1 h2 e1 e2
      go_enter Try.func21, Try.ntmps21
      go_wp2_with fail
      refine H1.out.mono ?_
      rintro e w1 ⟨rfl, hwx⟩; have hwx2 := hwx.symm; subst hwx2; clear hwx
      go_wp2_with fail
      refine H2.out.mono ?_
      rintro e w1 ⟨rfl, hwx⟩; have hwx2 := hwx.symm; subst hwx2; clear hwx
      go_wp2_with fail
      go_ret2
      exact ⟨rfl, grown_refl _⟩
  · have e1 : unK S f t = 0 := by unfold unK; rw [if_neg (fun e => h1 e.1)]
    have e2 : unE S f t = 60 := by unfold unE; rw [if_neg (fun e => h1 e.1)]
    unfold UnQ
    rw [e1, e2]
    rw [decide_eq_false h1] at H1
    clear h h1 e1 e2 H2
    go_enter Try.func21, Try.ntmps21
    go_wp2_with fail
    refine H1.out.mono ?_
    rintro e w1 ⟨rfl, hwx⟩; have hwx2 := hwx.symm; subst hwx2; clear hwx
    go_wp2_with fail
    go_ret2
    exact ⟨rfl, grown_refl _⟩
end Go.Proofs.Ytbdlamlplfogjaa
namespace Go.Proofs.Ytbdlamlplfogjaa
open Go.RowKit Go.Maps Go.Joins
variable {Q : Nat → Prop} {w w' : World} {d : Nat} {S : St} {T : Nat → Nat → List ByteArray} {R : Lr}

/-- rows stay where a block of another kind is written -/
theorem RL.rows (h : RL Q w d S T R) {b t : Nat} (hk : kd w b = t + 2) (h1 : t ≠ 51) (h2 : t ≠ 27) (h3 : t ≠ 97) (h4 : t ≠ 5) (hc : Chg (fun x => x = b) w w') :
    (∀ v l, rwR w Q 51 2 v l.length (msR w Q l) → rwR w' Q 51 2 v l.length (msR w' Q l)) ∧ (∀ v l, rwR w Q 27 1 v l.length (snR w Q l) → rwR w' Q 27 1 v l.length (snR w' Q l)) ∧ (∀ v l, rwR w Q 97 6 v l.length (aiR w Q l) → rwR w' Q 97 6 v l.length (aiR w' Q l)) ∧ (∀ v x, byV w Q v x → byV w' Q v x) := by
  have nn : ∀ (e : Nat) (x : Nat), t ≠ e → kd w x = e + 2 → Q x → ¬ x = b := fun e x hne hx _ hb => by rw [hb, hk] at hx; exact hne (Nat.add_right_cancel hx)
  have by' : ∀ v x, byV w Q v x → byV w' Q v x := fun v x hv => hv.mv hc (fun y => nn _ y h4) h.pb (fun _ e => e)
  refine ⟨fun v l hv => hv.mv hc (fun y => nn _ y h1) (fun _ e => e) (fun k ys _ hr m hm => ?_), fun v l hv => hv.mv hc (fun y => nn _ y h2) (fun _ e => e) (fun k ys _ hr m hm => ?_), fun v l hv => hv.mv hc (fun y => nn _ y h3) (fun _ e => e) (fun k ys _ hr m hm => ?_), by'⟩
  · obtain ⟨bv, e, hv⟩ := hr m hm; exact ⟨bv, e, by' _ _ hv⟩
  · obtain ⟨bv, e, hv⟩ := hr m hm; exact ⟨bv, e, by' _ _ hv⟩
  · obtain ⟨bv, e, hv⟩ := hr m hm; exact ⟨bv, e, by' _ _ hv⟩
theorem RL.setT (h : RL Q w d S T R) {i : Nat} (hi : i < S.N) (v : Bool) : RL Q (w.setCell ⟨R.tg, i, none⟩ (.bool (!v))) d { S with dn := upd S.dn i v } T R := by
  obtain ⟨k1, k2, k3, k4, k5⟩ := h.kb
  have hc := Chg.of_cell w ⟨R.tg, i, none⟩ (.bool (!v))
  obtain ⟨r1, r2, r3, _⟩ := h.rows k2 (by decide) (by decide) (by decide) (by decide) hc
  obtain ⟨c1, a1, a2, a3⟩ := h.th
  obtain ⟨c2, b1, b2⟩ := h.yo
  obtain ⟨c3, d1, d2⟩ := h.mo
  have ne : ∀ x t, kd w x = t + 2 → t ≠ 4 → ¬ x = R.tg := fun x t hx hne e => by rw [e, k2] at hx; exact hne (Nat.add_right_cancel hx).symm
  refine ⟨fun x hx => by rw [World.size_setCell]; exact h.pb x hx, h.qd, h.qt, h.qy, h.qm, h.qr, h.n1, h.n64, h.cp, hc.at_ h.net (ne _ _ k1 (by decide)), ⟨_, block_setCell a1 _, by simp [a2], fun x hx => ?_⟩, ⟨c2, hc.at_ b1 (ne _ _ k3 (by decide)), b2⟩, fun x hx => ?_, h.yd, ⟨c3, hc.at_ d1 (ne _ _ k4 (by decide)), d2⟩, fun x hx => r1 _ _ (h.mr x hx), fun x y hx hy => r2 _ _ (h.sr x y hx hy), r3 _ _ h.ar⟩
  · have hx : x < S.N := hx
    show _ = some (Value.bool (!(upd S.dn i v x)))
    by_cases e : x = i
    · rw [e, upd_same, Array.getElem?_setIfInBounds, if_pos rfl, if_pos (by have := h.cp.1; have := hi; omega)]
    · rw [upd_other _ _ e, Array.getElem?_setIfInBounds, if_neg (fun e2 => e e2.symm)]; exact a3 x hx
  · obtain ⟨cur, e1, e2⟩ := h.yr x hx
    exact ⟨cur, hc.at_ e1 (ne _ _ (k5 x hx) (by decide)), e2⟩
theorem RL.setM (h : RL Q w d S T R) {i : Nat} (hi : i < S.N) {v : Value} {l : List (Nat × ByteArray)} (hv : rwR w Q 51 2 v l.length (msR w Q l)) : RL Q (w.setCell ⟨R.mg, i, none⟩ v) d { S with ms := upd S.ms i l } T { R with mv := upd R.mv i v } := by
  obtain ⟨k1, k2, k3, k4, k5⟩ := h.kb
  have hc := Chg.of_cell w ⟨R.mg, i, none⟩ v
  obtain ⟨r1, r2, r3, _⟩ := h.rows k4 (by decide) (by decide) (by decide) (by decide) hc
  obtain ⟨c1, a1, a2⟩ := h.th
  obtain ⟨c2, b1, b2⟩ := h.yo
  obtain ⟨c3, d1, d2, d3⟩ := h.mo
  have ne : ∀ x t, kd w x = t + 2 → t ≠ 94 → ¬ x = R.mg := fun x t hx hne e => by rw [e, k4] at hx; exact hne (Nat.add_right_cancel hx).symm
  refine ⟨fun x hx => by rw [World.size_setCell]; exact h.pb x hx, h.qd, h.qt, h.qy, h.qm, h.qr, h.n1, h.n64, h.cp, hc.at_ h.net (ne _ _ k1 (by decide)), ⟨c1, hc.at_ a1 (ne _ _ k2 (by decide)), a2⟩, ⟨c2, hc.at_ b1 (ne _ _ k3 (by decide)), b2⟩, fun x hx => ?_, h.yd, ⟨_, block_setCell d1 _, by simp [d2], fun x hx => ?_⟩, fun x hx => ?_, fun x y hx hy => r2 _ _ (h.sr x y hx hy), r3 _ _ h.ar⟩
  · obtain ⟨cur, e1, e2⟩ := h.yr x hx
    exact ⟨cur, hc.at_ e1 (ne _ _ (k5 x hx) (by decide)), e2⟩
  · have hx : x < S.N := hx
    show _ = some (upd R.mv i v x)
    by_cases e : x = i
    · rw [e, upd_same, Array.getElem?_setIfInBounds, if_pos rfl, if_pos (by have := h.cp.2.2.1; have := hi; omega)]
    · rw [upd_other _ _ e, Array.getElem?_setIfInBounds, if_neg (fun e2 => e e2.symm)]; exact d3 x hx
  · have hx : x < S.N := hx
    show rwR _ Q _ 2 (upd R.mv i v x) (upd S.ms i l x).length (msR _ Q (upd S.ms i l x))
    by_cases e : x = i
    · rw [e, upd_same, upd_same]; exact r1 _ _ hv
    · rw [upd_other _ _ e, upd_other _ _ e]; exact r1 _ _ (h.mr x hx)
theorem RL.setA (h : RL Q w d S T R) {v : Value} {l : List Pk} (hv : rwR w Q 97 6 v l.length (aiR w Q l)) : RL Q (w.setCell ⟨d, 3, none⟩ v) d { S with fl := l } T { R with av := v } := by
  obtain ⟨k1, k2, k3, k4, k5⟩ := h.kb
  have hc := Chg.of_cell w ⟨d, 3, none⟩ v
  obtain ⟨r1, r2, r3, _⟩ := h.rows k1 (by decide) (by decide) (by decide) (by decide) hc
  obtain ⟨c1, a1, a2⟩ := h.th
  obtain ⟨c2, b1, b2⟩ := h.yo
  obtain ⟨c3, d1, d2⟩ := h.mo
  have ne : ∀ x t, kd w x = t + 2 → t ≠ 90 → ¬ x = d := fun x t hx hne e => by rw [e, k1] at hx; exact hne (Nat.add_right_cancel hx).symm
  refine ⟨fun x hx => by rw [World.size_setCell]; exact h.pb x hx, h.qd, h.qt, h.qy, h.qm, h.qr, h.n1, h.n64, h.cp, (block_setCell h.net _).trans rfl, ⟨c1, hc.at_ a1 (ne _ _ k2 (by decide)), a2⟩, ⟨c2, hc.at_ b1 (ne _ _ k3 (by decide)), b2⟩, fun x hx => ?_, h.yd, ⟨c3, hc.at_ d1 (ne _ _ k4 (by decide)), d2⟩, fun x hx => r1 _ _ (h.mr x hx), fun x y hx hy => r2 _ _ (h.sr x y hx hy), r3 _ _ hv⟩
  obtain ⟨cur, e1, e2⟩ := h.yr x hx
  exact ⟨cur, hc.at_ e1 (ne _ _ (k5 x hx) (by decide)), e2⟩
/-- a way written anew -/
def setW (w : World) (b j : Nat) (v0 v1 v2 v3 : Value) : World := (((w.setCell ⟨b, j * 4, none⟩ v0).setCell ⟨b, j * 4 + 1, none⟩ v1).setCell ⟨b, j * 4 + 2, none⟩ v2).setCell ⟨b, j * 4 + 3, none⟩ v3
theorem setW_chg (w : World) (b j : Nat) (v0 v1 v2 v3 : Value) : Chg (fun x => x = b) w (setW w b j v0 v1 v2 v3) := (((Chg.of_cell w ⟨b, j * 4, none⟩ v0).trans (Chg.of_cell _ ⟨b, j * 4 + 1, none⟩ v1)).trans (Chg.of_cell _ ⟨b, j * 4 + 2, none⟩ v2)).trans (Chg.of_cell _ ⟨b, j * 4 + 3, none⟩ v3)
theorem RL.setY (h : RL Q w d S T R) {i j : Nat} (hi : i < S.N) (hj : j < S.N) (x : Wy) {v : Value} {l : List ByteArray} (hv : rwR w Q 27 1 v l.length (snR w Q l)) :
    RL Q (setW w (R.yb i) j (.int .u64 ((x.b + 1 : Nat) : Int)) v (.int .i64 (x.t : Int)) (.int .i64 (x.c : Int))) d { S with wy := upd2 S.wy i j x } (upd2 T i j l) { R with sv := upd2 R.sv i j v } := by
  obtain ⟨k1, k2, k3, k4, k5⟩ := h.kb
  have hc := setW_chg w (R.yb i) j (.int .u64 ((x.b + 1 : Nat) : Int)) v (.int .i64 (x.t : Int)) (.int .i64 (x.c : Int))
  obtain ⟨r1, r2, r3, _⟩ := h.rows (k5 i hi) (by decide) (by decide) (by decide) (by decide) hc
  obtain ⟨c1, a1, a2⟩ := h.th
  obtain ⟨c2, b1, b2⟩ := h.yo
  obtain ⟨c3, d1, d2⟩ := h.mo
  have ne : ∀ x t, kd w x = t + 2 → t ≠ 108 → ¬ x = R.yb i := fun x t hx hne e => by rw [e, k5 i hi] at hx; exact hne (Nat.add_right_cancel hx).symm
  refine ⟨fun x hx => Nat.lt_of_lt_of_le (h.pb x hx) hc.size, h.qd, h.qt, h.qy, h.qm, h.qr, h.n1, h.n64, h.cp, hc.at_ h.net (ne _ _ k1 (by decide)), ⟨c1, hc.at_ a1 (ne _ _ k2 (by decide)), a2⟩, ⟨c2, hc.at_ b1 (ne _ _ k3 (by decide)), b2⟩, fun y hy => ?_, h.yd, ⟨c3, hc.at_ d1 (ne _ _ k4 (by decide)), d2⟩, fun x hx => r1 _ _ (h.mr x hx), fun y z hy hz => ?_, r3 _ _ h.ar⟩
  · have hy : y < S.N := hy
    obtain ⟨cur, e1, e2, e3⟩ := h.yr y hy
    by_cases e : y = i
    · subst e
      refine ⟨_, block_setCell (block_setCell (block_setCell (block_setCell e1 _) _) _) _, by simp [e2], fun z hz => ?_⟩
      have hz : z < S.N := hz
      obtain ⟨f0, f1, f2, f3⟩ := e3 z hz
      have hk := (h.cp.2.2.2.2.2.2 y hy).1
      show _ = some (Value.int .u64 (((upd2 S.wy y j x y z).b + 1 : Nat) : Int)) ∧ _ = some (upd2 R.sv y j v y z) ∧ _ = some (Value.int .i64 ((upd2 S.wy y j x y z).t : Int)) ∧ _ = some (Value.int .i64 ((upd2 S.wy y j x y z).c : Int))
      simp only [Array.getElem?_setIfInBounds, Array.size_setIfInBounds]
      by_cases e : z = j
      · subst e
        rw [upd2_same, upd2_same]
        refine ⟨?_, ?_, ?_, ?_⟩
        · rw [if_neg (by omega), if_neg (by omega), if_neg (by omega), if_pos rfl, if_pos (by omega)]
        · rw [if_neg (by omega), if_neg (by omega), if_pos rfl, if_pos (by omega)]
        · rw [if_neg (by omega), if_pos rfl, if_pos (by omega)]
        · rw [if_pos rfl, if_pos (by omega)]
      · rw [upd2_other _ _ (fun e2 => e e2.2), upd2_other _ _ (fun e2 => e e2.2)]
        refine ⟨?_, ?_, ?_, ?_⟩
        · rw [if_neg (by omega), if_neg (by omega), if_neg (by omega), if_neg (by omega)]; exact f0
        · rw [if_neg (by omega), if_neg (by omega), if_neg (by omega), if_neg (by omega)]; exact f1
        · rw [if_neg (by omega), if_neg (by omega), if_neg (by omega), if_neg (by omega)]; exact f2
        · rw [if_neg (by omega), if_neg (by omega), if_neg (by omega), if_neg (by omega)]; exact f3
    · refine ⟨cur, hc.at_ e1 (h.yd y i hy hi e), e2, fun z hz => ?_⟩
      show _ = some (Value.int .u64 (((upd2 S.wy i j x y z).b + 1 : Nat) : Int)) ∧ _ = some (upd2 R.sv i j v y z) ∧ _ = some (Value.int .i64 ((upd2 S.wy i j x y z).t : Int)) ∧ _ = some (Value.int .i64 ((upd2 S.wy i j x y z).c : Int))
      rw [upd2_other _ _ (fun e2 => e e2.1), upd2_other _ _ (fun e2 => e e2.1)]
      exact e3 z hz
  · have hy : y < S.N := hy
    have hz : z < S.N := hz
    show rwR _ Q _ 1 (upd2 R.sv i j v y z) (upd2 T i j l y z).length (snR _ Q (upd2 T i j l y z))
    by_cases e : y = i ∧ z = j
    · obtain ⟨rfl, rfl⟩ := e
      rw [upd2_same, upd2_same]; exact r2 _ _ hv
    · rw [upd2_other _ _ e, upd2_other _ _ e]; exact r2 _ _ (h.sr y z hy hz)
/-- a row of none -/
theorem rwR_nil (w : World) (Q : Nat → Prop) (e : TypeId) (sz : Nat) (R1 : Nat → List Value → Prop) : rwR w Q e sz (.slice none 0 0) 0 R1 := ⟨[], shr_nil _ _ _, fun g hg => by simp [Value.ownBlock] at hg, fun u hu => by simp at hu, fun k hk => by omega⟩
theorem RL.upQ (h : RL Q w d S T R) (hc : Chg (hbq Q w) w w') {S2 : St} {T2 : Nat → Nat → List ByteArray} {R2 : Lr} (h2 : RL Q w' d S2 T2 R2) : RU Q w d S2 T2 w' := ⟨R2, h2.away (Chg.refl (fun _ => False) _) (fun _ _ e => e) (fun _ => ext_le) (ext_pb h.pb hc.size), hc⟩
/-- what a call answers and leaves -/
def REQ (Q : Nat → Prop) (w : World) (d : Nat) (S : St) (T : Nat → Nat → List ByteArray) (err : Int) (r : Ending) (w' : World) : Prop := r = .returned (.int .i64 err) ∧ RU Q w d S T w'
set_option maxHeartbeats 1000000 in
set_option maxRecDepth 100000 in
theorem rDown_any (h : RL Q w d S T R) (k : Int) : Calls Try.prog 40 #[.pointer (some ⟨d, 0, none⟩), .int .i64 k] w (REQ Q w d (downT S k) T (isE S k)) := by
  have IS := mkHid (rIs_any h k)
  cases hs : isS S k with
  | false =>
    have e1 : downT S k = S := by unfold downT; rw [hs]; rfl
    have e2 : isE S k = 60 := by unfold isE; rw [hs]; rfl
    unfold REQ
    rw [e1, e2]
    rw [hs] at IS
    have U := mkHid (h.up (grown_refl _))
    clear h e1 e2 hs
    go_enter Try.func40, Try.ntmps40
    go_wp2_with fail
    refine IS.out.mono ?_
    rintro e w1 ⟨rfl, hwx⟩; have hwx2 := hwx.symm; subst hwx2; clear hwx
    go_wp2_with fail
    go_ret
    exact ⟨rfl, U.out⟩
  | true =>
    obtain ⟨i, rfl, hi, hd⟩ := isS_in hs
    have e1 : downT S (i : Int) = downS S i := by unfold downT; rw [hs, Int.toNat_natCast]; rfl
    have e2 : isE S (i : Int) = 0 := by unfold isE; rw [hs]; rfl
    unfold REQ
    rw [e1, e2]
    rw [hs] at IS
    obtain ⟨c0, c1, c2, c3, _⟩ := h.cs
    obtain ⟨t0, t1⟩ := h.tcell hi
    have H1 := h.setT hi true
    have H2 := H1.setM (i := i) hi (v := .slice none 0 0) (l := []) (rwR_nil _ _ _ _ _)
    obtain ⟨g0, g1, g2, g3, _⟩ := H1.cs
    obtain ⟨m0, m1⟩ := H1.mcell (i := i) hi
    have U : Hid (RU Q w d (downS S i) T ((w.setCell ⟨R.tg, i, none⟩ (.bool false)).setCell ⟨R.mg, i, none⟩ (.slice none 0 0))) := h.upQ (((Chg.of_cell w ⟨R.tg, i, none⟩ (.bool false)).mono (fun x _ e => by have e : x = R.tg := e; rw [e]; exact ⟨h.qt, by rw [h.kb.2.1]; decide⟩)).trans ((Chg.of_cell _ ⟨R.mg, i, none⟩ (.slice none 0 0)).mono (fun x _ e => by have e : x = R.mg := e; rw [e]; exact ⟨h.qm, by rw [h.kb.2.2.2.1]; decide⟩))) H2
    have hii : (i : Int) < (S.N : Int) := by omega
    rw [Bool.not_true] at g0 g1 g2 g3 m0 m1
    clear h H1 H2 e1 e2 hs
    go_enter Try.func40, Try.ntmps40
    go_wp2_with fail
    refine IS.out.mono ?_
    rintro e w1 ⟨rfl, hwx⟩; have hwx2 := hwx.symm; subst hwx2; clear hwx
    go_wp2_with fail
    go_ret
    exact ⟨rfl, U.out⟩
end Go.Proofs.Ytbdlamlplfogjaa
namespace Go.Proofs.Ytbdlamlplfogjaa
open Go.RowKit Go.Maps Go.Joins
variable {Q : Nat → Prop} {w w' : World} {d : Nat} {S : St} {T : Nat → Nat → List ByteArray} {R : Lr}

theorem take_at_app {α : Type} {xs news : List α} {n sz k : Nat} (hx : xs.length = n * sz) (hn : news.length = sz) : (k < n → ((xs ++ news).drop (k * sz)).take sz = (xs.drop (k * sz)).take sz) ∧ ((xs ++ news).drop (n * sz)).take sz = news := by
  refine ⟨fun hk => ?_, ?_⟩
  · have h1 : k * sz + sz ≤ n * sz := by rw [← Nat.succ_mul]; exact Nat.mul_le_mul_right _ hk
    rw [List.drop_append_of_le_length (by omega), List.take_append_of_le_length (by rw [List.length_drop]; omega)]
  · rw [← hx, List.drop_left, ← hn, List.take_length]
theorem rwR.push {t e : TypeId} {z : Value} {sz by' : Nat} (Rr : Rw t e z sz by') {v : Value} {n : Nat} {R1 : Nat → List Value → Prop} (h : rwR w Q e sz v n R1) (hn : n ≤ 10000000) {W : World} (gW : w.grownBy W none) {B : Nat} (hB : W.heap[B]? = some (.cells #[] e (0, 0))) (hBn : w.heap.size ≤ B) (news : List Value) (hnl : news.length = sz) (h1 : ∀ u ∈ news, u.oneCell' = true) :
    ∃ p6 c6 W6, (∀ ty, (Builtin.append_ #[t, t] ty #[.slice (some ⟨B, 0, none⟩) 0 0, v]).run Try.prog W = .ok (.slice p6 n c6) W6) ∧ w.grownBy W6 none ∧ W.grownBy W6 (some B) ∧
      ∀ W7 B1, W6.grownBy W7 none → W7.heap[B1]? = some (.cells news.toArray e (0, 0)) → ∃ p9 c9 W9, (∀ ty, (Builtin.append_ #[t, t] ty #[.slice p6 n c6, .slice (some ⟨B1, 0, none⟩) 1 1]).run Try.prog W7 = .ok (.slice p9 (n + 1) c9) W9) ∧ w.grownBy W9 none ∧
        ∀ (Q' : Nat → Prop), (∀ x, w.heap.size ≤ x → x < W9.heap.size → Q' x) → ∀ (R2 : Nat → List Value → Prop), (∀ k ys, k < n → R1 k ys → R2 k ys) → R2 n news → rwR W9 Q' e sz (.slice p9 (n + 1) c9) (n + 1) R2 := by
  obtain ⟨xs, s1, s2, s3, s4⟩ := h
  obtain ⟨v6, W6, hr, t6, g6, o6⟩ := Rr.cp s1 s3 gW hB (by omega)
  obtain ⟨p6, c6, rfl, _⟩ := t6.form
  have gA : w.grownBy W6 none := grown_new gW g6 (fun g hg => by cases hg; exact hBn)
  refine ⟨p6, c6, W6, hr, gA, g6, fun W7 B1 g7 hB1 => ?_⟩
  have t7 := t6.kept (Chg.of_none g7 (fun _ => False)) (fun _ _ e => e)
  obtain ⟨v9, W9, hr9, t9, g9, o9⟩ := Rr.app (c := 1) t7 (m := 1) (news := news) (by omega) (one_of hB1) h1 (by omega) (by omega)
  obtain ⟨p9, c9, rfl, _⟩ := t9.form
  have ob : ∀ g, (Value.slice p6 n c6).ownBlock = some g → w.heap.size ≤ g := fun g hg => by
    rcases (o6 g hg).1 with e | e
    · rw [e]; exact hBn
    · exact Nat.le_trans gW.size e
  have gB : w.grownBy W9 none := grown_new (grown_none_trans gA g7) g9 ob
  refine ⟨p9, c9, W9, hr9, gB, fun Q' hq R2 hr2 hnw => ⟨xs ++ news, t9, fun g hg => hq g ?_ (t9.kd g hg).2, fun u hu => ?_, fun k hk => ?_⟩⟩
  · rcases o9 with e | ⟨g', e, h2, _⟩
    · exact ob g (by rw [← e]; exact hg)
    · rw [hg] at e; cases e
      exact Nat.le_trans (Nat.le_trans gA.size g7.size) h2
  · rcases List.mem_append.1 hu with e | e
    · exact s3 u e
    · exact h1 u e
  · by_cases e : k < n
    · rw [(take_at_app s1.1 hnl).1 e]; exact hr2 k _ e (s4 k e)
    · obtain rfl : k = n := by omega
      rw [(take_at_app (k := 0) s1.1 hnl).2]; exact hnw
theorem byV.one {v : Value} {x : ByteArray} (h : byV w Q v x) : v.oneCell' = true := by obtain ⟨p, c, rfl, _⟩ := h; rfl
theorem byV.kept {v : Value} {x : ByteArray} (h : byV w Q v x) (hb : ∀ b, Q b → b < w.heap.size) (hg : w.grownBy w' none) {Q' : Nat → Prop} (hq : ∀ b, Q b → Q' b) : byV w' Q' v x := h.mv (Chg.of_none hg (fun _ => False)) (fun _ _ _ e => e) hb hq
/-- a packet as the document has it -/
def rpL (p : Pk) (bv : Value) : List Value := [.int .i64 (pkFr p : Int), .int .i64 (pkTo p : Int), .bool p.ack, .int .u64 (p.s : Int), .int .u64 (p.e : Int), bv]
/-- the packet laid behind what is in the air, ahead of the walk -/
theorem RL.fly_lay (h : RL Q w d S T R) (p : Pk) {bv : Value} (hv : byV w Q bv p.x) (hl : S.fl.length < 4096) {W : World} (gW : w.grownBy W none) {B : Nat} (hB : W.heap[B]? = some (.cells #[] 97 (0, 0))) (hBn : w.heap.size ≤ B) :
    ∃ p6 c6 W6, (∀ ty, (Builtin.append_ #[44, 44] ty #[.slice (some ⟨B, 0, none⟩) 0 0, R.av]).run Try.prog W = .ok (.slice p6 S.fl.length c6) W6) ∧ w.grownBy W6 none ∧ W.grownBy W6 (some B) ∧
      ∀ W7 B1, W6.grownBy W7 none → W7.heap[B1]? = some (.cells (rpL p bv).toArray 97 (0, 0)) → ∃ p9 c9 W9, (∀ ty, (Builtin.append_ #[44, 44] ty #[.slice p6 S.fl.length c6, .slice (some ⟨B1, 0, none⟩) 1 1]).run Try.prog W7 = .ok (.slice p9 (S.fl.length + 1) c9) W9) ∧ w.grownBy W9 none ∧ RU Q w d { S with fl := S.fl ++ [p] } T (W9.setCell ⟨d, 3, none⟩ (.slice p9 (S.fl.length + 1) c9)) := by
  obtain ⟨p6, c6, W6, k1, k2, k3, k4⟩ := h.ar.push rwA (by omega) gW hB hBn (rpL p bv) rfl (by intro u hu; simp only [rpL, List.mem_cons, List.mem_nil_iff, or_false] at hu; rcases hu with rfl | rfl | rfl | rfl | rfl | rfl <;> first | rfl | exact hv.one)
  refine ⟨p6, c6, W6, k1, k2, k3, fun W7 B1 g7 hB1 => ?_⟩
  obtain ⟨p9, c9, W9, r1, r2, r3⟩ := k4 W7 B1 g7 hB1
  refine ⟨p9, c9, W9, r1, r2, ?_⟩
  have H9 := h.away (Q' := ext Q w W9) (Chg.of_none r2 (fun _ => False)) (fun _ _ e => e) (fun _ => ext_le) (ext_pb h.pb r2.size)
  have hq : ∀ x, w.heap.size ≤ x → x < W9.heap.size → ext Q w W9 x := fun x h1 h2 => ext_new h1 h2
  have hrow := r3 (ext Q w W9) hq (aiR W9 (ext Q w W9) (S.fl ++ [p])) (fun k ys hk hr m hm => by
    rw [List.getElem?_append_left hk] at hm
    obtain ⟨bv', e, hv'⟩ := hr m hm
    exact ⟨bv', e, hv'.kept h.pb r2 (fun _ => ext_le)⟩) (fun m hm => by
    rw [List.getElem?_append_right (Nat.le_refl _), Nat.sub_self] at hm
    cases hm
    exact ⟨bv, rfl, hv.kept h.pb r2 (fun _ => ext_le)⟩)
  rw [show S.fl.length + 1 = (S.fl ++ [p]).length by simp] at hrow
  have HF := H9.setA hrow
  rw [show (S.fl ++ [p]).length = S.fl.length + 1 by simp] at HF
  refine ⟨_, HF.away (Chg.refl (fun _ => False) _) (fun _ _ e => e) (fun x hx => ?_) (fun x hx => ?_), ?_⟩
  · rcases hx with e | e
    · exact Or.inl e
    · exact Or.inr ⟨e.1, by rw [World.size_setCell]; exact e.2⟩
  · rcases hx with e | e
    · rw [World.size_setCell]; exact Nat.lt_of_lt_of_le (h.pb x e) r2.size
    · exact e.2
  · exact (Chg.of_none r2 _).set _ _ ⟨h.qd, by rw [show kd w (Addr.block ⟨d, 3, none⟩) = _ from h.kb.1]; decide⟩
end Go.Proofs.Ytbdlamlplfogjaa
