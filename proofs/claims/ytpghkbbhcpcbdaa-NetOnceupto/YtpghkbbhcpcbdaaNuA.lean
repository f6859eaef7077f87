/-
  Walks: a new network; the document's; a place among so many; bytes of one's own.
-/
import Derived.Test.YtpghkbbhcpcbdaaNtT
namespace Go.Proofs.Ytpghkbbhcpcbdaa
open Go.RowKit Go.Maps Go.Joins
variable {P : Nat → Prop} {w w' : World} {n c : Nat} {S : St} {L : Ly}

/-- a net of nodes that nothing has come to -/
def st0 (N : Nat) : St := ⟨N, fun _ => false, fun _ => [], fun _ _ => ⟨0, 0, 0, []⟩, []⟩
/-- all that is new -/
def newP (w w' : World) : Nat → Prop := fun i => w.heap.size ≤ i ∧ i < w'.heap.size
theorem made_get (z : Array Value) (k j : Nat) (h : j < k) (h0 : 0 < z.size) : (madeCells z k)[j]? = z[j % z.size]? := by
  have hm : j % z.size < z.size := Nat.mod_lt _ h0
  have e : z[j % z.size]! = z[j % z.size]'hm := getElem!_pos z (j % z.size) hm
  simp [madeCells, h, e, Array.getElem?_eq_getElem hm]
theorem Wm_mk (w : World) {N : Nat} (hN : N ≤ 64) : Wm (w.alloc (.map #[] 0)) w.heap.size 0 N (fun _ _ => zW) := ⟨0, _, World.ownsMap_made w _ _ _, Nat.le_refl _, hN, (fun kl h => by simp [Maps.has_eq] at h), fun _ _ _ _ => rfl⟩
/-- a make of a row, laid ahead -/
theorem Rw.make {t e : TypeId} {z : Value} {sz by' : Nat} (R : Rw t e z sz by') (w : World) (k : Nat) (hk : k ≤ 1000000000) : ∃ w' cur, (Instr.makeSlice t (.int .i64 (k : Int)) (.int .i64 (k : Int))).run Try.prog w = .ok (.slice (some ⟨w.heap.size, 0, none⟩) k k) w' ∧ w'.heap[w.heap.size]? = some (.cells cur e (0, 0)) ∧ cur.size = k * sz ∧ (∀ j, j < k * sz → cur[j]? = z.cells[j % sz]?) ∧ w.grownBy w' none := by
  obtain ⟨i, hi, hz, hs, hb⟩ := info_parts R.inf
  have hsm := R.sm
  have hbb : i.bytes * k ≤ 281474976710656 := by
    have : i.bytes * k ≤ 64 * 1000000000 := Nat.mul_le_mul (by omega) hk
    omega
  obtain ⟨w', hr, ho, hg⟩ := run_make_full (P := Try.prog) w w.heap.size t e i z sz R.sl hi hz hs .i64 .i64 k hbb (by unfold maxLen; omega) (Nat.le_refl _)
  rcases ho.2 with ⟨e1, _⟩ | ⟨g, cap, cur, e1, _, hc, hn, _, hsz, ht⟩
  · cases e1
  · cases e1
    refine ⟨w', cur, hr, hc, hsz, fun j hj => ?_, hg⟩
    have : cur.toList = (madeCells z.cells (k * sz)).toList := by
      rw [← ht, List.take_of_length_le (by rw [Array.length_toList]; omega)]
    have e2 : cur = madeCells z.cells (k * sz) := Array.toList_inj.1 this
    rw [e2, made_get _ _ _ hj (by rw [R.zs]; exact R.pos), R.zs]
theorem wp_make (t : TypeId) {ops : Array Oper} {rest : List Oper} {o : Oper} {a : Act} {w : World} {Q : Exit → Act → World → Prop} (hgd : o.guard = none) (l c : Operand) (ho : o.op = .makeSlice t l c)
    {v y v' : Value} {w' : World} (hs : a.eval l = v) (hx : a.eval c = y) (hr : (Instr.makeSlice t v y).run Try.prog w = .ok v' w') (h : wpList Try.prog ops Q rest (a.put o.dst v') w') : wpList Try.prog ops Q (o :: rest) a w := by
  refine wpList_plain hgd fun K hK => ?_
  unfold Oper.wp
  simp [execOp, ho, hs, hx, hr, Result.andThen]
  exact hK _ _ h
theorem mkMap (w : World) : (Instr.makeMap 70 none).run Try.prog w = .ok (.map (some w.heap.size)) (w.alloc (.map #[] 0)) := by kernel_rfl
/-- what New answers -/
def NwQ (w : World) (N : Nat) (r : Ending) (w' : World) : Prop := ∃ n L, r = .returned (.tuple #[.pointer (some ⟨n, 0, none⟩), .int .i64 0]) ∧ NetL (newP w w') w' n 0 (st0 N) L ∧ w.grownBy w' none
set_option maxHeartbeats 1000000 in
set_option maxRecDepth 100000 in
theorem New_ok (N : Nat) (h1 : 1 ≤ N) (h64 : N ≤ 64) : Calls Try.prog 24 #[.int .i64 N] w (NwQ w N) := by
  obtain ⟨w1, cur, hr, hb, hsz, hcs, hg⟩ := rwN.make w N (by omega)
  have i1 : ¬ (N : Int) < 1 := by omega
  have i2 : ¬ (64 : Int) < (N : Int) := by omega
  have FN : Hid (∃ L, NetL (newP w ((w1.alloc (.map #[] 0)).alloc (.cells #[.slice (some ⟨w.heap.size, 0, none⟩) N N, .map (some w1.heap.size), .slice none 0 0] 73))) ((w1.alloc (.map #[] 0)).alloc (.cells #[.slice (some ⟨w.heap.size, 0, none⟩) N N, .map (some w1.heap.size), .slice none 0 0] 73)) (w1.heap.size + 1) 0 (st0 N) L) := by
    have lt1 := lt_of_heap hb
    have ss : ((w1.alloc (.map #[] 0)).alloc (.cells #[.slice (some ⟨w.heap.size, 0, none⟩) N N, .map (some w1.heap.size), .slice none 0 0] 73)).heap.size = w1.heap.size + 2 := by simp
    have g2 := grown_al (World.grownBy_alloc w1 (.map #[] 0) none) (.cells #[.slice (some ⟨w.heap.size, 0, none⟩) N N, .map (some w1.heap.size), .slice none 0 0] 73)
    refine ⟨⟨w.heap.size, N, w1.heap.size, .slice none 0 0, fun _ => .slice none 0 0, fun _ _ => .slice none 0 0⟩, fun i hi => hi.2, ⟨by omega, by omega⟩, ⟨Nat.le_refl _, show w.heap.size < _ by omega⟩, ⟨hg.size, show w1.heap.size < _ by omega⟩, h1, h64, al2_snd w1 _ _, ⟨cur, box_keep hb g2 (by simp), Nat.le_refl _, show N ≤ maxLen by unfold maxLen; omega, hsz, fun i hi => ?_⟩, fun i hi => shr_nil _ _ _, fun i hi g hgg => by simp [Value.ownBlock] at hgg, fun i j hi hj hne g hgg => by simp [Value.ownBlock] at hgg, (Wm_mk w1 h64).kept (Chg.of_alloc _ _ (fun _ => False)) (fun e => e), fun i j hi hj => shr_nil _ _ _, fun i j hi hj g hgg => by simp [Value.ownBlock] at hgg, fun i j k l hi hj hk hl hne g hgg => by simp [Value.ownBlock] at hgg, shr_nil _ _ _, fun g hgg => by simp [Value.ownBlock] at hgg⟩
    have hi : i < N := hi
    have a0 := hcs (i * 2) (by omega)
    have a1 := hcs (i * 2 + 1) (by omega)
    rw [show i * 2 % 2 = 0 by omega] at a0
    rw [show (i * 2 + 1) % 2 = 1 by omega] at a1
    exact ⟨a0, a1⟩
  have HG := mkHid hg
  have mm := mkMap w1
  clear hb hsz hcs hg
  go_enter Try.func24, Try.ntmps24
  go_wp2_with (first | (at_make; refine wp_make 65 rfl (.tmp 10) (.tmp 10) rfl rfl rfl hr ?_) | fail)
  go_ret2
  obtain ⟨L, hL⟩ := FN.out
  exact ⟨_, L, rfl, hL, grown_al (grown_al HG.out _) _⟩
set_option maxHeartbeats 1000000 in
set_option maxRecDepth 100000 in
theorem New_bad (N : Int) (h : N < 1 ∨ 64 < N) : Calls Try.prog 24 #[.int .i64 N] w fun e w' => e = .returned (.tuple #[.pointer none, .int .i64 1]) ∧ w' = w := by
  by_cases h1 : N < 1
  · go_enter Try.func24, Try.ntmps24
    go_wp2_with fail
    go_ret2
    exact ⟨rfl, rfl⟩
  · have h2 : 64 < N := by omega
    clear h
    go_enter Try.func24, Try.ntmps24
    go_wp2_with fail
    go_ret2
    exact ⟨rfl, rfl⟩
set_option maxHeartbeats 1000000 in
set_option maxRecDepth 100000 in
theorem refNew_bad (N : Int) (h : N < 1 ∨ 64 < N) : Calls Try.prog 25 #[.int .i64 N] w fun e w' => e = .returned (.tuple #[.pointer none, .int .i64 1]) ∧ w' = w := by
  by_cases h1 : N < 1
  · go_enter Try.func25, Try.ntmps25
    go_wp2_with fail
    go_ret2
    exact ⟨rfl, rfl⟩
  · have h2 : 64 < N := by omega
    clear h
    go_enter Try.func25, Try.ntmps25
    go_wp2_with fail
    go_ret2
    exact ⟨rfl, rfl⟩
end Go.Proofs.Ytpghkbbhcpcbdaa
