/-
 The walks of slices.Grow (of none) and of slices.Concat, at entries and at nodes.
-/
import Derived.Test.YtclcajnodoifjaaGreatDoorIAF
import Derived.Lib.AppendZerosOnto
import Derived.Deep.RegionHeld3
namespace Go.Proofs.YtclcajnodoifjaaGreatDoor
open Go.RowKit Go.Joins Go.Maps
set_option maxRecDepth 100000

theorem rwEn : Rw 57 65 (.agg #[.slice none 0 0, .int .u64 0]) 2 32 := ⟨by kernel_rfl, by kernel_rfl, rfl, by decide, by decide⟩
theorem rwNd : Rw 58 60 (.agg #[.slice none 0 0, .slice none 0 0]) 2 48 := ⟨by kernel_rfl, by kernel_rfl, rfl, by decide, by decide⟩
theorem rwVa : Rw 30 40 (.agg #[.int .i64 0, .int .i64 0, .string ⟨#[]⟩]) 3 32 := ⟨by kernel_rfl, by kernel_rfl, rfl, by decide, by decide⟩
theorem wp_appz (t tn : TypeId) {ops : Array Oper} {rest : List Oper} {o : Oper} {a : Act} {w : World} {Q : Exit → Act → World → Prop} (hgd : o.guard = none) (s x : Operand) (ho : o.op = .call { callee := .builtin .append, args := #[s, x], argTypes := #[t, tn] })
  {v y v' : Value} {w' : World} (hs : a.eval s = v) (hx : a.eval x = y) (hr : ∀ ty, (Builtin.append_ #[t, tn] ty #[v, y]).run Tryz.prog w = .ok v' w') (h : wpList Tryz.prog ops Q rest (a.put o.dst v') w') : wpList Tryz.prog ops Q (o :: rest) a w := by
 refine wpList_plain hgd fun K hK => ?_
 unfold Oper.wp execOp
 simp only [ho, resolve, invoke, builtin, Sem.run_bind, Sem.run_pure, Result.andThen_ok, List.map_toArray, List.map_cons, List.map_nil, hs, hx, hr]
 exact hK _ _ h
/-- an empty row with room for n -/
theorem Rw.grow {t e : TypeId} {z : Value} {sz by' : Nat} (R : Rw t e z sz by') (w : World) (n : Nat) (h0 : 0 < n) (hn : n ≤ 1000000000) : ∃ cap w', (∀ ty, (Builtin.append_ #[t, 3] ty #[.slice none 0 0, .int .i64 (n : Int)]).run Tryz.prog w = .ok (.slice (some ⟨w.heap.size, 0, none⟩) n cap) w') ∧ n ≤ cap ∧ cap ≤ maxLen ∧ shr w' e sz (.slice (some ⟨w.heap.size, 0, none⟩) 0 cap) 0 [] ∧ w.grownBy w' none ∧ w'.heap.size = w.heap.size + 1 := by
 obtain ⟨i, hi, hz, hs, hb⟩ := info_parts R.inf
 have hsm := R.sm
 have hby : n * i.bytes ≤ 140737488355328 := by
  have : n * i.bytes ≤ 1000000000 * 64 := Nat.mul_le_mul hn (by omega)
  omega
 have hold : (Builtin.firstCells i.size 0 (.slice none 0 0)).run Tryz.prog w.drew = .ok ([] : List Value).toArray w.drew := by
  simp [Builtin.firstCells]
 have hr := fun ty => Lib.run_append_grow_zeros (P := Tryz.prog) w t 3 ty e i z .i64 .i64 R.sl (by kernel_rfl) hi hz none 0 0 [] hold n h0 (by have := R.pos; omega) (by omega) (by omega) (by omega) (growslice_fits (by omega) (by rw [Nat.zero_add]; exact hby))
 rw [Nat.zero_add] at hr
 have hge := grownCap_ge w n 0 e
 have hcm := grownCap_le_maxLen w n 0 e (by unfold maxLen; omega)
 refine ⟨_, _, hr, hge, hcm, ⟨by simp, Or.inr ⟨w.heap.size, 0, _, _, rfl, heap_alloc_new _ _, Nat.zero_le _, hcm, Or.inr ?_, fun j u hj => by simp at hj⟩⟩, ⟨rfl, rfl, rfl, by simp, fun k hk _ => heap_alloc_old _ _ (by simpa using hk)⟩, by simp⟩
 rw [Array.size_append, Array.size_append, size_zeroCells, size_zeroCells, R.zs, ← hs, List.size_toArray, List.length_nil, Nat.zero_add, ← Nat.add_mul, Nat.zero_add]
 exact congrArg (· * i.size) (by omega)
/-- a row of none: nothing is put at its end -/
theorem Rw.app0 {t e : TypeId} {z : Value} {sz by' : Nat} (R : Rw t e z sz by') (w : World) (P : Option Addr) (c : Nat) (hP : P = none → c = 0) : ∀ ty, (Builtin.append_ #[t, t] ty #[.slice none 0 0, .slice P 0 c]).run Tryz.prog w = .ok (.slice none 0 0) w := by
 obtain ⟨i, hi, hz, hs, hb⟩ := info_parts R.inf
 intro ty
 cases P with
 | none => simp [Builtin.append_, run_underlying R.sl, sizeOf, typeInfo, hi, Builtin.lenOf, Builtin.firstCells]
 | some ad => simp [Builtin.append_, run_underlying R.sl, sizeOf, typeInfo, hi, Builtin.lenOf, Builtin.firstCells, loadCells, loadCellsFrom]
/-- a piece of a row that is put together: where it lies, how many elements, its cells -/
structure Pc where
 p : Option Addr
 n : Nat
 c : Nat
 xs : List Value
structure Pc.ok (sz : Nat) (w : World) (x : Pc) : Prop where
 len : x.xs.length = x.n * sz
 nil : x.p = none → x.n = 0 ∧ x.c = 0
 at_ : ∀ ad, x.p = some ad → ∃ g off, ad = ⟨g, off, none⟩ ∧ g < w.heap.size ∧ ∀ j u, x.xs[j]? = some u → w.cell? ⟨g, off + j, none⟩ = some u
 one : ∀ u ∈ x.xs, u.oneCell' = true
def Pc.v (x : Pc) : Value := .slice x.p x.n x.c
theorem Pc.ok.below {sz : Nat} {w w' : World} {x : Pc} (h : x.ok sz w) (hb : Below w.heap.size w w') : x.ok sz w' := ⟨h.len, h.nil, fun ad ha => by
 obtain ⟨g, off, e, hg, hc⟩ := h.at_ ad ha
 exact ⟨g, off, e, Nat.lt_of_lt_of_le hg hb.size, fun j u hj => (hb.cell (p := ⟨g, off + j, none⟩) hg).trans (hc j u hj)⟩, h.one⟩
def sumN (l : List Pc) : Nat := (l.map Pc.n).sum
def catX (l : List Pc) : List Value := l.flatMap Pc.xs
theorem sumN_app (a b : List Pc) : sumN (a ++ b) = sumN a + sumN b := by simp [sumN]
theorem catX_app (a b : List Pc) : catX (a ++ b) = catX a ++ catX b := by simp [catX]
theorem sumN_le {l : List Pc} {k : Nat} {x : Pc} (h : l[k]? = some x) : sumN (l.take k) + x.n ≤ sumN l := by
 obtain ⟨hk, rfl⟩ := List.getElem?_eq_some_iff.1 h
 have e : l = l.take k ++ (l[k] :: l.drop (k + 1)) := by rw [← List.drop_eq_getElem_cons hk, List.take_append_drop]
 have : sumN l = sumN (l.take k) + (l[k].n + sumN (l.drop (k + 1))) := by
  conv => lhs; rw [e]
  rw [sumN_app]; rfl
 omega
theorem sumN_next {l : List Pc} {k : Nat} {x : Pc} (h : l[k]? = some x) : sumN (l.take (k + 1)) = sumN (l.take k) + x.n := by
 rw [List.take_add_one, h, sumN_app]; simp [sumN]
theorem catX_next {l : List Pc} {k : Nat} {x : Pc} (h : l[k]? = some x) : catX (l.take (k + 1)) = catX (l.take k) ++ x.xs := by
 rw [List.take_add_one, h, catX_app]; simp [catX]
/-- what lies in a row of slices -/
def pcsAt (w : World) (G : Nat) (l : List Pc) : Prop := G < w.heap.size ∧ ∀ i x, l[i]? = some x → w.cell? ⟨G, i, none⟩ = some x.v
/-- a new row: of none, or in a block of its own -/
def CcQ (w : World) (e sz n : Nat) (xs : List Value) (en : Ending) (w' : World) : Prop := ∃ v, en = .returned v ∧ shr w' e sz v n xs ∧ (∀ g, v.ownBlock = some g → w.heap.size ≤ g) ∧ Below w.heap.size w w' ∧ (n = 0 → v = .slice none 0 0)
/-- the row that grows in a Concat: of none, or in its block with room for all -/
structure CcI (w wr : World) (e sz tot : Nat) (v : Value) (n : Nat) (xs : List Value) : Prop where
 row : shr wr e sz v n xs
 new : ∀ g, v.ownBlock = some g → w.heap.size ≤ g
 kept : Below w.heap.size w wr
 how : (tot = 0 ∧ v = .slice none 0 0) ∨ (0 < tot ∧ ∃ g cap, v = .slice (some ⟨g, 0, none⟩) n cap ∧ tot ≤ cap)
theorem below_grown {w w' : World} {base g : Nat} (h : w.grownBy w' (some g)) (hg : base ≤ g) (hb : base ≤ w.heap.size) : Below base w w' := ⟨h.os, h.tape, h.output, h.size, fun k hk => h.block k (by omega) (fun e => by cases e; omega)⟩
theorem below_none {w w' : World} {base : Nat} (h : w.grownBy w' none) (hb : base ≤ w.heap.size) : Below base w w' := ⟨h.os, h.tape, h.output, h.size, fun k hk => h.block k (by omega) (by simp)⟩
theorem CcI.next {t e : TypeId} {z : Value} {sz by' : Nat} (R : Rw t e z sz by') {w wr : World} {tot n : Nat} {v : Value} {xs : List Value} {x : Pc} (h : CcI w wr e sz tot v n xs) (hx : x.ok sz w) (ht : n + x.n ≤ tot) :
  ∃ v' w', (∀ ty, (Builtin.append_ #[t, t] ty #[v, .slice x.p x.n x.c]).run Tryz.prog wr = .ok v' w') ∧ CcI w w' e sz tot v' (n + x.n) (xs ++ x.xs) := by
 have hxr := hx.below h.kept
 rcases h.how with ⟨h0, rfl⟩ | ⟨h0, g, cap, rfl, hcap⟩
 ·obtain ⟨rfl, hn⟩ : n = 0 ∧ x.n = 0 := by omega
  have hl := hx.len
  rw [hn] at hl ⊢
  have : x.xs = [] := List.eq_nil_of_length_eq_zero (by simpa using hl)
  rw [this, List.append_nil]
  exact ⟨_, _, R.app0 wr x.p x.c (fun e => (hx.nil e).2), h⟩
 ·obtain ⟨w', r1, r2, r3, r4⟩ := R.fits h.row hx.len hx.nil (fun ad ha j u hj => by
   obtain ⟨g, off, rfl, _, hc⟩ := hxr.at_ ad ha
   rw [add_plain]; exact hc j u hj) hx.one (by omega)
  exact ⟨_, _, r1, r2, h.new, h.kept.trans (below_grown r3 (h.new g rfl) h.kept.size), Or.inr ⟨h0, g, cap, rfl, hcap⟩⟩
theorem CcI.done {w wr : World} {e : TypeId} {sz tot : Nat} {v : Value} {xs : List Value} (h : CcI w wr e sz tot v tot xs) : CcQ w e sz tot xs (.returned v) wr := ⟨v, rfl, h.row, h.new, h.kept, fun e => by
 rcases h.how with ⟨_, h⟩ | ⟨h0, _⟩
 ·exact h
 ·omega⟩

set_option maxHeartbeats 4000000 in
set_option maxRecDepth 1000000 in
theorem GrowEn (n : Nat) (w : World) (hn : n ≤ 1000000000) :
  Calls Tryz.prog 80 #[.slice none 0 0, .int .i64 (n : Int)] w fun en w' => ∃ v, en = .returned v ∧ CcI w w' 65 2 n v 0 [] := by
 by_cases h0 : n = 0
 ·subst h0
  go_enter Tryz.func80, Tryz.ntmps80
  go_wp2
  go_ret
  exact ⟨_, rfl, shr_nil _ _ _, (fun g hg => by simp [Value.ownBlock] at hg), Below.refl _ _, Or.inl ⟨rfl, rfl⟩⟩
 ·obtain ⟨cap, w2, r, c1, c2, s, g, z⟩ := rwEn.grow w n (by omega) hn
  have HR : Hid (∃ v, Ending.returned (.slice (some ⟨w.heap.size, 0, none⟩) 0 cap) = .returned v ∧ CcI w w2 65 2 n v 0 []) := ⟨_, rfl, s, (fun g hg => by simp [Value.ownBlock] at hg; omega), below_none g (Nat.le_refl _), Or.inr ⟨by omega, _, _, rfl, c1⟩⟩
  have n1 : ¬ ((n : Int) < 0) := by omega
  have n2 : (n : Int) > 0 := by omega
  have c3 : cap ≤ 9223372036854775807 := by unfold maxLen at c2; omega
  clear s g z c2
  go_enter Tryz.func80, Tryz.ntmps80
  go_wp2_with (at_builtin; refine wp_appz 57 3 rfl (.tmp 20) (.tmp 21) rfl rfl (by first | rfl | go_num) r ?_)
  go_ret
  exact HR.out

set_option maxHeartbeats 4000000 in
set_option maxRecDepth 1000000 in
theorem GrowNd (n : Nat) (w : World) (hn : n ≤ 1000000000) :
  Calls Tryz.prog 92 #[.slice none 0 0, .int .i64 (n : Int)] w fun en w' => ∃ v, en = .returned v ∧ CcI w w' 60 2 n v 0 [] := by
 by_cases h0 : n = 0
 ·subst h0
  go_enter Tryz.func92, Tryz.ntmps92
  go_wp2
  go_ret
  exact ⟨_, rfl, shr_nil _ _ _, (fun g hg => by simp [Value.ownBlock] at hg), Below.refl _ _, Or.inl ⟨rfl, rfl⟩⟩
 ·obtain ⟨cap, w2, r, c1, c2, s, g, z⟩ := rwNd.grow w n (by omega) hn
  have HR : Hid (∃ v, Ending.returned (.slice (some ⟨w.heap.size, 0, none⟩) 0 cap) = .returned v ∧ CcI w w2 60 2 n v 0 []) := ⟨_, rfl, s, (fun g hg => by simp [Value.ownBlock] at hg; omega), below_none g (Nat.le_refl _), Or.inr ⟨by omega, _, _, rfl, c1⟩⟩
  have n1 : ¬ ((n : Int) < 0) := by omega
  have n2 : (n : Int) > 0 := by omega
  have c3 : cap ≤ 9223372036854775807 := by unfold maxLen at c2; omega
  clear s g z c2
  go_enter Tryz.func92, Tryz.ntmps92
  go_wp2_with (at_builtin; refine wp_appz 58 3 rfl (.tmp 20) (.tmp 21) rfl rfl (by first | rfl | go_num) r ?_)
  go_ret
  exact HR.out

set_option maxHeartbeats 8000000 in
set_option maxRecDepth 1000000 in
theorem ConcatEn (G c : Nat) (l : List Pc) (w : World) (hl : l.length ≤ 1000) (hp : pcsAt w G l) (ho : ∀ x ∈ l, x.ok 2 w) (hs : sumN l ≤ 1000000000) :
  Calls Tryz.prog 52 #[.slice (some ⟨G, 0, none⟩) l.length c] w fun en w' => CcQ w 65 2 (sumN l) (catX l) en w' := by
 have GR : Hid (∀ w, Calls Tryz.prog 80 #[.slice none 0 0, .int .i64 (sumN l : Int)] w fun en w' => ∃ v, en = .returned v ∧ CcI w w' 65 2 (sumN l) v 0 []) := fun w => GrowEn _ w hs
 go_enter Tryz.func52, Tryz.ntmps52
 go_wp2_with fail
 go_loopw [3, 11] (fun s3 sk wr => ∃ k : Nat, sk = .int .i64 k ∧ s3 = .int .i64 (sumN (l.take k) : Int) ∧ k ≤ l.length ∧ wr = w) (fun _ sk _ => l.length - (intOf sk).toNat)
 case atStart => exact ⟨0, rfl, by simp [sumN], Nat.zero_le _, rfl⟩
 case round =>
  obtain ⟨k, rfl, rfl, hk, hw⟩ := hrel
  have hw2 := hw.symm
  subst hw2
  clear hw
  by_cases hlt : k < l.length
  ·obtain ⟨x, hx⟩ : ∃ v, l[k]? = some v := ⟨l[k], List.getElem?_eq_getElem hlt⟩
   have hc := hp.2 k x hx
   have hle := sumN_le hx
   have hnx := sumN_next hx
   have hgl := hp.1
   unfold Pc.v at hc
   clear hp ho GR
   generalize sumN (l.take k) = m at *
   have nn : ¬ ((m : Int) + (x.n : Int) < 0) := by omega
   go_wp2_with fail
   go_roundw
   case rel => exact ⟨k + 1, by go_num, by rw [hnx]; go_num, hlt, by trivial⟩
   case measure => simp [intOf]; omega
  ·obtain rfl : k = l.length := by omega
   rw [List.take_length]
   go_wp2_with fail
   refine (GR.out _).mono ?_
   rintro en w1 ⟨v, rfl, hI⟩
   clear GR
   go_wp2_with fail
   go_loopw [6, 27] (fun s6 sk wr => ∃ k : Nat, sk = .int .i64 k ∧ k ≤ l.length ∧ CcI w wr 65 2 (sumN l) s6 (sumN (l.take k)) (catX (l.take k))) (fun _ sk _ => l.length - (intOf sk).toNat)
   case atStart => exact ⟨0, rfl, Nat.zero_le _, by simpa [sumN, catX] using hI⟩
   case round =>
    obtain ⟨k, rfl, hk, hI⟩ := hrel
    by_cases hlt : k < l.length
    ·obtain ⟨x, hx⟩ : ∃ v, l[k]? = some v := ⟨l[k], List.getElem?_eq_getElem hlt⟩
     have hc := (hI.kept.cell (p := ⟨G, k, none⟩) hp.1).trans (hp.2 k x hx)
     have hgl : G < wr.heap.size := Nat.lt_of_lt_of_le hp.1 hI.kept.size
     obtain ⟨v', w', r, hI'⟩ := hI.next rwEn (ho x (List.mem_of_getElem? hx)) (sumN_le hx)
     rw [← sumN_next hx, ← catX_next hx] at hI'
     have HI : Hid _ := hI'
     unfold Pc.v at hc
     clear hp ho hI hI' hx
     go_wp2_with (at_builtin; refine wp_app 57 rfl (.tmp 31) (.tmp 32) rfl rfl rfl r ?_)
     go_roundw
     case rel => exact ⟨k + 1, by go_num, hlt, HI.out⟩
     case measure => simp [intOf]; omega
    ·obtain rfl : k = l.length := by omega
     rw [List.take_length] at hI
     have HQ := CcI.done hI
     go_wp2_with fail
     go_ret
     exact HQ

set_option maxHeartbeats 8000000 in
set_option maxRecDepth 1000000 in
theorem ConcatNd (G c : Nat) (l : List Pc) (w : World) (hl : l.length ≤ 1000) (hp : pcsAt w G l) (ho : ∀ x ∈ l, x.ok 2 w) (hs : sumN l ≤ 1000000000) :
  Calls Tryz.prog 81 #[.slice (some ⟨G, 0, none⟩) l.length c] w fun en w' => CcQ w 60 2 (sumN l) (catX l) en w' := by
 have GR : Hid (∀ w, Calls Tryz.prog 92 #[.slice none 0 0, .int .i64 (sumN l : Int)] w fun en w' => ∃ v, en = .returned v ∧ CcI w w' 60 2 (sumN l) v 0 []) := fun w => GrowNd _ w hs
 go_enter Tryz.func81, Tryz.ntmps81
 go_wp2_with fail
 go_loopw [3, 11] (fun s3 sk wr => ∃ k : Nat, sk = .int .i64 k ∧ s3 = .int .i64 (sumN (l.take k) : Int) ∧ k ≤ l.length ∧ wr = w) (fun _ sk _ => l.length - (intOf sk).toNat)
 case atStart => exact ⟨0, rfl, by simp [sumN], Nat.zero_le _, rfl⟩
 case round =>
  obtain ⟨k, rfl, rfl, hk, hw⟩ := hrel
  have hw2 := hw.symm
  subst hw2
  clear hw
  by_cases hlt : k < l.length
  ·obtain ⟨x, hx⟩ : ∃ v, l[k]? = some v := ⟨l[k], List.getElem?_eq_getElem hlt⟩
   have hc := hp.2 k x hx
   have hle := sumN_le hx
   have hnx := sumN_next hx
   have hgl := hp.1
   unfold Pc.v at hc
   clear hp ho GR
   generalize sumN (l.take k) = m at *
   have nn : ¬ ((m : Int) + (x.n : Int) < 0) := by omega
   go_wp2_with fail
   go_roundw
   case rel => exact ⟨k + 1, by go_num, by rw [hnx]; go_num, hlt, by trivial⟩
   case measure => simp [intOf]; omega
  ·obtain rfl : k = l.length := by omega
   rw [List.take_length]
   go_wp2_with fail
   refine (GR.out _).mono ?_
   rintro en w1 ⟨v, rfl, hI⟩
   clear GR
   go_wp2_with fail
   go_loopw [6, 27] (fun s6 sk wr => ∃ k : Nat, sk = .int .i64 k ∧ k ≤ l.length ∧ CcI w wr 60 2 (sumN l) s6 (sumN (l.take k)) (catX (l.take k))) (fun _ sk _ => l.length - (intOf sk).toNat)
   case atStart => exact ⟨0, rfl, Nat.zero_le _, by simpa [sumN, catX] using hI⟩
   case round =>
    obtain ⟨k, rfl, hk, hI⟩ := hrel
    by_cases hlt : k < l.length
    ·obtain ⟨x, hx⟩ : ∃ v, l[k]? = some v := ⟨l[k], List.getElem?_eq_getElem hlt⟩
     have hc := (hI.kept.cell (p := ⟨G, k, none⟩) hp.1).trans (hp.2 k x hx)
     have hgl : G < wr.heap.size := Nat.lt_of_lt_of_le hp.1 hI.kept.size
     obtain ⟨v', w', r, hI'⟩ := hI.next rwNd (ho x (List.mem_of_getElem? hx)) (sumN_le hx)
     rw [← sumN_next hx, ← catX_next hx] at hI'
     have HI : Hid _ := hI'
     unfold Pc.v at hc
     clear hp ho hI hI' hx
     go_wp2_with (at_builtin; refine wp_app 58 rfl (.tmp 31) (.tmp 32) rfl rfl rfl r ?_)
     go_roundw
     case rel => exact ⟨k + 1, by go_num, hlt, HI.out⟩
     case measure => simp [intOf]; omega
    ·obtain rfl : k = l.length := by omega
     rw [List.take_length] at hI
     have HQ := CcI.done hI
     go_wp2_with fail
     go_ret
     exact HQ
end Go.Proofs.YtclcajnodoifjaaGreatDoor

namespace Go.Proofs.YtclcajnodoifjaaGreatDoor
open Go.RowKit Go.Shelf Go.Joins Go.Maps
set_option maxRecDepth 100000

/-- an entry in memory: its key lies in the block g -/
structure Em where
 e : En
 g : Nat
 c : Nat
def emE (q : Em) : List Value := [.slice (some ⟨q.g, 0, none⟩) q.e.key.length q.c, .int .u64 q.e.id]
abbrev emV (q : Em) : Value := enV (some ⟨q.g, 0, none⟩) q.c q.e
def hdE (h : Value × Value) : List Value := [h.1, h.2]
theorem emE_len (q : Em) : (emE q).length = 2 := rfl
theorem hdE_len (h : Value × Value) : (hdE h).length = 2 := rfl
theorem emE_one (c : Em) : ∀ u ∈ emE c, u.oneCell' = true := by intro u hu; simp only [emE, List.mem_cons, List.not_mem_nil, or_false] at hu; rcases hu with rfl | rfl <;> rfl
def ltM (a b : Em) : Bool := ltE a.e b.e
theorem ord3M : Ord3 ltM := ⟨fun h => ord3E.asym h, fun h1 h2 => ord3E.lt_le h1 h2, fun h1 h2 => ord3E.le_lt h1 h2⟩
/-- the key of an entry lies in a block of T -/
structure KeyOk (T : Nat → Prop) (w : World) (q : Em) : Prop where
 own : T q.g
 vals : valsAt w q.g q.e.key
 pos : 0 < q.e.key.length
 few : q.e.key.length ≤ 4
 cap : q.e.key.length ≤ q.c
 fits : ∀ v ∈ q.e.key, fit v.n
theorem KeyOk.at_ {T : Nat → Prop} {w : World} {q : Em} (h : KeyOk T w q) : EnAt w (some ⟨q.g, 0, none⟩) q.e := ⟨Or.inr ⟨q.g, rfl, h.vals⟩, h.fits⟩
/-- no row or box that lies in T has changed -/
def Keeps (T : Nat → Prop) (w w' : World) : Prop := w.heap.size ≤ w'.heap.size ∧ ∀ b cs t z, T b → w.heap[b]? = some (.cells cs t z) → w'.heap[b]? = some (.cells cs t z)
theorem Keeps.of_below {T : Nat → Prop} {w w' : World} (h : Below w.heap.size w w') : Keeps T w w' := ⟨h.size, fun b _ _ _ _ hb => (h.block b (lt_of_heap hb)).trans hb⟩
theorem Keeps.of_chg {T S : Nat → Prop} {w w' : World} (h : Chg S w w') (hn : ∀ b, T b → b < w.heap.size → ¬ S b) : Keeps T w w' := ⟨h.size, fun b _ _ _ ht hb => h.at_ hb (hn b ht (lt_of_heap hb))⟩
theorem Keeps.trans {T : Nat → Prop} {a b c : World} (h : Keeps T a b) (k : Keeps T b c) : Keeps T a c := ⟨Nat.le_trans h.1 k.1, fun i _ _ _ ht hi => k.2 i _ _ _ ht (h.2 i _ _ _ ht hi)⟩
theorem cells_of_cell {w : World} {b o : Nat} {v : Value} (h : w.cell? ⟨b, o, none⟩ = some v) : ∃ cs t z, w.heap[b]? = some (.cells cs t z) := by
 unfold World.cell? at h
 cases ho : w.heap[b]? with
 | none => simp [ho] at h
 | some x => cases x <;> simp_all
theorem Keeps.cell {T : Nat → Prop} {w w' : World} (h : Keeps T w w') {b o : Nat} {v : Value} (ht : T b) (hc : w.cell? ⟨b, o, none⟩ = some v) : w'.cell? ⟨b, o, none⟩ = some v := by
 obtain ⟨cs, t, z, hb⟩ := cells_of_cell hc
 rw [cell_of_block (h.2 b cs t z ht hb)]
 rw [cell_of_block hb] at hc
 exact hc
theorem valsAt.keeps {T : Nat → Prop} {w w' : World} {g : Nat} {l : List Va} (h : valsAt w g l) (ht : T g) (hk : Keeps T w w') : valsAt w' g l :=
 ⟨Nat.lt_of_lt_of_le h.1 hk.1, fun i v hv => by
  have := h.2 i v hv
  exact ⟨hk.cell ht this.1, hk.cell ht this.2.1, hk.cell ht this.2.2⟩⟩
theorem KeyOk.keeps {T : Nat → Prop} {w w' : World} {q : Em} (h : KeyOk T w q) (hk : Keeps T w w') : KeyOk T w' q := ⟨h.own, h.vals.keeps h.own hk, h.pos, h.few, h.cap, h.fits⟩
theorem KeyOk.mono {T U : Nat → Prop} {w : World} {q : Em} (h : KeyOk T w q) (hu : ∀ b, b < w.heap.size → T b → U b) : KeyOk U w q := ⟨hu _ h.vals.1 h.own, h.vals, h.pos, h.few, h.cap, h.fits⟩
/-- a row of a slice in a block of T -/
def rowT (T : Nat → Prop) (w : World) (e : TypeId) (sz : Nat) (v : Value) (n : Nat) (xs : List Value) : Prop := shr w e sz v n xs ∧ ∀ g, v.ownBlock = some g → T g
theorem rowT.keeps {T : Nat → Prop} {w w' : World} {e : TypeId} {sz n : Nat} {v : Value} {xs : List Value} (h : rowT T w e sz v n xs) (hk : Keeps T w w') : rowT T w' e sz v n xs := by
 refine ⟨⟨h.1.1, ?_⟩, h.2⟩
 rcases h.1.2 with h1 | ⟨g, off, cap, cur, rfl, hg, r⟩
 ·exact Or.inl h1
 ·exact Or.inr ⟨g, off, cap, cur, rfl, hk.2 g _ _ _ (h.2 g rfl) hg, r⟩
theorem rowT.mono {T U : Nat → Prop} {w : World} {e : TypeId} {sz n : Nat} {v : Value} {xs : List Value} (h : rowT T w e sz v n xs) (hu : ∀ b, b < w.heap.size → T b → U b) : rowT U w e sz v n xs := ⟨h.1, fun g hg => hu g (h.1.kd g hg).2 (h.2 g hg)⟩
/-- entries in memory -/
def entIn (T : Nat → Prop) (w : World) (es : List Em) (v : Value) : Prop := rowT T w 65 2 v es.length (fl emE es) ∧ ∀ q ∈ es, KeyOk T w q
theorem entIn.keeps {T : Nat → Prop} {w w' : World} {es : List Em} {v : Value} (h : entIn T w es v) (hk : Keeps T w w') : entIn T w' es v := ⟨h.1.keeps hk, fun q hq => (h.2 q hq).keeps hk⟩
theorem entIn.mono {T U : Nat → Prop} {w : World} {es : List Em} {v : Value} (h : entIn T w es v) (hu : ∀ b, b < w.heap.size → T b → U b) : entIn U w es v := ⟨h.1.mono hu, fun q hq => (h.2 q hq).mono hu⟩
/-- a node in memory, d levels above its leaves: its two slices -/
def ndIn (T : Nat → Prop) (w : World) : Nat → Nd Em → Value → Value → Prop
 | 0, n, v1, v2 => entIn T w n.es v1 ∧ n.ks = [] ∧ v2 = .slice none 0 0
 | d + 1, n, v1, v2 => entIn T w n.es v1 ∧ ∃ hs : List (Value × Value), hs.length = n.ks.length ∧ rowT T w 60 2 v2 n.ks.length (fl hdE hs) ∧ ∀ (i : Nat) (k : Nd Em) (h : Value × Value), n.ks[i]? = some k → hs[i]? = some h → ndIn T w d k h.1 h.2
theorem ndIn.ent {T : Nat → Prop} {w : World} : ∀ {d : Nat} {n : Nd Em} {v1 v2 : Value}, ndIn T w d n v1 v2 → entIn T w n.es v1
 | 0, _, _, _, h => h.1
 | _ + 1, _, _, _, h => h.1
theorem ndIn.keeps {T : Nat → Prop} {w w' : World} (hk : Keeps T w w') : ∀ {d : Nat} {n : Nd Em} {v1 v2 : Value}, ndIn T w d n v1 v2 → ndIn T w' d n v1 v2
 | 0, _, _, _, h => ⟨h.1.keeps hk, h.2⟩
 | d + 1, _, _, _, h => by
  obtain ⟨h1, hs, h2, h3, h4⟩ := h
  exact ⟨h1.keeps hk, hs, h2, h3.keeps hk, fun i k x hi hx => ndIn.keeps hk (h4 i k x hi hx)⟩
theorem ndIn.mono {T U : Nat → Prop} {w : World} (hu : ∀ b, b < w.heap.size → T b → U b) : ∀ {d : Nat} {n : Nd Em} {v1 v2 : Value}, ndIn T w d n v1 v2 → ndIn U w d n v1 v2
 | 0, _, _, _, h => ⟨h.1.mono hu, h.2⟩
 | d + 1, _, _, _, h => by
  obtain ⟨h1, hs, h2, h3, h4⟩ := h
  exact ⟨h1.mono hu, hs, h2, h3.mono hu, fun i k x hi hx => ndIn.mono hu (h4 i k x hi hx)⟩
theorem ndIn.below {T : Nat → Prop} {w w' : World} {d : Nat} {n : Nd Em} {v1 v2 : Value} (h : ndIn T w d n v1 v2) (hb : Below w.heap.size w w') : ndIn T w' d n v1 v2 := h.keeps (Keeps.of_below hb)
/-- a row's slice, and its cells -/
theorem rowT.form {T : Nat → Prop} {w : World} {e : TypeId} {sz n : Nat} {v : Value} {xs : List Value} (h : rowT T w e sz v n xs) : ∃ p c, v = .slice p n c ∧ n ≤ c ∧ (p = none → n = 0 ∧ c = 0) ∧ ∀ ad, p = some ad → ∃ g off, ad = ⟨g, off, none⟩ ∧ g < w.heap.size ∧ ∀ j u, xs[j]? = some u → w.cell? ⟨g, off + j, none⟩ = some u := by
 rcases h.1.2 with ⟨rfl, rfl⟩ | ⟨g, off, cap, cur, rfl, hg, h1, h2, h3, h4⟩
 ·exact ⟨none, 0, rfl, Nat.le_refl _, fun _ => ⟨rfl, rfl⟩, fun ad h => by cases h⟩
 ·exact ⟨_, cap, rfl, h1, (fun h => by cases h), fun ad h => by
   cases h
   exact ⟨g, off, rfl, lt_of_heap hg, fun j u hj => (cell_of_block hg (off + j)).trans (h4 j u hj)⟩⟩
end Go.Proofs.YtclcajnodoifjaaGreatDoor

namespace Go.Proofs.YtclcajnodoifjaaGreatDoor
open Go.RowKit Go.Joins Go.Maps
set_option maxRecDepth 100000

/-- the first elements of a piece, and those from one on -/
def Pc.fst (sz a : Nat) (x : Pc) : Pc := ⟨x.p, a, x.c, x.xs.take (a * sz)⟩
def Pc.lst (sz b : Nat) (x : Pc) : Pc := ⟨x.p.map (fun ad => ad.add (b * sz)), x.n - b, x.c - b, x.xs.drop (b * sz)⟩
theorem Pc.ok.fst {sz a : Nat} {w : World} {x : Pc} (h : x.ok sz w) (ha : a ≤ x.n) : (x.fst sz a).ok sz w := by
 refine ⟨?_, fun e => ?_, fun ad ha => ?_, fun u hu => h.one u (List.mem_of_mem_take hu)⟩
 ·show (x.xs.take (a * sz)).length = a * sz
  rw [List.length_take, h.len, Nat.min_eq_left (Nat.mul_le_mul_right _ ha)]
 ·have := h.nil e
  exact ⟨by show a = 0; omega, this.2⟩
 ·obtain ⟨g, off, e, hg, hc⟩ := h.at_ ad ha
  refine ⟨g, off, e, hg, fun j u hj => hc j u ?_⟩
  have hj : (x.xs.take (a * sz))[j]? = some u := hj
  rw [List.getElem?_take] at hj
  split at hj
  ·exact hj
  ·cases hj
theorem Pc.ok.lst {sz b : Nat} {w : World} {x : Pc} (h : x.ok sz w) : (x.lst sz b).ok sz w := by
 refine ⟨?_, fun e => ?_, fun ad ha => ?_, fun u hu => h.one u (List.mem_of_mem_drop hu)⟩
 ·show (x.xs.drop (b * sz)).length = (x.n - b) * sz
  rw [List.length_drop, h.len, Nat.sub_mul]
 ·have e : x.p.map (fun ad => ad.add (b * sz)) = none := e
  have := h.nil (by simpa using e)
  exact ⟨by show x.n - b = 0; omega, by show x.c - b = 0; omega⟩
 ·have ha : x.p.map (fun ad => ad.add (b * sz)) = some ad := ha
  rw [Option.map_eq_some_iff] at ha
  obtain ⟨ad', e1, rfl⟩ := ha
  obtain ⟨g, off, rfl, hg, hc⟩ := h.at_ ad' e1
  refine ⟨g, off + b * sz, add_plain _ _ _, hg, fun j u hj => ?_⟩
  have hj : (x.xs.drop (b * sz))[j]? = some u := hj
  rw [List.getElem?_drop] at hj
  rw [Nat.add_assoc]
  exact hc _ u hj
/-- a row of its own -/
structure Nw (w0 w : World) (e sz : Nat) (v : Value) (n : Nat) (xs : List Value) : Prop where
 row : shr w e sz v n xs
 new : ∀ g, v.ownBlock = some g → w0.heap.size ≤ g
theorem Nw.below {w0 w w' : World} {e sz n : Nat} {v : Value} {xs : List Value} (h : Nw w0 w e sz v n xs) (hb : Below w.heap.size w w') : Nw w0 w' e sz v n xs :=
 ⟨h.row.kept (chgBl hb) (fun g hg => by have := (h.row.kd g hg).2; show ¬ w.heap.size ≤ g; omega), h.new⟩
theorem Nw.lower {w0 w1 w : World} {e sz n : Nat} {v : Value} {xs : List Value} (h : Nw w1 w e sz v n xs) (hl : w0.heap.size ≤ w1.heap.size) : Nw w0 w e sz v n xs := ⟨h.row, fun g hg => Nat.le_trans hl (h.new g hg)⟩

set_option maxHeartbeats 8000000 in
set_option maxRecDepth 1000000 in
theorem CloneEn (x : Pc) (w : World) (hx : x.ok 2 w) (h0 : 0 < x.n) (hl : x.n ≤ 1000000000) :
  Calls Tryz.prog 58 #[x.v] w fun en w' => ∃ v, en = .returned v ∧ Nw w w' 65 2 v x.n x.xs ∧ Below w.heap.size w w' := by
 obtain ⟨p, n, c, xs⟩ := x
 cases p with
 | none => have := (hx.nil rfl).1; simp at this h0; omega
 | some ad =>
 obtain ⟨g0, off, e0, hg0, hc⟩ := hx.at_ ad rfl
 subst e0
 obtain ⟨cap, w2, r, s, g, z⟩ := rwEn.clone w ⟨g0, off, none⟩ n c xs hx.len (fun j u hj => by rw [add_plain]; exact hc j u hj) h0 hl
 have HR : Hid (∃ v, Ending.returned (.slice (some ⟨w.heap.size + 1, 0, none⟩) n cap) = .returned v ∧ Nw w w2 65 2 v n xs ∧ Below w.heap.size w w2) := ⟨_, rfl, ⟨s, (fun g hg => by simp [Value.ownBlock] at hg; omega)⟩, below_none g (Nat.le_refl _)⟩
 have ne : ∀ w, (binOp .eql 57 (.slice (some ⟨g0, off, none⟩) n c) (.slice none 0 0)).run Tryz.prog w = .ok (.bool false) w := fun w => by kernel_rfl
 unfold Pc.v
 clear s g z hc hx
 go_enter Tryz.func58, Tryz.ntmps58
 go_wp2_with (at_builtin; refine wp_app 57 rfl (.tmp 5) (.tmp 6) rfl rfl rfl r ?_)
 go_ret
 exact HR.out

set_option maxHeartbeats 8000000 in
set_option maxRecDepth 1000000 in
theorem CloneNd (x : Pc) (w : World) (hx : x.ok 2 w) (h0 : 0 < x.n) (hl : x.n ≤ 1000000000) :
  Calls Tryz.prog 90 #[x.v] w fun en w' => ∃ v, en = .returned v ∧ Nw w w' 60 2 v x.n x.xs ∧ Below w.heap.size w w' := by
 obtain ⟨p, n, c, xs⟩ := x
 cases p with
 | none => have := (hx.nil rfl).1; simp at this h0; omega
 | some ad =>
 obtain ⟨g0, off, e0, hg0, hc⟩ := hx.at_ ad rfl
 subst e0
 obtain ⟨cap, w2, r, s, g, z⟩ := rwNd.clone w ⟨g0, off, none⟩ n c xs hx.len (fun j u hj => by rw [add_plain]; exact hc j u hj) h0 hl
 have HR : Hid (∃ v, Ending.returned (.slice (some ⟨w.heap.size + 1, 0, none⟩) n cap) = .returned v ∧ Nw w w2 60 2 v n xs ∧ Below w.heap.size w w2) := ⟨_, rfl, ⟨s, (fun g hg => by simp [Value.ownBlock] at hg; omega)⟩, below_none g (Nat.le_refl _)⟩
 have ne : ∀ w, (binOp .eql 58 (.slice (some ⟨g0, off, none⟩) n c) (.slice none 0 0)).run Tryz.prog w = .ok (.bool false) w := fun w => by kernel_rfl
 unfold Pc.v
 clear s g z hc hx
 go_enter Tryz.func90, Tryz.ntmps90
 go_wp2_with (at_builtin; refine wp_app 58 rfl (.tmp 5) (.tmp 6) rfl rfl rfl r ?_)
 go_ret
 exact HR.out

set_option maxHeartbeats 8000000 in
set_option maxRecDepth 1000000 in
theorem cutEn (x : Pc) (a b : Nat) (w : World) (hx : x.ok 2 w) (hc : x.n ≤ x.c) (ha : 0 < a) (ha2 : a ≤ x.n) (hb : b < x.n) (hl : x.n ≤ 1000000000) :
  Calls Tryz.prog 76 #[x.v, .int .i64 (a : Int), .int .i64 (b : Int)] w fun en w' => ∃ v1 v2, en = .returned (.tuple #[v1, v2]) ∧ Nw w w' 65 2 v1 a (x.xs.take (a * 2)) ∧ Nw w w' 65 2 v2 (x.n - b) (x.xs.drop (b * 2)) ∧ Below w.heap.size w w' := by
 have C1 : Hid (∀ W, Below w.heap.size w W → Calls Tryz.prog 58 #[.slice x.p a x.c] W fun en w' => ∃ v, en = .returned v ∧ Nw W w' 65 2 v a (x.xs.take (a * 2)) ∧ Below W.heap.size W w') := fun W hW => CloneEn (x.fst 2 a) W ((hx.fst ha2).below hW) ha (by show a ≤ _; omega)
 have C2 : Hid (∀ W, Below w.heap.size w W → Calls Tryz.prog 58 #[.slice (x.p.map (fun ad => ad.add (b * 2))) (x.n - b) (x.c - b)] W fun en w' => ∃ v, en = .returned v ∧ Nw W w' 65 2 v (x.n - b) (x.xs.drop (b * 2)) ∧ Below W.heap.size W w') := fun W hW => CloneEn (x.lst 2 b) W (hx.lst.below hW) (by show 0 < x.n - b; omega) (by show x.n - b ≤ _; omega)
 obtain ⟨p, n, c, xs⟩ := x
 cases p with
 | none => have := (hx.nil rfl).1; simp at this hb; omega
 | some ad =>
 obtain ⟨g0, off, e0, hg0, _⟩ := hx.at_ ad rfl
 subst e0
 have e1 : (some (⟨g0, off, none⟩ : Addr)).map (fun ad => ad.add (b * 2)) = some ⟨g0, off + b * 2, none⟩ := by rw [Option.map_some, add_plain]
 simp only [e1] at C2
 clear e1 hx
 unfold Pc.v
 simp only at *
 have a1 : (0 : Int) ≤ (a : Int) := by omega
 have a2 : (a : Int) ≤ (n : Int) := by omega
 have a3 : (a : Int) ≤ (c : Int) := by omega
 have b1 : (0 : Int) ≤ (b : Int) := by omega
 have b2 : (b : Int) ≤ (n : Int) := by omega
 have b3 : (n : Int) ≤ (c : Int) := by omega
 have b4 : ¬ c = b := by omega
 go_enter Tryz.func76, Tryz.ntmps76
 go_wp2_with fail
 go_region_held3 (fun w' => True) (first | go_keep | trivial) (first | (go_at_call 58; refine (C1.out _ (by exact (Below.refl _ w).drew)).mono ?_; rintro e w' ⟨v1, rfl, n1, hb1⟩) | (go_at_call 58; refine (C2.out _ (by exact (Below.refl _ w).drew.trans hb1)).mono ?_; rintro e w' ⟨v2, rfl, n2, hb2⟩))
 all_goals go_wp2_with fail
 all_goals go_ret2
 exact ⟨v1, v2, rfl, (n1.below hb2).lower (Nat.le_refl w.heap.size), n2.lower hb1.size, (Below.refl _ w).drew.trans (hb1.trans (hb2.mono hb1.size))⟩

set_option maxHeartbeats 8000000 in
set_option maxRecDepth 1000000 in
theorem cutNd (x : Pc) (a b : Nat) (w : World) (hx : x.ok 2 w) (hc : x.n ≤ x.c) (ha : 0 < a) (ha2 : a ≤ x.n) (hb : b < x.n) (hl : x.n ≤ 1000000000) :
  Calls Tryz.prog 77 #[x.v, .int .i64 (a : Int), .int .i64 (b : Int)] w fun en w' => ∃ v1 v2, en = .returned (.tuple #[v1, v2]) ∧ Nw w w' 60 2 v1 a (x.xs.take (a * 2)) ∧ Nw w w' 60 2 v2 (x.n - b) (x.xs.drop (b * 2)) ∧ Below w.heap.size w w' := by
 have C1 : Hid (∀ W, Below w.heap.size w W → Calls Tryz.prog 90 #[.slice x.p a x.c] W fun en w' => ∃ v, en = .returned v ∧ Nw W w' 60 2 v a (x.xs.take (a * 2)) ∧ Below W.heap.size W w') := fun W hW => CloneNd (x.fst 2 a) W ((hx.fst ha2).below hW) ha (by show a ≤ _; omega)
 have C2 : Hid (∀ W, Below w.heap.size w W → Calls Tryz.prog 90 #[.slice (x.p.map (fun ad => ad.add (b * 2))) (x.n - b) (x.c - b)] W fun en w' => ∃ v, en = .returned v ∧ Nw W w' 60 2 v (x.n - b) (x.xs.drop (b * 2)) ∧ Below W.heap.size W w') := fun W hW => CloneNd (x.lst 2 b) W (hx.lst.below hW) (by show 0 < x.n - b; omega) (by show x.n - b ≤ _; omega)
 obtain ⟨p, n, c, xs⟩ := x
 cases p with
 | none => have := (hx.nil rfl).1; simp at this hb; omega
 | some ad =>
 obtain ⟨g0, off, e0, hg0, _⟩ := hx.at_ ad rfl
 subst e0
 have e1 : (some (⟨g0, off, none⟩ : Addr)).map (fun ad => ad.add (b * 2)) = some ⟨g0, off + b * 2, none⟩ := by rw [Option.map_some, add_plain]
 simp only [e1] at C2
 clear e1 hx
 unfold Pc.v
 simp only at *
 have a1 : (0 : Int) ≤ (a : Int) := by omega
 have a2 : (a : Int) ≤ (n : Int) := by omega
 have a3 : (a : Int) ≤ (c : Int) := by omega
 have b1 : (0 : Int) ≤ (b : Int) := by omega
 have b2 : (b : Int) ≤ (n : Int) := by omega
 have b3 : (n : Int) ≤ (c : Int) := by omega
 have b4 : ¬ c = b := by omega
 go_enter Tryz.func77, Tryz.ntmps77
 go_wp2_with fail
 go_region_held3 (fun w' => True) (first | go_keep | trivial) (first | (go_at_call 90; refine (C1.out _ (by exact (Below.refl _ w).drew)).mono ?_; rintro e w' ⟨v1, rfl, n1, hb1⟩) | (go_at_call 90; refine (C2.out _ (by exact (Below.refl _ w).drew.trans hb1)).mono ?_; rintro e w' ⟨v2, rfl, n2, hb2⟩))
 all_goals go_wp2_with fail
 all_goals go_ret2
 exact ⟨v1, v2, rfl, (n1.below hb2).lower (Nat.le_refl w.heap.size), n2.lower hb1.size, (Below.refl _ w).drew.trans (hb1.trans (hb2.mono hb1.size))⟩
end Go.Proofs.YtclcajnodoifjaaGreatDoor

