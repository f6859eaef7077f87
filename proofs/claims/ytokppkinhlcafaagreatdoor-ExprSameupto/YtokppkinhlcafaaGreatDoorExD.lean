/-
  The walk of locksteplaw07.Copied.
-/
import Derived.Test.YtokppkinhlcafaaGreatDoorExC
namespace Go.Proofs.YtokppkinhlcafaaGreatDoor
open Go.RowKit Go.Joins
set_option maxRecDepth 100000

theorem exInfo : (Tryz.prog.info? 26).map (fun i => (i.zero, i.size, i.bytes)) = some (some (.agg #[.string ⟨#[]⟩, .slice none 0 0, .int .i64 0, .int .i64 0, .string ⟨#[]⟩, .string ⟨#[]⟩, .string ⟨#[]⟩, .int .i64 0, .int .i64 0]), 9, 120) := by kernel_rfl
theorem exSlice : Tryz.prog.underlying 22 = some (.slice 26) := by kernel_rfl
theorem exC_ones (e : Ex) (P : Option Addr) (C : Nat) : ∀ u ∈ exC e P C, u.oneCell' = true := by
  intro u hu
  simp only [exC, List.mem_cons, List.not_mem_nil, or_false] at hu
  rcases hu with rfl | rfl | rfl | rfl | rfl | rfl | rfl | rfl | rfl <;> rfl
/-- k copies in a row of their own -/
def Cop (W wr : World) (n k : Nat) (l : List Ex) (v : Value) : Prop := ∃ xs, wr.ownsRow W.heap.size 26 9 v k xs ∧ ∀ (j : Nat) (x : Ex), j < k → l[j]? = some x → ∃ Px Cx, exIn wr (fun g => W.heap.size ≤ g ∧ g < wr.heap.size ∧ v.ownBlock ≠ some g) n x (exC x Px Cx) ∧ ∀ (r : Nat) (u : Value), (exC x Px Cx)[r]? = some u → xs[j * 9 + r]? = some u
theorem Cop.zero (W : World) (n : Nat) (l : List Ex) : Cop W (W.alloc (.cells #[] 26)) n 0 l (.slice (some ⟨W.heap.size, 0, none⟩) 0 0) :=
  ⟨[], World.ownsRow_made W #[] 0 (Nat.le_refl _) (by unfold maxLen; omega) rfl, fun j x h => absurd h (Nat.not_lt_zero j)⟩
theorem own_lt {w : World} {base size n : Nat} {e : TypeId} {v : Value} {xs : List Value} (h : w.ownsRow base e size v n xs) {g : Nat} (hg : v.ownBlock = some g) : base ≤ g ∧ g < w.heap.size := by
  rcases h.2 with ⟨rfl, _⟩ | ⟨g', cap, cur, rfl, hb, hcur, _⟩
  · cases hg
  · cases hg
    exact ⟨hb, (Array.getElem?_eq_some_iff.1 hcur).1⟩
theorem Cop.step {W wr w1 w3 : World} {n k : Nat} {l : List Ex} {v v' : Value} {x : Ex} {P : Option Addr} {C : Nat} {xs : List Value} (hown : wr.ownsRow W.heap.size 26 9 v k xs) (hel : ∀ (j : Nat) (x : Ex), j < k → l[j]? = some x → ∃ Px Cx, exIn wr (fun g => W.heap.size ≤ g ∧ g < wr.heap.size ∧ v.ownBlock ≠ some g) n x (exC x Px Cx) ∧ ∀ (r : Nat) (u : Value), (exC x Px Cx)[r]? = some u → xs[j * 9 + r]? = some u)
    (hb : Below W.heap.size W wr) (hx : l[k]? = some x) (h1 : Below wr.heap.size wr w1) (hi : exIn w1 (fun g => wr.heap.size ≤ g ∧ g < w1.heap.size) n x (exC x P C))
    (ho : w3.ownsRow W.heap.size 26 9 v' (k + 1) (xs ++ exC x P C)) (hg : (w1.alloc (.cells (exC x P C).toArray 26)).grownBy w3 v.ownBlock) (hat : v'.ownBlock = v.ownBlock ∨ v'.ownBlock = some (w1.alloc (.cells (exC x P C).toArray 26)).heap.size) : Cop W w3 n (k + 1) l v' := by
  have ga := World.grownBy_alloc w1 (.cells (exC x P C).toArray 26) none
  have hsz : (w1.alloc (.cells (exC x P C).toArray 26)).heap.size = w1.heap.size + 1 := by simp
  have s1 := h1.size
  have s3 := hg.size
  have s0 := hb.size
  refine ⟨_, ho, fun j y hj hy => ?_⟩
  have hxl : xs.length = k * 9 := hown.1
  by_cases hjk : j < k
  · obtain ⟨Px, Cx, i1, i2⟩ := hel j y hjk hy
    refine ⟨Px, Cx, ?_, fun r u hr => ?_⟩
    · have i3 := (i1.below h1).grow ga
      refine exIn.map (fun g o u hS hc => hg.cell hc ?_) (fun g hS => ?_) i3
      · exact fun e => hS.2.2 e.symm
      · refine ⟨hS.1, by omega, ?_⟩
        rcases hat with e | e
        · rw [e]; exact hS.2.2
        · rw [e]; intro e2; cases e2; omega
    · have := i2 r u hr
      rw [List.getElem?_append_left (List.getElem?_eq_some_iff.1 this).1]
      exact this
  · obtain rfl : j = k := by omega
    obtain rfl : y = x := by rw [hx] at hy; cases hy; rfl
    refine ⟨P, C, ?_, fun r u hr => ?_⟩
    · refine exIn.map (fun g o u hS hc => hg.cell hc ?_) (fun g hS => ?_) (hi.grow ga)
      · intro e
        have h9 : g < wr.heap.size := (own_lt hown e.symm).2
        omega
      · refine ⟨by omega, by omega, ?_⟩
        rcases hat with e | e
        · rw [e]; intro e2; have := (own_lt hown e2).2; omega
        · rw [e]; intro e2; cases e2; omega
    · rw [List.getElem?_append_right (by omega), hxl, Nat.add_sub_cancel_left]
      exact hr
/-- what comes of a copying -/
def CpQ (w : World) (n : Nat) (a : Ex) (e : Ending) (w' : World) : Prop := ∃ P C, e = .returned (exV a P C) ∧ exIn w' (fun g => w.heap.size ≤ g ∧ g < w'.heap.size) n a (exC a P C) ∧ Below w.heap.size w w'
theorem own_belowX {w w' : World} {base e sz n : Nat} {v : Value} {xs : List Value} (h : w.ownsRow base e sz v n xs) (hb : Below w.heap.size w w') : w'.ownsRow base e sz v n xs :=
  World.ownsRow.kept h (row := none) ⟨hb.os, hb.tape, hb.output, hb.size, fun k hk _ => hb.block k hk⟩ (by cases hv : v.ownBlock <;> simp)
theorem new_cells (w1 : World) (y : Ex) (P : Option Addr) (C : Nat) : ∀ (j : Nat) (u : Value), (exC y P C)[j]? = some u → (w1.alloc (.cells (exC y P C).toArray 26)).cell? ((⟨w1.heap.size, 0, none⟩ : Addr).add j) = some u := by
  intro j u hj
  have hl : j < 9 := (List.getElem?_eq_some_iff.1 hj).1
  rw [show ((⟨w1.heap.size, 0, none⟩ : Addr).add j) = ⟨w1.heap.size, j, none⟩ by simp [Addr.add]; intro h; exact h.symm]
  match j, hl with
  | 0, _ | 1, _ | 2, _ | 3, _ | 4, _ | 5, _ | 6, _ | 7, _ | 8, _ => cases hj; simp [exC]
theorem app_x {ops : Array Oper} {rest : List Oper} {o : Oper} {a : Act} {Q : Exit → Act → World → Prop} {w1 : World} (hgd : o.guard = none) (s x : Operand)
    (ho : o.op = .call { callee := .builtin .append, args := #[s, x], argTypes := #[22, 22] })
    (base : Nat) (v : Value) (k : Nat) (xs : List Value) (y : Ex) (P : Option Addr) (C : Nat) (hs : a.eval s = v) (hown : w1.ownsRow base 26 9 v k xs) (hx : a.eval x = .slice (some ⟨w1.heap.size, 0, none⟩) 1 1) (hk : k ≤ 100000000) (hbase : base ≤ w1.heap.size)
    (h : ∀ v' w', w'.ownsRow base 26 9 v' (k + 1) (xs ++ exC y P C) → (w1.alloc (.cells (exC y P C).toArray 26)).grownBy w' v.ownBlock → (v'.ownBlock = v.ownBlock ∨ v'.ownBlock = some (w1.alloc (.cells (exC y P C).toArray 26)).heap.size) → wpList Tryz.prog ops Q rest (a.put o.dst v') w') :
    wpList Tryz.prog ops Q (o :: rest) a (w1.alloc (.cells (exC y P C).toArray 26)) := by
  obtain ⟨i0, hi, hz0, hz1, hz2⟩ := info_parts exInfo
  exact wpList_append_own_at _ hgd s x 22 ho base 26 i0 _ 9 120 exSlice hi hz0 hz1 hz2 rfl (by decide) v k xs hs (World.ownsRow.alloc hown _) ⟨w1.heap.size, 0, none⟩ 1 1 (exC y P C) hx rfl (new_cells w1 y P C) (exC_ones _ _ _) (by unfold maxLen; omega) (by omega) (by simp; omega) fun v' w' h1 h2 _ h4 => h v' w' h1 h2 h4
theorem add_plain (g off j : Nat) : (⟨g, off, none⟩ : Addr).add j = ⟨g, off + j, none⟩ := by simp only [Addr.add]; split <;> simp_all
/-- but for two blocks nothing is changed -/
structure Off (b c : Nat) (w w' : World) : Prop where
  os : w'.os = w.os
  tape : w'.tape = w.tape
  output : w'.output = w.output
  size : w'.heap.size = w.heap.size
  block : ∀ k, k ≠ b → k ≠ c → w'.heap[k]? = w.heap[k]?
theorem Off.refl (b c : Nat) (w : World) : Off b c w w := ⟨rfl, rfl, rfl, rfl, fun _ _ _ => rfl⟩
theorem Off.set {b c : Nat} {w w' : World} (h : Off b c w w') {a : Addr} (ha : a.block = b ∨ a.block = c) (u : Value) : Off b c w (w'.setCell a u) :=
  ⟨h.os, h.tape, h.output, by rw [← h.size]; simp [World.setCell], fun k h1 h2 => by
    rw [Below.heap_setCell w' a u k (by rcases ha with e | e <;> rw [e] <;> assumption)]
    exact h.block k h1 h2⟩
theorem Off.cell {b c : Nat} {w w' : World} (h : Off b c w w') {g o : Nat} (h1 : g ≠ b) (h2 : g ≠ c) {u : Value} (hc : w.cell? ⟨g, o, none⟩ = some u) : w'.cell? ⟨g, o, none⟩ = some u := by
  rw [← hc]
  exact World.cell?_of_block (h.block g h1 h2)
theorem frozen_new {w : World} {b o : Nat} (h : w.heap.size ≤ b) : w.frozen? ⟨b, o, none⟩ = false := by
  simp [World.frozen?, Array.getElem?_eq_none h]
theorem cop_form {W wr : World} {n k : Nat} {l : List Ex} {v : Value} (h : Cop W wr n k l v) : ∃ P C, v = .slice P k C := by
  obtain ⟨xs, h, _⟩ := h
  rcases h.2 with ⟨rfl, rfl⟩ | ⟨g, cap, cur, rfl, _⟩
  · exact ⟨_, _, rfl⟩
  · exact ⟨_, _, rfl⟩
theorem Cop.done {w W wr Z : World} {n : Nat} {a : Ex} {P : Option Addr} {C : Nat} (h : Cop W wr n a.parts.length a.parts (.slice P a.parts.length C)) (hG : exG a) (hs : W.heap.size = w.heap.size + 1 + 1) (bW : Below w.heap.size w W) (hb : Below W.heap.size W wr) (ho : Off w.heap.size (w.heap.size + 1) wr Z) : CpQ w (n + 1) a (.returned (exV a P C)) Z := by
  obtain ⟨xs, hown, hel⟩ := h
  have s1 := hb.size
  have sz := ho.size
  refine ⟨P, C, rfl, ⟨P, C, rfl, hG, ?_, ?_⟩, ⟨ho.os.trans (hb.os.trans bW.os), ho.tape.trans (hb.tape.trans bW.tape), ho.output.trans (hb.output.trans bW.output), by omega, fun k hk => ?_⟩⟩
  · intro e
    rcases hown.2 with ⟨e1, h0⟩ | ⟨g, cap, cur, e1, _⟩
    · simp only [Value.slice.injEq] at e1
      exact ⟨e1.2.2, List.eq_nil_of_length_eq_zero h0⟩
    · simp only [Value.slice.injEq] at e1
      rw [e1.1] at e
      cases e
  · rcases hown.2 with ⟨_, h0⟩ | ⟨g, cap, cur, e1, hge, hcur, _⟩
    · exact Or.inl (List.eq_nil_of_length_eq_zero h0)
    · simp only [Value.slice.injEq] at e1
      have hlt : g < wr.heap.size := (Array.getElem?_eq_some_iff.1 hcur).1
      refine Or.inr ⟨g, 0, e1.1, ⟨by omega, by omega⟩, fun i p hp => ?_⟩
      have hil := (List.getElem?_eq_some_iff.1 hp).1
      obtain ⟨Px, Cx, i1, i2⟩ := hel i p hil hp
      refine ⟨exC p Px Cx, exIn.map (fun k o u hS hc => ho.cell (by omega) (by omega) hc) (fun k hS => ⟨by omega, by omega⟩) i1, fun r u hr => ?_⟩
      refine ho.cell (by omega) (by omega) ?_
      have := hown.cells (g := g) (by rw [e1.1]; rfl) _ _ (i2 r u hr)
      rw [add_plain] at this
      rw [Nat.zero_add] at this ⊢
      exact this
  · rw [ho.block k (by omega) (by omega), hb.block k (by omega), bW.block k hk]
theorem cop_below {W wr w1 w3 : World} {o : Obj} {k : Nat} {v : Value} {xs : List Value} (hown : wr.ownsRow W.heap.size 26 9 v k xs) (hb : Below W.heap.size W wr) (h1 : Below wr.heap.size wr w1) (hg : (w1.alloc o).grownBy w3 v.ownBlock) : Below W.heap.size wr w3 := by
  have ga := World.grownBy_alloc w1 o none
  have s1 := h1.size
  have s0 := hb.size
  refine ⟨hg.os.trans (ga.os.trans h1.os), hg.tape.trans (ga.tape.trans h1.tape), hg.output.trans (ga.output.trans h1.output), Nat.le_trans s1 (Nat.le_trans ga.size hg.size), fun k hk => ?_⟩
  rw [hg.block k (Nat.lt_of_lt_of_le (by omega) ga.size) (fun e => by have := (own_lt hown e.symm).1; omega), ga.block k (by omega) (by simp)]
  exact h1.block k (by omega)
set_option maxHeartbeats 8000000 in
set_option maxRecDepth 1000000 in
theorem Copied_step (n : Nat) (S : Nat → Prop) (a : Ex) (P : Option Addr) (C : Nat) (w : World) (ha : exIn w S (n + 1) a (exC a P C))
    (IH : ∀ (x : Ex) (P : Option Addr) (C : Nat) (w : World), exIn w S n x (exC x P C) → Calls Tryz.prog 5 #[exV x P C] w fun e w' => CpQ w n x e w') :
    Calls Tryz.prog 5 #[exV a P C] w fun e w' => CpQ w (n + 1) a e w' := by
  have BZ : Hid _ := ((Below.refl _ w).alloc (Nat.le_refl _) (.cells #[.string a.op, .slice P a.parts.length C, .int .i64 a.vt, .int .i64 a.vn, .string a.vs, .string a.nm, .string a.of, .int .i64 a.ty, .int .i64 a.at_] 26)).alloc (by simp) (.cells #[.string ⟨#[]⟩, .slice none 0 0, .int .i64 0, .int .i64 0, .string ⟨#[]⟩, .string ⟨#[]⟩, .string ⟨#[]⟩, .int .i64 0, .int .i64 0] 26)
  obtain ⟨W, hW⟩ : ∃ W, W = (w.alloc (.cells #[.string a.op, .slice P a.parts.length C, .int .i64 a.vt, .int .i64 a.vn, .string a.vs, .string a.nm, .string a.of, .int .i64 a.ty, .int .i64 a.at_] 26)).alloc (.cells #[.string ⟨#[]⟩, .slice none 0 0, .int .i64 0, .int .i64 0, .string ⟨#[]⟩, .string ⟨#[]⟩, .string ⟨#[]⟩, .int .i64 0, .int .i64 0] 26) := ⟨_, rfl⟩
  rw [← hW] at BZ
  have c1 : W.cell? ⟨w.heap.size, 1, none⟩ = some (.slice P a.parts.length C) := by rw [hW]; simp
  have c0 : W.cell? ⟨w.heap.size, 0, none⟩ = some (.string a.op) := by rw [hW]; simp
  have c2 : W.cell? ⟨w.heap.size, 2, none⟩ = some (.int .i64 a.vt) := by rw [hW]; simp
  have c3 : W.cell? ⟨w.heap.size, 3, none⟩ = some (.int .i64 a.vn) := by rw [hW]; simp
  have c4 : W.cell? ⟨w.heap.size, 4, none⟩ = some (.string a.vs) := by rw [hW]; simp
  have c5 : W.cell? ⟨w.heap.size, 5, none⟩ = some (.string a.nm) := by rw [hW]; simp
  have c6 : W.cell? ⟨w.heap.size, 6, none⟩ = some (.string a.of) := by rw [hW]; simp
  have c7 : W.cell? ⟨w.heap.size, 7, none⟩ = some (.int .i64 a.ty) := by rw [hW]; simp
  have c8 : W.cell? ⟨w.heap.size, 8, none⟩ = some (.int .i64 a.at_) := by rw [hW]; simp
  have z0 : W.cell? ⟨w.heap.size + 1, 0, none⟩ = some (.string ⟨#[]⟩) := by rw [hW]; simp
  have z1 : W.cell? ⟨w.heap.size + 1, 1, none⟩ = some (.slice none 0 0) := by rw [hW]; simp
  have z2 : W.cell? ⟨w.heap.size + 1, 2, none⟩ = some (.int .i64 0) := by rw [hW]; simp
  have z3 : W.cell? ⟨w.heap.size + 1, 3, none⟩ = some (.int .i64 0) := by rw [hW]; simp
  have z4 : W.cell? ⟨w.heap.size + 1, 4, none⟩ = some (.string ⟨#[]⟩) := by rw [hW]; simp
  have z5 : W.cell? ⟨w.heap.size + 1, 5, none⟩ = some (.string ⟨#[]⟩) := by rw [hW]; simp
  have z6 : W.cell? ⟨w.heap.size + 1, 6, none⟩ = some (.string ⟨#[]⟩) := by rw [hW]; simp
  have z7 : W.cell? ⟨w.heap.size + 1, 7, none⟩ = some (.int .i64 0) := by rw [hW]; simp
  have z8 : W.cell? ⟨w.heap.size + 1, 8, none⟩ = some (.int .i64 0) := by rw [hW]; simp
  have e1 : W.frozen? ⟨w.heap.size, 1, none⟩ = false := by rw [hW, frozen?_alloc_cells, frozen?_alloc_cells]; exact frozen_new (by omega)
  have f0 : W.frozen? ⟨w.heap.size + 1, 0, none⟩ = false := by rw [hW, frozen?_alloc_cells, frozen?_alloc_cells]; exact frozen_new (by omega)
  have f1 : W.frozen? ⟨w.heap.size + 1, 1, none⟩ = false := by rw [hW, frozen?_alloc_cells, frozen?_alloc_cells]; exact frozen_new (by omega)
  have f2 : W.frozen? ⟨w.heap.size + 1, 2, none⟩ = false := by rw [hW, frozen?_alloc_cells, frozen?_alloc_cells]; exact frozen_new (by omega)
  have f3 : W.frozen? ⟨w.heap.size + 1, 3, none⟩ = false := by rw [hW, frozen?_alloc_cells, frozen?_alloc_cells]; exact frozen_new (by omega)
  have f4 : W.frozen? ⟨w.heap.size + 1, 4, none⟩ = false := by rw [hW, frozen?_alloc_cells, frozen?_alloc_cells]; exact frozen_new (by omega)
  have f5 : W.frozen? ⟨w.heap.size + 1, 5, none⟩ = false := by rw [hW, frozen?_alloc_cells, frozen?_alloc_cells]; exact frozen_new (by omega)
  have f6 : W.frozen? ⟨w.heap.size + 1, 6, none⟩ = false := by rw [hW, frozen?_alloc_cells, frozen?_alloc_cells]; exact frozen_new (by omega)
  have f7 : W.frozen? ⟨w.heap.size + 1, 7, none⟩ = false := by rw [hW, frozen?_alloc_cells, frozen?_alloc_cells]; exact frozen_new (by omega)
  have f8 : W.frozen? ⟨w.heap.size + 1, 8, none⟩ = false := by rw [hW, frozen?_alloc_cells, frozen?_alloc_cells]; exact frozen_new (by omega)
  have HA := mkHid (ha.below BZ.out)
  have HI := mkHid IH
  have HG := mkHid ha.good
  have hW2 := mkHid hW
  have hs : W.heap.size = w.heap.size + 1 + 1 := by rw [hW]; simp
  have h0 : Hid (Cop W (W.alloc (.cells #[] 26)) n 0 a.parts (.slice (some ⟨w.heap.size + 1 + 1, 0, none⟩) 0 0)) := by
    have := Cop.zero W n a.parts
    rw [hs] at this
    exact this
  have HS := mkHid hs
  have hsm := ha.good.1
  clear IH ha hW hs
  go_enter Tryz.func5, Tryz.ntmps5
  go_wp2_with fail
  go_loopw [3, 4] (fun s3 s4 wr => ∃ k : Nat, s4 = .int .i64 k ∧ k ≤ a.parts.length ∧ Hid (Cop W wr n k a.parts s3) ∧ Below W.heap.size W wr) (fun _ sk _ => a.parts.length - (intOf sk).toNat)
  case atStart => rw [← hW2.out]; exact ⟨0, rfl, Nat.zero_le _, h0, (Below.refl _ _).alloc (Nat.le_refl _) _⟩
  case round =>
    obtain ⟨k, rfl, hk, hd, hb⟩ := hrel
    have k1 := cellNext hb c1
    by_cases hlt : k < a.parts.length
    · obtain ⟨x, hx⟩ : ∃ v, a.parts[k]? = some v := ⟨a.parts[k], List.getElem?_eq_getElem hlt⟩
      obtain ⟨g, o, Px, Cx, rfl, ix, cx⟩ := HA.out.part hx
      have N0 := (nine_of cx).next hb
      have OO : Hid (Calls Tryz.prog 5 #[exV x Px Cx] wr fun e w' => CpQ wr n x e w') := HI.out x Px Cx wr (ix.below hb)
      obtain ⟨xs, hown, hel⟩ := hd.out
      have HO := mkHid hown
      have HEL := mkHid hel
      have HX := mkHid hx
      clear hown hel hd hx ix cx
      obtain ⟨u0, u1, u2, u3, u4, u5, u6, u7, u8⟩ := N0
      go_wp2_with (first | (go_at_call 5; refine OO.out.mono ?_; rintro e w1 ⟨P1, C1, rfl, i1, b1⟩) | (at_builtin; refine app_x rfl (.tmp 13) (.tmp 20) rfl W.heap.size _ k xs x P1 C1 rfl (own_belowX HO.out b1) rfl (by have := HG.out.1; omega) (Nat.le_trans hb.size b1.size) ?_; intro v3 w3 ho3 hg3 hl3))
      have D2 : Hid (Cop W w3 n (k + 1) a.parts v3) := Cop.step HO.out HEL.out hb HX.out b1 i1 ho3 hg3 hl3
      have B2 : Hid (Below W.heap.size W w3) := hb.trans (cop_below HO.out hb b1 hg3)
      go_roundw
      case rel => exact ⟨k + 1, by go_num, hlt, D2, B2.out⟩
      case measure => simp [intOf]; omega
    · have hke : k = a.parts.length := by omega
      subst hke
      obtain ⟨PR, CR, rfl⟩ := cop_form hd.out
      have HD := mkHid hd.out
      clear hd h0
      have k0 := cellNext hb c0
      have k2 := cellNext hb c2
      have k3 := cellNext hb c3
      have k4 := cellNext hb c4
      have k5 := cellNext hb c5
      have k6 := cellNext hb c6
      have k7 := cellNext hb c7
      have k8 := cellNext hb c8
      have y0 := cellNext hb z0
      have y1 := cellNext hb z1
      have y2 := cellNext hb z2
      have y3 := cellNext hb z3
      have y4 := cellNext hb z4
      have y5 := cellNext hb z5
      have y6 := cellNext hb z6
      have y7 := cellNext hb z7
      have y8 := cellNext hb z8
      have fr := (hb.frozen (p := ⟨w.heap.size, 1, none⟩) (by show w.heap.size < _; have := HS.out; omega)).trans e1
      have fz0 := (hb.frozen (p := ⟨w.heap.size + 1, 0, none⟩) (by show w.heap.size + 1 < _; have := HS.out; omega)).trans f0
      have fz1 := (hb.frozen (p := ⟨w.heap.size + 1, 1, none⟩) (by show w.heap.size + 1 < _; have := HS.out; omega)).trans f1
      have fz2 := (hb.frozen (p := ⟨w.heap.size + 1, 2, none⟩) (by show w.heap.size + 1 < _; have := HS.out; omega)).trans f2
      have fz3 := (hb.frozen (p := ⟨w.heap.size + 1, 3, none⟩) (by show w.heap.size + 1 < _; have := HS.out; omega)).trans f3
      have fz4 := (hb.frozen (p := ⟨w.heap.size + 1, 4, none⟩) (by show w.heap.size + 1 < _; have := HS.out; omega)).trans f4
      have fz5 := (hb.frozen (p := ⟨w.heap.size + 1, 5, none⟩) (by show w.heap.size + 1 < _; have := HS.out; omega)).trans f5
      have fz6 := (hb.frozen (p := ⟨w.heap.size + 1, 6, none⟩) (by show w.heap.size + 1 < _; have := HS.out; omega)).trans f6
      have fz7 := (hb.frozen (p := ⟨w.heap.size + 1, 7, none⟩) (by show w.heap.size + 1 < _; have := HS.out; omega)).trans f7
      have fz8 := (hb.frozen (p := ⟨w.heap.size + 1, 8, none⟩) (by show w.heap.size + 1 < _; have := HS.out; omega)).trans f8
      have HB := mkHid hb
      clear c0 c1 c2 c3 c4 c5 c6 c7 c8 z0 z1 z2 z3 z4 z5 z6 z7 z8 e1 f0 f1 f2 f3 f4 f5 f6 f7 f8 hb
      go_wp2_with fail
      refine bodyPost_ret (v := exV a PR CR) (by simp [results, Tryz.results5, go_sem, y0, y1, y2, y3, y4, y5, y6, y7, y8]) rfl ?_
      exact Cop.done HD.out HG.out HS.out BZ.out HB.out (((((((((((Off.refl w.heap.size (w.heap.size + 1) wr).set (Or.inl rfl) _).set (Or.inr rfl) _).set (Or.inr rfl) _).set (Or.inr rfl) _).set (Or.inr rfl) _).set (Or.inr rfl) _).set (Or.inr rfl) _).set (Or.inr rfl) _).set (Or.inr rfl) _).set (Or.inr rfl) _)
theorem Copied_ex (S : Nat → Prop) : ∀ (n : Nat) (a : Ex) (P : Option Addr) (C : Nat) (w : World), exIn w S n a (exC a P C) → Calls Tryz.prog 5 #[exV a P C] w fun e w' => CpQ w n a e w' := by
  intro n
  induction n with
  | zero => intro a P C w ha; exact ha.elim
  | succ n ih => intro a P C w ha; exact Copied_step n S a P C w ha ih
end Go.Proofs.YtokppkinhlcafaaGreatDoor
