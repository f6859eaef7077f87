/-
  expr.Parts of any expression.
-/
import Derived.Test.YtokppkinhlcafaaGreatDoorExS
namespace Go.Proofs.YtokppkinhlcafaaGreatDoor
open Go.RowKit Go.Joins
set_option maxRecDepth 100000

theorem split_ex (W : World) (sb pb m : Nat) (hsb : W.cell? ⟨sb, 0, none⟩ = some (.func (.func 14) #[] #[.pointer (some ⟨sb, 0, none⟩), .pointer (some ⟨pb, 0, none⟩)])) (hne : sb ≠ pb) (hpW : pb < W.heap.size) : ∀ n, n ≤ m → SpQ W sb pb m n := by
  intro n
  induction n with
  | zero => intro _ S x p s P C w l _ _ ha; exact ha.elim
  | succ n ih =>
    intro hn S x p s P C w l c hp ha hS hs hl
    by_cases h : x.op = bAnd ∧ x.parts.length = 2
    · obtain ⟨y, z, hyz⟩ : ∃ y z, x.parts = [y, z] := by
        match hq : x.parts, h.2 with
        | [y, z], _ => exact ⟨y, z, rfl⟩
      rw [exP_two h.1 hyz] at hl ⊢
      rw [List.length_append] at hl
      rw [← List.append_assoc]
      exact split_two W sb pb m n hsb hne (ih (by omega)) S x y z p s P C w l c hp ha hS hs (by omega) h.1 hyz
    · rw [exP_one h] at hl ⊢
      exact split_one W sb pb m (n + 1) S x p s P C w l c hp hpW ha hn hS hs (by simpa using hl) h
/-- what expr.Parts answers: a row in new memory, and all in it -/
def PnQ (w : World) (n : Nat) (l : List Ex) (e : Ending) (w' : World) : Prop := ∃ v xs, e = .returned v ∧ w'.ownsRow w.heap.size 26 9 v l.length xs ∧ els w' (fun q => w.heap.size ≤ q ∧ q < w'.heap.size) n l xs ∧ Below w.heap.size w w'
set_option maxHeartbeats 4000000 in
set_option maxRecDepth 1000000 in
theorem Parts_ex (n : Nat) (S : Nat → Prop) (a : Ex) (P : Option Addr) (C : Nat) (w : World) (ha : exIn w S n a (exC a P C)) (hS : ∀ q, S q → q < w.heap.size) (hl : (exP n a).length ≤ 100000000) :
    Calls Tryz.prog 7 #[exV a P C] w fun e w' => PnQ w n (exP n a) e w' := by
  have hmf : ∀ (fn : Fn) (first cap : Array Value) (w : World), (Instr.makeFunc fn first cap).run Tryz.prog w = .ok (.func fn first cap) w := fun _ _ _ _ => rfl
  obtain ⟨W, hW⟩ : ∃ W, W = ((w.alloc (.cells #[.string a.op, .slice P a.parts.length C, .int .i64 a.vt, .int .i64 a.vn, .string a.vs, .string a.nm, .string a.of, .int .i64 a.ty, .int .i64 a.at_] 26)).alloc (.cells #[.slice none 0 0] 22)).alloc (.cells #[.func (.func 14) #[] #[.pointer (some ⟨w.heap.size + 1 + 1, 0, none⟩), .pointer (some ⟨w.heap.size + 1, 0, none⟩)]] 36) := ⟨_, rfl⟩
  have b1 : Below w.heap.size w (w.alloc (.cells #[.string a.op, .slice P a.parts.length C, .int .i64 a.vt, .int .i64 a.vn, .string a.vs, .string a.nm, .string a.of, .int .i64 a.ty, .int .i64 a.at_] 26)) := (Below.refl _ w).alloc (Nat.le_refl _) _
  have sW : W.heap.size = w.heap.size + 3 := by rw [hW]; simp
  have bW : Below w.heap.size w W := by rw [hW]; exact (b1.alloc (by simp) _).alloc (by simp; omega) _
  have h1 : (w.alloc (.cells #[.string a.op, .slice P a.parts.length C, .int .i64 a.vt, .int .i64 a.vn, .string a.vs, .string a.nm, .string a.of, .int .i64 a.ty, .int .i64 a.at_] 26)).heap[w.heap.size]? = some (.cells #[.string a.op, .slice P a.parts.length C, .int .i64 a.vt, .int .i64 a.vn, .string a.vs, .string a.nm, .string a.of, .int .i64 a.ty, .int .i64 a.at_] 26 (0, 0)) := heap_alloc_new _ _
  have h2 : ((w.alloc (.cells #[.string a.op, .slice P a.parts.length C, .int .i64 a.vt, .int .i64 a.vn, .string a.vs, .string a.nm, .string a.of, .int .i64 a.ty, .int .i64 a.at_] 26)).alloc (.cells #[.slice none 0 0] 22)).heap[w.heap.size + 1]? = some (.cells #[.slice none 0 0] 22 (0, 0)) := by
    have := heap_alloc_new (w.alloc (.cells #[.string a.op, .slice P a.parts.length C, .int .i64 a.vt, .int .i64 a.vn, .string a.vs, .string a.nm, .string a.of, .int .i64 a.ty, .int .i64 a.at_] 26)) (.cells #[.slice none 0 0] 22)
    rw [World.size_alloc] at this
    exact this
  have h3 : W.heap[w.heap.size + 1 + 1]? = some (.cells #[.func (.func 14) #[] #[.pointer (some ⟨w.heap.size + 1 + 1, 0, none⟩), .pointer (some ⟨w.heap.size + 1, 0, none⟩)]] 36 (0, 0)) := by
    have := heap_alloc_new ((w.alloc (.cells #[.string a.op, .slice P a.parts.length C, .int .i64 a.vt, .int .i64 a.vn, .string a.vs, .string a.nm, .string a.of, .int .i64 a.ty, .int .i64 a.at_] 26)).alloc (.cells #[.slice none 0 0] 22)) (.cells #[.func (.func 14) #[] #[.pointer (some ⟨w.heap.size + 1 + 1, 0, none⟩), .pointer (some ⟨w.heap.size + 1, 0, none⟩)]] 36)
    rw [World.size_alloc, World.size_alloc] at this
    rw [hW]; exact this
  have c2 : Below (w.heap.size + 2) ((w.alloc (.cells #[.string a.op, .slice P a.parts.length C, .int .i64 a.vt, .int .i64 a.vn, .string a.vs, .string a.nm, .string a.of, .int .i64 a.ty, .int .i64 a.at_] 26)).alloc (.cells #[.slice none 0 0] 22)) W := by rw [hW]; exact (Below.refl _ _).alloc (by simp) _
  have c1 : Below (w.heap.size + 1) (w.alloc (.cells #[.string a.op, .slice P a.parts.length C, .int .i64 a.vt, .int .i64 a.vn, .string a.vs, .string a.nm, .string a.of, .int .i64 a.ty, .int .i64 a.at_] 26)) W := by rw [hW]; exact (((Below.refl _ _).alloc (by simp) _).alloc (by simp) _)
  have g1 := (c1.block _ (by omega)).trans h1
  have g2 := (c2.block _ (by omega)).trans h2
  have P0 : PaS W W (w.heap.size + 1) n [] := ⟨⟨rfl, rfl, rfl, Nat.le_refl _, fun _ _ _ => rfl⟩, _, [], g2, World.ownsRow_nil _ _ _ _, fun j x hj => by simp at hj⟩
  have OO := mkHid (split_ex W (w.heap.size + 1 + 1) (w.heap.size + 1) n ((cell_of_block h3 0).trans rfl) (by omega) (by omega) n (Nat.le_refl _) S a w.heap.size 0 P C W [] ⟨(cell_of_block g1 0).trans rfl, (cell_of_block g1 1).trans rfl, (cell_of_block g1 2).trans rfl, (cell_of_block g1 3).trans rfl, (cell_of_block g1 4).trans rfl, (cell_of_block g1 5).trans rfl, (cell_of_block g1 6).trans rfl, (cell_of_block g1 7).trans rfl, (cell_of_block g1 8).trans rfl⟩ (by omega) (ha.below bW) (fun q hq => by have := hS q hq; exact ⟨by omega, by omega⟩) P0 (by simpa using hl))
  have HW := mkHid hW
  have BW := mkHid bW
  have SW := mkHid sW
  have eg := eg_split
  have sf : ∀ (a : Addr) (f : Fn) (x y : Array Value) (w : World) (m : Mode), (store a (.func f x y) m).run Tryz.prog w = stored Tryz.prog w a (.func f x y) m := fun a f x y w m => run_store _ _ _ _ _ rfl
  clear ha hS hl hW b1 sW bW h1 h2 h3 c1 c2 g1 g2 P0
  go_enter Tryz.func7, Tryz.ntmps7
  go_wp2_with (go_at_fn 14; rw [← HW.out]; refine OO.out.mono ?_; rintro e w1 ⟨rfl, p9⟩; obtain ⟨hst, v, xs, hpv, hown, hels⟩ := p9; have c9 := (cell_of_block hpv 0).trans rfl; have HST := mkHid hst; have HOW := mkHid hown; have HEL := mkHid hels; clear hst hpv hown hels)
  go_ret
  have s1 := HST.out.size
  have s2 := SW.out
  refine ⟨v, xs, rfl, by have := HOW.out; simp only [List.nil_append] at this; exact this.mono (by omega), by have := HEL.out; simp only [List.nil_append] at this; exact this.map (fun x cs h => h.more (fun q hq => ⟨by omega, hq.2.1⟩)), ?_⟩
  exact ⟨HST.out.os.trans BW.out.os, HST.out.tape.trans BW.out.tape, HST.out.output.trans BW.out.output, by omega, fun k hk => (HST.out.block k (by omega) (by omega)).trans (BW.out.block k hk)⟩
end Go.Proofs.YtokppkinhlcafaaGreatDoor
