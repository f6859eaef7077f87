/-
  Nets in memory: the map of ways, the net, and what a change of one of its parts leaves.
-/
import Derived.Test.YtbdlamlplfogjaaNtA
namespace Go.Proofs.Ytbdlamlplfogjaa
open Go.RowKit Go.Maps Go.Joins

theorem laidO : laidOutB Try.prog = true := by kernel_rfl
theorem rowE : (76 : TypeId) < Try.prog.types.size := of_decide_eq_true (by kernel_rfl)
theorem keyE : Keyed Try.prog 76 := Keyed.of_law (deep_law_laid laidO (m := 2) (by omega) rowE (by kernel_rfl) (by kernel_rfl))
theorem mapW : Try.prog.underlying 70 = some (.map 76 84) := by kernel_rfl
def zW : Value := .agg #[.int .u64 0, .int .u64 0, .slice none 0 0, .int .u64 0]
theorem zeroW (w : World) : (zeroValue 84).run Try.prog w = .ok zW w := by kernel_rfl
def ky (i j : Nat) : Value := .agg #[.int .i64 i, .int .i64 j]
theorem ky_all : ((List.range 64).all fun i => (List.range 64).all fun j => (keyOf Try.prog 76 (ky i j)).isSome) = true := by kernel_rfl
/-- what a key reads as -/
def kk (P : Program) (i j : Nat) : Lit := (keyOf P 76 (ky i j)).getD .nil
theorem ky_in {i j : Nat} (hi : i < 64) (hj : j < 64) : keyOf Try.prog 76 (ky i j) = some (kk Try.prog i j) := by
  have h := List.all_eq_true.1 (List.all_eq_true.1 ky_all i (by simpa using hi)) j (by simpa using hj)
  unfold kk
  cases hk : keyOf Try.prog 76 (ky i j) with
  | none => rw [hk] at h; cases h
  | some l => rfl
theorem kk_ne {i j k l : Nat} (hi : i < 64) (hj : j < 64) (hk : k < 64) (hl : l < 64) (h : ¬ (k = i ∧ l = j)) : kk Try.prog k l ≠ kk Try.prog i j := by
  intro e
  have h1 := ky_in hi hj
  have h2 := ky_in hk hl
  rw [e] at h2
  have := keyE.inj h2 h1
  unfold ky at this
  simp at this
  exact h ⟨by omega, by omega⟩
def upd {α : Type} (f : Nat → α) (i : Nat) (x : α) : Nat → α := fun k => if k = i then x else f k
def upd2 {α : Type} (f : Nat → Nat → α) (i j : Nat) (x : α) : Nat → Nat → α := fun k l => if k = i ∧ l = j then x else f k l
theorem upd_same {α : Type} (f : Nat → α) (i : Nat) (x : α) : upd f i x i = x := if_pos rfl
theorem upd_other {α : Type} (f : Nat → α) {i k : Nat} (x : α) (h : k ≠ i) : upd f i x k = f k := if_neg h
theorem upd2_same {α : Type} (f : Nat → Nat → α) (i j : Nat) (x : α) : upd2 f i j x i j = x := if_pos ⟨rfl, rfl⟩
theorem upd2_other {α : Type} (f : Nat → Nat → α) {i j k l : Nat} (x : α) (h : ¬ (k = i ∧ l = j)) : upd2 f i j x k l = f k l := if_neg h
/-- an element of the map is held as it is -/
def hR : Value → Option (DataW Value × List MemPlace) := fun v => some (.held v, [])
/-- a map of ways between N nodes: what stands at each key; at most c entries -/
def Wm (w : World) (m c N : Nat) (F : Nat → Nat → Value) : Prop := ∃ n D, w.ownsMap Try.prog 76 hR m n D ∧ n ≤ c ∧ N ≤ 64 ∧ (∀ kl, Maps.has D kl = true → ∃ i j, i < N ∧ j < N ∧ kl = kk Try.prog i j) ∧ ∀ i j, i < 64 → j < 64 → D.atKey (kk Try.prog i j) (.held zW) = .held (F i j)
theorem Wm.look {w : World} {m c N : Nat} {F : Nat → Nat → Value} (h : Wm w m c N F) {i j : Nat} (hi : i < 64) (hj : j < 64) : (Instr.lookup 70 (.map (some m)) (ky i j) false).run Try.prog w = .ok (F i j) w := by
  obtain ⟨n, D, ho, _, _, _, hF⟩ := h
  obtain ⟨v, ps, hr, hv⟩ := ho.lookup keyE mapW (zeroW w) (zd := .held zW) (zp := []) rfl (ky_in hi hj)
  rw [hF i j hi hj] at hv
  simp [hR] at hv
  rw [hr, hv.1]
theorem keyed_lit {P : Program} {k : TypeId} {v : Value} {l : Lit} (K : Keyed P k) (h : keyOf P k v = some l) : WideAt.IsKeyLit l := K.key h
theorem Wm.put {w : World} {m c N : Nat} {F : Nat → Nat → Value} (h : Wm w m c N F) {i j : Nat} (hiN : i < N) (hjN : j < N) (v : Value) (hc : c ≤ 1000000000) : ∃ w', (Instr.mapUpdate 70 (.map (some m)) (ky i j) v).run Try.prog w = .ok () w' ∧ Wm w' m (c + 1) N (upd2 F i j v) ∧ w.grownBy w' (some m) := by
  obtain ⟨n, D, ho, hn, h64, hH, hF⟩ := h
  have hi : i < 64 := by omega
  have hj : j < 64 := by omega
  obtain ⟨w', hr, h1, h2⟩ := ho.store keyE mapW (by unfold maxLen; omega) (ky_in hi hj) (d := .held v) (ps := []) (val := v) rfl
  have hkk := ky_in hi hj
  have hne := fun k l (hk : k < 64) (hl : l < 64) => kk_ne hi hj hk hl
  generalize hkl : kk Try.prog i j = kl at hkk hne h1
  have hK := keyed_lit keyE hkk
  refine ⟨w', hr, ⟨n + 1, _, h1, by omega, h64, fun k hk => ?_, fun k l hk hl => ?_⟩, h2.grown⟩
  · by_cases e : k = kl
    · exact ⟨i, j, hiN, hjN, by rw [e, hkl]⟩
    · rw [has_put_other e] at hk
      exact hH k hk
  · by_cases e : k = i ∧ l = j
    · rw [e.1, e.2]
      rw [upd2_same, hkl]
      exact atKey_put_same ho.isMap hK _ _
    · rw [atKey_put_other (hne k l hk hl e), upd2_other _ _ e, hF k l hk hl]
theorem Wm.kd {w : World} {m c N : Nat} {F : Nat → Nat → Value} (h : Wm w m c N F) : kd w m = 1 ∧ m < w.heap.size := by
  obtain ⟨n, D, ⟨es, cl, hb, _⟩, _⟩ := h
  exact ⟨kd_map hb, lt_of_heap hb⟩
theorem Wm.kept {w w' : World} {m c N : Nat} {F : Nat → Nat → Value} {S : Nat → Prop} (h : Wm w m c N F) (hc : Chg S w w') (hn : ¬ S m) : Wm w' m c N F := by
  obtain ⟨n, D, ⟨es, cl, hb, r⟩, q⟩ := h
  exact ⟨n, D, ⟨es, cl, hc.at_ hb hn, r⟩, q⟩
end Go.Proofs.Ytbdlamlplfogjaa
