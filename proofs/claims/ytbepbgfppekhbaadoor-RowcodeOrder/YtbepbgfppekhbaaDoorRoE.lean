/-
  The walks of locksteplaw02.order and begins, and of rowcode.Value at any value.
-/
import Derived.Test.YtbepbgfppekhbaaDoorRoC
import Derived.Test.YtbepbgfppekhbaaDoorRoD
import Derived.BigQuiet
import Derived.Deep.QuietTactic
namespace Go.Proofs.YtbepbgfppekhbaaDoor
open Go.RowKit Go.Shelf

theorem strT : Tryd.prog.underlying 9 = some .string := by kernel_rfl
theorem u8T : Tryd.prog.underlying 5 = some (.int .u8) := by kernel_rfl
theorem add0 (g j : Nat) : (⟨g, 0, none⟩ : Addr).add j = ⟨g, j, none⟩ := by simp [Addr.add]; intro h; exact h.symm
/-- bytes at the beginning of a block -/
def at8 (w : World) (g : Nat) (l : List UInt8) : Prop := ∀ k x, l[k]? = some x → w.cell? ⟨g, k, none⟩ = some (.int .u8 (x.toNat : Int))
theorem conv8 {w : World} {g : Nat} {l : List UInt8} (cap : Nat) (h : at8 w g l) : (convert 27 9 (.slice (some ⟨g, 0, none⟩) l.length cap)).run Tryd.prog w = .ok (.string ⟨l.toArray⟩) w :=
  run_convert_bytes_back (P := Tryd.prog) w 27 9 5 ⟨g, 0, none⟩ cap l u8Slice u8T strT (fun j hj => by
    rw [add0]; exact h j _ (List.getElem?_eq_getElem hj))
theorem at8.take {w : World} {g : Nat} {l : List UInt8} (h : at8 w g l) (n : Nat) : at8 w g (l.take n) := fun k x hx => by
  have hk := (List.getElem?_eq_some_iff.1 hx).1
  rw [List.length_take] at hk
  rw [List.getElem?_take_of_lt (by omega)] at hx
  exact h k x hx

set_option maxHeartbeats 2000000 in
theorem order_at (g h c d : Nat) (la lb : List UInt8) (w : World) (ha : at8 w g la) (hb : at8 w h lb) :
    Calls Tryd.prog 6 #[.slice (some ⟨g, 0, none⟩) la.length c, .slice (some ⟨h, 0, none⟩) lb.length d] w fun e w' => e = .returned (.int .i64 (Lib.compareBytes la lb)) ∧ w' = w := by
  have c1 := conv8 c ha
  have c2 := conv8 d hb
  have hl := less_cmp la lb
  have hz := cmp_zero la lb
  have hv := cmp_vals la lb
  clear ha hb
  rcases hv with hv | hv | hv
  · have h1 : Op.bytesLess la lb = true := by rw [hl, hv]; rfl
    rw [hv]
    clear hl hz hv
    go_enter Tryd.func6, Tryd.ntmps6
    go_wp2
    go_ret
    exact ⟨rfl, rfl⟩
  · have h1 : Op.bytesLess la lb = false := by rw [hl, hv]; rfl
    have h2 : (la == lb) = true := by rw [beq_iff_eq]; exact hz.1 hv
    rw [hv]
    clear hl hz hv
    go_enter Tryd.func6, Tryd.ntmps6
    go_wp2
    go_ret
    exact ⟨rfl, rfl⟩
  · have h1 : Op.bytesLess la lb = false := by rw [hl, hv]; rfl
    have h2 : (la == lb) = false := by rw [beq_eq_false_iff_ne]; intro e; have := hz.2 e; omega
    rw [hv]
    clear hl hz hv
    go_enter Tryd.func6, Tryd.ntmps6
    go_wp2
    go_ret
    exact ⟨rfl, rfl⟩

/-- whether bytes are the beginning of others -/
def beg (la lb : List UInt8) : Bool := decide (la.length ≤ lb.length ∧ lb.take la.length = la)
theorem at8.drewN {w : World} {g : Nat} {l : List UInt8} (h : at8 w g l) (n : Nat) : at8 (w.drewN n) g l := fun k x hx => by
  have := h k x hx
  simpa using this
set_option maxHeartbeats 2000000 in
theorem begins_at (g h c d : Nat) (la lb : List UInt8) (w : World) (ha : at8 w g la) (hb : at8 w h lb) (hd : lb.length ≤ d) :
    Calls Tryd.prog 8 #[.slice (some ⟨g, 0, none⟩) la.length c, .slice (some ⟨h, 0, none⟩) lb.length d] w fun e w' => e = .returned (.bool (beg la lb)) ∧ Below w.heap.size w w' := by
  have c1 : ∀ n, _ := fun n => conv8 c (ha.drewN n)
  by_cases hle : la.length ≤ lb.length
  · have hlt : (lb.take la.length).length = la.length := by rw [List.length_take]; omega
    have c2 : ∀ n, (convert 27 9 (.slice (some ⟨h, 0, none⟩) la.length d)).run Tryd.prog (w.drewN n) = .ok (.string ⟨(lb.take la.length).toArray⟩) (w.drewN n) := fun n => by
      have := conv8 d ((hb.drewN n).take la.length)
      rw [hlt] at this; exact this
    have hle2 : (la.length : Int) ≤ (lb.length : Int) := by omega
    have hdd : (la.length : Int) ≤ (d : Int) := by omega
    obtain ⟨B, hB⟩ : ∃ B, B = beg la lb := ⟨_, rfl⟩
    have h1 : (la == lb.take la.length) = B := by
      rw [hB]; unfold beg
      by_cases e : lb.take la.length = la
      · rw [e]; simp [hle]
      · simp [hle, e]; exact fun h => e h.symm
    rw [← hB]
    clear hB hlt ha hb
    go_enter Tryd.func8, Tryd.ntmps8
    go_wp2_with fail
    go_quiet (fail)
    go_wp2
    go_ret
    exact ⟨rfl, below_drewN (Below.refl _ _) _⟩
  · have hB : beg la lb = false := by unfold beg; simp [hle]
    rw [hB]
    have hle2 : ¬ (la.length : Int) ≤ (lb.length : Int) := by omega
    have hle3 : decide ((la.length : Int) ≤ (lb.length : Int)) = false := by simp [hle]
    clear hB ha hb c1
    go_enter Tryd.func8, Tryd.ntmps8
    go_wp2_with fail
    go_quiet (fail)
    go_wp2
    go_ret
    exact ⟨rfl, below_drewN (Below.refl _ _) _⟩
end Go.Proofs.YtbepbgfppekhbaaDoor
