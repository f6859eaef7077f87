/-
  For the walk of lockstepref02.bytes: the step of an append as a plain law, and one byte in a block of its own.
-/
import Derived.Test.YtjdnbgnjgicbbaaDoorRdB
import Derived.Deep.RegionLawGrows
import Derived.Deep.RegionLaw
namespace Go.Proofs.YtjdnbgnjgicbbaaDoor
open Go.RowKit Go.Shelf

theorem step_app_b {ops : Array Oper} {o : Oper} {a : Act} {w : World} {K : Act → World → Prop} {Q : Exit → Act → World → Prop} {E : Prop}
    (hg : o.guard = none) (s x : Operand) (ho : o.op = .call { callee := .builtin .append, args := #[s, x], argTypes := #[24, 24] })
    (base : Nat) (v : Value) (l news : List UInt8) (hs : a.eval s = v) (hown : ownsB w base v l) (vx : Value) (b2 : Nat) (hx : a.eval x = vx) (hnews : ownsB w b2 vx news) (hne : news ≠ []) (hl : l.length + news.length ≤ 100000000) (hb : base ≤ w.heap.size)
    (hK : ∀ v' w', ownsB w' base v' (l ++ news) → w.grownBy w' v.ownBlock → K (a.put o.dst v') w') :
    if Region.wanted o (yielded ops a.tmps) = true then Oper.wp Tryd.prog o a w K Q else E := by
  have hw : Region.wanted o (yielded ops a.tmps) = true := by simp [Region.wanted, hg]
  rw [if_pos hw]
  obtain ⟨i0, hi, hz0, hz1, hz2⟩ := info_parts u8Info
  obtain ⟨g, cap, hv, hgl, hcs⟩ := hnews.form hne
  refine wp_append_own w s x 24 ho base 5 i0 (.int .u8 0) 1 1 u8Slice hi hz0 hz1 hz2 rfl (by decide) v l.length (by8 l) hs hown ⟨g, 0, none⟩ news.length cap (by8 news) (hx.trans hv) (by rw [by8_len]; omega) ?_ (by8_one _) (by unfold maxLen; omega) (by omega) hb ?_
  · intro j u hj
    have hj' := (List.getElem?_eq_some_iff.1 hj).1
    rw [by8_len] at hj'
    have ea : (⟨g, 0, none⟩ : Addr).add j = ⟨g, j, none⟩ := by simp [Addr.add]; intro h; exact h.symm
    rw [ea, hcs j news[j] (List.getElem?_eq_getElem hj'), ← hj, by8_get (List.getElem?_eq_getElem hj')]
  · intro v' w' h1 h2 _
    refine hK v' w' ?_ h2
    show w'.ownsRow _ _ _ _ _ _
    rw [by8_app, List.length_append]; exact h1
/-- one byte in a block of its own -/
theorem own_lit (W : World) (base : Nat) (x : UInt8) (z : Int) (hz : (x.toNat : Int) = z) (hb : base ≤ W.heap.size) : ownsB (W.alloc (.cells #[.int .u8 z] 5)) base (.slice (some ⟨W.heap.size, 0, none⟩) 1 1) [x] := by
  subst hz
  exact World.ownsRow_lit W #[.int .u8 (x.toNat : Int)] 1 hb (by unfold maxLen; omega) rfl
end Go.Proofs.YtjdnbgnjgicbbaaDoor
