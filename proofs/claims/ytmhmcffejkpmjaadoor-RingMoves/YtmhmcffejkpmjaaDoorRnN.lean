/-
  The law RingMoves, of numbers as they come in.
-/
import Derived.Test.YtmhmcffejkpmjaaDoorRnL
import Derived.OpenShut
namespace Go.Proofs.YtmhmcffejkpmjaaDoor
open Go.RowKit Go.Shelf Go.Joins
set_option maxRecDepth 100000

theorem RingMoves_in (p : Option Addr) (c : Nat) (la : List Va) (a b : Int) (w : World) (hp : rowIn w p la) (hl : la.length ≤ 9223372036854775807) (fa : ∀ v ∈ la, fit v.n) (sa : ∀ v ∈ la, v.s.size ≤ 9223372036854775807) (ha : (Lit.int .u8 a).wf = true) (hb : (Lit.int .u8 b).wf = true) (hT : Tabs w) :
    Calls Tryd.prog 4 #[.slice p la.length c, .int .u8 a, .int .u8 b] w fun e w' => e = .returned (.bool true) ∧ Below w.heap.size w w' := by
  have h1 := bounds_u8 ha
  have h2 := bounds_u8 hb
  obtain ⟨f, rfl⟩ : ∃ f : Nat, a = (f : Int) := ⟨a.toNat, by omega⟩
  obtain ⟨t, rfl⟩ : ∃ t : Nat, b = (t : Int) := ⟨b.toNat, by omega⟩
  exact RingMoves_any p c la f t (by omega) (by omega) w hp hl fa sa hT
end Go.Proofs.YtmhmcffejkpmjaaDoor
