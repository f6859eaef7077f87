/-
  The walk of simfs.loseNames: the open changes of names are taken back, the last one first, but for the first ones.
-/
import Derived.Test.YtdiehlioemmakaaVB
import Derived.Test.YtdiehlioemmakaaIter
namespace Go.Proofs.Ytdiehlioemmakaa
open Go.RowKit Go.Maps Go.Joins

theorem Disk.drewN {w : World} {base f m : Nat} {q : Int} {xs : List (List UInt8 × Fl)} {us : List Un} (h : Disk w base f q m xs us) (n : Nat) : Disk (w.drewN n) base f q m xs us := h.kept ⟨rfl, rfl, rfl, Nat.le_refl _, fun _ _ _ => rfl⟩

/-- below base nothing has changed, and no block of numbers anywhere -/
def Kp (base : Nat) (w w' : World) : Prop := Below base w w' ∧ ∀ (g : Nat) (cs : Array Value) (fr : Nat × Nat), w.heap[g]? = some (.cells cs 3 fr) → w'.heap[g]? = some (.cells cs 3 fr)
theorem Kp.refl (base : Nat) (w : World) : Kp base w w := ⟨Below.refl _ _, fun _ _ _ h => h⟩
theorem Kp.trans {base : Nat} {a b c : World} (h : Kp base a b) (k : Kp base b c) : Kp base a c := ⟨h.1.trans k.1, fun g cs fr hg => k.2 g cs fr (h.2 g cs fr hg)⟩
theorem Kp.drewN {base : Nat} {a b : World} (h : Kp base a b) (n : Nat) : Kp base a (b.drewN n) := ⟨below_drewN h.1 n, h.2⟩
theorem cellC {S : Nat → Prop} {w w' : World} {b o : Nat} {x : Value} (h : Chg S w w') (hc : w.cell? ⟨b, o, none⟩ = some x) (hn : ¬ S b) : w'.cell? ⟨b, o, none⟩ = some x :=
  (World.cell?_of_block (h.block b (World.block_lt_of_cell? w ⟨b, o, none⟩ hc) hn)).trans hc

end Go.Proofs.Ytdiehlioemmakaa

namespace Go.Proofs.Ytdiehlioemmakaa
open Go.RowKit Go.Maps Go.Joins Go.Sort

end Go.Proofs.Ytdiehlioemmakaa

