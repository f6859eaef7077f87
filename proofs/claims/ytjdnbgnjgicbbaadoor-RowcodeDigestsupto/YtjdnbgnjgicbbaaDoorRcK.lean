/-
  The sum of rows' hashes does not hang on the order.
-/
import Derived.Test.YtjdnbgnjgicbbaaDoorRcJ
namespace Go.Proofs.YtjdnbgnjgicbbaaDoor

theorem sum_app : ∀ a b : List Int, (a ++ b).sum = a.sum + b.sum
  | [], b => by simp
  | x :: a, b => by
    have := sum_app a b
    simp only [List.cons_append, List.sum_cons, this]; omega
theorem sum_rev : ∀ a : List Int, a.reverse.sum = a.sum
  | [] => rfl
  | x :: a => by
    have h := sum_rev a
    rw [List.reverse_cons, sum_app, h, List.sum_cons, List.sum_cons, List.sum_nil]; omega
/-- the sum of the rows' hashes -/
def sumH (l : List (List Va)) : Int := (l.map fun r => (hashN (rowB r) : Int)).sum
theorem sumH_next {l : List (List Va)} {k : Nat} {r : List Va} (h : l[k]? = some r) : sumH (l.take (k + 1)) = sumH (l.take k) + (hashN (rowB r) : Int) := by
  unfold sumH
  rw [List.take_add_one, h, List.map_append, sum_app]
  congr 1
theorem sumH_rev (l : List (List Va)) : sumH l.reverse = sumH l := by
  unfold sumH; rw [List.map_reverse]; exact sum_rev _
/-- the row that stands k from the end -/
theorem rev_get {α : Type} {l : List α} {k : Nat} (hk : k < l.length) : l.reverse[k]? = l[l.length - 1 - k]? := List.getElem?_reverse hk
theorem mod_add (a b : Int) : (a % 18446744073709551616 + b) % 18446744073709551616 = (a + b) % 18446744073709551616 := by omega
theorem mod_sub (a b : Int) : (a % 18446744073709551616 - b) % 18446744073709551616 = (a - b) % 18446744073709551616 := by omega
end Go.Proofs.YtjdnbgnjgicbbaaDoor
