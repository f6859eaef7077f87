/-
  What the law of rows and bags asks, one contract each; bytes and rows that are none where there is an error.
-/
import Derived.Test.YtedacccedbchaaaDoorBgH
import Derived.Test.YtedacccedbchaaaDoorBgJ
import Derived.Test.YtedacccedbchaaaDoorVaE
namespace Go.Proofs.YtedacccedbchaaaDoor
open Go.RowKit Go.Shelf

def rowX (la : List Va) : List UInt8 := if rowE la = 0 then rowB la else []
def bagX (l : List (List Va)) : List UInt8 := if bagE l = 0 then bagB l else []
theorem rowX_len (la : List Va) : (rowX la).length ≤ 10000000000 := by
  unfold rowX
  split
  · next h => have := rowB_len2 h; omega
  · simp
theorem bagX_len (l : List (List Va)) : (bagX l).length ≤ 10000000000 := by
  unfold bagX
  split
  · next h =>
    have h16 : ¬ 65536 < l.length := fun h2 => by unfold bagE at h; rw [if_pos h2] at h; cases h
    have hE : bagEs l = 0 := by unfold bagE at h; rw [if_neg h16] at h; exact h
    have h1 := flatten_len (L := srtB (l.map rowB)) (m := 131121) (fun x hx => by
      have := (srtB_perm (l.map rowB)).subset hx
      obtain ⟨r, hr, rfl⟩ := List.mem_map.1 this
      exact rowB_len2 (bagEs_all hE r hr))
    have h2 : (srtB (l.map rowB)).length = l.length := by rw [(srtB_perm _).length_eq, List.length_map]
    rw [h2] at h1
    unfold bagB
    rw [List.length_append]
    show 4 + _ ≤ _
    omega
  · simp
theorem row_x {r : Rw} {w : World} (hr : rwOk w r) (hT : Tabs w) :
    Calls Tryd.prog 7 #[.slice r.p r.la.length r.c] w fun e w' => ∃ v', e = .returned (.tuple #[v', .int .i64 (rowE r.la)]) ∧ Below w.heap.size w w' ∧ ownsB w' w.heap.size v' (rowX r.la) := by
  refine (Row_any r.p r.c r.la w hr.1 hr.2.1 hr.2.2 hT).mono ?_
  rintro e w' ⟨v', rfl, hb, h1, h2⟩
  refine ⟨v', rfl, hb, ?_⟩
  unfold rowX
  by_cases h : rowE r.la = 0
  · rw [if_pos h]; exact h1 h
  · rw [if_neg h, h2 h]; exact ownsB_nil _ _
theorem refrow_x {r : Rw} {w : World} (hr : rwOk w r) (hl : r.la.length ≤ 9223372036854775807) :
    Calls Tryd.prog 8 #[.slice r.p r.la.length r.c] w fun e w' => ∃ v', e = .returned (.tuple #[v', .int .i64 (rowE r.la)]) ∧ Below w.heap.size w w' ∧ ownsB w' w.heap.size v' (rowX r.la) := by
  refine (refRow_any r.p r.c r.la w hr.1 hr.2.1 hl).mono ?_
  rintro e w' ⟨v', rfl, hb, h1, h2⟩
  refine ⟨v', rfl, hb, ?_⟩
  unfold rowX
  by_cases h : rowE r.la = 0
  · rw [if_pos h]; exact h1 h
  · rw [if_neg h, h2 h]; exact ownsB_nil _ _
theorem bag_x (P : Option Addr) (C : Nat) (l : List Rw) (w : World) (hP : rowsIn w P l) (hr : ∀ r ∈ l, rwOk w r) (hT : Tabs w) :
    Calls Tryd.prog 10 #[.slice P l.length C] w fun e w' => ∃ v', e = .returned (.tuple #[v', .int .i64 (bagE (l.map (·.la)))]) ∧ Below w.heap.size w w' ∧ ownsB w' w.heap.size v' (bagX (l.map (·.la))) := by
  refine (Bag_any P C l w hP hr hT).mono ?_
  rintro e w' ⟨v', rfl, hb, h1, h2⟩
  refine ⟨v', rfl, hb, ?_⟩
  unfold bagX
  by_cases h : bagE (l.map (·.la)) = 0
  · rw [if_pos h]; exact h1 h
  · rw [if_neg h, h2 h]; exact ownsB_nil _ _
theorem refbag_x (P : Option Addr) (C : Nat) (l : List Rw) (w : World) (hP : rowsIn w P l) (hr : ∀ r ∈ l, rwOk w r) (hk : ∀ r ∈ l, r.la.length ≤ 9223372036854775807) (hl : l.length ≤ 9223372036854775807) :
    Calls Tryd.prog 11 #[.slice P l.length C] w fun e w' => ∃ v', e = .returned (.tuple #[v', .int .i64 (bagE (l.map (·.la)))]) ∧ Below w.heap.size w w' ∧ ownsB w' w.heap.size v' (bagX (l.map (·.la))) := by
  refine (refBag_any P C l w hP hr hk hl).mono ?_
  rintro e w' ⟨v', rfl, hb, h1, h2⟩
  refine ⟨v', rfl, hb, ?_⟩
  unfold bagX
  by_cases h : bagE (l.map (·.la)) = 0
  · rw [if_pos h]; exact h1 h
  · rw [if_neg h, h2 h]; exact ownsB_nil _ _
/-- the row that was read, or none -/
def rX (b : List UInt8) : List Va := match rdRow b with | .ok (s, _) => s | .error _ => []
def bX (b : List UInt8) : List (List Va) := match rdBag b with | .ok s => s | .error _ => []
theorem row_of_x {b : List UInt8} {w' : World} {base : Nat} {v' : Value} (h1 : ∀ s m, rdRow b = .ok (s, m) → ownsV w' base v' s) (h2 : ∀ x, rdRow b = .error x → v' = .slice none 0 0) : ∃ P C, v' = .slice P (rX b).length C ∧ rowIn w' P (rX b) ∧ (rX b).length ≤ 9223372036854775807 := by
  unfold rX
  rcases h : rdRow b with x | ⟨s, m⟩
  · exact ⟨none, 0, h2 x h, Or.inl rfl, by simp⟩
  · obtain ⟨r, e, hla, hr, hc, hm⟩ := (h1 s m h).row
    exact ⟨r.p, r.c, by rw [e, hla], hr, by show s.length ≤ _; omega⟩
theorem bag_of_x {b : List UInt8} {w' : World} {base : Nat} {v' : Value} (h1 : ∀ s, rdBag b = .ok s → ∃ L : List Rw, ownsW w' base v' L ∧ L.map (·.la) = s ∧ ∀ r ∈ L, ownsV w' base r.val r.la) (h2 : ∀ x, rdBag b = .error x → v' = .slice none 0 0) :
    ∃ (P : Option Addr) (C : Nat) (L : List Rw), v' = .slice P L.length C ∧ rowsIn w' P L ∧ (∀ r ∈ L, rowIn w' r.p r.la) ∧ L.map (·.la) = bX b ∧ L.length ≤ 9223372036854775807 ∧ ∀ r ∈ L, r.la.length ≤ 9223372036854775807 := by
  unfold bX
  rcases h : rdBag b with x | s
  · exact ⟨none, 0, [], h2 x h, Or.inl rfl, by simp, rfl, by simp, by simp⟩
  · obtain ⟨L, ho, hm, hv⟩ := h1 s h
    obtain ⟨P, C, rfl, _, hc, hcm⟩ := row_form ho
    refine ⟨P, C, L, rfl, ho.rows.2, fun r hr => (hv r hr).rowIn, hm, by omega, fun r hr => ?_⟩
    obtain ⟨_, _, _, _, h3, h4⟩ := row_form (hv r hr)
    omega
theorem readrow_x (p : Option Addr) (c : Nat) (l : List UInt8) (w : World) (hp : byIn w p l) (hc : l.length ≤ c) (hcm : c ≤ 9223372036854775807) (hlm : l.length ≤ 140737488351232) (hT : Tabs w) :
    Calls Tryd.prog 13 #[.slice p l.length c] w fun e w' => ∃ P C, e = .returned (.tuple #[.slice P (rX l).length C, .int .i64 ((rCnt (rdRow l) : Nat) : Int), .int .i64 (rErr (rdRow l))]) ∧ Below w.heap.size w w' ∧ rowIn w' P (rX l) ∧ (rX l).length ≤ 9223372036854775807 := by
  refine (ReadRow_any p c l w hp hc hcm hlm hT).mono ?_
  rintro e w' ⟨v', rfl, hb, h1, h2⟩
  obtain ⟨P, C, rfl, hr, hl⟩ := row_of_x h1 h2
  exact ⟨P, C, rfl, hb, hr, hl⟩
theorem refreadrow_x (p : Option Addr) (c : Nat) (l : List UInt8) (w : World) (hp : byIn w p l) (hc : l.length ≤ c) (hcm : c ≤ 9223372036854775807) (hlm : l.length ≤ 140737488351232) :
    Calls Tryd.prog 14 #[.slice p l.length c] w fun e w' => ∃ P C, e = .returned (.tuple #[.slice P (rX l).length C, .int .i64 ((rCnt (rdRow l) : Nat) : Int), .int .i64 (rErr (rdRow l))]) ∧ Below w.heap.size w w' ∧ rowIn w' P (rX l) ∧ (rX l).length ≤ 9223372036854775807 := by
  refine (refReadRow_any p c l w hp hc hcm hlm).mono ?_
  rintro e w' ⟨v', rfl, hb, h1, h2⟩
  obtain ⟨P, C, rfl, hr, hl⟩ := row_of_x h1 h2
  exact ⟨P, C, rfl, hb, hr, hl⟩
/-- a list of rows somewhere -/
structure Lst (w : World) (P : Option Addr) (L : List Rw) (M : List (List Va)) : Prop where
  i : rowsIn w P L
  r : ∀ r ∈ L, rowIn w r.p r.la
  m : L.map (·.la) = M
  l : L.length ≤ 9223372036854775807
  k : ∀ r ∈ L, r.la.length ≤ 9223372036854775807
theorem rowsIn.below {w w' : World} {P : Option Addr} {l : List Rw} (h : rowsIn w P l) (hb : Below w.heap.size w w') : rowsIn w' P l := by
  rcases h with h | ⟨g, off, h1, h2, h3⟩
  · exact Or.inl h
  · exact Or.inr ⟨g, off, h1, Nat.lt_of_lt_of_le h2 hb.size, fun i b hi => (hb.cell (p := ⟨g, off + i, none⟩) h2).trans (h3 i b hi)⟩
theorem Lst.below {w w' : World} {P : Option Addr} {L : List Rw} {M : List (List Va)} (h : Lst w P L M) (hb : Below w.heap.size w w') : Lst w' P L M :=
  ⟨h.i.below hb, fun r hr => (h.r r hr).below hb, h.m, h.l, h.k⟩
theorem readbag_x (p : Option Addr) (c : Nat) (l : List UInt8) (w : World) (hp : byIn w p l) (hc : l.length ≤ c) (hcm : c ≤ 9223372036854775807) (hlm : l.length ≤ 140737488351232) (hT : Tabs w) :
    Calls Tryd.prog 15 #[.slice p l.length c] w fun e w' => ∃ P C L, e = .returned (.tuple #[.slice P (L : List Rw).length C, .int .i64 (bErr (rdBag l))]) ∧ Below w.heap.size w w' ∧ Lst w' P L (bX l) := by
  refine (ReadBag_any p c l w hp hc hcm hlm hT).mono ?_
  rintro e w' ⟨v', rfl, hb, h1, h2⟩
  obtain ⟨P, C, L, rfl, q1, q2, q3, q4, q5⟩ := bag_of_x h1 h2
  exact ⟨P, C, L, rfl, hb, q1, q2, q3, q4, q5⟩
theorem refreadbag_x (p : Option Addr) (c : Nat) (l : List UInt8) (w : World) (hp : byIn w p l) (hc : l.length ≤ c) (hcm : c ≤ 9223372036854775807) (hlm : l.length ≤ 140737488351232) :
    Calls Tryd.prog 16 #[.slice p l.length c] w fun e w' => ∃ P C L, e = .returned (.tuple #[.slice P (L : List Rw).length C, .int .i64 (bErr (rdBag l))]) ∧ Below w.heap.size w w' ∧ Lst w' P L (bX l) := by
  refine (refReadBag_any p c l w hp hc hcm hlm).mono ?_
  rintro e w' ⟨v', rfl, hb, h1, h2⟩
  obtain ⟨P, C, L, rfl, q1, q2, q3, q4, q5⟩ := bag_of_x h1 h2
  exact ⟨P, C, L, rfl, hb, q1, q2, q3, q4, q5⟩
theorem lists_x {w : World} {P Q : Option Addr} {cP cQ : Nat} {L K : List Rw} {M : List (List Va)} (h1 : Lst w P L M) (h2 : Lst w Q K M) :
    Calls Tryd.prog 12 #[.slice P L.length cP, .slice Q K.length cQ] w fun e w' => e = .returned (.bool true) ∧ Below w.heap.size w w' :=
  Lists_eq P Q cP cQ L K w (h1.m.trans h2.m.symm) h1.i h2.i h1.r h2.r h1.l h1.k
/-- told of what is the same, and what it leaves alone -/
theorem told_x {w : World} {base b2 B : Nat} {v y : Value} {l : List UInt8} (hown : ownsB w base v l) (hw : ownsB w b2 y l) (hl : l.length ≤ 10000000000) (hb : base ≤ w.heap.size) (hB : B ≤ base) :
    Calls Tryd.prog 9 #[v, y] w fun e w' => e = .returned (.bool true) ∧ Below B w w' := by
  refine (told_any base b2 v y l w hown hw hl hb).mono ?_
  rintro e w' ⟨rfl, hg⟩
  exact ⟨rfl, grown_below hg (Nat.le_trans hB hb) (fun g h => Nat.le_trans hB (own_ge hown g h))⟩
end Go.Proofs.YtedacccedbchaaaDoor
