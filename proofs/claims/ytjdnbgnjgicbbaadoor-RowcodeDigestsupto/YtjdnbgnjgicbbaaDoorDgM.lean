/-
  Acts that came in; the reference's Take as one contract; what the law's walk knows of the world.
-/
import Derived.Test.YtjdnbgnjgicbbaaDoorDgB
import Derived.Deep.RegionHeld3
namespace Go.Proofs.YtjdnbgnjgicbbaaDoor
open Go.RowKit Go.Shelf

/-- a row that comes, or goes -/
structure Ac where
  b : Bool
  r : Rw
/-- the acts of a list lie behind its place -/
def actsIn (w : World) (P : Option Addr) (l : List Ac) : Prop := l = [] ∨ ∃ g off, P = some ⟨g, off, none⟩ ∧ g < w.heap.size ∧
  ∀ i a, l[i]? = some a → w.cell? ⟨g, off + i * 2, none⟩ = some (.bool a.b) ∧ w.cell? ⟨g, off + i * 2 + 1, none⟩ = some (.slice a.r.p a.r.la.length a.r.c)
theorem refrow_good {r : Rw} {w : World} (hr : rwOk w r) (hl : r.la.length ≤ 9223372036854775807) (h : rowE r.la = 0) :
    Calls Tryd.prog 32 #[.slice r.p r.la.length r.c] w fun e w' => ∃ v', e = .returned (.tuple #[v', .int .i64 0]) ∧ Below w.heap.size w w' ∧ ownsB w' w.heap.size v' (rowB r.la) := by
  have := refRow_any r.p r.c r.la w hr.1 hr.2.1 hl
  rw [h] at this
  refine this.mono ?_
  rintro e w' ⟨v', rfl, hb, ho, _⟩
  exact ⟨v', rfl, hb, ho rfl⟩
theorem refrow_bad {r : Rw} {w : World} (hr : rwOk w r) (hl : r.la.length ≤ 9223372036854775807) :
    Calls Tryd.prog 32 #[.slice r.p r.la.length r.c] w fun e w' => ∃ v', e = .returned (.tuple #[v', .int .i64 (rowE r.la)]) ∧ Below w.heap.size w w' := by
  refine (refRow_any r.p r.c r.la w hr.1 hr.2.1 hl).mono ?_
  rintro e w' ⟨v', rfl, hb, _⟩
  exact ⟨v', rfl, hb⟩
theorem refHash_own (base : Nat) (v : Value) (l : List UInt8) (w : World) (h : ownsB w base v l) (hl : l.length ≤ 10000000) :
    Calls Tryd.prog 13 #[v] w fun e w' => e = .returned (.int .u64 (hashN l : Int)) ∧ w' = w := by
  rcases h.2 with ⟨rfl, h0⟩ | ⟨g, cap, cur, rfl, _⟩
  · obtain rfl : l = [] := List.eq_nil_of_length_eq_zero h0
    exact refHash_any none 0 [] w (Or.inl rfl) (by simp)
  · refine refHash_any _ cap l w ?_ hl
    refine Or.inr ⟨g, 0, rfl, ((World.ownsRow.lt h) g rfl).2, fun i x hx => ?_⟩
    have hi := (List.getElem?_eq_some_iff.1 hx).1
    rw [Nat.zero_add, World.ownsRow.cellAt h i (by omega)]; exact by8_get hx
theorem Takein_any (D : Nat) (S R : Int) (r : Rw) (w : World) (hR : rowE r.la = 0 → -9223372036854775808 ≤ R ∧ R ≤ 9223372036854775806) (hr : rwOk w r) (hl : r.la.length ≤ 9223372036854775807) (hD : digR w D S R) :
    Calls Tryd.prog 20 #[.pointer (some ⟨D, 0, none⟩), .slice r.p r.la.length r.c, .bool true] w fun e w' => e = .returned (.int .i64 (rowE r.la)) ∧ But D w w' ∧ digR w' D (addS S r) (addR R r) := by
  by_cases h : rowE r.la = 0
  · have e1 : addS S r = (S + hsh r) % 18446744073709551616 := if_pos h
    have e2 : addR R r = R + 1 := if_pos h
    rw [e1, e2, h]
    exact Take_in D S R (hashN (rowB r.la)) (rowB r.la) r.p r.c r.la w (hR h) (refrow_good hr hl h) (fun base v w ho => refHash_own base v _ w ho (Nat.le_trans (rowB_len h) (by decide))) hD
  · have e1 : addS S r = S := if_neg h
    have e2 : addR R r = R := if_neg h
    rw [e1, e2]
    refine (Take_bad D r.p r.c r.la true w (rowE r.la) (by rw [bne_iff_ne]; exact h) (refrow_bad hr hl)).mono ?_
    rintro e w' ⟨rfl, hb⟩
    exact ⟨rfl, But.of hb, hD.below hb⟩
theorem Takeout_any (D : Nat) (S R : Int) (r : Rw) (w : World) (hR : rowE r.la = 0 → -9223372036854775807 ≤ R ∧ R ≤ 9223372036854775807) (hr : rwOk w r) (hl : r.la.length ≤ 9223372036854775807) (hD : digR w D S R) :
    Calls Tryd.prog 20 #[.pointer (some ⟨D, 0, none⟩), .slice r.p r.la.length r.c, .bool false] w fun e w' => e = .returned (.int .i64 (rowE r.la)) ∧ But D w w' ∧ digR w' D (subS S r) (subR R r) := by
  by_cases h : rowE r.la = 0
  · have e1 : subS S r = (S - hsh r) % 18446744073709551616 := if_pos h
    have e2 : subR R r = R - 1 := if_pos h
    rw [e1, e2, h]
    exact Take_out D S R (hashN (rowB r.la)) (rowB r.la) r.p r.c r.la w (hR h) (refrow_good hr hl h) (fun base v w ho => refHash_own base v _ w ho (Nat.le_trans (rowB_len h) (by decide))) hD
  · have e1 : subS S r = S := if_neg h
    have e2 : subR R r = R := if_neg h
    rw [e1, e2]
    refine (Take_bad D r.p r.c r.la false w (rowE r.la) (by rw [bne_iff_ne]; exact h) (refrow_bad hr hl)).mono ?_
    rintro e w' ⟨rfl, hb⟩
    exact ⟨rfl, But.of hb, hD.below hb⟩
theorem But.digR {D E : Nat} {w w' : World} (h : But D w w') {S R : Int} (hd : digR w E S R) (hne : E ≠ D) : digR w' E S R := (h.block E hd.lt hne).trans hd
theorem grown_dig {g E : Nat} {w w' : World} (h : w.grownBy w' (some g)) {S R : Int} (hd : dig w E S R) (hne : E ≠ g) : dig w' E S R := (h.block E hd.lt (by simpa using hne)).trans hd
theorem grown_digR {g E : Nat} {w w' : World} (h : w.grownBy w' (some g)) {S R : Int} (hd : digR w E S R) (hne : E ≠ g) : digR w' E S R := (h.block E hd.lt (by simpa using hne)).trans hd
theorem own_but {D base e size n : Nat} {v : Value} {xs : List Value} {w w' : World} (hb : But D w w') (h : w.ownsRow base e size v n xs) (hne : v.ownBlock ≠ some D) : w'.ownsRow base e size v n xs :=
  World.ownsRow.kept h (row := some D) ⟨hb.os, hb.tape, hb.output, hb.size, fun k hk hk2 => hb.block k hk (by simpa using hk2)⟩ (Or.inr hne)
/-- two digests, the program's and the reference's, that tell the same; what came in as it was -/
structure Sta (w wr : World) (A B : Nat) (S R : Int) : Prop where
  a : dig wr A S R
  b : digR wr B S R
  ha : w.heap.size ≤ A
  hb : w.heap.size ≤ B
  ne : A ≠ B
  bel : Below w.heap.size w wr
theorem digR_next (w : World) (o : Obj) : digR ((w.alloc o).alloc (.cells #[.int .u64 0, .int .i64 0] 42)) (w.heap.size + 1) 0 0 := by
  have : digR ((w.alloc o).alloc (.cells #[.int .u64 0, .int .i64 0] 42)) (w.alloc o).heap.size 0 0 := by unfold digR; rw [heap_alloc_new]
  simpa using this
theorem dig_new (w : World) : dig (w.alloc (.cells #[.int .u64 0, .int .i64 0] 39)) w.heap.size 0 0 := by
  unfold dig; rw [heap_alloc_new]
theorem Sta.new (w : World) : Sta w ((w.alloc (.cells #[.int .u64 0, .int .i64 0] 39)).alloc (.cells #[.int .u64 0, .int .i64 0] 42)) w.heap.size (w.heap.size + 1) 0 0 :=
  ⟨(dig_new w).below ((Below.refl _ _).alloc (Nat.le_refl _) _), digR_next w _, Nat.le_refl _, by omega, by omega, ((Below.refl _ w).alloc (Nat.le_refl _) _).alloc (by simp) _⟩
theorem addR_ge (R : Int) (r : Rw) : R ≤ addR R r ∧ addR R r ≤ R + 1 := by unfold addR; split <;> omega
theorem subR_ge (R : Int) (r : Rw) : R - 1 ≤ subR R r ∧ subR R r ≤ R := by unfold subR; split <;> omega
/-- a condition may be made stronger on the way -/
theorem wpAnyH_strong {P : Program} {md : Region.Mode} {ops : Array Oper} {Q : Exit → Act → World → Prop} {S S' : World → Prop} (hSS : ∀ w, S' w → S w) : ∀ (fuel : Nat) (listed : Array Bool) (a : Act) (w : World), wpAnyH P md ops Q S' fuel listed a w → wpAnyH P md ops Q S fuel listed a w
  | 0, _, _, _, h => h
  | fuel + 1, _, _, _, h => ⟨h.1, fun i hi => wpOp_mono (fun a' w' h' => ⟨hSS w' h'.1, wpAnyH_strong hSS fuel _ a' w' h'.2⟩) (h.2 i hi)⟩
theorem take_at {P : Program} {ops : Array Oper} {Q : Exit → Act → World → Prop} {md : Region.Mode} {S : World → Prop} {i d : Nat} {oi : Oper} {v : Value} {fuel : Nat} {listed : Array Bool} {ts : Array Value} {df : List Deferred} {w : World} (hi : ops[i]? = some oi) (hd : oi.dst = some d)
    (hs : Region.noSelect ops = true) (hf : Region.free md ops listed i = true) (hr : (Region.ready md ops listed).contains i = true)
    (hQ : ∀ c a w, Q (.panic c) (a.put oi.dst v) w → Q (.panic c) a w) (hy : YieldsIf P ops S oi v ⟨ts, df⟩) (hS : S w)
    (h : wpAnyH P md ops Q S fuel (listed.setIfInBounds i true) ⟨ts.setIfInBounds d v, df⟩ w) : wpAnyH P md ops Q S (fuel + 1) listed ⟨ts, df⟩ w :=
  wpAnyH_take hi hs hf hr hQ hy hS (by rw [hd]; exact h)
theorem row99 (W : World) : rwOk (W.alloc (.cells #[.int .i64 99, .int .i64 0, .string ⟨#[]⟩] 23)) ⟨some ⟨W.heap.size, 0, none⟩, 1, [⟨99, 0, ⟨#[]⟩⟩]⟩ := by
  refine ⟨Or.inr ⟨W.heap.size, 0, rfl, by simp, fun i v hv => ?_⟩, ?_, ?_⟩
  · have hi : i = 0 := by have := (List.getElem?_eq_some_iff.1 hv).1; simp at this; exact this
    subst hi; simp at hv; subst hv
    go_simp
  · intro v hv; simp at hv; subst hv; show fit 0; unfold fit; omega
  · intro v hv; simp at hv; subst hv; show (0 : Nat) ≤ _; omega
theorem bad_row : rowE [⟨99, 0, ⟨#[]⟩⟩] = 1 := by decide
theorem nil_row : rowE [] = 0 := by decide
theorem addS_bad {S : Int} {r : Rw} (h : ¬ rowE r.la = 0) : addS S r = S := if_neg h
theorem addR_bad {R : Int} {r : Rw} (h : ¬ rowE r.la = 0) : addR R r = R := if_neg h
end Go.Proofs.YtjdnbgnjgicbbaaDoor
