/-
  locksteplaw01.ValueLogic answers true, whatever the three values are.
-/
import Derived.Test.YtmgmpkdnepomgaaDoorLogicE
namespace Go.Proofs.YtmgmpkdnepomgaaDoor
open Go.RowKit Go.Shelf

/-- an answer as a value -/
def enc (x : Option Bool) : Va := ⟨tyK x, nK x, ⟨#[]⟩⟩
theorem good_enc (x : Option Bool) : good (enc x) := by
  rcases x with _ | b
  · exact Or.inl rfl
  · cases b
    · exact Or.inr ⟨rfl, Or.inl rfl⟩
    · exact Or.inr ⟨rfl, Or.inr rfl⟩
theorem k3_enc (x : Option Bool) : k3 (enc x) = x := by
  rcases x with _ | b
  · rfl
  · cases b <;> rfl
theorem join_comm (s : Bool) (x y : Option Bool) : join3 s x y = join3 s y x := by
  rcases x with _ | x <;> rcases y with _ | y <;> cases s <;> (try cases x) <;> (try cases y) <;> rfl
theorem join_assoc (x y z : Option Bool) : join3 false x (join3 false y z) = join3 false (join3 false x y) z := by
  rcases x with _ | x <;> rcases y with _ | y <;> rcases z with _ | z <;> (try cases x) <;> (try cases y) <;> (try cases z) <;> rfl
theorem not_and (x y : Option Bool) : join3 true (not3 x) (not3 y) = not3 (join3 false x y) := by
  rcases x with _ | x <;> rcases y with _ | y <;> (try cases x) <;> (try cases y) <;> rfl
theorem jT_good {s : Bool} {a b : Va} (ha : good a) (hb : good b) : jT s a b = tyK (join3 s (k3 a) (k3 b)) := if_pos ((truths_two a b).2 ⟨ha, hb⟩)
theorem jN_good {s : Bool} {a b : Va} (ha : good a) (hb : good b) : jN s a b = nK (join3 s (k3 a) (k3 b)) := if_pos ((truths_two a b).2 ⟨ha, hb⟩)
theorem nT_good {a : Va} (ha : good a) : nT a = tyK (not3 (k3 a)) := if_pos ((truths_one a).2 ha)
theorem nN_good {a : Va} (ha : good a) : nN a = nK (not3 (k3 a)) := if_pos ((truths_one a).2 ha)
theorem truths_skip {a c : Va} (ha : good a) : truthsE [a, c] = truthsE [c] := by
  unfold truthsE
  rw [errs_pass (good_chk ha), badTruth_pass (by rcases ha with h | h; exact Or.inl h; exact Or.inr h.1)]

theorem andC (a b : Va) (ha : a.s.size ≤ 9223372036854775807) (hb : b.s.size ≤ 9223372036854775807) {x1 x2 E : Int} (e1 : jT false a b = x1) (e2 : jN false a b = x2) (e3 : truthsE [a, b] = E) :
    ∀ w, Tabs w → Calls Tryd.prog 4 #[.agg #[.int .i64 a.ty, .int .i64 a.n, .string a.s], .agg #[.int .i64 b.ty, .int .i64 b.n, .string b.s]] w fun e w' => e = .returned (.tuple #[.agg #[.int .i64 x1, .int .i64 x2, .string ⟨#[]⟩], .int .i64 E]) ∧ Below w.heap.size w w' := fun w h => by
  have := And_any a b w ha hb h
  rw [e1, e2, e3] at this; exact this
theorem orC (a b : Va) (ha : a.s.size ≤ 9223372036854775807) (hb : b.s.size ≤ 9223372036854775807) {x1 x2 E : Int} (e1 : jT true a b = x1) (e2 : jN true a b = x2) (e3 : truthsE [a, b] = E) :
    ∀ w, Tabs w → Calls Tryd.prog 6 #[.agg #[.int .i64 a.ty, .int .i64 a.n, .string a.s], .agg #[.int .i64 b.ty, .int .i64 b.n, .string b.s]] w fun e w' => e = .returned (.tuple #[.agg #[.int .i64 x1, .int .i64 x2, .string ⟨#[]⟩], .int .i64 E]) ∧ Below w.heap.size w w' := fun w h => by
  have := Or_any a b w ha hb h
  rw [e1, e2, e3] at this; exact this
theorem notC (a : Va) (ha : a.s.size ≤ 9223372036854775807) {x1 x2 E : Int} (e1 : nT a = x1) (e2 : nN a = x2) (e3 : truthsE [a] = E) :
    ∀ w, Tabs w → Calls Tryd.prog 8 #[.agg #[.int .i64 a.ty, .int .i64 a.n, .string a.s]] w fun e w' => e = .returned (.tuple #[.agg #[.int .i64 x1, .int .i64 x2, .string ⟨#[]⟩], .int .i64 E]) ∧ Below w.heap.size w w' := fun w h => by
  have := Not_any a w ha h
  rw [e1, e2, e3] at this; exact this

theorem ValueLogic_any (a b c : Va) (w : World) (ha : a.s.size ≤ 9223372036854775807) (hb : b.s.size ≤ 9223372036854775807) (hc : c.s.size ≤ 9223372036854775807) (hT : Tabs w) (hP : Pow w) :
    Calls Tryd.prog 3 #[.agg #[.int .i64 a.ty, .int .i64 a.n, .string a.s], .agg #[.int .i64 b.ty, .int .i64 b.n, .string b.s], .agg #[.int .i64 c.ty, .int .i64 c.n, .string c.s]] w fun e w' => e = .returned (.bool true) ∧ Below w.heap.size w w' := by
  have he : ∀ x, (enc x).s.size ≤ 9223372036854775807 := fun x => by show (0 : Nat) ≤ _; omega
  by_cases hE : truthsE [a, b] = 0
  · obtain ⟨ga, gb⟩ := (truths_two a b).1 hE
    obtain ⟨x, hx⟩ : ∃ x, x = join3 false (k3 a) (k3 b) := ⟨_, rfl⟩
    have gx := good_enc x
    have kx := k3_enc x
    have hba : truthsE [b, a] = 0 := (truths_two b a).2 ⟨gb, ga⟩
    have x1 : jT false a b = tyK x := by rw [jT_good ga gb, hx]
    have x2 : jN false a b = nK x := by rw [jN_good ga gb, hx]
    have C1 := andC a b ha hb x1 x2 hE
    have C7 := andC b a hb ha (by rw [jT_good gb ga, join_comm, hx] : jT false b a = tyK x) (by rw [jN_good gb ga, join_comm, hx] : jN false b a = nK x) hba
    have C2 : ∀ w, Calls Tryd.prog 5 #[.agg #[.int .i64 a.ty, .int .i64 a.n, .string a.s], .agg #[.int .i64 b.ty, .int .i64 b.n, .string b.s]] w fun e w' => e = .returned (.tuple #[.agg #[.int .i64 (tyK x), .int .i64 (nK x), .string ⟨#[]⟩], .int .i64 0]) ∧ Below w.heap.size w w' := fun w => by
      have := refAnd_any a b w
      rw [x1, x2, hE] at this; exact this
    have C3 := orC a b ha hb rfl rfl hE
    have C4 : ∀ w, Calls Tryd.prog 7 #[.agg #[.int .i64 a.ty, .int .i64 a.n, .string a.s], .agg #[.int .i64 b.ty, .int .i64 b.n, .string b.s]] w fun e w' => e = .returned (.tuple #[.agg #[.int .i64 (jT true a b), .int .i64 (jN true a b), .string ⟨#[]⟩], .int .i64 0]) ∧ Below w.heap.size w w' := fun w => by
      have := refOr_any a b w
      rw [hE] at this; exact this
    have ea := (truths_one a).2 ga
    have C5 := notC a ha (nT_good ga) (nN_good ga) ea
    have C6 : ∀ w, Calls Tryd.prog 9 #[.agg #[.int .i64 a.ty, .int .i64 a.n, .string a.s]] w fun e w' => e = .returned (.tuple #[.agg #[.int .i64 (tyK (not3 (k3 a))), .int .i64 (nK (not3 (k3 a))), .string ⟨#[]⟩], .int .i64 0]) ∧ Below w.heap.size w w' := fun w => by
      have := refNot_any a w
      rw [nT_good ga, nN_good ga, ea] at this; exact this
    by_cases hG : truthsE [c] = 0
    · have gc := (truths_one c).1 hG
      obtain ⟨y, hy⟩ : ∃ y, y = join3 false (k3 b) (k3 c) := ⟨_, rfl⟩
      have C8 := andC (enc x) c (he x) hc (jT_good gx gc) (jN_good gx gc) ((truths_skip gx).trans hG)
      have C9 := andC b c hb hc (by rw [jT_good gb gc, hy] : jT false b c = tyK y) (by rw [jN_good gb gc, hy] : jN false b c = nK y) ((truths_skip gb).trans hG)
      have gy := good_enc y
      have E10 : join3 false (k3 a) (k3 (enc y)) = join3 false (k3 (enc x)) (k3 c) := by rw [k3_enc, k3_enc, hy, hx, join_assoc]
      have C10 := andC a (enc y) ha (he y) (by rw [jT_good ga gy, E10] : jT false a (enc y) = tyK (join3 false (k3 (enc x)) (k3 c))) (by rw [jN_good ga gy, E10] : jN false a (enc y) = nK (join3 false (k3 (enc x)) (k3 c))) ((truths_two _ _).2 ⟨ga, gy⟩)
      have C11 := notC (enc x) (he x) (nT_good gx) (nN_good gx) ((truths_one _).2 gx)
      have C12 := notC b hb (nT_good gb) (nN_good gb) ((truths_one b).2 gb)
      have E13 : join3 true (k3 (enc (not3 (k3 a)))) (k3 (enc (not3 (k3 b)))) = not3 (k3 (enc x)) := by rw [k3_enc, k3_enc, k3_enc, hx, not_and]
      have C13 := orC (enc (not3 (k3 a))) (enc (not3 (k3 b))) (he _) (he _) (by rw [jT_good (good_enc _) (good_enc _), E13] : _ = tyK (not3 (k3 (enc x)))) (by rw [jN_good (good_enc _) (good_enc _), E13] : _ = nK (not3 (k3 (enc x)))) ((truths_two _ _).2 ⟨good_enc _, good_enc _⟩)
      exact law_all a b c w hT hP _ _ _ _ _ _ _ _ _ _ _ _ _ _ _ _ C1 C2 C3 C4 C5 C6 C7 C8 C9 C10 C11 C12 C13
    · have hne : (truthsE [c] != 0) = true := by rw [bne_iff_ne]; exact hG
      have C8 := andC (enc x) c (he x) hc rfl rfl (truths_skip gx)
      have C9 := andC b c hb hc rfl rfl (truths_skip gb)
      exact law_part a b c w hT hP _ _ _ _ _ _ _ _ _ _ _ _ C1 C2 C3 C4 C5 C6 C7 C8 C9 hne
  · have hne : (truthsE [a, b] != 0) = true := by rw [bne_iff_ne]; exact hE
    exact law_err a b c w hT hP _ _ _ _ _ _ _ _ (fun w h => And_any a b w ha hb h) (fun w => refAnd_any a b w) (fun w h => Or_any a b w ha hb h) (fun w => refOr_any a b w) (fun w h => Not_any a w ha h) (fun w => refNot_any a w) hne
end Go.Proofs.YtmgmpkdnepomgaaDoor
