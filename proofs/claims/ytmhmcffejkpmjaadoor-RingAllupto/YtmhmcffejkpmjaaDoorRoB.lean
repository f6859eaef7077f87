/-
  The walk of value.Order, for the seats of layer 2.
-/
import Derived.Test.YtmhmcffejkpmjaaDoorRoA
namespace Go.Proofs.YtmhmcffejkpmjaaDoor
open Go.RowKit Go.Shelf

/-- the one order of all values -/
def ordV (a b : Va) : Int :=
  if grp a.ty = grp b.ty then
    if grp a.ty = 0 then 0
    else if grp a.ty = 1 then firstI [numC a b, cmpI a.ty b.ty]
    else if grp a.ty = 2 then cmpB a.s b.s
    else if grp a.ty = 3 then cmpI a.n b.n
    else firstI [cmpI a.ty b.ty, cmpI a.n b.n, cmpB a.s b.s]
  else cmpI (grp a.ty) (grp b.ty)
theorem grp_vals (t : Int) : grp t = 0 ∨ grp t = 1 ∨ grp t = 2 ∨ grp t = 3 ∨ grp t = 4 := by
  unfold grp
  split
  · simp
  · split
    · simp
    · split
      · simp
      · split <;> simp
theorem cmpI_ne {x y : Int} (h : x ≠ y) : (cmpI x y != 0) = true := by
  rw [bne_iff_ne]; unfold cmpI; split
  · omega
  · split <;> omega
theorem intsAt_three (w : World) (x y z : Int) (t : TypeId) : intsAt (w.alloc (.cells #[.int .i64 x, .int .i64 y, .int .i64 z] t)) w.heap.size [x, y, z] := by
  refine ⟨by simp, ?_⟩
  intro i v hv
  have hi := (List.getElem?_eq_some_iff.1 hv).1
  simp only [List.length_cons, List.length_nil] at hi
  have : i = 0 ∨ i = 1 ∨ i = 2 := by omega
  rcases this with rfl | rfl | rfl
  · simp at hv; subst hv; simp only [World.cell?, heap_alloc_new]; simp
  · simp at hv; subst hv; simp only [World.cell?, heap_alloc_new]; simp
  · simp at hv; subst hv; simp only [World.cell?, heap_alloc_new]; simp
/-- two boxes, one behind the other -/
structure Ft (w : World) (B : Nat) (a b : Va) : Prop where
  lt : B + 1 < w.heap.size
  a0 : w.cell? ⟨B, 0, none⟩ = some (.int .i64 a.ty)
  a1 : w.cell? ⟨B, 1, none⟩ = some (.int .i64 a.n)
  a2 : w.cell? ⟨B, 2, none⟩ = some (.string a.s)
  b0 : w.cell? ⟨B + 1, 0, none⟩ = some (.int .i64 b.ty)
  b1 : w.cell? ⟨B + 1, 1, none⟩ = some (.int .i64 b.n)
  b2 : w.cell? ⟨B + 1, 2, none⟩ = some (.string b.s)
theorem Ft.new (w : World) (a b : Va) : Ft ((w.alloc (.cells #[.int .i64 a.ty, .int .i64 a.n, .string a.s] 23)).alloc (.cells #[.int .i64 b.ty, .int .i64 b.n, .string b.s] 23)) w.heap.size a b := by
  constructor
  all_goals go_simp
theorem Ft.below {w w' : World} {B : Nat} {a b : Va} (h : Ft w B a b) (hb : Below w.heap.size w w') : Ft w' B a b := by
  have l := h.lt
  exact ⟨Nat.lt_of_lt_of_le l hb.size, (hb.cell (p := ⟨B, 0, none⟩) (show B < _ by omega)).trans h.a0, (hb.cell (p := ⟨B, 1, none⟩) (show B < _ by omega)).trans h.a1, (hb.cell (p := ⟨B, 2, none⟩) (show B < _ by omega)).trans h.a2,
    (hb.cell (p := ⟨B + 1, 0, none⟩) l).trans h.b0, (hb.cell (p := ⟨B + 1, 1, none⟩) l).trans h.b1, (hb.cell (p := ⟨B + 1, 2, none⟩) l).trans h.b2⟩
set_option maxHeartbeats 4000000 in
set_option maxRecDepth 1000000 in
theorem Order_any (a b : Va) (w : World) (ha : fit a.n) (hb : fit b.n) :
    Calls Tryd.prog 26 #[.agg #[.int .i64 a.ty, .int .i64 a.n, .string a.s], .agg #[.int .i64 b.ty, .int .i64 b.n, .string b.s]] w fun e w' => e = .returned (.int .i64 (ordV a b)) ∧ Below w.heap.size w w' := by
  have GO : Hid (∀ ty w, Calls Tryd.prog 33 #[.int .i64 ty] w fun e w' => e = .returned (.int .i64 (grp ty)) ∧ w' = w) := groupOf_any
  have CI : Hid (∀ x y w, Calls Tryd.prog 34 #[.int .i64 x, .int .i64 y] w fun e w' => e = .returned (.int .i64 (cmpI x y)) ∧ w' = w) := CompareInt
  have CJ : Hid (∀ x y w, Calls Tryd.prog 38 #[.int .i64 x, .int .i64 y] w fun e w' => e = .returned (.int .i64 (cmpI x y)) ∧ w' = w) := CompareInt64
  have SC : Hid (∀ x y w, Calls Tryd.prog 37 #[.string x, .string y] w fun e w' => e = .returned (.int .i64 (cmpB x y)) ∧ w' = w) := sCompare_any
  have OS : Hid (∀ w, Calls Tryd.prog 36 #[.agg #[.int .i64 a.ty, .int .i64 a.n, .string a.s], .agg #[.int .i64 b.ty, .int .i64 b.n, .string b.s]] w fun e w' => e = .returned (.int .i64 (numC a b)) ∧ Below w.heap.size w w') := fun w => orderSizes_any a b w ha hb
  have O2 : Hid (∀ g x y w, intsAt w g [x, y] → Calls Tryd.prog 35 #[.slice (some ⟨g, 0, none⟩) 2 2] w fun e w' => e = .returned (.int .i64 (firstI [x, y])) ∧ w' = w) := fun g x y w h => OrInt g 2 [x, y] w (by simp) h
  have O3 : Hid (∀ g x y z w, intsAt w g [x, y, z] → Calls Tryd.prog 35 #[.slice (some ⟨g, 0, none⟩) 3 3] w fun e w' => e = .returned (.int .i64 (firstI [x, y, z])) ∧ w' = w) := fun g x y z w h => OrInt g 3 [x, y, z] w (by simp) h
  have B0 : Hid (∀ o o', Below w.heap.size w ((w.alloc o).alloc o')) := fun o o' => ((Below.refl _ w).alloc (Nat.le_refl _) o).alloc (by simp) o'
  have F0 : Hid _ := Ft.new w a b
  by_cases hg : grp a.ty = grp b.ty
  · have hc : cmpI (grp a.ty) (grp b.ty) = 0 := cmpI_eq hg
    have C0 : Hid (∀ w, Calls Tryd.prog 34 #[.int .i64 (grp a.ty), .int .i64 (grp b.ty)] w fun e w' => e = .returned (.int .i64 0) ∧ w' = w) := fun w => hc ▸ CompareInt _ _ w
    unfold ordV
    rw [if_pos hg]
    clear hg hc
    have hv := grp_vals a.ty
    generalize hga : grp a.ty = G at *
    have GA : Hid (∀ w, Calls Tryd.prog 33 #[.int .i64 a.ty] w fun e w' => e = .returned (.int .i64 G) ∧ w' = w) := fun w => hga ▸ groupOf_any a.ty w
    clear hga
    rcases hv with rfl | rfl | rfl | rfl | rfl
    · rw [if_pos rfl]
      go_enter Tryd.func26, Tryd.ntmps26
      go_wp2_with fail
      refine (GA.out _).mono ?_
      rintro e w1 ⟨rfl, rfl⟩
      go_wp2_with fail
      refine (GO.out _ _).mono ?_
      rintro e w1 ⟨rfl, rfl⟩
      go_wp2_with fail
      refine (C0.out _).mono ?_
      rintro e w1 ⟨rfl, rfl⟩
      go_wp2_with fail
      go_ret
      exact ⟨rfl, B0.out _ _⟩
    · rw [if_neg (by omega), if_pos rfl]
      go_enter Tryd.func26, Tryd.ntmps26
      go_wp2_with fail
      refine (GA.out _).mono ?_
      rintro e w1 ⟨rfl, rfl⟩
      go_wp2_with fail
      refine (GO.out _ _).mono ?_
      rintro e w1 ⟨rfl, rfl⟩
      go_wp2_with fail
      refine (C0.out _).mono ?_
      rintro e w1 ⟨rfl, rfl⟩
      go_wp2_with fail
      have F1 := F0.out
      have B1 := B0.out (.cells #[.int .i64 a.ty, .int .i64 a.n, .string a.s] 23) (.cells #[.int .i64 b.ty, .int .i64 b.n, .string b.s] 23)
      clear F0 B0
      generalize (w.alloc (.cells #[.int .i64 a.ty, .int .i64 a.n, .string a.s] 23)).alloc (.cells #[.int .i64 b.ty, .int .i64 b.n, .string b.s] 23) = W at *
      obtain ⟨l1, a0, a1, a2, b0, b1, b2⟩ := F1
      go_region_held3 (fun w' => w'.cell? ⟨w.heap.size, 0, none⟩ = some (.int .i64 a.ty) ∧ w'.cell? ⟨w.heap.size, 1, none⟩ = some (.int .i64 a.n) ∧ w'.cell? ⟨w.heap.size, 2, none⟩ = some (.string a.s) ∧ w'.cell? ⟨w.heap.size + 1, 0, none⟩ = some (.int .i64 b.ty) ∧ w'.cell? ⟨w.heap.size + 1, 1, none⟩ = some (.int .i64 b.n) ∧ w'.cell? ⟨w.heap.size + 1, 2, none⟩ = some (.string b.s)) (first | go_keep | exact ⟨(hb2.cell (p := ⟨w.heap.size, 0, none⟩) (by simp; omega)).trans a0, (hb2.cell (p := ⟨w.heap.size, 1, none⟩) (by simp; omega)).trans a1, (hb2.cell (p := ⟨w.heap.size, 2, none⟩) (by simp; omega)).trans a2, (hb2.cell (p := ⟨w.heap.size + 1, 0, none⟩) (by simp; omega)).trans b0, (hb2.cell (p := ⟨w.heap.size + 1, 1, none⟩) (by simp; omega)).trans b1, (hb2.cell (p := ⟨w.heap.size + 1, 2, none⟩) (by simp; omega)).trans b2⟩) ((first | (go_at_call 36; refine (OS.out _).mono ?_; rintro e w' ⟨rfl, hb2⟩) | (go_at_call 34; refine (CI.out _ _ _).mono ?_; rintro e w' ⟨rfl, rfl⟩) | (go_at_call 35; refine (O2.out _ _ _ _ (by exact intsAt_two _ _ _ _)).mono ?_; rintro e w' ⟨rfl, rfl⟩)))
      all_goals go_wp2_with fail
      all_goals go_ret
      all_goals refine ⟨rfl, ?_⟩
      have B2 := B1.drew.trans (hb2.mono B1.drew.size)
      exact B2.alloc B2.size _
    · rw [if_neg (by omega), if_neg (by omega), if_pos rfl]
      go_enter Tryd.func26, Tryd.ntmps26
      go_wp2_with fail
      refine (GA.out _).mono ?_
      rintro e w1 ⟨rfl, rfl⟩
      go_wp2_with fail
      refine (GO.out _ _).mono ?_
      rintro e w1 ⟨rfl, rfl⟩
      go_wp2_with fail
      refine (C0.out _).mono ?_
      rintro e w1 ⟨rfl, rfl⟩
      go_wp2_with fail
      refine (SC.out _ _ _).mono ?_
      rintro e w1 ⟨rfl, rfl⟩
      go_wp2_with fail
      go_ret
      exact ⟨rfl, B0.out _ _⟩
    · rw [if_neg (by omega), if_neg (by omega), if_neg (by omega), if_pos rfl]
      go_enter Tryd.func26, Tryd.ntmps26
      go_wp2_with fail
      refine (GA.out _).mono ?_
      rintro e w1 ⟨rfl, rfl⟩
      go_wp2_with fail
      refine (GO.out _ _).mono ?_
      rintro e w1 ⟨rfl, rfl⟩
      go_wp2_with fail
      refine (C0.out _).mono ?_
      rintro e w1 ⟨rfl, rfl⟩
      go_wp2_with fail
      refine (CJ.out _ _ _).mono ?_
      rintro e w1 ⟨rfl, rfl⟩
      go_wp2_with fail
      go_ret
      exact ⟨rfl, B0.out _ _⟩
    · rw [if_neg (by omega), if_neg (by omega), if_neg (by omega), if_neg (by omega)]
      go_enter Tryd.func26, Tryd.ntmps26
      go_wp2_with fail
      refine (GA.out _).mono ?_
      rintro e w1 ⟨rfl, rfl⟩
      go_wp2_with fail
      refine (GO.out _ _).mono ?_
      rintro e w1 ⟨rfl, rfl⟩
      go_wp2_with fail
      refine (C0.out _).mono ?_
      rintro e w1 ⟨rfl, rfl⟩
      go_wp2_with fail
      have F1 := F0.out
      have B1 := B0.out (.cells #[.int .i64 a.ty, .int .i64 a.n, .string a.s] 23) (.cells #[.int .i64 b.ty, .int .i64 b.n, .string b.s] 23)
      clear F0 B0
      generalize (w.alloc (.cells #[.int .i64 a.ty, .int .i64 a.n, .string a.s] 23)).alloc (.cells #[.int .i64 b.ty, .int .i64 b.n, .string b.s] 23) = W at *
      obtain ⟨l1, a0, a1, a2, b0, b1, b2⟩ := F1
      go_region_held3 (fun w' => w'.cell? ⟨w.heap.size, 0, none⟩ = some (.int .i64 a.ty) ∧ w'.cell? ⟨w.heap.size, 1, none⟩ = some (.int .i64 a.n) ∧ w'.cell? ⟨w.heap.size, 2, none⟩ = some (.string a.s) ∧ w'.cell? ⟨w.heap.size + 1, 0, none⟩ = some (.int .i64 b.ty) ∧ w'.cell? ⟨w.heap.size + 1, 1, none⟩ = some (.int .i64 b.n) ∧ w'.cell? ⟨w.heap.size + 1, 2, none⟩ = some (.string b.s)) (go_keep) ((first | (go_at_call 34; refine (CI.out _ _ _).mono ?_; rintro e w' ⟨rfl, rfl⟩) | (go_at_call 38; refine (CJ.out _ _ _).mono ?_; rintro e w' ⟨rfl, rfl⟩) | (go_at_call 37; refine (SC.out _ _ _).mono ?_; rintro e w' ⟨rfl, rfl⟩) | (go_at_call 35; refine (O3.out _ _ _ _ _ (by exact intsAt_three _ _ _ _ _)).mono ?_; rintro e w' ⟨rfl, rfl⟩)))
      all_goals go_wp2_with fail
      all_goals go_ret
      all_goals refine ⟨rfl, ?_⟩
      exact (B1.alloc B1.size _).drew
  · have hne := cmpI_ne hg
    have e : ordV a b = cmpI (grp a.ty) (grp b.ty) := by unfold ordV; rw [if_neg hg]
    rw [e]
    clear hg e
    go_enter Tryd.func26, Tryd.ntmps26
    go_wp2_with fail
    refine (GO.out _ _).mono ?_
    rintro e w1 ⟨rfl, rfl⟩
    go_wp2_with fail
    refine (GO.out _ _).mono ?_
    rintro e w1 ⟨rfl, rfl⟩
    go_wp2_with fail
    refine (CI.out _ _ _).mono ?_
    rintro e w1 ⟨rfl, rfl⟩
    go_wp2_with fail
    go_ret
    exact ⟨rfl, B0.out _ _⟩
theorem cmpI_turn (x y : Int) : cmpI y x = -(cmpI x y) := by
  by_cases h : x < y
  · rw [cmpI_lt h, cmpI_gt h]; rfl
  · by_cases g : y < x
    · rw [cmpI_lt g, cmpI_gt g]
    · rw [cmpI_eq (show x = y by omega), cmpI_eq (show y = x by omega)]; rfl
theorem mix_cmp (n p : Int) : mixI n p = cmpI (n * 10000) p := by
  have e := Int.mul_tdiv_add_tmod p 10000
  have l1 : p.tmod 10000 < 10000 := Int.tmod_lt_of_pos p (by omega)
  have l2 : -10000 < p.tmod 10000 := by
    have := Int.tmod_lt_of_pos (-p) (b := 10000) (by omega)
    rw [Int.neg_tmod] at this; omega
  unfold mixI
  generalize p.tdiv 10000 = q at *
  generalize p.tmod 10000 = r at *
  by_cases h : n < q
  · rw [cmpI_lt (show n * 10000 < p by omega), cmpI_lt h]; rfl
  · by_cases h2 : q < n
    · rw [cmpI_gt (show p < n * 10000 by omega), cmpI_gt h2]; rfl
    · rw [cmpI_eq (show n = q by omega)]
      show firstI [cmpI 0 r] = _
      have : firstI [cmpI 0 r] = cmpI 0 r := by unfold firstI; split; rename_i h; rw [h]; rfl; rfl
      rw [this]
      unfold cmpI
      by_cases h3 : 0 < r
      · rw [if_pos h3, if_pos (by omega)]
      · by_cases h4 : r < 0
        · rw [if_neg (by omega), if_pos h4, if_neg (by omega), if_pos (by omega)]
        · rw [if_neg (by omega), if_neg (by omega), if_neg (by omega), if_neg (by omega)]
theorem grp_one {t : Int} : grp t = 1 ↔ t = 1 ∨ t = 2 := by
  unfold grp
  constructor
  · intro h
    by_cases h0 : t = 0
    · rw [if_pos h0] at h; omega
    · rw [if_neg h0] at h
      by_cases h1 : t = 1 ∨ t = 2
      · exact h1
      · rw [if_neg h1] at h
        split at h
        · omega
        · split at h <;> omega
  · intro h
    rw [if_neg (by omega), if_pos h]
theorem num_cmp {a b : Va} (ha : grp a.ty = 1) (hb : grp b.ty = 1) : numC a b = cmpI (sc a) (sc b) := by
  rw [grp_one] at ha hb
  unfold numC sc
  by_cases h : a.ty = b.ty
  · rw [if_pos h]
    by_cases h1 : a.ty = 1
    · rw [if_pos h1, if_pos (by omega)]; unfold cmpI
      by_cases p : a.n < b.n
      · rw [if_pos p, if_pos (by omega)]
      · by_cases q : b.n < a.n
        · rw [if_neg p, if_pos q, if_neg (by omega), if_pos (by omega)]
        · rw [if_neg p, if_neg q, if_neg (by omega), if_neg (by omega)]
    · rw [if_neg h1, if_neg (by omega)]
  · rw [if_neg h]
    by_cases h1 : a.ty = 1
    · rw [if_pos h1, if_pos h1, if_neg (by omega), mix_cmp]
    · rw [if_neg h1, if_neg h1, if_pos (by omega), mix_cmp, cmpI_turn, Int.neg_neg]
theorem cmpI_same (x : Int) : cmpI x x = 0 := cmpI_eq rfl
theorem cmpB_same (x : ByteArray) : cmpB x x = 0 := (cmp_zero _ _).2 rfl
theorem cmpI_zero {x y : Int} : cmpI x y = 0 ↔ x = y := by
  unfold cmpI; split
  · constructor <;> intro h <;> omega
  · split
    · constructor <;> intro h <;> omega
    · constructor <;> intro h <;> omega
/-- how two rows stand -/
def rowsV : List Va → List Va → Int
  | [], [] => 0
  | [], _ :: _ => -1
  | _ :: _, [] => 1
  | x :: a, y :: b => if ordV x y = 0 then rowsV a b else ordV x y
theorem rows_end {a b : List Va} (h : a = [] ∨ b = []) : rowsV a b = cmpI a.length b.length := by
  rcases a with _ | ⟨x, a⟩
  · rcases b with _ | ⟨y, b⟩
    · rfl
    · show (-1 : Int) = _
      rw [cmpI_lt (by simp only [List.length_nil, List.length_cons]; omega)]
  · rcases b with _ | ⟨y, b⟩
    · show (1 : Int) = _
      rw [cmpI_gt (by simp only [List.length_nil, List.length_cons]; omega)]
    · simp at h
theorem cmpI_add (x y k : Int) : cmpI (x + k) (y + k) = cmpI x y := by
  unfold cmpI
  by_cases h : x < y
  · rw [if_pos h, if_pos (by omega)]
  · by_cases g : y < x
    · rw [if_neg h, if_pos g, if_neg (by omega), if_pos (by omega)]
    · rw [if_neg h, if_neg g, if_neg (by omega), if_neg (by omega)]
theorem rows_out {a b : List Va} {k : Nat} (hk : k ≤ a.length) (hk2 : k ≤ b.length) (h : ¬ (k < a.length ∧ k < b.length)) : rowsV (a.drop k) (b.drop k) = cmpI a.length b.length := by
  rw [rows_end (by rcases (show a.length ≤ k ∨ b.length ≤ k by omega) with h | h; exact Or.inl (List.drop_eq_nil_of_le h); exact Or.inr (List.drop_eq_nil_of_le h))]
  rw [← cmpI_add _ _ (k : Int)]
  rw [List.length_drop, List.length_drop]
  congr 1 <;> omega
set_option maxHeartbeats 1000000 in
theorem Same_any (a b : Va) (w : World) (ha : fit a.n) (hb : fit b.n) : Calls Tryd.prog 15 #[.agg #[.int .i64 a.ty, .int .i64 a.n, .string a.s], .agg #[.int .i64 b.ty, .int .i64 b.n, .string b.s]] w fun e w' => e = .returned (.bool (ordV a b == 0)) ∧ Below w.heap.size w w' := by
  have OO : Hid (∀ w, Calls Tryd.prog 26 #[.agg #[.int .i64 a.ty, .int .i64 a.n, .string a.s], .agg #[.int .i64 b.ty, .int .i64 b.n, .string b.s]] w fun e w' => e = .returned (.int .i64 (ordV a b)) ∧ Below w.heap.size w w') := fun w => Order_any a b w ha hb
  generalize ordV a b = c at *
  go_enter Tryd.func15, Tryd.ntmps15
  go_wp2_with fail
  refine (OO.out _).mono ?_
  rintro e w1 ⟨rfl, hb1⟩
  go_wp2_with fail
  go_ret
  exact ⟨rfl, by first | exact hb1 | exact (((Below.refl _ w).alloc (Nat.le_refl _) _).alloc (by simp) _).trans (hb1.mono (by simp; omega))⟩
theorem cmpBy_turn : ∀ a b : List UInt8, Lib.compareBytes b a = -(Lib.compareBytes a b)
  | [], [] => by simp [Lib.compareBytes]
  | [], _ :: _ => by simp [Lib.compareBytes]
  | _ :: _, [] => by simp [Lib.compareBytes]
  | x :: a, y :: b => by
    simp only [Lib.compareBytes, UInt8.lt_iff_toNat_lt]
    by_cases h : x.toNat < y.toNat
    · rw [if_neg (by omega), if_pos h, if_pos h]; rfl
    · by_cases h2 : y.toNat < x.toNat
      · rw [if_pos h2, if_neg h, if_pos h2]
      · rw [if_neg h2, if_neg h, if_neg h, if_neg h2]; exact cmpBy_turn a b
end Go.Proofs.YtmhmcffejkpmjaaDoor
