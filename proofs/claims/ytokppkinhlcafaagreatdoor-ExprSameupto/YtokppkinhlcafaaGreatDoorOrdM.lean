/-
  The order of all values is one of keys, first by first: so it is an order.
-/
import Derived.Test.YtokppkinhlcafaaGreatDoorOrdB
namespace Go.Proofs.YtokppkinhlcafaaGreatDoor
open Go.RowKit Go.Shelf

theorem cmpI_turn (x y : Int) : cmpI y x = -(cmpI x y) := by
  by_cases h : x < y
  · rw [cmpI_lt h, cmpI_gt h]; rfl
  · by_cases g : y < x
    · rw [cmpI_lt g, cmpI_gt g]
    · rw [cmpI_eq (show x = y by omega), cmpI_eq (show y = x by omega)]; rfl
theorem cmpBy_turn : ∀ a b : List UInt8, Lib.compareBytes b a = -(Lib.compareBytes a b)
  | [], [] => by simp [Lib.compareBytes]
  | [], _ :: _ => by simp [Lib.compareBytes]
  | _ :: _, [] => by simp [Lib.compareBytes]
  | x :: a, y :: b => by
    simp only [Lib.compareBytes, UInt8.lt_iff_toNat_lt]
    by_cases h : x.toNat < y.toNat
    · rw [if_neg (by omega), if_pos h, if_pos h]; rfl
    · by_cases h2 : y.toNat < x.toNat
      · rw [if_pos h2, if_neg h, if_pos h2]
      · rw [if_neg h2, if_neg h, if_neg h, if_neg h2]; exact cmpBy_turn a b
theorem cmpBy_trans : ∀ a b c : List UInt8, Lib.compareBytes a b ≤ 0 → Lib.compareBytes b c ≤ 0 → Lib.compareBytes a c ≤ 0
  | [], _, [] => by simp [Lib.compareBytes]
  | [], _, _ :: _ => by simp [Lib.compareBytes]
  | _ :: _, [], _ => by intro h; simp [Lib.compareBytes] at h
  | _ :: _, _ :: _, [] => by intro _ h; simp [Lib.compareBytes] at h
  | x :: a, y :: b, z :: c => by
    simp only [Lib.compareBytes, UInt8.lt_iff_toNat_lt]
    intro h1 h2
    by_cases p : x.toNat < y.toNat
    · by_cases q : y.toNat < z.toNat
      · rw [if_pos (by omega)]; omega
      · rw [if_neg q] at h2
        by_cases q2 : z.toNat < y.toNat
        · rw [if_pos q2] at h2; omega
        · rw [if_pos (by omega)]; omega
    · rw [if_neg p] at h1
      by_cases p2 : y.toNat < x.toNat
      · rw [if_pos p2] at h1; omega
      · rw [if_neg p2] at h1
        by_cases q : y.toNat < z.toNat
        · rw [if_pos (by omega)]; omega
        · rw [if_neg q] at h2
          by_cases q2 : z.toNat < y.toNat
          · rw [if_pos q2] at h2; omega
          · rw [if_neg q2] at h2
            rw [if_neg (by omega), if_neg (by omega)]
            exact cmpBy_trans a b c h1 h2

/-- what tells an order -/
structure Od {α : Type} (f : α → α → Int) : Prop where
  turn : ∀ a b, f b a = -(f a b)
  trans : ∀ a b c, f a b ≤ 0 → f b c ≤ 0 → f a c ≤ 0
theorem od_cmpI {α : Type} (k : α → Int) : Od (fun a b => cmpI (k a) (k b)) := by
  refine ⟨fun a b => cmpI_turn _ _, fun a b c => ?_⟩
  show cmpI _ _ ≤ 0 → cmpI _ _ ≤ 0 → cmpI _ _ ≤ 0
  unfold cmpI
  intro h1 h2
  by_cases p : k a < k b
  · by_cases q : k c < k b
    · rw [if_neg (by omega), if_pos q] at h2; omega
    · rw [if_pos (by omega)]; omega
  · by_cases p2 : k b < k a
    · rw [if_neg p, if_pos p2] at h1; omega
    · have : k a = k b := by omega
      rw [this]; exact h2
theorem od_cmpB {α : Type} (k : α → ByteArray) : Od (fun a b => cmpB (k a) (k b)) :=
  ⟨fun _ _ => cmpBy_turn _ _, fun _ _ _ => cmpBy_trans _ _ _⟩
theorem Od.lex {α : Type} {f g : α → α → Int} (hf : Od f) (hg : Od g) : Od (fun a b => if f a b = 0 then g a b else f a b) := by
  refine ⟨fun a b => ?_, fun a b c => ?_⟩
  · show (if f b a = 0 then g b a else f b a) = -(if f a b = 0 then g a b else f a b)
    rw [hf.turn a b, hg.turn a b]
    by_cases h : f a b = 0
    · rw [if_pos (by omega), if_pos h]
    · rw [if_neg (by omega), if_neg h]
  · show (if f a b = 0 then g a b else f a b) ≤ 0 → (if f b c = 0 then g b c else f b c) ≤ 0 → (if f a c = 0 then g a c else f a c) ≤ 0
    intro h1 h2
    have t1 := hf.trans a b c
    have t2 := hf.trans c b a
    have t3 := hf.trans b c a
    have t4 := hf.trans c a b
    have t5 := hf.trans b a c
    have t6 := hf.trans a c b
    have u1 := hf.turn a b
    have u2 := hf.turn b c
    have u3 := hf.turn a c
    by_cases p : f a b = 0
    · rw [if_pos p] at h1
      by_cases q : f b c = 0
      · rw [if_pos q] at h2
        rw [if_pos (by omega)]
        exact hg.trans a b c h1 h2
      · rw [if_neg q] at h2
        rw [if_neg (by omega)]; omega
    · rw [if_neg p] at h1
      by_cases q : f b c = 0
      · rw [if_pos q] at h2
        rw [if_neg (by omega)]; omega
      · rw [if_neg q] at h2
        rw [if_neg (by omega)]; omega

/-- a number's ten-thousandths -/
def sc (v : Va) : Int := if v.ty = 1 then v.n * 10000 else v.n
theorem mix_cmp (n p : Int) : mixI n p = cmpI (n * 10000) p := by
  have e := Int.mul_tdiv_add_tmod p 10000
  have l1 : p.tmod 10000 < 10000 := Int.tmod_lt_of_pos p (by omega)
  have l2 : -10000 < p.tmod 10000 := by
    have := Int.tmod_lt_of_pos (-p) (b := 10000) (by omega)
    rw [Int.neg_tmod] at this; omega
  unfold mixI
  generalize p.tdiv 10000 = q at *
  generalize p.tmod 10000 = r at *
  by_cases h : n < q
  · rw [cmpI_lt (show n * 10000 < p by omega), cmpI_lt h]; rfl
  · by_cases h2 : q < n
    · rw [cmpI_gt (show p < n * 10000 by omega), cmpI_gt h2]; rfl
    · rw [cmpI_eq (show n = q by omega)]
      show firstI [cmpI 0 r] = _
      have : firstI [cmpI 0 r] = cmpI 0 r := by unfold firstI; split; rename_i h; rw [h]; rfl; rfl
      rw [this]
      unfold cmpI
      by_cases h3 : 0 < r
      · rw [if_pos h3, if_pos (by omega)]
      · by_cases h4 : r < 0
        · rw [if_neg (by omega), if_pos h4, if_neg (by omega), if_pos (by omega)]
        · rw [if_neg (by omega), if_neg (by omega), if_neg (by omega), if_neg (by omega)]
theorem grp_one {t : Int} : grp t = 1 ↔ t = 1 ∨ t = 2 := by
  unfold grp
  constructor
  · intro h
    by_cases h0 : t = 0
    · rw [if_pos h0] at h; omega
    · rw [if_neg h0] at h
      by_cases h1 : t = 1 ∨ t = 2
      · exact h1
      · rw [if_neg h1] at h
        split at h
        · omega
        · split at h <;> omega
  · intro h
    rw [if_neg (by omega), if_pos h]
theorem num_cmp {a b : Va} (ha : grp a.ty = 1) (hb : grp b.ty = 1) : numC a b = cmpI (sc a) (sc b) := by
  rw [grp_one] at ha hb
  unfold numC sc
  by_cases h : a.ty = b.ty
  · rw [if_pos h]
    by_cases h1 : a.ty = 1
    · rw [if_pos h1, if_pos (by omega)]; unfold cmpI
      by_cases p : a.n < b.n
      · rw [if_pos p, if_pos (by omega)]
      · by_cases q : b.n < a.n
        · rw [if_neg p, if_pos q, if_neg (by omega), if_pos (by omega)]
        · rw [if_neg p, if_neg q, if_neg (by omega), if_neg (by omega)]
    · rw [if_neg h1, if_neg (by omega)]
  · rw [if_neg h]
    by_cases h1 : a.ty = 1
    · rw [if_pos h1, if_pos h1, if_neg (by omega), mix_cmp]
    · rw [if_neg h1, if_neg h1, if_pos (by omega), mix_cmp, cmpI_turn, Int.neg_neg]
def key1 (v : Va) : Int := if grp v.ty = 1 then sc v else if grp v.ty = 3 then v.n else if grp v.ty = 4 then v.ty else 0
def key2 (v : Va) : Int := if grp v.ty = 1 then v.ty else if grp v.ty = 4 then v.n else 0
def key3 (v : Va) : ByteArray := if grp v.ty = 2 ∨ grp v.ty = 4 then v.s else ⟨#[]⟩
def lexV (a b : Va) : Int := if cmpI (grp a.ty) (grp b.ty) = 0 then (if cmpI (key1 a) (key1 b) = 0 then (if cmpI (key2 a) (key2 b) = 0 then cmpB (key3 a) (key3 b) else cmpI (key2 a) (key2 b)) else cmpI (key1 a) (key1 b)) else cmpI (grp a.ty) (grp b.ty)
theorem od_lexV : Od lexV := (od_cmpI (fun v : Va => grp v.ty)).lex ((od_cmpI key1).lex ((od_cmpI key2).lex (od_cmpB key3)))
theorem cmpI_same (x : Int) : cmpI x x = 0 := cmpI_eq rfl
theorem cmpB_same (x : ByteArray) : cmpB x x = 0 := (cmp_zero _ _).2 rfl
theorem cmpI_zero {x y : Int} : cmpI x y = 0 ↔ x = y := by
  unfold cmpI; split
  · constructor <;> intro h <;> omega
  · split
    · constructor <;> intro h <;> omega
    · constructor <;> intro h <;> omega
theorem ord_lex (a b : Va) : ordV a b = lexV a b := by
  unfold ordV lexV
  by_cases h : grp a.ty = grp b.ty
  · rw [if_pos h, if_pos (cmpI_eq h)]
    rcases grp_vals a.ty with g | g | g | g | g
    · have g' : grp b.ty = 0 := h ▸ g
      simp [key1, key2, key3, g, g', cmpI_same, cmpB_same]
    · have g' : grp b.ty = 1 := h ▸ g
      simp only [key1, key2, key3, g, g', if_true, firstI, num_cmp g g']
      simp
      split
      · split
        · exact (cmpB_same _).symm
        · rfl
      · rfl
    · have g' : grp b.ty = 2 := h ▸ g
      simp [key1, key2, key3, g, g', cmpI_same]
    · have g' : grp b.ty = 3 := h ▸ g
      simp only [key1, key2, key3, g, g']
      simp [cmpI_same, cmpB_same]
    · have g' : grp b.ty = 4 := h ▸ g
      simp only [key1, key2, key3, g, g', firstI]
      simp
      split
      · split
        · split
          · rename_i h; exact h.symm
          · rfl
        · rfl
      · rfl
  · rw [if_neg h, if_neg (fun e => h (cmpI_zero.1 e))]
theorem od_ordV : Od ordV := by
  have : ordV = lexV := funext fun a => funext fun b => ord_lex a b
  rw [this]; exact od_lexV
theorem ordV_same (a : Va) : ordV a a = 0 := by have := od_ordV.turn a a; omega
end Go.Proofs.YtokppkinhlcafaaGreatDoor
