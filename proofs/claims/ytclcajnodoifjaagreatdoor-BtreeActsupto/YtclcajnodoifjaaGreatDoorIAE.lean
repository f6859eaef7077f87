/-
 The walks of value.Rows and lockstepref01.Rows: both tell how two rows stand.
-/
import Derived.Test.YtclcajnodoifjaaGreatDoorIAD
import Derived.Test.YtclcajnodoifjaaGreatDoorIAB
namespace Go.Proofs.YtclcajnodoifjaaGreatDoor
open Go.RowKit Go.Shelf

/-- how two rows stand -/
def rowsV : List Va → List Va → Int
 | [], [] => 0
 | [], _ :: _ => -1
 | _ :: _, [] => 1
 | x :: a, y :: b => if ordV x y = 0 then rowsV a b else ordV x y
/-- the values of a row lie behind its place -/
def rowAt (w : World) (p : Option Addr) (l : List Va) : Prop := l = [] ∨ ∃ g, p = some ⟨g, 0, none⟩ ∧ valsAt w g l
theorem rowAt.below {w w' : World} {p : Option Addr} {l : List Va} (h : rowAt w p l) (hb : Below w.heap.size w w') : rowAt w' p l := by
 rcases h with h | ⟨g, h1, h2⟩
 ·exact Or.inl h
 ·exact Or.inr ⟨g, h1, h2.below hb⟩
theorem rowAt.get {w : World} {p : Option Addr} {l : List Va} (h : rowAt w p l) {k : Nat} {v : Va} (hk : l[k]? = some v) : ∃ g, p = some ⟨g, 0, none⟩ ∧ valsAt w g l := by
 rcases h with h | h
 ·subst h; simp at hk
 ·exact h
theorem rows_end {a b : List Va} (h : a = [] ∨ b = []) : rowsV a b = cmpI a.length b.length := by
 rcases a with _ | ⟨x, a⟩
 ·rcases b with _ | ⟨y, b⟩
  ·rfl
  ·show (-1 : Int) = _
   rw [cmpI_lt (by simp only [List.length_nil, List.length_cons]; omega)]
 ·rcases b with _ | ⟨y, b⟩
  ·show (1 : Int) = _
   rw [cmpI_gt (by simp only [List.length_nil, List.length_cons]; omega)]
  ·simp at h
theorem cmpI_add (x y k : Int) : cmpI (x + k) (y + k) = cmpI x y := by
 unfold cmpI
 by_cases h : x < y
 ·rw [if_pos h, if_pos (by omega)]
 ·by_cases g : y < x
  ·rw [if_neg h, if_pos g, if_neg (by omega), if_pos (by omega)]
  ·rw [if_neg h, if_neg g, if_neg (by omega), if_neg (by omega)]
theorem rows_out {a b : List Va} {k : Nat} (hk : k ≤ a.length) (hk2 : k ≤ b.length) (h : ¬ (k < a.length ∧ k < b.length)) : rowsV (a.drop k) (b.drop k) = cmpI a.length b.length := by
 rw [rows_end (by rcases (show a.length ≤ k ∨ b.length ≤ k by omega) with h | h; exact Or.inl (List.drop_eq_nil_of_le h); exact Or.inr (List.drop_eq_nil_of_le h))]
 rw [← cmpI_add _ _ (k : Int)]
 rw [List.length_drop, List.length_drop]
 congr 1 <;> omega

set_option maxHeartbeats 4000000 in
set_option maxRecDepth 1000000 in
theorem Rows_any (p q : Option Addr) (cp cq : Nat) (la lb : List Va) (w : World) (hla : la.length ≤ 1000) (hp : rowAt w p la) (hq : rowAt w q lb) (fa : ∀ v ∈ la, fit v.n) (fb : ∀ v ∈ lb, fit v.n) :
  Calls Tryz.prog 74 #[.slice p la.length cp, .slice q lb.length cq] w fun e w' => e = .returned (.int .i64 (rowsV la lb)) ∧ Below w.heap.size w w' := by
 obtain ⟨E, hE⟩ : ∃ E, E = rowsV la lb := ⟨_, rfl⟩
 rw [← hE]
 have HE : Hid (E = rowsV la lb) := hE
 clear hE
 have CI : Hid (∀ x y w, Calls Tryz.prog 89 #[.int .i64 x, .int .i64 y] w fun e w' => e = .returned (.int .i64 (cmpI x y)) ∧ w' = w) := CompareInt
 go_enter Tryz.func74, Tryz.ntmps74
 go_wp2_with fail
 go_loopw [12] (fun sk wr => ∃ k : Nat, sk = .int .i64 k ∧ k ≤ la.length ∧ k ≤ lb.length ∧ Hid (E = rowsV (la.drop k) (lb.drop k)) ∧ Below w.heap.size w wr) (fun sk _ => la.length - (intOf sk).toNat)
 case atStart => exact ⟨0, rfl, Nat.zero_le _, Nat.zero_le _, HE, Below.refl _ _⟩
 case round =>
  obtain ⟨k, rfl, hk, hk2, hd, hb⟩ := hrel
  clear HE
  by_cases hlt : k < la.length ∧ k < lb.length
  ·obtain ⟨hl1, hl2⟩ := hlt
   obtain ⟨a, hak⟩ : ∃ v, la[k]? = some v := ⟨la[k], List.getElem?_eq_getElem hl1⟩
   obtain ⟨b, hbk⟩ : ∃ v, lb[k]? = some v := ⟨lb[k], List.getElem?_eq_getElem hl2⟩
   obtain ⟨g, rfl, hvg⟩ := hp.get hak
   obtain ⟨h, rfl, hvh⟩ := hq.get hbk
   obtain ⟨c1, c2, c3⟩ := hvg.2 k a hak
   obtain ⟨m1, m2, m3⟩ := hvh.2 k b hbk
   have d1 := (hb.cell (p := ⟨g, k * 3, none⟩) hvg.1).trans c1
   have d2 := (hb.cell (p := ⟨g, k * 3 + 1, none⟩) hvg.1).trans c2
   have d3 := (hb.cell (p := ⟨g, k * 3 + 2, none⟩) hvg.1).trans c3
   have e1 := (hb.cell (p := ⟨h, k * 3, none⟩) hvh.1).trans m1
   have e2 := (hb.cell (p := ⟨h, k * 3 + 1, none⟩) hvh.1).trans m2
   have e3 := (hb.cell (p := ⟨h, k * 3 + 2, none⟩) hvh.1).trans m3
   have hgw : g < wr.heap.size := Nat.lt_of_lt_of_le hvg.1 hb.size
   have hhw : h < wr.heap.size := Nat.lt_of_lt_of_le hvh.1 hb.size
   have OO : Hid (∀ w, Calls Tryz.prog 88 #[.agg #[.int .i64 a.ty, .int .i64 a.n, .string a.s], .agg #[.int .i64 b.ty, .int .i64 b.n, .string b.s]] w fun e w' => e = .returned (.int .i64 (ordV a b)) ∧ Below w.heap.size w w') := fun w => Order_any a b w (fa a (List.mem_of_getElem? hak)) (fb b (List.mem_of_getElem? hbk))
   rw [drop_at hak, drop_at hbk] at hd
   clear c1 c2 c3 m1 m2 m3 hak hbk hvg hvh hp hq fa fb
   by_cases h0 : ordV a b = 0
   ·have hd2 : Hid (E = rowsV (la.drop (k + 1)) (lb.drop (k + 1))) := by show _ = _; rw [hd.out, rowsV, if_pos h0]
    rw [h0] at OO
    clear hd h0
    go_wp2_with fail
    go_region_held3 (fun w' => w'.cell? ⟨g, k * 3, none⟩ = some (.int .i64 a.ty) ∧ w'.cell? ⟨g, k * 3 + 1, none⟩ = some (.int .i64 a.n) ∧ w'.cell? ⟨g, k * 3 + 2, none⟩ = some (.string a.s) ∧ w'.cell? ⟨h, k * 3, none⟩ = some (.int .i64 b.ty) ∧ w'.cell? ⟨h, k * 3 + 1, none⟩ = some (.int .i64 b.n) ∧ w'.cell? ⟨h, k * 3 + 2, none⟩ = some (.string b.s)) (first | go_keep | exact ⟨(hb2.cell (p := ⟨g, k * 3, none⟩) hgw).trans d1, (hb2.cell (p := ⟨g, k * 3 + 1, none⟩) hgw).trans d2, (hb2.cell (p := ⟨g, k * 3 + 2, none⟩) hgw).trans d3, (hb2.cell (p := ⟨h, k * 3, none⟩) hhw).trans e1, (hb2.cell (p := ⟨h, k * 3 + 1, none⟩) hhw).trans e2, (hb2.cell (p := ⟨h, k * 3 + 2, none⟩) hhw).trans e3⟩) ((go_at_call 88; refine (OO.out _).mono ?_; rintro e w1 ⟨rfl, hb2⟩))
    go_wp2_with fail
    go_roundw
    case rel => exact ⟨k + 1, by go_num, hl1, hl2, hd2, hb.drew.trans (hb2.mono (by simpa using hb.size))⟩
    case measure => simp [intOf]; omega
   ·have hd2 : E = ordV a b := by rw [hd.out, rowsV, if_neg h0]
    have h1 : (ordV a b != 0) = true := by rw [bne_iff_ne]; exact h0
    subst hd2
    clear hd h0
    go_wp2_with fail
    go_region_held3 (fun w' => w'.cell? ⟨g, k * 3, none⟩ = some (.int .i64 a.ty) ∧ w'.cell? ⟨g, k * 3 + 1, none⟩ = some (.int .i64 a.n) ∧ w'.cell? ⟨g, k * 3 + 2, none⟩ = some (.string a.s) ∧ w'.cell? ⟨h, k * 3, none⟩ = some (.int .i64 b.ty) ∧ w'.cell? ⟨h, k * 3 + 1, none⟩ = some (.int .i64 b.n) ∧ w'.cell? ⟨h, k * 3 + 2, none⟩ = some (.string b.s)) (first | go_keep | exact ⟨(hb2.cell (p := ⟨g, k * 3, none⟩) hgw).trans d1, (hb2.cell (p := ⟨g, k * 3 + 1, none⟩) hgw).trans d2, (hb2.cell (p := ⟨g, k * 3 + 2, none⟩) hgw).trans d3, (hb2.cell (p := ⟨h, k * 3, none⟩) hhw).trans e1, (hb2.cell (p := ⟨h, k * 3 + 1, none⟩) hhw).trans e2, (hb2.cell (p := ⟨h, k * 3 + 2, none⟩) hhw).trans e3⟩) ((go_at_call 88; refine (OO.out _).mono ?_; rintro e w1 ⟨rfl, hb2⟩))
    go_wp2_with fail
    go_ret
    exact ⟨rfl, hb.drew.trans (hb2.mono (by simpa using hb.size))⟩
  ·have hE : E = cmpI la.length lb.length := by rw [hd.out]; exact rows_out hk hk2 hlt
   subst hE
   clear hd
   have hcs : ¬ k < la.length ∨ (k < la.length ∧ ¬ k < lb.length) := by omega
   clear hlt
   rcases hcs with hx | ⟨hx, hy⟩
   ·go_wp2_with fail
    refine (CI.out _ _ _).mono ?_
    rintro e wx ⟨rfl, hwx⟩; have hwx2 := hwx.symm; subst hwx2; clear hwx
    go_wp2_with fail
    go_ret
    exact ⟨rfl, hb⟩
   ·go_wp2_with fail
    refine (CI.out _ _ _).mono ?_
    rintro e wx ⟨rfl, hwx⟩; have hwx2 := hwx.symm; subst hwx2; clear hwx
    go_wp2_with fail
    go_ret
    exact ⟨rfl, hb⟩

set_option maxHeartbeats 4000000 in
set_option maxRecDepth 1000000 in
theorem refRows_any (p q : Option Addr) (cp cq : Nat) (la lb : List Va) (w : World) (hla : la.length ≤ 1000) (hp : rowAt w p la) (hq : rowAt w q lb) (fa : ∀ v ∈ la, fit v.n) (fb : ∀ v ∈ lb, fit v.n) :
  Calls Tryz.prog 18 #[.slice p la.length cp, .slice q lb.length cq] w fun e w' => e = .returned (.int .i64 (rowsV la lb)) ∧ Below w.heap.size w w' := by
 obtain ⟨E, hE⟩ : ∃ E, E = rowsV la lb := ⟨_, rfl⟩
 rw [← hE]
 have HE : Hid (E = rowsV la lb) := hE
 clear hE
 have CI : Hid (∀ x y w, Calls Tryz.prog 43 #[.int .i64 x, .int .i64 y] w fun e w' => e = .returned (.int .i64 (cmpI x y)) ∧ w' = w) := ints_any
 go_enter Tryz.func18, Tryz.ntmps18
 go_wp2_with fail
 go_loopw [5] (fun sk wr => ∃ k : Nat, sk = .int .i64 k ∧ k ≤ la.length ∧ k ≤ lb.length ∧ Hid (E = rowsV (la.drop k) (lb.drop k)) ∧ Below w.heap.size w wr) (fun sk _ => la.length - (intOf sk).toNat)
 case atStart => exact ⟨0, rfl, Nat.zero_le _, Nat.zero_le _, HE, Below.refl _ _⟩
 case round =>
  obtain ⟨k, rfl, hk, hk2, hd, hb⟩ := hrel
  clear HE
  by_cases hlt : k < la.length ∧ k < lb.length
  ·obtain ⟨hl1, hl2⟩ := hlt
   obtain ⟨a, hak⟩ : ∃ v, la[k]? = some v := ⟨la[k], List.getElem?_eq_getElem hl1⟩
   obtain ⟨b, hbk⟩ : ∃ v, lb[k]? = some v := ⟨lb[k], List.getElem?_eq_getElem hl2⟩
   obtain ⟨g, rfl, hvg⟩ := hp.get hak
   obtain ⟨h, rfl, hvh⟩ := hq.get hbk
   obtain ⟨c1, c2, c3⟩ := hvg.2 k a hak
   obtain ⟨m1, m2, m3⟩ := hvh.2 k b hbk
   have d1 := (hb.cell (p := ⟨g, k * 3, none⟩) hvg.1).trans c1
   have d2 := (hb.cell (p := ⟨g, k * 3 + 1, none⟩) hvg.1).trans c2
   have d3 := (hb.cell (p := ⟨g, k * 3 + 2, none⟩) hvg.1).trans c3
   have e1 := (hb.cell (p := ⟨h, k * 3, none⟩) hvh.1).trans m1
   have e2 := (hb.cell (p := ⟨h, k * 3 + 1, none⟩) hvh.1).trans m2
   have e3 := (hb.cell (p := ⟨h, k * 3 + 2, none⟩) hvh.1).trans m3
   have hgw : g < wr.heap.size := Nat.lt_of_lt_of_le hvg.1 hb.size
   have hhw : h < wr.heap.size := Nat.lt_of_lt_of_le hvh.1 hb.size
   have OO : Hid (∀ w, Calls Tryz.prog 42 #[.agg #[.int .i64 a.ty, .int .i64 a.n, .string a.s], .agg #[.int .i64 b.ty, .int .i64 b.n, .string b.s]] w fun e w' => e = .returned (.int .i64 (ordV a b)) ∧ Below w.heap.size w w') := fun w => refOrder_any a b w (fa a (List.mem_of_getElem? hak)) (fb b (List.mem_of_getElem? hbk))
   rw [drop_at hak, drop_at hbk] at hd
   clear c1 c2 c3 m1 m2 m3 hak hbk hvg hvh hp hq fa fb
   by_cases h0 : ordV a b = 0
   ·have hd2 : Hid (E = rowsV (la.drop (k + 1)) (lb.drop (k + 1))) := by show _ = _; rw [hd.out, rowsV, if_pos h0]
    rw [h0] at OO
    clear hd h0
    go_wp2_with fail
    go_region_held3 (fun w' => w'.cell? ⟨g, k * 3, none⟩ = some (.int .i64 a.ty) ∧ w'.cell? ⟨g, k * 3 + 1, none⟩ = some (.int .i64 a.n) ∧ w'.cell? ⟨g, k * 3 + 2, none⟩ = some (.string a.s) ∧ w'.cell? ⟨h, k * 3, none⟩ = some (.int .i64 b.ty) ∧ w'.cell? ⟨h, k * 3 + 1, none⟩ = some (.int .i64 b.n) ∧ w'.cell? ⟨h, k * 3 + 2, none⟩ = some (.string b.s)) (first | go_keep | exact ⟨(hb2.cell (p := ⟨g, k * 3, none⟩) hgw).trans d1, (hb2.cell (p := ⟨g, k * 3 + 1, none⟩) hgw).trans d2, (hb2.cell (p := ⟨g, k * 3 + 2, none⟩) hgw).trans d3, (hb2.cell (p := ⟨h, k * 3, none⟩) hhw).trans e1, (hb2.cell (p := ⟨h, k * 3 + 1, none⟩) hhw).trans e2, (hb2.cell (p := ⟨h, k * 3 + 2, none⟩) hhw).trans e3⟩) ((go_at_call 42; refine (OO.out _).mono ?_; rintro e w1 ⟨rfl, hb2⟩))
    go_wp2_with fail
    go_roundw
    case rel => exact ⟨k + 1, by go_num, hl1, hl2, hd2, hb.drew.trans (hb2.mono (by simpa using hb.size))⟩
    case measure => simp [intOf]; omega
   ·have hd2 : E = ordV a b := by rw [hd.out, rowsV, if_neg h0]
    have h1 : (ordV a b != 0) = true := by rw [bne_iff_ne]; exact h0
    subst hd2
    clear hd h0
    go_wp2_with fail
    go_region_held3 (fun w' => w'.cell? ⟨g, k * 3, none⟩ = some (.int .i64 a.ty) ∧ w'.cell? ⟨g, k * 3 + 1, none⟩ = some (.int .i64 a.n) ∧ w'.cell? ⟨g, k * 3 + 2, none⟩ = some (.string a.s) ∧ w'.cell? ⟨h, k * 3, none⟩ = some (.int .i64 b.ty) ∧ w'.cell? ⟨h, k * 3 + 1, none⟩ = some (.int .i64 b.n) ∧ w'.cell? ⟨h, k * 3 + 2, none⟩ = some (.string b.s)) (first | go_keep | exact ⟨(hb2.cell (p := ⟨g, k * 3, none⟩) hgw).trans d1, (hb2.cell (p := ⟨g, k * 3 + 1, none⟩) hgw).trans d2, (hb2.cell (p := ⟨g, k * 3 + 2, none⟩) hgw).trans d3, (hb2.cell (p := ⟨h, k * 3, none⟩) hhw).trans e1, (hb2.cell (p := ⟨h, k * 3 + 1, none⟩) hhw).trans e2, (hb2.cell (p := ⟨h, k * 3 + 2, none⟩) hhw).trans e3⟩) ((go_at_call 42; refine (OO.out _).mono ?_; rintro e w1 ⟨rfl, hb2⟩))
    go_wp2_with fail
    go_ret
    exact ⟨rfl, hb.drew.trans (hb2.mono (by simpa using hb.size))⟩
  ·have hE : E = cmpI la.length lb.length := by rw [hd.out]; exact rows_out hk hk2 hlt
   subst hE
   clear hd
   have hcs : ¬ k < la.length ∨ (k < la.length ∧ ¬ k < lb.length) := by omega
   clear hlt
   rcases hcs with hx | ⟨hx, hy⟩
   ·go_wp2_with fail
    refine (CI.out _ _ _).mono ?_
    rintro e wx ⟨rfl, hwx⟩; have hwx2 := hwx.symm; subst hwx2; clear hwx
    go_wp2_with fail
    go_ret
    exact ⟨rfl, hb⟩
   ·go_wp2_with fail
    refine (CI.out _ _ _).mono ?_
    rintro e wx ⟨rfl, hwx⟩; have hwx2 := hwx.symm; subst hwx2; clear hwx
    go_wp2_with fail
    go_ret
    exact ⟨rfl, hb⟩

end Go.Proofs.YtclcajnodoifjaaGreatDoor

namespace Go.Proofs.YtclcajnodoifjaaGreatDoor
set_option maxRecDepth 100000

structure En where
 key : List Va
 id : Int
theorem rows_turn : ∀ a b : List Va, rowsV b a = -(rowsV a b)
 | [], [] => rfl
 | [], _ :: _ => rfl
 | _ :: _, [] => rfl
 | x :: a, y :: b => by
  have h1 := od_ordV.turn x y
  have h2 := rows_turn a b
  show (if ordV y x = 0 then rowsV b a else ordV y x) = -(if ordV x y = 0 then rowsV a b else ordV x y)
  by_cases h : ordV x y = 0
  ·rw [if_pos (by omega), if_pos h]; exact h2
  ·rw [if_neg (by omega), if_neg h]; exact h1
theorem rows_trans : ∀ a b c : List Va, rowsV a b ≤ 0 → rowsV b c ≤ 0 → rowsV a c ≤ 0
 | [], _, [], _, _ => by show (0 : Int) ≤ 0; omega
 | [], _, _ :: _, _, _ => by show (-1 : Int) ≤ 0; omega
 | _ :: _, [], _, h, _ => by have : (1 : Int) ≤ 0 := h; omega
 | _ :: _, _ :: _, [], _, h => by have : (1 : Int) ≤ 0 := h; omega
 | x :: a, y :: b, z :: c, h1, h2 => by
  have h1 : (if ordV x y = 0 then rowsV a b else ordV x y) ≤ 0 := h1
  have h2 : (if ordV y z = 0 then rowsV b c else ordV y z) ≤ 0 := h2
  show (if ordV x z = 0 then rowsV a c else ordV x z) ≤ 0
  have t1 := od_ordV.trans x y z
  have t2 := od_ordV.trans z y x
  have t3 := od_ordV.trans y z x
  have t4 := od_ordV.trans z x y
  have t5 := od_ordV.trans y x z
  have t6 := od_ordV.trans x z y
  have u1 := od_ordV.turn x y
  have u2 := od_ordV.turn y z
  have u3 := od_ordV.turn x z
  have ih := rows_trans a b c
  by_cases p : ordV x y = 0
  ·rw [if_pos p] at h1
   by_cases q : ordV y z = 0
   ·rw [if_pos q] at h2
    rw [if_pos (by omega)]
    exact ih h1 h2
   ·rw [if_neg q] at h2
    rw [if_neg (by omega)]; omega
  ·rw [if_neg p] at h1
   by_cases q : ordV y z = 0
   ·rw [if_pos q] at h2
    rw [if_neg (by omega)]; omega
   ·rw [if_neg q] at h2
    rw [if_neg (by omega)]; omega
theorem od_rowsV : Od rowsV := ⟨rows_turn, rows_trans⟩
theorem od_on {α β : Type} {f : β → β → Int} (h : Od f) (k : α → β) : Od (fun a b => f (k a) (k b)) := ⟨fun a b => h.turn (k a) (k b), fun a b c => h.trans (k a) (k b) (k c)⟩
/-- how two entries stand -/
def ordE (a b : En) : Int := if rowsV a.key b.key = 0 then cmpI a.id b.id else rowsV a.key b.key
theorem od_ordE : Od ordE := (od_on od_rowsV En.key).lex (od_cmpI En.id)
theorem Od.lt_le {α : Type} {f : α → α → Int} (h : Od f) {a b c : α} (h1 : f a b < 0) (h2 : f b c ≤ 0) : f a c < 0 := by
 have t1 := h.trans b c a
 have t2 := h.turn a b
 have t3 := h.turn a c
 omega
theorem Od.le_lt {α : Type} {f : α → α → Int} (h : Od f) {a b c : α} (h1 : f a b ≤ 0) (h2 : f b c < 0) : f a c < 0 := by
 have t1 := h.trans c a b
 have t2 := h.turn b c
 have t3 := h.turn a c
 omega
/-- an entry is ahead of another -/
def ltE (a b : En) : Bool := decide (ordE a b < 0)
theorem ltE_iff {a b : En} : ltE a b = true ↔ ordE a b < 0 := by simp [ltE]
theorem ltE_not {a b : En} : ltE a b = false ↔ 0 ≤ ordE a b := by simp [ltE]
theorem ord3E : Ord3 ltE := by
 refine ⟨fun h => ?_, fun h1 h2 => ?_, fun h1 h2 => ?_⟩
 ·rw [ltE_iff] at h
  rw [ltE_not]
  rename_i a b
  have := od_ordE.turn a b
  omega
 ·rw [ltE_iff] at h1 ⊢
  rw [ltE_not] at h2
  rename_i a b c
  have := od_ordE.turn c b
  exact od_ordE.lt_le h1 (by omega)
 ·rw [ltE_iff] at h2 ⊢
  rw [ltE_not] at h1
  rename_i a b c
  have := od_ordE.turn b a
  exact od_ordE.le_lt (b := b) (by omega) h2
theorem ltE_key {a b : En} (h : ltE a b = true) : rowsV a.key b.key ≤ 0 := by
 rw [ltE_iff] at h
 unfold ordE at h
 by_cases p : rowsV a.key b.key = 0
 ·omega
 ·rw [if_neg p] at h; omega
/-- the span of a key -/
theorem span_key (k : List Va) : Span ltE (fun e => decide (0 ≤ rowsV e.key k)) (fun e => decide (rowsV e.key k ≤ 0)) := by
 refine ⟨@fun a b h1 h2 => ?_, @fun a b h1 h2 => ?_⟩
 ·have h1 := ltE_key h1
  simp only [decide_eq_true_eq] at h2 ⊢
  have t1 := od_rowsV.trans k a.key b.key
  have t2 := od_rowsV.turn a.key k
  have t3 := od_rowsV.turn b.key k
  omega
 ·have h1 := ltE_key h1
  simp only [decide_eq_true_eq] at h2 ⊢
  exact od_rowsV.trans _ _ _ h1 h2
/-- the span of an entry -/
theorem span_en (x : En) : Span ltE (fun e => decide (0 ≤ ordE e x)) (fun e => decide (ordE e x ≤ 0)) := by
 refine ⟨@fun a b h1 h2 => ?_, @fun a b h1 h2 => ?_⟩
 ·rw [ltE_iff] at h1
  simp only [decide_eq_true_eq] at h2 ⊢
  have t1 := od_ordE.trans x a b
  have t2 := od_ordE.turn a x
  have t3 := od_ordE.turn b x
  omega
 ·rw [ltE_iff] at h1
  simp only [decide_eq_true_eq] at h2 ⊢
  exact od_ordE.trans _ _ _ (by omega) h2
/-- a key's first values against an end -/
def begV (key fin : List Va) : Int := rowsV (key.take fin.length) fin
theorem rows_take : ∀ (n : Nat) (a b : List Va), rowsV a b ≤ 0 → rowsV (a.take n) (b.take n) ≤ 0
 | 0, _, _, _ => by rw [List.take_zero, List.take_zero]; show (0 : Int) ≤ 0; omega
 | n + 1, [], [], _ => by show (0 : Int) ≤ 0; omega
 | n + 1, [], _ :: _, _ => by show (-1 : Int) ≤ 0; omega
 | n + 1, _ :: _, [], h => by have : (1 : Int) ≤ 0 := h; omega
 | n + 1, x :: a, y :: b, h => by
  have h : (if ordV x y = 0 then rowsV a b else ordV x y) ≤ 0 := h
  have ih := rows_take n a b
  rw [List.take_succ_cons, List.take_succ_cons]
  show (if ordV x y = 0 then rowsV (a.take n) (b.take n) else ordV x y) ≤ 0
  by_cases p : ordV x y = 0
  ·rw [if_pos p] at h ⊢
   exact ih h
  ·rw [if_neg p] at h ⊢
   exact h
/-- on the right side of a low end, of a high end -/
def loB (low : List Va) (inn : Bool) (e : En) : Bool := decide (low.length = 0) || decide (0 < begV e.key low) || (inn && decide (begV e.key low = 0))
def hiB (high : List Va) (inn : Bool) (e : En) : Bool := decide (high.length = 0) || decide (begV e.key high < 0) || (inn && decide (begV e.key high = 0))
theorem beg_mono {a b : En} (h : ltE a b = true) (fin : List Va) : (0 ≤ begV a.key fin → 0 ≤ begV b.key fin) ∧ (0 < begV a.key fin → 0 < begV b.key fin) := by
 have t0 := rows_take fin.length a.key b.key (ltE_key h)
 have t2 := od_rowsV.turn (a.key.take fin.length) fin
 have t3 := od_rowsV.turn (b.key.take fin.length) fin
 unfold begV
 refine ⟨fun h1 => ?_, fun h1 => ?_⟩
 ·have := od_rowsV.trans fin (a.key.take fin.length) (b.key.take fin.length) (by omega) t0
  omega
 ·have := od_rowsV.lt_le (a := fin) (b := a.key.take fin.length) (c := b.key.take fin.length) (by omega) t0
  omega
theorem span_between (low high : List Va) (li hi : Bool) : Span ltE (loB low li) (hiB high hi) := by
 refine ⟨@fun a b h1 h2 => ?_, @fun a b h1 h2 => ?_⟩
 ·obtain ⟨m1, m2⟩ := beg_mono h1 low
  simp only [loB, Bool.or_eq_true, Bool.and_eq_true, decide_eq_true_eq] at h2 ⊢
  rcases h2 with (h2 | h2) | ⟨h3, h2⟩
  ·exact Or.inl (Or.inl h2)
  ·exact Or.inl (Or.inr (m2 h2))
  ·by_cases q : begV b.key low = 0
   ·exact Or.inr ⟨h3, q⟩
   ·exact Or.inl (Or.inr (by have := m1 (by omega); omega))
 ·obtain ⟨m1, m2⟩ := beg_mono h1 high
  simp only [hiB, Bool.or_eq_true, Bool.and_eq_true, decide_eq_true_eq] at h2 ⊢
  rcases h2 with (h2 | h2) | ⟨h3, h2⟩
  ·exact Or.inl (Or.inl h2)
  ·exact Or.inl (Or.inr (by omega))
  ·by_cases q : begV a.key high = 0
   ·exact Or.inr ⟨h3, q⟩
   ·exact Or.inl (Or.inr (by omega))
end Go.Proofs.YtclcajnodoifjaaGreatDoor

namespace Go.Proofs.YtclcajnodoifjaaGreatDoor
open Go.RowKit Go.Shelf

set_option maxHeartbeats 1000000 in
theorem isNaNU64 (x : Int) (w : World) : Calls Tryz.prog 91 #[.int .u64 x] w fun e w' => e = .returned (.bool false) ∧ w' = w := by
 go_enter Tryz.func91, Tryz.ntmps91
 go_wp2
 go_ret
 exact ⟨by simp, rfl⟩
set_option maxHeartbeats 1000000 in
theorem CompareU64 (x y : Int) (w : World) : Calls Tryz.prog 79 #[.int .u64 x, .int .u64 y] w fun e w' => e = .returned (.int .i64 (cmpI x y)) ∧ w' = w := by
 have N : Hid (∀ x w, Calls Tryz.prog 91 #[.int .u64 x] w fun e w' => e = .returned (.bool false) ∧ w' = w) := isNaNU64
 by_cases h1 : x < y
 ·rw [cmpI_lt h1]
  go_enter Tryz.func79, Tryz.ntmps79
  go_wp2_with (go_at_call 91; refine (N.out _ _).mono ?_; rintro e w' ⟨rfl, rfl⟩)
  go_ret
  exact ⟨rfl, rfl⟩
 ·by_cases h2 : y < x
  ·rw [cmpI_gt h2]
   go_enter Tryz.func79, Tryz.ntmps79
   go_wp2_with (go_at_call 91; refine (N.out _ _).mono ?_; rintro e w' ⟨rfl, rfl⟩)
   go_ret
   exact ⟨rfl, rfl⟩
  ·rw [cmpI_eq (by omega)]
   go_enter Tryz.func79, Tryz.ntmps79
   go_wp2_with (go_at_call 91; refine (N.out _ _).mono ?_; rintro e w' ⟨rfl, rfl⟩)
   go_ret
   exact ⟨rfl, rfl⟩
/-- two entries in boxes -/
structure Ee (w : World) (B : Nat) (u v x y : Value) : Prop where
 lt : B + 1 < w.heap.size
 a0 : w.cell? ⟨B, 0, none⟩ = some u
 a1 : w.cell? ⟨B, 1, none⟩ = some v
 b0 : w.cell? ⟨B + 1, 0, none⟩ = some x
 b1 : w.cell? ⟨B + 1, 1, none⟩ = some y
theorem Ee.new (w : World) (u v x y : Value) (t t' : TypeId) : Ee ((w.alloc (.cells #[u, v] t)).alloc (.cells #[x, y] t')) w.heap.size u v x y := by
 constructor
 all_goals go_simp
/-- an entry is handed over: its key lies at p -/
structure EnAt (w : World) (p : Option Addr) (e : En) : Prop where
 row : rowAt w p e.key
 fits : ∀ v ∈ e.key, fit v.n
theorem EnAt.below {w w' : World} {p : Option Addr} {e : En} (h : EnAt w p e) (hb : Below w.heap.size w w') : EnAt w' p e := ⟨h.row.below hb, h.fits⟩
abbrev enV (p : Option Addr) (c : Nat) (e : En) : Value := .agg #[.slice p e.key.length c, .int .u64 e.id]
theorem first_ord (a b : En) : firstI [rowsV a.key b.key, cmpI a.id b.id] = ordE a b := by
 unfold ordE
 by_cases h : rowsV a.key b.key = 0
 ·rw [if_pos h]
  simp only [firstI, if_pos h]
  split
  ·rename_i h2; rw [h2]
  ·rfl
 ·rw [if_neg h]
  simp only [firstI, if_neg h]

set_option maxHeartbeats 4000000 in
set_option maxRecDepth 1000000 in
theorem order_any (p q : Option Addr) (cp cq : Nat) (a b : En) (w : World) (hla : a.key.length ≤ 1000) (ha : EnAt w p a) (hb : EnAt w q b) :
  Calls Tryz.prog 51 #[enV p cp a, enV q cq b] w fun e w' => e = .returned (.int .i64 (ordE a b)) ∧ Below w.heap.size w w' := by
 have RO : Hid (∀ W', Below w.heap.size w W' → Calls Tryz.prog 74 #[.slice p a.key.length cp, .slice q b.key.length cq] W' fun e w' => e = .returned (.int .i64 (rowsV a.key b.key)) ∧ Below W'.heap.size W' w') := fun W' h => Rows_any p q cp cq a.key b.key W' hla (ha.row.below h) (hb.row.below h) ha.fits hb.fits
 have CU : Hid (∀ x y w, Calls Tryz.prog 79 #[.int .u64 x, .int .u64 y] w fun e w' => e = .returned (.int .i64 (cmpI x y)) ∧ w' = w) := CompareU64
 have O2 : Hid (∀ g x y w, intsAt w g [x, y] → Calls Tryz.prog 78 #[.slice (some ⟨g, 0, none⟩) 2 2] w fun e w' => e = .returned (.int .i64 (firstI [x, y])) ∧ w' = w) := fun g x y w h => OrInt g 2 [x, y] w (by simp) h
 have B0 : Hid (∀ o o', Below w.heap.size w ((w.alloc o).alloc o')) := fun o o' => ((Below.refl _ w).alloc (Nat.le_refl _) o).alloc (by simp) o'
 have F0 : Hid _ := Ee.new w (.slice p a.key.length cp) (.int .u64 a.id) (.slice q b.key.length cq) (.int .u64 b.id) 65 65
 rw [← first_ord]
 unfold enV
 clear ha hb
 generalize rowsV a.key b.key = R at *
 generalize a.key.length = la at *
 generalize b.key.length = lb at *
 generalize a.id = ia at *
 generalize b.id = ib at *
 go_enter Tryz.func51, Tryz.ntmps51
 go_wp2_with fail
 have F1 := F0.out
 have B1 := B0.out (.cells #[.slice p la cp, .int .u64 ia] 65) (.cells #[.slice q lb cq, .int .u64 ib] 65)
 clear F0 B0
 generalize (w.alloc (.cells #[.slice p la cp, .int .u64 ia] 65)).alloc (.cells #[.slice q lb cq, .int .u64 ib] 65) = W at *
 obtain ⟨l1, a0, a1, b0, b1⟩ := F1
 go_region_held3 (fun w' => w'.cell? ⟨w.heap.size, 0, none⟩ = some (.slice p la cp) ∧ w'.cell? ⟨w.heap.size, 1, none⟩ = some (.int .u64 ia) ∧ w'.cell? ⟨w.heap.size + 1, 0, none⟩ = some (.slice q lb cq) ∧ w'.cell? ⟨w.heap.size + 1, 1, none⟩ = some (.int .u64 ib)) (first | go_keep | exact ⟨(hb2.cell (p := ⟨w.heap.size, 0, none⟩) (by simp; omega)).trans a0, (hb2.cell (p := ⟨w.heap.size, 1, none⟩) (by simp; omega)).trans a1, (hb2.cell (p := ⟨w.heap.size + 1, 0, none⟩) (by simp; omega)).trans b0, (hb2.cell (p := ⟨w.heap.size + 1, 1, none⟩) (by simp; omega)).trans b1⟩) ((first | (go_at_call 74; refine (RO.out _ (by exact B1.drew)).mono ?_; rintro e w' ⟨rfl, hb2⟩) | (go_at_call 79; refine (CU.out _ _ _).mono ?_; rintro e w' ⟨rfl, rfl⟩) | (go_at_call 78; refine (O2.out _ _ _ _ (by exact intsAt_two _ _ _ _)).mono ?_; rintro e w' ⟨rfl, rfl⟩)))
 all_goals go_wp2_with fail
 all_goals go_ret
 all_goals refine ⟨rfl, ?_⟩
 all_goals
  have B2 := B1.drew.trans (hb2.mono B1.drew.size)
  exact B2.alloc B2.size _
end Go.Proofs.YtclcajnodoifjaaGreatDoor

namespace Go.Proofs.YtclcajnodoifjaaGreatDoor
open Go.RowKit Go.Shelf

set_option maxHeartbeats 4000000 in
set_option maxRecDepth 1000000 in
theorem docOrder_any (p q : Option Addr) (cp cq : Nat) (a b : En) (w : World) (hla : a.key.length ≤ 1000) (ha : EnAt w p a) (hb : EnAt w q b) :
  Calls Tryz.prog 44 #[enV p cp a, enV q cq b] w fun e w' => e = .returned (.int .i64 (ordE a b)) ∧ Below w.heap.size w w' := by
 have RO : Hid (∀ W', Below w.heap.size w W' → Calls Tryz.prog 18 #[.slice p a.key.length cp, .slice q b.key.length cq] W' fun e w' => e = .returned (.int .i64 (rowsV a.key b.key)) ∧ Below W'.heap.size W' w') := fun W' h => refRows_any p q cp cq a.key b.key W' hla (ha.row.below h) (hb.row.below h) ha.fits hb.fits
 have B0 : Hid (∀ o o', Below w.heap.size w ((w.alloc o).alloc o')) := fun o o' => ((Below.refl _ w).alloc (Nat.le_refl _) o).alloc (by simp) o'
 have F0 : Hid _ := Ee.new w (.slice p a.key.length cp) (.int .u64 a.id) (.slice q b.key.length cq) (.int .u64 b.id) 54 54
 unfold enV
 unfold ordE
 clear ha hb
 generalize rowsV a.key b.key = R at *
 generalize a.key.length = la at *
 generalize b.key.length = lb at *
 generalize a.id = ia at *
 generalize b.id = ib at *
 by_cases hR : R = 0
 ·rw [if_pos hR]
  subst hR
  by_cases h1 : ia < ib
  ·rw [cmpI_lt h1]
   go_enter Tryz.func44, Tryz.ntmps44
   go_wp2_with fail
   refine (RO.out _ (B0.out _ _)).mono ?_
   rintro e w1 ⟨rfl, hb2⟩
   have F1 := F0.out
   have B1 := B0.out (.cells #[.slice p la cp, .int .u64 ia] 54) (.cells #[.slice q lb cq, .int .u64 ib] 54)
   have B2 := B1.trans (hb2.mono B1.size)
   have a1 := (hb2.cell (p := ⟨w.heap.size, 1, none⟩) (show w.heap.size < _ from Nat.lt_trans (Nat.lt_succ_self _) F1.lt)).trans F1.a1
   have b1 := (hb2.cell (p := ⟨w.heap.size + 1, 1, none⟩) F1.lt).trans F1.b1
   clear F0 B0 F1 B1 hb2
   go_wp2_with fail
   go_ret
   exact ⟨rfl, B2⟩
  ·by_cases h2 : ib < ia
   ·rw [cmpI_gt h2]
    go_enter Tryz.func44, Tryz.ntmps44
    go_wp2_with fail
    refine (RO.out _ (B0.out _ _)).mono ?_
    rintro e w1 ⟨rfl, hb2⟩
    have F1 := F0.out
    have B1 := B0.out (.cells #[.slice p la cp, .int .u64 ia] 54) (.cells #[.slice q lb cq, .int .u64 ib] 54)
    have B2 := B1.trans (hb2.mono B1.size)
    have a1 := (hb2.cell (p := ⟨w.heap.size, 1, none⟩) (show w.heap.size < _ from Nat.lt_trans (Nat.lt_succ_self _) F1.lt)).trans F1.a1
    have b1 := (hb2.cell (p := ⟨w.heap.size + 1, 1, none⟩) F1.lt).trans F1.b1
    clear F0 B0 F1 B1 hb2
    go_wp2_with fail
    go_ret
    exact ⟨rfl, B2⟩
   ·rw [cmpI_eq (by omega)]
    go_enter Tryz.func44, Tryz.ntmps44
    go_wp2_with fail
    refine (RO.out _ (B0.out _ _)).mono ?_
    rintro e w1 ⟨rfl, hb2⟩
    have F1 := F0.out
    have B1 := B0.out (.cells #[.slice p la cp, .int .u64 ia] 54) (.cells #[.slice q lb cq, .int .u64 ib] 54)
    have B2 := B1.trans (hb2.mono B1.size)
    have a1 := (hb2.cell (p := ⟨w.heap.size, 1, none⟩) (show w.heap.size < _ from Nat.lt_trans (Nat.lt_succ_self _) F1.lt)).trans F1.a1
    have b1 := (hb2.cell (p := ⟨w.heap.size + 1, 1, none⟩) F1.lt).trans F1.b1
    clear F0 B0 F1 B1 hb2
    go_wp2_with fail
    go_ret
    exact ⟨rfl, B2⟩
 ·rw [if_neg hR]
  have hne : (R == 0) = false := by simp [hR]
  go_enter Tryz.func44, Tryz.ntmps44
  go_wp2_with fail
  refine (RO.out _ (B0.out _ _)).mono ?_
  rintro e w1 ⟨rfl, hb2⟩
  have B1 := B0.out (.cells #[.slice p la cp, .int .u64 ia] 54) (.cells #[.slice q lb cq, .int .u64 ib] 54)
  have B2 := B1.trans (hb2.mono B1.size)
  clear F0 B0 B1 hb2
  go_wp2_with fail
  go_ret
  exact ⟨rfl, B2⟩
theorem rowAt.take {w : World} {p : Option Addr} {l : List Va} (h : rowAt w p l) (n : Nat) : rowAt w p (l.take n) := by
 rcases h with h | ⟨g, h1, h2⟩
 ·exact Or.inl (by rw [h]; simp)
 ·refine Or.inr ⟨g, h1, h2.1, fun i v hv => h2.2 i v ?_⟩
  have hi : i < n := by
   have := (List.getElem?_eq_some_iff.1 hv).1
   simp at this; omega
  rwa [List.getElem?_take_of_lt hi] at hv
/-- one entry in a box -/
structure E1 (w : World) (B : Nat) (u v : Value) : Prop where
 lt : B < w.heap.size
 a0 : w.cell? ⟨B, 0, none⟩ = some u
 a1 : w.cell? ⟨B, 1, none⟩ = some v
set_option maxHeartbeats 4000000 in
set_option maxRecDepth 1000000 in
theorem onlyKey1_any (p q : Option Addr) (cp cq g : Nat) (e : En) (k : List Va) (w : World) (hla : e.key.length ≤ 1000) (he : EnAt w p e) (hq : rowAt w q k) (fk : ∀ v ∈ k, fit v.n) (hg : g < w.heap.size) (hc : w.cell? ⟨g, 0, none⟩ = some (.slice q k.length cq)) :
  Calls Tryz.prog 73 #[enV p cp e, .pointer (some ⟨g, 0, none⟩)] w fun x w' => x = .returned (.bool (decide (0 ≤ rowsV e.key k))) ∧ Below w.heap.size w w' := by
 have RO : Hid (∀ W', Below w.heap.size w W' → Calls Tryz.prog 74 #[.slice p e.key.length cp, .slice q k.length cq] W' fun x w' => x = .returned (.int .i64 (rowsV e.key k)) ∧ Below W'.heap.size W' w') := fun W' h => Rows_any p q cp cq e.key k W' hla (he.row.below h) (hq.below h) he.fits fk
 have B0 : Hid (∀ o, Below w.heap.size w (w.alloc o)) := fun o => (Below.refl _ w).alloc (Nat.le_refl _) o
 unfold enV
 clear he hq
 generalize rowsV e.key k = R at *
 generalize e.key.length = la at *
 generalize k.length = lb at *
 have hc1 : ∀ o, (w.alloc o).cell? ⟨g, 0, none⟩ = some (.slice q lb cq) := fun o => ((B0.out o).cell (p := ⟨g, 0, none⟩) hg).trans hc
 go_enter Tryz.func73, Tryz.ntmps73
 go_wp2_with fail
 refine (RO.out _ (B0.out _)).mono ?_
 rintro x w1 ⟨rfl, hb2⟩
 have B2 := (B0.out (.cells #[.slice p la cp, .int .u64 e.id] 65)).trans (hb2.mono (B0.out _).size)
 go_wp2_with fail
 go_ret
 exact ⟨rfl, B2⟩

set_option maxHeartbeats 4000000 in
set_option maxRecDepth 1000000 in
theorem onlyKey2_any (p q : Option Addr) (cp cq g : Nat) (e : En) (k : List Va) (w : World) (hla : e.key.length ≤ 1000) (he : EnAt w p e) (hq : rowAt w q k) (fk : ∀ v ∈ k, fit v.n) (hg : g < w.heap.size) (hc : w.cell? ⟨g, 0, none⟩ = some (.slice q k.length cq)) :
  Calls Tryz.prog 75 #[enV p cp e, .pointer (some ⟨g, 0, none⟩)] w fun x w' => x = .returned (.bool (decide (rowsV e.key k ≤ 0))) ∧ Below w.heap.size w w' := by
 have RO : Hid (∀ W', Below w.heap.size w W' → Calls Tryz.prog 74 #[.slice p e.key.length cp, .slice q k.length cq] W' fun x w' => x = .returned (.int .i64 (rowsV e.key k)) ∧ Below W'.heap.size W' w') := fun W' h => Rows_any p q cp cq e.key k W' hla (he.row.below h) (hq.below h) he.fits fk
 have B0 : Hid (∀ o, Below w.heap.size w (w.alloc o)) := fun o => (Below.refl _ w).alloc (Nat.le_refl _) o
 unfold enV
 clear he hq
 generalize rowsV e.key k = R at *
 generalize e.key.length = la at *
 generalize k.length = lb at *
 have hc1 : ∀ o, (w.alloc o).cell? ⟨g, 0, none⟩ = some (.slice q lb cq) := fun o => ((B0.out o).cell (p := ⟨g, 0, none⟩) hg).trans hc
 go_enter Tryz.func75, Tryz.ntmps75
 go_wp2_with fail
 refine (RO.out _ (B0.out _)).mono ?_
 rintro x w1 ⟨rfl, hb2⟩
 have B2 := (B0.out (.cells #[.slice p la cp, .int .u64 e.id] 65)).trans (hb2.mono (B0.out _).size)
 go_wp2_with fail
 go_ret
 exact ⟨rfl, B2⟩
end Go.Proofs.YtclcajnodoifjaaGreatDoor

namespace Go.Proofs.YtclcajnodoifjaaGreatDoor
open Go.RowKit Go.Shelf

set_option maxHeartbeats 4000000 in
set_option maxRecDepth 1000000 in
theorem onlyEntry1_any (p q : Option Addr) (cp cq g : Nat) (e x : En) (w : World) (hla : e.key.length ≤ 1000) (he : EnAt w p e) (hx : EnAt w q x) (hg : g < w.heap.size) (hc : w.cell? ⟨g, 0, none⟩ = some (.slice q x.key.length cq)) (hd : w.cell? ⟨g, 1, none⟩ = some (.int .u64 x.id)) :
  Calls Tryz.prog 54 #[enV p cp e, .pointer (some ⟨g, 0, none⟩)] w fun r w' => r = .returned (.bool (decide (0 ≤ ordE e x))) ∧ Below w.heap.size w w' := by
 have RO : Hid (∀ W', Below w.heap.size w W' → Calls Tryz.prog 51 #[.agg #[.slice p e.key.length cp, .int .u64 e.id], .agg #[.slice q x.key.length cq, .int .u64 x.id]] W' fun r w' => r = .returned (.int .i64 (ordE e x)) ∧ Below W'.heap.size W' w') := fun W' h => order_any p q cp cq e x W' hla (he.below h) (hx.below h)
 have B0 : Hid (∀ o, Below w.heap.size w (w.alloc o)) := fun o => (Below.refl _ w).alloc (Nat.le_refl _) o
 unfold enV
 clear he hx
 generalize ordE e x = R at *
 generalize e.key.length = la at *
 generalize x.key.length = lb at *
 generalize x.id = ix at *
 generalize e.id = ie at *
 have hc1 : ∀ o, (w.alloc o).cell? ⟨g, 0, none⟩ = some (.slice q lb cq) := fun o => ((B0.out o).cell (p := ⟨g, 0, none⟩) hg).trans hc
 have hd1 : ∀ o, (w.alloc o).cell? ⟨g, 1, none⟩ = some (.int .u64 ix) := fun o => ((B0.out o).cell (p := ⟨g, 1, none⟩) hg).trans hd
 go_enter Tryz.func54, Tryz.ntmps54
 go_wp2_with fail
 refine (RO.out _ (B0.out _)).mono ?_
 rintro r w1 ⟨rfl, hb2⟩
 have B2 := (B0.out (.cells #[.slice p la cp, .int .u64 ie] 65)).trans (hb2.mono (B0.out _).size)
 go_wp2_with fail
 go_ret
 exact ⟨rfl, B2⟩

set_option maxHeartbeats 4000000 in
set_option maxRecDepth 1000000 in
theorem onlyEntry2_any (p q : Option Addr) (cp cq g : Nat) (e x : En) (w : World) (hla : e.key.length ≤ 1000) (he : EnAt w p e) (hx : EnAt w q x) (hg : g < w.heap.size) (hc : w.cell? ⟨g, 0, none⟩ = some (.slice q x.key.length cq)) (hd : w.cell? ⟨g, 1, none⟩ = some (.int .u64 x.id)) :
  Calls Tryz.prog 55 #[enV p cp e, .pointer (some ⟨g, 0, none⟩)] w fun r w' => r = .returned (.bool (decide (ordE e x ≤ 0))) ∧ Below w.heap.size w w' := by
 have RO : Hid (∀ W', Below w.heap.size w W' → Calls Tryz.prog 51 #[.agg #[.slice p e.key.length cp, .int .u64 e.id], .agg #[.slice q x.key.length cq, .int .u64 x.id]] W' fun r w' => r = .returned (.int .i64 (ordE e x)) ∧ Below W'.heap.size W' w') := fun W' h => order_any p q cp cq e x W' hla (he.below h) (hx.below h)
 have B0 : Hid (∀ o, Below w.heap.size w (w.alloc o)) := fun o => (Below.refl _ w).alloc (Nat.le_refl _) o
 unfold enV
 clear he hx
 generalize ordE e x = R at *
 generalize e.key.length = la at *
 generalize x.key.length = lb at *
 generalize x.id = ix at *
 generalize e.id = ie at *
 have hc1 : ∀ o, (w.alloc o).cell? ⟨g, 0, none⟩ = some (.slice q lb cq) := fun o => ((B0.out o).cell (p := ⟨g, 0, none⟩) hg).trans hc
 have hd1 : ∀ o, (w.alloc o).cell? ⟨g, 1, none⟩ = some (.int .u64 ix) := fun o => ((B0.out o).cell (p := ⟨g, 1, none⟩) hg).trans hd
 go_enter Tryz.func55, Tryz.ntmps55
 go_wp2_with fail
 refine (RO.out _ (B0.out _)).mono ?_
 rintro r w1 ⟨rfl, hb2⟩
 have B2 := (B0.out (.cells #[.slice p la cp, .int .u64 ie] 65)).trans (hb2.mono (B0.out _).size)
 go_wp2_with fail
 go_ret
 exact ⟨rfl, B2⟩
end Go.Proofs.YtclcajnodoifjaaGreatDoor

