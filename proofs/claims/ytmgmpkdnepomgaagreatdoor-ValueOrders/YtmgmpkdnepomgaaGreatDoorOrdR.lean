/-
  The walks of value.Rows and lockstepref01.Rows: both tell how two rows stand.
-/
import Derived.Test.YtmgmpkdnepomgaaGreatDoorOrdM
namespace Go.Proofs.YtmgmpkdnepomgaaGreatDoor
open Go.RowKit Go.Shelf

/-- how two rows stand -/
def rowsV : List Va → List Va → Int
  | [], [] => 0
  | [], _ :: _ => -1
  | _ :: _, [] => 1
  | x :: a, y :: b => if ordV x y = 0 then rowsV a b else ordV x y
/-- the values of a row lie behind its place -/
def rowAt (w : World) (p : Option Addr) (l : List Va) : Prop := l = [] ∨ ∃ g, p = some ⟨g, 0, none⟩ ∧ valsAt w g l
theorem rowAt.below {w w' : World} {p : Option Addr} {l : List Va} (h : rowAt w p l) (hb : Below w.heap.size w w') : rowAt w' p l := by
  rcases h with h | ⟨g, h1, h2⟩
  · exact Or.inl h
  · exact Or.inr ⟨g, h1, h2.below hb⟩
theorem rowAt.get {w : World} {p : Option Addr} {l : List Va} (h : rowAt w p l) {k : Nat} {v : Va} (hk : l[k]? = some v) : ∃ g, p = some ⟨g, 0, none⟩ ∧ valsAt w g l := by
  rcases h with h | h
  · subst h; simp at hk
  · exact h
theorem rows_end {a b : List Va} (h : a = [] ∨ b = []) : rowsV a b = cmpI a.length b.length := by
  rcases a with _ | ⟨x, a⟩
  · rcases b with _ | ⟨y, b⟩
    · rfl
    · show (-1 : Int) = _
      rw [cmpI_lt (by simp only [List.length_nil, List.length_cons]; omega)]
  · rcases b with _ | ⟨y, b⟩
    · show (1 : Int) = _
      rw [cmpI_gt (by simp only [List.length_nil, List.length_cons]; omega)]
    · simp at h
theorem cmpI_add (x y k : Int) : cmpI (x + k) (y + k) = cmpI x y := by
  unfold cmpI
  by_cases h : x < y
  · rw [if_pos h, if_pos (by omega)]
  · by_cases g : y < x
    · rw [if_neg h, if_pos g, if_neg (by omega), if_pos (by omega)]
    · rw [if_neg h, if_neg g, if_neg (by omega), if_neg (by omega)]
theorem rows_out {a b : List Va} {k : Nat} (hk : k ≤ a.length) (hk2 : k ≤ b.length) (h : ¬ (k < a.length ∧ k < b.length)) : rowsV (a.drop k) (b.drop k) = cmpI a.length b.length := by
  rw [rows_end (by rcases (show a.length ≤ k ∨ b.length ≤ k by omega) with h | h; exact Or.inl (List.drop_eq_nil_of_le h); exact Or.inr (List.drop_eq_nil_of_le h))]
  rw [← cmpI_add _ _ (k : Int)]
  rw [List.length_drop, List.length_drop]
  congr 1 <;> omega

set_option maxHeartbeats 4000000 in
set_option maxRecDepth 1000000 in
theorem Rows_any (p q : Option Addr) (cp cq : Nat) (la lb : List Va) (w : World) (hla : la.length ≤ 1000) (hp : rowAt w p la) (hq : rowAt w q lb) (fa : ∀ v ∈ la, fit v.n) (fb : ∀ v ∈ lb, fit v.n) :
    Calls Tryz.prog 11 #[.slice p la.length cp, .slice q lb.length cq] w fun e w' => e = .returned (.int .i64 (rowsV la lb)) ∧ Below w.heap.size w w' := by
  obtain ⟨E, hE⟩ : ∃ E, E = rowsV la lb := ⟨_, rfl⟩
  rw [← hE]
  have HE : Hid (E = rowsV la lb) := hE
  clear hE
  have CI : Hid (∀ x y w, Calls Tryz.prog 19 #[.int .i64 x, .int .i64 y] w fun e w' => e = .returned (.int .i64 (cmpI x y)) ∧ w' = w) := CompareInt
  go_enter Tryz.func11, Tryz.ntmps11
  go_wp2_with fail
  go_loopw [12] (fun sk wr => ∃ k : Nat, sk = .int .i64 k ∧ k ≤ la.length ∧ k ≤ lb.length ∧ Hid (E = rowsV (la.drop k) (lb.drop k)) ∧ Below w.heap.size w wr) (fun sk _ => la.length - (intOf sk).toNat)
  case atStart => exact ⟨0, rfl, Nat.zero_le _, Nat.zero_le _, HE, Below.refl _ _⟩
  case round =>
    obtain ⟨k, rfl, hk, hk2, hd, hb⟩ := hrel
    clear HE
    by_cases hlt : k < la.length ∧ k < lb.length
    · obtain ⟨hl1, hl2⟩ := hlt
      obtain ⟨a, hak⟩ : ∃ v, la[k]? = some v := ⟨la[k], List.getElem?_eq_getElem hl1⟩
      obtain ⟨b, hbk⟩ : ∃ v, lb[k]? = some v := ⟨lb[k], List.getElem?_eq_getElem hl2⟩
      obtain ⟨g, rfl, hvg⟩ := hp.get hak
      obtain ⟨h, rfl, hvh⟩ := hq.get hbk
      obtain ⟨c1, c2, c3⟩ := hvg.2 k a hak
      obtain ⟨m1, m2, m3⟩ := hvh.2 k b hbk
      have d1 := (hb.cell (p := ⟨g, k * 3, none⟩) hvg.1).trans c1
      have d2 := (hb.cell (p := ⟨g, k * 3 + 1, none⟩) hvg.1).trans c2
      have d3 := (hb.cell (p := ⟨g, k * 3 + 2, none⟩) hvg.1).trans c3
      have e1 := (hb.cell (p := ⟨h, k * 3, none⟩) hvh.1).trans m1
      have e2 := (hb.cell (p := ⟨h, k * 3 + 1, none⟩) hvh.1).trans m2
      have e3 := (hb.cell (p := ⟨h, k * 3 + 2, none⟩) hvh.1).trans m3
      have hgw : g < wr.heap.size := Nat.lt_of_lt_of_le hvg.1 hb.size
      have hhw : h < wr.heap.size := Nat.lt_of_lt_of_le hvh.1 hb.size
      have OO : Hid (∀ w, Calls Tryz.prog 7 #[.agg #[.int .i64 a.ty, .int .i64 a.n, .string a.s], .agg #[.int .i64 b.ty, .int .i64 b.n, .string b.s]] w fun e w' => e = .returned (.int .i64 (ordV a b)) ∧ Below w.heap.size w w') := fun w => Order_any a b w (fa a (List.mem_of_getElem? hak)) (fb b (List.mem_of_getElem? hbk))
      rw [drop_at hak, drop_at hbk] at hd
      clear c1 c2 c3 m1 m2 m3 hak hbk hvg hvh hp hq fa fb
      by_cases h0 : ordV a b = 0
      · have hd2 : Hid (E = rowsV (la.drop (k + 1)) (lb.drop (k + 1))) := by show _ = _; rw [hd.out, rowsV, if_pos h0]
        rw [h0] at OO
        clear hd h0
        go_wp2_with fail
        go_region_held3 (fun w' => w'.cell? ⟨g, k * 3, none⟩ = some (.int .i64 a.ty) ∧ w'.cell? ⟨g, k * 3 + 1, none⟩ = some (.int .i64 a.n) ∧ w'.cell? ⟨g, k * 3 + 2, none⟩ = some (.string a.s) ∧ w'.cell? ⟨h, k * 3, none⟩ = some (.int .i64 b.ty) ∧ w'.cell? ⟨h, k * 3 + 1, none⟩ = some (.int .i64 b.n) ∧ w'.cell? ⟨h, k * 3 + 2, none⟩ = some (.string b.s)) (first | go_keep | exact ⟨(hb2.cell (p := ⟨g, k * 3, none⟩) hgw).trans d1, (hb2.cell (p := ⟨g, k * 3 + 1, none⟩) hgw).trans d2, (hb2.cell (p := ⟨g, k * 3 + 2, none⟩) hgw).trans d3, (hb2.cell (p := ⟨h, k * 3, none⟩) hhw).trans e1, (hb2.cell (p := ⟨h, k * 3 + 1, none⟩) hhw).trans e2, (hb2.cell (p := ⟨h, k * 3 + 2, none⟩) hhw).trans e3⟩) ((go_at_call 7; refine (OO.out _).mono ?_; rintro e w1 ⟨rfl, hb2⟩))
        go_wp2_with fail
        go_roundw
        case rel => exact ⟨k + 1, by go_num, hl1, hl2, hd2, hb.drew.trans (hb2.mono (by simpa using hb.size))⟩
        case measure => simp [intOf]; omega
      · have hd2 : E = ordV a b := by rw [hd.out, rowsV, if_neg h0]
        have h1 : (ordV a b != 0) = true := by rw [bne_iff_ne]; exact h0
        subst hd2
        clear hd h0
        go_wp2_with fail
        go_region_held3 (fun w' => w'.cell? ⟨g, k * 3, none⟩ = some (.int .i64 a.ty) ∧ w'.cell? ⟨g, k * 3 + 1, none⟩ = some (.int .i64 a.n) ∧ w'.cell? ⟨g, k * 3 + 2, none⟩ = some (.string a.s) ∧ w'.cell? ⟨h, k * 3, none⟩ = some (.int .i64 b.ty) ∧ w'.cell? ⟨h, k * 3 + 1, none⟩ = some (.int .i64 b.n) ∧ w'.cell? ⟨h, k * 3 + 2, none⟩ = some (.string b.s)) (first | go_keep | exact ⟨(hb2.cell (p := ⟨g, k * 3, none⟩) hgw).trans d1, (hb2.cell (p := ⟨g, k * 3 + 1, none⟩) hgw).trans d2, (hb2.cell (p := ⟨g, k * 3 + 2, none⟩) hgw).trans d3, (hb2.cell (p := ⟨h, k * 3, none⟩) hhw).trans e1, (hb2.cell (p := ⟨h, k * 3 + 1, none⟩) hhw).trans e2, (hb2.cell (p := ⟨h, k * 3 + 2, none⟩) hhw).trans e3⟩) ((go_at_call 7; refine (OO.out _).mono ?_; rintro e w1 ⟨rfl, hb2⟩))
        go_wp2_with fail
        go_ret
        exact ⟨rfl, hb.drew.trans (hb2.mono (by simpa using hb.size))⟩
    · have hE : E = cmpI la.length lb.length := by rw [hd.out]; exact rows_out hk hk2 hlt
      subst hE
      clear hd
      have hcs : ¬ k < la.length ∨ (k < la.length ∧ ¬ k < lb.length) := by omega
      clear hlt
      rcases hcs with hx | ⟨hx, hy⟩
      · go_wp2_with fail
        refine (CI.out _ _ _).mono ?_
        rintro e wx ⟨rfl, hwx⟩; have hwx2 := hwx.symm; subst hwx2; clear hwx
        go_wp2_with fail
        go_ret
        exact ⟨rfl, hb⟩
      · go_wp2_with fail
        refine (CI.out _ _ _).mono ?_
        rintro e wx ⟨rfl, hwx⟩; have hwx2 := hwx.symm; subst hwx2; clear hwx
        go_wp2_with fail
        go_ret
        exact ⟨rfl, hb⟩

set_option maxHeartbeats 4000000 in
set_option maxRecDepth 1000000 in
theorem refRows_any (p q : Option Addr) (cp cq : Nat) (la lb : List Va) (w : World) (hla : la.length ≤ 1000) (hp : rowAt w p la) (hq : rowAt w q lb) (fa : ∀ v ∈ la, fit v.n) (fb : ∀ v ∈ lb, fit v.n) :
    Calls Tryz.prog 12 #[.slice p la.length cp, .slice q lb.length cq] w fun e w' => e = .returned (.int .i64 (rowsV la lb)) ∧ Below w.heap.size w w' := by
  obtain ⟨E, hE⟩ : ∃ E, E = rowsV la lb := ⟨_, rfl⟩
  rw [← hE]
  have HE : Hid (E = rowsV la lb) := hE
  clear hE
  have CI : Hid (∀ x y w, Calls Tryz.prog 25 #[.int .i64 x, .int .i64 y] w fun e w' => e = .returned (.int .i64 (cmpI x y)) ∧ w' = w) := ints_any
  go_enter Tryz.func12, Tryz.ntmps12
  go_wp2_with fail
  go_loopw [5] (fun sk wr => ∃ k : Nat, sk = .int .i64 k ∧ k ≤ la.length ∧ k ≤ lb.length ∧ Hid (E = rowsV (la.drop k) (lb.drop k)) ∧ Below w.heap.size w wr) (fun sk _ => la.length - (intOf sk).toNat)
  case atStart => exact ⟨0, rfl, Nat.zero_le _, Nat.zero_le _, HE, Below.refl _ _⟩
  case round =>
    obtain ⟨k, rfl, hk, hk2, hd, hb⟩ := hrel
    clear HE
    by_cases hlt : k < la.length ∧ k < lb.length
    · obtain ⟨hl1, hl2⟩ := hlt
      obtain ⟨a, hak⟩ : ∃ v, la[k]? = some v := ⟨la[k], List.getElem?_eq_getElem hl1⟩
      obtain ⟨b, hbk⟩ : ∃ v, lb[k]? = some v := ⟨lb[k], List.getElem?_eq_getElem hl2⟩
      obtain ⟨g, rfl, hvg⟩ := hp.get hak
      obtain ⟨h, rfl, hvh⟩ := hq.get hbk
      obtain ⟨c1, c2, c3⟩ := hvg.2 k a hak
      obtain ⟨m1, m2, m3⟩ := hvh.2 k b hbk
      have d1 := (hb.cell (p := ⟨g, k * 3, none⟩) hvg.1).trans c1
      have d2 := (hb.cell (p := ⟨g, k * 3 + 1, none⟩) hvg.1).trans c2
      have d3 := (hb.cell (p := ⟨g, k * 3 + 2, none⟩) hvg.1).trans c3
      have e1 := (hb.cell (p := ⟨h, k * 3, none⟩) hvh.1).trans m1
      have e2 := (hb.cell (p := ⟨h, k * 3 + 1, none⟩) hvh.1).trans m2
      have e3 := (hb.cell (p := ⟨h, k * 3 + 2, none⟩) hvh.1).trans m3
      have hgw : g < wr.heap.size := Nat.lt_of_lt_of_le hvg.1 hb.size
      have hhw : h < wr.heap.size := Nat.lt_of_lt_of_le hvh.1 hb.size
      have OO : Hid (∀ w, Calls Tryz.prog 8 #[.agg #[.int .i64 a.ty, .int .i64 a.n, .string a.s], .agg #[.int .i64 b.ty, .int .i64 b.n, .string b.s]] w fun e w' => e = .returned (.int .i64 (ordV a b)) ∧ Below w.heap.size w w') := fun w => refOrder_any a b w (fa a (List.mem_of_getElem? hak)) (fb b (List.mem_of_getElem? hbk))
      rw [drop_at hak, drop_at hbk] at hd
      clear c1 c2 c3 m1 m2 m3 hak hbk hvg hvh hp hq fa fb
      by_cases h0 : ordV a b = 0
      · have hd2 : Hid (E = rowsV (la.drop (k + 1)) (lb.drop (k + 1))) := by show _ = _; rw [hd.out, rowsV, if_pos h0]
        rw [h0] at OO
        clear hd h0
        go_wp2_with fail
        go_region_held3 (fun w' => w'.cell? ⟨g, k * 3, none⟩ = some (.int .i64 a.ty) ∧ w'.cell? ⟨g, k * 3 + 1, none⟩ = some (.int .i64 a.n) ∧ w'.cell? ⟨g, k * 3 + 2, none⟩ = some (.string a.s) ∧ w'.cell? ⟨h, k * 3, none⟩ = some (.int .i64 b.ty) ∧ w'.cell? ⟨h, k * 3 + 1, none⟩ = some (.int .i64 b.n) ∧ w'.cell? ⟨h, k * 3 + 2, none⟩ = some (.string b.s)) (first | go_keep | exact ⟨(hb2.cell (p := ⟨g, k * 3, none⟩) hgw).trans d1, (hb2.cell (p := ⟨g, k * 3 + 1, none⟩) hgw).trans d2, (hb2.cell (p := ⟨g, k * 3 + 2, none⟩) hgw).trans d3, (hb2.cell (p := ⟨h, k * 3, none⟩) hhw).trans e1, (hb2.cell (p := ⟨h, k * 3 + 1, none⟩) hhw).trans e2, (hb2.cell (p := ⟨h, k * 3 + 2, none⟩) hhw).trans e3⟩) ((go_at_call 8; refine (OO.out _).mono ?_; rintro e w1 ⟨rfl, hb2⟩))
        go_wp2_with fail
        go_roundw
        case rel => exact ⟨k + 1, by go_num, hl1, hl2, hd2, hb.drew.trans (hb2.mono (by simpa using hb.size))⟩
        case measure => simp [intOf]; omega
      · have hd2 : E = ordV a b := by rw [hd.out, rowsV, if_neg h0]
        have h1 : (ordV a b != 0) = true := by rw [bne_iff_ne]; exact h0
        subst hd2
        clear hd h0
        go_wp2_with fail
        go_region_held3 (fun w' => w'.cell? ⟨g, k * 3, none⟩ = some (.int .i64 a.ty) ∧ w'.cell? ⟨g, k * 3 + 1, none⟩ = some (.int .i64 a.n) ∧ w'.cell? ⟨g, k * 3 + 2, none⟩ = some (.string a.s) ∧ w'.cell? ⟨h, k * 3, none⟩ = some (.int .i64 b.ty) ∧ w'.cell? ⟨h, k * 3 + 1, none⟩ = some (.int .i64 b.n) ∧ w'.cell? ⟨h, k * 3 + 2, none⟩ = some (.string b.s)) (first | go_keep | exact ⟨(hb2.cell (p := ⟨g, k * 3, none⟩) hgw).trans d1, (hb2.cell (p := ⟨g, k * 3 + 1, none⟩) hgw).trans d2, (hb2.cell (p := ⟨g, k * 3 + 2, none⟩) hgw).trans d3, (hb2.cell (p := ⟨h, k * 3, none⟩) hhw).trans e1, (hb2.cell (p := ⟨h, k * 3 + 1, none⟩) hhw).trans e2, (hb2.cell (p := ⟨h, k * 3 + 2, none⟩) hhw).trans e3⟩) ((go_at_call 8; refine (OO.out _).mono ?_; rintro e w1 ⟨rfl, hb2⟩))
        go_wp2_with fail
        go_ret
        exact ⟨rfl, hb.drew.trans (hb2.mono (by simpa using hb.size))⟩
    · have hE : E = cmpI la.length lb.length := by rw [hd.out]; exact rows_out hk hk2 hlt
      subst hE
      clear hd
      have hcs : ¬ k < la.length ∨ (k < la.length ∧ ¬ k < lb.length) := by omega
      clear hlt
      rcases hcs with hx | ⟨hx, hy⟩
      · go_wp2_with fail
        refine (CI.out _ _ _).mono ?_
        rintro e wx ⟨rfl, hwx⟩; have hwx2 := hwx.symm; subst hwx2; clear hwx
        go_wp2_with fail
        go_ret
        exact ⟨rfl, hb⟩
      · go_wp2_with fail
        refine (CI.out _ _ _).mono ?_
        rintro e wx ⟨rfl, hwx⟩; have hwx2 := hwx.symm; subst hwx2; clear hwx
        go_wp2_with fail
        go_ret
        exact ⟨rfl, hb⟩

set_option maxHeartbeats 1000000 in
theorem Same_any (a b : Va) (w : World) (ha : fit a.n) (hb : fit b.n) : Calls Tryz.prog 9 #[.agg #[.int .i64 a.ty, .int .i64 a.n, .string a.s], .agg #[.int .i64 b.ty, .int .i64 b.n, .string b.s]] w fun e w' => e = .returned (.bool (ordV a b == 0)) ∧ Below w.heap.size w w' := by
  have OO : Hid (∀ w, Calls Tryz.prog 7 #[.agg #[.int .i64 a.ty, .int .i64 a.n, .string a.s], .agg #[.int .i64 b.ty, .int .i64 b.n, .string b.s]] w fun e w' => e = .returned (.int .i64 (ordV a b)) ∧ Below w.heap.size w w') := fun w => Order_any a b w ha hb
  generalize ordV a b = c at *
  go_enter Tryz.func9, Tryz.ntmps9
  go_wp2_with fail
  refine (OO.out _).mono ?_
  rintro e w1 ⟨rfl, hb1⟩
  go_wp2_with fail
  go_ret
  exact ⟨rfl, by first | exact hb1 | exact (((Below.refl _ w).alloc (Nat.le_refl _) _).alloc (by simp) _).trans (hb1.mono (by simp; omega))⟩

set_option maxHeartbeats 1000000 in
theorem refSame_any (a b : Va) (w : World) (ha : fit a.n) (hb : fit b.n) : Calls Tryz.prog 10 #[.agg #[.int .i64 a.ty, .int .i64 a.n, .string a.s], .agg #[.int .i64 b.ty, .int .i64 b.n, .string b.s]] w fun e w' => e = .returned (.bool (ordV a b == 0)) ∧ Below w.heap.size w w' := by
  have OO : Hid (∀ w, Calls Tryz.prog 8 #[.agg #[.int .i64 a.ty, .int .i64 a.n, .string a.s], .agg #[.int .i64 b.ty, .int .i64 b.n, .string b.s]] w fun e w' => e = .returned (.int .i64 (ordV a b)) ∧ Below w.heap.size w w') := fun w => refOrder_any a b w ha hb
  generalize ordV a b = c at *
  go_enter Tryz.func10, Tryz.ntmps10
  go_wp2_with fail
  refine (OO.out _).mono ?_
  rintro e w1 ⟨rfl, hb1⟩
  go_wp2_with fail
  go_ret
  exact ⟨rfl, by first | exact hb1 | exact (((Below.refl _ w).alloc (Nat.le_refl _) _).alloc (by simp) _).trans (hb1.mono (by simp; omega))⟩
end Go.Proofs.YtmgmpkdnepomgaaGreatDoor
