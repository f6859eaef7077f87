/-
  The walk of value.Rows for rows that lie anywhere.
-/
import Derived.Test.YtedacccedbchaaaDoorRoB
namespace Go.Proofs.YtedacccedbchaaaDoor
open Go.RowKit Go.Shelf

set_option maxHeartbeats 4000000 in
set_option maxRecDepth 1000000 in
theorem Rows_any (p q : Option Addr) (cp cq : Nat) (la lb : List Va) (w : World) (hla : la.length ≤ 1000) (hp : rowIn w p la) (hq : rowIn w q lb) (fa : ∀ v ∈ la, fit v.n) (fb : ∀ v ∈ lb, fit v.n) :
    Calls Tryd.prog 19 #[.slice p la.length cp, .slice q lb.length cq] w fun e w' => e = .returned (.int .i64 (rowsV la lb)) ∧ Below w.heap.size w w' := by
  obtain ⟨E, hE⟩ : ∃ E, E = rowsV la lb := ⟨_, rfl⟩
  rw [← hE]
  have HE : Hid (E = rowsV la lb) := hE
  clear hE
  have CI : Hid (∀ x y w, Calls Tryd.prog 34 #[.int .i64 x, .int .i64 y] w fun e w' => e = .returned (.int .i64 (cmpI x y)) ∧ w' = w) := CompareInt
  go_enter Tryd.func19, Tryd.ntmps19
  go_wp2_with fail
  go_loopw [12] (fun sk wr => ∃ k : Nat, sk = .int .i64 k ∧ k ≤ la.length ∧ k ≤ lb.length ∧ Hid (E = rowsV (la.drop k) (lb.drop k)) ∧ Below w.heap.size w wr) (fun sk _ => la.length - (intOf sk).toNat)
  case atStart => exact ⟨0, rfl, Nat.zero_le _, Nat.zero_le _, HE, Below.refl _ _⟩
  case round =>
    obtain ⟨k, rfl, hk, hk2, hd, hb⟩ := hrel
    clear HE
    by_cases hlt : k < la.length ∧ k < lb.length
    · obtain ⟨hl1, hl2⟩ := hlt
      obtain ⟨a, hak⟩ : ∃ v, la[k]? = some v := ⟨la[k], List.getElem?_eq_getElem hl1⟩
      obtain ⟨b, hbk⟩ : ∃ v, lb[k]? = some v := ⟨lb[k], List.getElem?_eq_getElem hl2⟩
      rcases hp with rfl | ⟨g, o1, rfl, hvg, hcg⟩
      · simp at hak
      rcases hq with rfl | ⟨h, o2, rfl, hvh, hch⟩
      · simp at hbk
      obtain ⟨c1, c2, c3⟩ := hcg k a hak
      obtain ⟨m1, m2, m3⟩ := hch k b hbk
      have d1 := (hb.cell (p := ⟨g, o1 + k * 3, none⟩) hvg).trans c1
      have d2 := (hb.cell (p := ⟨g, o1 + k * 3 + 1, none⟩) hvg).trans c2
      have d3 := (hb.cell (p := ⟨g, o1 + k * 3 + 2, none⟩) hvg).trans c3
      have e1 := (hb.cell (p := ⟨h, o2 + k * 3, none⟩) hvh).trans m1
      have e2 := (hb.cell (p := ⟨h, o2 + k * 3 + 1, none⟩) hvh).trans m2
      have e3 := (hb.cell (p := ⟨h, o2 + k * 3 + 2, none⟩) hvh).trans m3
      have hgw : g < wr.heap.size := Nat.lt_of_lt_of_le hvg hb.size
      have hhw : h < wr.heap.size := Nat.lt_of_lt_of_le hvh hb.size
      have OO : Hid (∀ w, Calls Tryd.prog 33 #[.agg #[.int .i64 a.ty, .int .i64 a.n, .string a.s], .agg #[.int .i64 b.ty, .int .i64 b.n, .string b.s]] w fun e w' => e = .returned (.int .i64 (ordV a b)) ∧ Below w.heap.size w w') := fun w => Order_any a b w (fa a (List.mem_of_getElem? hak)) (fb b (List.mem_of_getElem? hbk))
      rw [drop_at hak, drop_at hbk] at hd
      clear c1 c2 c3 m1 m2 m3 hak hbk hvg hvh hcg hch fa fb
      by_cases h0 : ordV a b = 0
      · have hd2 : Hid (E = rowsV (la.drop (k + 1)) (lb.drop (k + 1))) := by show _ = _; rw [hd.out, rowsV, if_pos h0]
        rw [h0] at OO
        clear hd h0
        go_wp2_with fail
        go_region_held3 (fun w' => w'.cell? ⟨g, o1 + k * 3, none⟩ = some (.int .i64 a.ty) ∧ w'.cell? ⟨g, o1 + k * 3 + 1, none⟩ = some (.int .i64 a.n) ∧ w'.cell? ⟨g, o1 + k * 3 + 2, none⟩ = some (.string a.s) ∧ w'.cell? ⟨h, o2 + k * 3, none⟩ = some (.int .i64 b.ty) ∧ w'.cell? ⟨h, o2 + k * 3 + 1, none⟩ = some (.int .i64 b.n) ∧ w'.cell? ⟨h, o2 + k * 3 + 2, none⟩ = some (.string b.s)) (first | go_keep | exact ⟨(hb2.cell (p := ⟨g, o1 + k * 3, none⟩) hgw).trans d1, (hb2.cell (p := ⟨g, o1 + k * 3 + 1, none⟩) hgw).trans d2, (hb2.cell (p := ⟨g, o1 + k * 3 + 2, none⟩) hgw).trans d3, (hb2.cell (p := ⟨h, o2 + k * 3, none⟩) hhw).trans e1, (hb2.cell (p := ⟨h, o2 + k * 3 + 1, none⟩) hhw).trans e2, (hb2.cell (p := ⟨h, o2 + k * 3 + 2, none⟩) hhw).trans e3⟩) ((go_at_call 33; refine (OO.out _).mono ?_; rintro e w1 ⟨rfl, hb2⟩))
        go_wp2_with fail
        go_roundw
        case rel => exact ⟨k + 1, by go_num, hl1, hl2, hd2, hb.drew.trans (hb2.mono (by simpa using hb.size))⟩
        case measure => simp [intOf]; omega
      · have hd2 : E = ordV a b := by rw [hd.out, rowsV, if_neg h0]
        have h1 : (ordV a b != 0) = true := by rw [bne_iff_ne]; exact h0
        subst hd2
        clear hd h0
        go_wp2_with fail
        go_region_held3 (fun w' => w'.cell? ⟨g, o1 + k * 3, none⟩ = some (.int .i64 a.ty) ∧ w'.cell? ⟨g, o1 + k * 3 + 1, none⟩ = some (.int .i64 a.n) ∧ w'.cell? ⟨g, o1 + k * 3 + 2, none⟩ = some (.string a.s) ∧ w'.cell? ⟨h, o2 + k * 3, none⟩ = some (.int .i64 b.ty) ∧ w'.cell? ⟨h, o2 + k * 3 + 1, none⟩ = some (.int .i64 b.n) ∧ w'.cell? ⟨h, o2 + k * 3 + 2, none⟩ = some (.string b.s)) (first | go_keep | exact ⟨(hb2.cell (p := ⟨g, o1 + k * 3, none⟩) hgw).trans d1, (hb2.cell (p := ⟨g, o1 + k * 3 + 1, none⟩) hgw).trans d2, (hb2.cell (p := ⟨g, o1 + k * 3 + 2, none⟩) hgw).trans d3, (hb2.cell (p := ⟨h, o2 + k * 3, none⟩) hhw).trans e1, (hb2.cell (p := ⟨h, o2 + k * 3 + 1, none⟩) hhw).trans e2, (hb2.cell (p := ⟨h, o2 + k * 3 + 2, none⟩) hhw).trans e3⟩) ((go_at_call 33; refine (OO.out _).mono ?_; rintro e w1 ⟨rfl, hb2⟩))
        go_wp2_with fail
        go_ret
        exact ⟨rfl, hb.drew.trans (hb2.mono (by simpa using hb.size))⟩
    · have hE : E = cmpI la.length lb.length := by rw [hd.out]; exact rows_out hk hk2 hlt
      subst hE
      clear hd
      have hcs : ¬ k < la.length ∨ (k < la.length ∧ ¬ k < lb.length) := by omega
      clear hlt
      rcases hcs with hx | ⟨hx, hy⟩
      · go_wp2_with fail
        refine (CI.out _ _ _).mono ?_
        rintro e wx ⟨rfl, hwx⟩; have hwx2 := hwx.symm; subst hwx2; clear hwx
        go_wp2_with fail
        go_ret
        exact ⟨rfl, hb⟩
      · go_wp2_with fail
        refine (CI.out _ _ _).mono ?_
        rintro e wx ⟨rfl, hwx⟩; have hwx2 := hwx.symm; subst hwx2; clear hwx
        go_wp2_with fail
        go_ret
        exact ⟨rfl, hb⟩
end Go.Proofs.YtedacccedbchaaaDoor
