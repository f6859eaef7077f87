/-
  The walk of the law that changes the tree while it is gone through.
-/
import Derived.Test.YtclcajnodoifjaaGreatDoorHAS
namespace Go.Proofs.YtclcajnodoifjaaGreatDoor
open Go.RowKit Go.Shelf Go.Joins Go.Maps
attribute [local go_sem] Oper.semAt_some
set_option maxRecDepth 100000

set_option maxHeartbeats 16000000 in
set_option maxRecDepth 1000000 in
theorem While_any (acts wn : List Ac) (PA PW : Option Addr) (CA CW : Nat) (w : World) (hA : actsAt w PA acts) (hok : ∀ a ∈ acts, a.came w) (hWn : actsAt w PW wn) (hokW : ∀ a ∈ wn, a.came w) (hTb : Tabs w) (zA : acts.length ≤ 1000000000) :
    Calls Tryz.prog 5 #[.slice PA acts.length CA, .slice PW wn.length CW] w fun e w' => e = .returned (.bool true) ∧ Below w.heap.size w w' := by
  refine callsIn_wide (n := 3) |>.1 ?_
  obtain ⟨NA, hNA⟩ : ∃ N, N = acts.length := ⟨_, rfl⟩
  obtain ⟨NW, hNW⟩ : ∃ N, N = wn.length := ⟨_, rfl⟩
  obtain ⟨w0, hw0⟩ : ∃ w0, w0 = (w.alloc (.cells #[.slice PW NW CW] 22)).alloc (.cells #[.bool false] 4) := ⟨_, rfl⟩
  obtain ⟨d0, d1, bb, bs⟩ := bx2 w (.cells #[.slice PW NW CW] 22) (.cells #[.bool false] 4)
  rw [← hw0] at d0 d1 bb bs
  have NC := mkHid (New_any false w0)
  have AT : Hid (∀ i wr, i < NA → Below w.heap.size w wr → ∃ (a : Ac) (gA oA : Nat), PA = some ⟨gA, oA, none⟩ ∧ gA < w.heap.size ∧ a.came w0 ∧ ∀ j u, a.en[j]? = some u → wr.cell? ⟨gA, oA + i * 8 + j, none⟩ = some u) := fun i wr hi hb => by
    obtain ⟨a, g, o, ha, e, hg, hc⟩ := acts_at hA hb (by rw [← hNA]; exact hi)
    exact ⟨a, g, o, e, hg, (hok a (List.mem_of_getElem? ha)).below bb, hc⟩
  have AW : Hid (∀ i wr, i < NW → Below w.heap.size w wr → ∃ (a : Ac) (gA oA : Nat), PW = some ⟨gA, oA, none⟩ ∧ gA < w.heap.size ∧ a.came w0 ∧ ∀ j u, a.en[j]? = some u → wr.cell? ⟨gA, oA + i * 8 + j, none⟩ = some u) := fun i wr hi hb => by
    obtain ⟨a, g, o, ha, e, hg, hc⟩ := acts_at hWn hb (by rw [← hNW]; exact hi)
    exact ⟨a, g, o, e, hg, (hokW a (List.mem_of_getElem? ha)).below bb, hc⟩
  have TB0 : Hid (Tabs w0) := hTb.below bb
  have DO : Hid (∀ bt dd Z wr (a : Ac), MdZ w0 bt dd Z wr → a.came w0 → a.kd ≤ 1 → Calls Tryz.prog 10 #[.pointer (some ⟨bt, 0, none⟩), .pointer (some ⟨dd, 0, none⟩), .agg #[.int .i64 a.kd, .int .i64 a.stop, .slice a.q a.k.length a.c, .int .u64 a.id, .slice a.P1 a.n1 a.C1, .slice a.P2 a.n2 a.C2, .bool a.li, .bool a.hi]] wr fun e w' => e = .returned (.bool true) ∧ MdZ w0 bt dd Z w' ∧ Chg (fun b => b = bt ∨ b = dd) wr w') := fun bt dd Z wr a h1 h2 h3 => does_le_z h1 a h2 h3 TB0.out
  have BB := mkHid bb
  have BS := mkHid bs
  have D0 := mkHid d0
  have D1 := mkHid d1
  have HW0 := mkHid hw0
  rw [← hNA, ← hNW]
  rw [← hNA] at zA

  clear hA hok hWn hokW hTb hNA hNW d0 d1 bb bs hw0
  refine callsIn_of_wp_marks Tryz.func5 rfl trivial ?_ rfl
  simp only [Tryz.ntmps5, List.size_toArray, List.length_cons, List.length_nil, Nat.reduceAdd, Nat.reduceSub, Array.replicate_succ, Array.replicate_zero, List.push_toArray, List.append_toArray, List.nil_append, List.cons_append]
  refine wpIn_wide.2 ?_
  go_wp2_with fail
  rw [← HW0.out]
  clear HW0
  refine NC.out.mono ?_
  rintro e w1 ⟨rfl, hb1, b1⟩
  go_wp2_with fail
  obtain ⟨w4, hw4⟩ : ∃ w4, w4 = ((w1.alloc (.cells #[.bool false, .slice none 0 0] 28)).alloc (.cells #[.pointer (some ⟨w0.heap.size, 0, none⟩)] 23)).alloc (.cells #[.pointer (some ⟨w1.heap.size, 0, none⟩)] 25) := ⟨_, rfl⟩
  obtain ⟨f0, f1, f2, b4, s4⟩ := bxt w1 (.cells #[.bool false, .slice none 0 0] 28) (.cells #[.pointer (some ⟨w0.heap.size, 0, none⟩)] 23) (.cells #[.pointer (some ⟨w1.heap.size, 0, none⟩)] 25)
  rw [← hw4] at f0 f1 f2 b4 s4 ⊢
  clear hw4
  have sz1 := lt_of_heap hb1
  have M0 : Hid (MdZ w0 w0.heap.size w1.heap.size (fun _ => False) w4) := ⟨b1.trans (b4.mono b1.size), ⟨[], [], PrIn.empty ((b4.block _ (lt_of_heap hb1)).trans hb1) f0 (by omega)⟩, ⟨Nat.le_refl _, by omega⟩, fun _ h => h.elim⟩
  have OR : Hid (w0.heap.size < w1.heap.size ∧ w1.heap.size + 1 + 1 < w4.heap.size ∧ w.heap.size + 1 + 1 = w0.heap.size) := ⟨sz1, by omega, BS.out.symm⟩
  clear hb1 b4 s4 sz1 b1 f0 NC
  have BW4 : Hid (Below w.heap.size w w4) := BB.out.trans (M0.out.bl.mono BB.out.size)
  obtain ⟨dd, hdd⟩ : ∃ b, b = w1.heap.size := ⟨_, rfl⟩
  rw [← hdd] at f1 f2 M0 OR ⊢
  clear hdd
  obtain ⟨bt, hbt⟩ : ∃ b, b = w0.heap.size := ⟨_, rfl⟩
  have BT0 : Hid (w0.heap.size = bt) := hbt.symm
  rw [← hbt] at f1 M0 OR ⊢
  clear hbt BS
  have F1 := mkHid f1
  have F2 := mkHid f2
  clear f1 f2
  have BWC : Hid (∀ W, MdZ w0 bt dd (fun _ => False) W → Below w.heap.size w W) := fun W h => BB.out.trans (h.bl.mono BB.out.size)
  go_loopw [7] (fun s7 wr => ∃ i : Nat, s7 = .int .i64 i ∧ i ≤ NA ∧ Hid (MdZ w0 bt dd (fun _ => False) wr ∧ Chg (fun b => b = bt ∨ b = dd) w4 wr)) (fun s7 _ => NA - (intOf s7).toNat)
  case atStart => exact ⟨0, rfl, Nat.zero_le _, ⟨M0.out, Chg.refl _ _⟩⟩
  case round =>
    obtain ⟨i, rfl, hi, hM⟩ := hrel
    clear M0
    have t5 : wr.cell? ⟨dd + 1, 0, none⟩ = some (.pointer (some ⟨bt, 0, none⟩)) := (cell_of_block (hM.out.2.at_ F1.out (by have := OR.out; omega)) 0).trans rfl
    have t6 : wr.cell? ⟨dd + 1 + 1, 0, none⟩ = some (.pointer (some ⟨dd, 0, none⟩)) := (cell_of_block (hM.out.2.at_ F2.out (by have := OR.out; omega)) 0).trans rfl
    by_cases hlt : i < NA
    · obtain ⟨a, gA, oA, rfl, hgA, hok, hc⟩ := AT.out i wr hlt (BWC.out wr hM.out.1)
      have i1 : (i : Int) < (NA : Int) := by omega
      have i2 : (0 : Int) ≤ (i : Int) := by omega
      obtain ⟨kd, stop, k, q, c, id, P1, n1, C1, P2, n2, C2, li, hi'⟩ := a
      have DA := mkHid (fun h => DO.out bt dd _ wr.drew _ (hM.out.1.chg (Chg.refl _ _).drew) hok h)
      simp only at DA
      have e0 := hc 0 _ rfl
      have e1 := hc 1 _ rfl
      have e2 := hc 2 _ rfl
      have e3 := hc 3 _ rfl
      have e4 := hc 4 _ rfl
      have e5 := hc 5 _ rfl
      have e6 := hc 6 _ rfl
      have e7 := hc 7 _ rfl
      rw [Nat.add_zero] at e0
      simp only at e0 e1 e2 e3 e4 e5 e6 e7
      obtain ⟨lk, hlk⟩ : ∃ n, n = k.length := ⟨_, rfl⟩
      rw [← hlk] at e2 DA
      have KS : Hid (∀ W, Chg (fun b => b = bt ∨ b = dd) wr W → (fun w' : World => w'.cell? ⟨dd + 1, 0, none⟩ = some (.pointer (some ⟨bt, 0, none⟩)) ∧ w'.cell? ⟨dd + 1 + 1, 0, none⟩ = some (.pointer (some ⟨dd, 0, none⟩)) ∧ w'.cell? ⟨gA, oA + i * 8, none⟩ = some (.int .i64 kd) ∧ w'.cell? ⟨gA, oA + i * 8 + 1, none⟩ = some (.int .i64 stop) ∧ w'.cell? ⟨gA, oA + i * 8 + 2, none⟩ = some (.slice q lk c) ∧ w'.cell? ⟨gA, oA + i * 8 + 3, none⟩ = some (.int .u64 id) ∧ w'.cell? ⟨gA, oA + i * 8 + 4, none⟩ = some (.slice P1 n1 C1) ∧ w'.cell? ⟨gA, oA + i * 8 + 5, none⟩ = some (.slice P2 n2 C2) ∧ w'.cell? ⟨gA, oA + i * 8 + 6, none⟩ = some (.bool li) ∧ w'.cell? ⟨gA, oA + i * 8 + 7, none⟩ = some (.bool hi')) W) := fun W hW => by
        have hg : ¬ (gA = bt ∨ gA = dd) := by have := OR.out; have := BT0.out; omega
        have hd1 : ¬ (dd + 1 = bt ∨ dd + 1 = dd) := by have := OR.out; omega
        have hd2 : ¬ (dd + 1 + 1 = bt ∨ dd + 1 + 1 = dd) := by have := OR.out; omega
        exact ⟨chg_cell hW hd1 t5, chg_cell hW hd2 t6, chg_cell hW hg e0, chg_cell hW hg e1, chg_cell hW hg e2, chg_cell hW hg e3, chg_cell hW hg e4, chg_cell hW hg e5, chg_cell hW hg e6, chg_cell hW hg e7⟩
      clear hc hok hlk e0 e1 e2 e3 e4 e5 e6 e7 t5 t6 AT
      go_wp2_with fail
      refine wp_region_noPanic ?_
      refine wp_region_held_drew (S := fun w' : World => w'.cell? ⟨dd + 1, 0, none⟩ = some (.pointer (some ⟨bt, 0, none⟩)) ∧ w'.cell? ⟨dd + 1 + 1, 0, none⟩ = some (.pointer (some ⟨dd, 0, none⟩)) ∧ w'.cell? ⟨gA, oA + i * 8, none⟩ = some (.int .i64 kd) ∧ w'.cell? ⟨gA, oA + i * 8 + 1, none⟩ = some (.int .i64 stop) ∧ w'.cell? ⟨gA, oA + i * 8 + 2, none⟩ = some (.slice q lk c) ∧ w'.cell? ⟨gA, oA + i * 8 + 3, none⟩ = some (.int .u64 id) ∧ w'.cell? ⟨gA, oA + i * 8 + 4, none⟩ = some (.slice P1 n1 C1) ∧ w'.cell? ⟨gA, oA + i * 8 + 5, none⟩ = some (.slice P2 n2 C2) ∧ w'.cell? ⟨gA, oA + i * 8 + 6, none⟩ = some (.bool li) ∧ w'.cell? ⟨gA, oA + i * 8 + 7, none⟩ = some (.bool hi')) (by kernel_rfl) (KS.out _ (Chg.refl _ _).drew) (fun hH => ?_)
      by_cases hkd : kd ≤ 1
      · have DB := mkHid (DA.out hkd)
        clear DA
        refine tKx (i := 0) (v := .slice (some ⟨gA, oA, none⟩) NA CA) rfl rfl (by kernel_rfl) (fun _ _ _ h => h) ?_ hH ?_
        · intro w5 hSw; obtain ⟨s0, s1, s2, s3, s4, s5, s6, s7, s8, s9⟩ := hSw; go_simp
        simp only [zA9, zB9, zC9]
        refine tKx (i := 1) (v := .int .i64 (i : Int)) rfl rfl (by kernel_rfl) (fun _ _ _ h => h) ?_ hH ?_
        · intro w5 hSw; obtain ⟨s0, s1, s2, s3, s4, s5, s6, s7, s8, s9⟩ := hSw; go_simp
        simp only [zA9, zB9, zC9]
        refine tKx (i := 2) (v := .pointer (some ⟨gA, oA + i * 8, none⟩)) rfl rfl (by kernel_rfl) (fun _ _ _ h => h) ?_ hH ?_
        · intro w5 hSw; obtain ⟨s0, s1, s2, s3, s4, s5, s6, s7, s8, s9⟩ := hSw; go_simp
        simp only [zA9, zB9, zC9]
        refine tKx (i := 3) (v := .pointer (some ⟨gA, oA + i * 8, none⟩)) rfl rfl (by kernel_rfl) (fun _ _ _ h => h) ?_ hH ?_
        · intro w5 hSw; obtain ⟨s0, s1, s2, s3, s4, s5, s6, s7, s8, s9⟩ := hSw; go_simp
        simp only [zA9, zB9, zC9]
        refine tKx (i := 4) (v := .int .i64 kd) rfl rfl (by kernel_rfl) (fun _ _ _ h => h) ?_ hH ?_
        · intro w5 hSw; obtain ⟨s0, s1, s2, s3, s4, s5, s6, s7, s8, s9⟩ := hSw; go_simp
        simp only [zA9, zB9, zC9]
        refine tKx (i := 5) (v := .bool true) rfl rfl (by kernel_rfl) (fun _ _ _ h => h) ?_ hH ?_
        · intro w5 hSw; obtain ⟨s0, s1, s2, s3, s4, s5, s6, s7, s8, s9⟩ := hSw; go_simp
        simp only [zA9, zB9, zC9]
        refine tKx (i := 6) (v := .bool true) rfl rfl (by kernel_rfl) (fun _ _ _ h => h) ?_ hH ?_
        · intro w5 hSw; obtain ⟨s0, s1, s2, s3, s4, s5, s6, s7, s8, s9⟩ := hSw; go_simp
        simp only [zA9, zB9, zC9]
        refine tKx (i := 7) (v := .pointer (some ⟨bt, 0, none⟩)) rfl rfl (by kernel_rfl) (fun _ _ _ h => h) ?_ hH ?_
        · intro w5 hSw; obtain ⟨s0, s1, s2, s3, s4, s5, s6, s7, s8, s9⟩ := hSw; go_simp
        simp only [zA9, zB9, zC9]
        refine tKx (i := 8) (v := .pointer (some ⟨dd, 0, none⟩)) rfl rfl (by kernel_rfl) (fun _ _ _ h => h) ?_ hH ?_
        · intro w5 hSw; obtain ⟨s0, s1, s2, s3, s4, s5, s6, s7, s8, s9⟩ := hSw; go_simp
        simp only [zA9, zB9, zC9]
        refine tKx (i := 9) (v := .slice (some ⟨gA, oA, none⟩) NA CA) rfl rfl (by kernel_rfl) (fun _ _ _ h => h) ?_ hH ?_
        · intro w5 hSw; obtain ⟨s0, s1, s2, s3, s4, s5, s6, s7, s8, s9⟩ := hSw; go_simp
        simp only [zA9, zB9, zC9]
        refine tKx (i := 10) (v := .int .i64 (i : Int)) rfl rfl (by kernel_rfl) (fun _ _ _ h => h) ?_ hH ?_
        · intro w5 hSw; obtain ⟨s0, s1, s2, s3, s4, s5, s6, s7, s8, s9⟩ := hSw; go_simp
        simp only [zA9, zB9, zC9]
        refine tKx (i := 11) (v := .pointer (some ⟨gA, oA + i * 8, none⟩)) rfl rfl (by kernel_rfl) (fun _ _ _ h => h) ?_ hH ?_
        · intro w5 hSw; obtain ⟨s0, s1, s2, s3, s4, s5, s6, s7, s8, s9⟩ := hSw; go_simp
        simp only [zA9, zB9, zC9]
        refine tKx (i := 12) (v := .agg #[.int .i64 kd, .int .i64 stop, .slice q lk c, .int .u64 id, .slice P1 n1 C1, .slice P2 n2 C2, .bool li, .bool hi']) rfl rfl (by kernel_rfl) (fun _ _ _ h => h) ?_ hH ?_
        · intro w5 hSw; obtain ⟨s0, s1, s2, s3, s4, s5, s6, s7, s8, s9⟩ := hSw; go_simp
        simp only [zA9, zB9, zC9]
        refine wpAnyH_ready (rs := [13]) (by kernel_rfl) (by simp) ?_
        refine AllReadyH.cons rfl (fun K hK => ?_) AllReadyH.nil
        go_simp
        go_at_call 10
        refine DB.out.mono ?_
        rintro e w5 ⟨rfl, hm, hcg⟩
        have HN : Hid (MdZ w0 bt dd (fun _ => False) w5 ∧ Chg (fun b => b = bt ∨ b = dd) w4 w5) := ⟨hm, hM.out.2.trans ((Chg.refl _ wr).drew.trans hcg)⟩
        replace hcg := mkHid ((Chg.refl _ wr).drew.trans hcg)
        clear hm DB hM
        go_wp2_with fail
        refine hK.out _ _ (KS.out _ hcg.out) (fun hH => ?_)
        clear hK K
        refine tKx (i := 14) (v := .bool false) rfl rfl (by kernel_rfl) (fun _ _ _ h => h) ?_ hH ?_
        · intro w5 hSw; obtain ⟨s0, s1, s2, s3, s4, s5, s6, s7, s8, s9⟩ := hSw; go_simp
        simp only [zA9, zB9, zC9]
        refine tKx (i := 15) (v := .bool false) rfl rfl (by kernel_rfl) (fun _ _ _ h => h) ?_ hH ?_
        · intro w5 hSw; obtain ⟨s0, s1, s2, s3, s4, s5, s6, s7, s8, s9⟩ := hSw; go_simp
        simp only [zA9, zB9, zC9]
        refine wpAnyH_done (by kernel_rfl) ?_ _
        refine NoPanic.normal ?_
        clear hH KS
        go_wp2_with fail
        go_roundw
        case rel => exact ⟨i + 1, by go_num, hlt, HN.out⟩
        case measure => simp [intOf]; omega
      · clear DA
        refine tKx (i := 0) (v := .slice (some ⟨gA, oA, none⟩) NA CA) rfl rfl (by kernel_rfl) (fun _ _ _ h => h) ?_ hH ?_
        · intro w5 hSw; obtain ⟨s0, s1, s2, s3, s4, s5, s6, s7, s8, s9⟩ := hSw; go_simp
        simp only [zA9, zB9, zC9]
        refine tKx (i := 1) (v := .int .i64 (i : Int)) rfl rfl (by kernel_rfl) (fun _ _ _ h => h) ?_ hH ?_
        · intro w5 hSw; obtain ⟨s0, s1, s2, s3, s4, s5, s6, s7, s8, s9⟩ := hSw; go_simp
        simp only [zA9, zB9, zC9]
        refine tKx (i := 2) (v := .pointer (some ⟨gA, oA + i * 8, none⟩)) rfl rfl (by kernel_rfl) (fun _ _ _ h => h) ?_ hH ?_
        · intro w5 hSw; obtain ⟨s0, s1, s2, s3, s4, s5, s6, s7, s8, s9⟩ := hSw; go_simp
        simp only [zA9, zB9, zC9]
        refine tKx (i := 3) (v := .pointer (some ⟨gA, oA + i * 8, none⟩)) rfl rfl (by kernel_rfl) (fun _ _ _ h => h) ?_ hH ?_
        · intro w5 hSw; obtain ⟨s0, s1, s2, s3, s4, s5, s6, s7, s8, s9⟩ := hSw; go_simp
        simp only [zA9, zB9, zC9]
        refine tKx (i := 4) (v := .int .i64 kd) rfl rfl (by kernel_rfl) (fun _ _ _ h => h) ?_ hH ?_
        · intro w5 hSw; obtain ⟨s0, s1, s2, s3, s4, s5, s6, s7, s8, s9⟩ := hSw; go_simp
        simp only [zA9, zB9, zC9]
        refine tKx (i := 5) (v := .bool false) rfl rfl (by kernel_rfl) (fun _ _ _ h => h) ?_ hH ?_
        · intro w5 hSw; obtain ⟨s0, s1, s2, s3, s4, s5, s6, s7, s8, s9⟩ := hSw; go_simp
        simp only [zA9, zB9, zC9]
        refine tKx (i := 6) (v := .bool false) rfl rfl (by kernel_rfl) (fun _ _ _ h => h) ?_ hH ?_
        · intro w5 hSw; obtain ⟨s0, s1, s2, s3, s4, s5, s6, s7, s8, s9⟩ := hSw; go_simp
        simp only [zA9, zB9, zC9]
        refine take_at (i := 7) (v := undef) rfl rfl (by kernel_rfl) (by kernel_rfl) (by kernel_rfl) (fun _ _ _ h => h) (Or.inr ⟨by rfl, rfl⟩) hH ?_
        simp only [zA9, zB9, zC9]
        refine take_at (i := 8) (v := undef) rfl rfl (by kernel_rfl) (by kernel_rfl) (by kernel_rfl) (fun _ _ _ h => h) (Or.inr ⟨by rfl, rfl⟩) hH ?_
        simp only [zA9, zB9, zC9]
        refine take_at (i := 9) (v := undef) rfl rfl (by kernel_rfl) (by kernel_rfl) (by kernel_rfl) (fun _ _ _ h => h) (Or.inr ⟨by rfl, rfl⟩) hH ?_
        simp only [zA9, zB9, zC9]
        refine take_at (i := 10) (v := undef) rfl rfl (by kernel_rfl) (by kernel_rfl) (by kernel_rfl) (fun _ _ _ h => h) (Or.inr ⟨by rfl, rfl⟩) hH ?_
        simp only [zA9, zB9, zC9]
        refine take_at (i := 11) (v := undef) rfl rfl (by kernel_rfl) (by kernel_rfl) (by kernel_rfl) (fun _ _ _ h => h) (Or.inr ⟨by rfl, rfl⟩) hH ?_
        simp only [zA9, zB9, zC9]
        refine take_at (i := 12) (v := undef) rfl rfl (by kernel_rfl) (by kernel_rfl) (by kernel_rfl) (fun _ _ _ h => h) (Or.inr ⟨by rfl, rfl⟩) hH ?_
        simp only [zA9, zB9, zC9]
        refine take_at (i := 13) (v := undef) rfl rfl (by kernel_rfl) (by kernel_rfl) (by kernel_rfl) (fun _ _ _ h => h) (Or.inr ⟨by rfl, rfl⟩) hH ?_
        simp only [zA9, zB9, zC9]
        refine take_at (i := 14) (v := undef) rfl rfl (by kernel_rfl) (by kernel_rfl) (by kernel_rfl) (fun _ _ _ h => h) (Or.inr ⟨by rfl, rfl⟩) hH ?_
        simp only [zA9, zB9, zC9]
        refine tKx (i := 15) (v := .bool false) rfl rfl (by kernel_rfl) (fun _ _ _ h => h) ?_ hH ?_
        · intro w5 hSw; obtain ⟨s0, s1, s2, s3, s4, s5, s6, s7, s8, s9⟩ := hSw; go_simp
        simp only [zA9, zB9, zC9]
        refine wpAnyH_done (by kernel_rfl) ?_ _
        refine NoPanic.normal ?_
        have HN : Hid (MdZ w0 bt dd (fun _ => False) wr.drew ∧ Chg (fun b => b = bt ∨ b = dd) w4 wr.drew) := ⟨hM.out.1.chg (Chg.refl _ _).drew, hM.out.2.drew⟩
        clear hH KS hM
        go_wp2_with fail
        go_roundw
        case rel => exact ⟨i + 1, by go_num, hlt, HN.out⟩
        case measure => simp [intOf]; omega
    · obtain rfl : NA = i := by omega
      clear AT
      obtain ⟨L, D, hp⟩ := hM.out.1.pr
      obtain ⟨PD, CD, hd⟩ := hp.dc
      obtain ⟨ND, hND⟩ : ∃ N, N = D.length := ⟨_, rfl⟩
      rw [← hND] at hd
      have HP := mkHid hp
      have HD := mkHid hd
      have HND := mkHid hND
      have dcell : wr.cell? ⟨dd, 1, none⟩ = some (.slice PD ND CD) := (cell_of_block hd.box 1).trans rfl
      have BA : Hid (∀ o o' o'', Below wr.heap.size wr (((wr.alloc o).alloc o').alloc o'')) := fun o o' o'' => (bxt wr o o' o'').2.2.2.1
      have few : ND ≤ 4096 := by rw [hND, ← hp.ag.1]; exact hp.few
      have t5a : ∀ o o' o'', (((wr.alloc o).alloc o').alloc o'').cell? ⟨dd + 1, 0, none⟩ = some (.pointer (some ⟨bt, 0, none⟩)) := fun o o' o'' => ((BA.out o o' o'').cell (p := ⟨dd + 1, 0, none⟩) (World.block_lt_of_cell? _ _ t5)).trans t5
      have RG : Hid (∀ W, Calls Tryz.prog 17 #[.pointer (some ⟨bt, 0, none⟩), .agg #[.slice none 0 0, .slice none 0 0, .bool false, .bool false]] W fun e w' => RngQ 40 W bt [] [] false false e w') := fun W => Range_any bt none none 0 0 [] [] false false W (Or.inl rfl) (Or.inl rfl) (fun _ => rfl) (fun _ => rfl) (by simp) (by simp)
      clear hp hd hND
      go_wp2_with fail
      refine (RG.out _).mono ?_
      rintro en w6 ⟨B1, B2, g1, g2, rfl, x1, x2, sp, b6⟩
      obtain ⟨w5, hw5⟩ : ∃ w5, w5 = ((wr.alloc (.cells #[.slice PD ND CD] 26)).alloc (.cells #[.int .i64 0] 3)).alloc (.cells #[.int .i64 0] 3) := ⟨_, rfl⟩
      rw [← hw5] at x1 x2 sp b6
      obtain ⟨f3, f4, f5, b5, s5⟩ := bxt wr (.cells #[.slice PD ND CD] 26) (.cells #[.int .i64 0] 3) (.cells #[.int .i64 0] 3)
      rw [← hw5] at f3 f4 f5 b5 s5
      clear hw5 RG t5a BA dcell
      have b56 : Below wr.heap.size wr w6 := b5.trans (b6.mono b5.size)
      obtain ⟨ws, hws⟩ : ∃ b, b = wr.heap.size := ⟨_, rfl⟩
      obtain ⟨Y, hY⟩ : ∃ Y : Nat → Prop, Y = fun b => (b = bt ∨ b = dd) ∨ (b = ws + 1 ∨ b = ws + 1 + 1) := ⟨_, rfl⟩
      obtain ⟨Z, hZ⟩ : ∃ Z : Nat → Prop, Z = fun b => b = ws + 1 ∨ b = ws + 1 + 1 := ⟨_, rfl⟩
      have lt := hM.out.1.lt
      rw [← hws] at f3 f4 f5 s5 lt ⊢
      have lt5 : ws + 1 + 1 < w5.heap.size := by omega
      have lt6 : w5.heap.size ≤ w6.heap.size := b6.size
      have ddw : dd + 1 + 1 < ws := by rw [hws]; exact World.block_lt_of_cell? _ _ t6
      have ORW : Hid (bt < dd ∧ dd + 1 + 1 < ws ∧ ws + 1 + 1 < w6.heap.size ∧ w.heap.size + 1 + 1 = w0.heap.size ∧ w0.heap.size ≤ bt ∧ w5.heap.size = ws + 1 + 1 + 1) := ⟨OR.out.1, ddw, by omega, by have := OR.out; have := BT0.out; omega, Nat.le_of_eq BT0.out, s5⟩
      have yb : ∀ b, Y b → w0.heap.size ≤ b ∧ b < w6.heap.size := fun b h => by rw [hY] at h; have := ORW.out; omega
      have YN : Hid (Y (ws + 1) ∧ Y (ws + 1 + 1) ∧ Y bt ∧ Y dd ∧ Z (ws + 1) ∧ Z (ws + 1 + 1)) := by rw [hY, hZ]; simp [Hid]
      have YD : Hid (∀ b, ¬ (b = bt ∨ b = dd) → ¬ (b = ws + 1 ∨ b = ws + 1 + 1) → ¬ Y b) := by rw [hY]; exact fun b h1 h2 h => h.elim h1 h2
      have YS : Hid (∀ b, b = bt ∨ b = dd → Y b) := by rw [hY]; exact fun b h => Or.inl h
      have i0 : WhI w0 w6 bt dd (ws + 1) (ws + 1 + 1) Y Z 0 w6 := by
        refine ⟨(b6.block _ (lt_of_heap f4)).trans f4, (b6.block _ (lt_of_heap f5)).trans f5, Keeps.of_below (Below.refl _ _), MdZ.of hM.out.1.mid b56 (fun b hb => ?_)⟩
        rw [hZ] at hb
        omega
      obtain ⟨Tot, hTot⟩ : ∃ Tot, Tot = L := ⟨_, rfl⟩
      have SQ : Hid (SeqX Tryz.prog 40 #[.pointer (some ⟨B1, 0, none⟩), .pointer (some ⟨B2, 0, none⟩)] hdV (hdK Y) hdP hdS (hdSp (Tot := Tot)) Tot.length w6) := by
        obtain ⟨d, n, p1, n1, c1, p2, n2, c2, a1, a2, a3⟩ := HP.out.tr
        obtain ⟨fl_, fh, ll, lh, rfl, rfl, so⟩ := sp.ok (T := fun b => ¬ Y b) (fun b hb1 hb2 h => by rw [hY] at h; have := ORW.out; omega) (by simp) (by simp) (by simp) (by simp)
        have r1 : RtIn (fun b => ¬ Y b) w6 d (min d 1) n (.slice p1 n1 c1) (.slice p2 n2 c2) := (a1.mono (U := fun b => ¬ Y b) (fun b hb ht h => by rw [hY] at h; have := ht.2.1; have := ht.2.2.1; omega)).keeps (Keeps.of_below b56)
        have tc := trO_cells ((b56.block _ (lt_of_heap a2)).trans a2)
        exact range1_x (fun b => ¬ Y b) Y fl_ fh ll lh (loB [] false) (hiB [] false) d (min d 1) bt B1 B2 n p1 n1 c1 p2 n2 c2 Tot w6 (by rw [hTot, ← a3]; exact (btw_nil _).symm) r1 so (fun b h => (yb b h).2) (fun b h k => k h) tc.1 tc.2 x1.2 x2.2
      have AG : Hid (AgL Tot D) := by rw [hTot]; exact HP.out.ag
      have HTL : Hid (Tot.length = ND) := by rw [hTot, HND.out]; exact HP.out.ag.1
      have EN : Hid (∀ (A : World) (k : Nat), Keeps (fun b => ¬ Y b) w6 A → k < ND → ∃ dm gx ox, D[k]? = some dm ∧ PD = some ⟨gx, ox, none⟩ ∧ A.cell? ⟨gx, ox + k * 2, none⟩ = some (.slice (some ⟨dm.g, 0, none⟩) dm.e.key.length dm.c) ∧ A.cell? ⟨gx, ox + k * 2 + 1, none⟩ = some (.int .u64 dm.e.id) ∧ KeyOk (fun b => ¬ Y b) A dm) := fun A k hA hkN => by
        have up : ∀ b, b < wr.heap.size → (w0.heap.size ≤ b ∧ b ≠ bt ∧ b ≠ dd ∧ ¬ False) → ¬ Y b := fun b hb ht h => by rw [hY] at h; have := ht.2.1; have := ht.2.2.1; omega
        have hd := HD.out.mono (U := fun b => ¬ Y b) up
        obtain ⟨dm, hdm⟩ : ∃ dm, D[k]? = some dm := ⟨_, List.getElem?_eq_getElem (by rw [← HND.out]; exact hkN)⟩
        obtain ⟨p', c', e1, _, e3, hc⟩ := ((hd.row.keeps (Keeps.of_below b56)).keeps hA).form
        cases e1
        cases hP : PD with
        | none => have := (e3 hP).1; rw [this] at hkN; cases hkN
        | some ad =>
          obtain ⟨gx, ox, rfl, hg, hc⟩ := hc ad hP
          exact ⟨dm, gx, ox, hdm, rfl, hc _ _ ((fl_get emE_len D k dm 0 hdm (by omega)).trans rfl), (by rw [Nat.add_assoc]; exact hc _ _ ((fl_get emE_len D k dm 1 hdm (by omega)).trans rfl)), ((hd.keys dm (List.mem_of_getElem? hdm)).keeps (Keeps.of_below b56)).keeps hA⟩
      have OB : Hid (∀ A, Keeps (fun b => ¬ Y b) w6 A → A.cell? ⟨w.heap.size, 0, none⟩ = some (.slice PW NW CW) ∧ A.heap[w.heap.size + 1]? = some (.cells #[.bool false] 4 (0, 0)) ∧ A.cell? ⟨dd + 1, 0, none⟩ = some (.pointer (some ⟨bt, 0, none⟩)) ∧ A.cell? ⟨dd + 1 + 1, 0, none⟩ = some (.pointer (some ⟨dd, 0, none⟩)) ∧ A.cell? ⟨ws, 0, none⟩ = some (.slice PD ND CD)) := fun A hA => by
        have b06 : Below w0.heap.size w0 w6 := hM.out.1.bl.trans (b56.mono hM.out.1.bl.size)
        have o := ORW.out
        have q : ∀ {i : Nat} {u : Value} {t : TypeId}, ¬ Y i → w6.heap[i]? = some (.cells #[u] t (0, 0)) → A.cell? ⟨i, 0, none⟩ = some u := fun hy h => (cell_of_block (hA.2 _ _ _ _ hy h) 0).trans rfl
        have n0 : ∀ i, i < w0.heap.size → ¬ Y i := fun i hi h => by have := (yb i h).1; omega
        refine ⟨q (n0 _ (by omega)) ((b06.block _ (lt_of_heap D0.out)).trans D0.out), hA.2 _ _ _ _ (n0 _ (by omega)) ((b06.block _ (lt_of_heap D1.out)).trans D1.out), q (YD.out _ (by omega) (by omega)) ((b56.block _ (by omega)).trans (hM.out.2.at_ F1.out (by omega))), q (YD.out _ (by omega) (by omega)) ((b56.block _ (by omega)).trans (hM.out.2.at_ F2.out (by omega))), q (YD.out _ (by omega) (by omega)) ((b6.block _ (lt_of_heap f3)).trans f3)⟩
      clear x1 x2 sp t5 t6 f3 f4 f5 b5 b6 s5 hws yb lt lt5 lt6 ddw hM HP HD HND hTot hlt
      clear F1 F2 D0 D1 OR BT0 BW4
      obtain ⟨nb, hnb⟩ : ∃ b, b = ws + 1 := ⟨_, rfl⟩
      obtain ⟨kb, hkb⟩ : ∃ b, b = nb + 1 := ⟨_, rfl⟩
      rw [← hnb, ← hkb] at i0 YN ⊢
      have NK : Hid (nb ≠ kb) := mkHid (by omega)
      have HNB := mkHid hnb
      have HKB := mkHid hkb
      have HY := mkHid hY
      clear hnb hkb hY hZ
      go_wp2_with fail
      refine wpIn_wide (n := 3) |>.1 ?_
      refine loop_x (gf := 40) (lb := #[.pointer (some ⟨B1, 0, none⟩), .pointer (some ⟨B2, 0, none⟩)]) rfl (enters_of Tryz.func40 (by kernel_rfl) rfl) SQ.out (fun x _ _ _ h k => Keeps.trans h k) (fun x W l o o' _ h1 h2 _ => keepsK_b h1 h2) (Below.refl _ _) (fun _ => rfl) (fun x => hdP_own x)
        (fun pre A => WhI w0 w6 bt dd nb kb Y Z pre.length A) (WhX Tot D) (fun s X V row hs hg hr => WhI.own (by have := ORW.out; omega) () X V row hs hg hr) (fun c s X V row hs hg hr => hs) i0 ?acts ?assign ?body ?done ?stop
      case assign =>
        intro lr x A K hK
        have e : hdV x = #[.slice (some ⟨x.1.g, 0, none⟩) x.1.e.key.length x.1.c, .int .u64 x.1.e.id] := rfl
        rw [e]
        gi_wp2_with fail
        go_simp
        exact hK
      case body =>
        rintro lr pre x A hi hp hlt
        obtain ⟨hx, csx, hbx⟩ := hp
        have hkN : pre.length < ND := by rw [HTL.out] at hlt; exact hlt
        obtain ⟨dm, gx, ox, hdm, rfl, c0, c1, hd⟩ := EN.out A pre.length hi.kp hkN
        have DLk := mkHid hdm
        obtain ⟨o1, o2, o3, o4, o5⟩ := OB.out A hi.kp
        have m0 : A.cell? ⟨nb, 0, none⟩ = some (.int .i64 (pre.length : Int)) := (cell_of_block hi.n 0).trans rfl
        have r0 : A.cell? ⟨w.heap.size + 1, 0, none⟩ = some (.bool false) := (cell_of_block o2 0).trans rfl
        have rf : A.frozen? ⟨w.heap.size + 1, 0, none⟩ = false := unfrozen_of_block o2 0
        have RW : Hid (Calls Tryz.prog 18 #[.slice (some ⟨x.1.g, 0, none⟩) x.1.e.key.length x.1.c, .slice (some ⟨dm.g, 0, none⟩) dm.e.key.length dm.c] A fun e w' => e = .returned (.int .i64 (rowsV x.1.e.key dm.e.key)) ∧ Below A.heap.size A w') := refRows_any _ _ x.1.c dm.c x.1.e.key dm.e.key A (by have := hx.few; omega) (Or.inr ⟨_, rfl, hx.vals⟩) (Or.inr ⟨_, rfl, hd.vals⟩) hx.fits hd.fits
        have BAD : Hid (∀ v W, Below A.heap.size A W → ¬ Agr x.1.e dm.e → rdPost w6.heap.size (hdK Y x) (fun pre A => WhI w0 w6 bt dd nb kb Y Z pre.length A) (WhX Tot D) (pre ++ [x]) A .ret v (W.setCell ⟨w.heap.size + 1, 0, none⟩ (.bool false))) := fun v W hW h => ⟨(below_keepsFrom hW).trans ((KeepsOthers.setCell _ _ _).from _), rfl, pre, x, dm, rfl, DLk.out, h⟩
        have HI := mkHid hi
        have i1 : (pre.length : Int) < (ND : Int) := by omega
        have i2 : (0 : Int) ≤ (pre.length : Int) := by omega
        have wrp : IntKind.i64.wrap ((pre.length : Int) + 1) = (pre.length : Int) + 1 := wrap_small (by omega) (by omega)
        clear hi hx hbx hd hdm EN
        by_cases e1 : x.1.e.id = dm.e.id
        · have hne : (x.1.e.id != dm.e.id) = false := by rw [bne_eq_false_iff_eq]; exact e1
          have E1 := mkHid e1
          clear e1
          by_cases e2 : rowsV x.1.e.key dm.e.key = 0
          · rw [e2] at RW
            clear e2 BAD
            gi_wp2_with fail
            refine ⟨trivial, rfl, (CallsIn.inRound lr (callsIn_wide.2 RW.out)).mono ?_⟩
            rintro en W1 ⟨rfl, bW⟩
            obtain ⟨NX1, NX2, NX3, NX4⟩ := wh_n HI.out YN.out.2.2.2.2.1 YN.out.1 NK.out bW
            have m1 : W1.cell? ⟨nb, 0, none⟩ = some (.int .i64 (pre.length : Int)) := (cell_of_block ((bW.block _ (lt_of_heap HI.out.n)).trans HI.out.n) 0).trans rfl
            have nf1 : W1.frozen? ⟨nb, 0, none⟩ = false := unfrozen_of_block ((bW.block _ (lt_of_heap HI.out.n)).trans HI.out.n) 0
            have M1 := mkHid NX1
            have M2 := mkHid NX2
            have M3 := mkHid NX3
            have M4 := mkHid NX4
            clear NX1 NX2 NX3 NX4 bW m0 r0 rf c0 c1 o1 o2 o3 o4 o5 RW
            gi_wp2_with fail
            obtain ⟨W2, hW2⟩ : ∃ W2, W2 = W1.setCell ⟨nb, 0, none⟩ (.int .i64 ((pre.length : Int) + 1)) := ⟨_, rfl⟩
            rw [← hW2] at M1 M2 M3 M4 ⊢
            clear hW2 m1 nf1
            have kpA : Keeps (fun b => ¬ Y b) w6 W2 := HI.out.kp.trans (Keeps.of_chg M2.out (fun b h _ => h))
            obtain ⟨o1, o2, o3, o4, o5⟩ := OB.out W2 kpA
            have k0 : W2.cell? ⟨kb, 0, none⟩ = some (.int .i64 (pre.length : Int)) := (cell_of_block M4.out 0).trans rfl
            have YC : Hid (∀ b, Y b → ∃ cs t z, A.heap[b]? = some (.cells cs t z)) := fun b hb => by
              obtain ⟨L', D', hp'⟩ := HI.out.md.pr
              obtain ⟨_, _, _, _, _, _, _, _, _, q2, _⟩ := hp'.tr
              obtain ⟨_, _, q3⟩ := hp'.dc
              rw [HY.out] at hb
              rcases hb with (rfl | rfl) | (h | h)
              · exact ⟨_, _, _, q2⟩
              · exact ⟨_, _, _, q3.box⟩
              · exact ⟨_, _, _, by rw [h, ← HNB.out]; exact HI.out.n⟩
              · exact ⟨_, _, _, by rw [h, ← HNB.out, ← HKB.out]; exact HI.out.k⟩
            have LEN : Hid ((pre ++ [x]).length = pre.length + 1) := by simp [Hid]
            have END : Hid (∀ W3, MdZ w0 bt dd Z W3 → Chg (fun b => b = bt ∨ b = dd) W2 W3 → ∀ v, rdPost w6.heap.size (hdK Y x) (fun pre A => WhI w0 w6 bt dd nb kb Y Z pre.length A) (WhX Tot D) (pre ++ [x]) A .normal v (W3.setCell ⟨kb, 0, none⟩ (.int .i64 ((pre.length : Int) + 1)))) := fun W3 hm hc v => by
              have hs : ∀ b, b = bt ∨ b = dd → Y b := YS.out
              have zl := HI.out.md.zl
              obtain ⟨q1, q2, q3⟩ := wh_k (g := x.1.g) (B := w6.heap.size) HI.out hm (M2.out.trans (hc.mono (fun _ _ h => hs _ h))) (hc.at_ M3.out (fun e => by have := zl _ YN.out.2.2.2.2.1; omega)) (hc.at_ M4.out (fun e => by have := zl _ YN.out.2.2.2.2.2; omega)) YN.out.2.2.2.2.2 YN.out.2.1 NK.out YC.out
              refine ⟨q2, q3, ?_⟩
              show WhI w0 w6 bt dd nb kb Y Z (pre ++ [x]).length _
              rw [LEN.out]
              exact q1
            have KB : Hid (∀ W3, MdZ w0 bt dd Z W3 → Chg (fun b => b = bt ∨ b = dd) W2 W3 → W3.cell? ⟨kb, 0, none⟩ = some (.int .i64 (pre.length : Int)) ∧ W3.frozen? ⟨kb, 0, none⟩ = false) := fun W3 hm hc => by
              have := hc.at_ M4.out (fun e => by have := HI.out.md.zl _ YN.out.2.2.2.2.2; omega)
              exact ⟨(cell_of_block this 0).trans rfl, unfrozen_of_block this 0⟩
            have M1D : Hid (MdZ w0 bt dd Z W2.drew) := M1.out.chg (Chg.refl _ _).drew
            have BLW : Hid (Below w.heap.size w W2) := BB.out.trans (M1.out.bl.mono BB.out.size)
            have ORL : Hid (w0.heap.size ≤ bt ∧ bt < dd ∧ dd + 1 + 1 < ws ∧ nb = ws + 1 ∧ kb = nb + 1 ∧ w.heap.size + 1 + 1 = w0.heap.size) := by have := ORW.out; exact ⟨by omega, by omega, by omega, HNB.out, HKB.out, by omega⟩
            clear M2 M3 M4 YC o2 o5 kpA
            by_cases hkw : pre.length < NW
            · obtain ⟨a, gA, oA, rfl, hgA, hok, hc⟩ := AW.out pre.length W2 hkw BLW.out
              have i3 : (pre.length : Int) < (NW : Int) := by omega
              obtain ⟨kd, stop, k, q, c, id, P1, n1, C1, P2, n2, C2, li, hi'⟩ := a
              have DA := mkHid (fun h => DO.out bt dd Z W2.drew _ M1D.out hok h)
              simp only at DA
              have e0 := hc 0 _ rfl
              have e1 := hc 1 _ rfl
              have e2 := hc 2 _ rfl
              have e3 := hc 3 _ rfl
              have e4 := hc 4 _ rfl
              have e5 := hc 5 _ rfl
              have e6 := hc 6 _ rfl
              have e7 := hc 7 _ rfl
              rw [Nat.add_zero] at e0
              simp only at e0 e1 e2 e3 e4 e5 e6 e7
              obtain ⟨lk, hlk⟩ : ∃ n, n = k.length := ⟨_, rfl⟩
              rw [← hlk] at e2 DA
              have KS : Hid (∀ W, Chg (fun b => b = bt ∨ b = dd) W2 W → (fun w' : World => w'.cell? ⟨w.heap.size, 0, none⟩ = some (.slice (some ⟨gA, oA, none⟩) NW CW) ∧ w'.cell? ⟨kb, 0, none⟩ = some (.int .i64 (pre.length : Int)) ∧ w'.cell? ⟨dd + 1, 0, none⟩ = some (.pointer (some ⟨bt, 0, none⟩)) ∧ w'.cell? ⟨dd + 1 + 1, 0, none⟩ = some (.pointer (some ⟨dd, 0, none⟩)) ∧ w'.cell? ⟨gA, oA + pre.length * 8, none⟩ = some (.int .i64 kd) ∧ w'.cell? ⟨gA, oA + pre.length * 8 + 1, none⟩ = some (.int .i64 stop) ∧ w'.cell? ⟨gA, oA + pre.length * 8 + 2, none⟩ = some (.slice q lk c) ∧ w'.cell? ⟨gA, oA + pre.length * 8 + 3, none⟩ = some (.int .u64 id) ∧ w'.cell? ⟨gA, oA + pre.length * 8 + 4, none⟩ = some (.slice P1 n1 C1) ∧ w'.cell? ⟨gA, oA + pre.length * 8 + 5, none⟩ = some (.slice P2 n2 C2) ∧ w'.cell? ⟨gA, oA + pre.length * 8 + 6, none⟩ = some (.bool li) ∧ w'.cell? ⟨gA, oA + pre.length * 8 + 7, none⟩ = some (.bool hi')) W) := fun W hW => by
                have o := ORL.out
                exact ⟨chg_cell hW (by omega) o1, chg_cell hW (by omega) k0, chg_cell hW (by omega) o3, chg_cell hW (by omega) o4, chg_cell hW (by omega) e0, chg_cell hW (by omega) e1, chg_cell hW (by omega) e2, chg_cell hW (by omega) e3, chg_cell hW (by omega) e4, chg_cell hW (by omega) e5, chg_cell hW (by omega) e6, chg_cell hW (by omega) e7⟩
              clear hc hok hlk e0 e1 e2 e3 e4 e5 e6 e7 o1 o3 o4 k0
              refine region_round (S := fun w' : World => w'.cell? ⟨w.heap.size, 0, none⟩ = some (.slice (some ⟨gA, oA, none⟩) NW CW) ∧ w'.cell? ⟨kb, 0, none⟩ = some (.int .i64 (pre.length : Int)) ∧ w'.cell? ⟨dd + 1, 0, none⟩ = some (.pointer (some ⟨bt, 0, none⟩)) ∧ w'.cell? ⟨dd + 1 + 1, 0, none⟩ = some (.pointer (some ⟨dd, 0, none⟩)) ∧ w'.cell? ⟨gA, oA + pre.length * 8, none⟩ = some (.int .i64 kd) ∧ w'.cell? ⟨gA, oA + pre.length * 8 + 1, none⟩ = some (.int .i64 stop) ∧ w'.cell? ⟨gA, oA + pre.length * 8 + 2, none⟩ = some (.slice q lk c) ∧ w'.cell? ⟨gA, oA + pre.length * 8 + 3, none⟩ = some (.int .u64 id) ∧ w'.cell? ⟨gA, oA + pre.length * 8 + 4, none⟩ = some (.slice P1 n1 C1) ∧ w'.cell? ⟨gA, oA + pre.length * 8 + 5, none⟩ = some (.slice P2 n2 C2) ∧ w'.cell? ⟨gA, oA + pre.length * 8 + 6, none⟩ = some (.bool li) ∧ w'.cell? ⟨gA, oA + pre.length * 8 + 7, none⟩ = some (.bool hi')) (by kernel_rfl) (by kernel_rfl) (KS.out _ (Chg.refl _ _).drew) (fun hH => ?_)
              by_cases hkd : kd ≤ 1
              · have DB := mkHid (DA.out hkd)
                clear DA
                refine take_at (i := 0) (v := .int .i64 (pre.length : Int)) rfl rfl (by kernel_rfl) (by kernel_rfl) (by kernel_rfl) (fun _ _ _ h => by cases h.1) (Or.inl ⟨by rfl, ?_⟩) hH ?_
                · intro w5 hSw; obtain ⟨s0, s1, s2, s3, s4, s5, s6, s7, s8, s9, s10, s11⟩ := hSw; go_simp
                simp only [zA9, zB9, zC9]
                refine take_at (i := 1) (v := .slice (some ⟨gA, oA, none⟩) NW CW) rfl rfl (by kernel_rfl) (by kernel_rfl) (by kernel_rfl) (fun _ _ _ h => by cases h.1) (Or.inl ⟨by rfl, ?_⟩) hH ?_
                · intro w5 hSw; obtain ⟨s0, s1, s2, s3, s4, s5, s6, s7, s8, s9, s10, s11⟩ := hSw; go_simp
                simp only [zA9, zB9, zC9]
                refine take_at (i := 2) (v := .int .i64 (NW : Int)) rfl rfl (by kernel_rfl) (by kernel_rfl) (by kernel_rfl) (fun _ _ _ h => by cases h.1) (Or.inl ⟨by rfl, ?_⟩) hH ?_
                · intro w5 hSw; obtain ⟨s0, s1, s2, s3, s4, s5, s6, s7, s8, s9, s10, s11⟩ := hSw; go_simp
                simp only [zA9, zB9, zC9]
                refine take_at (i := 3) (v := .bool true) rfl rfl (by kernel_rfl) (by kernel_rfl) (by kernel_rfl) (fun _ _ _ h => by cases h.1) (Or.inl ⟨by rfl, ?_⟩) hH ?_
                · intro w5 hSw; obtain ⟨s0, s1, s2, s3, s4, s5, s6, s7, s8, s9, s10, s11⟩ := hSw; go_simp
                simp only [zA9, zB9, zC9]
                refine take_at (i := 4) (v := .bool true) rfl rfl (by kernel_rfl) (by kernel_rfl) (by kernel_rfl) (fun _ _ _ h => by cases h.1) (Or.inl ⟨by rfl, ?_⟩) hH ?_
                · intro w5 hSw; obtain ⟨s0, s1, s2, s3, s4, s5, s6, s7, s8, s9, s10, s11⟩ := hSw; go_simp
                simp only [zA9, zB9, zC9]
                refine take_at (i := 5) (v := .slice (some ⟨gA, oA, none⟩) NW CW) rfl rfl (by kernel_rfl) (by kernel_rfl) (by kernel_rfl) (fun _ _ _ h => by cases h.1) (Or.inl ⟨by rfl, ?_⟩) hH ?_
                · intro w5 hSw; obtain ⟨s0, s1, s2, s3, s4, s5, s6, s7, s8, s9, s10, s11⟩ := hSw; go_simp
                simp only [zA9, zB9, zC9]
                refine take_at (i := 6) (v := .int .i64 (pre.length : Int)) rfl rfl (by kernel_rfl) (by kernel_rfl) (by kernel_rfl) (fun _ _ _ h => by cases h.1) (Or.inl ⟨by rfl, ?_⟩) hH ?_
                · intro w5 hSw; obtain ⟨s0, s1, s2, s3, s4, s5, s6, s7, s8, s9, s10, s11⟩ := hSw; go_simp
                simp only [zA9, zB9, zC9]
                refine take_at (i := 7) (v := .pointer (some ⟨gA, oA + pre.length * 8, none⟩)) rfl rfl (by kernel_rfl) (by kernel_rfl) (by kernel_rfl) (fun _ _ _ h => by cases h.1) (Or.inl ⟨by rfl, ?_⟩) hH ?_
                · intro w5 hSw; obtain ⟨s0, s1, s2, s3, s4, s5, s6, s7, s8, s9, s10, s11⟩ := hSw; go_simp
                simp only [zA9, zB9, zC9]
                refine take_at (i := 8) (v := .pointer (some ⟨gA, oA + pre.length * 8, none⟩)) rfl rfl (by kernel_rfl) (by kernel_rfl) (by kernel_rfl) (fun _ _ _ h => by cases h.1) (Or.inl ⟨by rfl, ?_⟩) hH ?_
                · intro w5 hSw; obtain ⟨s0, s1, s2, s3, s4, s5, s6, s7, s8, s9, s10, s11⟩ := hSw; go_simp
                simp only [zA9, zB9, zC9]
                refine take_at (i := 9) (v := .int .i64 kd) rfl rfl (by kernel_rfl) (by kernel_rfl) (by kernel_rfl) (fun _ _ _ h => by cases h.1) (Or.inl ⟨by rfl, ?_⟩) hH ?_
                · intro w5 hSw; obtain ⟨s0, s1, s2, s3, s4, s5, s6, s7, s8, s9, s10, s11⟩ := hSw; go_simp
                simp only [zA9, zB9, zC9]
                refine take_at (i := 10) (v := .bool true) rfl rfl (by kernel_rfl) (by kernel_rfl) (by kernel_rfl) (fun _ _ _ h => by cases h.1) (Or.inl ⟨by rfl, ?_⟩) hH ?_
                · intro w5 hSw; obtain ⟨s0, s1, s2, s3, s4, s5, s6, s7, s8, s9, s10, s11⟩ := hSw; go_simp
                simp only [zA9, zB9, zC9]
                refine take_at (i := 11) (v := .bool true) rfl rfl (by kernel_rfl) (by kernel_rfl) (by kernel_rfl) (fun _ _ _ h => by cases h.1) (Or.inl ⟨by rfl, ?_⟩) hH ?_
                · intro w5 hSw; obtain ⟨s0, s1, s2, s3, s4, s5, s6, s7, s8, s9, s10, s11⟩ := hSw; go_simp
                simp only [zA9, zB9, zC9]
                refine take_at (i := 12) (v := .bool true) rfl rfl (by kernel_rfl) (by kernel_rfl) (by kernel_rfl) (fun _ _ _ h => by cases h.1) (Or.inl ⟨by rfl, ?_⟩) hH ?_
                · intro w5 hSw; obtain ⟨s0, s1, s2, s3, s4, s5, s6, s7, s8, s9, s10, s11⟩ := hSw; go_simp
                simp only [zA9, zB9, zC9]
                refine take_at (i := 13) (v := .pointer (some ⟨bt, 0, none⟩)) rfl rfl (by kernel_rfl) (by kernel_rfl) (by kernel_rfl) (fun _ _ _ h => by cases h.1) (Or.inl ⟨by rfl, ?_⟩) hH ?_
                · intro w5 hSw; obtain ⟨s0, s1, s2, s3, s4, s5, s6, s7, s8, s9, s10, s11⟩ := hSw; go_simp
                simp only [zA9, zB9, zC9]
                refine take_at (i := 14) (v := .pointer (some ⟨dd, 0, none⟩)) rfl rfl (by kernel_rfl) (by kernel_rfl) (by kernel_rfl) (fun _ _ _ h => by cases h.1) (Or.inl ⟨by rfl, ?_⟩) hH ?_
                · intro w5 hSw; obtain ⟨s0, s1, s2, s3, s4, s5, s6, s7, s8, s9, s10, s11⟩ := hSw; go_simp
                simp only [zA9, zB9, zC9]
                refine take_at (i := 15) (v := .slice (some ⟨gA, oA, none⟩) NW CW) rfl rfl (by kernel_rfl) (by kernel_rfl) (by kernel_rfl) (fun _ _ _ h => by cases h.1) (Or.inl ⟨by rfl, ?_⟩) hH ?_
                · intro w5 hSw; obtain ⟨s0, s1, s2, s3, s4, s5, s6, s7, s8, s9, s10, s11⟩ := hSw; go_simp
                simp only [zA9, zB9, zC9]
                refine take_at (i := 16) (v := .int .i64 (pre.length : Int)) rfl rfl (by kernel_rfl) (by kernel_rfl) (by kernel_rfl) (fun _ _ _ h => by cases h.1) (Or.inl ⟨by rfl, ?_⟩) hH ?_
                · intro w5 hSw; obtain ⟨s0, s1, s2, s3, s4, s5, s6, s7, s8, s9, s10, s11⟩ := hSw; go_simp
                simp only [zA9, zB9, zC9]
                refine take_at (i := 17) (v := .pointer (some ⟨gA, oA + pre.length * 8, none⟩)) rfl rfl (by kernel_rfl) (by kernel_rfl) (by kernel_rfl) (fun _ _ _ h => by cases h.1) (Or.inl ⟨by rfl, ?_⟩) hH ?_
                · intro w5 hSw; obtain ⟨s0, s1, s2, s3, s4, s5, s6, s7, s8, s9, s10, s11⟩ := hSw; go_simp
                simp only [zA9, zB9, zC9]
                refine take_at (i := 18) (v := .agg #[.int .i64 kd, .int .i64 stop, .slice q lk c, .int .u64 id, .slice P1 n1 C1, .slice P2 n2 C2, .bool li, .bool hi']) rfl rfl (by kernel_rfl) (by kernel_rfl) (by kernel_rfl) (fun _ _ _ h => by cases h.1) (Or.inl ⟨by rfl, ?_⟩) hH ?_
                · intro w5 hSw; obtain ⟨s0, s1, s2, s3, s4, s5, s6, s7, s8, s9, s10, s11⟩ := hSw; go_simp
                simp only [zA9, zB9, zC9]
                refine wpAnyH_ready (rs := [19]) (by kernel_rfl) (by simp) ?_
                refine AllReadyH.cons rfl (fun K hK => ?_) AllReadyH.nil
                go_simp
                go_at_call 10
                refine DB.out.mono ?_
                rintro e w5 ⟨rfl, hm, hcg⟩
                replace hcg := (Chg.refl _ W2).drew.trans hcg
                have HN : Hid (MdZ w0 bt dd Z w5 ∧ Chg (fun b => b = bt ∨ b = dd) W2 w5) := ⟨hm, hcg⟩
                replace hcg := mkHid hcg
                clear hm DB
                go_wp2_with fail
                refine hK.out _ _ (KS.out _ hcg.out) (fun hH => ?_)
                clear hK K
                refine take_at (i := 20) (v := .bool false) rfl rfl (by kernel_rfl) (by kernel_rfl) (by kernel_rfl) (fun _ _ _ h => by cases h.1) (Or.inl ⟨by rfl, ?_⟩) hH ?_
                · intro w5 hSw; obtain ⟨s0, s1, s2, s3, s4, s5, s6, s7, s8, s9, s10, s11⟩ := hSw; go_simp
                simp only [zA9, zB9, zC9]
                refine take_at (i := 21) (v := .bool false) rfl rfl (by kernel_rfl) (by kernel_rfl) (by kernel_rfl) (fun _ _ _ h => by cases h.1) (Or.inl ⟨by rfl, ?_⟩) hH ?_
                · intro w5 hSw; obtain ⟨s0, s1, s2, s3, s4, s5, s6, s7, s8, s9, s10, s11⟩ := hSw; go_simp
                simp only [zA9, zB9, zC9]
                refine wpAnyH_done (by kernel_rfl) ?_ _
                refine ⟨rfl, ?_⟩
                clear hH KS
                obtain ⟨kc, kf⟩ := KB.out _ HN.out.1 HN.out.2
                have EE := mkHid (END.out _ HN.out.1 HN.out.2)
                clear END KB
                gi_wp2_with fail
                exact EE.out _
              · clear DA
                refine take_at (i := 0) (v := .int .i64 (pre.length : Int)) rfl rfl (by kernel_rfl) (by kernel_rfl) (by kernel_rfl) (fun _ _ _ h => by cases h.1) (Or.inl ⟨by rfl, ?_⟩) hH ?_
                · intro w5 hSw; obtain ⟨s0, s1, s2, s3, s4, s5, s6, s7, s8, s9, s10, s11⟩ := hSw; go_simp
                simp only [zA9, zB9, zC9]
                refine take_at (i := 1) (v := .slice (some ⟨gA, oA, none⟩) NW CW) rfl rfl (by kernel_rfl) (by kernel_rfl) (by kernel_rfl) (fun _ _ _ h => by cases h.1) (Or.inl ⟨by rfl, ?_⟩) hH ?_
                · intro w5 hSw; obtain ⟨s0, s1, s2, s3, s4, s5, s6, s7, s8, s9, s10, s11⟩ := hSw; go_simp
                simp only [zA9, zB9, zC9]
                refine take_at (i := 2) (v := .int .i64 (NW : Int)) rfl rfl (by kernel_rfl) (by kernel_rfl) (by kernel_rfl) (fun _ _ _ h => by cases h.1) (Or.inl ⟨by rfl, ?_⟩) hH ?_
                · intro w5 hSw; obtain ⟨s0, s1, s2, s3, s4, s5, s6, s7, s8, s9, s10, s11⟩ := hSw; go_simp
                simp only [zA9, zB9, zC9]
                refine take_at (i := 3) (v := .bool true) rfl rfl (by kernel_rfl) (by kernel_rfl) (by kernel_rfl) (fun _ _ _ h => by cases h.1) (Or.inl ⟨by rfl, ?_⟩) hH ?_
                · intro w5 hSw; obtain ⟨s0, s1, s2, s3, s4, s5, s6, s7, s8, s9, s10, s11⟩ := hSw; go_simp
                simp only [zA9, zB9, zC9]
                refine take_at (i := 4) (v := .bool true) rfl rfl (by kernel_rfl) (by kernel_rfl) (by kernel_rfl) (fun _ _ _ h => by cases h.1) (Or.inl ⟨by rfl, ?_⟩) hH ?_
                · intro w5 hSw; obtain ⟨s0, s1, s2, s3, s4, s5, s6, s7, s8, s9, s10, s11⟩ := hSw; go_simp
                simp only [zA9, zB9, zC9]
                refine take_at (i := 5) (v := .slice (some ⟨gA, oA, none⟩) NW CW) rfl rfl (by kernel_rfl) (by kernel_rfl) (by kernel_rfl) (fun _ _ _ h => by cases h.1) (Or.inl ⟨by rfl, ?_⟩) hH ?_
                · intro w5 hSw; obtain ⟨s0, s1, s2, s3, s4, s5, s6, s7, s8, s9, s10, s11⟩ := hSw; go_simp
                simp only [zA9, zB9, zC9]
                refine take_at (i := 6) (v := .int .i64 (pre.length : Int)) rfl rfl (by kernel_rfl) (by kernel_rfl) (by kernel_rfl) (fun _ _ _ h => by cases h.1) (Or.inl ⟨by rfl, ?_⟩) hH ?_
                · intro w5 hSw; obtain ⟨s0, s1, s2, s3, s4, s5, s6, s7, s8, s9, s10, s11⟩ := hSw; go_simp
                simp only [zA9, zB9, zC9]
                refine take_at (i := 7) (v := .pointer (some ⟨gA, oA + pre.length * 8, none⟩)) rfl rfl (by kernel_rfl) (by kernel_rfl) (by kernel_rfl) (fun _ _ _ h => by cases h.1) (Or.inl ⟨by rfl, ?_⟩) hH ?_
                · intro w5 hSw; obtain ⟨s0, s1, s2, s3, s4, s5, s6, s7, s8, s9, s10, s11⟩ := hSw; go_simp
                simp only [zA9, zB9, zC9]
                refine take_at (i := 8) (v := .pointer (some ⟨gA, oA + pre.length * 8, none⟩)) rfl rfl (by kernel_rfl) (by kernel_rfl) (by kernel_rfl) (fun _ _ _ h => by cases h.1) (Or.inl ⟨by rfl, ?_⟩) hH ?_
                · intro w5 hSw; obtain ⟨s0, s1, s2, s3, s4, s5, s6, s7, s8, s9, s10, s11⟩ := hSw; go_simp
                simp only [zA9, zB9, zC9]
                refine take_at (i := 9) (v := .int .i64 kd) rfl rfl (by kernel_rfl) (by kernel_rfl) (by kernel_rfl) (fun _ _ _ h => by cases h.1) (Or.inl ⟨by rfl, ?_⟩) hH ?_
                · intro w5 hSw; obtain ⟨s0, s1, s2, s3, s4, s5, s6, s7, s8, s9, s10, s11⟩ := hSw; go_simp
                simp only [zA9, zB9, zC9]
                refine take_at (i := 10) (v := .bool false) rfl rfl (by kernel_rfl) (by kernel_rfl) (by kernel_rfl) (fun _ _ _ h => by cases h.1) (Or.inl ⟨by rfl, ?_⟩) hH ?_
                · intro w5 hSw; obtain ⟨s0, s1, s2, s3, s4, s5, s6, s7, s8, s9, s10, s11⟩ := hSw; go_simp
                simp only [zA9, zB9, zC9]
                refine take_at (i := 11) (v := .bool false) rfl rfl (by kernel_rfl) (by kernel_rfl) (by kernel_rfl) (fun _ _ _ h => by cases h.1) (Or.inl ⟨by rfl, ?_⟩) hH ?_
                · intro w5 hSw; obtain ⟨s0, s1, s2, s3, s4, s5, s6, s7, s8, s9, s10, s11⟩ := hSw; go_simp
                simp only [zA9, zB9, zC9]
                refine take_at (i := 12) (v := .bool false) rfl rfl (by kernel_rfl) (by kernel_rfl) (by kernel_rfl) (fun _ _ _ h => by cases h.1) (Or.inl ⟨by rfl, ?_⟩) hH ?_
                · intro w5 hSw; obtain ⟨s0, s1, s2, s3, s4, s5, s6, s7, s8, s9, s10, s11⟩ := hSw; go_simp
                simp only [zA9, zB9, zC9]
                refine take_at (i := 13) (v := undef) rfl rfl (by kernel_rfl) (by kernel_rfl) (by kernel_rfl) (fun _ _ _ h => by cases h.1) (Or.inr ⟨by rfl, rfl⟩) hH ?_
                simp only [zA9, zB9, zC9]
                refine take_at (i := 14) (v := undef) rfl rfl (by kernel_rfl) (by kernel_rfl) (by kernel_rfl) (fun _ _ _ h => by cases h.1) (Or.inr ⟨by rfl, rfl⟩) hH ?_
                simp only [zA9, zB9, zC9]
                refine take_at (i := 15) (v := undef) rfl rfl (by kernel_rfl) (by kernel_rfl) (by kernel_rfl) (fun _ _ _ h => by cases h.1) (Or.inr ⟨by rfl, rfl⟩) hH ?_
                simp only [zA9, zB9, zC9]
                refine take_at (i := 16) (v := undef) rfl rfl (by kernel_rfl) (by kernel_rfl) (by kernel_rfl) (fun _ _ _ h => by cases h.1) (Or.inr ⟨by rfl, rfl⟩) hH ?_
                simp only [zA9, zB9, zC9]
                refine take_at (i := 17) (v := undef) rfl rfl (by kernel_rfl) (by kernel_rfl) (by kernel_rfl) (fun _ _ _ h => by cases h.1) (Or.inr ⟨by rfl, rfl⟩) hH ?_
                simp only [zA9, zB9, zC9]
                refine take_at (i := 18) (v := undef) rfl rfl (by kernel_rfl) (by kernel_rfl) (by kernel_rfl) (fun _ _ _ h => by cases h.1) (Or.inr ⟨by rfl, rfl⟩) hH ?_
                simp only [zA9, zB9, zC9]
                refine take_at (i := 19) (v := undef) rfl rfl (by kernel_rfl) (by kernel_rfl) (by kernel_rfl) (fun _ _ _ h => by cases h.1) (Or.inr ⟨by rfl, rfl⟩) hH ?_
                simp only [zA9, zB9, zC9]
                refine take_at (i := 20) (v := undef) rfl rfl (by kernel_rfl) (by kernel_rfl) (by kernel_rfl) (fun _ _ _ h => by cases h.1) (Or.inr ⟨by rfl, rfl⟩) hH ?_
                simp only [zA9, zB9, zC9]
                refine take_at (i := 21) (v := .bool false) rfl rfl (by kernel_rfl) (by kernel_rfl) (by kernel_rfl) (fun _ _ _ h => by cases h.1) (Or.inl ⟨by rfl, ?_⟩) hH ?_
                · intro w5 hSw; obtain ⟨s0, s1, s2, s3, s4, s5, s6, s7, s8, s9, s10, s11⟩ := hSw; go_simp
                simp only [zA9, zB9, zC9]
                refine wpAnyH_done (by kernel_rfl) ?_ _
                refine ⟨rfl, ?_⟩
                clear hH KS
                obtain ⟨kc, kf⟩ := KB.out _ M1D.out (Chg.refl _ _).drew
                have EE := mkHid (END.out _ M1D.out (Chg.refl _ _).drew)
                clear END KB
                gi_wp2_with fail
                exact EE.out _
            · have KS : Hid (∀ W, Chg (fun b => b = bt ∨ b = dd) W2 W → (fun w' : World => w'.cell? ⟨w.heap.size, 0, none⟩ = some (.slice PW NW CW) ∧ w'.cell? ⟨kb, 0, none⟩ = some (.int .i64 (pre.length : Int))) W) := fun W hW => by
                have o := ORL.out
                exact ⟨chg_cell hW (by omega) o1, chg_cell hW (by omega) k0⟩
              have i3 : ¬ ((pre.length : Int) < (NW : Int)) := by omega
              clear o1 o3 o4 k0
              refine region_round (S := fun w' : World => w'.cell? ⟨w.heap.size, 0, none⟩ = some (.slice PW NW CW) ∧ w'.cell? ⟨kb, 0, none⟩ = some (.int .i64 (pre.length : Int))) (by kernel_rfl) (by kernel_rfl) (KS.out _ (Chg.refl _ _).drew) (fun hH => ?_)
              refine take_at (i := 0) (v := .int .i64 (pre.length : Int)) rfl rfl (by kernel_rfl) (by kernel_rfl) (by kernel_rfl) (fun _ _ _ h => by cases h.1) (Or.inl ⟨by rfl, ?_⟩) hH ?_
              · intro w5 hSw; obtain ⟨s0, s1⟩ := hSw; go_simp
              simp only [zA9, zB9, zC9]
              refine take_at (i := 1) (v := .slice PW NW CW) rfl rfl (by kernel_rfl) (by kernel_rfl) (by kernel_rfl) (fun _ _ _ h => by cases h.1) (Or.inl ⟨by rfl, ?_⟩) hH ?_
              · intro w5 hSw; obtain ⟨s0, s1⟩ := hSw; go_simp
              simp only [zA9, zB9, zC9]
              refine take_at (i := 2) (v := .int .i64 (NW : Int)) rfl rfl (by kernel_rfl) (by kernel_rfl) (by kernel_rfl) (fun _ _ _ h => by cases h.1) (Or.inl ⟨by rfl, ?_⟩) hH ?_
              · intro w5 hSw; obtain ⟨s0, s1⟩ := hSw; go_simp
              simp only [zA9, zB9, zC9]
              refine take_at (i := 3) (v := .bool false) rfl rfl (by kernel_rfl) (by kernel_rfl) (by kernel_rfl) (fun _ _ _ h => by cases h.1) (Or.inl ⟨by rfl, ?_⟩) hH ?_
              · intro w5 hSw; obtain ⟨s0, s1⟩ := hSw; go_simp
              simp only [zA9, zB9, zC9]
              refine take_at (i := 4) (v := .bool false) rfl rfl (by kernel_rfl) (by kernel_rfl) (by kernel_rfl) (fun _ _ _ h => by cases h.1) (Or.inl ⟨by rfl, ?_⟩) hH ?_
              · intro w5 hSw; obtain ⟨s0, s1⟩ := hSw; go_simp
              simp only [zA9, zB9, zC9]
              refine take_at (i := 5) (v := undef) rfl rfl (by kernel_rfl) (by kernel_rfl) (by kernel_rfl) (fun _ _ _ h => by cases h.1) (Or.inr ⟨by rfl, rfl⟩) hH ?_
              simp only [zA9, zB9, zC9]
              refine take_at (i := 6) (v := undef) rfl rfl (by kernel_rfl) (by kernel_rfl) (by kernel_rfl) (fun _ _ _ h => by cases h.1) (Or.inr ⟨by rfl, rfl⟩) hH ?_
              simp only [zA9, zB9, zC9]
              refine take_at (i := 7) (v := undef) rfl rfl (by kernel_rfl) (by kernel_rfl) (by kernel_rfl) (fun _ _ _ h => by cases h.1) (Or.inr ⟨by rfl, rfl⟩) hH ?_
              simp only [zA9, zB9, zC9]
              refine take_at (i := 8) (v := undef) rfl rfl (by kernel_rfl) (by kernel_rfl) (by kernel_rfl) (fun _ _ _ h => by cases h.1) (Or.inr ⟨by rfl, rfl⟩) hH ?_
              simp only [zA9, zB9, zC9]
              refine take_at (i := 9) (v := undef) rfl rfl (by kernel_rfl) (by kernel_rfl) (by kernel_rfl) (fun _ _ _ h => by cases h.1) (Or.inr ⟨by rfl, rfl⟩) hH ?_
              simp only [zA9, zB9, zC9]
              refine take_at (i := 10) (v := undef) rfl rfl (by kernel_rfl) (by kernel_rfl) (by kernel_rfl) (fun _ _ _ h => by cases h.1) (Or.inr ⟨by rfl, rfl⟩) hH ?_
              simp only [zA9, zB9, zC9]
              refine take_at (i := 11) (v := .bool false) rfl rfl (by kernel_rfl) (by kernel_rfl) (by kernel_rfl) (fun _ _ _ h => by cases h.1) (Or.inl ⟨by rfl, ?_⟩) hH ?_
              · intro w5 hSw; obtain ⟨s0, s1⟩ := hSw; go_simp
              simp only [zA9, zB9, zC9]
              refine take_at (i := 12) (v := .bool false) rfl rfl (by kernel_rfl) (by kernel_rfl) (by kernel_rfl) (fun _ _ _ h => by cases h.1) (Or.inl ⟨by rfl, ?_⟩) hH ?_
              · intro w5 hSw; obtain ⟨s0, s1⟩ := hSw; go_simp
              simp only [zA9, zB9, zC9]
              refine take_at (i := 13) (v := undef) rfl rfl (by kernel_rfl) (by kernel_rfl) (by kernel_rfl) (fun _ _ _ h => by cases h.1) (Or.inr ⟨by rfl, rfl⟩) hH ?_
              simp only [zA9, zB9, zC9]
              refine take_at (i := 14) (v := undef) rfl rfl (by kernel_rfl) (by kernel_rfl) (by kernel_rfl) (fun _ _ _ h => by cases h.1) (Or.inr ⟨by rfl, rfl⟩) hH ?_
              simp only [zA9, zB9, zC9]
              refine take_at (i := 15) (v := undef) rfl rfl (by kernel_rfl) (by kernel_rfl) (by kernel_rfl) (fun _ _ _ h => by cases h.1) (Or.inr ⟨by rfl, rfl⟩) hH ?_
              simp only [zA9, zB9, zC9]
              refine take_at (i := 16) (v := undef) rfl rfl (by kernel_rfl) (by kernel_rfl) (by kernel_rfl) (fun _ _ _ h => by cases h.1) (Or.inr ⟨by rfl, rfl⟩) hH ?_
              simp only [zA9, zB9, zC9]
              refine take_at (i := 17) (v := undef) rfl rfl (by kernel_rfl) (by kernel_rfl) (by kernel_rfl) (fun _ _ _ h => by cases h.1) (Or.inr ⟨by rfl, rfl⟩) hH ?_
              simp only [zA9, zB9, zC9]
              refine take_at (i := 18) (v := undef) rfl rfl (by kernel_rfl) (by kernel_rfl) (by kernel_rfl) (fun _ _ _ h => by cases h.1) (Or.inr ⟨by rfl, rfl⟩) hH ?_
              simp only [zA9, zB9, zC9]
              refine take_at (i := 19) (v := undef) rfl rfl (by kernel_rfl) (by kernel_rfl) (by kernel_rfl) (fun _ _ _ h => by cases h.1) (Or.inr ⟨by rfl, rfl⟩) hH ?_
              simp only [zA9, zB9, zC9]
              refine take_at (i := 20) (v := undef) rfl rfl (by kernel_rfl) (by kernel_rfl) (by kernel_rfl) (fun _ _ _ h => by cases h.1) (Or.inr ⟨by rfl, rfl⟩) hH ?_
              simp only [zA9, zB9, zC9]
              refine take_at (i := 21) (v := .bool false) rfl rfl (by kernel_rfl) (by kernel_rfl) (by kernel_rfl) (fun _ _ _ h => by cases h.1) (Or.inl ⟨by rfl, ?_⟩) hH ?_
              · intro w5 hSw; obtain ⟨s0, s1⟩ := hSw; go_simp
              simp only [zA9, zB9, zC9]
              refine wpAnyH_done (by kernel_rfl) ?_ _
              refine ⟨rfl, ?_⟩
              clear hH KS
              obtain ⟨kc, kf⟩ := KB.out _ M1D.out (Chg.refl _ _).drew
              have EE := mkHid (END.out _ M1D.out (Chg.refl _ _).drew)
              clear END KB
              gi_wp2_with fail
              exact EE.out _
          · have hR : (rowsV x.1.e.key dm.e.key != 0) = true := by rw [bne_iff_ne]; exact e2
            have E2 := mkHid e2
            clear e2
            gi_wp2_with fail
            refine ⟨trivial, rfl, (CallsIn.inRound lr (callsIn_wide.2 RW.out)).mono ?_⟩
            rintro en W1 ⟨rfl, bW⟩
            have BD := mkHid (fun v => BAD.out v W1 bW (fun h => E2.out h.2.1))
            have r1 : W1.cell? ⟨w.heap.size + 1, 0, none⟩ = some (.bool false) := (bW.cell (p := ⟨w.heap.size + 1, 0, none⟩) (World.block_lt_of_cell? _ _ r0)).trans r0
            have rf1 : W1.frozen? ⟨w.heap.size + 1, 0, none⟩ = false := unfrozen_of_block ((bW.block _ (lt_of_heap o2)).trans o2) 0
            clear bW c0 c1
            gi_wp2_with fail
            exact BD.out _
        · have hne : (x.1.e.id != dm.e.id) = true := by rw [bne_iff_ne]; exact e1
          have E1 := mkHid e1
          clear e1
          have BD := mkHid (fun v => BAD.out v A (Below.refl _ _) (fun h => E1.out h.1))
          gi_wp2_with fail
          first
            | exact BD.out _
            | (refine ⟨trivial, ?_⟩
               gi_wp2_with fail
               exact BD.out _)
      case stop =>
        rintro D9 c pre A hD9 ⟨rest, hpre⟩ ⟨rfl, pre0, x, d, rfl, hd, hna⟩ hK
        exact absurd (GsX.not_ret hpre hd AG.out) hna
      case done =>
        rintro D9 ys A hD9 hS hi hK
        have hl : ys.length = ND := by have := congrArg List.length hS; simp [hdE_] at this; rw [this]; exact HTL.out
        rw [hl] at hi
        obtain ⟨o1, o2, o3, o4, o5⟩ := OB.out A hi.kp
        obtain ⟨L2, D2, hp⟩ := hi.md.mid.pr
        obtain ⟨PE, CE, hd⟩ := hp.dc
        obtain ⟨NE, hNE⟩ : ∃ N, N = D2.length := ⟨_, rfl⟩
        rw [← hNE] at hd
        have HP := mkHid hp
        have HNE := mkHid hNE
        have HD := mkHid hd
        have m0 : A.cell? ⟨nb, 0, none⟩ = some (.int .i64 (ND : Int)) := (cell_of_block hi.n 0).trans rfl
        have dc1 : A.cell? ⟨dd, 1, none⟩ = some (.slice PE NE CE) := (cell_of_block hd.box 1).trans rfl
        have R2 := mkHid o2
        have HK := mkHid hK
        have BA : Hid (Below w0.heap.size w0 A) := hi.md.bl
        have SZ := mkHid hD9
        have LT : Hid (bt < A.heap.size ∧ dd < A.heap.size ∧ bt < dd ∧ w0.heap.size ≤ bt ∧ w.heap.size + 1 + 1 = w0.heap.size ∧ D9 < A.heap.size ∧ dd + 1 + 1 < ws ∧ ws < w6.heap.size ∧ w6.heap.size ≤ D9) := by
          have o := ORW.out
          have l := hi.md.lt
          exact ⟨l.1, l.2, by omega, by omega, by omega, lt_of_heap hK, by omega, by omega, hD9⟩
        have KS : Hid (∀ W, Below A.heap.size A W → (fun w' : World => w'.cell? ⟨nb, 0, none⟩ = some (.int .i64 (ND : Int)) ∧ w'.cell? ⟨ws, 0, none⟩ = some (.slice PD ND CD) ∧ w'.cell? ⟨dd + 1, 0, none⟩ = some (.pointer (some ⟨bt, 0, none⟩)) ∧ w'.cell? ⟨dd + 1 + 1, 0, none⟩ = some (.pointer (some ⟨dd, 0, none⟩)) ∧ w'.cell? ⟨dd, 1, none⟩ = some (.slice PE NE CE)) W) := fun W hW => by
          have q : ∀ {p : Addr} {u : Value}, A.cell? p = some u → W.cell? p = some u := fun h => (hW.cell (World.block_lt_of_cell? _ _ h)).trans h
          exact ⟨q m0, q o5, q o3, q o4, q dc1⟩
        have T5 : Hid (∀ W, Chg (fun b => b = bt ∨ b = dd) A W → W.cell? ⟨dd + 1, 0, none⟩ = some (.pointer (some ⟨bt, 0, none⟩)) ∧ W.cell? ⟨dd + 1 + 1, 0, none⟩ = some (.pointer (some ⟨dd, 0, none⟩)) ∧ W.heap[w.heap.size + 1]? = some (.cells #[.bool false] 4 (0, 0)) ∧ W.heap[D9]? = some (.deferred (some []))) := fun W hW => by
          have l := LT.out
          exact ⟨chg_cell hW (by omega) o3, chg_cell hW (by omega) o4, hW.at_ R2.out (by omega), hW.at_ HK.out (by omega)⟩
        have GO : Hid (Calls Tryz.prog 13 #[.pointer (some ⟨bt, 0, none⟩), .agg #[.slice none 0 0, .slice none 0 0, .bool false, .bool false], .bool false, .slice PE NE CE, .int .i64 0] A.drew fun e w' => e = .returned (.bool true) ∧ Below A.heap.size A w') := by
          have hpd := HP.out.below (Below.refl _ A).drew
          have hdd := HD.out.below (Below.refl _ A).drew
          rw [HNE.out] at hdd ⊢
          have := pr_goes hpd false none none 0 0 [] [] false false D2 PE CE 0 (Or.inl rfl) (Or.inl rfl) (by simp) (by simp) (by simp) (by simp) hdd.row (fun q h => h) (Nat.le_refl _) (by rw [btw_nil]; exact hpd.ag)
          exact this.mono (fun e w' h => ⟨h.1, (Below.refl _ A).drew.trans h.2⟩)
        clear hi hS hl OB EN AG HTL hp hd hNE o1 o2 o3 o4 o5 m0 dc1 hK SQ i0 AW DO hD9
        go_wp2_with fail
        refine wp_region_noPanic ?_
        refine wp_region_held_drew (S := fun w' : World => w'.cell? ⟨nb, 0, none⟩ = some (.int .i64 (ND : Int)) ∧ w'.cell? ⟨ws, 0, none⟩ = some (.slice PD ND CD) ∧ w'.cell? ⟨dd + 1, 0, none⟩ = some (.pointer (some ⟨bt, 0, none⟩)) ∧ w'.cell? ⟨dd + 1 + 1, 0, none⟩ = some (.pointer (some ⟨dd, 0, none⟩)) ∧ w'.cell? ⟨dd, 1, none⟩ = some (.slice PE NE CE)) (by kernel_rfl) (KS.out _ (Below.refl _ _).drew) (fun hH => ?_)
        refine tKx (i := 0) (v := .int .i64 (ND : Int)) rfl rfl (by kernel_rfl) (fun _ _ _ h => h) ?_ hH ?_
        · intro w5 hSw; obtain ⟨s0, s1, s2, s3, s4⟩ := hSw; go_simp
        simp only [zA9, zB9, zC9]
        refine tKx (i := 1) (v := .slice PD ND CD) rfl rfl (by kernel_rfl) (fun _ _ _ h => h) ?_ hH ?_
        · intro w5 hSw; obtain ⟨s0, s1, s2, s3, s4⟩ := hSw; go_simp
        simp only [zA9, zB9, zC9]
        refine tKx (i := 2) (v := .int .i64 (ND : Int)) rfl rfl (by kernel_rfl) (fun _ _ _ h => h) ?_ hH ?_
        · intro w5 hSw; obtain ⟨s0, s1, s2, s3, s4⟩ := hSw; go_simp
        simp only [zA9, zB9, zC9]
        refine tKx (i := 3) (v := .bool false) rfl rfl (by kernel_rfl) (fun _ _ _ h => h) ?_ hH ?_
        · intro w5 hSw; obtain ⟨s0, s1, s2, s3, s4⟩ := hSw; go_simp
        simp only [zA9, zB9, zC9]
        refine tKx (i := 4) (v := .bool false) rfl rfl (by kernel_rfl) (fun _ _ _ h => h) ?_ hH ?_
        · intro w5 hSw; obtain ⟨s0, s1, s2, s3, s4⟩ := hSw; go_simp
        simp only [zA9, zB9, zC9]
        refine tKx (i := 5) (v := .pointer (some ⟨bt, 0, none⟩)) rfl rfl (by kernel_rfl) (fun _ _ _ h => h) ?_ hH ?_
        · intro w5 hSw; obtain ⟨s0, s1, s2, s3, s4⟩ := hSw; go_simp
        simp only [zA9, zB9, zC9]
        refine tKx (i := 6) (v := .agg #[.slice none 0 0, .slice none 0 0, .bool false, .bool false]) rfl rfl (by kernel_rfl) (fun _ _ _ h => h) ?_ hH ?_
        · intro w5 hSw; obtain ⟨s0, s1, s2, s3, s4⟩ := hSw; go_simp
        simp only [zA9, zB9, zC9]
        refine tKx (i := 7) (v := .pointer (some ⟨dd, 0, none⟩)) rfl rfl (by kernel_rfl) (fun _ _ _ h => h) ?_ hH ?_
        · intro w5 hSw; obtain ⟨s0, s1, s2, s3, s4⟩ := hSw; go_simp
        simp only [zA9, zB9, zC9]
        refine tKx (i := 8) (v := .pointer (some ⟨dd, 0, none⟩)) rfl rfl (by kernel_rfl) (fun _ _ _ h => h) ?_ hH ?_
        · intro w5 hSw; obtain ⟨s0, s1, s2, s3, s4⟩ := hSw; go_simp
        simp only [zA9, zB9, zC9]
        refine tKx (i := 9) (v := .pointer (some ⟨dd, 1, none⟩)) rfl rfl (by kernel_rfl) (fun _ _ _ h => h) ?_ hH ?_
        · intro w5 hSw; obtain ⟨s0, s1, s2, s3, s4⟩ := hSw; go_simp
        simp only [zA9, zB9, zC9]
        refine tKx (i := 10) (v := .slice PE NE CE) rfl rfl (by kernel_rfl) (fun _ _ _ h => h) ?_ hH ?_
        · intro w5 hSw; obtain ⟨s0, s1, s2, s3, s4⟩ := hSw; go_simp
        simp only [zA9, zB9, zC9]
        refine wpAnyH_ready (rs := [11]) (by kernel_rfl) (by simp) ?_
        refine AllReadyH.cons rfl (fun K hK => ?_) AllReadyH.nil
        go_simp
        go_at_call 13
        refine GO.out.mono ?_
        rintro e A1 ⟨rfl, bA1⟩
        have B1A := mkHid bA1
        clear bA1
        go_wp2_with fail
        refine hK.out _ _ (KS.out _ B1A.out) (fun hH => ?_)
        clear hK K
        refine tKx (i := 12) (v := .bool false) rfl rfl (by kernel_rfl) (fun _ _ _ h => h) ?_ hH ?_
        · intro w5 hSw; obtain ⟨s0, s1, s2, s3, s4⟩ := hSw; go_simp
        simp only [zA9, zB9, zC9]
        refine tKx (i := 13) (v := .bool false) rfl rfl (by kernel_rfl) (fun _ _ _ h => h) ?_ hH ?_
        · intro w5 hSw; obtain ⟨s0, s1, s2, s3, s4⟩ := hSw; go_simp
        simp only [zA9, zB9, zC9]
        refine wpAnyH_done (by kernel_rfl) ?_ _
        refine NoPanic.normal ?_
        clear hH KS GO
        have t5a : ∀ o, (A1.alloc o).cell? ⟨dd + 1, 0, none⟩ = some (.pointer (some ⟨bt, 0, none⟩)) := fun o => (T5.out _ ((chg_bl B1A.out).trans (chg_bl ((Below.refl _ A1).alloc (Nat.le_refl _) o)))).1
        have BFA : Hid (Below w.heap.size w A) := BB.out.trans (BA.out.mono BB.out.size)
        go_wp2_with fail
        obtain ⟨A2, hA2⟩ : ∃ A2, A2 = A1.alloc (.cells #[.int .i64 3, .int .i64 0, .string ⟨#[110, 101, 119]⟩, .int .i64 0, .int .i64 0, .string ⟨#[]⟩] 40) := ⟨_, rfl⟩
        rw [← hA2]
        obtain ⟨kx, hkx⟩ : ∃ kx : List Va, kx = [⟨3, 0, ⟨#[110, 101, 119]⟩⟩, zeV] := ⟨_, rfl⟩
        have row : rowAt A2 (some ⟨A1.heap.size, 0, none⟩) kx := by
          rw [hA2, hkx]
          exact Or.inr ⟨_, rfl, valsAt.mk (by simp) (fun j u hj => (cell_of_block (heap_alloc_new _ _) j).trans (by rw [← hj]; simp [fl, vaE, zeV]))⟩
        have b12 : Below A.heap.size A A2 := by rw [hA2]; exact B1A.out.trans (((Below.refl _ A1).alloc (Nat.le_refl _) _).mono B1A.out.size)
        have NY : Hid (Calls Tryz.prog 8 #[.pointer (some ⟨bt, 0, none⟩), .slice (some ⟨A1.heap.size, 0, none⟩) 2 2, .int .u64 9] A2 (NewQ (fun b => w0.heap.size ≤ b ∧ b ≠ bt ∧ b ≠ dd) bt dd L2 D2 kx 2 9 A2)) :=
          new_any _ bt dd L2 D2 kx 2 (by rw [hkx]; rfl) 9 _ 2 A2 (HP.out.below b12) (fun b hb => by have l := LT.out; have := b12.size; exact ⟨by have := BA.out.size; omega, by omega, by omega⟩) (fun e => e.2.1 rfl) (fun e => e.2.2 rfl) row (fun v hv => by rw [hkx] at hv; simp at hv; rcases hv with rfl | rfl <;> exact (⟨by decide, by decide⟩ : fit 0)) (fun v hv => by rw [hkx] at hv; simp at hv; rcases hv with rfl | rfl <;> decide) (by rw [hkx]; simp) (TB0.out.below (BA.out.trans (b12.mono BA.out.size)))
        have C2 : Hid (Chg (fun b => b = bt ∨ b = dd) A A2) := chg_bl b12
        have ROW : Hid (∀ W, Chg (fun b => b = bt ∨ b = dd) A2 W → rowAt W (some ⟨A1.heap.size, 0, none⟩) kx) := fun W hW => row_chg row hW (fun g e _ hS => by cases e; have l := LT.out; have := B1A.out.size; omega)
        clear row b12 hA2 hkx t5a
        refine NY.out.mono ?_
        rintro e A3 (⟨x, hx, rfl, b3, hp, DP⟩ | ⟨rfl, c3, DR⟩)
        · skip
          have C23 : Hid (Chg (fun b => b = bt ∨ b = dd) A2 A3) := chg_bl b3
          have PP := mkHid hp
          replace DP := mkHid DP
          clear hp b3 NY
          have t6 := (T5.out _ (C2.out.trans C23.out)).2.1
          go_wp2_with fail
          refine (DP.out A3 (Below.refl _ _) _ _ (ROW.out _ C23.out)).mono ?_
          rintro e A4 ⟨rfl, b4⟩
          have CWA4 : Hid (Chg (fun b => b = bt ∨ b = dd) A A4) := (C2.out.trans C23.out).trans (chg_bl b4)
          have hp := PP.out.below b4
          obtain ⟨D3, hD3⟩ : ∃ D3, D3 = D2 := ⟨_, rfl⟩
          rw [← hD3] at hp
          clear DP b4 t6 hD3
          obtain ⟨PF, CF, hd⟩ := hp.dc
          obtain ⟨NF, hNF⟩ : ∃ N, N = D3.length := ⟨_, rfl⟩
          rw [← hNF] at hd
          have hcf : A4.cell? ⟨dd, 1, none⟩ = some (.slice PF NF CF) := (cell_of_block hd.box 1).trans rfl
          have KS : Hid (∀ W, Below A4.heap.size A4 W → (fun w' : World => w'.cell? ⟨dd + 1, 0, none⟩ = some (.pointer (some ⟨bt, 0, none⟩)) ∧ w'.cell? ⟨dd + 1 + 1, 0, none⟩ = some (.pointer (some ⟨dd, 0, none⟩)) ∧ w'.cell? ⟨dd, 1, none⟩ = some (.slice PF NF CF)) W) := fun W hW => by
            have q : ∀ {p : Addr} {u : Value}, A4.cell? p = some u → W.cell? p = some u := fun h => (hW.cell (World.block_lt_of_cell? _ _ h)).trans h
            obtain ⟨q1, q2, _⟩ := T5.out _ CWA4.out
            exact ⟨q q1, q q2, q hcf⟩
          have GO : Hid (Calls Tryz.prog 13 #[.pointer (some ⟨bt, 0, none⟩), .agg #[.slice none 0 0, .slice none 0 0, .bool false, .bool false], .bool true, .slice PF NF CF, .int .i64 0] A4.drew fun e w' => e = .returned (.bool true) ∧ Below A4.heap.size A4 w') := by
            have hpd := hp.below (Below.refl _ A4).drew
            have hdd := hd.below (Below.refl _ A4).drew
            rw [hNF] at hdd ⊢
            have := pr_goes hpd true none none 0 0 [] [] false false D3 PF CF 0 (Or.inl rfl) (Or.inl rfl) (by simp) (by simp) (by simp) (by simp) hdd.row (fun q h => h) (Nat.le_refl _) (by rw [btw_nil]; exact hpd.ag)
            exact this.mono (fun e w' h => ⟨h.1, (Below.refl _ A4).drew.trans h.2⟩)
          have EN : Hid (∀ W, Below A4.heap.size A4 W → Calls Tryz.prog 11 #[.pointer (some ⟨bt, 0, none⟩), .pointer (some ⟨dd, 0, none⟩)] W fun e w' => e = .returned (.bool true) ∧ Below W.heap.size W w') := fun W hW => pr_ends (hp.below hW)
          clear hp hd hNF hcf
          go_wp2_with fail
          refine wp_region_noPanic ?_
          refine wp_region_held_drew (S := fun w' : World => w'.cell? ⟨dd + 1, 0, none⟩ = some (.pointer (some ⟨bt, 0, none⟩)) ∧ w'.cell? ⟨dd + 1 + 1, 0, none⟩ = some (.pointer (some ⟨dd, 0, none⟩)) ∧ w'.cell? ⟨dd, 1, none⟩ = some (.slice PF NF CF)) (by kernel_rfl) (KS.out _ (Below.refl _ _).drew) (fun hH => ?_)
          refine tKx (i := 0) (v := .int .i64 x) rfl rfl (by kernel_rfl) (fun _ _ _ h => h) ?_ hH ?_
          · intro w5 hSw; obtain ⟨s0, s1, s2⟩ := hSw; go_simp
          simp only [zA9, zB9, zC9]
          refine tKx (i := 1) (v := .int .i64 x) rfl rfl (by kernel_rfl) (fun _ _ _ h => h) ?_ hH ?_
          · intro w5 hSw; obtain ⟨s0, s1, s2⟩ := hSw; go_simp
          simp only [zA9, zB9, zC9]
          refine tKx (i := 2) (v := .bool true) rfl rfl (by kernel_rfl) (fun _ _ _ h => h) ?_ hH ?_
          · intro w5 hSw; obtain ⟨s0, s1, s2⟩ := hSw; go_simp
          simp only [zA9, zB9, zC9]
          refine tKx (i := 3) (v := .bool true) rfl rfl (by kernel_rfl) (fun _ _ _ h => h) ?_ hH ?_
          · intro w5 hSw; obtain ⟨s0, s1, s2⟩ := hSw; go_simp
          simp only [zA9, zB9, zC9]
          refine tKx (i := 4) (v := .pointer (some ⟨bt, 0, none⟩)) rfl rfl (by kernel_rfl) (fun _ _ _ h => h) ?_ hH ?_
          · intro w5 hSw; obtain ⟨s0, s1, s2⟩ := hSw; go_simp
          simp only [zA9, zB9, zC9]
          refine tKx (i := 5) (v := .agg #[.slice none 0 0, .slice none 0 0, .bool false, .bool false]) rfl rfl (by kernel_rfl) (fun _ _ _ h => h) ?_ hH ?_
          · intro w5 hSw; obtain ⟨s0, s1, s2⟩ := hSw; go_simp
          simp only [zA9, zB9, zC9]
          refine tKx (i := 6) (v := .pointer (some ⟨dd, 0, none⟩)) rfl rfl (by kernel_rfl) (fun _ _ _ h => h) ?_ hH ?_
          · intro w5 hSw; obtain ⟨s0, s1, s2⟩ := hSw; go_simp
          simp only [zA9, zB9, zC9]
          refine tKx (i := 7) (v := .pointer (some ⟨dd, 0, none⟩)) rfl rfl (by kernel_rfl) (fun _ _ _ h => h) ?_ hH ?_
          · intro w5 hSw; obtain ⟨s0, s1, s2⟩ := hSw; go_simp
          simp only [zA9, zB9, zC9]
          refine tKx (i := 8) (v := .pointer (some ⟨dd, 1, none⟩)) rfl rfl (by kernel_rfl) (fun _ _ _ h => h) ?_ hH ?_
          · intro w5 hSw; obtain ⟨s0, s1, s2⟩ := hSw; go_simp
          simp only [zA9, zB9, zC9]
          refine tKx (i := 9) (v := .slice PF NF CF) rfl rfl (by kernel_rfl) (fun _ _ _ h => h) ?_ hH ?_
          · intro w5 hSw; obtain ⟨s0, s1, s2⟩ := hSw; go_simp
          simp only [zA9, zB9, zC9]
          refine wpAnyH_ready (rs := [10]) (by kernel_rfl) (by simp) ?_
          refine AllReadyH.cons rfl (fun K hK => ?_) AllReadyH.nil
          go_simp
          go_at_call 13
          refine GO.out.mono ?_
          rintro e V1 ⟨rfl, bV1⟩
          have BV1 := mkHid bV1
          clear bV1 GO
          go_wp2_with fail
          refine hK.out _ _ (KS.out _ BV1.out) (fun hH => ?_)
          clear hK K
          refine tKx (i := 11) (v := .bool true) rfl rfl (by kernel_rfl) (fun _ _ _ h => h) ?_ hH ?_
          · intro w5 hSw; obtain ⟨s0, s1, s2⟩ := hSw; go_simp
          simp only [zA9, zB9, zC9]
          refine tKx (i := 12) (v := .bool true) rfl rfl (by kernel_rfl) (fun _ _ _ h => h) ?_ hH ?_
          · intro w5 hSw; obtain ⟨s0, s1, s2⟩ := hSw; go_simp
          simp only [zA9, zB9, zC9]
          refine tKx (i := 13) (v := .pointer (some ⟨bt, 0, none⟩)) rfl rfl (by kernel_rfl) (fun _ _ _ h => h) ?_ hH ?_
          · intro w5 hSw; obtain ⟨s0, s1, s2⟩ := hSw; go_simp
          simp only [zA9, zB9, zC9]
          refine tKx (i := 14) (v := .pointer (some ⟨dd, 0, none⟩)) rfl rfl (by kernel_rfl) (fun _ _ _ h => h) ?_ hH ?_
          · intro w5 hSw; obtain ⟨s0, s1, s2⟩ := hSw; go_simp
          simp only [zA9, zB9, zC9]
          refine wpAnyH_ready (rs := [15]) (by kernel_rfl) (by simp) ?_
          refine AllReadyH.cons rfl (fun K hK => ?_) AllReadyH.nil
          go_simp
          go_at_call 11
          refine (EN.out _ BV1.out).mono ?_
          rintro e Wz ⟨rfl, bV2⟩
          have BWz : Hid (Below A4.heap.size A4 Wz) := BV1.out.trans (bV2.mono BV1.out.size)
          clear bV2 EN BV1
          go_wp2_with fail
          refine hK.out _ _ (KS.out _ BWz.out) (fun hH => ?_)
          clear hK K
          refine tKx (i := 16) (v := .bool true) rfl rfl (by kernel_rfl) (fun _ _ _ h => h) ?_ hH ?_
          · intro w5 hSw; obtain ⟨s0, s1, s2⟩ := hSw; go_simp
          simp only [zA9, zB9, zC9]
          obtain ⟨_, _, rz, kz⟩ := T5.out _ (CWA4.out.trans (chg_bl BWz.out))
          have rz0 : Wz.cell? ⟨w.heap.size + 1, 0, none⟩ = some (.bool false) := (cell_of_block rz 0).trans rfl
          have rzf : Wz.frozen? ⟨w.heap.size + 1, 0, none⟩ = false := unfrozen_of_block rz 0
          have SZZ : Hid (∀ W, W = Wz.setCell ⟨w.heap.size + 1, 0, none⟩ (.bool true) → (fun w' : World => w'.cell? ⟨dd + 1, 0, none⟩ = some (.pointer (some ⟨bt, 0, none⟩)) ∧ w'.cell? ⟨dd + 1 + 1, 0, none⟩ = some (.pointer (some ⟨dd, 0, none⟩)) ∧ w'.cell? ⟨dd, 1, none⟩ = some (.slice PF NF CF)) W) := fun W hW => by subst hW; have l := LT.out; obtain ⟨q1, q2, q3⟩ := KS.out _ BWz.out; exact ⟨(World.cell?_setCell_other _ _ _ _ (by first | (simp; done) | (simp; omega))).trans q1, (World.cell?_setCell_other _ _ _ _ (by first | (simp; done) | (simp; omega))).trans q2, (World.cell?_setCell_other _ _ _ _ (by first | (simp; done) | (simp; omega))).trans q3⟩
          have KZ := mkHid kz
          have RZ := mkHid rz0
          have BZ : Hid (Below w.heap.size w Wz) := BFA.out.trans ((CWA4.out.trans (chg_bl BWz.out)).below BFA.out.size (fun b hb => by have l := LT.out; omega))
          refine wpAnyH_ready (rs := [17]) (by kernel_rfl) (by simp) ?_
          refine AllReadyH.cons rfl (fun K hK => ?_) AllReadyH.nil
          go_simp
          refine hK.out _ _ (SZZ.out _ rfl) (fun hH => ?_)
          clear hK K rz rz0 rzf kz SZZ
          refine wpAnyH_done (by kernel_rfl) ?_ _
          refine NoPanic.normal ?_
          clear hH KS
          go_wp2_with fail
          have hK' := (KeepsOthers.setCell Wz ⟨w.heap.size + 1, 0, none⟩ (.bool true)).same D9 _ KZ.out rfl
          refine ⟨by simp, .inl ⟨_, _, rfl, run_takeDeferred hK', ?_⟩⟩
          have hc5 := cell_kept (World.cell?_setCell_same' Wz ⟨w.heap.size + 1, 0, none⟩ (.bool true) (by rw [RZ.out]; rfl)) (grownBy_putObj' _ D9 (.deferred none)) (fun r e => by cases e; exact ⟨_, hK', rfl⟩)
          refine ⟨.bool true, ?_, rfl, (BZ.out.setCell (p := ⟨w.heap.size + 1, 0, none⟩) (by show w.heap.size ≤ w.heap.size + 1; omega) _).trans (belowK_b (w := w) (Nat.le_refl _) _ D9 _ _ (by have l := LT.out; omega) hK' rfl rfl)⟩
          simp [results, Tryz.f5, go_sem, hc5]
        · skip
          have C3 : Hid (Chg (fun b => b = bt ∨ b = dd) A2 A3) := c3.mono (fun _ _ e => Or.inl e)
          replace DR := mkHid DR
          clear c3 NY
          have t5 := (T5.out _ (C2.out.trans C3.out)).1
          go_wp2_with fail
          refine (DR.out A3 (Below.refl _ _) _ _ (ROW.out _ C3.out)).mono ?_
          rintro e A4 ⟨rfl, c4, DR2⟩
          have C4 : Hid (Chg (fun b => b = bt ∨ b = dd) A2 A4) := C3.out.trans (c4.mono (fun _ _ e => Or.inl e))
          replace DR2 := mkHid DR2
          clear c4 DR t5
          have t5 := (T5.out _ (C2.out.trans C4.out)).1
          go_wp2_with fail
          refine (DR2.out A4 (Below.refl _ _) _ _ (ROW.out _ C4.out)).mono ?_
          rintro e A5 ⟨rfl, b5, DR3⟩
          have C5 : Hid (Chg (fun b => b = bt ∨ b = dd) A2 A5) := C4.out.trans (chg_bl b5)
          replace DR3 := mkHid DR3
          clear b5 DR2 t5
          have t6 := (T5.out _ (C2.out.trans C5.out)).2.1
          go_wp2_with fail
          refine (DR3.out A5 (Below.refl _ _) _ _ (ROW.out _ C5.out)).mono ?_
          rintro e A6 ⟨rfl, c6, DR4⟩
          have C6 : Hid (Chg (fun b => b = bt ∨ b = dd) A2 A6) := C5.out.trans (c6.mono (fun _ _ e => Or.inr e))
          replace DR4 := mkHid DR4
          clear c6 DR3 t6
          have t6 := (T5.out _ (C2.out.trans C6.out)).2.1
          go_wp2_with fail
          refine (DR4.out A6 (Below.refl _ _) _ _ (ROW.out _ C6.out)).mono ?_
          rintro e A7 ⟨rfl, c7, L3, D3, hp⟩
          have CWA7 : Hid (Chg (fun b => b = bt ∨ b = dd) A A7) := (C2.out.trans C6.out).trans (c7.mono (fun _ _ e => Or.inr e))
          clear c7 DR4 t6
          obtain ⟨PF, CF, hd⟩ := hp.dc
          obtain ⟨NF, hNF⟩ : ∃ N, N = D3.length := ⟨_, rfl⟩
          rw [← hNF] at hd
          have hcf : A7.cell? ⟨dd, 1, none⟩ = some (.slice PF NF CF) := (cell_of_block hd.box 1).trans rfl
          have KS : Hid (∀ W, Below A7.heap.size A7 W → (fun w' : World => w'.cell? ⟨dd + 1, 0, none⟩ = some (.pointer (some ⟨bt, 0, none⟩)) ∧ w'.cell? ⟨dd + 1 + 1, 0, none⟩ = some (.pointer (some ⟨dd, 0, none⟩)) ∧ w'.cell? ⟨dd, 1, none⟩ = some (.slice PF NF CF)) W) := fun W hW => by
            have q : ∀ {p : Addr} {u : Value}, A7.cell? p = some u → W.cell? p = some u := fun h => (hW.cell (World.block_lt_of_cell? _ _ h)).trans h
            obtain ⟨q1, q2, _⟩ := T5.out _ CWA7.out
            exact ⟨q q1, q q2, q hcf⟩
          have GO : Hid (Calls Tryz.prog 13 #[.pointer (some ⟨bt, 0, none⟩), .agg #[.slice none 0 0, .slice none 0 0, .bool false, .bool false], .bool true, .slice PF NF CF, .int .i64 0] A7.drew fun e w' => e = .returned (.bool true) ∧ Below A7.heap.size A7 w') := by
            have hpd := hp.below (Below.refl _ A7).drew
            have hdd := hd.below (Below.refl _ A7).drew
            rw [hNF] at hdd ⊢
            have := pr_goes hpd true none none 0 0 [] [] false false D3 PF CF 0 (Or.inl rfl) (Or.inl rfl) (by simp) (by simp) (by simp) (by simp) hdd.row (fun q h => h) (Nat.le_refl _) (by rw [btw_nil]; exact hpd.ag)
            exact this.mono (fun e w' h => ⟨h.1, (Below.refl _ A7).drew.trans h.2⟩)
          have EN : Hid (∀ W, Below A7.heap.size A7 W → Calls Tryz.prog 11 #[.pointer (some ⟨bt, 0, none⟩), .pointer (some ⟨dd, 0, none⟩)] W fun e w' => e = .returned (.bool true) ∧ Below W.heap.size W w') := fun W hW => pr_ends (hp.below hW)
          clear hp hd hNF hcf
          go_wp2_with fail
          refine wp_region_noPanic ?_
          refine wp_region_held_drew (S := fun w' : World => w'.cell? ⟨dd + 1, 0, none⟩ = some (.pointer (some ⟨bt, 0, none⟩)) ∧ w'.cell? ⟨dd + 1 + 1, 0, none⟩ = some (.pointer (some ⟨dd, 0, none⟩)) ∧ w'.cell? ⟨dd, 1, none⟩ = some (.slice PF NF CF)) (by kernel_rfl) (KS.out _ (Below.refl _ _).drew) (fun hH => ?_)
          refine tKx (i := 0) (v := .int .i64 0) rfl rfl (by kernel_rfl) (fun _ _ _ h => h) ?_ hH ?_
          · intro w5 hSw; obtain ⟨s0, s1, s2⟩ := hSw; go_simp
          simp only [zA9, zB9, zC9]
          refine tKx (i := 1) (v := .int .i64 0) rfl rfl (by kernel_rfl) (fun _ _ _ h => h) ?_ hH ?_
          · intro w5 hSw; obtain ⟨s0, s1, s2⟩ := hSw; go_simp
          simp only [zA9, zB9, zC9]
          refine tKx (i := 2) (v := .bool true) rfl rfl (by kernel_rfl) (fun _ _ _ h => h) ?_ hH ?_
          · intro w5 hSw; obtain ⟨s0, s1, s2⟩ := hSw; go_simp
          simp only [zA9, zB9, zC9]
          refine tKx (i := 3) (v := .bool true) rfl rfl (by kernel_rfl) (fun _ _ _ h => h) ?_ hH ?_
          · intro w5 hSw; obtain ⟨s0, s1, s2⟩ := hSw; go_simp
          simp only [zA9, zB9, zC9]
          refine tKx (i := 4) (v := .pointer (some ⟨bt, 0, none⟩)) rfl rfl (by kernel_rfl) (fun _ _ _ h => h) ?_ hH ?_
          · intro w5 hSw; obtain ⟨s0, s1, s2⟩ := hSw; go_simp
          simp only [zA9, zB9, zC9]
          refine tKx (i := 5) (v := .agg #[.slice none 0 0, .slice none 0 0, .bool false, .bool false]) rfl rfl (by kernel_rfl) (fun _ _ _ h => h) ?_ hH ?_
          · intro w5 hSw; obtain ⟨s0, s1, s2⟩ := hSw; go_simp
          simp only [zA9, zB9, zC9]
          refine tKx (i := 6) (v := .pointer (some ⟨dd, 0, none⟩)) rfl rfl (by kernel_rfl) (fun _ _ _ h => h) ?_ hH ?_
          · intro w5 hSw; obtain ⟨s0, s1, s2⟩ := hSw; go_simp
          simp only [zA9, zB9, zC9]
          refine tKx (i := 7) (v := .pointer (some ⟨dd, 0, none⟩)) rfl rfl (by kernel_rfl) (fun _ _ _ h => h) ?_ hH ?_
          · intro w5 hSw; obtain ⟨s0, s1, s2⟩ := hSw; go_simp
          simp only [zA9, zB9, zC9]
          refine tKx (i := 8) (v := .pointer (some ⟨dd, 1, none⟩)) rfl rfl (by kernel_rfl) (fun _ _ _ h => h) ?_ hH ?_
          · intro w5 hSw; obtain ⟨s0, s1, s2⟩ := hSw; go_simp
          simp only [zA9, zB9, zC9]
          refine tKx (i := 9) (v := .slice PF NF CF) rfl rfl (by kernel_rfl) (fun _ _ _ h => h) ?_ hH ?_
          · intro w5 hSw; obtain ⟨s0, s1, s2⟩ := hSw; go_simp
          simp only [zA9, zB9, zC9]
          refine wpAnyH_ready (rs := [10]) (by kernel_rfl) (by simp) ?_
          refine AllReadyH.cons rfl (fun K hK => ?_) AllReadyH.nil
          go_simp
          go_at_call 13
          refine GO.out.mono ?_
          rintro e V1 ⟨rfl, bV1⟩
          have BV1 := mkHid bV1
          clear bV1 GO
          go_wp2_with fail
          refine hK.out _ _ (KS.out _ BV1.out) (fun hH => ?_)
          clear hK K
          refine tKx (i := 11) (v := .bool true) rfl rfl (by kernel_rfl) (fun _ _ _ h => h) ?_ hH ?_
          · intro w5 hSw; obtain ⟨s0, s1, s2⟩ := hSw; go_simp
          simp only [zA9, zB9, zC9]
          refine tKx (i := 12) (v := .bool true) rfl rfl (by kernel_rfl) (fun _ _ _ h => h) ?_ hH ?_
          · intro w5 hSw; obtain ⟨s0, s1, s2⟩ := hSw; go_simp
          simp only [zA9, zB9, zC9]
          refine tKx (i := 13) (v := .pointer (some ⟨bt, 0, none⟩)) rfl rfl (by kernel_rfl) (fun _ _ _ h => h) ?_ hH ?_
          · intro w5 hSw; obtain ⟨s0, s1, s2⟩ := hSw; go_simp
          simp only [zA9, zB9, zC9]
          refine tKx (i := 14) (v := .pointer (some ⟨dd, 0, none⟩)) rfl rfl (by kernel_rfl) (fun _ _ _ h => h) ?_ hH ?_
          · intro w5 hSw; obtain ⟨s0, s1, s2⟩ := hSw; go_simp
          simp only [zA9, zB9, zC9]
          refine wpAnyH_ready (rs := [15]) (by kernel_rfl) (by simp) ?_
          refine AllReadyH.cons rfl (fun K hK => ?_) AllReadyH.nil
          go_simp
          go_at_call 11
          refine (EN.out _ BV1.out).mono ?_
          rintro e Wz ⟨rfl, bV2⟩
          have BWz : Hid (Below A7.heap.size A7 Wz) := BV1.out.trans (bV2.mono BV1.out.size)
          clear bV2 EN BV1
          go_wp2_with fail
          refine hK.out _ _ (KS.out _ BWz.out) (fun hH => ?_)
          clear hK K
          refine tKx (i := 16) (v := .bool true) rfl rfl (by kernel_rfl) (fun _ _ _ h => h) ?_ hH ?_
          · intro w5 hSw; obtain ⟨s0, s1, s2⟩ := hSw; go_simp
          simp only [zA9, zB9, zC9]
          obtain ⟨_, _, rz, kz⟩ := T5.out _ (CWA7.out.trans (chg_bl BWz.out))
          have rz0 : Wz.cell? ⟨w.heap.size + 1, 0, none⟩ = some (.bool false) := (cell_of_block rz 0).trans rfl
          have rzf : Wz.frozen? ⟨w.heap.size + 1, 0, none⟩ = false := unfrozen_of_block rz 0
          have SZZ : Hid (∀ W, W = Wz.setCell ⟨w.heap.size + 1, 0, none⟩ (.bool true) → (fun w' : World => w'.cell? ⟨dd + 1, 0, none⟩ = some (.pointer (some ⟨bt, 0, none⟩)) ∧ w'.cell? ⟨dd + 1 + 1, 0, none⟩ = some (.pointer (some ⟨dd, 0, none⟩)) ∧ w'.cell? ⟨dd, 1, none⟩ = some (.slice PF NF CF)) W) := fun W hW => by subst hW; have l := LT.out; obtain ⟨q1, q2, q3⟩ := KS.out _ BWz.out; exact ⟨(World.cell?_setCell_other _ _ _ _ (by first | (simp; done) | (simp; omega))).trans q1, (World.cell?_setCell_other _ _ _ _ (by first | (simp; done) | (simp; omega))).trans q2, (World.cell?_setCell_other _ _ _ _ (by first | (simp; done) | (simp; omega))).trans q3⟩
          have KZ := mkHid kz
          have RZ := mkHid rz0
          have BZ : Hid (Below w.heap.size w Wz) := BFA.out.trans ((CWA7.out.trans (chg_bl BWz.out)).below BFA.out.size (fun b hb => by have l := LT.out; omega))
          refine wpAnyH_ready (rs := [17]) (by kernel_rfl) (by simp) ?_
          refine AllReadyH.cons rfl (fun K hK => ?_) AllReadyH.nil
          go_simp
          refine hK.out _ _ (SZZ.out _ rfl) (fun hH => ?_)
          clear hK K rz rz0 rzf kz SZZ
          refine wpAnyH_done (by kernel_rfl) ?_ _
          refine NoPanic.normal ?_
          clear hH KS
          go_wp2_with fail
          have hK' := (KeepsOthers.setCell Wz ⟨w.heap.size + 1, 0, none⟩ (.bool true)).same D9 _ KZ.out rfl
          refine ⟨by simp, .inl ⟨_, _, rfl, run_takeDeferred hK', ?_⟩⟩
          have hc5 := cell_kept (World.cell?_setCell_same' Wz ⟨w.heap.size + 1, 0, none⟩ (.bool true) (by rw [RZ.out]; rfl)) (grownBy_putObj' _ D9 (.deferred none)) (fun r e => by cases e; exact ⟨_, hK', rfl⟩)
          refine ⟨.bool true, ?_, rfl, (BZ.out.setCell (p := ⟨w.heap.size + 1, 0, none⟩) (by show w.heap.size ≤ w.heap.size + 1; omega) _).trans (belowK_b (w := w) (Nat.le_refl _) _ D9 _ _ (by have l := LT.out; omega) hK' rfl rfl)⟩
          simp [results, Tryz.f5, go_sem, hc5]
end Go.Proofs.YtclcajnodoifjaaGreatDoor

