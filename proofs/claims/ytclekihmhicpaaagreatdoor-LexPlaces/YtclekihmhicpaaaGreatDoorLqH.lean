/-
  The walk of the statement LexPlaces, with something put between.
-/
import Derived.Test.YtclekihmhicpaaaGreatDoorLqG
namespace Go.Proofs.YtclekihmhicpaaaGreatDoor
open Go.RowKit Go.Shelf

def bxL : List (List UInt8) := [[], [32], [10], bx3, bx4]
/-- what is put ahead of a token -/
def xk (bt : List UInt8) (i : Nat) : List UInt8 := bxL.getD ((bt.getD (i % bt.length) 0).toNat % 5) []
theorem xk_ok (bt : List UInt8) (i : Nat) : okX (xk bt i) := by
  unfold xk
  have h : (bt.getD (i % bt.length) 0).toNat % 5 < 5 := Nat.mod_lt _ (by decide)
  generalize (bt.getD (i % bt.length) 0).toNat % 5 = j at *
  have hj : j = 0 ∨ j = 1 ∨ j = 2 ∨ j = 3 ∨ j = 4 := by omega
  rcases hj with rfl | rfl | rfl | rfl | rfl
  · exact Or.inl rfl
  · exact Or.inr (Or.inl rfl)
  · exact Or.inr (Or.inr (Or.inl rfl))
  · exact Or.inr (Or.inr (Or.inr (Or.inl rfl)))
  · exact Or.inr (Or.inr (Or.inr (Or.inr rfl)))
theorem okX_len {x : List UInt8} (h : okX x) : x.length ≤ 8 := by
  rcases h with rfl | rfl | rfl | rfl | rfl <;> decide
theorem five (w : World) (t : TypeId) (j : Nat) (hj : j < 5) : (w.alloc (.cells #[.string ⟨#[]⟩, .string ⟨#[32]⟩, .string ⟨#[10]⟩, .string ⟨#[47, 42, 32, 195, 169, 32, 42, 47]⟩, .string ⟨#[32, 45, 45, 39, 10]⟩] t)).cell? ⟨w.heap.size, j, none⟩ = some (.string ⟨(bxL.getD j []).toArray⟩) := by
  have hj : j = 0 ∨ j = 1 ∨ j = 2 ∨ j = 3 ∨ j = 4 := by omega
  rcases hj with rfl | rfl | rfl | rfl | rfl <;> go_simp <;> rfl
theorem wpAnyH_strong {P : Program} {md : Region.Mode} {ops : Array Oper} {Q : Exit → Act → World → Prop} {S S' : World → Prop} (hSS : ∀ w, S' w → S w) : ∀ (fuel : Nat) (listed : Array Bool) (a : Act) (w : World), wpAnyH P md ops Q S' fuel listed a w → wpAnyH P md ops Q S fuel listed a w
  | 0, _, _, _, h => h
  | fuel + 1, _, _, _, h => ⟨h.1, fun i hi => wpOp_mono (fun a' w' h' => ⟨hSS w' h'.1, wpAnyH_strong hSS fuel _ a' w' h'.2⟩) (h.2 i hi)⟩
set_option maxHeartbeats 4000000 in
set_option maxRecDepth 1000000 in
theorem LexPlaces_some (s : List UInt8) (P : Option Addr) (C : Nat) (bt : List UInt8) (w : World) (hs : s.length ≤ 2000000) (hb : byI w P bt) (hbn : bt ≠ []) (hbl : bt.length ≤ 2000000) (hW : LxW w) (he : (tks s).why = 0) :
    Calls Tryz.prog 5 #[.string ⟨s.toArray⟩, .slice P bt.length C] w fun e w' => e = .returned (.bool true) ∧ Below w.heap.size w w' := by
  have TA : Hid (∀ w, LxW w → Calls Tryz.prog 17 #[.string ⟨s.toArray⟩] w fun e w' => TkA (tks s) w.heap.size e w' ∧ Below w.heap.size w w') := fun w h => Tokens_any s w h
  have LV : Hid (∀ w, LxW w → Calls Tryz.prog 14 #[] w fun e w' => e = .returned (.bool true) ∧ Below w.heap.size w w') := lives_any
  have HW : Hid (LxW w) := hW
  have hzs : (ByteArray.mk s.toArray).size = s.length := size_mk s
  have hlong : 65536 < (bld s (xk bt) 0 0 (tks s).l).length → tks (bld s (xk bt) 0 0 (tks s).l) = ⟨[], 0, 2⟩ := tks_long
  have hshort := bld_tks (xk_ok bt) he
  obtain ⟨gB, off, rfl, hgB, hby⟩ : ∃ g off, P = some ⟨g, off, none⟩ ∧ g < w.heap.size ∧ ∀ i x, bt[i]? = some x → w.cell? ⟨g, off + i, none⟩ = some (.int .u8 (x.toNat : Int)) := by
    rcases hb with h | h
    · exact absurd h hbn
    · exact h
  have HBY : Hid (∀ i x, bt[i]? = some x → w.cell? ⟨gB, off + i, none⟩ = some (.int .u8 (x.toNat : Int))) := hby
  have HGB : Hid (gB < w.heap.size) := hgB
  have hb0 : 0 < bt.length := List.length_pos_iff.2 hbn
  obtain ⟨n, hn⟩ : ∃ n, bt.length = n := ⟨_, rfl⟩
  have HBN : Hid (bt.length = n) := hn
  rw [hn] at hb0 hbl ⊢
  have hb0i : (0 : Int) < (n : Int) := by omega
  have hbli : (n : Int) ≤ 2000000 := by omega
  clear hb hby hgB hn hbn
  obtain ⟨hat, hpw⟩ := tks_at he
  have hsl := tks_len he
  have hQ0 : ∀ (k : Nat) t w, (tks s).l[k]? = some t → LxW w → Calls Tryz.prog 6 #[.string ⟨s.toArray⟩, .int .i64 (t.pos : Nat)] w fun e w' => e = .returned (.tuple #[.int .i64 (t.line : Nat), .int .i64 (t.col : Nat), .int .i64 0]) ∧ Below w.heap.size w w' := fun k t w ht h => by
    have h1 := hat t (List.mem_of_getElem? ht)
    have h2 := Where_any s t.pos w h1.le hs h.t
    rw [h1.whr] at h2
    exact h2
  have hlt0 : ∀ (k : Nat) t u, (tks s).l[k]? = some t → (tks s).l[k + 1]? = some u → t.pos < u.pos := fun k t u ht hu => by
    obtain ⟨h1, e1⟩ := List.getElem?_eq_some_iff.1 ht
    obtain ⟨h2, e2⟩ := List.getElem?_eq_some_iff.1 hu
    have := List.pairwise_iff_getElem.1 hpw k (k + 1) h1 h2 (by omega)
    rw [e1, e2] at this
    exact this
  have hcount : (tks s).l.length ≤ s.length + 1 := tks_count he
  have hrow0 : (tks s).l ≠ [] := tks_some he
  have TS : Hid (tks s = ⟨(tks s).l, (tks s).pos, 0⟩) := by show _ = _; rw [← he]
  have HAT : Hid (∀ (k : Nat) t, (tks s).l[k]? = some t → t.pos ≤ s.length) := fun k t ht => (hat t (List.mem_of_getElem? ht)).le
  generalize hL : (tks s).l = L at *
  generalize (tks s).pos = pa at *
  have TA : Hid (∀ w, LxW w → Calls Tryz.prog 17 #[.string ⟨s.toArray⟩] w fun e w' => TkA ⟨L, pa, 0⟩ w.heap.size e w' ∧ Below w.heap.size w w') := fun w h => TS.out ▸ TA.out w h
  have HQ : Hid (∀ (k : Nat) t w, L[k]? = some t → LxW w → Calls Tryz.prog 6 #[.string ⟨s.toArray⟩, .int .i64 (t.pos : Nat)] w fun e w' => e = .returned (.tuple #[.int .i64 (t.line : Nat), .int .i64 (t.col : Nat), .int .i64 0]) ∧ Below w.heap.size w w') := hQ0
  have HLT : Hid (∀ (k : Nat) t u, L[k]? = some t → L[k + 1]? = some u → t.pos < u.pos) := hlt0
  have TTn : ∀ T : List UInt8, Hid (∀ w, LxW w → Calls Tryz.prog 17 #[.string ⟨T.toArray⟩] w fun e w' => TkA (tks T) w.heap.size e w' ∧ Below w.heap.size w w') := fun T w h => Tokens_any T w h
  clear hQ0 hlt0 hat hpw he hL TS hs hW
  go_enter Tryz.func5, Tryz.ntmps5
  go_wp2_with fail
  refine (TA.out _ HW.out).mono ?_
  rintro e w1 ⟨ha, hb1⟩
  obtain ⟨p1, c1, X1, rfl, i1, j1, k1, q1, l1, m1⟩ := ha.open2
  have e1 := l1 rfl
  subst e1
  obtain ⟨g, rfl⟩ : ∃ g, p1 = some ⟨g, 0, none⟩ := by
    rcases q1 with ⟨_, h, _⟩ | h
    · exact absurd h hrow0
    · exact h
  obtain ⟨N, hN⟩ : ∃ N, X1.length = N := ⟨_, rfl⟩
  rw [hN] at j1 hcount ⊢
  have HI : Hid (tokIn w1 (some ⟨g, 0, none⟩) X1) := i1
  have HN : Hid (X1.length = N) := hN
  have HB1 : Hid (Below w.heap.size w w1) := hb1
  have hex : ∀ a b : Nat, (ByteArray.mk s.toArray).extract a b = ByteArray.mk ((s.take b).drop a).toArray := fun a b => extract_mk s a b
  have HEX : Hid (∀ a b : Nat, (ByteArray.mk s.toArray).extract a b = ByteArray.mk ((s.take b).drop a).toArray) := hex
  obtain ⟨T, hTe⟩ : ∃ T, bld s (xk bt) 0 0 X1 = T := ⟨_, rfl⟩
  rw [hTe] at hlong hshort
  have TT := TTn T
  have HLO : Hid (65536 < T.length → tks T = ⟨[], 0, 2⟩) := hlong
  have HSH : Hid (T.length ≤ 65536 → (tks T).why = 0 ∧ (tks T).l.map bare = X1.map bare) := hshort
  have HTE : Hid (bld s (xk bt) 0 0 X1 = T) := hTe
  clear l1 m1 q1 i1 ha hrow0 hN hb1 hex hTe hlong hshort TTn
  have hN1 : (N : Int) ≤ 65537 := by omega
  have hsi : (s.length : Int) ≤ 65536 := by omega
  go_wp2_with fail
  go_loopw [8, 9, 10] (fun s8 s9 s10 wr => ∃ (k fr : Nat) (tx : List UInt8), s8 = .string ⟨tx.toArray⟩ ∧ s9 = .int .i64 (fr : Nat) ∧ s10 = .int .i64 k ∧ k ≤ N ∧ fr ≤ s.length ∧ tx.length ≤ fr + 8 * k ∧ Hid (∀ t, X1[k]? = some t → fr ≤ t.pos) ∧ Hid (tx ++ bld s (xk bt) fr k (X1.drop k) = T) ∧ Hid (Below w1.heap.size w1 wr)) (fun _ _ s10 _ => N - (intOf s10).toNat)
  case atStart => exact ⟨0, 0, [], rfl, rfl, rfl, Nat.zero_le _, Nat.zero_le _, Nat.zero_le _, fun _ _ => Nat.zero_le _, HTE.out, Below.refl _ _⟩
  case round =>
    obtain ⟨k, fr, tx, rfl, rfl, rfl, hk, hfr, htl, HF, HTX, hbr⟩ := hrel
    have htz : (ByteArray.mk tx.toArray).size = tx.length := size_mk tx
    by_cases hlt : k < N
    · have hlti : (k : Int) < (N : Int) := by omega
      obtain ⟨t, ht⟩ : ∃ t, X1[k]? = some t := ⟨X1[k]'(by rw [HN.out]; exact hlt), List.getElem?_eq_getElem _⟩
      have a5 := (HI.out.row hbr.out k t ht).c5
      have WH : Hid (∀ w, LxW w → Calls Tryz.prog 6 #[.string ⟨s.toArray⟩, .int .i64 (t.pos : Nat)] w fun e w' => e = .returned (.tuple #[.int .i64 (t.line : Nat), .int .i64 (t.col : Nat), .int .i64 0]) ∧ Below w.heap.size w w') := fun w h => HQ.out k t w ht h
      have hln : ((t.line : Int) != (t.line : Int)) = false := by simp
      have hcn : ((t.col : Int) != (t.col : Int)) = false := by simp
      have HT : Hid (X1[k]? = some t) := ht
      clear ht
      go_wp2_with fail
      refine (WH.out _ (HW.out.below (HB1.out.trans (hbr.out.mono HB1.out.size)))).mono ?_
      rintro e w2 ⟨rfl, hb2⟩
      have B2 := hbr.out.trans (hb2.mono hbr.out.size)
      have y2 := HI.out.row B2 k t HT.out
      have b5 := y2.c5
      have b6 := y2.c6
      have b7 := y2.c7
      have HB2 : Hid (Below w1.heap.size w1 w2) := B2
      clear hbr hb2 a5 y2 B2 WH
      have key : ∃ (u : Nat) (q : Nat), (k = 0 ∧ u = 0 ∧ q = 0) ∨ (k = u + 1 ∧ w2.cell? ⟨g, u * 8 + 5, none⟩ = some (.int .i64 (q : Nat)) ∧ q < t.pos) := by
        rcases k with _ | u
        · exact ⟨0, 0, Or.inl ⟨rfl, rfl, rfl⟩⟩
        · obtain ⟨v, hv⟩ : ∃ v, X1[u]? = some v := ⟨X1[u]'(by rw [HN.out]; omega), List.getElem?_eq_getElem _⟩
          exact ⟨u, v.pos, Or.inr ⟨rfl, (HI.out.row HB2.out u v hv).c5, HLT.out u v t hv HT.out⟩⟩
      obtain ⟨u, q, key⟩ := key
      rcases key with ⟨hk0, _, _⟩ | ⟨hk1, d5, hq⟩
      · have HK : Hid (k = 0) := hk0
        clear hk0
        go_wp2_with fail
        refine wp_region_noPanic ?_
        refine wp_region_held_drew (S := fun w' => w'.cell? ⟨g, k * 8 + 5, none⟩ = some (.int .i64 (t.pos : Nat)) ∧ w'.cell? ⟨g, k * 8 + 6, none⟩ = some (.int .i64 (t.line : Nat)) ∧ w'.cell? ⟨g, k * 8 + 7, none⟩ = some (.int .i64 (t.col : Nat))) (by kernel_rfl) (⟨b5, b6, b7⟩) (fun hH0 => ?_)
        refine take_at (i := 0) (v := .int .i64 0) rfl rfl (by kernel_rfl) (by kernel_rfl) (by kernel_rfl) (fun _ _ _ h => h) (Or.inl ⟨by rfl, ?_⟩) hH0 ?_
        · intro w hSw; (try dsimp only at hSw); obtain ⟨a5, a6, a7⟩ := hSw; go_simp
        simp only [List.setIfInBounds_toArray, List.set_cons_zero, List.set_cons_succ]
        refine take_at (i := 1) (v := .bool false) rfl rfl (by kernel_rfl) (by kernel_rfl) (by kernel_rfl) (fun _ _ _ h => h) (Or.inl ⟨by rfl, ?_⟩) hH0 ?_
        · intro w hSw; (try dsimp only at hSw); obtain ⟨a5, a6, a7⟩ := hSw; go_simp
        simp only [List.setIfInBounds_toArray, List.set_cons_zero, List.set_cons_succ]
        refine take_at (i := 2) (v := .bool false) rfl rfl (by kernel_rfl) (by kernel_rfl) (by kernel_rfl) (fun _ _ _ h => h) (Or.inl ⟨by rfl, ?_⟩) hH0 ?_
        · intro w hSw; (try dsimp only at hSw); obtain ⟨a5, a6, a7⟩ := hSw; go_simp
        simp only [List.setIfInBounds_toArray, List.set_cons_zero, List.set_cons_succ]
        refine take_at (i := 3) (v := .int .i64 (t.line : Nat)) rfl rfl (by kernel_rfl) (by kernel_rfl) (by kernel_rfl) (fun _ _ _ h => h) (Or.inl ⟨by rfl, ?_⟩) hH0 ?_
        · intro w hSw; (try dsimp only at hSw); obtain ⟨a5, a6, a7⟩ := hSw; go_simp
        simp only [List.setIfInBounds_toArray, List.set_cons_zero, List.set_cons_succ]
        refine take_at (i := 4) (v := .slice (some ⟨g, 0, none⟩) N c1) rfl rfl (by kernel_rfl) (by kernel_rfl) (by kernel_rfl) (fun _ _ _ h => h) (Or.inl ⟨by rfl, ?_⟩) hH0 ?_
        · intro w hSw; (try dsimp only at hSw); obtain ⟨a5, a6, a7⟩ := hSw; go_simp
        simp only [List.setIfInBounds_toArray, List.set_cons_zero, List.set_cons_succ]
        refine take_at (i := 5) (v := .int .i64 (k : Nat)) rfl rfl (by kernel_rfl) (by kernel_rfl) (by kernel_rfl) (fun _ _ _ h => h) (Or.inl ⟨by rfl, ?_⟩) hH0 ?_
        · intro w hSw; (try dsimp only at hSw); obtain ⟨a5, a6, a7⟩ := hSw; go_simp
        simp only [List.setIfInBounds_toArray, List.set_cons_zero, List.set_cons_succ]
        refine take_at (i := 6) (v := .pointer (some ⟨g, k * 8, none⟩)) rfl rfl (by kernel_rfl) (by kernel_rfl) (by kernel_rfl) (fun _ _ _ h => h) (Or.inl ⟨by rfl, ?_⟩) hH0 ?_
        · intro w hSw; (try dsimp only at hSw); obtain ⟨a5, a6, a7⟩ := hSw; go_simp
        simp only [List.setIfInBounds_toArray, List.set_cons_zero, List.set_cons_succ]
        refine take_at (i := 7) (v := .pointer (some ⟨g, k * 8 + 6, none⟩)) rfl rfl (by kernel_rfl) (by kernel_rfl) (by kernel_rfl) (fun _ _ _ h => h) (Or.inl ⟨by rfl, ?_⟩) hH0 ?_
        · intro w hSw; (try dsimp only at hSw); obtain ⟨a5, a6, a7⟩ := hSw; go_simp
        simp only [List.setIfInBounds_toArray, List.set_cons_zero, List.set_cons_succ]
        refine take_at (i := 8) (v := .int .i64 (t.line : Nat)) rfl rfl (by kernel_rfl) (by kernel_rfl) (by kernel_rfl) (fun _ _ _ h => h) (Or.inl ⟨by rfl, ?_⟩) hH0 ?_
        · intro w hSw; (try dsimp only at hSw); obtain ⟨a5, a6, a7⟩ := hSw; go_simp
        simp only [List.setIfInBounds_toArray, List.set_cons_zero, List.set_cons_succ]
        refine take_at (i := 9) (v := .bool false) rfl rfl (by kernel_rfl) (by kernel_rfl) (by kernel_rfl) (fun _ _ _ h => h) (Or.inl ⟨by rfl, ?_⟩) hH0 ?_
        · intro w hSw; (try dsimp only at hSw); obtain ⟨a5, a6, a7⟩ := hSw; go_simp
        simp only [List.setIfInBounds_toArray, List.set_cons_zero, List.set_cons_succ]
        refine take_at (i := 10) (v := .bool false) rfl rfl (by kernel_rfl) (by kernel_rfl) (by kernel_rfl) (fun _ _ _ h => h) (Or.inl ⟨by rfl, ?_⟩) hH0 ?_
        · intro w hSw; (try dsimp only at hSw); obtain ⟨a5, a6, a7⟩ := hSw; go_simp
        simp only [List.setIfInBounds_toArray, List.set_cons_zero, List.set_cons_succ]
        refine take_at (i := 11) (v := .bool false) rfl rfl (by kernel_rfl) (by kernel_rfl) (by kernel_rfl) (fun _ _ _ h => h) (Or.inl ⟨by rfl, ?_⟩) hH0 ?_
        · intro w hSw; (try dsimp only at hSw); obtain ⟨a5, a6, a7⟩ := hSw; go_simp
        simp only [List.setIfInBounds_toArray, List.set_cons_zero, List.set_cons_succ]
        refine take_at (i := 12) (v := .int .i64 (t.col : Nat)) rfl rfl (by kernel_rfl) (by kernel_rfl) (by kernel_rfl) (fun _ _ _ h => h) (Or.inl ⟨by rfl, ?_⟩) hH0 ?_
        · intro w hSw; (try dsimp only at hSw); obtain ⟨a5, a6, a7⟩ := hSw; go_simp
        simp only [List.setIfInBounds_toArray, List.set_cons_zero, List.set_cons_succ]
        refine take_at (i := 13) (v := .slice (some ⟨g, 0, none⟩) N c1) rfl rfl (by kernel_rfl) (by kernel_rfl) (by kernel_rfl) (fun _ _ _ h => h) (Or.inl ⟨by rfl, ?_⟩) hH0 ?_
        · intro w hSw; (try dsimp only at hSw); obtain ⟨a5, a6, a7⟩ := hSw; go_simp
        simp only [List.setIfInBounds_toArray, List.set_cons_zero, List.set_cons_succ]
        refine take_at (i := 14) (v := .int .i64 (k : Nat)) rfl rfl (by kernel_rfl) (by kernel_rfl) (by kernel_rfl) (fun _ _ _ h => h) (Or.inl ⟨by rfl, ?_⟩) hH0 ?_
        · intro w hSw; (try dsimp only at hSw); obtain ⟨a5, a6, a7⟩ := hSw; go_simp
        simp only [List.setIfInBounds_toArray, List.set_cons_zero, List.set_cons_succ]
        refine take_at (i := 15) (v := .pointer (some ⟨g, k * 8, none⟩)) rfl rfl (by kernel_rfl) (by kernel_rfl) (by kernel_rfl) (fun _ _ _ h => h) (Or.inl ⟨by rfl, ?_⟩) hH0 ?_
        · intro w hSw; (try dsimp only at hSw); obtain ⟨a5, a6, a7⟩ := hSw; go_simp
        simp only [List.setIfInBounds_toArray, List.set_cons_zero, List.set_cons_succ]
        refine take_at (i := 16) (v := .pointer (some ⟨g, k * 8 + 7, none⟩)) rfl rfl (by kernel_rfl) (by kernel_rfl) (by kernel_rfl) (fun _ _ _ h => h) (Or.inl ⟨by rfl, ?_⟩) hH0 ?_
        · intro w hSw; (try dsimp only at hSw); obtain ⟨a5, a6, a7⟩ := hSw; go_simp
        simp only [List.setIfInBounds_toArray, List.set_cons_zero, List.set_cons_succ]
        refine take_at (i := 17) (v := .int .i64 (t.col : Nat)) rfl rfl (by kernel_rfl) (by kernel_rfl) (by kernel_rfl) (fun _ _ _ h => h) (Or.inl ⟨by rfl, ?_⟩) hH0 ?_
        · intro w hSw; (try dsimp only at hSw); obtain ⟨a5, a6, a7⟩ := hSw; go_simp
        simp only [List.setIfInBounds_toArray, List.set_cons_zero, List.set_cons_succ]
        refine take_at (i := 18) (v := .bool false) rfl rfl (by kernel_rfl) (by kernel_rfl) (by kernel_rfl) (fun _ _ _ h => h) (Or.inl ⟨by rfl, ?_⟩) hH0 ?_
        · intro w hSw; (try dsimp only at hSw); obtain ⟨a5, a6, a7⟩ := hSw; go_simp
        simp only [List.setIfInBounds_toArray, List.set_cons_zero, List.set_cons_succ]
        refine take_at (i := 19) (v := .bool false) rfl rfl (by kernel_rfl) (by kernel_rfl) (by kernel_rfl) (fun _ _ _ h => h) (Or.inl ⟨by rfl, ?_⟩) hH0 ?_
        · intro w hSw; (try dsimp only at hSw); obtain ⟨a5, a6, a7⟩ := hSw; go_simp
        simp only [List.setIfInBounds_toArray, List.set_cons_zero, List.set_cons_succ]
        refine take_at (i := 20) (v := .bool false) rfl rfl (by kernel_rfl) (by kernel_rfl) (by kernel_rfl) (fun _ _ _ h => h) (Or.inl ⟨by rfl, ?_⟩) hH0 ?_
        · intro w hSw; (try dsimp only at hSw); obtain ⟨a5, a6, a7⟩ := hSw; go_simp
        simp only [List.setIfInBounds_toArray, List.set_cons_zero, List.set_cons_succ]
        refine take_at (i := 21) (v := .int .i64 (k : Nat)) rfl rfl (by kernel_rfl) (by kernel_rfl) (by kernel_rfl) (fun _ _ _ h => h) (Or.inl ⟨by rfl, ?_⟩) hH0 ?_
        · intro w hSw; (try dsimp only at hSw); obtain ⟨a5, a6, a7⟩ := hSw; go_simp
        simp only [List.setIfInBounds_toArray, List.set_cons_zero, List.set_cons_succ]
        refine take_at (i := 22) (v := .bool false) rfl rfl (by kernel_rfl) (by kernel_rfl) (by kernel_rfl) (fun _ _ _ h => h) (Or.inl ⟨by rfl, ?_⟩) hH0 ?_
        · intro w hSw; (try dsimp only at hSw); obtain ⟨a5, a6, a7⟩ := hSw; go_simp; exact HK.out
        simp only [List.setIfInBounds_toArray, List.set_cons_zero, List.set_cons_succ]
        refine take_at (i := 23) (v := .bool false) rfl rfl (by kernel_rfl) (by kernel_rfl) (by kernel_rfl) (fun _ _ _ h => h) (Or.inl ⟨by rfl, ?_⟩) hH0 ?_
        · intro w hSw; (try dsimp only at hSw); obtain ⟨a5, a6, a7⟩ := hSw; go_simp
        simp only [List.setIfInBounds_toArray, List.set_cons_zero, List.set_cons_succ]
        refine take_at (i := 24) (v := undef) rfl rfl (by kernel_rfl) (by kernel_rfl) (by kernel_rfl) (fun _ _ _ h => h) (Or.inr ⟨by rfl, rfl⟩) hH0 ?_
        simp only [List.setIfInBounds_toArray, List.set_cons_zero, List.set_cons_succ]
        refine take_at (i := 25) (v := undef) rfl rfl (by kernel_rfl) (by kernel_rfl) (by kernel_rfl) (fun _ _ _ h => h) (Or.inr ⟨by rfl, rfl⟩) hH0 ?_
        simp only [List.setIfInBounds_toArray, List.set_cons_zero, List.set_cons_succ]
        refine take_at (i := 26) (v := undef) rfl rfl (by kernel_rfl) (by kernel_rfl) (by kernel_rfl) (fun _ _ _ h => h) (Or.inr ⟨by rfl, rfl⟩) hH0 ?_
        simp only [List.setIfInBounds_toArray, List.set_cons_zero, List.set_cons_succ]
        refine take_at (i := 27) (v := undef) rfl rfl (by kernel_rfl) (by kernel_rfl) (by kernel_rfl) (fun _ _ _ h => h) (Or.inr ⟨by rfl, rfl⟩) hH0 ?_
        simp only [List.setIfInBounds_toArray, List.set_cons_zero, List.set_cons_succ]
        refine take_at (i := 28) (v := undef) rfl rfl (by kernel_rfl) (by kernel_rfl) (by kernel_rfl) (fun _ _ _ h => h) (Or.inr ⟨by rfl, rfl⟩) hH0 ?_
        simp only [List.setIfInBounds_toArray, List.set_cons_zero, List.set_cons_succ]
        refine take_at (i := 29) (v := undef) rfl rfl (by kernel_rfl) (by kernel_rfl) (by kernel_rfl) (fun _ _ _ h => h) (Or.inr ⟨by rfl, rfl⟩) hH0 ?_
        simp only [List.setIfInBounds_toArray, List.set_cons_zero, List.set_cons_succ]
        refine take_at (i := 30) (v := undef) rfl rfl (by kernel_rfl) (by kernel_rfl) (by kernel_rfl) (fun _ _ _ h => h) (Or.inr ⟨by rfl, rfl⟩) hH0 ?_
        simp only [List.setIfInBounds_toArray, List.set_cons_zero, List.set_cons_succ]
        refine take_at (i := 31) (v := undef) rfl rfl (by kernel_rfl) (by kernel_rfl) (by kernel_rfl) (fun _ _ _ h => h) (Or.inr ⟨by rfl, rfl⟩) hH0 ?_
        simp only [List.setIfInBounds_toArray, List.set_cons_zero, List.set_cons_succ]
        refine take_at (i := 32) (v := undef) rfl rfl (by kernel_rfl) (by kernel_rfl) (by kernel_rfl) (fun _ _ _ h => h) (Or.inr ⟨by rfl, rfl⟩) hH0 ?_
        simp only [List.setIfInBounds_toArray, List.set_cons_zero, List.set_cons_succ]
        refine take_at (i := 33) (v := undef) rfl rfl (by kernel_rfl) (by kernel_rfl) (by kernel_rfl) (fun _ _ _ h => h) (Or.inr ⟨by rfl, rfl⟩) hH0 ?_
        simp only [List.setIfInBounds_toArray, List.set_cons_zero, List.set_cons_succ]
        refine take_at (i := 34) (v := undef) rfl rfl (by kernel_rfl) (by kernel_rfl) (by kernel_rfl) (fun _ _ _ h => h) (Or.inr ⟨by rfl, rfl⟩) hH0 ?_
        simp only [List.setIfInBounds_toArray, List.set_cons_zero, List.set_cons_succ]
        refine take_at (i := 35) (v := undef) rfl rfl (by kernel_rfl) (by kernel_rfl) (by kernel_rfl) (fun _ _ _ h => h) (Or.inr ⟨by rfl, rfl⟩) hH0 ?_
        simp only [List.setIfInBounds_toArray, List.set_cons_zero, List.set_cons_succ]
        refine take_at (i := 36) (v := .bool false) rfl rfl (by kernel_rfl) (by kernel_rfl) (by kernel_rfl) (fun _ _ _ h => h) (Or.inl ⟨by rfl, ?_⟩) hH0 ?_
        · intro w hSw; (try dsimp only at hSw); obtain ⟨a5, a6, a7⟩ := hSw; go_simp
        simp only [List.setIfInBounds_toArray, List.set_cons_zero, List.set_cons_succ]
        refine take_at (i := 37) (v := .bool false) rfl rfl (by kernel_rfl) (by kernel_rfl) (by kernel_rfl) (fun _ _ _ h => h) (Or.inl ⟨by rfl, ?_⟩) hH0 ?_
        · intro w hSw; (try dsimp only at hSw); obtain ⟨a5, a6, a7⟩ := hSw; go_simp
        simp only [List.setIfInBounds_toArray, List.set_cons_zero, List.set_cons_succ]
        refine wpAnyH_done (by kernel_rfl) ?_ _
        refine NoPanic.normal ?_
        have HD : Hid (Below w1.heap.size w1 w2.drew) := HB2.out.trans (below_drewN (Below.refl _ w2) 1)
        clear hH0 HB2
        clear b5 b6 b7
        have hft := HF.out t HT.out
        have hpl := HAT.out k t HT.out
        obtain ⟨R, hR⟩ : ∃ R, k % n = R := ⟨_, rfl⟩
        have hRn : R < n := by rw [← hR]; exact Nat.mod_lt _ hb0
        obtain ⟨x, hx⟩ : ∃ x, bt[R]? = some x := ⟨bt[R]'(by rw [HBN.out]; exact hRn), List.getElem?_eq_getElem _⟩
        have BD := HB1.out.trans (HD.out.mono HB1.out.size)
        have e5 := (HI.out.row HD.out k t HT.out).c5
        have e6 := (BD.cell (p := ⟨gB, off + R, none⟩) HGB.out).trans (HBY.out R x hx)
        obtain ⟨PC, hPC⟩ : ∃ PC, (s.drop fr).take (t.pos - fr) = PC := ⟨_, rfl⟩
        have hpcl : PC.length = t.pos - fr := by rw [← hPC, List.length_take, List.length_drop]; omega
        have hexp : (ByteArray.mk s.toArray).extract fr t.pos = ByteArray.mk PC.toArray := by rw [HEX.out, List.drop_take, hPC]
        obtain ⟨XK, hXK⟩ : ∃ XK, xk bt k = XK := ⟨_, rfl⟩
        have hxl : XK.length ≤ 8 := by rw [← hXK]; exact okX_len (xk_ok bt k)
        have HJ : Hid (XK = bxL.getD (x.toNat % 5) []) := by
          show XK = _
          rw [← hXK]; unfold xk
          rw [HBN.out, hR]
          have : bt.getD R 0 = x := by rw [List.getD_eq_getElem?_getD, hx]; rfl
          rw [this]
        obtain ⟨T1, hT1⟩ : ∃ T1, tx ++ PC = T1 := ⟨_, rfl⟩
        obtain ⟨T2, hT2⟩ : ∃ T2, T1 ++ XK = T2 := ⟨_, rfl⟩
        have t1l : T1.length = tx.length + PC.length := by rw [← hT1, List.length_append]
        have t2l : T2.length = T1.length + XK.length := by rw [← hT2, List.length_append]
        have z1 : ByteArray.mk tx.toArray ++ ByteArray.mk PC.toArray = ByteArray.mk T1.toArray := by rw [add_mk, hT1]
        have z2 : ByteArray.mk T1.toArray ++ ByteArray.mk XK.toArray = ByteArray.mk T2.toArray := by rw [add_mk, hT2]
        have hzp : (ByteArray.mk PC.toArray).size = PC.length := size_mk PC
        have hz1 : (ByteArray.mk T1.toArray).size = T1.length := size_mk T1
        have hzx : (ByteArray.mk XK.toArray).size = XK.length := size_mk XK
        have z3 : tx.length + PC.length ≤ 9223372036854775807 := by omega
        have z4 : T1.length + XK.length ≤ 9223372036854775807 := by omega
        have HT2 : Hid (T2 ++ bld s (xk bt) t.pos (k + 1) (X1.drop (k + 1)) = T) := by
          show _ = _
          have e1 := HTX.out
          have e2 : X1.drop k = t :: X1.drop (k + 1) := by
            obtain ⟨h1, h2⟩ := List.getElem?_eq_some_iff.1 HT.out
            rw [List.drop_eq_getElem_cons h1, h2]
          rw [e2, bld, hPC, hXK] at e1
          rw [← hT2, ← hT1, ← e1]
          simp [List.append_assoc]
        have HNX : Hid (∀ u, X1[k + 1]? = some u → t.pos ≤ u.pos) := fun u hu => Nat.le_of_lt (HLT.out k t u HT.out hu)
        have HTL : Hid (T2.length ≤ t.pos + 8 * (k + 1)) := by show _ ≤ _; omega
        have hrem : Int.tmod (k : Int) (n : Int) = (R : Int) := by rw [← hR]; rfl
        have hrem5 : Int.tmod (x.toNat : Int) 5 = ((x.toNat % 5 : Nat) : Int) := rfl
        obtain ⟨J, hJ⟩ : ∃ J, x.toNat % 5 = J := ⟨_, rfl⟩
        have hJ5 : J < 5 := by rw [← hJ]; exact Nat.mod_lt _ (by decide)
        rw [hJ] at hrem5 HJ
        have f1 : (fr : Int) ≤ (t.pos : Int) := by omega
        have f2 : (t.pos : Int) ≤ (s.length : Int) := by omega
        have f3 : (R : Int) < (n : Int) := by omega
        have f4 : (J : Int) < 5 := by omega
        have f5 : fr ≤ t.pos := hft
        have f6 : t.pos ≤ s.length := hpl
        have HD2 : Hid (Below w1.heap.size w1 w2.drew) := HD.out
        generalize w2.drew = w3 at *
        have BA : Below w3.heap.size w3 (w3.alloc (.cells #[.string ⟨#[]⟩, .string ⟨#[32]⟩, .string ⟨#[10]⟩, .string ⟨#[47, 42, 32, 195, 169, 32, 42, 47]⟩, .string ⟨#[32, 45, 45, 39, 10]⟩] 9)).drew := below_drewN ((Below.refl _ w3).alloc (Nat.le_refl _) _) 1
        have eJ : ((w3.alloc (.cells #[.string ⟨#[]⟩, .string ⟨#[32]⟩, .string ⟨#[10]⟩, .string ⟨#[47, 42, 32, 195, 169, 32, 42, 47]⟩, .string ⟨#[32, 45, 45, 39, 10]⟩] 9)).drew).cell? ⟨w3.heap.size, J, none⟩ = some (.string ⟨XK.toArray⟩) := by
          have h := five w3 9 J hJ5
          rw [← HJ.out] at h
          exact h
        have g5 := (BA.cell (p := ⟨g, k * 8 + 5, none⟩) (World.block_lt_of_cell? w3 _ e5)).trans e5
        have g6 := (BA.cell (p := ⟨gB, off + R, none⟩) (World.block_lt_of_cell? w3 _ e6)).trans e6
        have HA : Hid (Below w3.heap.size w3 (w3.alloc (.cells #[.string ⟨#[]⟩, .string ⟨#[32]⟩, .string ⟨#[10]⟩, .string ⟨#[47, 42, 32, 195, 169, 32, 42, 47]⟩, .string ⟨#[32, 45, 45, 39, 10]⟩] 9)).drew) := BA
        have HJC : Hid (((w3.alloc (.cells #[.string ⟨#[]⟩, .string ⟨#[32]⟩, .string ⟨#[10]⟩, .string ⟨#[47, 42, 32, 195, 169, 32, 42, 47]⟩, .string ⟨#[32, 45, 45, 39, 10]⟩] 9)).drew).cell? ⟨w3.heap.size, J, none⟩ = some (.string ⟨XK.toArray⟩)) := eJ
        have H5 : Hid (((w3.alloc (.cells #[.string ⟨#[]⟩, .string ⟨#[32]⟩, .string ⟨#[10]⟩, .string ⟨#[47, 42, 32, 195, 169, 32, 42, 47]⟩, .string ⟨#[32, 45, 45, 39, 10]⟩] 9)).drew).cell? ⟨g, k * 8 + 5, none⟩ = some (.int .i64 (t.pos : Nat))) := g5
        have H6 : Hid (((w3.alloc (.cells #[.string ⟨#[]⟩, .string ⟨#[32]⟩, .string ⟨#[10]⟩, .string ⟨#[47, 42, 32, 195, 169, 32, 42, 47]⟩, .string ⟨#[32, 45, 45, 39, 10]⟩] 9)).drew).cell? ⟨gB, off + R, none⟩ = some (.int .u8 (x.toNat : Int))) := g6
        clear BA eJ g5 g6 HJ
        clear HD BD hx hPC hXK hT1 hT2 hR hJ hft hpl hpcl hxl t1l t2l HTX HF htl
        go_wp2_with fail
        refine wp_region_noPanic ?_
        refine wp_region_held_drew (S := fun w' => w'.cell? ⟨g, k * 8 + 5, none⟩ = some (.int .i64 (t.pos : Nat)) ∧ w'.cell? ⟨gB, off + R, none⟩ = some (.int .u8 (x.toNat : Int))) (by kernel_rfl) (⟨e5, e6⟩) (fun hH0 => ?_)
        refine take_at (i := 0) (v := .string ⟨tx.toArray⟩) rfl rfl (by kernel_rfl) (by kernel_rfl) (by kernel_rfl) (fun _ _ _ h => h) (Or.inl ⟨by rfl, ?_⟩) hH0 ?_
        · intro w hSw; (try dsimp only at hSw); obtain ⟨a5, a6⟩ := hSw; go_simp
        simp only [List.setIfInBounds_toArray, List.set_cons_zero, List.set_cons_succ]
        refine take_at (i := 1) (v := .string ⟨s.toArray⟩) rfl rfl (by kernel_rfl) (by kernel_rfl) (by kernel_rfl) (fun _ _ _ h => h) (Or.inl ⟨by rfl, ?_⟩) hH0 ?_
        · intro w hSw; (try dsimp only at hSw); obtain ⟨a5, a6⟩ := hSw; go_simp
        simp only [List.setIfInBounds_toArray, List.set_cons_zero, List.set_cons_succ]
        refine take_at (i := 2) (v := .int .i64 (fr : Nat)) rfl rfl (by kernel_rfl) (by kernel_rfl) (by kernel_rfl) (fun _ _ _ h => h) (Or.inl ⟨by rfl, ?_⟩) hH0 ?_
        · intro w hSw; (try dsimp only at hSw); obtain ⟨a5, a6⟩ := hSw; go_simp
        simp only [List.setIfInBounds_toArray, List.set_cons_zero, List.set_cons_succ]
        refine take_at (i := 3) (v := .slice (some ⟨g, 0, none⟩) N c1) rfl rfl (by kernel_rfl) (by kernel_rfl) (by kernel_rfl) (fun _ _ _ h => h) (Or.inl ⟨by rfl, ?_⟩) hH0 ?_
        · intro w hSw; (try dsimp only at hSw); obtain ⟨a5, a6⟩ := hSw; go_simp
        simp only [List.setIfInBounds_toArray, List.set_cons_zero, List.set_cons_succ]
        refine take_at (i := 4) (v := .int .i64 (k : Nat)) rfl rfl (by kernel_rfl) (by kernel_rfl) (by kernel_rfl) (fun _ _ _ h => h) (Or.inl ⟨by rfl, ?_⟩) hH0 ?_
        · intro w hSw; (try dsimp only at hSw); obtain ⟨a5, a6⟩ := hSw; go_simp
        simp only [List.setIfInBounds_toArray, List.set_cons_zero, List.set_cons_succ]
        refine take_at (i := 5) (v := .pointer (some ⟨g, k * 8, none⟩)) rfl rfl (by kernel_rfl) (by kernel_rfl) (by kernel_rfl) (fun _ _ _ h => h) (Or.inl ⟨by rfl, ?_⟩) hH0 ?_
        · intro w hSw; (try dsimp only at hSw); obtain ⟨a5, a6⟩ := hSw; go_simp
        simp only [List.setIfInBounds_toArray, List.set_cons_zero, List.set_cons_succ]
        refine take_at (i := 6) (v := .pointer (some ⟨g, k * 8 + 5, none⟩)) rfl rfl (by kernel_rfl) (by kernel_rfl) (by kernel_rfl) (fun _ _ _ h => h) (Or.inl ⟨by rfl, ?_⟩) hH0 ?_
        · intro w hSw; (try dsimp only at hSw); obtain ⟨a5, a6⟩ := hSw; go_simp
        simp only [List.setIfInBounds_toArray, List.set_cons_zero, List.set_cons_succ]
        refine take_at (i := 7) (v := .int .i64 (t.pos : Nat)) rfl rfl (by kernel_rfl) (by kernel_rfl) (by kernel_rfl) (fun _ _ _ h => h) (Or.inl ⟨by rfl, ?_⟩) hH0 ?_
        · intro w hSw; (try dsimp only at hSw); obtain ⟨a5, a6⟩ := hSw; go_simp
        simp only [List.setIfInBounds_toArray, List.set_cons_zero, List.set_cons_succ]
        refine take_at (i := 8) (v := .string ⟨PC.toArray⟩) rfl rfl (by kernel_rfl) (by kernel_rfl) (by kernel_rfl) (fun _ _ _ h => h) (Or.inl ⟨by rfl, ?_⟩) hH0 ?_
        · intro w hSw; (try dsimp only at hSw); obtain ⟨a5, a6⟩ := hSw; go_simp
        simp only [List.setIfInBounds_toArray, List.set_cons_zero, List.set_cons_succ]
        refine take_at (i := 9) (v := .string ⟨T1.toArray⟩) rfl rfl (by kernel_rfl) (by kernel_rfl) (by kernel_rfl) (fun _ _ _ h => h) (Or.inl ⟨by rfl, ?_⟩) hH0 ?_
        · intro w hSw; (try dsimp only at hSw); obtain ⟨a5, a6⟩ := hSw; go_simp
        simp only [List.setIfInBounds_toArray, List.set_cons_zero, List.set_cons_succ]
        refine take_at (i := 11) (v := .slice (some ⟨gB, off, none⟩) n C) rfl rfl (by kernel_rfl) (by kernel_rfl) (by kernel_rfl) (fun _ _ _ h => h) (Or.inl ⟨by rfl, ?_⟩) hH0 ?_
        · intro w hSw; (try dsimp only at hSw); obtain ⟨a5, a6⟩ := hSw; go_simp
        simp only [List.setIfInBounds_toArray, List.set_cons_zero, List.set_cons_succ]
        refine take_at (i := 12) (v := .int .i64 (k : Nat)) rfl rfl (by kernel_rfl) (by kernel_rfl) (by kernel_rfl) (fun _ _ _ h => h) (Or.inl ⟨by rfl, ?_⟩) hH0 ?_
        · intro w hSw; (try dsimp only at hSw); obtain ⟨a5, a6⟩ := hSw; go_simp
        simp only [List.setIfInBounds_toArray, List.set_cons_zero, List.set_cons_succ]
        refine take_at (i := 13) (v := .slice (some ⟨gB, off, none⟩) n C) rfl rfl (by kernel_rfl) (by kernel_rfl) (by kernel_rfl) (fun _ _ _ h => h) (Or.inl ⟨by rfl, ?_⟩) hH0 ?_
        · intro w hSw; (try dsimp only at hSw); obtain ⟨a5, a6⟩ := hSw; go_simp
        simp only [List.setIfInBounds_toArray, List.set_cons_zero, List.set_cons_succ]
        refine take_at (i := 14) (v := .int .i64 (n : Nat)) rfl rfl (by kernel_rfl) (by kernel_rfl) (by kernel_rfl) (fun _ _ _ h => h) (Or.inl ⟨by rfl, ?_⟩) hH0 ?_
        · intro w hSw; (try dsimp only at hSw); obtain ⟨a5, a6⟩ := hSw; go_simp
        simp only [List.setIfInBounds_toArray, List.set_cons_zero, List.set_cons_succ]
        refine take_at (i := 15) (v := .int .i64 (R : Nat)) rfl rfl (by kernel_rfl) (by kernel_rfl) (by kernel_rfl) (fun _ _ _ h => h) (Or.inl ⟨by rfl, ?_⟩) hH0 ?_
        · intro w hSw; (try dsimp only at hSw); obtain ⟨a5, a6⟩ := hSw; go_simp; omega
        simp only [List.setIfInBounds_toArray, List.set_cons_zero, List.set_cons_succ]
        refine take_at (i := 16) (v := .pointer (some ⟨gB, off + R, none⟩)) rfl rfl (by kernel_rfl) (by kernel_rfl) (by kernel_rfl) (fun _ _ _ h => h) (Or.inl ⟨by rfl, ?_⟩) hH0 ?_
        · intro w hSw; (try dsimp only at hSw); obtain ⟨a5, a6⟩ := hSw; go_simp
        simp only [List.setIfInBounds_toArray, List.set_cons_zero, List.set_cons_succ]
        refine take_at (i := 17) (v := .int .u8 (x.toNat : Int)) rfl rfl (by kernel_rfl) (by kernel_rfl) (by kernel_rfl) (fun _ _ _ h => h) (Or.inl ⟨by rfl, ?_⟩) hH0 ?_
        · intro w hSw; (try dsimp only at hSw); obtain ⟨a5, a6⟩ := hSw; go_simp
        simp only [List.setIfInBounds_toArray, List.set_cons_zero, List.set_cons_succ]
        refine take_at (i := 18) (v := .int .u8 (J : Nat)) rfl rfl (by kernel_rfl) (by kernel_rfl) (by kernel_rfl) (fun _ _ _ h => h) (Or.inl ⟨by rfl, ?_⟩) hH0 ?_
        · intro w hSw; (try dsimp only at hSw); obtain ⟨a5, a6⟩ := hSw; go_simp
        simp only [List.setIfInBounds_toArray, List.set_cons_zero, List.set_cons_succ]
        refine wpAnyH_ready (rs := [10]) (by kernel_rfl) (by simp) ?_
        refine AllReadyH.cons rfl (fun K hK => ?_) AllReadyH.nil
        go_simp
        refine hK.out _ _ ⟨H5.out, H6.out⟩ (fun _ => ?_)
        clear hK K hH0 e5 e6
        generalize (w3.alloc (.cells #[.string ⟨#[]⟩, .string ⟨#[32]⟩, .string ⟨#[10]⟩, .string ⟨#[47, 42, 32, 195, 169, 32, 42, 47]⟩, .string ⟨#[32, 45, 45, 39, 10]⟩] 9)).drew = W4 at *
        refine wpAnyH_strong (S' := fun w' => w'.cell? ⟨g, k * 8 + 5, none⟩ = some (.int .i64 (t.pos : Nat)) ∧ w'.cell? ⟨gB, off + R, none⟩ = some (.int .u8 (x.toNat : Int)) ∧ w'.cell? ⟨w3.heap.size, J, none⟩ = some (.string ⟨XK.toArray⟩)) (fun _ h => ⟨h.1, h.2.1⟩) _ _ _ _ ?_
        have hH2 : (fun w' : World => w'.cell? ⟨g, k * 8 + 5, none⟩ = some (.int .i64 (t.pos : Nat)) ∧ w'.cell? ⟨gB, off + R, none⟩ = some (.int .u8 (x.toNat : Int)) ∧ w'.cell? ⟨w3.heap.size, J, none⟩ = some (.string ⟨XK.toArray⟩)) W4 := ⟨H5.out, H6.out, HJC.out⟩
        refine take_at (i := 19) (v := .pointer (some ⟨w3.heap.size, J, none⟩)) rfl rfl (by kernel_rfl) (by kernel_rfl) (by kernel_rfl) (fun _ _ _ h => h) (Or.inl ⟨by rfl, ?_⟩) hH2 ?_
        · intro w hSw; (try dsimp only at hSw); obtain ⟨a5, a6, a7⟩ := hSw; go_simp
        simp only [List.setIfInBounds_toArray, List.set_cons_zero, List.set_cons_succ]
        refine take_at (i := 20) (v := .string ⟨XK.toArray⟩) rfl rfl (by kernel_rfl) (by kernel_rfl) (by kernel_rfl) (fun _ _ _ h => h) (Or.inl ⟨by rfl, ?_⟩) hH2 ?_
        · intro w hSw; (try dsimp only at hSw); obtain ⟨a5, a6, a7⟩ := hSw; go_simp
        simp only [List.setIfInBounds_toArray, List.set_cons_zero, List.set_cons_succ]
        refine take_at (i := 21) (v := .string ⟨T2.toArray⟩) rfl rfl (by kernel_rfl) (by kernel_rfl) (by kernel_rfl) (fun _ _ _ h => h) (Or.inl ⟨by rfl, ?_⟩) hH2 ?_
        · intro w hSw; (try dsimp only at hSw); obtain ⟨a5, a6, a7⟩ := hSw; go_simp
        simp only [List.setIfInBounds_toArray, List.set_cons_zero, List.set_cons_succ]
        refine take_at (i := 22) (v := .string ⟨T2.toArray⟩) rfl rfl (by kernel_rfl) (by kernel_rfl) (by kernel_rfl) (fun _ _ _ h => h) (Or.inl ⟨by rfl, ?_⟩) hH2 ?_
        · intro w hSw; (try dsimp only at hSw); obtain ⟨a5, a6, a7⟩ := hSw; go_simp
        simp only [List.setIfInBounds_toArray, List.set_cons_zero, List.set_cons_succ]
        refine wpAnyH_done (by kernel_rfl) ?_ _
        refine NoPanic.normal ?_
        have g5 := H5.out
        clear hH2 HJC H6 H5
        go_wp2_with fail
        go_roundw
        case rel => exact ⟨k + 1, t.pos, T2, rfl, rfl, by go_num, hlt, f6, HTL.out, HNX.out, HT2.out, HD2.out.trans (HA.out.mono HD2.out.size)⟩
        case measure => simp [intOf]; omega
      · have HK : Hid (0 < k) := by show 0 < k; omega
        have HQT : Hid (q < t.pos) := hq
        have hu1 : (k : Int) - 1 = (u : Int) := by omega
        have hu2 : (u : Int) < (N : Int) := by omega
        clear hk1 hq
        go_wp2_with fail
        refine wp_region_noPanic ?_
        refine wp_region_held_drew (S := fun w' => w'.cell? ⟨g, k * 8 + 5, none⟩ = some (.int .i64 (t.pos : Nat)) ∧ w'.cell? ⟨g, k * 8 + 6, none⟩ = some (.int .i64 (t.line : Nat)) ∧ w'.cell? ⟨g, k * 8 + 7, none⟩ = some (.int .i64 (t.col : Nat)) ∧ w'.cell? ⟨g, u * 8 + 5, none⟩ = some (.int .i64 (q : Nat))) (by kernel_rfl) (⟨b5, b6, b7, d5⟩) (fun hH0 => ?_)
        refine take_at (i := 0) (v := .int .i64 0) rfl rfl (by kernel_rfl) (by kernel_rfl) (by kernel_rfl) (fun _ _ _ h => h) (Or.inl ⟨by rfl, ?_⟩) hH0 ?_
        · intro w hSw; (try dsimp only at hSw); obtain ⟨a5, a6, a7, a8⟩ := hSw; go_simp
        simp only [List.setIfInBounds_toArray, List.set_cons_zero, List.set_cons_succ]
        refine take_at (i := 1) (v := .bool false) rfl rfl (by kernel_rfl) (by kernel_rfl) (by kernel_rfl) (fun _ _ _ h => h) (Or.inl ⟨by rfl, ?_⟩) hH0 ?_
        · intro w hSw; (try dsimp only at hSw); obtain ⟨a5, a6, a7, a8⟩ := hSw; go_simp
        simp only [List.setIfInBounds_toArray, List.set_cons_zero, List.set_cons_succ]
        refine take_at (i := 2) (v := .bool false) rfl rfl (by kernel_rfl) (by kernel_rfl) (by kernel_rfl) (fun _ _ _ h => h) (Or.inl ⟨by rfl, ?_⟩) hH0 ?_
        · intro w hSw; (try dsimp only at hSw); obtain ⟨a5, a6, a7, a8⟩ := hSw; go_simp
        simp only [List.setIfInBounds_toArray, List.set_cons_zero, List.set_cons_succ]
        refine take_at (i := 3) (v := .int .i64 (t.line : Nat)) rfl rfl (by kernel_rfl) (by kernel_rfl) (by kernel_rfl) (fun _ _ _ h => h) (Or.inl ⟨by rfl, ?_⟩) hH0 ?_
        · intro w hSw; (try dsimp only at hSw); obtain ⟨a5, a6, a7, a8⟩ := hSw; go_simp
        simp only [List.setIfInBounds_toArray, List.set_cons_zero, List.set_cons_succ]
        refine take_at (i := 4) (v := .slice (some ⟨g, 0, none⟩) N c1) rfl rfl (by kernel_rfl) (by kernel_rfl) (by kernel_rfl) (fun _ _ _ h => h) (Or.inl ⟨by rfl, ?_⟩) hH0 ?_
        · intro w hSw; (try dsimp only at hSw); obtain ⟨a5, a6, a7, a8⟩ := hSw; go_simp
        simp only [List.setIfInBounds_toArray, List.set_cons_zero, List.set_cons_succ]
        refine take_at (i := 5) (v := .int .i64 (k : Nat)) rfl rfl (by kernel_rfl) (by kernel_rfl) (by kernel_rfl) (fun _ _ _ h => h) (Or.inl ⟨by rfl, ?_⟩) hH0 ?_
        · intro w hSw; (try dsimp only at hSw); obtain ⟨a5, a6, a7, a8⟩ := hSw; go_simp
        simp only [List.setIfInBounds_toArray, List.set_cons_zero, List.set_cons_succ]
        refine take_at (i := 6) (v := .pointer (some ⟨g, k * 8, none⟩)) rfl rfl (by kernel_rfl) (by kernel_rfl) (by kernel_rfl) (fun _ _ _ h => h) (Or.inl ⟨by rfl, ?_⟩) hH0 ?_
        · intro w hSw; (try dsimp only at hSw); obtain ⟨a5, a6, a7, a8⟩ := hSw; go_simp
        simp only [List.setIfInBounds_toArray, List.set_cons_zero, List.set_cons_succ]
        refine take_at (i := 7) (v := .pointer (some ⟨g, k * 8 + 6, none⟩)) rfl rfl (by kernel_rfl) (by kernel_rfl) (by kernel_rfl) (fun _ _ _ h => h) (Or.inl ⟨by rfl, ?_⟩) hH0 ?_
        · intro w hSw; (try dsimp only at hSw); obtain ⟨a5, a6, a7, a8⟩ := hSw; go_simp
        simp only [List.setIfInBounds_toArray, List.set_cons_zero, List.set_cons_succ]
        refine take_at (i := 8) (v := .int .i64 (t.line : Nat)) rfl rfl (by kernel_rfl) (by kernel_rfl) (by kernel_rfl) (fun _ _ _ h => h) (Or.inl ⟨by rfl, ?_⟩) hH0 ?_
        · intro w hSw; (try dsimp only at hSw); obtain ⟨a5, a6, a7, a8⟩ := hSw; go_simp
        simp only [List.setIfInBounds_toArray, List.set_cons_zero, List.set_cons_succ]
        refine take_at (i := 9) (v := .bool false) rfl rfl (by kernel_rfl) (by kernel_rfl) (by kernel_rfl) (fun _ _ _ h => h) (Or.inl ⟨by rfl, ?_⟩) hH0 ?_
        · intro w hSw; (try dsimp only at hSw); obtain ⟨a5, a6, a7, a8⟩ := hSw; go_simp
        simp only [List.setIfInBounds_toArray, List.set_cons_zero, List.set_cons_succ]
        refine take_at (i := 10) (v := .bool false) rfl rfl (by kernel_rfl) (by kernel_rfl) (by kernel_rfl) (fun _ _ _ h => h) (Or.inl ⟨by rfl, ?_⟩) hH0 ?_
        · intro w hSw; (try dsimp only at hSw); obtain ⟨a5, a6, a7, a8⟩ := hSw; go_simp
        simp only [List.setIfInBounds_toArray, List.set_cons_zero, List.set_cons_succ]
        refine take_at (i := 11) (v := .bool false) rfl rfl (by kernel_rfl) (by kernel_rfl) (by kernel_rfl) (fun _ _ _ h => h) (Or.inl ⟨by rfl, ?_⟩) hH0 ?_
        · intro w hSw; (try dsimp only at hSw); obtain ⟨a5, a6, a7, a8⟩ := hSw; go_simp
        simp only [List.setIfInBounds_toArray, List.set_cons_zero, List.set_cons_succ]
        refine take_at (i := 12) (v := .int .i64 (t.col : Nat)) rfl rfl (by kernel_rfl) (by kernel_rfl) (by kernel_rfl) (fun _ _ _ h => h) (Or.inl ⟨by rfl, ?_⟩) hH0 ?_
        · intro w hSw; (try dsimp only at hSw); obtain ⟨a5, a6, a7, a8⟩ := hSw; go_simp
        simp only [List.setIfInBounds_toArray, List.set_cons_zero, List.set_cons_succ]
        refine take_at (i := 13) (v := .slice (some ⟨g, 0, none⟩) N c1) rfl rfl (by kernel_rfl) (by kernel_rfl) (by kernel_rfl) (fun _ _ _ h => h) (Or.inl ⟨by rfl, ?_⟩) hH0 ?_
        · intro w hSw; (try dsimp only at hSw); obtain ⟨a5, a6, a7, a8⟩ := hSw; go_simp
        simp only [List.setIfInBounds_toArray, List.set_cons_zero, List.set_cons_succ]
        refine take_at (i := 14) (v := .int .i64 (k : Nat)) rfl rfl (by kernel_rfl) (by kernel_rfl) (by kernel_rfl) (fun _ _ _ h => h) (Or.inl ⟨by rfl, ?_⟩) hH0 ?_
        · intro w hSw; (try dsimp only at hSw); obtain ⟨a5, a6, a7, a8⟩ := hSw; go_simp
        simp only [List.setIfInBounds_toArray, List.set_cons_zero, List.set_cons_succ]
        refine take_at (i := 15) (v := .pointer (some ⟨g, k * 8, none⟩)) rfl rfl (by kernel_rfl) (by kernel_rfl) (by kernel_rfl) (fun _ _ _ h => h) (Or.inl ⟨by rfl, ?_⟩) hH0 ?_
        · intro w hSw; (try dsimp only at hSw); obtain ⟨a5, a6, a7, a8⟩ := hSw; go_simp
        simp only [List.setIfInBounds_toArray, List.set_cons_zero, List.set_cons_succ]
        refine take_at (i := 16) (v := .pointer (some ⟨g, k * 8 + 7, none⟩)) rfl rfl (by kernel_rfl) (by kernel_rfl) (by kernel_rfl) (fun _ _ _ h => h) (Or.inl ⟨by rfl, ?_⟩) hH0 ?_
        · intro w hSw; (try dsimp only at hSw); obtain ⟨a5, a6, a7, a8⟩ := hSw; go_simp
        simp only [List.setIfInBounds_toArray, List.set_cons_zero, List.set_cons_succ]
        refine take_at (i := 17) (v := .int .i64 (t.col : Nat)) rfl rfl (by kernel_rfl) (by kernel_rfl) (by kernel_rfl) (fun _ _ _ h => h) (Or.inl ⟨by rfl, ?_⟩) hH0 ?_
        · intro w hSw; (try dsimp only at hSw); obtain ⟨a5, a6, a7, a8⟩ := hSw; go_simp
        simp only [List.setIfInBounds_toArray, List.set_cons_zero, List.set_cons_succ]
        refine take_at (i := 18) (v := .bool false) rfl rfl (by kernel_rfl) (by kernel_rfl) (by kernel_rfl) (fun _ _ _ h => h) (Or.inl ⟨by rfl, ?_⟩) hH0 ?_
        · intro w hSw; (try dsimp only at hSw); obtain ⟨a5, a6, a7, a8⟩ := hSw; go_simp
        simp only [List.setIfInBounds_toArray, List.set_cons_zero, List.set_cons_succ]
        refine take_at (i := 19) (v := .bool false) rfl rfl (by kernel_rfl) (by kernel_rfl) (by kernel_rfl) (fun _ _ _ h => h) (Or.inl ⟨by rfl, ?_⟩) hH0 ?_
        · intro w hSw; (try dsimp only at hSw); obtain ⟨a5, a6, a7, a8⟩ := hSw; go_simp
        simp only [List.setIfInBounds_toArray, List.set_cons_zero, List.set_cons_succ]
        refine take_at (i := 20) (v := .bool false) rfl rfl (by kernel_rfl) (by kernel_rfl) (by kernel_rfl) (fun _ _ _ h => h) (Or.inl ⟨by rfl, ?_⟩) hH0 ?_
        · intro w hSw; (try dsimp only at hSw); obtain ⟨a5, a6, a7, a8⟩ := hSw; go_simp
        simp only [List.setIfInBounds_toArray, List.set_cons_zero, List.set_cons_succ]
        refine take_at (i := 21) (v := .int .i64 (k : Nat)) rfl rfl (by kernel_rfl) (by kernel_rfl) (by kernel_rfl) (fun _ _ _ h => h) (Or.inl ⟨by rfl, ?_⟩) hH0 ?_
        · intro w hSw; (try dsimp only at hSw); obtain ⟨a5, a6, a7, a8⟩ := hSw; go_simp
        simp only [List.setIfInBounds_toArray, List.set_cons_zero, List.set_cons_succ]
        refine take_at (i := 22) (v := .bool true) rfl rfl (by kernel_rfl) (by kernel_rfl) (by kernel_rfl) (fun _ _ _ h => h) (Or.inl ⟨by rfl, ?_⟩) hH0 ?_
        · intro w hSw; (try dsimp only at hSw); obtain ⟨a5, a6, a7, a8⟩ := hSw; go_simp; exact HK.out
        simp only [List.setIfInBounds_toArray, List.set_cons_zero, List.set_cons_succ]
        refine take_at (i := 23) (v := .bool true) rfl rfl (by kernel_rfl) (by kernel_rfl) (by kernel_rfl) (fun _ _ _ h => h) (Or.inl ⟨by rfl, ?_⟩) hH0 ?_
        · intro w hSw; (try dsimp only at hSw); obtain ⟨a5, a6, a7, a8⟩ := hSw; go_simp
        simp only [List.setIfInBounds_toArray, List.set_cons_zero, List.set_cons_succ]
        refine take_at (i := 24) (v := .slice (some ⟨g, 0, none⟩) N c1) rfl rfl (by kernel_rfl) (by kernel_rfl) (by kernel_rfl) (fun _ _ _ h => h) (Or.inl ⟨by rfl, ?_⟩) hH0 ?_
        · intro w hSw; (try dsimp only at hSw); obtain ⟨a5, a6, a7, a8⟩ := hSw; go_simp
        simp only [List.setIfInBounds_toArray, List.set_cons_zero, List.set_cons_succ]
        refine take_at (i := 25) (v := .int .i64 (k : Nat)) rfl rfl (by kernel_rfl) (by kernel_rfl) (by kernel_rfl) (fun _ _ _ h => h) (Or.inl ⟨by rfl, ?_⟩) hH0 ?_
        · intro w hSw; (try dsimp only at hSw); obtain ⟨a5, a6, a7, a8⟩ := hSw; go_simp
        simp only [List.setIfInBounds_toArray, List.set_cons_zero, List.set_cons_succ]
        refine take_at (i := 26) (v := .pointer (some ⟨g, k * 8, none⟩)) rfl rfl (by kernel_rfl) (by kernel_rfl) (by kernel_rfl) (fun _ _ _ h => h) (Or.inl ⟨by rfl, ?_⟩) hH0 ?_
        · intro w hSw; (try dsimp only at hSw); obtain ⟨a5, a6, a7, a8⟩ := hSw; go_simp
        simp only [List.setIfInBounds_toArray, List.set_cons_zero, List.set_cons_succ]
        refine take_at (i := 27) (v := .pointer (some ⟨g, k * 8 + 5, none⟩)) rfl rfl (by kernel_rfl) (by kernel_rfl) (by kernel_rfl) (fun _ _ _ h => h) (Or.inl ⟨by rfl, ?_⟩) hH0 ?_
        · intro w hSw; (try dsimp only at hSw); obtain ⟨a5, a6, a7, a8⟩ := hSw; go_simp
        simp only [List.setIfInBounds_toArray, List.set_cons_zero, List.set_cons_succ]
        refine take_at (i := 28) (v := .int .i64 (t.pos : Nat)) rfl rfl (by kernel_rfl) (by kernel_rfl) (by kernel_rfl) (fun _ _ _ h => h) (Or.inl ⟨by rfl, ?_⟩) hH0 ?_
        · intro w hSw; (try dsimp only at hSw); obtain ⟨a5, a6, a7, a8⟩ := hSw; go_simp
        simp only [List.setIfInBounds_toArray, List.set_cons_zero, List.set_cons_succ]
        refine take_at (i := 29) (v := .slice (some ⟨g, 0, none⟩) N c1) rfl rfl (by kernel_rfl) (by kernel_rfl) (by kernel_rfl) (fun _ _ _ h => h) (Or.inl ⟨by rfl, ?_⟩) hH0 ?_
        · intro w hSw; (try dsimp only at hSw); obtain ⟨a5, a6, a7, a8⟩ := hSw; go_simp
        simp only [List.setIfInBounds_toArray, List.set_cons_zero, List.set_cons_succ]
        refine take_at (i := 30) (v := .int .i64 (k : Nat)) rfl rfl (by kernel_rfl) (by kernel_rfl) (by kernel_rfl) (fun _ _ _ h => h) (Or.inl ⟨by rfl, ?_⟩) hH0 ?_
        · intro w hSw; (try dsimp only at hSw); obtain ⟨a5, a6, a7, a8⟩ := hSw; go_simp
        simp only [List.setIfInBounds_toArray, List.set_cons_zero, List.set_cons_succ]
        refine take_at (i := 31) (v := .int .i64 (u : Nat)) rfl rfl (by kernel_rfl) (by kernel_rfl) (by kernel_rfl) (fun _ _ _ h => h) (Or.inl ⟨by rfl, ?_⟩) hH0 ?_
        · intro w hSw; (try dsimp only at hSw); obtain ⟨a5, a6, a7, a8⟩ := hSw; go_simp; rw [IntKind.wrap_i64]; omega
        simp only [List.setIfInBounds_toArray, List.set_cons_zero, List.set_cons_succ]
        refine take_at (i := 32) (v := .pointer (some ⟨g, u * 8, none⟩)) rfl rfl (by kernel_rfl) (by kernel_rfl) (by kernel_rfl) (fun _ _ _ h => h) (Or.inl ⟨by rfl, ?_⟩) hH0 ?_
        · intro w hSw; (try dsimp only at hSw); obtain ⟨a5, a6, a7, a8⟩ := hSw; go_simp
        simp only [List.setIfInBounds_toArray, List.set_cons_zero, List.set_cons_succ]
        refine take_at (i := 33) (v := .pointer (some ⟨g, u * 8 + 5, none⟩)) rfl rfl (by kernel_rfl) (by kernel_rfl) (by kernel_rfl) (fun _ _ _ h => h) (Or.inl ⟨by rfl, ?_⟩) hH0 ?_
        · intro w hSw; (try dsimp only at hSw); obtain ⟨a5, a6, a7, a8⟩ := hSw; go_simp
        simp only [List.setIfInBounds_toArray, List.set_cons_zero, List.set_cons_succ]
        refine take_at (i := 34) (v := .int .i64 (q : Nat)) rfl rfl (by kernel_rfl) (by kernel_rfl) (by kernel_rfl) (fun _ _ _ h => h) (Or.inl ⟨by rfl, ?_⟩) hH0 ?_
        · intro w hSw; (try dsimp only at hSw); obtain ⟨a5, a6, a7, a8⟩ := hSw; go_simp
        simp only [List.setIfInBounds_toArray, List.set_cons_zero, List.set_cons_succ]
        refine take_at (i := 35) (v := .bool false) rfl rfl (by kernel_rfl) (by kernel_rfl) (by kernel_rfl) (fun _ _ _ h => h) (Or.inl ⟨by rfl, ?_⟩) hH0 ?_
        · intro w hSw; (try dsimp only at hSw); obtain ⟨a5, a6, a7, a8⟩ := hSw; go_simp; exact HQT.out
        simp only [List.setIfInBounds_toArray, List.set_cons_zero, List.set_cons_succ]
        refine take_at (i := 36) (v := .bool false) rfl rfl (by kernel_rfl) (by kernel_rfl) (by kernel_rfl) (fun _ _ _ h => h) (Or.inl ⟨by rfl, ?_⟩) hH0 ?_
        · intro w hSw; (try dsimp only at hSw); obtain ⟨a5, a6, a7, a8⟩ := hSw; go_simp
        simp only [List.setIfInBounds_toArray, List.set_cons_zero, List.set_cons_succ]
        refine take_at (i := 37) (v := .bool false) rfl rfl (by kernel_rfl) (by kernel_rfl) (by kernel_rfl) (fun _ _ _ h => h) (Or.inl ⟨by rfl, ?_⟩) hH0 ?_
        · intro w hSw; (try dsimp only at hSw); obtain ⟨a5, a6, a7, a8⟩ := hSw; go_simp
        simp only [List.setIfInBounds_toArray, List.set_cons_zero, List.set_cons_succ]
        refine wpAnyH_done (by kernel_rfl) ?_ _
        refine NoPanic.normal ?_
        have HD : Hid (Below w1.heap.size w1 w2.drew) := HB2.out.trans (below_drewN (Below.refl _ w2) 1)
        clear hH0 HB2
        clear b5 b6 b7 d5
        have hft := HF.out t HT.out
        have hpl := HAT.out k t HT.out
        obtain ⟨R, hR⟩ : ∃ R, k % n = R := ⟨_, rfl⟩
        have hRn : R < n := by rw [← hR]; exact Nat.mod_lt _ hb0
        obtain ⟨x, hx⟩ : ∃ x, bt[R]? = some x := ⟨bt[R]'(by rw [HBN.out]; exact hRn), List.getElem?_eq_getElem _⟩
        have BD := HB1.out.trans (HD.out.mono HB1.out.size)
        have e5 := (HI.out.row HD.out k t HT.out).c5
        have e6 := (BD.cell (p := ⟨gB, off + R, none⟩) HGB.out).trans (HBY.out R x hx)
        obtain ⟨PC, hPC⟩ : ∃ PC, (s.drop fr).take (t.pos - fr) = PC := ⟨_, rfl⟩
        have hpcl : PC.length = t.pos - fr := by rw [← hPC, List.length_take, List.length_drop]; omega
        have hexp : (ByteArray.mk s.toArray).extract fr t.pos = ByteArray.mk PC.toArray := by rw [HEX.out, List.drop_take, hPC]
        obtain ⟨XK, hXK⟩ : ∃ XK, xk bt k = XK := ⟨_, rfl⟩
        have hxl : XK.length ≤ 8 := by rw [← hXK]; exact okX_len (xk_ok bt k)
        have HJ : Hid (XK = bxL.getD (x.toNat % 5) []) := by
          show XK = _
          rw [← hXK]; unfold xk
          rw [HBN.out, hR]
          have : bt.getD R 0 = x := by rw [List.getD_eq_getElem?_getD, hx]; rfl
          rw [this]
        obtain ⟨T1, hT1⟩ : ∃ T1, tx ++ PC = T1 := ⟨_, rfl⟩
        obtain ⟨T2, hT2⟩ : ∃ T2, T1 ++ XK = T2 := ⟨_, rfl⟩
        have t1l : T1.length = tx.length + PC.length := by rw [← hT1, List.length_append]
        have t2l : T2.length = T1.length + XK.length := by rw [← hT2, List.length_append]
        have z1 : ByteArray.mk tx.toArray ++ ByteArray.mk PC.toArray = ByteArray.mk T1.toArray := by rw [add_mk, hT1]
        have z2 : ByteArray.mk T1.toArray ++ ByteArray.mk XK.toArray = ByteArray.mk T2.toArray := by rw [add_mk, hT2]
        have hzp : (ByteArray.mk PC.toArray).size = PC.length := size_mk PC
        have hz1 : (ByteArray.mk T1.toArray).size = T1.length := size_mk T1
        have hzx : (ByteArray.mk XK.toArray).size = XK.length := size_mk XK
        have z3 : tx.length + PC.length ≤ 9223372036854775807 := by omega
        have z4 : T1.length + XK.length ≤ 9223372036854775807 := by omega
        have HT2 : Hid (T2 ++ bld s (xk bt) t.pos (k + 1) (X1.drop (k + 1)) = T) := by
          show _ = _
          have e1 := HTX.out
          have e2 : X1.drop k = t :: X1.drop (k + 1) := by
            obtain ⟨h1, h2⟩ := List.getElem?_eq_some_iff.1 HT.out
            rw [List.drop_eq_getElem_cons h1, h2]
          rw [e2, bld, hPC, hXK] at e1
          rw [← hT2, ← hT1, ← e1]
          simp [List.append_assoc]
        have HNX : Hid (∀ u, X1[k + 1]? = some u → t.pos ≤ u.pos) := fun u hu => Nat.le_of_lt (HLT.out k t u HT.out hu)
        have HTL : Hid (T2.length ≤ t.pos + 8 * (k + 1)) := by show _ ≤ _; omega
        have hrem : Int.tmod (k : Int) (n : Int) = (R : Int) := by rw [← hR]; rfl
        have hrem5 : Int.tmod (x.toNat : Int) 5 = ((x.toNat % 5 : Nat) : Int) := rfl
        obtain ⟨J, hJ⟩ : ∃ J, x.toNat % 5 = J := ⟨_, rfl⟩
        have hJ5 : J < 5 := by rw [← hJ]; exact Nat.mod_lt _ (by decide)
        rw [hJ] at hrem5 HJ
        have f1 : (fr : Int) ≤ (t.pos : Int) := by omega
        have f2 : (t.pos : Int) ≤ (s.length : Int) := by omega
        have f3 : (R : Int) < (n : Int) := by omega
        have f4 : (J : Int) < 5 := by omega
        have f5 : fr ≤ t.pos := hft
        have f6 : t.pos ≤ s.length := hpl
        have HD2 : Hid (Below w1.heap.size w1 w2.drew) := HD.out
        generalize w2.drew = w3 at *
        have BA : Below w3.heap.size w3 (w3.alloc (.cells #[.string ⟨#[]⟩, .string ⟨#[32]⟩, .string ⟨#[10]⟩, .string ⟨#[47, 42, 32, 195, 169, 32, 42, 47]⟩, .string ⟨#[32, 45, 45, 39, 10]⟩] 9)).drew := below_drewN ((Below.refl _ w3).alloc (Nat.le_refl _) _) 1
        have eJ : ((w3.alloc (.cells #[.string ⟨#[]⟩, .string ⟨#[32]⟩, .string ⟨#[10]⟩, .string ⟨#[47, 42, 32, 195, 169, 32, 42, 47]⟩, .string ⟨#[32, 45, 45, 39, 10]⟩] 9)).drew).cell? ⟨w3.heap.size, J, none⟩ = some (.string ⟨XK.toArray⟩) := by
          have h := five w3 9 J hJ5
          rw [← HJ.out] at h
          exact h
        have g5 := (BA.cell (p := ⟨g, k * 8 + 5, none⟩) (World.block_lt_of_cell? w3 _ e5)).trans e5
        have g6 := (BA.cell (p := ⟨gB, off + R, none⟩) (World.block_lt_of_cell? w3 _ e6)).trans e6
        have HA : Hid (Below w3.heap.size w3 (w3.alloc (.cells #[.string ⟨#[]⟩, .string ⟨#[32]⟩, .string ⟨#[10]⟩, .string ⟨#[47, 42, 32, 195, 169, 32, 42, 47]⟩, .string ⟨#[32, 45, 45, 39, 10]⟩] 9)).drew) := BA
        have HJC : Hid (((w3.alloc (.cells #[.string ⟨#[]⟩, .string ⟨#[32]⟩, .string ⟨#[10]⟩, .string ⟨#[47, 42, 32, 195, 169, 32, 42, 47]⟩, .string ⟨#[32, 45, 45, 39, 10]⟩] 9)).drew).cell? ⟨w3.heap.size, J, none⟩ = some (.string ⟨XK.toArray⟩)) := eJ
        have H5 : Hid (((w3.alloc (.cells #[.string ⟨#[]⟩, .string ⟨#[32]⟩, .string ⟨#[10]⟩, .string ⟨#[47, 42, 32, 195, 169, 32, 42, 47]⟩, .string ⟨#[32, 45, 45, 39, 10]⟩] 9)).drew).cell? ⟨g, k * 8 + 5, none⟩ = some (.int .i64 (t.pos : Nat))) := g5
        have H6 : Hid (((w3.alloc (.cells #[.string ⟨#[]⟩, .string ⟨#[32]⟩, .string ⟨#[10]⟩, .string ⟨#[47, 42, 32, 195, 169, 32, 42, 47]⟩, .string ⟨#[32, 45, 45, 39, 10]⟩] 9)).drew).cell? ⟨gB, off + R, none⟩ = some (.int .u8 (x.toNat : Int))) := g6
        clear BA eJ g5 g6 HJ
        clear HD BD hx hPC hXK hT1 hT2 hR hJ hft hpl hpcl hxl t1l t2l HTX HF htl
        go_wp2_with fail
        refine wp_region_noPanic ?_
        refine wp_region_held_drew (S := fun w' => w'.cell? ⟨g, k * 8 + 5, none⟩ = some (.int .i64 (t.pos : Nat)) ∧ w'.cell? ⟨gB, off + R, none⟩ = some (.int .u8 (x.toNat : Int))) (by kernel_rfl) (⟨e5, e6⟩) (fun hH0 => ?_)
        refine take_at (i := 0) (v := .string ⟨tx.toArray⟩) rfl rfl (by kernel_rfl) (by kernel_rfl) (by kernel_rfl) (fun _ _ _ h => h) (Or.inl ⟨by rfl, ?_⟩) hH0 ?_
        · intro w hSw; (try dsimp only at hSw); obtain ⟨a5, a6⟩ := hSw; go_simp
        simp only [List.setIfInBounds_toArray, List.set_cons_zero, List.set_cons_succ]
        refine take_at (i := 1) (v := .string ⟨s.toArray⟩) rfl rfl (by kernel_rfl) (by kernel_rfl) (by kernel_rfl) (fun _ _ _ h => h) (Or.inl ⟨by rfl, ?_⟩) hH0 ?_
        · intro w hSw; (try dsimp only at hSw); obtain ⟨a5, a6⟩ := hSw; go_simp
        simp only [List.setIfInBounds_toArray, List.set_cons_zero, List.set_cons_succ]
        refine take_at (i := 2) (v := .int .i64 (fr : Nat)) rfl rfl (by kernel_rfl) (by kernel_rfl) (by kernel_rfl) (fun _ _ _ h => h) (Or.inl ⟨by rfl, ?_⟩) hH0 ?_
        · intro w hSw; (try dsimp only at hSw); obtain ⟨a5, a6⟩ := hSw; go_simp
        simp only [List.setIfInBounds_toArray, List.set_cons_zero, List.set_cons_succ]
        refine take_at (i := 3) (v := .slice (some ⟨g, 0, none⟩) N c1) rfl rfl (by kernel_rfl) (by kernel_rfl) (by kernel_rfl) (fun _ _ _ h => h) (Or.inl ⟨by rfl, ?_⟩) hH0 ?_
        · intro w hSw; (try dsimp only at hSw); obtain ⟨a5, a6⟩ := hSw; go_simp
        simp only [List.setIfInBounds_toArray, List.set_cons_zero, List.set_cons_succ]
        refine take_at (i := 4) (v := .int .i64 (k : Nat)) rfl rfl (by kernel_rfl) (by kernel_rfl) (by kernel_rfl) (fun _ _ _ h => h) (Or.inl ⟨by rfl, ?_⟩) hH0 ?_
        · intro w hSw; (try dsimp only at hSw); obtain ⟨a5, a6⟩ := hSw; go_simp
        simp only [List.setIfInBounds_toArray, List.set_cons_zero, List.set_cons_succ]
        refine take_at (i := 5) (v := .pointer (some ⟨g, k * 8, none⟩)) rfl rfl (by kernel_rfl) (by kernel_rfl) (by kernel_rfl) (fun _ _ _ h => h) (Or.inl ⟨by rfl, ?_⟩) hH0 ?_
        · intro w hSw; (try dsimp only at hSw); obtain ⟨a5, a6⟩ := hSw; go_simp
        simp only [List.setIfInBounds_toArray, List.set_cons_zero, List.set_cons_succ]
        refine take_at (i := 6) (v := .pointer (some ⟨g, k * 8 + 5, none⟩)) rfl rfl (by kernel_rfl) (by kernel_rfl) (by kernel_rfl) (fun _ _ _ h => h) (Or.inl ⟨by rfl, ?_⟩) hH0 ?_
        · intro w hSw; (try dsimp only at hSw); obtain ⟨a5, a6⟩ := hSw; go_simp
        simp only [List.setIfInBounds_toArray, List.set_cons_zero, List.set_cons_succ]
        refine take_at (i := 7) (v := .int .i64 (t.pos : Nat)) rfl rfl (by kernel_rfl) (by kernel_rfl) (by kernel_rfl) (fun _ _ _ h => h) (Or.inl ⟨by rfl, ?_⟩) hH0 ?_
        · intro w hSw; (try dsimp only at hSw); obtain ⟨a5, a6⟩ := hSw; go_simp
        simp only [List.setIfInBounds_toArray, List.set_cons_zero, List.set_cons_succ]
        refine take_at (i := 8) (v := .string ⟨PC.toArray⟩) rfl rfl (by kernel_rfl) (by kernel_rfl) (by kernel_rfl) (fun _ _ _ h => h) (Or.inl ⟨by rfl, ?_⟩) hH0 ?_
        · intro w hSw; (try dsimp only at hSw); obtain ⟨a5, a6⟩ := hSw; go_simp
        simp only [List.setIfInBounds_toArray, List.set_cons_zero, List.set_cons_succ]
        refine take_at (i := 9) (v := .string ⟨T1.toArray⟩) rfl rfl (by kernel_rfl) (by kernel_rfl) (by kernel_rfl) (fun _ _ _ h => h) (Or.inl ⟨by rfl, ?_⟩) hH0 ?_
        · intro w hSw; (try dsimp only at hSw); obtain ⟨a5, a6⟩ := hSw; go_simp
        simp only [List.setIfInBounds_toArray, List.set_cons_zero, List.set_cons_succ]
        refine take_at (i := 11) (v := .slice (some ⟨gB, off, none⟩) n C) rfl rfl (by kernel_rfl) (by kernel_rfl) (by kernel_rfl) (fun _ _ _ h => h) (Or.inl ⟨by rfl, ?_⟩) hH0 ?_
        · intro w hSw; (try dsimp only at hSw); obtain ⟨a5, a6⟩ := hSw; go_simp
        simp only [List.setIfInBounds_toArray, List.set_cons_zero, List.set_cons_succ]
        refine take_at (i := 12) (v := .int .i64 (k : Nat)) rfl rfl (by kernel_rfl) (by kernel_rfl) (by kernel_rfl) (fun _ _ _ h => h) (Or.inl ⟨by rfl, ?_⟩) hH0 ?_
        · intro w hSw; (try dsimp only at hSw); obtain ⟨a5, a6⟩ := hSw; go_simp
        simp only [List.setIfInBounds_toArray, List.set_cons_zero, List.set_cons_succ]
        refine take_at (i := 13) (v := .slice (some ⟨gB, off, none⟩) n C) rfl rfl (by kernel_rfl) (by kernel_rfl) (by kernel_rfl) (fun _ _ _ h => h) (Or.inl ⟨by rfl, ?_⟩) hH0 ?_
        · intro w hSw; (try dsimp only at hSw); obtain ⟨a5, a6⟩ := hSw; go_simp
        simp only [List.setIfInBounds_toArray, List.set_cons_zero, List.set_cons_succ]
        refine take_at (i := 14) (v := .int .i64 (n : Nat)) rfl rfl (by kernel_rfl) (by kernel_rfl) (by kernel_rfl) (fun _ _ _ h => h) (Or.inl ⟨by rfl, ?_⟩) hH0 ?_
        · intro w hSw; (try dsimp only at hSw); obtain ⟨a5, a6⟩ := hSw; go_simp
        simp only [List.setIfInBounds_toArray, List.set_cons_zero, List.set_cons_succ]
        refine take_at (i := 15) (v := .int .i64 (R : Nat)) rfl rfl (by kernel_rfl) (by kernel_rfl) (by kernel_rfl) (fun _ _ _ h => h) (Or.inl ⟨by rfl, ?_⟩) hH0 ?_
        · intro w hSw; (try dsimp only at hSw); obtain ⟨a5, a6⟩ := hSw; go_simp; omega
        simp only [List.setIfInBounds_toArray, List.set_cons_zero, List.set_cons_succ]
        refine take_at (i := 16) (v := .pointer (some ⟨gB, off + R, none⟩)) rfl rfl (by kernel_rfl) (by kernel_rfl) (by kernel_rfl) (fun _ _ _ h => h) (Or.inl ⟨by rfl, ?_⟩) hH0 ?_
        · intro w hSw; (try dsimp only at hSw); obtain ⟨a5, a6⟩ := hSw; go_simp
        simp only [List.setIfInBounds_toArray, List.set_cons_zero, List.set_cons_succ]
        refine take_at (i := 17) (v := .int .u8 (x.toNat : Int)) rfl rfl (by kernel_rfl) (by kernel_rfl) (by kernel_rfl) (fun _ _ _ h => h) (Or.inl ⟨by rfl, ?_⟩) hH0 ?_
        · intro w hSw; (try dsimp only at hSw); obtain ⟨a5, a6⟩ := hSw; go_simp
        simp only [List.setIfInBounds_toArray, List.set_cons_zero, List.set_cons_succ]
        refine take_at (i := 18) (v := .int .u8 (J : Nat)) rfl rfl (by kernel_rfl) (by kernel_rfl) (by kernel_rfl) (fun _ _ _ h => h) (Or.inl ⟨by rfl, ?_⟩) hH0 ?_
        · intro w hSw; (try dsimp only at hSw); obtain ⟨a5, a6⟩ := hSw; go_simp
        simp only [List.setIfInBounds_toArray, List.set_cons_zero, List.set_cons_succ]
        refine wpAnyH_ready (rs := [10]) (by kernel_rfl) (by simp) ?_
        refine AllReadyH.cons rfl (fun K hK => ?_) AllReadyH.nil
        go_simp
        refine hK.out _ _ ⟨H5.out, H6.out⟩ (fun _ => ?_)
        clear hK K hH0 e5 e6
        generalize (w3.alloc (.cells #[.string ⟨#[]⟩, .string ⟨#[32]⟩, .string ⟨#[10]⟩, .string ⟨#[47, 42, 32, 195, 169, 32, 42, 47]⟩, .string ⟨#[32, 45, 45, 39, 10]⟩] 9)).drew = W4 at *
        refine wpAnyH_strong (S' := fun w' => w'.cell? ⟨g, k * 8 + 5, none⟩ = some (.int .i64 (t.pos : Nat)) ∧ w'.cell? ⟨gB, off + R, none⟩ = some (.int .u8 (x.toNat : Int)) ∧ w'.cell? ⟨w3.heap.size, J, none⟩ = some (.string ⟨XK.toArray⟩)) (fun _ h => ⟨h.1, h.2.1⟩) _ _ _ _ ?_
        have hH2 : (fun w' : World => w'.cell? ⟨g, k * 8 + 5, none⟩ = some (.int .i64 (t.pos : Nat)) ∧ w'.cell? ⟨gB, off + R, none⟩ = some (.int .u8 (x.toNat : Int)) ∧ w'.cell? ⟨w3.heap.size, J, none⟩ = some (.string ⟨XK.toArray⟩)) W4 := ⟨H5.out, H6.out, HJC.out⟩
        refine take_at (i := 19) (v := .pointer (some ⟨w3.heap.size, J, none⟩)) rfl rfl (by kernel_rfl) (by kernel_rfl) (by kernel_rfl) (fun _ _ _ h => h) (Or.inl ⟨by rfl, ?_⟩) hH2 ?_
        · intro w hSw; (try dsimp only at hSw); obtain ⟨a5, a6, a7⟩ := hSw; go_simp
        simp only [List.setIfInBounds_toArray, List.set_cons_zero, List.set_cons_succ]
        refine take_at (i := 20) (v := .string ⟨XK.toArray⟩) rfl rfl (by kernel_rfl) (by kernel_rfl) (by kernel_rfl) (fun _ _ _ h => h) (Or.inl ⟨by rfl, ?_⟩) hH2 ?_
        · intro w hSw; (try dsimp only at hSw); obtain ⟨a5, a6, a7⟩ := hSw; go_simp
        simp only [List.setIfInBounds_toArray, List.set_cons_zero, List.set_cons_succ]
        refine take_at (i := 21) (v := .string ⟨T2.toArray⟩) rfl rfl (by kernel_rfl) (by kernel_rfl) (by kernel_rfl) (fun _ _ _ h => h) (Or.inl ⟨by rfl, ?_⟩) hH2 ?_
        · intro w hSw; (try dsimp only at hSw); obtain ⟨a5, a6, a7⟩ := hSw; go_simp
        simp only [List.setIfInBounds_toArray, List.set_cons_zero, List.set_cons_succ]
        refine take_at (i := 22) (v := .string ⟨T2.toArray⟩) rfl rfl (by kernel_rfl) (by kernel_rfl) (by kernel_rfl) (fun _ _ _ h => h) (Or.inl ⟨by rfl, ?_⟩) hH2 ?_
        · intro w hSw; (try dsimp only at hSw); obtain ⟨a5, a6, a7⟩ := hSw; go_simp
        simp only [List.setIfInBounds_toArray, List.set_cons_zero, List.set_cons_succ]
        refine wpAnyH_done (by kernel_rfl) ?_ _
        refine NoPanic.normal ?_
        have g5 := H5.out
        clear hH2 HJC H6 H5
        go_wp2_with fail
        go_roundw
        case rel => exact ⟨k + 1, t.pos, T2, rfl, rfl, by go_num, hlt, f6, HTL.out, HNX.out, HT2.out, HD2.out.trans (HA.out.mono HD2.out.size)⟩
        case measure => simp [intOf]; omega
    · have hlti : ¬ (k : Int) < (N : Int) := by omega
      have hbe := hbr.out
      have hkN : k = N := by omega
      have hTe : tx ++ s.drop fr = T := by
        have h := HTX.out
        have hd : X1.drop k = [] := List.drop_eq_nil_of_le (by rw [HN.out]; omega)
        rw [hd, bld] at h
        exact h
      obtain ⟨D, hD⟩ : ∃ D, s.drop fr = D := ⟨_, rfl⟩
      rw [hD] at hTe
      have hDl : D.length = s.length - fr := by rw [← hD, List.length_drop]
      have hexr : (ByteArray.mk s.toArray).extract fr s.length = ByteArray.mk D.toArray := by rw [HEX.out, List.take_length, hD]
      have zT : ByteArray.mk tx.toArray ++ ByteArray.mk D.toArray = ByteArray.mk T.toArray := by rw [add_mk, hTe]
      have hzD : (ByteArray.mk D.toArray).size = D.length := size_mk D
      have hzT : (ByteArray.mk T.toArray).size = T.length := size_mk T
      have z3 : tx.length + D.length ≤ 9223372036854775807 := by omega
      have hfi : (fr : Int) ≤ (s.length : Int) := by omega
      clear HQ HLT hbr hlt hkN hTe hD hDl HTX HF htl HAT HBY HGB HBN HEX HTE
      by_cases hlg : 65536 < T.length
      · have TT2 : Hid (∀ w, LxW w → Calls Tryz.prog 17 #[.string ⟨T.toArray⟩] w fun e w' => TkA ⟨[], 0, 2⟩ w.heap.size e w' ∧ Below w.heap.size w w') := fun w h => (HLO.out hlg) ▸ TT.out w h
        have hlgi : (65536 : Int) < (T.length : Int) := by omega
        clear HLO HSH TT
        go_wp2_with fail
        refine (TT2.out _ (HW.out.below (HB1.out.trans (hbe.mono HB1.out.size)))).mono ?_
        rintro e w4 ⟨ha4, hb4⟩
        obtain ⟨p4, c4, X4, rfl, i4, j4, k4, q4, l4, m4⟩ := ha4.open2
        have B4 := hbe.trans (hb4.mono hbe.size)
        have B5 := HB1.out.trans (B4.mono HB1.out.size)
        have e4 := m4 (by decide)
        subst e4
        clear l4 m4 q4 j4 k4 ha4 hb4
        go_wp2_with fail
        refine (LV.out _ (HW.out.below B5)).mono ?_
        rintro e wz ⟨rfl, hbz⟩
        have BZ := B5.trans (hbz.mono B5.size)
        go_wp2_with fail
        go_ret
        exact ⟨rfl, BZ⟩
      · obtain ⟨hw0, hbr2⟩ := HSH.out (by omega)
        have hlgi : ¬ (65536 : Int) < (T.length : Int) := by omega
        have TT2 : Hid (∀ w, LxW w → Calls Tryz.prog 17 #[.string ⟨T.toArray⟩] w fun e w' => TkA ⟨(tks T).l, (tks T).pos, 0⟩ w.heap.size e w' ∧ Below w.heap.size w w') := fun w h => by
          have h2 := TT.out w h
          have e : tks T = ⟨(tks T).l, (tks T).pos, 0⟩ := by rw [← hw0]
          rw [e] at h2
          exact h2
        clear HLO HSH TT hw0
        generalize (tks T).l = M at *
        generalize (tks T).pos = pm at *
        have hML : M.length = N := by
          have h := congrArg List.length hbr2
          rw [List.length_map, List.length_map] at h
          rw [h]; exact HN.out
        have TK : Hid (∀ (p : Option Addr) (c : Nat) w', tokIn w' p M → tokIn w' (some ⟨g, 0, none⟩) X1 → Calls Tryz.prog 18 #[.slice p N c, .slice (some ⟨g, 0, none⟩) N c1, .bool false] w' fun e w'' => e = .returned (.bool true) ∧ Below w'.heap.size w' w'') := fun p c w' h1 h2 => tokens_any p _ c c1 N M X1 false w' h1 h2 hML HN.out (by omega) hbr2 (fun h => by cases h)
        have HML : Hid (M.length = N) := hML
        clear hbr2 hML
        go_wp2_with fail
        refine (TT2.out _ (HW.out.below (HB1.out.trans (hbe.mono HB1.out.size)))).mono ?_
        rintro e w4 ⟨ha4, hb4⟩
        obtain ⟨p4, c4, X4, rfl, i4, j4, k4, q4, l4, m4⟩ := ha4.open2
        have B4 := hbe.trans (hb4.mono hbe.size)
        have e4 := l4 rfl
        subst e4
        have n4 := HML.out
        rw [n4]
        clear l4 m4 q4 j4 k4 ha4 hb4
        go_wp2_with fail
        refine (TK.out _ _ _ i4 (HI.out.below B4)).mono ?_
        rintro e w5 ⟨rfl, hb5⟩
        have B5 := HB1.out.trans ((B4.trans (hb5.mono B4.size)).mono HB1.out.size)
        go_wp2_with fail
        refine (LV.out _ (HW.out.below B5)).mono ?_
        rintro e wz ⟨rfl, hbz⟩
        have BZ := B5.trans (hbz.mono B5.size)
        go_wp2_with fail
        go_ret
        exact ⟨rfl, BZ⟩
end Go.Proofs.YtclekihmhicpaaaGreatDoor
