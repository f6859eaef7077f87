/-
  The walk of the statement LexPlaces, with nothing put between.
-/
import Derived.Test.YtclekihmhicpaaaGreatDoorLqF
namespace Go.Proofs.YtclekihmhicpaaaGreatDoor
open Go.RowKit Go.Shelf

set_option maxHeartbeats 4000000 in
set_option maxRecDepth 1000000 in
theorem LexPlaces_none (s : List UInt8) (P : Option Addr) (C : Nat) (w : World) (hs : s.length ≤ 2000000) (hW : LxW w) (he : (tks s).why = 0) :
    Calls Tryz.prog 5 #[.string ⟨s.toArray⟩, .slice P 0 C] w fun e w' => e = .returned (.bool true) ∧ Below w.heap.size w w' := by
  have TA : Hid (∀ w, LxW w → Calls Tryz.prog 17 #[.string ⟨s.toArray⟩] w fun e w' => TkA (tks s) w.heap.size e w' ∧ Below w.heap.size w w') := fun w h => Tokens_any s w h
  have LV : Hid (∀ w, LxW w → Calls Tryz.prog 14 #[] w fun e w' => e = .returned (.bool true) ∧ Below w.heap.size w w') := lives_any
  have HW : Hid (LxW w) := hW
  have hzs : (ByteArray.mk s.toArray).size = s.length := size_mk s
  obtain ⟨hat, hpw⟩ := tks_at he
  have hsl := tks_len he
  have hQ0 : ∀ (k : Nat) t w, (tks s).l[k]? = some t → LxW w → Calls Tryz.prog 6 #[.string ⟨s.toArray⟩, .int .i64 (t.pos : Nat)] w fun e w' => e = .returned (.tuple #[.int .i64 (t.line : Nat), .int .i64 (t.col : Nat), .int .i64 0]) ∧ Below w.heap.size w w' := fun k t w ht h => by
    have h1 := hat t (List.mem_of_getElem? ht)
    have h2 := Where_any s t.pos w h1.le hs h.t
    rw [h1.whr] at h2
    exact h2
  have hlt0 : ∀ (k : Nat) t u, (tks s).l[k]? = some t → (tks s).l[k + 1]? = some u → t.pos < u.pos := fun k t u ht hu => by
    obtain ⟨h1, e1⟩ := List.getElem?_eq_some_iff.1 ht
    obtain ⟨h2, e2⟩ := List.getElem?_eq_some_iff.1 hu
    have := List.pairwise_iff_getElem.1 hpw k (k + 1) h1 h2 (by omega)
    rw [e1, e2] at this
    exact this
  have hcount : (tks s).l.length ≤ s.length + 1 := tks_count he
  have hrow0 : (tks s).l ≠ [] := tks_some he
  have TS : Hid (tks s = ⟨(tks s).l, (tks s).pos, 0⟩) := by show _ = _; rw [← he]
  generalize hL : (tks s).l = L at *
  generalize (tks s).pos = pa at *
  have TA : Hid (∀ w, LxW w → Calls Tryz.prog 17 #[.string ⟨s.toArray⟩] w fun e w' => TkA ⟨L, pa, 0⟩ w.heap.size e w' ∧ Below w.heap.size w w') := fun w h => TS.out ▸ TA.out w h
  have HQ : Hid (∀ (k : Nat) t w, L[k]? = some t → LxW w → Calls Tryz.prog 6 #[.string ⟨s.toArray⟩, .int .i64 (t.pos : Nat)] w fun e w' => e = .returned (.tuple #[.int .i64 (t.line : Nat), .int .i64 (t.col : Nat), .int .i64 0]) ∧ Below w.heap.size w w') := hQ0
  have HLT : Hid (∀ (k : Nat) t u, L[k]? = some t → L[k + 1]? = some u → t.pos < u.pos) := hlt0
  clear hQ0 hlt0 hat hpw he hL TS hs hW
  go_enter Tryz.func5, Tryz.ntmps5
  go_wp2_with fail
  refine (TA.out _ HW.out).mono ?_
  rintro e w1 ⟨ha, hb1⟩
  obtain ⟨p1, c1, X1, rfl, i1, j1, k1, q1, l1, m1⟩ := ha.open2
  have e1 := l1 rfl
  subst e1
  obtain ⟨g, rfl⟩ : ∃ g, p1 = some ⟨g, 0, none⟩ := by
    rcases q1 with ⟨_, h, _⟩ | h
    · exact absurd h hrow0
    · exact h
  obtain ⟨N, hN⟩ : ∃ N, X1.length = N := ⟨_, rfl⟩
  rw [hN] at j1 hcount ⊢
  have HI : Hid (tokIn w1 (some ⟨g, 0, none⟩) X1) := i1
  have HN : Hid (X1.length = N) := hN
  have TK : Hid (∀ (p : Option Addr) (c : Nat) w', tokIn w' p X1 → tokIn w' (some ⟨g, 0, none⟩) X1 → Calls Tryz.prog 18 #[.slice p N c, .slice (some ⟨g, 0, none⟩) N c1, .bool false] w' fun e w'' => e = .returned (.bool true) ∧ Below w'.heap.size w' w'') := fun p c w' h1 h2 => tokens_any p _ c c1 N X1 X1 false w' h1 h2 hN hN (by omega) rfl (fun h => by cases h)
  have HB1 : Hid (Below w.heap.size w w1) := hb1
  clear l1 m1 q1 i1 ha hrow0 hN hb1
  have hN1 : (N : Int) ≤ 65537 := by omega
  have hex : (ByteArray.mk s.toArray).extract 0 s.length = ByteArray.mk s.toArray := by
    have h := extract_mk s 0 s.length
    rw [List.take_length, List.drop_zero] at h
    exact h
  have hadd : ByteArray.mk #[] ++ ByteArray.mk s.toArray = ByteArray.mk s.toArray := add_mk [] s
  have hsi : (s.length : Int) ≤ 65536 := by omega
  have hsj : ¬ (65536 : Int) < (s.length : Int) := by omega
  go_wp2_with fail
  go_loopw [8, 9, 10] (fun s8 s9 s10 wr => ∃ k : Nat, s8 = .string ⟨#[]⟩ ∧ s9 = .int .i64 0 ∧ s10 = .int .i64 k ∧ k ≤ N ∧ Hid (Below w1.heap.size w1 wr)) (fun _ _ s10 _ => N - (intOf s10).toNat)
  case atStart => exact ⟨0, rfl, rfl, rfl, Nat.zero_le _, Below.refl _ _⟩
  case round =>
    obtain ⟨k, rfl, rfl, rfl, hk, hbr⟩ := hrel
    by_cases hlt : k < N
    · have hlti : (k : Int) < (N : Int) := by omega
      obtain ⟨t, ht⟩ : ∃ t, X1[k]? = some t := ⟨X1[k]'(by rw [HN.out]; exact hlt), List.getElem?_eq_getElem _⟩
      have a5 := (HI.out.row hbr.out k t ht).c5
      have WH : Hid (∀ w, LxW w → Calls Tryz.prog 6 #[.string ⟨s.toArray⟩, .int .i64 (t.pos : Nat)] w fun e w' => e = .returned (.tuple #[.int .i64 (t.line : Nat), .int .i64 (t.col : Nat), .int .i64 0]) ∧ Below w.heap.size w w') := fun w h => HQ.out k t w ht h
      have hln : ((t.line : Int) != (t.line : Int)) = false := by simp
      have hcn : ((t.col : Int) != (t.col : Int)) = false := by simp
      have HT : Hid (X1[k]? = some t) := ht
      clear ht
      go_wp2_with fail
      refine (WH.out _ (HW.out.below (HB1.out.trans (hbr.out.mono HB1.out.size)))).mono ?_
      rintro e w2 ⟨rfl, hb2⟩
      have B2 := hbr.out.trans (hb2.mono hbr.out.size)
      have y2 := HI.out.row B2 k t HT.out
      have b5 := y2.c5
      have b6 := y2.c6
      have b7 := y2.c7
      have HB2 : Hid (Below w1.heap.size w1 w2) := B2
      clear hbr hb2 a5 y2 B2 WH
      have key : ∃ (u : Nat) (q : Nat), (k = 0 ∧ u = 0 ∧ q = 0) ∨ (k = u + 1 ∧ w2.cell? ⟨g, u * 8 + 5, none⟩ = some (.int .i64 (q : Nat)) ∧ q < t.pos) := by
        rcases k with _ | u
        · exact ⟨0, 0, Or.inl ⟨rfl, rfl, rfl⟩⟩
        · obtain ⟨v, hv⟩ : ∃ v, X1[u]? = some v := ⟨X1[u]'(by rw [HN.out]; omega), List.getElem?_eq_getElem _⟩
          exact ⟨u, v.pos, Or.inr ⟨rfl, (HI.out.row HB2.out u v hv).c5, HLT.out u v t hv HT.out⟩⟩
      obtain ⟨u, q, key⟩ := key
      rcases key with ⟨hk0, _, _⟩ | ⟨hk1, d5, hq⟩
      · have HK : Hid (k = 0) := hk0
        clear hk0
        go_wp2_with fail
        refine wp_region_noPanic ?_
        refine wp_region_held_drew (S := fun w' => w'.cell? ⟨g, k * 8 + 5, none⟩ = some (.int .i64 (t.pos : Nat)) ∧ w'.cell? ⟨g, k * 8 + 6, none⟩ = some (.int .i64 (t.line : Nat)) ∧ w'.cell? ⟨g, k * 8 + 7, none⟩ = some (.int .i64 (t.col : Nat))) (by kernel_rfl) (⟨b5, b6, b7⟩) (fun hH0 => ?_)
        refine take_at (i := 0) (v := .int .i64 0) rfl rfl (by kernel_rfl) (by kernel_rfl) (by kernel_rfl) (fun _ _ _ h => h) (Or.inl ⟨by rfl, ?_⟩) hH0 ?_
        · intro w hSw; (try dsimp only at hSw); obtain ⟨a5, a6, a7⟩ := hSw; go_simp
        simp only [List.setIfInBounds_toArray, List.set_cons_zero, List.set_cons_succ]
        refine take_at (i := 1) (v := .bool false) rfl rfl (by kernel_rfl) (by kernel_rfl) (by kernel_rfl) (fun _ _ _ h => h) (Or.inl ⟨by rfl, ?_⟩) hH0 ?_
        · intro w hSw; (try dsimp only at hSw); obtain ⟨a5, a6, a7⟩ := hSw; go_simp
        simp only [List.setIfInBounds_toArray, List.set_cons_zero, List.set_cons_succ]
        refine take_at (i := 2) (v := .bool false) rfl rfl (by kernel_rfl) (by kernel_rfl) (by kernel_rfl) (fun _ _ _ h => h) (Or.inl ⟨by rfl, ?_⟩) hH0 ?_
        · intro w hSw; (try dsimp only at hSw); obtain ⟨a5, a6, a7⟩ := hSw; go_simp
        simp only [List.setIfInBounds_toArray, List.set_cons_zero, List.set_cons_succ]
        refine take_at (i := 3) (v := .int .i64 (t.line : Nat)) rfl rfl (by kernel_rfl) (by kernel_rfl) (by kernel_rfl) (fun _ _ _ h => h) (Or.inl ⟨by rfl, ?_⟩) hH0 ?_
        · intro w hSw; (try dsimp only at hSw); obtain ⟨a5, a6, a7⟩ := hSw; go_simp
        simp only [List.setIfInBounds_toArray, List.set_cons_zero, List.set_cons_succ]
        refine take_at (i := 4) (v := .slice (some ⟨g, 0, none⟩) N c1) rfl rfl (by kernel_rfl) (by kernel_rfl) (by kernel_rfl) (fun _ _ _ h => h) (Or.inl ⟨by rfl, ?_⟩) hH0 ?_
        · intro w hSw; (try dsimp only at hSw); obtain ⟨a5, a6, a7⟩ := hSw; go_simp
        simp only [List.setIfInBounds_toArray, List.set_cons_zero, List.set_cons_succ]
        refine take_at (i := 5) (v := .int .i64 (k : Nat)) rfl rfl (by kernel_rfl) (by kernel_rfl) (by kernel_rfl) (fun _ _ _ h => h) (Or.inl ⟨by rfl, ?_⟩) hH0 ?_
        · intro w hSw; (try dsimp only at hSw); obtain ⟨a5, a6, a7⟩ := hSw; go_simp
        simp only [List.setIfInBounds_toArray, List.set_cons_zero, List.set_cons_succ]
        refine take_at (i := 6) (v := .pointer (some ⟨g, k * 8, none⟩)) rfl rfl (by kernel_rfl) (by kernel_rfl) (by kernel_rfl) (fun _ _ _ h => h) (Or.inl ⟨by rfl, ?_⟩) hH0 ?_
        · intro w hSw; (try dsimp only at hSw); obtain ⟨a5, a6, a7⟩ := hSw; go_simp
        simp only [List.setIfInBounds_toArray, List.set_cons_zero, List.set_cons_succ]
        refine take_at (i := 7) (v := .pointer (some ⟨g, k * 8 + 6, none⟩)) rfl rfl (by kernel_rfl) (by kernel_rfl) (by kernel_rfl) (fun _ _ _ h => h) (Or.inl ⟨by rfl, ?_⟩) hH0 ?_
        · intro w hSw; (try dsimp only at hSw); obtain ⟨a5, a6, a7⟩ := hSw; go_simp
        simp only [List.setIfInBounds_toArray, List.set_cons_zero, List.set_cons_succ]
        refine take_at (i := 8) (v := .int .i64 (t.line : Nat)) rfl rfl (by kernel_rfl) (by kernel_rfl) (by kernel_rfl) (fun _ _ _ h => h) (Or.inl ⟨by rfl, ?_⟩) hH0 ?_
        · intro w hSw; (try dsimp only at hSw); obtain ⟨a5, a6, a7⟩ := hSw; go_simp
        simp only [List.setIfInBounds_toArray, List.set_cons_zero, List.set_cons_succ]
        refine take_at (i := 9) (v := .bool false) rfl rfl (by kernel_rfl) (by kernel_rfl) (by kernel_rfl) (fun _ _ _ h => h) (Or.inl ⟨by rfl, ?_⟩) hH0 ?_
        · intro w hSw; (try dsimp only at hSw); obtain ⟨a5, a6, a7⟩ := hSw; go_simp
        simp only [List.setIfInBounds_toArray, List.set_cons_zero, List.set_cons_succ]
        refine take_at (i := 10) (v := .bool false) rfl rfl (by kernel_rfl) (by kernel_rfl) (by kernel_rfl) (fun _ _ _ h => h) (Or.inl ⟨by rfl, ?_⟩) hH0 ?_
        · intro w hSw; (try dsimp only at hSw); obtain ⟨a5, a6, a7⟩ := hSw; go_simp
        simp only [List.setIfInBounds_toArray, List.set_cons_zero, List.set_cons_succ]
        refine take_at (i := 11) (v := .bool false) rfl rfl (by kernel_rfl) (by kernel_rfl) (by kernel_rfl) (fun _ _ _ h => h) (Or.inl ⟨by rfl, ?_⟩) hH0 ?_
        · intro w hSw; (try dsimp only at hSw); obtain ⟨a5, a6, a7⟩ := hSw; go_simp
        simp only [List.setIfInBounds_toArray, List.set_cons_zero, List.set_cons_succ]
        refine take_at (i := 12) (v := .int .i64 (t.col : Nat)) rfl rfl (by kernel_rfl) (by kernel_rfl) (by kernel_rfl) (fun _ _ _ h => h) (Or.inl ⟨by rfl, ?_⟩) hH0 ?_
        · intro w hSw; (try dsimp only at hSw); obtain ⟨a5, a6, a7⟩ := hSw; go_simp
        simp only [List.setIfInBounds_toArray, List.set_cons_zero, List.set_cons_succ]
        refine take_at (i := 13) (v := .slice (some ⟨g, 0, none⟩) N c1) rfl rfl (by kernel_rfl) (by kernel_rfl) (by kernel_rfl) (fun _ _ _ h => h) (Or.inl ⟨by rfl, ?_⟩) hH0 ?_
        · intro w hSw; (try dsimp only at hSw); obtain ⟨a5, a6, a7⟩ := hSw; go_simp
        simp only [List.setIfInBounds_toArray, List.set_cons_zero, List.set_cons_succ]
        refine take_at (i := 14) (v := .int .i64 (k : Nat)) rfl rfl (by kernel_rfl) (by kernel_rfl) (by kernel_rfl) (fun _ _ _ h => h) (Or.inl ⟨by rfl, ?_⟩) hH0 ?_
        · intro w hSw; (try dsimp only at hSw); obtain ⟨a5, a6, a7⟩ := hSw; go_simp
        simp only [List.setIfInBounds_toArray, List.set_cons_zero, List.set_cons_succ]
        refine take_at (i := 15) (v := .pointer (some ⟨g, k * 8, none⟩)) rfl rfl (by kernel_rfl) (by kernel_rfl) (by kernel_rfl) (fun _ _ _ h => h) (Or.inl ⟨by rfl, ?_⟩) hH0 ?_
        · intro w hSw; (try dsimp only at hSw); obtain ⟨a5, a6, a7⟩ := hSw; go_simp
        simp only [List.setIfInBounds_toArray, List.set_cons_zero, List.set_cons_succ]
        refine take_at (i := 16) (v := .pointer (some ⟨g, k * 8 + 7, none⟩)) rfl rfl (by kernel_rfl) (by kernel_rfl) (by kernel_rfl) (fun _ _ _ h => h) (Or.inl ⟨by rfl, ?_⟩) hH0 ?_
        · intro w hSw; (try dsimp only at hSw); obtain ⟨a5, a6, a7⟩ := hSw; go_simp
        simp only [List.setIfInBounds_toArray, List.set_cons_zero, List.set_cons_succ]
        refine take_at (i := 17) (v := .int .i64 (t.col : Nat)) rfl rfl (by kernel_rfl) (by kernel_rfl) (by kernel_rfl) (fun _ _ _ h => h) (Or.inl ⟨by rfl, ?_⟩) hH0 ?_
        · intro w hSw; (try dsimp only at hSw); obtain ⟨a5, a6, a7⟩ := hSw; go_simp
        simp only [List.setIfInBounds_toArray, List.set_cons_zero, List.set_cons_succ]
        refine take_at (i := 18) (v := .bool false) rfl rfl (by kernel_rfl) (by kernel_rfl) (by kernel_rfl) (fun _ _ _ h => h) (Or.inl ⟨by rfl, ?_⟩) hH0 ?_
        · intro w hSw; (try dsimp only at hSw); obtain ⟨a5, a6, a7⟩ := hSw; go_simp
        simp only [List.setIfInBounds_toArray, List.set_cons_zero, List.set_cons_succ]
        refine take_at (i := 19) (v := .bool false) rfl rfl (by kernel_rfl) (by kernel_rfl) (by kernel_rfl) (fun _ _ _ h => h) (Or.inl ⟨by rfl, ?_⟩) hH0 ?_
        · intro w hSw; (try dsimp only at hSw); obtain ⟨a5, a6, a7⟩ := hSw; go_simp
        simp only [List.setIfInBounds_toArray, List.set_cons_zero, List.set_cons_succ]
        refine take_at (i := 20) (v := .bool false) rfl rfl (by kernel_rfl) (by kernel_rfl) (by kernel_rfl) (fun _ _ _ h => h) (Or.inl ⟨by rfl, ?_⟩) hH0 ?_
        · intro w hSw; (try dsimp only at hSw); obtain ⟨a5, a6, a7⟩ := hSw; go_simp
        simp only [List.setIfInBounds_toArray, List.set_cons_zero, List.set_cons_succ]
        refine take_at (i := 21) (v := .int .i64 (k : Nat)) rfl rfl (by kernel_rfl) (by kernel_rfl) (by kernel_rfl) (fun _ _ _ h => h) (Or.inl ⟨by rfl, ?_⟩) hH0 ?_
        · intro w hSw; (try dsimp only at hSw); obtain ⟨a5, a6, a7⟩ := hSw; go_simp
        simp only [List.setIfInBounds_toArray, List.set_cons_zero, List.set_cons_succ]
        refine take_at (i := 22) (v := .bool false) rfl rfl (by kernel_rfl) (by kernel_rfl) (by kernel_rfl) (fun _ _ _ h => h) (Or.inl ⟨by rfl, ?_⟩) hH0 ?_
        · intro w hSw; (try dsimp only at hSw); obtain ⟨a5, a6, a7⟩ := hSw; go_simp; exact HK.out
        simp only [List.setIfInBounds_toArray, List.set_cons_zero, List.set_cons_succ]
        refine take_at (i := 23) (v := .bool false) rfl rfl (by kernel_rfl) (by kernel_rfl) (by kernel_rfl) (fun _ _ _ h => h) (Or.inl ⟨by rfl, ?_⟩) hH0 ?_
        · intro w hSw; (try dsimp only at hSw); obtain ⟨a5, a6, a7⟩ := hSw; go_simp
        simp only [List.setIfInBounds_toArray, List.set_cons_zero, List.set_cons_succ]
        refine take_at (i := 24) (v := undef) rfl rfl (by kernel_rfl) (by kernel_rfl) (by kernel_rfl) (fun _ _ _ h => h) (Or.inr ⟨by rfl, rfl⟩) hH0 ?_
        simp only [List.setIfInBounds_toArray, List.set_cons_zero, List.set_cons_succ]
        refine take_at (i := 25) (v := undef) rfl rfl (by kernel_rfl) (by kernel_rfl) (by kernel_rfl) (fun _ _ _ h => h) (Or.inr ⟨by rfl, rfl⟩) hH0 ?_
        simp only [List.setIfInBounds_toArray, List.set_cons_zero, List.set_cons_succ]
        refine take_at (i := 26) (v := undef) rfl rfl (by kernel_rfl) (by kernel_rfl) (by kernel_rfl) (fun _ _ _ h => h) (Or.inr ⟨by rfl, rfl⟩) hH0 ?_
        simp only [List.setIfInBounds_toArray, List.set_cons_zero, List.set_cons_succ]
        refine take_at (i := 27) (v := undef) rfl rfl (by kernel_rfl) (by kernel_rfl) (by kernel_rfl) (fun _ _ _ h => h) (Or.inr ⟨by rfl, rfl⟩) hH0 ?_
        simp only [List.setIfInBounds_toArray, List.set_cons_zero, List.set_cons_succ]
        refine take_at (i := 28) (v := undef) rfl rfl (by kernel_rfl) (by kernel_rfl) (by kernel_rfl) (fun _ _ _ h => h) (Or.inr ⟨by rfl, rfl⟩) hH0 ?_
        simp only [List.setIfInBounds_toArray, List.set_cons_zero, List.set_cons_succ]
        refine take_at (i := 29) (v := undef) rfl rfl (by kernel_rfl) (by kernel_rfl) (by kernel_rfl) (fun _ _ _ h => h) (Or.inr ⟨by rfl, rfl⟩) hH0 ?_
        simp only [List.setIfInBounds_toArray, List.set_cons_zero, List.set_cons_succ]
        refine take_at (i := 30) (v := undef) rfl rfl (by kernel_rfl) (by kernel_rfl) (by kernel_rfl) (fun _ _ _ h => h) (Or.inr ⟨by rfl, rfl⟩) hH0 ?_
        simp only [List.setIfInBounds_toArray, List.set_cons_zero, List.set_cons_succ]
        refine take_at (i := 31) (v := undef) rfl rfl (by kernel_rfl) (by kernel_rfl) (by kernel_rfl) (fun _ _ _ h => h) (Or.inr ⟨by rfl, rfl⟩) hH0 ?_
        simp only [List.setIfInBounds_toArray, List.set_cons_zero, List.set_cons_succ]
        refine take_at (i := 32) (v := undef) rfl rfl (by kernel_rfl) (by kernel_rfl) (by kernel_rfl) (fun _ _ _ h => h) (Or.inr ⟨by rfl, rfl⟩) hH0 ?_
        simp only [List.setIfInBounds_toArray, List.set_cons_zero, List.set_cons_succ]
        refine take_at (i := 33) (v := undef) rfl rfl (by kernel_rfl) (by kernel_rfl) (by kernel_rfl) (fun _ _ _ h => h) (Or.inr ⟨by rfl, rfl⟩) hH0 ?_
        simp only [List.setIfInBounds_toArray, List.set_cons_zero, List.set_cons_succ]
        refine take_at (i := 34) (v := undef) rfl rfl (by kernel_rfl) (by kernel_rfl) (by kernel_rfl) (fun _ _ _ h => h) (Or.inr ⟨by rfl, rfl⟩) hH0 ?_
        simp only [List.setIfInBounds_toArray, List.set_cons_zero, List.set_cons_succ]
        refine take_at (i := 35) (v := undef) rfl rfl (by kernel_rfl) (by kernel_rfl) (by kernel_rfl) (fun _ _ _ h => h) (Or.inr ⟨by rfl, rfl⟩) hH0 ?_
        simp only [List.setIfInBounds_toArray, List.set_cons_zero, List.set_cons_succ]
        refine take_at (i := 36) (v := .bool false) rfl rfl (by kernel_rfl) (by kernel_rfl) (by kernel_rfl) (fun _ _ _ h => h) (Or.inl ⟨by rfl, ?_⟩) hH0 ?_
        · intro w hSw; (try dsimp only at hSw); obtain ⟨a5, a6, a7⟩ := hSw; go_simp
        simp only [List.setIfInBounds_toArray, List.set_cons_zero, List.set_cons_succ]
        refine take_at (i := 37) (v := .bool false) rfl rfl (by kernel_rfl) (by kernel_rfl) (by kernel_rfl) (fun _ _ _ h => h) (Or.inl ⟨by rfl, ?_⟩) hH0 ?_
        · intro w hSw; (try dsimp only at hSw); obtain ⟨a5, a6, a7⟩ := hSw; go_simp
        simp only [List.setIfInBounds_toArray, List.set_cons_zero, List.set_cons_succ]
        refine wpAnyH_done (by kernel_rfl) ?_ _
        refine NoPanic.normal ?_
        have HD : Hid (Below w1.heap.size w1 w2.drew) := HB2.out.trans (below_drewN (Below.refl _ w2) 1)
        clear hH0 HB2
        clear b5 b6 b7
        go_wp2_with fail
        go_roundw
        case rel => exact ⟨k + 1, rfl, rfl, by go_num, hlt, HD.out⟩
        case measure => simp [intOf]; omega
      · have HK : Hid (0 < k) := by show 0 < k; omega
        have HQT : Hid (q < t.pos) := hq
        have hu1 : (k : Int) - 1 = (u : Int) := by omega
        have hu2 : (u : Int) < (N : Int) := by omega
        clear hk1 hq
        go_wp2_with fail
        refine wp_region_noPanic ?_
        refine wp_region_held_drew (S := fun w' => w'.cell? ⟨g, k * 8 + 5, none⟩ = some (.int .i64 (t.pos : Nat)) ∧ w'.cell? ⟨g, k * 8 + 6, none⟩ = some (.int .i64 (t.line : Nat)) ∧ w'.cell? ⟨g, k * 8 + 7, none⟩ = some (.int .i64 (t.col : Nat)) ∧ w'.cell? ⟨g, u * 8 + 5, none⟩ = some (.int .i64 (q : Nat))) (by kernel_rfl) (⟨b5, b6, b7, d5⟩) (fun hH0 => ?_)
        refine take_at (i := 0) (v := .int .i64 0) rfl rfl (by kernel_rfl) (by kernel_rfl) (by kernel_rfl) (fun _ _ _ h => h) (Or.inl ⟨by rfl, ?_⟩) hH0 ?_
        · intro w hSw; (try dsimp only at hSw); obtain ⟨a5, a6, a7, a8⟩ := hSw; go_simp
        simp only [List.setIfInBounds_toArray, List.set_cons_zero, List.set_cons_succ]
        refine take_at (i := 1) (v := .bool false) rfl rfl (by kernel_rfl) (by kernel_rfl) (by kernel_rfl) (fun _ _ _ h => h) (Or.inl ⟨by rfl, ?_⟩) hH0 ?_
        · intro w hSw; (try dsimp only at hSw); obtain ⟨a5, a6, a7, a8⟩ := hSw; go_simp
        simp only [List.setIfInBounds_toArray, List.set_cons_zero, List.set_cons_succ]
        refine take_at (i := 2) (v := .bool false) rfl rfl (by kernel_rfl) (by kernel_rfl) (by kernel_rfl) (fun _ _ _ h => h) (Or.inl ⟨by rfl, ?_⟩) hH0 ?_
        · intro w hSw; (try dsimp only at hSw); obtain ⟨a5, a6, a7, a8⟩ := hSw; go_simp
        simp only [List.setIfInBounds_toArray, List.set_cons_zero, List.set_cons_succ]
        refine take_at (i := 3) (v := .int .i64 (t.line : Nat)) rfl rfl (by kernel_rfl) (by kernel_rfl) (by kernel_rfl) (fun _ _ _ h => h) (Or.inl ⟨by rfl, ?_⟩) hH0 ?_
        · intro w hSw; (try dsimp only at hSw); obtain ⟨a5, a6, a7, a8⟩ := hSw; go_simp
        simp only [List.setIfInBounds_toArray, List.set_cons_zero, List.set_cons_succ]
        refine take_at (i := 4) (v := .slice (some ⟨g, 0, none⟩) N c1) rfl rfl (by kernel_rfl) (by kernel_rfl) (by kernel_rfl) (fun _ _ _ h => h) (Or.inl ⟨by rfl, ?_⟩) hH0 ?_
        · intro w hSw; (try dsimp only at hSw); obtain ⟨a5, a6, a7, a8⟩ := hSw; go_simp
        simp only [List.setIfInBounds_toArray, List.set_cons_zero, List.set_cons_succ]
        refine take_at (i := 5) (v := .int .i64 (k : Nat)) rfl rfl (by kernel_rfl) (by kernel_rfl) (by kernel_rfl) (fun _ _ _ h => h) (Or.inl ⟨by rfl, ?_⟩) hH0 ?_
        · intro w hSw; (try dsimp only at hSw); obtain ⟨a5, a6, a7, a8⟩ := hSw; go_simp
        simp only [List.setIfInBounds_toArray, List.set_cons_zero, List.set_cons_succ]
        refine take_at (i := 6) (v := .pointer (some ⟨g, k * 8, none⟩)) rfl rfl (by kernel_rfl) (by kernel_rfl) (by kernel_rfl) (fun _ _ _ h => h) (Or.inl ⟨by rfl, ?_⟩) hH0 ?_
        · intro w hSw; (try dsimp only at hSw); obtain ⟨a5, a6, a7, a8⟩ := hSw; go_simp
        simp only [List.setIfInBounds_toArray, List.set_cons_zero, List.set_cons_succ]
        refine take_at (i := 7) (v := .pointer (some ⟨g, k * 8 + 6, none⟩)) rfl rfl (by kernel_rfl) (by kernel_rfl) (by kernel_rfl) (fun _ _ _ h => h) (Or.inl ⟨by rfl, ?_⟩) hH0 ?_
        · intro w hSw; (try dsimp only at hSw); obtain ⟨a5, a6, a7, a8⟩ := hSw; go_simp
        simp only [List.setIfInBounds_toArray, List.set_cons_zero, List.set_cons_succ]
        refine take_at (i := 8) (v := .int .i64 (t.line : Nat)) rfl rfl (by kernel_rfl) (by kernel_rfl) (by kernel_rfl) (fun _ _ _ h => h) (Or.inl ⟨by rfl, ?_⟩) hH0 ?_
        · intro w hSw; (try dsimp only at hSw); obtain ⟨a5, a6, a7, a8⟩ := hSw; go_simp
        simp only [List.setIfInBounds_toArray, List.set_cons_zero, List.set_cons_succ]
        refine take_at (i := 9) (v := .bool false) rfl rfl (by kernel_rfl) (by kernel_rfl) (by kernel_rfl) (fun _ _ _ h => h) (Or.inl ⟨by rfl, ?_⟩) hH0 ?_
        · intro w hSw; (try dsimp only at hSw); obtain ⟨a5, a6, a7, a8⟩ := hSw; go_simp
        simp only [List.setIfInBounds_toArray, List.set_cons_zero, List.set_cons_succ]
        refine take_at (i := 10) (v := .bool false) rfl rfl (by kernel_rfl) (by kernel_rfl) (by kernel_rfl) (fun _ _ _ h => h) (Or.inl ⟨by rfl, ?_⟩) hH0 ?_
        · intro w hSw; (try dsimp only at hSw); obtain ⟨a5, a6, a7, a8⟩ := hSw; go_simp
        simp only [List.setIfInBounds_toArray, List.set_cons_zero, List.set_cons_succ]
        refine take_at (i := 11) (v := .bool false) rfl rfl (by kernel_rfl) (by kernel_rfl) (by kernel_rfl) (fun _ _ _ h => h) (Or.inl ⟨by rfl, ?_⟩) hH0 ?_
        · intro w hSw; (try dsimp only at hSw); obtain ⟨a5, a6, a7, a8⟩ := hSw; go_simp
        simp only [List.setIfInBounds_toArray, List.set_cons_zero, List.set_cons_succ]
        refine take_at (i := 12) (v := .int .i64 (t.col : Nat)) rfl rfl (by kernel_rfl) (by kernel_rfl) (by kernel_rfl) (fun _ _ _ h => h) (Or.inl ⟨by rfl, ?_⟩) hH0 ?_
        · intro w hSw; (try dsimp only at hSw); obtain ⟨a5, a6, a7, a8⟩ := hSw; go_simp
        simp only [List.setIfInBounds_toArray, List.set_cons_zero, List.set_cons_succ]
        refine take_at (i := 13) (v := .slice (some ⟨g, 0, none⟩) N c1) rfl rfl (by kernel_rfl) (by kernel_rfl) (by kernel_rfl) (fun _ _ _ h => h) (Or.inl ⟨by rfl, ?_⟩) hH0 ?_
        · intro w hSw; (try dsimp only at hSw); obtain ⟨a5, a6, a7, a8⟩ := hSw; go_simp
        simp only [List.setIfInBounds_toArray, List.set_cons_zero, List.set_cons_succ]
        refine take_at (i := 14) (v := .int .i64 (k : Nat)) rfl rfl (by kernel_rfl) (by kernel_rfl) (by kernel_rfl) (fun _ _ _ h => h) (Or.inl ⟨by rfl, ?_⟩) hH0 ?_
        · intro w hSw; (try dsimp only at hSw); obtain ⟨a5, a6, a7, a8⟩ := hSw; go_simp
        simp only [List.setIfInBounds_toArray, List.set_cons_zero, List.set_cons_succ]
        refine take_at (i := 15) (v := .pointer (some ⟨g, k * 8, none⟩)) rfl rfl (by kernel_rfl) (by kernel_rfl) (by kernel_rfl) (fun _ _ _ h => h) (Or.inl ⟨by rfl, ?_⟩) hH0 ?_
        · intro w hSw; (try dsimp only at hSw); obtain ⟨a5, a6, a7, a8⟩ := hSw; go_simp
        simp only [List.setIfInBounds_toArray, List.set_cons_zero, List.set_cons_succ]
        refine take_at (i := 16) (v := .pointer (some ⟨g, k * 8 + 7, none⟩)) rfl rfl (by kernel_rfl) (by kernel_rfl) (by kernel_rfl) (fun _ _ _ h => h) (Or.inl ⟨by rfl, ?_⟩) hH0 ?_
        · intro w hSw; (try dsimp only at hSw); obtain ⟨a5, a6, a7, a8⟩ := hSw; go_simp
        simp only [List.setIfInBounds_toArray, List.set_cons_zero, List.set_cons_succ]
        refine take_at (i := 17) (v := .int .i64 (t.col : Nat)) rfl rfl (by kernel_rfl) (by kernel_rfl) (by kernel_rfl) (fun _ _ _ h => h) (Or.inl ⟨by rfl, ?_⟩) hH0 ?_
        · intro w hSw; (try dsimp only at hSw); obtain ⟨a5, a6, a7, a8⟩ := hSw; go_simp
        simp only [List.setIfInBounds_toArray, List.set_cons_zero, List.set_cons_succ]
        refine take_at (i := 18) (v := .bool false) rfl rfl (by kernel_rfl) (by kernel_rfl) (by kernel_rfl) (fun _ _ _ h => h) (Or.inl ⟨by rfl, ?_⟩) hH0 ?_
        · intro w hSw; (try dsimp only at hSw); obtain ⟨a5, a6, a7, a8⟩ := hSw; go_simp
        simp only [List.setIfInBounds_toArray, List.set_cons_zero, List.set_cons_succ]
        refine take_at (i := 19) (v := .bool false) rfl rfl (by kernel_rfl) (by kernel_rfl) (by kernel_rfl) (fun _ _ _ h => h) (Or.inl ⟨by rfl, ?_⟩) hH0 ?_
        · intro w hSw; (try dsimp only at hSw); obtain ⟨a5, a6, a7, a8⟩ := hSw; go_simp
        simp only [List.setIfInBounds_toArray, List.set_cons_zero, List.set_cons_succ]
        refine take_at (i := 20) (v := .bool false) rfl rfl (by kernel_rfl) (by kernel_rfl) (by kernel_rfl) (fun _ _ _ h => h) (Or.inl ⟨by rfl, ?_⟩) hH0 ?_
        · intro w hSw; (try dsimp only at hSw); obtain ⟨a5, a6, a7, a8⟩ := hSw; go_simp
        simp only [List.setIfInBounds_toArray, List.set_cons_zero, List.set_cons_succ]
        refine take_at (i := 21) (v := .int .i64 (k : Nat)) rfl rfl (by kernel_rfl) (by kernel_rfl) (by kernel_rfl) (fun _ _ _ h => h) (Or.inl ⟨by rfl, ?_⟩) hH0 ?_
        · intro w hSw; (try dsimp only at hSw); obtain ⟨a5, a6, a7, a8⟩ := hSw; go_simp
        simp only [List.setIfInBounds_toArray, List.set_cons_zero, List.set_cons_succ]
        refine take_at (i := 22) (v := .bool true) rfl rfl (by kernel_rfl) (by kernel_rfl) (by kernel_rfl) (fun _ _ _ h => h) (Or.inl ⟨by rfl, ?_⟩) hH0 ?_
        · intro w hSw; (try dsimp only at hSw); obtain ⟨a5, a6, a7, a8⟩ := hSw; go_simp; exact HK.out
        simp only [List.setIfInBounds_toArray, List.set_cons_zero, List.set_cons_succ]
        refine take_at (i := 23) (v := .bool true) rfl rfl (by kernel_rfl) (by kernel_rfl) (by kernel_rfl) (fun _ _ _ h => h) (Or.inl ⟨by rfl, ?_⟩) hH0 ?_
        · intro w hSw; (try dsimp only at hSw); obtain ⟨a5, a6, a7, a8⟩ := hSw; go_simp
        simp only [List.setIfInBounds_toArray, List.set_cons_zero, List.set_cons_succ]
        refine take_at (i := 24) (v := .slice (some ⟨g, 0, none⟩) N c1) rfl rfl (by kernel_rfl) (by kernel_rfl) (by kernel_rfl) (fun _ _ _ h => h) (Or.inl ⟨by rfl, ?_⟩) hH0 ?_
        · intro w hSw; (try dsimp only at hSw); obtain ⟨a5, a6, a7, a8⟩ := hSw; go_simp
        simp only [List.setIfInBounds_toArray, List.set_cons_zero, List.set_cons_succ]
        refine take_at (i := 25) (v := .int .i64 (k : Nat)) rfl rfl (by kernel_rfl) (by kernel_rfl) (by kernel_rfl) (fun _ _ _ h => h) (Or.inl ⟨by rfl, ?_⟩) hH0 ?_
        · intro w hSw; (try dsimp only at hSw); obtain ⟨a5, a6, a7, a8⟩ := hSw; go_simp
        simp only [List.setIfInBounds_toArray, List.set_cons_zero, List.set_cons_succ]
        refine take_at (i := 26) (v := .pointer (some ⟨g, k * 8, none⟩)) rfl rfl (by kernel_rfl) (by kernel_rfl) (by kernel_rfl) (fun _ _ _ h => h) (Or.inl ⟨by rfl, ?_⟩) hH0 ?_
        · intro w hSw; (try dsimp only at hSw); obtain ⟨a5, a6, a7, a8⟩ := hSw; go_simp
        simp only [List.setIfInBounds_toArray, List.set_cons_zero, List.set_cons_succ]
        refine take_at (i := 27) (v := .pointer (some ⟨g, k * 8 + 5, none⟩)) rfl rfl (by kernel_rfl) (by kernel_rfl) (by kernel_rfl) (fun _ _ _ h => h) (Or.inl ⟨by rfl, ?_⟩) hH0 ?_
        · intro w hSw; (try dsimp only at hSw); obtain ⟨a5, a6, a7, a8⟩ := hSw; go_simp
        simp only [List.setIfInBounds_toArray, List.set_cons_zero, List.set_cons_succ]
        refine take_at (i := 28) (v := .int .i64 (t.pos : Nat)) rfl rfl (by kernel_rfl) (by kernel_rfl) (by kernel_rfl) (fun _ _ _ h => h) (Or.inl ⟨by rfl, ?_⟩) hH0 ?_
        · intro w hSw; (try dsimp only at hSw); obtain ⟨a5, a6, a7, a8⟩ := hSw; go_simp
        simp only [List.setIfInBounds_toArray, List.set_cons_zero, List.set_cons_succ]
        refine take_at (i := 29) (v := .slice (some ⟨g, 0, none⟩) N c1) rfl rfl (by kernel_rfl) (by kernel_rfl) (by kernel_rfl) (fun _ _ _ h => h) (Or.inl ⟨by rfl, ?_⟩) hH0 ?_
        · intro w hSw; (try dsimp only at hSw); obtain ⟨a5, a6, a7, a8⟩ := hSw; go_simp
        simp only [List.setIfInBounds_toArray, List.set_cons_zero, List.set_cons_succ]
        refine take_at (i := 30) (v := .int .i64 (k : Nat)) rfl rfl (by kernel_rfl) (by kernel_rfl) (by kernel_rfl) (fun _ _ _ h => h) (Or.inl ⟨by rfl, ?_⟩) hH0 ?_
        · intro w hSw; (try dsimp only at hSw); obtain ⟨a5, a6, a7, a8⟩ := hSw; go_simp
        simp only [List.setIfInBounds_toArray, List.set_cons_zero, List.set_cons_succ]
        refine take_at (i := 31) (v := .int .i64 (u : Nat)) rfl rfl (by kernel_rfl) (by kernel_rfl) (by kernel_rfl) (fun _ _ _ h => h) (Or.inl ⟨by rfl, ?_⟩) hH0 ?_
        · intro w hSw; (try dsimp only at hSw); obtain ⟨a5, a6, a7, a8⟩ := hSw; go_simp; rw [IntKind.wrap_i64]; omega
        simp only [List.setIfInBounds_toArray, List.set_cons_zero, List.set_cons_succ]
        refine take_at (i := 32) (v := .pointer (some ⟨g, u * 8, none⟩)) rfl rfl (by kernel_rfl) (by kernel_rfl) (by kernel_rfl) (fun _ _ _ h => h) (Or.inl ⟨by rfl, ?_⟩) hH0 ?_
        · intro w hSw; (try dsimp only at hSw); obtain ⟨a5, a6, a7, a8⟩ := hSw; go_simp
        simp only [List.setIfInBounds_toArray, List.set_cons_zero, List.set_cons_succ]
        refine take_at (i := 33) (v := .pointer (some ⟨g, u * 8 + 5, none⟩)) rfl rfl (by kernel_rfl) (by kernel_rfl) (by kernel_rfl) (fun _ _ _ h => h) (Or.inl ⟨by rfl, ?_⟩) hH0 ?_
        · intro w hSw; (try dsimp only at hSw); obtain ⟨a5, a6, a7, a8⟩ := hSw; go_simp
        simp only [List.setIfInBounds_toArray, List.set_cons_zero, List.set_cons_succ]
        refine take_at (i := 34) (v := .int .i64 (q : Nat)) rfl rfl (by kernel_rfl) (by kernel_rfl) (by kernel_rfl) (fun _ _ _ h => h) (Or.inl ⟨by rfl, ?_⟩) hH0 ?_
        · intro w hSw; (try dsimp only at hSw); obtain ⟨a5, a6, a7, a8⟩ := hSw; go_simp
        simp only [List.setIfInBounds_toArray, List.set_cons_zero, List.set_cons_succ]
        refine take_at (i := 35) (v := .bool false) rfl rfl (by kernel_rfl) (by kernel_rfl) (by kernel_rfl) (fun _ _ _ h => h) (Or.inl ⟨by rfl, ?_⟩) hH0 ?_
        · intro w hSw; (try dsimp only at hSw); obtain ⟨a5, a6, a7, a8⟩ := hSw; go_simp; exact HQT.out
        simp only [List.setIfInBounds_toArray, List.set_cons_zero, List.set_cons_succ]
        refine take_at (i := 36) (v := .bool false) rfl rfl (by kernel_rfl) (by kernel_rfl) (by kernel_rfl) (fun _ _ _ h => h) (Or.inl ⟨by rfl, ?_⟩) hH0 ?_
        · intro w hSw; (try dsimp only at hSw); obtain ⟨a5, a6, a7, a8⟩ := hSw; go_simp
        simp only [List.setIfInBounds_toArray, List.set_cons_zero, List.set_cons_succ]
        refine take_at (i := 37) (v := .bool false) rfl rfl (by kernel_rfl) (by kernel_rfl) (by kernel_rfl) (fun _ _ _ h => h) (Or.inl ⟨by rfl, ?_⟩) hH0 ?_
        · intro w hSw; (try dsimp only at hSw); obtain ⟨a5, a6, a7, a8⟩ := hSw; go_simp
        simp only [List.setIfInBounds_toArray, List.set_cons_zero, List.set_cons_succ]
        refine wpAnyH_done (by kernel_rfl) ?_ _
        refine NoPanic.normal ?_
        have HD : Hid (Below w1.heap.size w1 w2.drew) := HB2.out.trans (below_drewN (Below.refl _ w2) 1)
        clear hH0 HB2
        clear b5 b6 b7 d5
        go_wp2_with fail
        go_roundw
        case rel => exact ⟨k + 1, rfl, rfl, by go_num, hlt, HD.out⟩
        case measure => simp [intOf]; omega
    · have hlti : ¬ (k : Int) < (N : Int) := by omega
      have hbe := hbr.out
      clear HQ HLT hbr hk hlt
      go_wp2_with fail
      refine (TA.out _ (HW.out.below (HB1.out.trans (hbe.mono HB1.out.size)))).mono ?_
      rintro e w4 ⟨ha4, hb4⟩
      obtain ⟨p4, c4, X4, rfl, i4, j4, k4, q4, l4, m4⟩ := ha4.open2
      have B4 := hbe.trans (hb4.mono hbe.size)
      have e4 := l4 rfl
      subst e4
      have n4 := HN.out
      rw [n4]
      clear l4 m4 q4 j4 k4 ha4 hb4
      go_wp2_with fail
      refine (TK.out _ _ _ i4 (HI.out.below B4)).mono ?_
      rintro e w5 ⟨rfl, hb5⟩
      have B5 := HB1.out.trans ((B4.trans (hb5.mono B4.size)).mono HB1.out.size)
      go_wp2_with fail
      refine (LV.out _ (HW.out.below B5)).mono ?_
      rintro e wz ⟨rfl, hbz⟩
      have BZ := B5.trans (hbz.mono B5.size)
      go_wp2_with fail
      go_ret
      exact ⟨rfl, BZ⟩
end Go.Proofs.YtclekihmhicpaaaGreatDoor
