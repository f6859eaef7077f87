/-
  The walk of the law RowcodeDigests.
-/
import Derived.Test.YtjdnbgnjgicbbaaDoorDgB
import Derived.Test.YtjdnbgnjgicbbaaDoorDgM
namespace Go.Proofs.YtjdnbgnjgicbbaaDoor
open Go.RowKit Go.Shelf

set_option maxHeartbeats 8000000 in
set_option maxRecDepth 1000000 in
theorem RowcodeDigests_any (P : Option Addr) (C : Nat) (l : List Ac) (w : World) (hP : actsIn w P l) (hr : ∀ a ∈ l, rwOk w a.r ∧ (a.r.p = none → a.r.c = 0)) (hl : l.length ≤ 1048576) (hk : ∀ a ∈ l, a.r.la.length ≤ 1048576) (hT0 : Tabs w) :
    Calls Tryd.prog 4 #[.slice P l.length C] w fun e w' => e = .returned (.bool true) ∧ Below w.heap.size w w' := by
  have hT : Hid (∀ w', Below w.heap.size w w' → Tabs w') := fun w' h => hT0.below h
  have AD : Hid (∀ (D : Nat) (S R : Int) (r : Rw) (wr : World), (rowE r.la = 0 → -9223372036854775808 ≤ R ∧ R ≤ 9223372036854775806) → rwOk wr r → Tabs wr → dig wr D S R → Calls Tryd.prog 18 #[.pointer (some ⟨D, 0, none⟩), .slice r.p r.la.length r.c] wr fun e w' => e = .returned (.int .i64 (rowE r.la)) ∧ But D wr w' ∧ dig w' D (addS S r) (addR R r)) := Add_any
  have DR : Hid (∀ (D : Nat) (S R : Int) (r : Rw) (wr : World), (rowE r.la = 0 → -9223372036854775807 ≤ R ∧ R ≤ 9223372036854775807) → rwOk wr r → Tabs wr → dig wr D S R → Calls Tryd.prog 17 #[.pointer (some ⟨D, 0, none⟩), .slice r.p r.la.length r.c] wr fun e w' => e = .returned (.int .i64 (rowE r.la)) ∧ But D wr w' ∧ dig w' D (subS S r) (subR R r)) := Drop_any
  have TI : Hid (∀ (D : Nat) (S R : Int) (r : Rw) (w : World), (rowE r.la = 0 → -9223372036854775808 ≤ R ∧ R ≤ 9223372036854775806) → rwOk w r → r.la.length ≤ 9223372036854775807 → digR w D S R → Calls Tryd.prog 20 #[.pointer (some ⟨D, 0, none⟩), .slice r.p r.la.length r.c, .bool true] w fun e w' => e = .returned (.int .i64 (rowE r.la)) ∧ But D w w' ∧ digR w' D (addS S r) (addR R r)) := Takein_any
  have TO : Hid (∀ (D : Nat) (S R : Int) (r : Rw) (w : World), (rowE r.la = 0 → -9223372036854775807 ≤ R ∧ R ≤ 9223372036854775807) → rwOk w r → r.la.length ≤ 9223372036854775807 → digR w D S R → Calls Tryd.prog 20 #[.pointer (some ⟨D, 0, none⟩), .slice r.p r.la.length r.c, .bool false] w fun e w' => e = .returned (.int .i64 (rowE r.la)) ∧ But D w w' ∧ digR w' D (subS S r) (subR R r)) := Takeout_any
  have SU : Hid (∀ (D : Nat) (S R : Int) (w : World), dig w D S R → Calls Tryd.prog 14 #[.pointer (some ⟨D, 0, none⟩)] w fun e w' => e = .returned (.int .u64 S) ∧ w' = w) := Sum_any
  have LN : Hid (∀ (D : Nat) (S R : Int) (w : World), dig w D S R → Calls Tryd.prog 15 #[.pointer (some ⟨D, 0, none⟩)] w fun e w' => e = .returned (.int .i64 R) ∧ w' = w) := Len_any
  have HR : Hid (∀ a ∈ l, rwOk w a.r ∧ (a.r.p = none → a.r.c = 0)) := hr
  have HK : Hid (∀ a ∈ l, a.r.la.length ≤ 1048576) := hk
  have HP : Hid (actsIn w P l) := hP
  have t0 : Hid _ := Sta.new w
  clear hr hk hP hT0
  go_enter Tryd.func4, Tryd.ntmps4
  go_wp2_with fail
  generalize (w.alloc (.cells #[.int .u64 0, .int .i64 0] 39)).alloc (.cells #[.int .u64 0, .int .i64 0] 42) = w0 at *
  obtain ⟨A, B, hA, hB⟩ : ∃ A B, A = w.heap.size ∧ B = w.heap.size + 1 := ⟨_, _, rfl, rfl⟩
  rw [← hB, ← hA]
  have t00 : Hid (Sta w w0 A B 0 0) := by rw [hA, hB]; exact t0
  clear t0 hA hB
  refine (SU.out A 0 0 _ t00.out.a).mono ?_
  rintro e wx ⟨rfl, hwx⟩; have hwx2 := hwx.symm; subst hwx2; clear hwx
  go_wp2_with fail
  refine (LN.out A 0 0 _ t00.out.a).mono ?_
  rintro e wx ⟨rfl, hwx⟩; have hwx2 := hwx.symm; subst hwx2; clear hwx
  go_wp2_with fail
  go_loopw [5] (fun si wr => ∃ (k : Nat) (S R : Int), si = .int .i64 k ∧ k ≤ l.length ∧ (-(k : Int) ≤ R ∧ R ≤ (k : Int)) ∧ Hid (Sta w wr A B S R)) (fun si _ => l.length - (intOf si).toNat)
  case atStart => exact ⟨0, 0, 0, rfl, Nat.zero_le _, by omega, t00⟩
  case round =>
    obtain ⟨k, S, R, rfl, hkl, hRb, t1⟩ := hrel
    clear t00
    by_cases hlt : k < l.length
    · obtain ⟨a, ha⟩ : ∃ x, l[k]? = some x := ⟨l[k], List.getElem?_eq_getElem hlt⟩
      have HOK : Hid (rwOk w a.r) := (HR.out a (List.mem_of_getElem? ha)).1
      have hn := (HR.out a (List.mem_of_getElem? ha)).2
      have hr20 := HK.out a (List.mem_of_getElem? ha)
      rcases HP.out with rfl | ⟨g, off, rfl, hgw, hcs⟩
      · simp at ha
      obtain ⟨c0', c1'⟩ := hcs k a ha
      obtain ⟨b, r⟩ := a
      simp only at HOK hn hr20 c0' c1'
      have hrl : r.la.length ≤ 9223372036854775807 := by omega
      have OWN : Hid (∀ w', Below w.heap.size w w' → Calls Tryd.prog 16 #[.slice r.p r.la.length r.c] w' fun e w'' => e = .returned (.slice (some ⟨w'.heap.size, 0, none⟩) r.la.length (r.la.length + 1)) ∧ w''.ownsRow w'.heap.size 23 3 (.slice (some ⟨w'.heap.size, 0, none⟩) r.la.length (r.la.length + 1)) r.la.length (flat r.la) ∧ Below w'.heap.size w' w'') := fun w' h => Own_any r.p r.c r.la w' (HOK.out.below h).1 hn hr20
      have SPL : Hid (∀ (base G : Nat) w', w'.ownsRow base 23 3 (.slice (some ⟨G, 0, none⟩) r.la.length (r.la.length + 1)) r.la.length (flat r.la) → base ≤ w'.heap.size → Calls Tryd.prog 19 #[.slice (some ⟨G, 0, none⟩) r.la.length (r.la.length + 1)] w' fun e w'' => (∃ v, e = .returned v) ∧ w'.grownBy w'' (some G)) := fun base G w' h1 h2 => Spoil_any base G _ _ _ w' h1 hr20 h2
      have c1 : Hid (w.cell? ⟨g, off + k * 2 + 1, none⟩ = some (.slice r.p r.la.length r.c)) := c1'
      have cc1 := (t1.out.bel.cell (p := ⟨g, off + k * 2 + 1, none⟩) hgw).trans c1'
      obtain ⟨G, hG⟩ : ∃ G, G = wr.heap.size := ⟨_, rfl⟩
      clear hcs ha hn HR HK HP c1' hr20
      cases b
      · have c0 : Hid (w.cell? ⟨g, off + k * 2, none⟩ = some (.bool false)) := c0'
        clear c0'
        have AX : Hid (∀ w', Tabs w' → rwOk w' ⟨some ⟨wr.heap.size, 0, none⟩, r.la.length + 1, r.la⟩ → dig w' A S R → Calls Tryd.prog 18 #[.pointer (some ⟨A, 0, none⟩), .slice (some ⟨wr.heap.size, 0, none⟩) r.la.length (r.la.length + 1)] w' fun e w'' => e = .returned (.int .i64 (rowE r.la)) ∧ But A w' w'' ∧ dig w'' A (addS S r) (addR R r)) := fun w' h1 h2 h3 => AD.out A S R ⟨some ⟨wr.heap.size, 0, none⟩, r.la.length + 1, r.la⟩ w' (fun _ => by omega) h2 h1 h3
        have TX : Hid (∀ w', Below w.heap.size w w' → digR w' B S R → Calls Tryd.prog 20 #[.pointer (some ⟨B, 0, none⟩), .slice r.p r.la.length r.c, .bool true] w' fun e w'' => e = .returned (.int .i64 (rowE r.la)) ∧ But B w' w'' ∧ digR w'' B (addS S r) (addR R r)) := fun w' h1 h3 => TI.out B S R r w' (fun _ => by omega) (HOK.out.below h1) hrl h3
        have hRk : -((k + 1 : Nat) : Int) ≤ addR R r ∧ addR R r ≤ ((k + 1 : Nat) : Int) := by have := addR_ge R r; omega
        generalize addS S r = S2 at *
        generalize addR R r = R2 at *
        generalize rowE r.la = E at *
        go_wp2_with fail
        refine (OWN.out _ t1.out.bel).mono ?_
        rintro e w1 ⟨rfl, ho1, hb1⟩
        have B1 := t1.out.bel.trans (hb1.mono t1.out.bel.size)
        have dA1 := t1.out.a.below hb1
        have dB1 := t1.out.b.below hb1
        have k0 := (B1.cell (p := ⟨g, off + k * 2, none⟩) hgw).trans c0.out
        have ok1 : rwOk w1 ⟨some ⟨wr.heap.size, 0, none⟩, r.la.length + 1, r.la⟩ := ⟨rowIn_own ho1 rfl, HOK.out.2⟩
        have hGA : A < wr.heap.size := t1.out.a.lt
        have hGB : B < wr.heap.size := t1.out.b.lt
        clear hb1 cc1 hG
        go_wp2_with fail
        refine (AX.out _ (hT.out _ B1) ok1 dA1).mono ?_
        rintro e w2 ⟨rfl, hb2, dA2⟩
        have B2 := B1.trans (hb2.below t1.out.ha B1.size)
        have dB2 := hb2.digR dB1 (Ne.symm t1.out.ne)
        have ho2 := own_but hb2 ho1 (by simp [Value.ownBlock]; omega)
        clear hb2 ho1 dA1 dB1 ok1 k0 AX
        go_wp2_with fail
        refine (SPL.out _ _ _ ho2 (Nat.le_trans (Nat.le_of_lt (World.ownsRow.lt ho2 _ rfl).2) (Nat.le_refl _))).mono ?_
        rintro e w3 ⟨⟨v3, rfl⟩, hg3⟩
        have dA3 := grown_dig hg3 dA2 (by omega)
        have dB3 := grown_digR hg3 dB2 (by omega)
        have B3 := B2.trans (below_own hg3 B2.size (fun x hx => by cases hx; exact t1.out.bel.size))
        have B3d : Below w.heap.size w w3.drew := below_drewN B3 1
        have e0 := (B3.cell (p := ⟨g, off + k * 2, none⟩) hgw).trans c0.out
        have e1 := (B3.cell (p := ⟨g, off + k * 2 + 1, none⟩) hgw).trans c1.out
        clear hg3 ho2 dA2 dB2
        have TN := t1.out
        clear t1
        go_wp2_with fail
        refine wp_region_noPanic ?_
        refine wp_region_held_drew (S := fun w' => w'.cell? ⟨g, off + k * 2, none⟩ = some (.bool false) ∧ w'.cell? ⟨g, off + k * 2 + 1, none⟩ = some (.slice r.p r.la.length r.c)) (by kernel_rfl) ⟨(B3d.cell (p := ⟨g, off + k * 2, none⟩) hgw).trans c0.out, (B3d.cell (p := ⟨g, off + k * 2 + 1, none⟩) hgw).trans c1.out⟩ (fun hH => ?_)
        refine take_at (i := 0) (v := .int .i64 E) rfl rfl (by kernel_rfl) (by kernel_rfl) (by kernel_rfl) (fun _ _ _ h => h) (Or.inl ⟨by rfl, ?_⟩) hH ?_
        · intro v hv; obtain ⟨hv0, hv1⟩ := hv; go_simp
        simp only [List.setIfInBounds_toArray, List.set_cons_zero, List.set_cons_succ]
        refine take_at (i := 1) (v := .pointer (some ⟨B, 0, none⟩)) rfl rfl (by kernel_rfl) (by kernel_rfl) (by kernel_rfl) (fun _ _ _ h => h) (Or.inl ⟨by rfl, ?_⟩) hH ?_
        · intro v hv; obtain ⟨hv0, hv1⟩ := hv; go_simp
        simp only [List.setIfInBounds_toArray, List.set_cons_zero, List.set_cons_succ]
        refine take_at (i := 2) (v := .slice (some ⟨g, off, none⟩) l.length C) rfl rfl (by kernel_rfl) (by kernel_rfl) (by kernel_rfl) (fun _ _ _ h => h) (Or.inl ⟨by rfl, ?_⟩) hH ?_
        · intro v hv; obtain ⟨hv0, hv1⟩ := hv; go_simp
        simp only [List.setIfInBounds_toArray, List.set_cons_zero, List.set_cons_succ]
        refine take_at (i := 3) (v := .int .i64 (k : Int)) rfl rfl (by kernel_rfl) (by kernel_rfl) (by kernel_rfl) (fun _ _ _ h => h) (Or.inl ⟨by rfl, ?_⟩) hH ?_
        · intro v hv; obtain ⟨hv0, hv1⟩ := hv; go_simp
        simp only [List.setIfInBounds_toArray, List.set_cons_zero, List.set_cons_succ]
        refine take_at (i := 4) (v := .pointer (some ⟨g, off + k * 2, none⟩)) rfl rfl (by kernel_rfl) (by kernel_rfl) (by kernel_rfl) (fun _ _ _ h => h) (Or.inl ⟨by rfl, ?_⟩) hH ?_
        · intro v hv; obtain ⟨hv0, hv1⟩ := hv; go_simp
        simp only [List.setIfInBounds_toArray, List.set_cons_zero, List.set_cons_succ]
        refine take_at (i := 5) (v := .pointer (some ⟨g, off + k * 2 + 1, none⟩)) rfl rfl (by kernel_rfl) (by kernel_rfl) (by kernel_rfl) (fun _ _ _ h => h) (Or.inl ⟨by rfl, ?_⟩) hH ?_
        · intro v hv; obtain ⟨hv0, hv1⟩ := hv; go_simp
        simp only [List.setIfInBounds_toArray, List.set_cons_zero, List.set_cons_succ]
        refine take_at (i := 6) (v := .slice r.p r.la.length r.c) rfl rfl (by kernel_rfl) (by kernel_rfl) (by kernel_rfl) (fun _ _ _ h => h) (Or.inl ⟨by rfl, ?_⟩) hH ?_
        · intro v hv; obtain ⟨hv0, hv1⟩ := hv; go_simp
        simp only [List.setIfInBounds_toArray, List.set_cons_zero, List.set_cons_succ]
        refine take_at (i := 7) (v := .slice (some ⟨g, off, none⟩) l.length C) rfl rfl (by kernel_rfl) (by kernel_rfl) (by kernel_rfl) (fun _ _ _ h => h) (Or.inl ⟨by rfl, ?_⟩) hH ?_
        · intro v hv; obtain ⟨hv0, hv1⟩ := hv; go_simp
        simp only [List.setIfInBounds_toArray, List.set_cons_zero, List.set_cons_succ]
        refine take_at (i := 8) (v := .int .i64 (k : Int)) rfl rfl (by kernel_rfl) (by kernel_rfl) (by kernel_rfl) (fun _ _ _ h => h) (Or.inl ⟨by rfl, ?_⟩) hH ?_
        · intro v hv; obtain ⟨hv0, hv1⟩ := hv; go_simp
        simp only [List.setIfInBounds_toArray, List.set_cons_zero, List.set_cons_succ]
        refine take_at (i := 9) (v := .pointer (some ⟨g, off + k * 2, none⟩)) rfl rfl (by kernel_rfl) (by kernel_rfl) (by kernel_rfl) (fun _ _ _ h => h) (Or.inl ⟨by rfl, ?_⟩) hH ?_
        · intro v hv; obtain ⟨hv0, hv1⟩ := hv; go_simp
        simp only [List.setIfInBounds_toArray, List.set_cons_zero, List.set_cons_succ]
        refine take_at (i := 10) (v := .pointer (some ⟨g, off + k * 2, none⟩)) rfl rfl (by kernel_rfl) (by kernel_rfl) (by kernel_rfl) (fun _ _ _ h => h) (Or.inl ⟨by rfl, ?_⟩) hH ?_
        · intro v hv; obtain ⟨hv0, hv1⟩ := hv; go_simp
        simp only [List.setIfInBounds_toArray, List.set_cons_zero, List.set_cons_succ]
        refine take_at (i := 11) (v := .bool false) rfl rfl (by kernel_rfl) (by kernel_rfl) (by kernel_rfl) (fun _ _ _ h => h) (Or.inl ⟨by rfl, ?_⟩) hH ?_
        · intro v hv; obtain ⟨hv0, hv1⟩ := hv; go_simp
        simp only [List.setIfInBounds_toArray, List.set_cons_zero, List.set_cons_succ]
        refine take_at (i := 12) (v := .bool true) rfl rfl (by kernel_rfl) (by kernel_rfl) (by kernel_rfl) (fun _ _ _ h => h) (Or.inl ⟨by rfl, ?_⟩) hH ?_
        · intro v hv; obtain ⟨hv0, hv1⟩ := hv; go_simp
        simp only [List.setIfInBounds_toArray, List.set_cons_zero, List.set_cons_succ]
        refine wpAnyH_ready (rs := [13]) (by kernel_rfl) (by simp) ?_
        refine AllReadyH.cons rfl (fun K hK => ?_) AllReadyH.nil
        go_simp
        go_at_call 20
        refine (TX.out _ B3d dB3).mono ?_
        rintro e w4 ⟨rfl, hbT, dB4⟩
        have B4 := B3d.trans (hbT.below TN.hb B3d.size)
        have dA4 := hbT.dig dA3 TN.ne
        have q0 := dB4.c0
        have q1 := dB4.c1
        go_wp2_with fail
        refine hK.out _ _ ⟨(B4.cell (p := ⟨g, off + k * 2, none⟩) hgw).trans c0.out, (B4.cell (p := ⟨g, off + k * 2 + 1, none⟩) hgw).trans c1.out⟩ (fun _ => ?_)
        clear hK K hbT hH
        refine wpAnyH_strong (S' := fun w' => w' = w4) (fun v hv => by subst hv; exact ⟨(B4.cell (p := ⟨g, off + k * 2, none⟩) hgw).trans c0.out, (B4.cell (p := ⟨g, off + k * 2 + 1, none⟩) hgw).trans c1.out⟩) _ _ _ _ ?_
        refine take_at (i := 14) (v := .bool false) rfl rfl (by kernel_rfl) (by kernel_rfl) (by kernel_rfl) (fun _ _ _ h => h) (Or.inl ⟨by rfl, ?_⟩) rfl ?_
        · intro v hv; subst hv; go_simp
        simp only [List.setIfInBounds_toArray, List.set_cons_zero, List.set_cons_succ]
        refine take_at (i := 15) (v := .bool false) rfl rfl (by kernel_rfl) (by kernel_rfl) (by kernel_rfl) (fun _ _ _ h => h) (Or.inl ⟨by rfl, ?_⟩) rfl ?_
        · intro v hv; subst hv; go_simp
        simp only [List.setIfInBounds_toArray, List.set_cons_zero, List.set_cons_succ]
        refine take_at (i := 16) (v := .pointer (some ⟨A, 0, none⟩)) rfl rfl (by kernel_rfl) (by kernel_rfl) (by kernel_rfl) (fun _ _ _ h => h) (Or.inl ⟨by rfl, ?_⟩) rfl ?_
        · intro v hv; subst hv; go_simp
        simp only [List.setIfInBounds_toArray, List.set_cons_zero, List.set_cons_succ]
        refine take_at (i := 18) (v := .pointer (some ⟨B, 0, none⟩)) rfl rfl (by kernel_rfl) (by kernel_rfl) (by kernel_rfl) (fun _ _ _ h => h) (Or.inl ⟨by rfl, ?_⟩) rfl ?_
        · intro v hv; subst hv; go_simp
        simp only [List.setIfInBounds_toArray, List.set_cons_zero, List.set_cons_succ]
        refine take_at (i := 19) (v := .pointer (some ⟨B, 0, none⟩)) rfl rfl (by kernel_rfl) (by kernel_rfl) (by kernel_rfl) (fun _ _ _ h => h) (Or.inl ⟨by rfl, ?_⟩) rfl ?_
        · intro v hv; subst hv; go_simp
        simp only [List.setIfInBounds_toArray, List.set_cons_zero, List.set_cons_succ]
        refine take_at (i := 20) (v := .pointer (some ⟨B, 0, none⟩)) rfl rfl (by kernel_rfl) (by kernel_rfl) (by kernel_rfl) (fun _ _ _ h => h) (Or.inl ⟨by rfl, ?_⟩) rfl ?_
        · intro v hv; subst hv; go_simp
        simp only [List.setIfInBounds_toArray, List.set_cons_zero, List.set_cons_succ]
        refine take_at (i := 21) (v := .int .u64 S2) rfl rfl (by kernel_rfl) (by kernel_rfl) (by kernel_rfl) (fun _ _ _ h => h) (Or.inl ⟨by rfl, ?_⟩) rfl ?_
        · intro v hv; subst hv; go_simp
        simp only [List.setIfInBounds_toArray, List.set_cons_zero, List.set_cons_succ]
        refine wpAnyH_ready (rs := [17]) (by kernel_rfl) (by simp) ?_
        refine AllReadyH.cons rfl (fun K hK => ?_) AllReadyH.nil
        go_simp
        go_at_call 14
        refine (SU.out A S2 R2 _ dA4).mono ?_
        rintro e wx ⟨rfl, hwx⟩; have hwx2 := hwx.symm; subst hwx2; clear hwx
        go_wp2_with fail
        refine hK.out _ _ rfl (fun _ => ?_)
        clear hK K
        refine take_at (i := 22) (v := .bool false) rfl rfl (by kernel_rfl) (by kernel_rfl) (by kernel_rfl) (fun _ _ _ h => h) (Or.inl ⟨by rfl, ?_⟩) rfl ?_
        · intro v hv; subst hv; go_simp
        simp only [List.setIfInBounds_toArray, List.set_cons_zero, List.set_cons_succ]
        refine take_at (i := 23) (v := .bool false) rfl rfl (by kernel_rfl) (by kernel_rfl) (by kernel_rfl) (fun _ _ _ h => h) (Or.inl ⟨by rfl, ?_⟩) rfl ?_
        · intro v hv; subst hv; go_simp
        simp only [List.setIfInBounds_toArray, List.set_cons_zero, List.set_cons_succ]
        refine take_at (i := 24) (v := .bool false) rfl rfl (by kernel_rfl) (by kernel_rfl) (by kernel_rfl) (fun _ _ _ h => h) (Or.inl ⟨by rfl, ?_⟩) rfl ?_
        · intro v hv; subst hv; go_simp
        simp only [List.setIfInBounds_toArray, List.set_cons_zero, List.set_cons_succ]
        refine take_at (i := 25) (v := .pointer (some ⟨A, 0, none⟩)) rfl rfl (by kernel_rfl) (by kernel_rfl) (by kernel_rfl) (fun _ _ _ h => h) (Or.inl ⟨by rfl, ?_⟩) rfl ?_
        · intro v hv; subst hv; go_simp
        simp only [List.setIfInBounds_toArray, List.set_cons_zero, List.set_cons_succ]
        refine take_at (i := 27) (v := .pointer (some ⟨B, 0, none⟩)) rfl rfl (by kernel_rfl) (by kernel_rfl) (by kernel_rfl) (fun _ _ _ h => h) (Or.inl ⟨by rfl, ?_⟩) rfl ?_
        · intro v hv; subst hv; go_simp
        simp only [List.setIfInBounds_toArray, List.set_cons_zero, List.set_cons_succ]
        refine take_at (i := 28) (v := .pointer (some ⟨B, 0, none⟩)) rfl rfl (by kernel_rfl) (by kernel_rfl) (by kernel_rfl) (fun _ _ _ h => h) (Or.inl ⟨by rfl, ?_⟩) rfl ?_
        · intro v hv; subst hv; go_simp
        simp only [List.setIfInBounds_toArray, List.set_cons_zero, List.set_cons_succ]
        refine take_at (i := 29) (v := .pointer (some ⟨B, 1, none⟩)) rfl rfl (by kernel_rfl) (by kernel_rfl) (by kernel_rfl) (fun _ _ _ h => h) (Or.inl ⟨by rfl, ?_⟩) rfl ?_
        · intro v hv; subst hv; go_simp
        simp only [List.setIfInBounds_toArray, List.set_cons_zero, List.set_cons_succ]
        refine take_at (i := 30) (v := .int .i64 R2) rfl rfl (by kernel_rfl) (by kernel_rfl) (by kernel_rfl) (fun _ _ _ h => h) (Or.inl ⟨by rfl, ?_⟩) rfl ?_
        · intro v hv; subst hv; go_simp
        simp only [List.setIfInBounds_toArray, List.set_cons_zero, List.set_cons_succ]
        refine wpAnyH_ready (rs := [26]) (by kernel_rfl) (by simp) ?_
        refine AllReadyH.cons rfl (fun K hK => ?_) AllReadyH.nil
        go_simp
        go_at_call 15
        refine (LN.out A S2 R2 _ dA4).mono ?_
        rintro e wx ⟨rfl, hwx⟩; have hwx2 := hwx.symm; subst hwx2; clear hwx
        go_wp2_with fail
        refine hK.out _ _ rfl (fun _ => ?_)
        clear hK K
        refine take_at (i := 31) (v := .bool false) rfl rfl (by kernel_rfl) (by kernel_rfl) (by kernel_rfl) (fun _ _ _ h => h) (Or.inl ⟨by rfl, ?_⟩) rfl ?_
        · intro v hv; subst hv; go_simp
        simp only [List.setIfInBounds_toArray, List.set_cons_zero, List.set_cons_succ]
        refine take_at (i := 32) (v := .bool false) rfl rfl (by kernel_rfl) (by kernel_rfl) (by kernel_rfl) (fun _ _ _ h => h) (Or.inl ⟨by rfl, ?_⟩) rfl ?_
        · intro v hv; subst hv; go_simp
        simp only [List.setIfInBounds_toArray, List.set_cons_zero, List.set_cons_succ]
        refine wpAnyH_done (by kernel_rfl) ?_ _
        refine NoPanic.normal ?_
        go_wp2_with fail
        go_roundw
        case rel => exact ⟨k + 1, S2, R2, by go_num, hlt, hRk, ⟨dA4, dB4, TN.ha, TN.hb, TN.ne, B4⟩⟩
        case measure => simp [intOf]; omega
      · have c0 : Hid (w.cell? ⟨g, off + k * 2, none⟩ = some (.bool true)) := c0'
        clear c0'
        have AX : Hid (∀ w', Tabs w' → rwOk w' ⟨some ⟨wr.heap.size, 0, none⟩, r.la.length + 1, r.la⟩ → dig w' A S R → Calls Tryd.prog 17 #[.pointer (some ⟨A, 0, none⟩), .slice (some ⟨wr.heap.size, 0, none⟩) r.la.length (r.la.length + 1)] w' fun e w'' => e = .returned (.int .i64 (rowE r.la)) ∧ But A w' w'' ∧ dig w'' A (subS S r) (subR R r)) := fun w' h1 h2 h3 => DR.out A S R ⟨some ⟨wr.heap.size, 0, none⟩, r.la.length + 1, r.la⟩ w' (fun _ => by omega) h2 h1 h3
        have TX : Hid (∀ w', Below w.heap.size w w' → digR w' B S R → Calls Tryd.prog 20 #[.pointer (some ⟨B, 0, none⟩), .slice r.p r.la.length r.c, .bool false] w' fun e w'' => e = .returned (.int .i64 (rowE r.la)) ∧ But B w' w'' ∧ digR w'' B (subS S r) (subR R r)) := fun w' h1 h3 => TO.out B S R r w' (fun _ => by omega) (HOK.out.below h1) hrl h3
        have hRk : -((k + 1 : Nat) : Int) ≤ subR R r ∧ subR R r ≤ ((k + 1 : Nat) : Int) := by have := subR_ge R r; omega
        generalize subS S r = S2 at *
        generalize subR R r = R2 at *
        generalize rowE r.la = E at *
        go_wp2_with fail
        refine (OWN.out _ t1.out.bel).mono ?_
        rintro e w1 ⟨rfl, ho1, hb1⟩
        have B1 := t1.out.bel.trans (hb1.mono t1.out.bel.size)
        have dA1 := t1.out.a.below hb1
        have dB1 := t1.out.b.below hb1
        have k0 := (B1.cell (p := ⟨g, off + k * 2, none⟩) hgw).trans c0.out
        have ok1 : rwOk w1 ⟨some ⟨wr.heap.size, 0, none⟩, r.la.length + 1, r.la⟩ := ⟨rowIn_own ho1 rfl, HOK.out.2⟩
        have hGA : A < wr.heap.size := t1.out.a.lt
        have hGB : B < wr.heap.size := t1.out.b.lt
        clear hb1 cc1 hG
        go_wp2_with fail
        refine (AX.out _ (hT.out _ B1) ok1 dA1).mono ?_
        rintro e w2 ⟨rfl, hb2, dA2⟩
        have B2 := B1.trans (hb2.below t1.out.ha B1.size)
        have dB2 := hb2.digR dB1 (Ne.symm t1.out.ne)
        have ho2 := own_but hb2 ho1 (by simp [Value.ownBlock]; omega)
        clear hb2 ho1 dA1 dB1 ok1 k0 AX
        go_wp2_with fail
        refine (SPL.out _ _ _ ho2 (Nat.le_trans (Nat.le_of_lt (World.ownsRow.lt ho2 _ rfl).2) (Nat.le_refl _))).mono ?_
        rintro e w3 ⟨⟨v3, rfl⟩, hg3⟩
        have dA3 := grown_dig hg3 dA2 (by omega)
        have dB3 := grown_digR hg3 dB2 (by omega)
        have B3 := B2.trans (below_own hg3 B2.size (fun x hx => by cases hx; exact t1.out.bel.size))
        have B3d : Below w.heap.size w w3.drew := below_drewN B3 1
        have e0 := (B3.cell (p := ⟨g, off + k * 2, none⟩) hgw).trans c0.out
        have e1 := (B3.cell (p := ⟨g, off + k * 2 + 1, none⟩) hgw).trans c1.out
        clear hg3 ho2 dA2 dB2
        have TN := t1.out
        clear t1
        go_wp2_with fail
        refine wp_region_noPanic ?_
        refine wp_region_held_drew (S := fun w' => w'.cell? ⟨g, off + k * 2, none⟩ = some (.bool true) ∧ w'.cell? ⟨g, off + k * 2 + 1, none⟩ = some (.slice r.p r.la.length r.c)) (by kernel_rfl) ⟨(B3d.cell (p := ⟨g, off + k * 2, none⟩) hgw).trans c0.out, (B3d.cell (p := ⟨g, off + k * 2 + 1, none⟩) hgw).trans c1.out⟩ (fun hH => ?_)
        refine take_at (i := 0) (v := .int .i64 E) rfl rfl (by kernel_rfl) (by kernel_rfl) (by kernel_rfl) (fun _ _ _ h => h) (Or.inl ⟨by rfl, ?_⟩) hH ?_
        · intro v hv; obtain ⟨hv0, hv1⟩ := hv; go_simp
        simp only [List.setIfInBounds_toArray, List.set_cons_zero, List.set_cons_succ]
        refine take_at (i := 1) (v := .pointer (some ⟨B, 0, none⟩)) rfl rfl (by kernel_rfl) (by kernel_rfl) (by kernel_rfl) (fun _ _ _ h => h) (Or.inl ⟨by rfl, ?_⟩) hH ?_
        · intro v hv; obtain ⟨hv0, hv1⟩ := hv; go_simp
        simp only [List.setIfInBounds_toArray, List.set_cons_zero, List.set_cons_succ]
        refine take_at (i := 2) (v := .slice (some ⟨g, off, none⟩) l.length C) rfl rfl (by kernel_rfl) (by kernel_rfl) (by kernel_rfl) (fun _ _ _ h => h) (Or.inl ⟨by rfl, ?_⟩) hH ?_
        · intro v hv; obtain ⟨hv0, hv1⟩ := hv; go_simp
        simp only [List.setIfInBounds_toArray, List.set_cons_zero, List.set_cons_succ]
        refine take_at (i := 3) (v := .int .i64 (k : Int)) rfl rfl (by kernel_rfl) (by kernel_rfl) (by kernel_rfl) (fun _ _ _ h => h) (Or.inl ⟨by rfl, ?_⟩) hH ?_
        · intro v hv; obtain ⟨hv0, hv1⟩ := hv; go_simp
        simp only [List.setIfInBounds_toArray, List.set_cons_zero, List.set_cons_succ]
        refine take_at (i := 4) (v := .pointer (some ⟨g, off + k * 2, none⟩)) rfl rfl (by kernel_rfl) (by kernel_rfl) (by kernel_rfl) (fun _ _ _ h => h) (Or.inl ⟨by rfl, ?_⟩) hH ?_
        · intro v hv; obtain ⟨hv0, hv1⟩ := hv; go_simp
        simp only [List.setIfInBounds_toArray, List.set_cons_zero, List.set_cons_succ]
        refine take_at (i := 5) (v := .pointer (some ⟨g, off + k * 2 + 1, none⟩)) rfl rfl (by kernel_rfl) (by kernel_rfl) (by kernel_rfl) (fun _ _ _ h => h) (Or.inl ⟨by rfl, ?_⟩) hH ?_
        · intro v hv; obtain ⟨hv0, hv1⟩ := hv; go_simp
        simp only [List.setIfInBounds_toArray, List.set_cons_zero, List.set_cons_succ]
        refine take_at (i := 6) (v := .slice r.p r.la.length r.c) rfl rfl (by kernel_rfl) (by kernel_rfl) (by kernel_rfl) (fun _ _ _ h => h) (Or.inl ⟨by rfl, ?_⟩) hH ?_
        · intro v hv; obtain ⟨hv0, hv1⟩ := hv; go_simp
        simp only [List.setIfInBounds_toArray, List.set_cons_zero, List.set_cons_succ]
        refine take_at (i := 7) (v := .slice (some ⟨g, off, none⟩) l.length C) rfl rfl (by kernel_rfl) (by kernel_rfl) (by kernel_rfl) (fun _ _ _ h => h) (Or.inl ⟨by rfl, ?_⟩) hH ?_
        · intro v hv; obtain ⟨hv0, hv1⟩ := hv; go_simp
        simp only [List.setIfInBounds_toArray, List.set_cons_zero, List.set_cons_succ]
        refine take_at (i := 8) (v := .int .i64 (k : Int)) rfl rfl (by kernel_rfl) (by kernel_rfl) (by kernel_rfl) (fun _ _ _ h => h) (Or.inl ⟨by rfl, ?_⟩) hH ?_
        · intro v hv; obtain ⟨hv0, hv1⟩ := hv; go_simp
        simp only [List.setIfInBounds_toArray, List.set_cons_zero, List.set_cons_succ]
        refine take_at (i := 9) (v := .pointer (some ⟨g, off + k * 2, none⟩)) rfl rfl (by kernel_rfl) (by kernel_rfl) (by kernel_rfl) (fun _ _ _ h => h) (Or.inl ⟨by rfl, ?_⟩) hH ?_
        · intro v hv; obtain ⟨hv0, hv1⟩ := hv; go_simp
        simp only [List.setIfInBounds_toArray, List.set_cons_zero, List.set_cons_succ]
        refine take_at (i := 10) (v := .pointer (some ⟨g, off + k * 2, none⟩)) rfl rfl (by kernel_rfl) (by kernel_rfl) (by kernel_rfl) (fun _ _ _ h => h) (Or.inl ⟨by rfl, ?_⟩) hH ?_
        · intro v hv; obtain ⟨hv0, hv1⟩ := hv; go_simp
        simp only [List.setIfInBounds_toArray, List.set_cons_zero, List.set_cons_succ]
        refine take_at (i := 11) (v := .bool true) rfl rfl (by kernel_rfl) (by kernel_rfl) (by kernel_rfl) (fun _ _ _ h => h) (Or.inl ⟨by rfl, ?_⟩) hH ?_
        · intro v hv; obtain ⟨hv0, hv1⟩ := hv; go_simp
        simp only [List.setIfInBounds_toArray, List.set_cons_zero, List.set_cons_succ]
        refine take_at (i := 12) (v := .bool false) rfl rfl (by kernel_rfl) (by kernel_rfl) (by kernel_rfl) (fun _ _ _ h => h) (Or.inl ⟨by rfl, ?_⟩) hH ?_
        · intro v hv; obtain ⟨hv0, hv1⟩ := hv; go_simp
        simp only [List.setIfInBounds_toArray, List.set_cons_zero, List.set_cons_succ]
        refine wpAnyH_ready (rs := [13]) (by kernel_rfl) (by simp) ?_
        refine AllReadyH.cons rfl (fun K hK => ?_) AllReadyH.nil
        go_simp
        go_at_call 20
        refine (TX.out _ B3d dB3).mono ?_
        rintro e w4 ⟨rfl, hbT, dB4⟩
        have B4 := B3d.trans (hbT.below TN.hb B3d.size)
        have dA4 := hbT.dig dA3 TN.ne
        have q0 := dB4.c0
        have q1 := dB4.c1
        go_wp2_with fail
        refine hK.out _ _ ⟨(B4.cell (p := ⟨g, off + k * 2, none⟩) hgw).trans c0.out, (B4.cell (p := ⟨g, off + k * 2 + 1, none⟩) hgw).trans c1.out⟩ (fun _ => ?_)
        clear hK K hbT hH
        refine wpAnyH_strong (S' := fun w' => w' = w4) (fun v hv => by subst hv; exact ⟨(B4.cell (p := ⟨g, off + k * 2, none⟩) hgw).trans c0.out, (B4.cell (p := ⟨g, off + k * 2 + 1, none⟩) hgw).trans c1.out⟩) _ _ _ _ ?_
        refine take_at (i := 14) (v := .bool false) rfl rfl (by kernel_rfl) (by kernel_rfl) (by kernel_rfl) (fun _ _ _ h => h) (Or.inl ⟨by rfl, ?_⟩) rfl ?_
        · intro v hv; subst hv; go_simp
        simp only [List.setIfInBounds_toArray, List.set_cons_zero, List.set_cons_succ]
        refine take_at (i := 15) (v := .bool false) rfl rfl (by kernel_rfl) (by kernel_rfl) (by kernel_rfl) (fun _ _ _ h => h) (Or.inl ⟨by rfl, ?_⟩) rfl ?_
        · intro v hv; subst hv; go_simp
        simp only [List.setIfInBounds_toArray, List.set_cons_zero, List.set_cons_succ]
        refine take_at (i := 16) (v := .pointer (some ⟨A, 0, none⟩)) rfl rfl (by kernel_rfl) (by kernel_rfl) (by kernel_rfl) (fun _ _ _ h => h) (Or.inl ⟨by rfl, ?_⟩) rfl ?_
        · intro v hv; subst hv; go_simp
        simp only [List.setIfInBounds_toArray, List.set_cons_zero, List.set_cons_succ]
        refine take_at (i := 18) (v := .pointer (some ⟨B, 0, none⟩)) rfl rfl (by kernel_rfl) (by kernel_rfl) (by kernel_rfl) (fun _ _ _ h => h) (Or.inl ⟨by rfl, ?_⟩) rfl ?_
        · intro v hv; subst hv; go_simp
        simp only [List.setIfInBounds_toArray, List.set_cons_zero, List.set_cons_succ]
        refine take_at (i := 19) (v := .pointer (some ⟨B, 0, none⟩)) rfl rfl (by kernel_rfl) (by kernel_rfl) (by kernel_rfl) (fun _ _ _ h => h) (Or.inl ⟨by rfl, ?_⟩) rfl ?_
        · intro v hv; subst hv; go_simp
        simp only [List.setIfInBounds_toArray, List.set_cons_zero, List.set_cons_succ]
        refine take_at (i := 20) (v := .pointer (some ⟨B, 0, none⟩)) rfl rfl (by kernel_rfl) (by kernel_rfl) (by kernel_rfl) (fun _ _ _ h => h) (Or.inl ⟨by rfl, ?_⟩) rfl ?_
        · intro v hv; subst hv; go_simp
        simp only [List.setIfInBounds_toArray, List.set_cons_zero, List.set_cons_succ]
        refine take_at (i := 21) (v := .int .u64 S2) rfl rfl (by kernel_rfl) (by kernel_rfl) (by kernel_rfl) (fun _ _ _ h => h) (Or.inl ⟨by rfl, ?_⟩) rfl ?_
        · intro v hv; subst hv; go_simp
        simp only [List.setIfInBounds_toArray, List.set_cons_zero, List.set_cons_succ]
        refine wpAnyH_ready (rs := [17]) (by kernel_rfl) (by simp) ?_
        refine AllReadyH.cons rfl (fun K hK => ?_) AllReadyH.nil
        go_simp
        go_at_call 14
        refine (SU.out A S2 R2 _ dA4).mono ?_
        rintro e wx ⟨rfl, hwx⟩; have hwx2 := hwx.symm; subst hwx2; clear hwx
        go_wp2_with fail
        refine hK.out _ _ rfl (fun _ => ?_)
        clear hK K
        refine take_at (i := 22) (v := .bool false) rfl rfl (by kernel_rfl) (by kernel_rfl) (by kernel_rfl) (fun _ _ _ h => h) (Or.inl ⟨by rfl, ?_⟩) rfl ?_
        · intro v hv; subst hv; go_simp
        simp only [List.setIfInBounds_toArray, List.set_cons_zero, List.set_cons_succ]
        refine take_at (i := 23) (v := .bool false) rfl rfl (by kernel_rfl) (by kernel_rfl) (by kernel_rfl) (fun _ _ _ h => h) (Or.inl ⟨by rfl, ?_⟩) rfl ?_
        · intro v hv; subst hv; go_simp
        simp only [List.setIfInBounds_toArray, List.set_cons_zero, List.set_cons_succ]
        refine take_at (i := 24) (v := .bool false) rfl rfl (by kernel_rfl) (by kernel_rfl) (by kernel_rfl) (fun _ _ _ h => h) (Or.inl ⟨by rfl, ?_⟩) rfl ?_
        · intro v hv; subst hv; go_simp
        simp only [List.setIfInBounds_toArray, List.set_cons_zero, List.set_cons_succ]
        refine take_at (i := 25) (v := .pointer (some ⟨A, 0, none⟩)) rfl rfl (by kernel_rfl) (by kernel_rfl) (by kernel_rfl) (fun _ _ _ h => h) (Or.inl ⟨by rfl, ?_⟩) rfl ?_
        · intro v hv; subst hv; go_simp
        simp only [List.setIfInBounds_toArray, List.set_cons_zero, List.set_cons_succ]
        refine take_at (i := 27) (v := .pointer (some ⟨B, 0, none⟩)) rfl rfl (by kernel_rfl) (by kernel_rfl) (by kernel_rfl) (fun _ _ _ h => h) (Or.inl ⟨by rfl, ?_⟩) rfl ?_
        · intro v hv; subst hv; go_simp
        simp only [List.setIfInBounds_toArray, List.set_cons_zero, List.set_cons_succ]
        refine take_at (i := 28) (v := .pointer (some ⟨B, 0, none⟩)) rfl rfl (by kernel_rfl) (by kernel_rfl) (by kernel_rfl) (fun _ _ _ h => h) (Or.inl ⟨by rfl, ?_⟩) rfl ?_
        · intro v hv; subst hv; go_simp
        simp only [List.setIfInBounds_toArray, List.set_cons_zero, List.set_cons_succ]
        refine take_at (i := 29) (v := .pointer (some ⟨B, 1, none⟩)) rfl rfl (by kernel_rfl) (by kernel_rfl) (by kernel_rfl) (fun _ _ _ h => h) (Or.inl ⟨by rfl, ?_⟩) rfl ?_
        · intro v hv; subst hv; go_simp
        simp only [List.setIfInBounds_toArray, List.set_cons_zero, List.set_cons_succ]
        refine take_at (i := 30) (v := .int .i64 R2) rfl rfl (by kernel_rfl) (by kernel_rfl) (by kernel_rfl) (fun _ _ _ h => h) (Or.inl ⟨by rfl, ?_⟩) rfl ?_
        · intro v hv; subst hv; go_simp
        simp only [List.setIfInBounds_toArray, List.set_cons_zero, List.set_cons_succ]
        refine wpAnyH_ready (rs := [26]) (by kernel_rfl) (by simp) ?_
        refine AllReadyH.cons rfl (fun K hK => ?_) AllReadyH.nil
        go_simp
        go_at_call 15
        refine (LN.out A S2 R2 _ dA4).mono ?_
        rintro e wx ⟨rfl, hwx⟩; have hwx2 := hwx.symm; subst hwx2; clear hwx
        go_wp2_with fail
        refine hK.out _ _ rfl (fun _ => ?_)
        clear hK K
        refine take_at (i := 31) (v := .bool false) rfl rfl (by kernel_rfl) (by kernel_rfl) (by kernel_rfl) (fun _ _ _ h => h) (Or.inl ⟨by rfl, ?_⟩) rfl ?_
        · intro v hv; subst hv; go_simp
        simp only [List.setIfInBounds_toArray, List.set_cons_zero, List.set_cons_succ]
        refine take_at (i := 32) (v := .bool false) rfl rfl (by kernel_rfl) (by kernel_rfl) (by kernel_rfl) (fun _ _ _ h => h) (Or.inl ⟨by rfl, ?_⟩) rfl ?_
        · intro v hv; subst hv; go_simp
        simp only [List.setIfInBounds_toArray, List.set_cons_zero, List.set_cons_succ]
        refine wpAnyH_done (by kernel_rfl) ?_ _
        refine NoPanic.normal ?_
        go_wp2_with fail
        go_roundw
        case rel => exact ⟨k + 1, S2, R2, by go_num, hlt, hRk, ⟨dA4, dB4, TN.ha, TN.hb, TN.ne, B4⟩⟩
        case measure => simp [intOf]; omega
    · have hkn : k = l.length := by omega
      subst hkn
      clear HR HK HP
      have TN := t1.out
      clear t1
      have X0 : Hid (Tabs (wr.drew.alloc (.cells #[.int .i64 99, .int .i64 0, .string ⟨#[]⟩] 23)) ∧ rwOk (wr.drew.alloc (.cells #[.int .i64 99, .int .i64 0, .string ⟨#[]⟩] 23)) ⟨some ⟨wr.heap.size, 0, none⟩, 1, [⟨99, 0, ⟨#[]⟩⟩]⟩ ∧ dig (wr.drew.alloc (.cells #[.int .i64 99, .int .i64 0, .string ⟨#[]⟩] 23)) A S R) := ⟨hT.out _ ((below_drewN TN.bel 1).alloc (below_drewN TN.bel 1).size _), row99 wr.drew, TN.a.below ((below_drewN (Below.refl wr.heap.size wr) 1).alloc (below_drewN (Below.refl wr.heap.size wr) 1).size _)⟩
      have Y0 : Hid (Below w.heap.size w (wr.drew.alloc (.cells #[.int .i64 99, .int .i64 0, .string ⟨#[]⟩] 23)) ∧ digR (wr.drew.alloc (.cells #[.int .i64 99, .int .i64 0, .string ⟨#[]⟩] 23)) B S R) := ⟨(below_drewN TN.bel 1).alloc (below_drewN TN.bel 1).size _, TN.b.below ((below_drewN (Below.refl wr.heap.size wr) 1).alloc (below_drewN (Below.refl wr.heap.size wr) 1).size _)⟩
      have AD1 : Hid (∀ w', Tabs w' ∧ rwOk w' ⟨some ⟨wr.heap.size, 0, none⟩, 1, [⟨99, 0, ⟨#[]⟩⟩]⟩ ∧ dig w' A S R → Calls Tryd.prog 18 #[.pointer (some ⟨A, 0, none⟩), .slice (some ⟨wr.heap.size, 0, none⟩) 1 1] w' fun e w'' => e = .returned (.int .i64 1) ∧ But A w' w'' ∧ dig w'' A S R) := fun w' h => by
        have := AD.out A S R ⟨some ⟨wr.heap.size, 0, none⟩, 1, [⟨99, 0, ⟨#[]⟩⟩]⟩ w' (fun h => by rw [bad_row] at h; cases h) h.2.1 h.1 h.2.2
        rw [addS_bad (by rw [bad_row]; decide), addR_bad (by rw [bad_row]; decide), bad_row] at this; exact this
      have AD2 : Hid (∀ w', Tabs w' → dig w' A S R → Calls Tryd.prog 18 #[.pointer (some ⟨A, 0, none⟩), .slice none 0 0] w' fun e w'' => e = .returned (.int .i64 0) ∧ But A w' w'' ∧ dig w'' A (addS S ⟨none, 0, []⟩) (R + 1)) := fun w' h1 h2 => by
        have := AD.out A S R ⟨none, 0, []⟩ w' (fun _ => by omega) ⟨Or.inl rfl, by simp, by simp⟩ h1 h2
        rw [nil_row, add_r nil_row] at this; exact this
      have hw1 : IntKind.i64.wrap (R + 1) = R + 1 := by rw [IntKind.wrap_i64]; omega
      clear AD DR TI TO SU hRb
      go_wp2_with fail
      refine wp_region_noPanic ?_
      refine wp_region_held_drew (S := fun _ => True) (by kernel_rfl) trivial (fun _ => ?_)
      refine take_at (i := 0) (v := .pointer (some ⟨A, 0, none⟩)) rfl rfl (by kernel_rfl) (by kernel_rfl) (by kernel_rfl) (fun _ _ _ h => h) (Or.inl ⟨by rfl, ?_⟩) trivial ?_
      · intro v hv; clear hv; go_simp
      simp only [List.setIfInBounds_toArray, List.set_cons_zero, List.set_cons_succ]
      refine take_at (i := 1) (v := .agg #[.int .i64 99, .int .i64 0, .string ⟨#[]⟩]) rfl rfl (by kernel_rfl) (by kernel_rfl) (by kernel_rfl) (fun _ _ _ h => h) (Or.inl ⟨by rfl, ?_⟩) trivial ?_
      · intro v hv; clear hv; go_simp
      simp only [List.setIfInBounds_toArray, List.set_cons_zero, List.set_cons_succ]
      refine wpAnyH_ready (rs := [2]) (by kernel_rfl) (by simp) ?_
      refine AllReadyH.cons rfl (fun K hK => ?_) AllReadyH.nil
      go_simp
      refine hK.out _ _ trivial (fun _ => ?_)
      clear hK K
      refine wpAnyH_ready (rs := [3]) (by kernel_rfl) (by simp) ?_
      refine AllReadyH.cons rfl (fun K hK => ?_) AllReadyH.nil
      go_simp
      go_at_call 18
      refine (AD1.out _ X0.out).mono ?_
      rintro e w5 ⟨rfl, hb5, dA5⟩
      have B5 := Y0.out.1.trans (hb5.below TN.ha Y0.out.1.size)
      have dB5 := hb5.digR Y0.out.2 (Ne.symm TN.ne)
      go_wp2_with fail
      refine hK.out _ _ trivial (fun _ => ?_)
      clear hK K hb5 X0 Y0
      refine take_at (i := 4) (v := .bool true) rfl rfl (by kernel_rfl) (by kernel_rfl) (by kernel_rfl) (fun _ _ _ h => h) (Or.inl ⟨by rfl, ?_⟩) trivial ?_
      · intro v hv; clear hv; go_simp
      simp only [List.setIfInBounds_toArray, List.set_cons_zero, List.set_cons_succ]
      refine take_at (i := 5) (v := .bool true) rfl rfl (by kernel_rfl) (by kernel_rfl) (by kernel_rfl) (fun _ _ _ h => h) (Or.inl ⟨by rfl, ?_⟩) trivial ?_
      · intro v hv; clear hv; go_simp
      simp only [List.setIfInBounds_toArray, List.set_cons_zero, List.set_cons_succ]
      refine take_at (i := 6) (v := .pointer (some ⟨A, 0, none⟩)) rfl rfl (by kernel_rfl) (by kernel_rfl) (by kernel_rfl) (fun _ _ _ h => h) (Or.inl ⟨by rfl, ?_⟩) trivial ?_
      · intro v hv; clear hv; go_simp
      simp only [List.setIfInBounds_toArray, List.set_cons_zero, List.set_cons_succ]
      refine wpAnyH_ready (rs := [7]) (by kernel_rfl) (by simp) ?_
      refine AllReadyH.cons rfl (fun K hK => ?_) AllReadyH.nil
      go_simp
      go_at_call 18
      refine (AD2.out _ (hT.out _ B5) dA5).mono ?_
      rintro e w6 ⟨rfl, hb6, dA6⟩
      have B6 := B5.trans (hb6.below TN.ha B5.size)
      have dB6 := hb6.digR dB5 (Ne.symm TN.ne)
      have q1 := dB6.c1
      go_wp2_with fail
      refine hK.out _ _ trivial (fun _ => ?_)
      clear hK K hb6
      refine wpAnyH_strong (S' := fun w' => w' = w6) (fun _ _ => trivial) _ _ _ _ ?_
      refine take_at (i := 8) (v := .bool true) rfl rfl (by kernel_rfl) (by kernel_rfl) (by kernel_rfl) (fun _ _ _ h => h) (Or.inl ⟨by rfl, ?_⟩) rfl ?_
      · intro v hv; subst hv; go_simp
      simp only [List.setIfInBounds_toArray, List.set_cons_zero, List.set_cons_succ]
      refine take_at (i := 9) (v := .bool true) rfl rfl (by kernel_rfl) (by kernel_rfl) (by kernel_rfl) (fun _ _ _ h => h) (Or.inl ⟨by rfl, ?_⟩) rfl ?_
      · intro v hv; subst hv; go_simp
      simp only [List.setIfInBounds_toArray, List.set_cons_zero, List.set_cons_succ]
      refine take_at (i := 10) (v := .bool true) rfl rfl (by kernel_rfl) (by kernel_rfl) (by kernel_rfl) (fun _ _ _ h => h) (Or.inl ⟨by rfl, ?_⟩) rfl ?_
      · intro v hv; subst hv; go_simp
      simp only [List.setIfInBounds_toArray, List.set_cons_zero, List.set_cons_succ]
      refine take_at (i := 11) (v := .pointer (some ⟨A, 0, none⟩)) rfl rfl (by kernel_rfl) (by kernel_rfl) (by kernel_rfl) (fun _ _ _ h => h) (Or.inl ⟨by rfl, ?_⟩) rfl ?_
      · intro v hv; subst hv; go_simp
      simp only [List.setIfInBounds_toArray, List.set_cons_zero, List.set_cons_succ]
      refine take_at (i := 13) (v := .pointer (some ⟨B, 0, none⟩)) rfl rfl (by kernel_rfl) (by kernel_rfl) (by kernel_rfl) (fun _ _ _ h => h) (Or.inl ⟨by rfl, ?_⟩) rfl ?_
      · intro v hv; subst hv; go_simp
      simp only [List.setIfInBounds_toArray, List.set_cons_zero, List.set_cons_succ]
      refine take_at (i := 14) (v := .pointer (some ⟨B, 0, none⟩)) rfl rfl (by kernel_rfl) (by kernel_rfl) (by kernel_rfl) (fun _ _ _ h => h) (Or.inl ⟨by rfl, ?_⟩) rfl ?_
      · intro v hv; subst hv; go_simp
      simp only [List.setIfInBounds_toArray, List.set_cons_zero, List.set_cons_succ]
      refine take_at (i := 15) (v := .pointer (some ⟨B, 1, none⟩)) rfl rfl (by kernel_rfl) (by kernel_rfl) (by kernel_rfl) (fun _ _ _ h => h) (Or.inl ⟨by rfl, ?_⟩) rfl ?_
      · intro v hv; subst hv; go_simp
      simp only [List.setIfInBounds_toArray, List.set_cons_zero, List.set_cons_succ]
      refine take_at (i := 16) (v := .int .i64 R) rfl rfl (by kernel_rfl) (by kernel_rfl) (by kernel_rfl) (fun _ _ _ h => h) (Or.inl ⟨by rfl, ?_⟩) rfl ?_
      · intro v hv; subst hv; go_simp
      simp only [List.setIfInBounds_toArray, List.set_cons_zero, List.set_cons_succ]
      refine take_at (i := 17) (v := .int .i64 (R + 1)) rfl rfl (by kernel_rfl) (by kernel_rfl) (by kernel_rfl) (fun _ _ _ h => h) (Or.inl ⟨by rfl, ?_⟩) rfl ?_
      · intro v hv; subst hv; go_simp
      simp only [List.setIfInBounds_toArray, List.set_cons_zero, List.set_cons_succ]
      refine wpAnyH_ready (rs := [12]) (by kernel_rfl) (by simp) ?_
      refine AllReadyH.cons rfl (fun K hK => ?_) AllReadyH.nil
      go_simp
      go_at_call 15
      refine (LN.out A _ _ _ dA6).mono ?_
      rintro e wx ⟨rfl, hwx⟩; have hwx2 := hwx.symm; subst hwx2; clear hwx
      go_wp2_with fail
      refine hK.out _ _ rfl (fun _ => ?_)
      clear hK K
      refine take_at (i := 18) (v := .bool true) rfl rfl (by kernel_rfl) (by kernel_rfl) (by kernel_rfl) (fun _ _ _ h => h) (Or.inl ⟨by rfl, ?_⟩) rfl ?_
      · intro v hv; subst hv; go_simp
      simp only [List.setIfInBounds_toArray, List.set_cons_zero, List.set_cons_succ]
      refine take_at (i := 19) (v := .bool true) rfl rfl (by kernel_rfl) (by kernel_rfl) (by kernel_rfl) (fun _ _ _ h => h) (Or.inl ⟨by rfl, ?_⟩) rfl ?_
      · intro v hv; subst hv; go_simp
      simp only [List.setIfInBounds_toArray, List.set_cons_zero, List.set_cons_succ]
      refine take_at (i := 20) (v := .bool true) rfl rfl (by kernel_rfl) (by kernel_rfl) (by kernel_rfl) (fun _ _ _ h => h) (Or.inl ⟨by rfl, ?_⟩) rfl ?_
      · intro v hv; subst hv; go_simp
      simp only [List.setIfInBounds_toArray, List.set_cons_zero, List.set_cons_succ]
      refine wpAnyH_done (by kernel_rfl) ?_ _
      refine NoPanic.normal ?_
      go_wp2_with fail
      go_ret
      exact ⟨rfl, B6⟩
end Go.Proofs.YtjdnbgnjgicbbaaDoor
