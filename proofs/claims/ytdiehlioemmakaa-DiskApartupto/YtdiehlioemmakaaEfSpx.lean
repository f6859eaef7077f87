/-
  The walk of lockstepref04's Append.
-/
import Derived.Test.YtdiehlioemmakaaUJ
namespace Go.Proofs.Ytdiehlioemmakaa
open Go.RowKit Go.Maps Go.Joins
variable {F : Nat → Prop}

def quE (b : List UInt8) (s : St) : Bool := decide (s.q < (b.length : Int)) || decide (s.q - (b.length : Int) < (usd s.fs s.now : Int))
def apE (n b : List UInt8) (s : St) : Int := if atE n s.now ≠ 0 then atE n s.now else if quE b s = true then 42 else if (stp s).2 = true then 44 else 0
def apS (n b : List UInt8) (s : St) : St := if atE n s.now ≠ 0 then s else if quE b s = true then s else if (stp s).2 = true ∧ s.dead = true then (stp s).1 else { (stp s).1 with fs := (stp s).1.fs.set (fnd n s.now).toNat ((getF s n).1 ++ (if (stp s).2 = true then b.take (b.length / 2) else b), (getF s n).2) }
set_option maxHeartbeats 8000000 in
set_option maxRecDepth 1000000 in
theorem refAppend_any (f : Nat) (s : St) (n b : List UInt8) (Pb : Option Addr) (Cb : Nat) (w : World) (h : Rf F w f s) (hl : -9223372036854775808 ≤ s.left ∧ s.left ≤ 9223372036854775807) (hb : s.ways.length ≤ 9000000) (hn : s.now.length ≤ 4000000) (hm : s.fs.length ≤ 9000000) (hok : StOk s) (hu : usd s.fs s.now ≤ 1000000000000) (hq : 0 ≤ s.q ∧ s.q ≤ 16777216) (hlen : (getF s n).1.length ≤ 100000000) (hin : byIn w Pb b) (hout : b ≠ [] → ∀ a, Pb = some a → a.block ≠ f) (hC : Pb = none → Cb = 0) (hbC : b.length ≤ Cb) (hbl : b.length ≤ 1000000000) :
    Calls Try.prog 33 #[.pointer (some ⟨f, 0, none⟩), .string ⟨n.toArray⟩, .slice Pb b.length Cb] w fun e w' => e = .returned (.int .i64 (apE n b s)) ∧ Rf F w' f (apS n b s) ∧ Keep f w w' := by
  by_cases h0 : atE n s.now = 0
  case neg =>
    have AT := at_any f s n w h hb (by omega)
    have r1 : apE n b s = atE n s.now := by unfold apE; rw [if_pos h0]
    have r2 : apS n b s = s := by unfold apS; rw [if_pos h0]
    rw [r1, r2]
    rcases at_err h0 with hE | hE
    · rw [hE] at AT ⊢
      generalize atI n s.now = I at *
      have AT2 := mkHid AT
      have H := mkHid h
      clear AT hE h hb hn hm hok h0 r1 r2 hl hu hq hlen hin hout
      go_enter Try.func33, Try.ntmps33
      go_wp2_with fail
      refine AT2.out.mono ?_
      rintro e w1 ⟨rfl, g1⟩
      go_wp2_with fail
      go_ret
      exact ⟨rfl, H.out.grown g1, Keep.grown g1⟩
    · rw [hE] at AT ⊢
      generalize atI n s.now = I at *
      have AT2 := mkHid AT
      have H := mkHid h
      clear AT hE h hb hn hm hok h0 r1 r2 hl hu hq hlen hin hout
      go_enter Try.func33, Try.ntmps33
      go_wp2_with fail
      refine AT2.out.mono ?_
      rintro e w1 ⟨rfl, g1⟩
      go_wp2_with fail
      go_ret
      exact ⟨rfl, H.out.grown g1, Keep.grown g1⟩
  have AT := at_any f s n w h hb (by omega)
  obtain ⟨i, x, hI, hx, hF⟩ := at_file hok h0
  have hgx : getF s n = x := by unfold getF; rw [hF, List.getD_eq_getElem?_getD, Int.toNat_natCast, hx]; rfl
  rw [h0, hI] at AT
  have AT2 := mkHid AT
  have hiu := (List.getElem?_eq_some_iff.1 hx).1
  have USE : Hid (∀ w1, w.grownBy w1 none → Calls Try.prog 49 #[.pointer (some ⟨f, 0, none⟩)] w1 fun e w' => e = .returned (.int .i64 (usd s.fs s.now : Int)) ∧ w1.grownBy w' none) := fun w1 g => refUsed_any f s w1 (h.grown g) hb hn hm hok hu
  have rE : apE n b s = if quE b s = true then 42 else if (stp s).2 = true then 44 else 0 := by unfold apE; rw [if_neg (by rw [h0]; simp)]
  have rS : apS n b s = if quE b s = true then s else if (stp s).2 = true ∧ s.dead = true then (stp s).1 else { (stp s).1 with fs := (stp s).1.fs.set i (x.1 ++ (if (stp s).2 = true then b.take (b.length / 2) else b), x.2) } := by unfold apS; rw [if_neg (by rw [h0]; simp), hgx, hF, Int.toNat_natCast]
  rw [rE, rS]
  clear rE rS
  rw [hgx] at hlen
  obtain ⟨x1, x2⟩ := x
  simp only at hlen
  obtain ⟨L, hL⟩ : ∃ L, L = x1.length := ⟨_, rfl⟩
  have C : Hid (∀ w1, w.grownBy w1 none → ∃ g o c vW pB cB, RB w1 f s.q s.left (.slice (some ⟨g, o, none⟩) s.fs.length c) vW s.dead ∧ w1.cell? ⟨g, o + i * 2, none⟩ = some (.slice pB L cB) ∧ w1.cell? ⟨g, o + i * 2 + 1, none⟩ = some (.int .i64 (x2 : Int)) ∧ rd1 F w1 f (.slice pB L cB) (by8 x1)) := by rw [hL]; exact fun w1 g1 => file_at (h.grown g1) hx
  obtain ⟨vF, vW, h1, h2, h3⟩ := h.fs
  have hS : Hid (∀ w1, Keep f w w1 → RB w1 f s.q s.left vF vW s.dead → Calls Try.prog 67 #[.pointer (some ⟨f, 0, none⟩)] w1 fun e w' => e = .returned (.bool (stp s).2) ∧ RB w' f s.q (stp s).1.left vF vW (stp s).1.dead ∧ Keep f w1 w') := fun w1 k hB => by
    have := stops_any f s.q s.left vF vW s.dead w1 hl hB
    obtain ⟨e1, e2⟩ := stp_same s
    rw [e1, e2]; exact this
  have HLL : Hid (L = x1.length) := hL
  have HRB : Hid (RB w f s.q s.left vF vW s.dead) := h1
  have hfw := lt_of_heap h1
  have fbw := mkHid h.fb
  have u2 : (i : Int) < (s.fs.length : Int) := by omega
  have u3 : (s.fs.length : Int) ≤ 9000000 := by omega
  have hLL : L ≤ 100000000 := by omega
  have FIN : Hid (∀ W, Keep f w W → RB W f s.q (stp s).1.left vF vW (stp s).1.dead → Rf F W f (stp s).1) := fun W k hB => Rf.of h.fb h2 h3 h.ne k (by rw [(stp_ways s).2.2]; exact hB) (stp_ways s).2.1 (stp_ways s).1
  have HM : Hid ((stp s).1.fs.length ≤ 9000000) := by show _ ≤ _; rw [(stp_ways s).2.1]; exact hm
  have HI : Hid (i < (stp s).1.fs.length) := by show _ < _; rw [(stp_ways s).2.1]; exact hiu
  have H := mkHid h
  have HIN := mkHid hin
  have HOUT := mkHid hout
  obtain ⟨c0, _, _, _, c4, _⟩ := RB.c h1
  obtain ⟨U, hU⟩ : ∃ U, U = usd s.fs s.now := ⟨_, rfl⟩
  have hqE : quE b s = (decide (s.q < (b.length : Int)) || decide (s.q - (b.length : Int) < (U : Int))) := by unfold quE; rw [← hU]
  rw [← hU] at USE hu
  obtain ⟨M, hM⟩ : ∃ M, M = s.fs.length := ⟨_, rfl⟩
  rw [← hM] at C u2 u3
  have FC : Hid (∀ (w1b w2 : World) (g o c : Nat) (pB : Option Addr) (cB : Nat), w.grownBy w1b none → vF = .slice (some ⟨g, o, none⟩) M c → w1b.cell? ⟨g, o + i * 2, none⟩ = some (.slice pB L cB) → w1b.cell? ⟨g, o + i * 2 + 1, none⟩ = some (.int .i64 (x2 : Int)) → Keep f w1b w2 → rd1 F w1b f (.slice pB L cB) (by8 x1) → w2.cell? ⟨g, o + i * 2, none⟩ = some (.slice pB L cB) ∧ w2.cell? ⟨g, o + i * 2 + 1, none⟩ = some (.int .i64 (x2 : Int)) ∧ rd1 F w2 f (.slice pB L cB) (by8 x1)) := fun w1b w2 g o c pB cB _ hv h5 h6 k hr => by
    have hgf : g ≠ f := by
      obtain ⟨us, hul, ⟨p, c', e, _, _, _, hcc⟩, _⟩ := h2
      rw [hv] at e
      simp only [Value.slice.injEq] at e
      rcases hcc with hcc | ⟨g', o', e', hg', _⟩
      · rw [hcc] at hul; simp at hul; omega
      · rw [← e.1] at e'; cases e'; exact hg'.1
    exact ⟨cellC k h5 hgf, cellC k h6 hgf, hr.kept k⟩
  clear AT h hl hb hn hm hok h0 hI hx hF hgx hL h1 h2 h3 hlen hin hout hU hiu hM
  by_cases hq1 : s.q < (b.length : Int)
  · have e1 : quE b s = true := by rw [hqE, decide_eq_true hq1]; rfl
    rw [if_pos e1, if_pos e1]
    clear hqE e1
    go_enter Try.func33, Try.ntmps33
    go_wp2_with fail
    refine AT2.out.mono ?_
    rintro e w1 ⟨rfl, g1⟩
    have z0 := g1.cell c0 (by simp)
    go_wp2_with fail
    refine wp_region_noPanic ?_
    refine wp_region_held_drew (S := fun w' => w'.cell? ⟨f, 0, none⟩ = some (.int .i64 s.q)) (by kernel_rfl) (z0) (fun hH => ?_)
    refine tKx (i := 0) (v := .slice Pb b.length Cb) rfl rfl (by kernel_rfl) (fun _ _ _ h => h) ?_ hH ?_
    · intro w5 hSw; go_simp
    simp only [zA9, zB9, zC9]
    refine tKx (i := 1) (v := .int .i64 (b.length : Int)) rfl rfl (by kernel_rfl) (fun _ _ _ h => h) ?_ hH ?_
    · intro w5 hSw; go_simp
    simp only [zA9, zB9, zC9]
    refine tKx (i := 2) (v := .pointer (some ⟨f, 0, none⟩)) rfl rfl (by kernel_rfl) (fun _ _ _ h => h) ?_ hH ?_
    · intro w5 hSw; go_simp
    simp only [zA9, zB9, zC9]
    refine tKx (i := 3) (v := .pointer (some ⟨f, 0, none⟩)) rfl rfl (by kernel_rfl) (fun _ _ _ h => h) ?_ hH ?_
    · intro w5 hSw; go_simp
    simp only [zA9, zB9, zC9]
    refine tKx (i := 4) (v := .pointer (some ⟨f, 0, none⟩)) rfl rfl (by kernel_rfl) (fun _ _ _ h => h) ?_ hH ?_
    · intro w5 hSw; go_simp
    simp only [zA9, zB9, zC9]
    refine tKx (i := 5) (v := .int .i64 s.q) rfl rfl (by kernel_rfl) (fun _ _ _ h => h) ?_ hH ?_
    · intro w5 hSw; go_simp
    simp only [zA9, zB9, zC9]
    refine tKx (i := 6) (v := .bool true) rfl rfl (by kernel_rfl) (fun _ _ _ h => h) ?_ hH ?_
    · intro w5 hSw; go_simp
    simp only [zA9, zB9, zC9]
    refine tKx (i := 7) (v := .bool true) rfl rfl (by kernel_rfl) (fun _ _ _ h => h) ?_ hH ?_
    · intro w5 hSw; go_simp
    simp only [zA9, zB9, zC9]
    refine take_at (i := 8) (v := undef) rfl rfl (by kernel_rfl) (by kernel_rfl) (by kernel_rfl) (fun _ _ _ h => h) (Or.inr ⟨by rfl, rfl⟩) hH ?_
    simp only [zA9, zB9, zC9]
    refine take_at (i := 9) (v := undef) rfl rfl (by kernel_rfl) (by kernel_rfl) (by kernel_rfl) (fun _ _ _ h => h) (Or.inr ⟨by rfl, rfl⟩) hH ?_
    simp only [zA9, zB9, zC9]
    refine take_at (i := 10) (v := undef) rfl rfl (by kernel_rfl) (by kernel_rfl) (by kernel_rfl) (fun _ _ _ h => h) (Or.inr ⟨by rfl, rfl⟩) hH ?_
    simp only [zA9, zB9, zC9]
    refine take_at (i := 11) (v := undef) rfl rfl (by kernel_rfl) (by kernel_rfl) (by kernel_rfl) (fun _ _ _ h => h) (Or.inr ⟨by rfl, rfl⟩) hH ?_
    simp only [zA9, zB9, zC9]
    refine take_at (i := 12) (v := undef) rfl rfl (by kernel_rfl) (by kernel_rfl) (by kernel_rfl) (fun _ _ _ h => h) (Or.inr ⟨by rfl, rfl⟩) hH ?_
    simp only [zA9, zB9, zC9]
    refine take_at (i := 13) (v := undef) rfl rfl (by kernel_rfl) (by kernel_rfl) (by kernel_rfl) (fun _ _ _ h => h) (Or.inr ⟨by rfl, rfl⟩) hH ?_
    simp only [zA9, zB9, zC9]
    refine take_at (i := 14) (v := undef) rfl rfl (by kernel_rfl) (by kernel_rfl) (by kernel_rfl) (fun _ _ _ h => h) (Or.inr ⟨by rfl, rfl⟩) hH ?_
    simp only [zA9, zB9, zC9]
    refine take_at (i := 15) (v := undef) rfl rfl (by kernel_rfl) (by kernel_rfl) (by kernel_rfl) (fun _ _ _ h => h) (Or.inr ⟨by rfl, rfl⟩) hH ?_
    simp only [zA9, zB9, zC9]
    refine take_at (i := 16) (v := undef) rfl rfl (by kernel_rfl) (by kernel_rfl) (by kernel_rfl) (fun _ _ _ h => h) (Or.inr ⟨by rfl, rfl⟩) hH ?_
    simp only [zA9, zB9, zC9]
    refine take_at (i := 17) (v := undef) rfl rfl (by kernel_rfl) (by kernel_rfl) (by kernel_rfl) (fun _ _ _ h => h) (Or.inr ⟨by rfl, rfl⟩) hH ?_
    simp only [zA9, zB9, zC9]
    refine tKx (i := 18) (v := .bool true) rfl rfl (by kernel_rfl) (fun _ _ _ h => h) ?_ hH ?_
    · intro w5 hSw; go_simp
    simp only [zA9, zB9, zC9]
    refine wpAnyH_done (by kernel_rfl) ?_ _
    refine NoPanic.normal ?_
    go_wp2_with fail
    go_ret
    have g2 : w.grownBy w1.drew none := grTrans g1 ⟨rfl, rfl, rfl, Nat.le_refl _, fun _ _ _ => rfl⟩
    exact ⟨rfl, H.out.grown g2, Keep.grown g2⟩
  have t1 : IntKind.i64.wrap (s.q - (b.length : Int)) = s.q - (b.length : Int) := by rw [IntKind.wrap_i64]; omega
  have t2 : wrap64 (s.q - (b.length : Int)) = s.q - (b.length : Int) := by unfold wrap64; omega
  by_cases hq2 : s.q - (b.length : Int) < (U : Int)
  · have e1 : quE b s = true := by rw [hqE, decide_eq_true hq2, Bool.or_true]
    rw [if_pos e1, if_pos e1]
    clear hqE e1
    go_enter Try.func33, Try.ntmps33
    go_wp2_with fail
    refine AT2.out.mono ?_
    rintro e w1 ⟨rfl, g1⟩
    have z0 := g1.cell c0 (by simp)
    go_wp2_with fail
    refine wp_region_noPanic ?_
    refine wp_region_held_drew (S := fun w' => w'.cell? ⟨f, 0, none⟩ = some (.int .i64 s.q)) (by kernel_rfl) (z0) (fun hH => ?_)
    refine tKx (i := 0) (v := .slice Pb b.length Cb) rfl rfl (by kernel_rfl) (fun _ _ _ h => h) ?_ hH ?_
    · intro w5 hSw; go_simp
    simp only [zA9, zB9, zC9]
    refine tKx (i := 1) (v := .int .i64 (b.length : Int)) rfl rfl (by kernel_rfl) (fun _ _ _ h => h) ?_ hH ?_
    · intro w5 hSw; go_simp
    simp only [zA9, zB9, zC9]
    refine tKx (i := 2) (v := .pointer (some ⟨f, 0, none⟩)) rfl rfl (by kernel_rfl) (fun _ _ _ h => h) ?_ hH ?_
    · intro w5 hSw; go_simp
    simp only [zA9, zB9, zC9]
    refine tKx (i := 3) (v := .pointer (some ⟨f, 0, none⟩)) rfl rfl (by kernel_rfl) (fun _ _ _ h => h) ?_ hH ?_
    · intro w5 hSw; go_simp
    simp only [zA9, zB9, zC9]
    refine tKx (i := 4) (v := .pointer (some ⟨f, 0, none⟩)) rfl rfl (by kernel_rfl) (fun _ _ _ h => h) ?_ hH ?_
    · intro w5 hSw; go_simp
    simp only [zA9, zB9, zC9]
    refine tKx (i := 5) (v := .int .i64 s.q) rfl rfl (by kernel_rfl) (fun _ _ _ h => h) ?_ hH ?_
    · intro w5 hSw; go_simp
    simp only [zA9, zB9, zC9]
    refine tKx (i := 6) (v := .bool false) rfl rfl (by kernel_rfl) (fun _ _ _ h => h) ?_ hH ?_
    · intro w5 hSw; go_simp
    simp only [zA9, zB9, zC9]
    refine tKx (i := 7) (v := .bool false) rfl rfl (by kernel_rfl) (fun _ _ _ h => h) ?_ hH ?_
    · intro w5 hSw; go_simp
    simp only [zA9, zB9, zC9]
    refine tKx (i := 8) (v := .pointer (some ⟨f, 0, none⟩)) rfl rfl (by kernel_rfl) (fun _ _ _ h => h) ?_ hH ?_
    · intro w5 hSw; go_simp
    simp only [zA9, zB9, zC9]
    refine tKx (i := 10) (v := .pointer (some ⟨f, 0, none⟩)) rfl rfl (by kernel_rfl) (fun _ _ _ h => h) ?_ hH ?_
    · intro w5 hSw; go_simp
    simp only [zA9, zB9, zC9]
    refine tKx (i := 11) (v := .pointer (some ⟨f, 0, none⟩)) rfl rfl (by kernel_rfl) (fun _ _ _ h => h) ?_ hH ?_
    · intro w5 hSw; go_simp
    simp only [zA9, zB9, zC9]
    refine tKx (i := 12) (v := .pointer (some ⟨f, 0, none⟩)) rfl rfl (by kernel_rfl) (fun _ _ _ h => h) ?_ hH ?_
    · intro w5 hSw; go_simp
    simp only [zA9, zB9, zC9]
    refine tKx (i := 13) (v := .int .i64 s.q) rfl rfl (by kernel_rfl) (fun _ _ _ h => h) ?_ hH ?_
    · intro w5 hSw; go_simp
    simp only [zA9, zB9, zC9]
    refine tKx (i := 14) (v := .slice Pb b.length Cb) rfl rfl (by kernel_rfl) (fun _ _ _ h => h) ?_ hH ?_
    · intro w5 hSw; go_simp
    simp only [zA9, zB9, zC9]
    refine tKx (i := 15) (v := .int .i64 (b.length : Int)) rfl rfl (by kernel_rfl) (fun _ _ _ h => h) ?_ hH ?_
    · intro w5 hSw; go_simp
    simp only [zA9, zB9, zC9]
    refine tKx (i := 16) (v := .int .i64 (s.q - (b.length : Int))) rfl rfl (by kernel_rfl) (fun _ _ _ h => h) ?_ hH ?_
    · intro w5 hSw; go_simp
    simp only [zA9, zB9, zC9]
    refine wpAnyH_ready (rs := [9]) (by kernel_rfl) (by simp) ?_
    refine AllReadyH.cons rfl (fun K hK => ?_) AllReadyH.nil
    go_simp
    go_at_call 49
    have gd : w1.grownBy w1.drew none := ⟨rfl, rfl, rfl, Nat.le_refl _, fun _ _ _ => rfl⟩
    refine (USE.out w1.drew (grTrans g1 gd)).mono ?_
    rintro e w1b ⟨rfl, g1b⟩
    go_wp2_with fail
    have g1c : w.grownBy w1b none := grTrans (grTrans g1 gd) g1b
    have hH9 := hH
    clear hH
    refine hK.out _ _ (g1c.cell c0 (by simp)) (fun hH => ?_)
    clear hK K
    refine tKx (i := 17) (v := .bool true) rfl rfl (by kernel_rfl) (fun _ _ _ h => h) ?_ hH ?_
    · intro w5 hSw; go_simp
    simp only [zA9, zB9, zC9]
    refine tKx (i := 18) (v := .bool true) rfl rfl (by kernel_rfl) (fun _ _ _ h => h) ?_ hH ?_
    · intro w5 hSw; go_simp
    simp only [zA9, zB9, zC9]
    refine wpAnyH_done (by kernel_rfl) ?_ _
    refine NoPanic.normal ?_
    clear g1 gd g1b z0 hH hH9
    go_wp2_with fail
    go_ret
    exact ⟨rfl, H.out.grown g1c, Keep.grown g1c⟩
  have e1 : quE b s = false := by rw [hqE, decide_eq_false hq1, decide_eq_false hq2]; rfl
  have nq : ¬ quE b s = true := by rw [e1]; simp
  rw [if_neg nq, if_neg nq]
  clear hqE e1 nq
  cases hd : (stp s).2 with
  | true =>
    rw [hd] at hS
    cases hdd : s.dead with
    | true =>
      rw [if_pos rfl, if_pos ⟨rfl, rfl⟩]
      rw [hdd] at C hS HRB c4
      go_enter Try.func33, Try.ntmps33
      go_wp2_with fail
      refine AT2.out.mono ?_
      rintro e w1 ⟨rfl, g1⟩
      have z0 := g1.cell c0 (by simp)
      go_wp2_with fail
      refine wp_region_noPanic ?_
      refine wp_region_held_drew (S := fun w' => w'.cell? ⟨f, 0, none⟩ = some (.int .i64 s.q)) (by kernel_rfl) (z0) (fun hH => ?_)
      refine tKx (i := 0) (v := .slice Pb b.length Cb) rfl rfl (by kernel_rfl) (fun _ _ _ h => h) ?_ hH ?_
      · intro w5 hSw; go_simp
      simp only [zA9, zB9, zC9]
      refine tKx (i := 1) (v := .int .i64 (b.length : Int)) rfl rfl (by kernel_rfl) (fun _ _ _ h => h) ?_ hH ?_
      · intro w5 hSw; go_simp
      simp only [zA9, zB9, zC9]
      refine tKx (i := 2) (v := .pointer (some ⟨f, 0, none⟩)) rfl rfl (by kernel_rfl) (fun _ _ _ h => h) ?_ hH ?_
      · intro w5 hSw; go_simp
      simp only [zA9, zB9, zC9]
      refine tKx (i := 3) (v := .pointer (some ⟨f, 0, none⟩)) rfl rfl (by kernel_rfl) (fun _ _ _ h => h) ?_ hH ?_
      · intro w5 hSw; go_simp
      simp only [zA9, zB9, zC9]
      refine tKx (i := 4) (v := .pointer (some ⟨f, 0, none⟩)) rfl rfl (by kernel_rfl) (fun _ _ _ h => h) ?_ hH ?_
      · intro w5 hSw; go_simp
      simp only [zA9, zB9, zC9]
      refine tKx (i := 5) (v := .int .i64 s.q) rfl rfl (by kernel_rfl) (fun _ _ _ h => h) ?_ hH ?_
      · intro w5 hSw; go_simp
      simp only [zA9, zB9, zC9]
      refine tKx (i := 6) (v := .bool false) rfl rfl (by kernel_rfl) (fun _ _ _ h => h) ?_ hH ?_
      · intro w5 hSw; go_simp
      simp only [zA9, zB9, zC9]
      refine tKx (i := 7) (v := .bool false) rfl rfl (by kernel_rfl) (fun _ _ _ h => h) ?_ hH ?_
      · intro w5 hSw; go_simp
      simp only [zA9, zB9, zC9]
      refine tKx (i := 8) (v := .pointer (some ⟨f, 0, none⟩)) rfl rfl (by kernel_rfl) (fun _ _ _ h => h) ?_ hH ?_
      · intro w5 hSw; go_simp
      simp only [zA9, zB9, zC9]
      refine tKx (i := 10) (v := .pointer (some ⟨f, 0, none⟩)) rfl rfl (by kernel_rfl) (fun _ _ _ h => h) ?_ hH ?_
      · intro w5 hSw; go_simp
      simp only [zA9, zB9, zC9]
      refine tKx (i := 11) (v := .pointer (some ⟨f, 0, none⟩)) rfl rfl (by kernel_rfl) (fun _ _ _ h => h) ?_ hH ?_
      · intro w5 hSw; go_simp
      simp only [zA9, zB9, zC9]
      refine tKx (i := 12) (v := .pointer (some ⟨f, 0, none⟩)) rfl rfl (by kernel_rfl) (fun _ _ _ h => h) ?_ hH ?_
      · intro w5 hSw; go_simp
      simp only [zA9, zB9, zC9]
      refine tKx (i := 13) (v := .int .i64 s.q) rfl rfl (by kernel_rfl) (fun _ _ _ h => h) ?_ hH ?_
      · intro w5 hSw; go_simp
      simp only [zA9, zB9, zC9]
      refine tKx (i := 14) (v := .slice Pb b.length Cb) rfl rfl (by kernel_rfl) (fun _ _ _ h => h) ?_ hH ?_
      · intro w5 hSw; go_simp
      simp only [zA9, zB9, zC9]
      refine tKx (i := 15) (v := .int .i64 (b.length : Int)) rfl rfl (by kernel_rfl) (fun _ _ _ h => h) ?_ hH ?_
      · intro w5 hSw; go_simp
      simp only [zA9, zB9, zC9]
      refine tKx (i := 16) (v := .int .i64 (s.q - (b.length : Int))) rfl rfl (by kernel_rfl) (fun _ _ _ h => h) ?_ hH ?_
      · intro w5 hSw; go_simp
      simp only [zA9, zB9, zC9]
      refine wpAnyH_ready (rs := [9]) (by kernel_rfl) (by simp) ?_
      refine AllReadyH.cons rfl (fun K hK => ?_) AllReadyH.nil
      go_simp
      go_at_call 49
      have gd : w1.grownBy w1.drew none := ⟨rfl, rfl, rfl, Nat.le_refl _, fun _ _ _ => rfl⟩
      refine (USE.out w1.drew (grTrans g1 gd)).mono ?_
      rintro e w1b ⟨rfl, g1b⟩
      go_wp2_with fail
      have g1c : w.grownBy w1b none := grTrans (grTrans g1 gd) g1b
      have hH9 := hH
      clear hH
      refine hK.out _ _ (g1c.cell c0 (by simp)) (fun hH => ?_)
      clear hK K
      refine tKx (i := 17) (v := .bool false) rfl rfl (by kernel_rfl) (fun _ _ _ h => h) ?_ hH ?_
      · intro w5 hSw; go_simp
      simp only [zA9, zB9, zC9]
      refine tKx (i := 18) (v := .bool false) rfl rfl (by kernel_rfl) (fun _ _ _ h => h) ?_ hH ?_
      · intro w5 hSw; go_simp
      simp only [zA9, zB9, zC9]
      refine wpAnyH_done (by kernel_rfl) ?_ _
      refine NoPanic.normal ?_
      clear g1 gd g1b z0 hH hH9
      obtain ⟨g, o, c, vW', pB, cB, hR, y1, y2, hr⟩ := C.out w1b g1c
      obtain ⟨_, z1, _, _, z4, _⟩ := RB.c hR
      have vv : vF = .slice (some ⟨g, o, none⟩) M c := by
        have e := (g1c.block f hfw (by simp)).trans HRB.out
        unfold RB at hR
        rw [hR] at e
        simp at e
        exact e.1.symm
      have HR := mkHid hr
      have s1 := g1c.size
      have K1 : Hid (Keep f w w1b) := Keep.grown g1c
      have R1 : Hid (RB w1b f s.q s.left vF vW true) := (g1c.block f hfw (by simp)).trans HRB.out
      have G1 := mkHid g1c
      clear hR hr g1c
      go_wp2_with fail
      refine (hS.out _ K1.out R1.out).mono ?_
      rintro e w2 ⟨rfl, hB2, k2⟩
      have KK : Hid (Keep f w w2) := K1.out.trans k2
      have HB2 := mkHid hB2
      clear hB2 k2
      go_wp2_with fail
      go_ret
      exact ⟨rfl, FIN.out _ KK.out HB2.out, KK.out⟩
    | false =>
      rw [if_pos rfl, if_neg (by simp), if_pos rfl]
      rw [hdd] at C hS HRB c4
      obtain ⟨Hf, hHf⟩ : ∃ Hf, Hf = b.length / 2 := ⟨_, rfl⟩
      rw [← hHf]
      have hHl : Hf ≤ b.length := by omega
      have hdiv : (b.length : Int).tdiv 2 = (Hf : Int) := by rw [hHf, Int.tdiv_eq_ediv_of_nonneg (by omega)]; omega
      have hdiv2 : (b.length : Int) / 2 = (Hf : Int) := by omega
      have hwr : IntKind.i64.wrap (Hf : Int) = (Hf : Int) := by rw [IntKind.wrap_i64]; omega
      have hHC : ¬ Cb < Hf := by omega
      have hz0 := sl_none Cb Pb
      have htl : (b.take Hf).length = Hf := by rw [List.length_take]; omega
      clear hHf
      generalize (stp s).1 = s' at *
      go_enter Try.func33, Try.ntmps33
      go_wp2_with fail
      refine AT2.out.mono ?_
      rintro e w1 ⟨rfl, g1⟩
      have z0 := g1.cell c0 (by simp)
      go_wp2_with fail
      refine wp_region_noPanic ?_
      refine wp_region_held_drew (S := fun w' => w'.cell? ⟨f, 0, none⟩ = some (.int .i64 s.q)) (by kernel_rfl) (z0) (fun hH => ?_)
      refine tKx (i := 0) (v := .slice Pb b.length Cb) rfl rfl (by kernel_rfl) (fun _ _ _ h => h) ?_ hH ?_
      · intro w5 hSw; go_simp
      simp only [zA9, zB9, zC9]
      refine tKx (i := 1) (v := .int .i64 (b.length : Int)) rfl rfl (by kernel_rfl) (fun _ _ _ h => h) ?_ hH ?_
      · intro w5 hSw; go_simp
      simp only [zA9, zB9, zC9]
      refine tKx (i := 2) (v := .pointer (some ⟨f, 0, none⟩)) rfl rfl (by kernel_rfl) (fun _ _ _ h => h) ?_ hH ?_
      · intro w5 hSw; go_simp
      simp only [zA9, zB9, zC9]
      refine tKx (i := 3) (v := .pointer (some ⟨f, 0, none⟩)) rfl rfl (by kernel_rfl) (fun _ _ _ h => h) ?_ hH ?_
      · intro w5 hSw; go_simp
      simp only [zA9, zB9, zC9]
      refine tKx (i := 4) (v := .pointer (some ⟨f, 0, none⟩)) rfl rfl (by kernel_rfl) (fun _ _ _ h => h) ?_ hH ?_
      · intro w5 hSw; go_simp
      simp only [zA9, zB9, zC9]
      refine tKx (i := 5) (v := .int .i64 s.q) rfl rfl (by kernel_rfl) (fun _ _ _ h => h) ?_ hH ?_
      · intro w5 hSw; go_simp
      simp only [zA9, zB9, zC9]
      refine tKx (i := 6) (v := .bool false) rfl rfl (by kernel_rfl) (fun _ _ _ h => h) ?_ hH ?_
      · intro w5 hSw; go_simp
      simp only [zA9, zB9, zC9]
      refine tKx (i := 7) (v := .bool false) rfl rfl (by kernel_rfl) (fun _ _ _ h => h) ?_ hH ?_
      · intro w5 hSw; go_simp
      simp only [zA9, zB9, zC9]
      refine tKx (i := 8) (v := .pointer (some ⟨f, 0, none⟩)) rfl rfl (by kernel_rfl) (fun _ _ _ h => h) ?_ hH ?_
      · intro w5 hSw; go_simp
      simp only [zA9, zB9, zC9]
      refine tKx (i := 10) (v := .pointer (some ⟨f, 0, none⟩)) rfl rfl (by kernel_rfl) (fun _ _ _ h => h) ?_ hH ?_
      · intro w5 hSw; go_simp
      simp only [zA9, zB9, zC9]
      refine tKx (i := 11) (v := .pointer (some ⟨f, 0, none⟩)) rfl rfl (by kernel_rfl) (fun _ _ _ h => h) ?_ hH ?_
      · intro w5 hSw; go_simp
      simp only [zA9, zB9, zC9]
      refine tKx (i := 12) (v := .pointer (some ⟨f, 0, none⟩)) rfl rfl (by kernel_rfl) (fun _ _ _ h => h) ?_ hH ?_
      · intro w5 hSw; go_simp
      simp only [zA9, zB9, zC9]
      refine tKx (i := 13) (v := .int .i64 s.q) rfl rfl (by kernel_rfl) (fun _ _ _ h => h) ?_ hH ?_
      · intro w5 hSw; go_simp
      simp only [zA9, zB9, zC9]
      refine tKx (i := 14) (v := .slice Pb b.length Cb) rfl rfl (by kernel_rfl) (fun _ _ _ h => h) ?_ hH ?_
      · intro w5 hSw; go_simp
      simp only [zA9, zB9, zC9]
      refine tKx (i := 15) (v := .int .i64 (b.length : Int)) rfl rfl (by kernel_rfl) (fun _ _ _ h => h) ?_ hH ?_
      · intro w5 hSw; go_simp
      simp only [zA9, zB9, zC9]
      refine tKx (i := 16) (v := .int .i64 (s.q - (b.length : Int))) rfl rfl (by kernel_rfl) (fun _ _ _ h => h) ?_ hH ?_
      · intro w5 hSw; go_simp
      simp only [zA9, zB9, zC9]
      refine wpAnyH_ready (rs := [9]) (by kernel_rfl) (by simp) ?_
      refine AllReadyH.cons rfl (fun K hK => ?_) AllReadyH.nil
      go_simp
      go_at_call 49
      have gd : w1.grownBy w1.drew none := ⟨rfl, rfl, rfl, Nat.le_refl _, fun _ _ _ => rfl⟩
      refine (USE.out w1.drew (grTrans g1 gd)).mono ?_
      rintro e w1b ⟨rfl, g1b⟩
      go_wp2_with fail
      have g1c : w.grownBy w1b none := grTrans (grTrans g1 gd) g1b
      have hH9 := hH
      clear hH
      refine hK.out _ _ (g1c.cell c0 (by simp)) (fun hH => ?_)
      clear hK K
      refine tKx (i := 17) (v := .bool false) rfl rfl (by kernel_rfl) (fun _ _ _ h => h) ?_ hH ?_
      · intro w5 hSw; go_simp
      simp only [zA9, zB9, zC9]
      refine tKx (i := 18) (v := .bool false) rfl rfl (by kernel_rfl) (fun _ _ _ h => h) ?_ hH ?_
      · intro w5 hSw; go_simp
      simp only [zA9, zB9, zC9]
      refine wpAnyH_done (by kernel_rfl) ?_ _
      refine NoPanic.normal ?_
      clear g1 gd g1b z0 hH hH9
      obtain ⟨g, o, c, vW', pB, cB, hR, y1, y2, hr⟩ := C.out w1b g1c
      obtain ⟨_, z1, _, _, z4, _⟩ := RB.c hR
      have vv : vF = .slice (some ⟨g, o, none⟩) M c := by
        have e := (g1c.block f hfw (by simp)).trans HRB.out
        unfold RB at hR
        rw [hR] at e
        simp at e
        exact e.1.symm
      have HR := mkHid hr
      have s1 := g1c.size
      have K1 : Hid (Keep f w w1b) := Keep.grown g1c
      have R1 : Hid (RB w1b f s.q s.left vF vW false) := (g1c.block f hfw (by simp)).trans HRB.out
      have G1 := mkHid g1c
      clear hR hr g1c
      go_wp2_with fail
      refine (hS.out _ K1.out R1.out).mono ?_
      rintro e w2 ⟨rfl, hB2, k2⟩
      have k20 : Keep f w w2 := K1.out.trans k2
      have s20 := k20.size
      obtain ⟨_, q1, _, _, _, _⟩ := RB.c hB2
      rw [vv] at q1
      obtain ⟨q2, q3, hr2⟩ : w2.cell? ⟨g, o + i * 2, none⟩ = some (.slice pB L cB) ∧ w2.cell? ⟨g, o + i * 2 + 1, none⟩ = some (.int .i64 (x2 : Int)) ∧ rd1 F w2 f (.slice pB L cB) (by8 x1) := FC.out w1b w2 g o c pB cB G1.out vv y1 y2 k2 HR.out
      have FW : Hid (∀ bo, Keep f w (w2.alloc bo) ∧ RB (w2.alloc bo) f s.q s'.left vF vW s'.dead) := fun bo => ⟨k20.trans (Keep.alloc _), (Below.heap_alloc _ _ f (by omega)).trans hB2⟩
      obtain ⟨WB, hWB⟩ : ∃ WB, WB = w2.alloc (.cells #[.slice pB L cB, .int .i64 (x2 : Int)] 98) := ⟨_, rfl⟩
      have kWB : Keep f w2 WB := by rw [hWB]; exact Keep.alloc _
      have sWB : w2.heap.size + 1 ≤ WB.heap.size := by rw [hWB]; simp
      have hbx : WB.heap[w2.heap.size]? = some (.cells #[.slice pB L cB, .int .i64 (x2 : Int)] 98 (0, 0)) := by rw [hWB]; exact heap_alloc_new _ _
      have hx0 : WB.cell? ⟨w2.heap.size, 0, none⟩ = some (.slice pB L cB) := (cell_of_block hbx 0).trans rfl
      have hx1 : WB.cell? ⟨w2.heap.size, 1, none⟩ = some (.int .i64 (x2 : Int)) := (cell_of_block hbx 1).trans rfl
      have hbase : WB.drew.heap.size ≤ (WB.drew.alloc (.cells #[] 5)).heap.size := by simp
      have kD : Keep f WB WB.drew := Keep.grown ⟨rfl, rfl, rfl, Nat.le_refl _, fun _ _ _ => rfl⟩
      have kA : Keep f w2 (WB.drew.alloc (.cells #[] 5)) := (kWB.trans kD).trans (Keep.alloc _)
      clear kD
      obtain ⟨hin1, hcn, hLc, hcm⟩ := rd_in hr2 HLL.out kA L
      have htk : x1.take L = x1 := by have : L = x1.length := HLL.out; rw [this]; exact List.take_length
      rw [htk] at hin1
      obtain ⟨v4, w4, hrun4, ho4, hg4, hn4⟩ := app_run WB.heap.size (.slice (some ⟨WB.heap.size, 0, none⟩) 0 0) [] x1 pB L cB (WB.drew.alloc (.cells #[] 5)) (World.ownsRow_made WB.drew #[] 0 (Nat.le_refl _) (by unfold maxLen; omega) rfl) hin1 HLL.out hcn (by have : L = x1.length := HLL.out; simp; omega) (by show WB.drew.heap.size ≤ _; simp)
      rw [List.nil_append] at ho4
      have kw4 : Keep f w w4 := (k20.trans kA).more hg4 (fun j e => by simp [Value.ownBlock] at e; omega)
      have hinb : byIn w4 Pb ((b.take Hf)) := (HIN.out.chg0 (S := fun i => i = f) kw4 (fun ne a e => HOUT.out ne a e)).take Hf
      have lv4 : ∀ gg, v4.ownBlock = some gg → WB.heap.size ≤ gg := fun gg e => by
        rcases hn4 gg e with h | h
        · simp [Value.ownBlock] at h; omega
        · simp at h; omega
      obtain ⟨v5, w5, hrun5, ho5, hg5, _⟩ := app_run WB.heap.size v4 x1 (b.take Hf) Pb Hf Cb w4 ho4 hinb htl.symm hC (by have : L = x1.length := HLL.out; rw [htl]; omega) (Nat.le_trans (by simp) hg4.size)
      have kw5 : Keep f w w5 := kw4.more hg5 (fun j e => by have := lv4 j e; omega)
      have hb4 : w4.heap[w2.heap.size]? = some (.cells #[.slice pB L cB, .int .i64 (x2 : Int)] 98 (0, 0)) := (hg4.block _ (by simp; omega) (by simp [Value.ownBlock]; omega)).trans ((Below.heap_alloc _ _ _ (show w2.heap.size < WB.drew.heap.size by show w2.heap.size < WB.heap.size; omega)).trans hbx)
      have hb5 : w5.heap[w2.heap.size]? = some (.cells #[.slice pB L cB, .int .i64 (x2 : Int)] 98 (0, 0)) := (hg5.block _ (lt_of_heap hb4) (fun e => by have := lv4 _ e.symm; omega)).trans hb4
      have rf4 : w4.heap[f]? = WB.heap[f]? := (hg4.block f (by simp; omega) (by simp [Value.ownBlock]; omega)).trans (Below.heap_alloc _ _ _ (show f < WB.drew.heap.size by show f < WB.heap.size; omega))
      have rf5 : w5.heap[f]? = WB.heap[f]? := (hg5.block f (Nat.lt_of_lt_of_le (show f < WB.heap.size by omega) (Nat.le_trans (by simp) hg4.size)) (fun e => by have := lv4 _ e.symm; omega)).trans rf4
      have RB5 : RB w5 f s.q s'.left vF vW s'.dead := rf5.trans (by rw [hWB]; exact (FW.out _).2)
      have CALL : Hid (Calls Try.prog 60 #[.pointer (some ⟨f, 0, none⟩), .int .i64 (i : Int), .agg #[v5, .int .i64 (x2 : Int)]] w5 fun e w' => e = .returned (.tuple #[]) ∧ Rf F w' f { s' with fs := s'.fs.set i (x1 ++ (b.take Hf), x2) } ∧ Keep f w5 w') := set_any f i s' _ _ _ _ (FIN.out _ kw5 RB5) (file_own (w2 := w2) ho5 (show f < WB.heap.size by omega) (fun i hi => by have := fbw.out i hi; omega) rfl) HI.out HM.out
      have b40 : w4.cell? ⟨w2.heap.size, 0, none⟩ = some (.slice pB L cB) := (cell_of_block hb4 0).trans rfl
      have b41 : w4.cell? ⟨w2.heap.size, 1, none⟩ = some (.int .i64 (x2 : Int)) := (cell_of_block hb4 1).trans rfl
      have b50 : w5.cell? ⟨w2.heap.size, 0, none⟩ = some (.slice pB L cB) := (cell_of_block hb5 0).trans rfl
      have b51 : w5.cell? ⟨w2.heap.size, 1, none⟩ = some (.int .i64 (x2 : Int)) := (cell_of_block hb5 1).trans rfl
      have a30 : (WB.drew.alloc (.cells #[] 5)).cell? ⟨w2.heap.size, 0, none⟩ = some (.slice pB L cB) := (World.grownBy_alloc WB.drew _ none).cell hx0 (by simp)
      have a31 : (WB.drew.alloc (.cells #[] 5)).cell? ⟨w2.heap.size, 1, none⟩ = some (.int .i64 (x2 : Int)) := (World.grownBy_alloc WB.drew _ none).cell hx1 (by simp)
      have KW5 := mkHid kw5
      have hne : w2.heap.size ≠ f := by omega
      obtain ⟨P4, C4, N4, hv4⟩ := own_form3 ho4
      obtain ⟨P5, C5, N5, hv5⟩ := own_form3 ho5
      subst hv4 hv5
      clear hB2 k2 k20 hbx kWB kA hin1 hinb ho4 hg4 hn4 lv4 ho5 hg5 kw4 kw5 hb4 hb5 rf4 rf5 RB5 FW hr2 y1 y2 HR R1 K1 G1 sWB hbase htk hcn hLc hcm s20 vv s1
      go_wp2_with fail
      rw [← hWB]
      clear hWB
      refine wp_region_noPanic ?_
      refine wp_region_held_drew (S := fun w' => w'.cell? ⟨w2.heap.size, 0, none⟩ = some (.slice pB L cB) ∧ w'.cell? ⟨w2.heap.size, 1, none⟩ = some (.int .i64 (x2 : Int))) (by kernel_rfl) (⟨hx0, hx1⟩) (fun hH => ?_)
      refine tKx (i := 0) (v := .pointer (some ⟨f, 0, none⟩)) rfl rfl (by kernel_rfl) (fun _ _ _ h => h) ?_ hH ?_
      · intro w5 hSw; obtain ⟨hv1, hv2⟩ := hSw; go_simp
      simp only [zA9, zB9, zC9]
      refine tKx (i := 1) (v := .int .i64 (i : Int)) rfl rfl (by kernel_rfl) (fun _ _ _ h => h) ?_ hH ?_
      · intro w5 hSw; obtain ⟨hv1, hv2⟩ := hSw; go_simp
      simp only [zA9, zB9, zC9]
      refine tKx (i := 3) (v := .pointer (some ⟨w2.heap.size, 0, none⟩)) rfl rfl (by kernel_rfl) (fun _ _ _ h => h) ?_ hH ?_
      · intro w5 hSw; obtain ⟨hv1, hv2⟩ := hSw; go_simp
      simp only [zA9, zB9, zC9]
      refine tKx (i := 4) (v := .slice pB L cB) rfl rfl (by kernel_rfl) (fun _ _ _ h => h) ?_ hH ?_
      · intro w5 hSw; obtain ⟨hv1, hv2⟩ := hSw; go_simp
      simp only [zA9, zB9, zC9]
      refine tKx (i := 6) (v := .slice Pb Hf Cb) rfl rfl (by kernel_rfl) (fun _ _ _ h => h) ?_ hH ?_
      · intro w5 hSw; obtain ⟨hv1, hv2⟩ := hSw; go_simp
      simp only [zA9, zB9, zC9]
      refine tKx (i := 8) (v := .pointer (some ⟨w2.heap.size, 1, none⟩)) rfl rfl (by kernel_rfl) (fun _ _ _ h => h) ?_ hH ?_
      · intro w5 hSw; obtain ⟨hv1, hv2⟩ := hSw; go_simp
      simp only [zA9, zB9, zC9]
      refine tKx (i := 9) (v := .int .i64 (x2 : Int)) rfl rfl (by kernel_rfl) (fun _ _ _ h => h) ?_ hH ?_
      · intro w5 hSw; obtain ⟨hv1, hv2⟩ := hSw; go_simp
      simp only [zA9, zB9, zC9]
      refine wpAnyH_ready (rs := [2]) (by kernel_rfl) (by simp) ?_
      refine AllReadyH.cons rfl (fun K hK => ?_) AllReadyH.nil
      go_simp
      refine hK.out _ _ ⟨a30, a31⟩ (fun _ => ?_)
      clear hK K hH
      refine wpAnyH_ready (rs := [5]) (by kernel_rfl) (by simp) ?_
      refine AllReadyH.cons rfl (fun K hK => ?_) AllReadyH.nil
      refine step_app 27 rfl (.tmp 61) (.tmp 63) rfl rfl rfl hrun4 ?_
      refine hK.out _ _ ⟨b40, b41⟩ (fun _ => ?_)
      clear hK K
      simp only [Act.put, List.setIfInBounds_toArray]
      refine wpAnyH_ready (rs := [7]) (by kernel_rfl) (by simp) ?_
      refine AllReadyH.cons rfl (fun K hK => ?_) AllReadyH.nil
      refine step_app 27 rfl (.tmp 64) (.tmp 65) rfl rfl rfl hrun5 ?_
      refine hK.out _ _ ⟨b50, b51⟩ (fun hH => ?_)
      clear hK K
      simp only [Act.put]
      refine tKx (i := 10) (v := .agg #[.slice P5 N5 C5, .int .i64 (x2 : Int)]) rfl rfl (by kernel_rfl) (fun _ _ _ h => h) ?_ hH ?_
      · intro w5 hSw; obtain ⟨hv1, hv2⟩ := hSw; go_simp
      refine wpAnyH_ready (rs := [11]) (by kernel_rfl) (by simp) ?_
      refine AllReadyH.cons rfl (fun K hK => ?_) AllReadyH.nil
      go_simp
      go_at_call 60
      refine CALL.out.mono ?_
      rintro e w6 ⟨rfl, R6, k6⟩
      have R6' := mkHid R6
      clear R6
      go_wp2_with fail
      refine hK.out _ _ ?_ (fun _ => ?_)
      · exact ⟨k6.cell (F := fun _ => False) ⟨hne, id⟩ b50, k6.cell (F := fun _ => False) ⟨hne, id⟩ b51⟩
      clear hK K
      refine wpAnyH_done (by kernel_rfl) ?_ _
      refine NoPanic.normal ?_
      go_wp2_with fail
      go_ret
      exact ⟨rfl, R6'.out, KW5.out.trans k6⟩
  | false =>
    rw [hd] at hS
    rw [if_neg (by simp), if_neg (by simp), if_neg (by simp)]
    generalize (stp s).1 = s' at *
    go_enter Try.func33, Try.ntmps33
    go_wp2_with fail
    refine AT2.out.mono ?_
    rintro e w1 ⟨rfl, g1⟩
    have z0 := g1.cell c0 (by simp)
    go_wp2_with fail
    refine wp_region_noPanic ?_
    refine wp_region_held_drew (S := fun w' => w'.cell? ⟨f, 0, none⟩ = some (.int .i64 s.q)) (by kernel_rfl) (z0) (fun hH => ?_)
    refine tKx (i := 0) (v := .slice Pb b.length Cb) rfl rfl (by kernel_rfl) (fun _ _ _ h => h) ?_ hH ?_
    · intro w5 hSw; go_simp
    simp only [zA9, zB9, zC9]
    refine tKx (i := 1) (v := .int .i64 (b.length : Int)) rfl rfl (by kernel_rfl) (fun _ _ _ h => h) ?_ hH ?_
    · intro w5 hSw; go_simp
    simp only [zA9, zB9, zC9]
    refine tKx (i := 2) (v := .pointer (some ⟨f, 0, none⟩)) rfl rfl (by kernel_rfl) (fun _ _ _ h => h) ?_ hH ?_
    · intro w5 hSw; go_simp
    simp only [zA9, zB9, zC9]
    refine tKx (i := 3) (v := .pointer (some ⟨f, 0, none⟩)) rfl rfl (by kernel_rfl) (fun _ _ _ h => h) ?_ hH ?_
    · intro w5 hSw; go_simp
    simp only [zA9, zB9, zC9]
    refine tKx (i := 4) (v := .pointer (some ⟨f, 0, none⟩)) rfl rfl (by kernel_rfl) (fun _ _ _ h => h) ?_ hH ?_
    · intro w5 hSw; go_simp
    simp only [zA9, zB9, zC9]
    refine tKx (i := 5) (v := .int .i64 s.q) rfl rfl (by kernel_rfl) (fun _ _ _ h => h) ?_ hH ?_
    · intro w5 hSw; go_simp
    simp only [zA9, zB9, zC9]
    refine tKx (i := 6) (v := .bool false) rfl rfl (by kernel_rfl) (fun _ _ _ h => h) ?_ hH ?_
    · intro w5 hSw; go_simp
    simp only [zA9, zB9, zC9]
    refine tKx (i := 7) (v := .bool false) rfl rfl (by kernel_rfl) (fun _ _ _ h => h) ?_ hH ?_
    · intro w5 hSw; go_simp
    simp only [zA9, zB9, zC9]
    refine tKx (i := 8) (v := .pointer (some ⟨f, 0, none⟩)) rfl rfl (by kernel_rfl) (fun _ _ _ h => h) ?_ hH ?_
    · intro w5 hSw; go_simp
    simp only [zA9, zB9, zC9]
    refine tKx (i := 10) (v := .pointer (some ⟨f, 0, none⟩)) rfl rfl (by kernel_rfl) (fun _ _ _ h => h) ?_ hH ?_
    · intro w5 hSw; go_simp
    simp only [zA9, zB9, zC9]
    refine tKx (i := 11) (v := .pointer (some ⟨f, 0, none⟩)) rfl rfl (by kernel_rfl) (fun _ _ _ h => h) ?_ hH ?_
    · intro w5 hSw; go_simp
    simp only [zA9, zB9, zC9]
    refine tKx (i := 12) (v := .pointer (some ⟨f, 0, none⟩)) rfl rfl (by kernel_rfl) (fun _ _ _ h => h) ?_ hH ?_
    · intro w5 hSw; go_simp
    simp only [zA9, zB9, zC9]
    refine tKx (i := 13) (v := .int .i64 s.q) rfl rfl (by kernel_rfl) (fun _ _ _ h => h) ?_ hH ?_
    · intro w5 hSw; go_simp
    simp only [zA9, zB9, zC9]
    refine tKx (i := 14) (v := .slice Pb b.length Cb) rfl rfl (by kernel_rfl) (fun _ _ _ h => h) ?_ hH ?_
    · intro w5 hSw; go_simp
    simp only [zA9, zB9, zC9]
    refine tKx (i := 15) (v := .int .i64 (b.length : Int)) rfl rfl (by kernel_rfl) (fun _ _ _ h => h) ?_ hH ?_
    · intro w5 hSw; go_simp
    simp only [zA9, zB9, zC9]
    refine tKx (i := 16) (v := .int .i64 (s.q - (b.length : Int))) rfl rfl (by kernel_rfl) (fun _ _ _ h => h) ?_ hH ?_
    · intro w5 hSw; go_simp
    simp only [zA9, zB9, zC9]
    refine wpAnyH_ready (rs := [9]) (by kernel_rfl) (by simp) ?_
    refine AllReadyH.cons rfl (fun K hK => ?_) AllReadyH.nil
    go_simp
    go_at_call 49
    have gd : w1.grownBy w1.drew none := ⟨rfl, rfl, rfl, Nat.le_refl _, fun _ _ _ => rfl⟩
    refine (USE.out w1.drew (grTrans g1 gd)).mono ?_
    rintro e w1b ⟨rfl, g1b⟩
    go_wp2_with fail
    have g1c : w.grownBy w1b none := grTrans (grTrans g1 gd) g1b
    have hH9 := hH
    clear hH
    refine hK.out _ _ (g1c.cell c0 (by simp)) (fun hH => ?_)
    clear hK K
    refine tKx (i := 17) (v := .bool false) rfl rfl (by kernel_rfl) (fun _ _ _ h => h) ?_ hH ?_
    · intro w5 hSw; go_simp
    simp only [zA9, zB9, zC9]
    refine tKx (i := 18) (v := .bool false) rfl rfl (by kernel_rfl) (fun _ _ _ h => h) ?_ hH ?_
    · intro w5 hSw; go_simp
    simp only [zA9, zB9, zC9]
    refine wpAnyH_done (by kernel_rfl) ?_ _
    refine NoPanic.normal ?_
    clear g1 gd g1b z0 hH hH9
    obtain ⟨g, o, c, vW', pB, cB, hR, y1, y2, hr⟩ := C.out w1b g1c
    obtain ⟨_, z1, _, _, z4, _⟩ := RB.c hR
    have vv : vF = .slice (some ⟨g, o, none⟩) M c := by
      have e := (g1c.block f hfw (by simp)).trans HRB.out
      unfold RB at hR
      rw [hR] at e
      simp at e
      exact e.1.symm
    have HR := mkHid hr
    have s1 := g1c.size
    have K1 : Hid (Keep f w w1b) := Keep.grown g1c
    have R1 : Hid (RB w1b f s.q s.left vF vW s.dead) := (g1c.block f hfw (by simp)).trans HRB.out
    have G1 := mkHid g1c
    clear hR hr g1c
    go_wp2_with fail
    refine (hS.out _ K1.out R1.out).mono ?_
    rintro e w2 ⟨rfl, hB2, k2⟩
    have k20 : Keep f w w2 := K1.out.trans k2
    have s20 := k20.size
    obtain ⟨_, q1, _, _, _, _⟩ := RB.c hB2
    rw [vv] at q1
    obtain ⟨q2, q3, hr2⟩ : w2.cell? ⟨g, o + i * 2, none⟩ = some (.slice pB L cB) ∧ w2.cell? ⟨g, o + i * 2 + 1, none⟩ = some (.int .i64 (x2 : Int)) ∧ rd1 F w2 f (.slice pB L cB) (by8 x1) := FC.out w1b w2 g o c pB cB G1.out vv y1 y2 k2 HR.out
    have FW : Hid (∀ bo, Keep f w (w2.alloc bo) ∧ RB (w2.alloc bo) f s.q s'.left vF vW s'.dead) := fun bo => ⟨k20.trans (Keep.alloc _), (Below.heap_alloc _ _ f (by omega)).trans hB2⟩
    obtain ⟨WB, hWB⟩ : ∃ WB, WB = w2.alloc (.cells #[.slice pB L cB, .int .i64 (x2 : Int)] 98) := ⟨_, rfl⟩
    have kWB : Keep f w2 WB := by rw [hWB]; exact Keep.alloc _
    have sWB : w2.heap.size + 1 ≤ WB.heap.size := by rw [hWB]; simp
    have hbx : WB.heap[w2.heap.size]? = some (.cells #[.slice pB L cB, .int .i64 (x2 : Int)] 98 (0, 0)) := by rw [hWB]; exact heap_alloc_new _ _
    have hx0 : WB.cell? ⟨w2.heap.size, 0, none⟩ = some (.slice pB L cB) := (cell_of_block hbx 0).trans rfl
    have hx1 : WB.cell? ⟨w2.heap.size, 1, none⟩ = some (.int .i64 (x2 : Int)) := (cell_of_block hbx 1).trans rfl
    have hbase : WB.drew.heap.size ≤ (WB.drew.alloc (.cells #[] 5)).heap.size := by simp
    have kD : Keep f WB WB.drew := Keep.grown ⟨rfl, rfl, rfl, Nat.le_refl _, fun _ _ _ => rfl⟩
    have kA : Keep f w2 (WB.drew.alloc (.cells #[] 5)) := (kWB.trans kD).trans (Keep.alloc _)
    clear kD
    obtain ⟨hin1, hcn, hLc, hcm⟩ := rd_in hr2 HLL.out kA L
    have htk : x1.take L = x1 := by have : L = x1.length := HLL.out; rw [this]; exact List.take_length
    rw [htk] at hin1
    obtain ⟨v4, w4, hrun4, ho4, hg4, hn4⟩ := app_run WB.heap.size (.slice (some ⟨WB.heap.size, 0, none⟩) 0 0) [] x1 pB L cB (WB.drew.alloc (.cells #[] 5)) (World.ownsRow_made WB.drew #[] 0 (Nat.le_refl _) (by unfold maxLen; omega) rfl) hin1 HLL.out hcn (by have : L = x1.length := HLL.out; simp; omega) (by show WB.drew.heap.size ≤ _; simp)
    rw [List.nil_append] at ho4
    have kw4 : Keep f w w4 := (k20.trans kA).more hg4 (fun j e => by simp [Value.ownBlock] at e; omega)
    have hinb : byIn w4 Pb (b) := (HIN.out.chg0 (S := fun i => i = f) kw4 (fun ne a e => HOUT.out ne a e))
    have lv4 : ∀ gg, v4.ownBlock = some gg → WB.heap.size ≤ gg := fun gg e => by
      rcases hn4 gg e with h | h
      · simp [Value.ownBlock] at h; omega
      · simp at h; omega
    obtain ⟨v5, w5, hrun5, ho5, hg5, _⟩ := app_run WB.heap.size v4 x1 b Pb b.length Cb w4 ho4 hinb rfl hC (by have : L = x1.length := HLL.out; omega) (Nat.le_trans (by simp) hg4.size)
    have kw5 : Keep f w w5 := kw4.more hg5 (fun j e => by have := lv4 j e; omega)
    have hb4 : w4.heap[w2.heap.size]? = some (.cells #[.slice pB L cB, .int .i64 (x2 : Int)] 98 (0, 0)) := (hg4.block _ (by simp; omega) (by simp [Value.ownBlock]; omega)).trans ((Below.heap_alloc _ _ _ (show w2.heap.size < WB.drew.heap.size by show w2.heap.size < WB.heap.size; omega)).trans hbx)
    have hb5 : w5.heap[w2.heap.size]? = some (.cells #[.slice pB L cB, .int .i64 (x2 : Int)] 98 (0, 0)) := (hg5.block _ (lt_of_heap hb4) (fun e => by have := lv4 _ e.symm; omega)).trans hb4
    have rf4 : w4.heap[f]? = WB.heap[f]? := (hg4.block f (by simp; omega) (by simp [Value.ownBlock]; omega)).trans (Below.heap_alloc _ _ _ (show f < WB.drew.heap.size by show f < WB.heap.size; omega))
    have rf5 : w5.heap[f]? = WB.heap[f]? := (hg5.block f (Nat.lt_of_lt_of_le (show f < WB.heap.size by omega) (Nat.le_trans (by simp) hg4.size)) (fun e => by have := lv4 _ e.symm; omega)).trans rf4
    have RB5 : RB w5 f s.q s'.left vF vW s'.dead := rf5.trans (by rw [hWB]; exact (FW.out _).2)
    have CALL : Hid (Calls Try.prog 60 #[.pointer (some ⟨f, 0, none⟩), .int .i64 (i : Int), .agg #[v5, .int .i64 (x2 : Int)]] w5 fun e w' => e = .returned (.tuple #[]) ∧ Rf F w' f { s' with fs := s'.fs.set i (x1 ++ b, x2) } ∧ Keep f w5 w') := set_any f i s' _ _ _ _ (FIN.out _ kw5 RB5) (file_own (w2 := w2) ho5 (show f < WB.heap.size by omega) (fun i hi => by have := fbw.out i hi; omega) rfl) HI.out HM.out
    have b40 : w4.cell? ⟨w2.heap.size, 0, none⟩ = some (.slice pB L cB) := (cell_of_block hb4 0).trans rfl
    have b41 : w4.cell? ⟨w2.heap.size, 1, none⟩ = some (.int .i64 (x2 : Int)) := (cell_of_block hb4 1).trans rfl
    have b50 : w5.cell? ⟨w2.heap.size, 0, none⟩ = some (.slice pB L cB) := (cell_of_block hb5 0).trans rfl
    have b51 : w5.cell? ⟨w2.heap.size, 1, none⟩ = some (.int .i64 (x2 : Int)) := (cell_of_block hb5 1).trans rfl
    have a30 : (WB.drew.alloc (.cells #[] 5)).cell? ⟨w2.heap.size, 0, none⟩ = some (.slice pB L cB) := (World.grownBy_alloc WB.drew _ none).cell hx0 (by simp)
    have a31 : (WB.drew.alloc (.cells #[] 5)).cell? ⟨w2.heap.size, 1, none⟩ = some (.int .i64 (x2 : Int)) := (World.grownBy_alloc WB.drew _ none).cell hx1 (by simp)
    have KW5 := mkHid kw5
    have hne : w2.heap.size ≠ f := by omega
    obtain ⟨P4, C4, N4, hv4⟩ := own_form3 ho4
    obtain ⟨P5, C5, N5, hv5⟩ := own_form3 ho5
    subst hv4 hv5
    clear hB2 k2 k20 hbx kWB kA hin1 hinb ho4 hg4 hn4 lv4 ho5 hg5 kw4 kw5 hb4 hb5 rf4 rf5 RB5 FW hr2 y1 y2 HR R1 K1 G1 sWB hbase htk hcn hLc hcm s20 vv s1
    go_wp2_with fail
    rw [← hWB]
    clear hWB
    refine wp_region_noPanic ?_
    refine wp_region_held_drew (S := fun w' => w'.cell? ⟨w2.heap.size, 0, none⟩ = some (.slice pB L cB) ∧ w'.cell? ⟨w2.heap.size, 1, none⟩ = some (.int .i64 (x2 : Int))) (by kernel_rfl) (⟨hx0, hx1⟩) (fun hH => ?_)
    refine tKx (i := 0) (v := .pointer (some ⟨f, 0, none⟩)) rfl rfl (by kernel_rfl) (fun _ _ _ h => h) ?_ hH ?_
    · intro w5 hSw; obtain ⟨hv1, hv2⟩ := hSw; go_simp
    simp only [zA9, zB9, zC9]
    refine tKx (i := 1) (v := .int .i64 (i : Int)) rfl rfl (by kernel_rfl) (fun _ _ _ h => h) ?_ hH ?_
    · intro w5 hSw; obtain ⟨hv1, hv2⟩ := hSw; go_simp
    simp only [zA9, zB9, zC9]
    refine tKx (i := 3) (v := .pointer (some ⟨w2.heap.size, 0, none⟩)) rfl rfl (by kernel_rfl) (fun _ _ _ h => h) ?_ hH ?_
    · intro w5 hSw; obtain ⟨hv1, hv2⟩ := hSw; go_simp
    simp only [zA9, zB9, zC9]
    refine tKx (i := 4) (v := .slice pB L cB) rfl rfl (by kernel_rfl) (fun _ _ _ h => h) ?_ hH ?_
    · intro w5 hSw; obtain ⟨hv1, hv2⟩ := hSw; go_simp
    simp only [zA9, zB9, zC9]
    refine tKx (i := 6) (v := .slice Pb b.length Cb) rfl rfl (by kernel_rfl) (fun _ _ _ h => h) ?_ hH ?_
    · intro w5 hSw; obtain ⟨hv1, hv2⟩ := hSw; go_simp
    simp only [zA9, zB9, zC9]
    refine tKx (i := 8) (v := .pointer (some ⟨w2.heap.size, 1, none⟩)) rfl rfl (by kernel_rfl) (fun _ _ _ h => h) ?_ hH ?_
    · intro w5 hSw; obtain ⟨hv1, hv2⟩ := hSw; go_simp
    simp only [zA9, zB9, zC9]
    refine tKx (i := 9) (v := .int .i64 (x2 : Int)) rfl rfl (by kernel_rfl) (fun _ _ _ h => h) ?_ hH ?_
    · intro w5 hSw; obtain ⟨hv1, hv2⟩ := hSw; go_simp
    simp only [zA9, zB9, zC9]
    refine wpAnyH_ready (rs := [2]) (by kernel_rfl) (by simp) ?_
    refine AllReadyH.cons rfl (fun K hK => ?_) AllReadyH.nil
    go_simp
    refine hK.out _ _ ⟨a30, a31⟩ (fun _ => ?_)
    clear hK K hH
    refine wpAnyH_ready (rs := [5]) (by kernel_rfl) (by simp) ?_
    refine AllReadyH.cons rfl (fun K hK => ?_) AllReadyH.nil
    refine step_app 27 rfl (.tmp 61) (.tmp 63) rfl rfl rfl hrun4 ?_
    refine hK.out _ _ ⟨b40, b41⟩ (fun _ => ?_)
    clear hK K
    simp only [Act.put, List.setIfInBounds_toArray]
    refine wpAnyH_ready (rs := [7]) (by kernel_rfl) (by simp) ?_
    refine AllReadyH.cons rfl (fun K hK => ?_) AllReadyH.nil
    refine step_app 27 rfl (.tmp 64) (.tmp 65) rfl rfl rfl hrun5 ?_
    refine hK.out _ _ ⟨b50, b51⟩ (fun hH => ?_)
    clear hK K
    simp only [Act.put]
    refine tKx (i := 10) (v := .agg #[.slice P5 N5 C5, .int .i64 (x2 : Int)]) rfl rfl (by kernel_rfl) (fun _ _ _ h => h) ?_ hH ?_
    · intro w5 hSw; obtain ⟨hv1, hv2⟩ := hSw; go_simp
    refine wpAnyH_ready (rs := [11]) (by kernel_rfl) (by simp) ?_
    refine AllReadyH.cons rfl (fun K hK => ?_) AllReadyH.nil
    go_simp
    go_at_call 60
    refine CALL.out.mono ?_
    rintro e w6 ⟨rfl, R6, k6⟩
    have R6' := mkHid R6
    clear R6
    go_wp2_with fail
    refine hK.out _ _ ?_ (fun _ => ?_)
    · exact ⟨k6.cell (F := fun _ => False) ⟨hne, id⟩ b50, k6.cell (F := fun _ => False) ⟨hne, id⟩ b51⟩
    clear hK K
    refine wpAnyH_done (by kernel_rfl) ?_ _
    refine NoPanic.normal ?_
    go_wp2_with fail
    go_ret
    exact ⟨rfl, R6'.out, KW5.out.trans k6⟩
end Go.Proofs.Ytdiehlioemmakaa

