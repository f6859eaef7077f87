/-
  The walk of locksteplaw02.RowcodeGoes.
-/
import Derived.Test.YtabmhobbodknbaaDoorRcL
namespace Go.Proofs.YtabmhobbodknbaaDoor
open Go.RowKit Go.Shelf

/-- what is known of the world in the walk: two digests of its own, all that came in as it was -/
structure Two (w wr : World) (A B : Nat) (S R S' R' : Int) : Prop where
  a : dig wr A S R
  b : dig wr B S' R'
  ha : w.heap.size ≤ A
  hb : w.heap.size ≤ B
  ne : A ≠ B
  bel : Below w.heap.size w wr
theorem Two.onA {w wr w' : World} {A B : Nat} {S R S' R' S2 R2 : Int} (h : Two w wr A B S R S' R') (hx : But A wr w') (hd : dig w' A S2 R2) : Two w w' A B S2 R2 S' R' :=
  ⟨hd, hx.dig h.b (Ne.symm h.ne), h.ha, h.hb, h.ne, h.bel.trans (hx.below h.ha h.bel.size)⟩
theorem Two.onB {w wr w' : World} {A B : Nat} {S R S' R' S2 R2 : Int} (h : Two w wr A B S R S' R') (hx : But B wr w') (hd : dig w' B S2 R2) : Two w w' A B S R S2 R2 :=
  ⟨hx.dig h.a h.ne, hd, h.ha, h.hb, h.ne, h.bel.trans (hx.below h.hb h.bel.size)⟩

theorem dig_new (w : World) : dig (w.alloc (.cells #[.int .u64 0, .int .i64 0] 26)) w.heap.size 0 0 := by
  unfold dig; rw [heap_alloc_new]
theorem dig_next (w : World) (o : Obj) : dig ((w.alloc o).alloc (.cells #[.int .u64 0, .int .i64 0] 26)) (w.heap.size + 1) 0 0 := by
  have := dig_new (w.alloc o)
  simpa using this
theorem sum_none (l : List Rw) : md (sumR (l.take 0)) = 0 := by simp [sumR, md]

set_option maxHeartbeats 4000000 in
set_option maxRecDepth 1000000 in
theorem RowcodeGoes_any (P : Option Addr) (C : Nat) (l : List Rw) (m : Rw) (w : World) (hP : rowsIn w P l) (hr : ∀ r ∈ l, rwOk w r) (hl : l.length ≤ 9223372036854775807) (_ : ∀ r ∈ l, r.la.length ≤ 9223372036854775807) (hm : rwOk w m) (_ : m.la.length ≤ 9223372036854775807) (hT : Tabs w) :
    Calls Tryd.prog 4 #[.slice P l.length C, .slice m.p m.la.length m.c] w fun e w' => e = .returned (.bool true) ∧ Below w.heap.size w w' := by
  have LV : Hid (∀ w, Tabs w → Calls Tryd.prog 12 #[] w fun e w' => e = .returned (.bool true) ∧ Below w.heap.size w w') := fun w h => lives_any w h
  have AD : Hid (∀ (D : Nat) (S R : Int) (r : Rw) (wr : World), (rowE r.la = 0 → -9223372036854775808 ≤ R ∧ R ≤ 9223372036854775806) → rwOk w r → Below w.heap.size w wr → dig wr D S R → Calls Tryd.prog 9 #[.pointer (some ⟨D, 0, none⟩), .slice r.p r.la.length r.c] wr fun e w' => e = .returned (.int .i64 (rowE r.la)) ∧ But D wr w' ∧ dig w' D (addS S r) (addR R r)) :=
    fun D S R r wr h1 h2 h3 h4 => Add_any D S R r wr h1 (h2.below h3) (hT.below h3) h4
  have DR : Hid (∀ (D : Nat) (S R : Int) (r : Rw) (wr : World), (rowE r.la = 0 → -9223372036854775807 ≤ R ∧ R ≤ 9223372036854775807) → rwOk w r → Below w.heap.size w wr → dig wr D S R → Calls Tryd.prog 8 #[.pointer (some ⟨D, 0, none⟩), .slice r.p r.la.length r.c] wr fun e w' => e = .returned (.int .i64 (rowE r.la)) ∧ But D wr w' ∧ dig w' D (subS S r) (subR R r)) :=
    fun D S R r wr h1 h2 h3 h4 => Drop_any D S R r wr h1 (h2.below h3) (hT.below h3) h4
  have SU : Hid (∀ (D : Nat) (S R : Int) (w : World), dig w D S R → Calls Tryd.prog 5 #[.pointer (some ⟨D, 0, none⟩)] w fun e w' => e = .returned (.int .u64 S) ∧ w' = w) := Sum_any
  have LE : Hid (∀ (D : Nat) (S R : Int) (w : World), dig w D S R → Calls Tryd.prog 6 #[.pointer (some ⟨D, 0, none⟩)] w fun e w' => e = .returned (.int .i64 R) ∧ w' = w) := Len_any
  have HR : Hid (∀ r ∈ l, rwOk w r) := hr
  have HM : Hid (rwOk w m) := hm
  clear hr hm
  go_enter Tryd.func4, Tryd.ntmps4
  go_wp2_with fail
  refine (LV.out _ hT).mono ?_
  rintro e w1 ⟨rfl, hb1⟩
  have hP1 : Hid (rowsIn w P l) := hP
  have t0 : Hid (Two w ((w1.alloc (.cells #[.int .u64 0, .int .i64 0] 26)).alloc (.cells #[.int .u64 0, .int .i64 0] 26)) w1.heap.size (w1.heap.size + 1) (md (sumR (l.take 0))) ((0 : Nat) : Int) (md (sumR (l.reverse.take 0))) ((0 : Nat) : Int)) := by
    rw [sum_none, sum_none]
    exact ⟨(dig_new w1).below ((Below.refl _ _).alloc (Nat.le_refl _) _), dig_next w1 _, hb1.size, Nat.le_succ_of_le hb1.size, by omega, (hb1.alloc hb1.size _).alloc (by simp; exact Nat.le_succ_of_le hb1.size) _⟩
  clear hP hT hb1
  go_wp2_with fail
  generalize (w1.alloc (.cells #[.int .u64 0, .int .i64 0] 26)).alloc (.cells #[.int .u64 0, .int .i64 0] 26) = w2 at *
  obtain ⟨A, B, hA, hB⟩ : ∃ A B, A = w1.heap.size ∧ B = w1.heap.size + 1 := ⟨_, _, rfl, rfl⟩
  rw [← hB, ← hA]
  rw [← hB, ← hA] at t0
  clear hA hB
  go_loopw [7] (fun si wr => ∃ k : Nat, si = .int .i64 k ∧ k ≤ l.length ∧ Hid (∀ r ∈ l.take k, rowE r.la = 0) ∧ Hid (Two w wr A B (md (sumR (l.take k))) k (md (sumR (l.reverse.take k))) k)) (fun si _ => l.length - (intOf si).toNat)
  case atStart => exact ⟨0, rfl, Nat.zero_le _, fun v hv => by simp at hv, t0⟩
  case round =>
    obtain ⟨k, rfl, hk, hok, t1⟩ := hrel
    clear t0
    by_cases hlt : k < l.length
    · obtain ⟨x, hx⟩ : ∃ x, l[k]? = some x := ⟨l[k], List.getElem?_eq_getElem hlt⟩
      obtain ⟨y, hy⟩ : ∃ y, l[l.length - 1 - k]? = some y := ⟨l[l.length - 1 - k], List.getElem?_eq_getElem (by omega)⟩
      have hy2 : l.reverse[k]? = some y := (rev_get hlt).trans hy
      rcases hP1.out with rfl | ⟨g, off, rfl, hgw, hcs⟩
      · simp at hx
      have cx := (t1.out.bel.cell (p := ⟨g, off + k, none⟩) hgw).trans (hcs k x hx)
      have hcy : Hid (w.cell? ⟨g, off + (l.length - 1 - k), none⟩ = some (.slice y.p y.la.length y.c)) := hcs _ y hy
      have AX : Hid (Calls Tryd.prog 9 #[.pointer (some ⟨A, 0, none⟩), .slice x.p x.la.length x.c] wr _) := AD.out A _ _ x wr (fun _ => by omega) (HR.out x (List.mem_of_getElem? hx)) t1.out.bel t1.out.a
      have hcs2 : Hid _ := hcs
      clear hcs
      go_wp2_with fail
      refine AX.out.mono ?_
      rintro e wx ⟨rfl, hbx, hdx⟩
      have t2 : Hid (Two w wx A B _ _ _ _) := t1.out.onA hbx hdx
      have cy := (t2.out.bel.cell (p := ⟨g, off + (l.length - 1 - k), none⟩) hgw).trans hcy.out
      have AY : Hid (Calls Tryd.prog 9 #[.pointer (some ⟨B, 0, none⟩), .slice y.p y.la.length y.c] wx _) := AD.out B _ _ y wx (fun _ => by omega) (HR.out y (List.mem_of_getElem? hy)) t2.out.bel t2.out.b
      clear AX hbx hdx cx
      go_wp2_with fail
      refine AY.out.mono ?_
      rintro e wy ⟨rfl, hby, hdy⟩
      have t3 : Hid (Two w wy A B _ _ _ _) := t2.out.onB hby hdy
      clear AY hby hdy cy t2 t1
      by_cases ex : rowE x.la = 0
      · by_cases ey : rowE y.la = 0
        · have t4 : Hid (Two w wy A B (md (sumR (l.take (k + 1)))) ((k + 1 : Nat) : Int) (md (sumR (l.reverse.take (k + 1)))) ((k + 1 : Nat) : Int)) := by
            have := t3.out
            rw [add_md hx ex, add_md hy2 ey, add_r ex, add_r ey] at this
            exact this
          have hok2 : Hid (∀ r ∈ l.take (k + 1), rowE r.la = 0) := fun r hr => by
            rw [List.take_add_one, hx] at hr
            simp only [Option.toList_some, List.mem_append, List.mem_cons, List.not_mem_nil, or_false] at hr
            rcases hr with hr | rfl
            · exact hok.out r hr
            · exact ex
          clear t3 hok hx hy hy2
          rw [ex, ey]
          clear ex ey
          go_wp2_with fail
          go_roundw
          case rel => exact ⟨k + 1, by go_num, hlt, hok2, t4⟩
          case measure => simp [intOf]; omega
        · have h1 : (rowE y.la != 0) = true := by rw [bne_iff_ne]; exact ey
          rw [ex]
          clear ex ey hx hy hy2
          go_wp2_with fail
          go_ret
          exact ⟨rfl, t3.out.bel⟩
      · have h1 : (rowE x.la != 0) = true := by rw [bne_iff_ne]; exact ex
        clear ex hx hy hy2
        go_wp2_with fail
        go_ret
        exact ⟨rfl, t3.out.bel⟩
    · have hkn : k = l.length := by omega
      subst hkn
      have hall : Hid (∀ r ∈ l, rowE r.la = 0) := fun r hr => hok.out r (by rw [List.take_length]; exact hr)
      obtain ⟨S, hS⟩ : ∃ S, S = md (sumR l) := ⟨_, rfl⟩
      have t2 : Hid (Two w wr A B S l.length S l.length) := by
        have h := t1.out
        rw [List.take_length, show l.length = l.reverse.length by simp, List.take_length, sumR_rev, ← hS] at h
        have e : l.reverse.length = l.length := by simp
        rw [e] at h
        exact h
      have hS0 : Hid (0 ≤ S ∧ S < 18446744073709551616) := ⟨by rw [hS]; exact md_lo _, by rw [hS]; exact md_hi _⟩
      have HS : Hid (S = md (sumR l)) := hS
      clear hok t1 hS hlt hk
      go_wp2_with fail
      refine (SU.out A _ _ _ t2.out.a).mono ?_
      rintro e wx ⟨rfl, hwx⟩; have hwx2 := hwx.symm; subst hwx2; clear hwx
      go_wp2_with fail
      refine (SU.out B _ _ _ t2.out.b).mono ?_
      rintro e wx ⟨rfl, hwx⟩; have hwx2 := hwx.symm; subst hwx2; clear hwx
      go_wp2_with fail
      refine (LE.out A _ _ _ t2.out.a).mono ?_
      rintro e wx ⟨rfl, hwx⟩; have hwx2 := hwx.symm; subst hwx2; clear hwx
      go_wp2_with fail
      refine (LE.out B _ _ _ t2.out.b).mono ?_
      rintro e wx ⟨rfl, hwx⟩; have hwx2 := hwx.symm; subst hwx2; clear hwx
      go_wp2_with fail
      refine (LE.out A _ _ _ t2.out.a).mono ?_
      rintro e wx ⟨rfl, hwx⟩; have hwx2 := hwx.symm; subst hwx2; clear hwx
      go_wp2_with fail
      refine (DR.out B _ _ m _ (fun _ => by omega) HM.out t2.out.bel t2.out.b).mono ?_
      rintro e wx ⟨rfl, hbx, hdx⟩
      have t3 : Hid (Two w wx A B _ _ _ _) := t2.out.onB hbx hdx
      clear hbx hdx t2
      go_wp2_with fail
      refine (AD.out B _ _ m _ (fun h => by rw [sub_r h]; omega) HM.out t3.out.bel t3.out.b).mono ?_
      rintro e wy ⟨rfl, hby, hdy⟩
      have t2 : Hid (Two w wy A B S l.length S l.length) := by
        have h := t3.out.onB hby hdy
        rw [back_S hS0.out.1 hS0.out.2, back_R] at h
        exact h
      clear hby hdy t3
      generalize rowE m.la = E at *
      go_wp2_with fail
      refine (SU.out A _ _ _ t2.out.a).mono ?_
      rintro e wx ⟨rfl, hwx⟩; have hwx2 := hwx.symm; subst hwx2; clear hwx
      go_wp2_with fail
      refine (SU.out B _ _ _ t2.out.b).mono ?_
      rintro e wx ⟨rfl, hwx⟩; have hwx2 := hwx.symm; subst hwx2; clear hwx
      go_wp2_with fail
      refine (LE.out A _ _ _ t2.out.a).mono ?_
      rintro e wx ⟨rfl, hwx⟩; have hwx2 := hwx.symm; subst hwx2; clear hwx
      go_wp2_with fail
      refine (LE.out B _ _ _ t2.out.b).mono ?_
      rintro e wx ⟨rfl, hwx⟩; have hwx2 := hwx.symm; subst hwx2; clear hwx
      go_wp2_with fail
      have t3 : Hid (Two w wy A B (md (sumR l - sumR (l.take 0))) ((l.length : Int) - ((0 : Nat) : Int)) S l.length) := by
        have h := t2.out
        have e1 : md (sumR l - sumR (l.take 0)) = S := by rw [HS.out]; simp [sumR]
        have e2 : (l.length : Int) - ((0 : Nat) : Int) = l.length := by omega
        show Two w wy A B _ _ S l.length
        rw [e1, e2]; exact h
      clear t2
      go_loopw [12] (fun si wq => ∃ k : Nat, si = .int .i64 k ∧ k ≤ l.length ∧ Hid (Two w wq A B (md (sumR l - sumR (l.take k))) ((l.length : Int) - (k : Int)) S l.length)) (fun si _ => l.length - (intOf si).toNat)
      case atStart => exact ⟨0, rfl, Nat.zero_le _, t3⟩
      case round =>
        obtain ⟨k, rfl, hk, t1⟩ := hrel
        clear t3
        by_cases hlt : k < l.length
        · obtain ⟨x, hx⟩ : ∃ x, l[k]? = some x := ⟨l[k], List.getElem?_eq_getElem hlt⟩
          rcases hP1.out with rfl | ⟨g, off, rfl, hgw, hcs⟩
          · simp at hx
          have cx := (t1.out.bel.cell (p := ⟨g, off + k, none⟩) hgw).trans (hcs k x hx)
          have ex := hall.out x (List.mem_of_getElem? hx)
          have hcs2 : Hid _ := hcs
          clear hcs
          go_wp2_with fail
          refine (DR.out A _ _ x _ (fun _ => by omega) (HR.out x (List.mem_of_getElem? hx)) t1.out.bel t1.out.a).mono ?_
          rintro e wx ⟨rfl, hbx, hdx⟩
          have t2 : Hid (Two w wx A B (md (sumR l - sumR (l.take (k + 1)))) ((l.length : Int) - ((k + 1 : Nat) : Int)) S l.length) := by
            have h := t1.out.onA hbx hdx
            rw [sub_md hx ex, sub_r ex] at h
            have e : (l.length : Int) - (k : Int) - 1 = (l.length : Int) - ((k + 1 : Nat) : Int) := by omega
            rw [e] at h
            exact h
          clear hbx hdx t1 cx hx ex
          go_wp2_with fail
          go_roundw
          case rel => exact ⟨k + 1, by go_num, hlt, t2⟩
          case measure => simp [intOf]; omega
        · have hkn : k = l.length := by omega
          subst hkn
          have t2 : Hid (Two w wr A B 0 0 S l.length) := by
            have h := t1.out
            have e1 : md (sumR l - sumR (l.take l.length)) = 0 := by rw [List.take_length]; unfold md; omega
            have e2 : (l.length : Int) - ((l.length : Nat) : Int) = 0 := by omega
            rw [e1, e2] at h; exact h
          clear t1
          go_wp2_with fail
          refine (SU.out A _ _ _ t2.out.a).mono ?_
          rintro e wx ⟨rfl, hwx⟩; have hwx2 := hwx.symm; subst hwx2; clear hwx
          go_wp2_with fail
          refine (LE.out A _ _ _ t2.out.a).mono ?_
          rintro e wx ⟨rfl, hwx⟩; have hwx2 := hwx.symm; subst hwx2; clear hwx
          go_wp2_with fail
          go_ret
          exact ⟨rfl, t2.out.bel⟩
end Go.Proofs.YtabmhobbodknbaaDoor
