/-
  Walks: the document's net: Deliver, whatever is handed in.
-/
import Derived.Test.YtbdlamlplfogjaaNwVx
namespace Go.Proofs.Ytbdlamlplfogjaa
open Go.RowKit Go.Maps Go.Joins
variable {Q : Nat → Prop} {w w' : World} {d : Nat} {S : St} {T : Nat → Nat → List ByteArray} {R : Lr}

set_option maxHeartbeats 2000000 in
set_option maxRecDepth 100000 in
theorem rDel_none (h : RL Q w d S T R) {k : Int} (hk : ¬ (0 ≤ k ∧ k < S.fl.length)) (hl : S.fl.length ≤ 100000) : Calls Try.prog 33 #[.pointer (some ⟨d, 0, none⟩), .int .i64 k] w (REQ Q w d S T 61) := by
  have TK : Hid (Calls Try.prog 57 #[.pointer (some ⟨d, 0, none⟩), .int .i64 k] w fun e w1 => e = .returned (.tuple #[.agg #[.int .i64 0, .int .i64 0, .bool false, .int .u64 0, .int .u64 0, .slice none 0 0], .int .i64 61]) ∧ RU Q w d S T w1) := by
    refine (rTake_any h k hl).mono ?_
    rintro e w5 (⟨h1, rfl, U⟩ | ⟨i', p', pb, cb, hi', hp', rfl, hb, R1, h1, h2⟩)
    · exact ⟨rfl, U⟩
    · have := (List.getElem?_eq_some_iff.1 hp').1
      exact absurd ⟨by omega, by omega⟩ hk
  have HB := mkHid h.pb
  clear h hk hl
  go_enter Try.func33, Try.ntmps33
  go_wp2_with fail
  refine TK.out.mono ?_
  rintro e w1 ⟨rfl, u1⟩
  have U : Hid (∀ o, RU Q w d S T (w1.alloc o)) := fun o => u1.grow HB.out (grown_al (grown_refl _) _)
  clear u1
  go_wp2_with fail
  go_ret
  exact ⟨rfl, U.out _⟩
theorem rDeliver_any (h : RL Q w d S T R) (k : Int) {B : Nat} (ok : OkS S B) (hl : S.fl.length ≤ 4096) (hu : ∀ i j, i < S.N → j < S.N → (S.wy i j).us = (T i j).drop (S.wy i j).t ∧ (S.wy i j).t ≤ (T i j).length ∧ (T i j).length ≤ 5000000) :
    Calls Try.prog 33 #[.pointer (some ⟨d, 0, none⟩), .int .i64 k] w (REQ Q w d (delivS S k) T (flE S k)) := by
  have hB := ok.lt
  by_cases h1 : 0 ≤ k ∧ k < S.fl.length
  · obtain ⟨i, rfl⟩ : ∃ i : Nat, k = (i : Int) := ⟨k.toNat, by omega⟩
    have hi : i < S.fl.length := by omega
    obtain ⟨p, hp⟩ : ∃ p, S.fl[i]? = some p := ⟨_, List.getElem?_eq_getElem hi⟩
    have e0 : fliesS S (i : Int) = true := by unfold fliesS; rw [decide_eq_true h1]
    have e1 : delivS S (i : Int) = comeS (erS S i) p := by
      unfold delivS; rw [e0, if_pos rfl, Int.toNat_natCast, List.getD_eq_getElem?_getD, hp]; rfl
    have e2 : flE S (i : Int) = 0 := by unfold flE; rw [e0]; rfl
    rw [e1, e2]
    obtain ⟨hf, ht⟩ := ok.pk p (List.mem_of_getElem? hp)
    obtain ⟨u1, u2, u3⟩ := hu p.f p.t hf ht
    have u4 : (S.wy p.f p.t).us.length = (T p.f p.t).length - (S.wy p.f p.t).t := by rw [u1, List.length_drop]
    have hl' : S.fl.length ≤ 100000 := by omega
    have hcc : (S.wy p.f p.t).c ≤ 10000000 := by have := ok.wc p.f p.t; omega
    cases hdn : S.dn (pkTo p) with
    | true =>
      have e3 : comeS (erS S i) p = erS S i := by
        unfold comeS; rw [if_neg (fun e => by have e2 : S.dn (pkTo p) = false := e.2; rw [hdn] at e2; cases e2)]
      rw [e3]; exact rDel_down h hp hl' hf ht hdn
    | false =>
      by_cases he : p.e = (S.wy p.f p.t).b + 1
      · have ec : comeS (erS S i) p = if p.ack = true then { erS S i with wy := upd2 S.wy p.f p.t (tellW (S.wy p.f p.t) p.s) } else if p.s = (S.wy p.f p.t).c + 1 then flyS (nextS (erS S i) p) (ackP p ((S.wy p.f p.t).c + 1)) else flyS (erS S i) (ackP p (S.wy p.f p.t).c) := by
          unfold comeS; rw [if_pos ⟨he, hdn⟩]; rfl
        rw [ec]
        cases hak : p.ack with
        | true =>
          rw [if_pos rfl]
          have same : ∀ x : Wy, x = S.wy p.f p.t → ({ erS S i with wy := upd2 S.wy p.f p.t x } : St) = erS S i := fun x hx => by
            rw [hx, upd2_id]; rfl
          by_cases h2 : (S.wy p.f p.t).t < p.s
          · by_cases h3 : p.s ≤ (T p.f p.t).length
            · have e3 : tellW (S.wy p.f p.t) p.s = { S.wy p.f p.t with us := (S.wy p.f p.t).us.drop (p.s - (S.wy p.f p.t).t), t := p.s } := by
                unfold tellW; rw [if_pos ⟨h2, by omega⟩]
              rw [e3]; exact rDel_acktell h hp hl' hf ht hdn hak he u3 (by omega) h2 h3 _
            · rw [same _ (by unfold tellW; rw [if_neg (by omega)])]
              exact rDel_ackhigh h hp hl' hf ht hdn hak he u3 (by omega) h2 (by omega)
          · rw [same _ (by unfold tellW; rw [if_neg (by omega)])]
            exact rDel_acklow h hp hl' hf ht hdn hak he u3 (by omega) (by omega)
        | false =>
          rw [if_neg (by simp)]
          by_cases h2 : p.s = (S.wy p.f p.t).c + 1
          · rw [if_pos h2]
            exact rDel_msgnext h hp hl' hf ht hdn hak he hcc h2 (by have := ok.ml p.t; omega)
          · rw [if_neg h2]
            exact rDel_msgagain h hp hl' hf ht hdn hak he hcc h2
      · have e3 : comeS (erS S i) p = erS S i := by
          unfold comeS; rw [if_neg (fun e => he e.1)]
        rw [e3]
        cases hak : p.ack with
        | true => exact rDel_ackold h hp hl' hf ht hdn hak he
        | false => exact rDel_msgold h hp hl' hf ht hdn hak he
  · have e0 : fliesS S k = false := by unfold fliesS; rw [decide_eq_false h1]
    have e1 : delivS S k = S := by unfold delivS; rw [e0]; rfl
    have e2 : flE S k = 61 := by unfold flE; rw [e0]; rfl
    rw [e1, e2]
    exact rDel_none h h1 (by omega)
end Go.Proofs.Ytbdlamlplfogjaa
namespace Go.Proofs.Ytbdlamlplfogjaa
open Go.RowKit Go.Maps Go.Joins
variable {Q : Nat → Prop} {w w' : World} {d : Nat} {S : St} {T : Nat → Nat → List ByteArray} {R : Lr}

/-- what is told as sent, the first k ways begun anew -/
def upTK (T : Nat → Nat → List ByteArray) (i : Nat) : Nat → Nat → Nat → List ByteArray
  | 0 => T
  | k + 1 => if k = i then upd2 (upTK T i k) i k [] else upd2 (upd2 (upTK T i k) i k []) k i []
theorem upTK_at (T : Nat → Nat → List ByteArray) (i : Nat) : ∀ k a b, upTK T i k a b = if (a = i ∧ b < k) ∨ (b = i ∧ a < k) then [] else T a b
  | 0, a, b => by rw [if_neg (by omega)]; rfl
  | k + 1, a, b => by
    have ih := upTK_at T i k a b
    rw [upTK]
    by_cases hk : k = i
    · rw [if_pos hk]
      by_cases e : a = i ∧ b = k
      · rw [e.1, e.2, upd2_same, if_pos (by omega)]
      · rw [upd2_other _ _ e, ih]
        by_cases e2 : (a = i ∧ b < k) ∨ (b = i ∧ a < k)
        · rw [if_pos e2, if_pos (by omega)]
        · rw [if_neg e2, if_neg (by omega)]
    · rw [if_neg hk]
      by_cases e3 : a = k ∧ b = i
      · rw [e3.1, e3.2, upd2_same, if_pos (by omega)]
      · rw [upd2_other _ _ e3]
        by_cases e : a = i ∧ b = k
        · rw [e.1, e.2, upd2_same, if_pos (by omega)]
        · rw [upd2_other _ _ e, ih]
          by_cases e2 : (a = i ∧ b < k) ∨ (b = i ∧ a < k)
          · rw [if_pos e2, if_pos (by omega)]
          · rw [if_neg e2, if_neg (by omega)]
theorem RL.sent (h : RL Q w d S T R) {T2 : Nat → Nat → List ByteArray} (e : ∀ a b, a < S.N → b < S.N → T2 a b = T a b) : RL Q w d S T2 R := ⟨h.pb, h.qd, h.qt, h.qy, h.qm, h.qr, h.n1, h.n64, h.cp, h.net, h.th, h.yo, h.yr, h.yd, h.mo, h.mr, fun i j hi hj => by rw [e i j hi hj]; exact h.sr i j hi hj, h.ar⟩
/-- what is told as sent behind an Up -/
def upTT (S : St) (T : Nat → Nat → List ByteArray) (k : Int) : Nat → Nat → List ByteArray := if upK S k = 0 then upT' T k.toNat else T
set_option maxHeartbeats 4000000 in
set_option maxRecDepth 100000 in
theorem rUp_no (h : RL Q w d S T R) (k : Int) (hk : ¬ (0 ≤ k ∧ k < S.N)) : Calls Try.prog 41 #[.pointer (some ⟨d, 0, none⟩), .int .i64 k] w (REQ Q w d S T 60) := by
  have H1 := mkHid (rNode_any h k)
  rw [decide_eq_false hk] at H1
  have U := mkHid (h.up (grown_refl _))
  clear h hk
  go_enter Try.func41, Try.ntmps41
  go_wp2_with fail
  refine H1.out.mono ?_
  rintro e w1 ⟨rfl, hwx⟩; have hwx2 := hwx.symm; subst hwx2; clear hwx
  go_wp2_with fail
  go_ret
  exact ⟨rfl, U.out⟩
set_option maxHeartbeats 4000000 in
set_option maxRecDepth 100000 in
theorem rUp_is (h : RL Q w d S T R) {i : Nat} (hi : i < S.N) (hd : S.dn i = false) : Calls Try.prog 41 #[.pointer (some ⟨d, 0, none⟩), .int .i64 (i : Int)] w (REQ Q w d S T 1) := by
  have H1 := mkHid (rNode_any h (i : Int))
  rw [decide_eq_true (by omega)] at H1
  have U := mkHid (h.up (grown_refl _))
  obtain ⟨c0, _⟩ := h.cs
  obtain ⟨t0, _⟩ := h.tcell hi
  rw [hd] at t0
  have i1 : (i : Int) < (S.N : Int) := by omega
  clear h hd
  go_enter Try.func41, Try.ntmps41
  go_wp2_with fail
  refine H1.out.mono ?_
  rintro e w1 ⟨rfl, hwx⟩; have hwx2 := hwx.symm; subst hwx2; clear hwx
  go_wp2_with fail
  go_ret
  exact ⟨rfl, U.out⟩
set_option maxHeartbeats 4000000 in
set_option maxRecDepth 100000 in
theorem rUp_goes (h : RL Q w d S T R) {i : Nat} (hi : i < S.N) (hd : S.dn i = true) (hb : ∀ a b, (S.wy a b).b ≤ 1000000000) : Calls Try.prog 41 #[.pointer (some ⟨d, 0, none⟩), .int .i64 (i : Int)] w (REQ Q w d (upS S i) (upT' T i) 0) := by
  have ND := mkHid (rNode_any h (i : Int))
  rw [decide_eq_true (by omega)] at ND
  obtain ⟨c0, _⟩ := h.cs
  obtain ⟨t0, tf⟩ := h.tcell hi
  rw [hd] at t0
  have i1 : (i : Int) < (S.N : Int) := by omega
  have HT := h.setT hi false
  rw [Bool.not_false] at HT
  have HB := mkHid h.pb
  have HP := mkHid h
  have HI := mkHid hi
  have HBB := mkHid hb
  have R0 : Hid (RL Q (w.setCell ⟨R.tg, i, none⟩ (.bool true)) d { S with dn := upd S.dn i false } T R ∧ Chg (hbq Q w) w (w.setCell ⟨R.tg, i, none⟩ (.bool true))) := ⟨HT, (Chg.of_cell w ⟨R.tg, i, none⟩ (.bool true)).mono (fun x _ e => by have e : x = R.tg := e; rw [e]; exact ⟨h.qt, by rw [h.kb.2.1]; decide⟩)⟩
  obtain ⟨N, hN⟩ : ∃ N, N = S.N := ⟨_, rfl⟩
  have HNS := mkHid hN
  have h64 : N ≤ 64 := by rw [hN]; exact h.n64
  rw [← hN] at c0 i1
  clear h hd hb HT hi hN
  go_enter Try.func41, Try.ntmps41
  go_wp2_with fail
  refine ND.out.mono ?_
  rintro e w1 ⟨rfl, hwx⟩; have hwx2 := hwx.symm; subst hwx2; clear hwx
  go_wp2_with fail
  generalize w.setCell ⟨R.tg, i, none⟩ (.bool true) = wx at R0 ⊢
  clear c0 t0 tf
  go_loopw [5] (fun s5 wr => ∃ (k : Nat) (Rk : Lr), s5 = .int .i64 (k : Int) ∧ k ≤ N ∧ Hid (RL Q wr d (anewK { S with dn := upd S.dn i false } i k) (upTK T i k) Rk ∧ Chg (hbq Q w) w wr)) (fun s5 _ => N - (intOf s5).toNat)
  case atStart => exact ⟨0, R, rfl, Nat.zero_le _, R0⟩
  case round =>
    obtain ⟨k, Rk, rfl, hk, RN⟩ := hrel
    by_cases hlt : k < N
    · have hlti : (k : Int) < (N : Int) := by omega
      have H1 := RN.out.1
      have HC1 := mkHid RN.out.2
      have HN : Hid (St.N (anewK { S with dn := upd S.dn i false } i k) = N) := by
        rw [HNS.out]; exact (anewK_same _ i k).1
      have hi1 : i < St.N (anewK { S with dn := upd S.dn i false } i k) := by have := HN.out; omega
      have hk1 : k < St.N (anewK { S with dn := upd S.dn i false } i k) := by have := HN.out; omega
      have HBD : Hid (∀ a b, (St.wy (anewK { S with dn := upd S.dn i false } i k) a b).b ≤ 1000000000001) := fun a b => by
        have := HBB.out a b
        rw [anewK_wy]
        split
        · show (S.wy a b).b + 1 ≤ _; omega
        · show (S.wy a b).b ≤ _; omega
      obtain ⟨V, hV⟩ : ∃ V, V = ((anewK { S with dn := upd S.dn i false } i k).wy i k).b := ⟨_, rfl⟩
      obtain ⟨g0, g1, _, _, _⟩ := H1.cs
      obtain ⟨z0, z1, z2, z3, z4, zf⟩ := H1.ycell (i := i) (j := k) hi1 hk1
      rw [HN.out] at g0 g1 z0
      rw [← hV, show ((V + 1 : Nat) : Int) = (V : Int) + 1 from rfl] at z1
      have hVB : V ≤ 1000000000001 := by rw [hV]; exact HBD.out i k
      have f0 := zf (k * 4)
      have f1 := zf (k * 4 + 1)
      have f2 := zf (k * 4 + 2)
      have f3 := zf (k * 4 + 3)
      have iw : IntKind.u64.wrap ((V : Int) + 1 + 1) = (V : Int) + 1 + 1 := u64w (by omega) (by omega)
      have kb := H1.kb
      have nd : d ≠ Rk.yb i := fun e => by have h1 := kb.1; have h2 := kb.2.2.2.2 i hi1; rw [e, h2] at h1; simp at h1
      have ny : Rk.yg ≠ Rk.yb i := fun e => by have h1 := kb.2.2.1; have h2 := kb.2.2.2.2 i hi1; rw [e, h2] at h1; simp at h1
      have K0 : Hid ((fun w' : World => w'.cell? ⟨d, 1, none⟩ = some (.slice (some ⟨Rk.yg, 0, none⟩) N Rk.yc) ∧ w'.cell? ⟨Rk.yg, i, none⟩ = some (.slice (some ⟨Rk.yb i, 0, none⟩) N (Rk.yk i))) wr.drew) := ⟨g1, z0⟩
      have K1 : Hid ((fun w' : World => w'.cell? ⟨d, 1, none⟩ = some (.slice (some ⟨Rk.yg, 0, none⟩) N Rk.yc) ∧ w'.cell? ⟨Rk.yg, i, none⟩ = some (.slice (some ⟨Rk.yb i, 0, none⟩) N (Rk.yk i))) ((((wr.setCell ⟨Rk.yb i, k * 4, none⟩ (.int .u64 ((V : Int) + 1 + 1))).setCell ⟨Rk.yb i, k * 4 + 1, none⟩ (.slice none 0 0)).setCell ⟨Rk.yb i, k * 4 + 2, none⟩ (.int .i64 0)).setCell ⟨Rk.yb i, k * 4 + 3, none⟩ (.int .i64 0)).drew) := ⟨nSt1 nd (nSt1 nd (nSt1 nd (nSt1 nd g1))), nSt1 ny (nSt1 ny (nSt1 ny (nSt1 ny z0)))⟩
      have HY := H1.setY hi1 hk1 ⟨V + 1, 0, 0, []⟩ (v := .slice none 0 0) (l := []) (rwR_nil _ _ _ _ _)
      have CY := (setW_chg wr (Rk.yb i) k (.int .u64 ((V + 1 + 1 : Nat) : Int)) (.slice none 0 0) (.int .i64 ((0 : Nat) : Int)) (.int .i64 ((0 : Nat) : Int))).mono (T := hbq Q wr) (fun x _ e => by have e : x = Rk.yb i := e; rw [e]; exact ⟨H1.qr i hi1, by rw [H1.kb.2.2.2.2 i hi1]; decide⟩)
      have gd := grown_drew (grown_refl (setW wr (Rk.yb i) k (.int .u64 ((V + 1 + 1 : Nat) : Int)) (.slice none 0 0) (.int .i64 ((0 : Nat) : Int)) (.int .i64 ((0 : Nat) : Int))))
      have HH : Hid (RL Q ((((wr.setCell ⟨Rk.yb i, k * 4, none⟩ (.int .u64 ((V : Int) + 1 + 1))).setCell ⟨Rk.yb i, k * 4 + 1, none⟩ (.slice none 0 0)).setCell ⟨Rk.yb i, k * 4 + 2, none⟩ (.int .i64 0)).setCell ⟨Rk.yb i, k * 4 + 3, none⟩ (.int .i64 0)).drew d (anewS (anewK { S with dn := upd S.dn i false } i k) i k) (upd2 (upTK T i k) i k []) { Rk with sv := upd2 Rk.sv i k (.slice none 0 0) } ∧ Chg (hbq Q w) w ((((wr.setCell ⟨Rk.yb i, k * 4, none⟩ (.int .u64 ((V : Int) + 1 + 1))).setCell ⟨Rk.yb i, k * 4 + 1, none⟩ (.slice none 0 0)).setCell ⟨Rk.yb i, k * 4 + 2, none⟩ (.int .i64 0)).setCell ⟨Rk.yb i, k * 4 + 3, none⟩ (.int .i64 0)).drew) := by
        rw [hV] at HY gd CY
        have e1 := HY.kept gd
        rw [← hV] at e1 gd CY
        exact ⟨by rw [hV] at e1 ⊢; exact e1, hb_trans HC1.out (CY.trans (Chg.of_none gd _)) (fun _ => ext_le)⟩
      have hdlt := H1.pb _ H1.qd
      clear HY CY gd kb nd ny hV hVB zf
      clear RN H1 hi1 hk1
      go_wp2_with fail
      refine wp_region_noPanic ?_
      refine wp_region_held_drew (S := fun w' : World => w'.cell? ⟨d, 1, none⟩ = some (.slice (some ⟨Rk.yg, 0, none⟩) N Rk.yc) ∧ w'.cell? ⟨Rk.yg, i, none⟩ = some (.slice (some ⟨Rk.yb i, 0, none⟩) N (Rk.yk i))) (by kernel_rfl) K0.out (fun hH => ?_)
      refine take_at (i := 0) (v := .pointer (some ⟨d, 0, none⟩)) rfl rfl (by kernel_rfl) (by kernel_rfl) (by kernel_rfl) (fun _ _ _ h => h) (Or.inl ⟨by rfl, ?_⟩) hH ?_
      · intro w5 hSw; obtain ⟨s0, s1⟩ := hSw; go_simp
      simp only [List.setIfInBounds_toArray, List.set_cons_zero, List.set_cons_succ]
      refine take_at (i := 1) (v := .pointer (some ⟨d, 0, none⟩)) rfl rfl (by kernel_rfl) (by kernel_rfl) (by kernel_rfl) (fun _ _ _ h => h) (Or.inl ⟨by rfl, ?_⟩) hH ?_
      · intro w5 hSw; obtain ⟨s0, s1⟩ := hSw; go_simp
      simp only [List.setIfInBounds_toArray, List.set_cons_zero, List.set_cons_succ]
      refine take_at (i := 2) (v := .pointer (some ⟨d, 1, none⟩)) rfl rfl (by kernel_rfl) (by kernel_rfl) (by kernel_rfl) (fun _ _ _ h => h) (Or.inl ⟨by rfl, ?_⟩) hH ?_
      · intro w5 hSw; obtain ⟨s0, s1⟩ := hSw; go_simp
      simp only [List.setIfInBounds_toArray, List.set_cons_zero, List.set_cons_succ]
      refine take_at (i := 3) (v := .slice (some ⟨Rk.yg, 0, none⟩) N Rk.yc) rfl rfl (by kernel_rfl) (by kernel_rfl) (by kernel_rfl) (fun _ _ _ h => h) (Or.inl ⟨by rfl, ?_⟩) hH ?_
      · intro w5 hSw; obtain ⟨s0, s1⟩ := hSw; go_simp
      simp only [List.setIfInBounds_toArray, List.set_cons_zero, List.set_cons_succ]
      refine take_at (i := 4) (v := .int .i64 (i : Int)) rfl rfl (by kernel_rfl) (by kernel_rfl) (by kernel_rfl) (fun _ _ _ h => h) (Or.inl ⟨by rfl, ?_⟩) hH ?_
      · intro w5 hSw; obtain ⟨s0, s1⟩ := hSw; go_simp
      simp only [List.setIfInBounds_toArray, List.set_cons_zero, List.set_cons_succ]
      refine take_at (i := 5) (v := .pointer (some ⟨Rk.yg, i, none⟩)) rfl rfl (by kernel_rfl) (by kernel_rfl) (by kernel_rfl) (fun _ _ _ h => h) (Or.inl ⟨by rfl, ?_⟩) hH ?_
      · intro w5 hSw; obtain ⟨s0, s1⟩ := hSw; go_simp
      simp only [List.setIfInBounds_toArray, List.set_cons_zero, List.set_cons_succ]
      refine take_at (i := 6) (v := .slice (some ⟨Rk.yb i, 0, none⟩) N (Rk.yk i)) rfl rfl (by kernel_rfl) (by kernel_rfl) (by kernel_rfl) (fun _ _ _ h => h) (Or.inl ⟨by rfl, ?_⟩) hH ?_
      · intro w5 hSw; obtain ⟨s0, s1⟩ := hSw; go_simp
      simp only [List.setIfInBounds_toArray, List.set_cons_zero, List.set_cons_succ]
      refine take_at (i := 7) (v := .int .i64 (k : Int)) rfl rfl (by kernel_rfl) (by kernel_rfl) (by kernel_rfl) (fun _ _ _ h => h) (Or.inl ⟨by rfl, ?_⟩) hH ?_
      · intro w5 hSw; obtain ⟨s0, s1⟩ := hSw; go_simp
      simp only [List.setIfInBounds_toArray, List.set_cons_zero, List.set_cons_succ]
      refine take_at (i := 8) (v := .pointer (some ⟨d, 0, none⟩)) rfl rfl (by kernel_rfl) (by kernel_rfl) (by kernel_rfl) (fun _ _ _ h => h) (Or.inl ⟨by rfl, ?_⟩) hH ?_
      · intro w5 hSw; obtain ⟨s0, s1⟩ := hSw; go_simp
      simp only [List.setIfInBounds_toArray, List.set_cons_zero, List.set_cons_succ]
      refine take_at (i := 9) (v := .pointer (some ⟨d, 0, none⟩)) rfl rfl (by kernel_rfl) (by kernel_rfl) (by kernel_rfl) (fun _ _ _ h => h) (Or.inl ⟨by rfl, ?_⟩) hH ?_
      · intro w5 hSw; obtain ⟨s0, s1⟩ := hSw; go_simp
      simp only [List.setIfInBounds_toArray, List.set_cons_zero, List.set_cons_succ]
      refine take_at (i := 10) (v := .pointer (some ⟨d, 1, none⟩)) rfl rfl (by kernel_rfl) (by kernel_rfl) (by kernel_rfl) (fun _ _ _ h => h) (Or.inl ⟨by rfl, ?_⟩) hH ?_
      · intro w5 hSw; obtain ⟨s0, s1⟩ := hSw; go_simp
      simp only [List.setIfInBounds_toArray, List.set_cons_zero, List.set_cons_succ]
      refine take_at (i := 11) (v := .slice (some ⟨Rk.yg, 0, none⟩) N Rk.yc) rfl rfl (by kernel_rfl) (by kernel_rfl) (by kernel_rfl) (fun _ _ _ h => h) (Or.inl ⟨by rfl, ?_⟩) hH ?_
      · intro w5 hSw; obtain ⟨s0, s1⟩ := hSw; go_simp
      simp only [List.setIfInBounds_toArray, List.set_cons_zero, List.set_cons_succ]
      refine take_at (i := 12) (v := .int .i64 (i : Int)) rfl rfl (by kernel_rfl) (by kernel_rfl) (by kernel_rfl) (fun _ _ _ h => h) (Or.inl ⟨by rfl, ?_⟩) hH ?_
      · intro w5 hSw; obtain ⟨s0, s1⟩ := hSw; go_simp
      simp only [List.setIfInBounds_toArray, List.set_cons_zero, List.set_cons_succ]
      refine take_at (i := 13) (v := .pointer (some ⟨Rk.yg, i, none⟩)) rfl rfl (by kernel_rfl) (by kernel_rfl) (by kernel_rfl) (fun _ _ _ h => h) (Or.inl ⟨by rfl, ?_⟩) hH ?_
      · intro w5 hSw; obtain ⟨s0, s1⟩ := hSw; go_simp
      simp only [List.setIfInBounds_toArray, List.set_cons_zero, List.set_cons_succ]
      refine take_at (i := 14) (v := .slice (some ⟨Rk.yb i, 0, none⟩) N (Rk.yk i)) rfl rfl (by kernel_rfl) (by kernel_rfl) (by kernel_rfl) (fun _ _ _ h => h) (Or.inl ⟨by rfl, ?_⟩) hH ?_
      · intro w5 hSw; obtain ⟨s0, s1⟩ := hSw; go_simp
      simp only [List.setIfInBounds_toArray, List.set_cons_zero, List.set_cons_succ]
      refine take_at (i := 15) (v := .int .i64 (k : Int)) rfl rfl (by kernel_rfl) (by kernel_rfl) (by kernel_rfl) (fun _ _ _ h => h) (Or.inl ⟨by rfl, ?_⟩) hH ?_
      · intro w5 hSw; obtain ⟨s0, s1⟩ := hSw; go_simp
      simp only [List.setIfInBounds_toArray, List.set_cons_zero, List.set_cons_succ]
      refine take_at (i := 16) (v := .pointer (some ⟨(Rk.yb i), k * 4, none⟩)) rfl rfl (by kernel_rfl) (by kernel_rfl) (by kernel_rfl) (fun _ _ _ h => h) (Or.inl ⟨by rfl, ?_⟩) hH ?_
      · intro w5 hSw; obtain ⟨s0, s1⟩ := hSw; go_simp
      simp only [List.setIfInBounds_toArray, List.set_cons_zero, List.set_cons_succ]
      refine take_at (i := 17) (v := .pointer (some ⟨(Rk.yb i), k * 4, none⟩)) rfl rfl (by kernel_rfl) (by kernel_rfl) (by kernel_rfl) (fun _ _ _ h => h) (Or.inl ⟨by rfl, ?_⟩) hH ?_
      · intro w5 hSw; obtain ⟨s0, s1⟩ := hSw; go_simp
      simp only [List.setIfInBounds_toArray, List.set_cons_zero, List.set_cons_succ]
      refine wpAnyH_ready (rs := [18]) (by kernel_rfl) (by simp) ?_
      refine AllReadyH.cons rfl (fun K hK => ?_) AllReadyH.nil
      go_simp
      refine hK.out _ _ K0.out (fun hH => ?_)
      clear hK K
      refine take_at (i := 19) (v := .int .u64 ((V : Int) + 1 + 1)) rfl rfl (by kernel_rfl) (by kernel_rfl) (by kernel_rfl) (fun _ _ _ h => h) (Or.inl ⟨by rfl, ?_⟩) hH ?_
      · intro w5 hSw; obtain ⟨s0, s1⟩ := hSw; go_simp
      simp only [List.setIfInBounds_toArray, List.set_cons_zero, List.set_cons_succ]
      refine take_at (i := 20) (v := .agg #[.int .u64 ((V : Int) + 1 + 1), .slice none 0 0, .int .i64 0, .int .i64 0]) rfl rfl (by kernel_rfl) (by kernel_rfl) (by kernel_rfl) (fun _ _ _ h => h) (Or.inl ⟨by rfl, ?_⟩) hH ?_
      · intro w5 hSw; obtain ⟨s0, s1⟩ := hSw; go_simp
      simp only [List.setIfInBounds_toArray, List.set_cons_zero, List.set_cons_succ]
      refine take_at (i := 21) (v := .pointer (some ⟨(Rk.yb i), k * 4, none⟩)) rfl rfl (by kernel_rfl) (by kernel_rfl) (by kernel_rfl) (fun _ _ _ h => h) (Or.inl ⟨by rfl, ?_⟩) hH ?_
      · intro w5 hSw; obtain ⟨s0, s1⟩ := hSw; go_simp
      simp only [List.setIfInBounds_toArray, List.set_cons_zero, List.set_cons_succ]
      refine wpAnyH_ready (rs := [22]) (by kernel_rfl) (by simp) ?_
      refine AllReadyH.cons rfl (fun K hK => ?_) AllReadyH.nil
      go_simp
      refine hK.out _ _ K1.out (fun hH => ?_)
      clear hK K
      refine wpAnyH_done (by kernel_rfl) ?_ _
      refine NoPanic.normal ?_
      clear K0 K1 z0 z1 z2 z3 z4 f0 f1 f2 f3 g0 g1 iw hH
      generalize ((((wr.setCell ⟨Rk.yb i, k * 4, none⟩ (.int .u64 ((V : Int) + 1 + 1))).setCell ⟨Rk.yb i, k * 4 + 1, none⟩ (.slice none 0 0)).setCell ⟨Rk.yb i, k * 4 + 2, none⟩ (.int .i64 0)).setCell ⟨Rk.yb i, k * 4 + 3, none⟩ (.int .i64 0)).drew = wA at HH ⊢
      have HH1 := HH
      clear HH hdlt
      by_cases hki : k = i
      · have hkb : ((k : Int) == (i : Int)) = true := by rw [hki]; simp
        go_wp2_with fail
        go_roundw
        case rel =>
          refine ⟨k + 1, { Rk with sv := upd2 Rk.sv i k (.slice none 0 0) }, by go_num, hlt, ?_⟩
          have e1 := HH1.out
          have e2 : upTK T i (k + 1) = upd2 (upTK T i k) i k [] := by rw [upTK, if_pos hki]
          have e3 : anewK { S with dn := upd S.dn i false } i (k + 1) = anewS (anewK { S with dn := upd S.dn i false } i k) i k := by rw [anewK_s, if_pos hki]
          rw [e2, e3]
          exact e1
        case measure => simp [intOf]; omega
      · have hkb : ((k : Int) == (i : Int)) = false := by rw [beq_eq_false_iff_ne]; omega
        have HA := HH1.out.1
        have HC2 := mkHid HH1.out.2
        obtain ⟨RA, hRA⟩ : ∃ RA : Lr, RA = { Rk with sv := upd2 Rk.sv i k (.slice none 0 0) } := ⟨_, rfl⟩
        rw [← hRA] at HA
        have HN : Hid (St.N (anewS (anewK { S with dn := upd S.dn i false } i k) i k) = N) := HN.out
        have hi1 : i < St.N (anewS (anewK { S with dn := upd S.dn i false } i k) i k) := by have := HN.out; omega
        have hk1 : k < St.N (anewS (anewK { S with dn := upd S.dn i false } i k) i k) := by have := HN.out; omega
        have HBD : Hid (∀ a b, (St.wy (anewS (anewK { S with dn := upd S.dn i false } i k) i k) a b).b ≤ 1000000000001) := fun a b => by
          have := HBB.out a b
          rw [anewS_wy]
          split
          · have h2 := HBB.out i k
            rw [anewK_wy]
            show (if _ then (_ : Wy) else _).b + 1 ≤ _
            split
            · show (S.wy i k).b + 1 + 1 ≤ _; omega
            · show (S.wy i k).b + 1 ≤ _; omega
          · rw [anewK_wy]
            split
            · show (S.wy a b).b + 1 ≤ _; omega
            · show (S.wy a b).b ≤ _; omega
        obtain ⟨V, hV⟩ : ∃ V, V = ((anewS (anewK { S with dn := upd S.dn i false } i k) i k).wy k i).b := ⟨_, rfl⟩
        obtain ⟨g0, g1, _, _, _⟩ := HA.cs
        obtain ⟨z0, z1, z2, z3, z4, zf⟩ := HA.ycell (i := k) (j := i) hk1 hi1
        rw [HN.out] at g0 g1 z0
        rw [← hV, show ((V + 1 : Nat) : Int) = (V : Int) + 1 from rfl] at z1
        have hVB : V ≤ 1000000000001 := by rw [hV]; exact HBD.out k i
        have f0 := zf (i * 4)
        have f1 := zf (i * 4 + 1)
        have f2 := zf (i * 4 + 2)
        have f3 := zf (i * 4 + 3)
        have iw : IntKind.u64.wrap ((V : Int) + 1 + 1) = (V : Int) + 1 + 1 := u64w (by omega) (by omega)
        have kb := HA.kb
        have nd : d ≠ RA.yb k := fun e => by have h1 := kb.1; have h2 := kb.2.2.2.2 k hk1; rw [e, h2] at h1; simp at h1
        have ny : RA.yg ≠ RA.yb k := fun e => by have h1 := kb.2.2.1; have h2 := kb.2.2.2.2 k hk1; rw [e, h2] at h1; simp at h1
        have K0 : Hid ((fun w' : World => w'.cell? ⟨d, 1, none⟩ = some (.slice (some ⟨RA.yg, 0, none⟩) N RA.yc) ∧ w'.cell? ⟨RA.yg, k, none⟩ = some (.slice (some ⟨RA.yb k, 0, none⟩) N (RA.yk k))) wA.drew) := ⟨g1, z0⟩
        have K1 : Hid ((fun w' : World => w'.cell? ⟨d, 1, none⟩ = some (.slice (some ⟨RA.yg, 0, none⟩) N RA.yc) ∧ w'.cell? ⟨RA.yg, k, none⟩ = some (.slice (some ⟨RA.yb k, 0, none⟩) N (RA.yk k))) ((((wA.setCell ⟨RA.yb k, i * 4, none⟩ (.int .u64 ((V : Int) + 1 + 1))).setCell ⟨RA.yb k, i * 4 + 1, none⟩ (.slice none 0 0)).setCell ⟨RA.yb k, i * 4 + 2, none⟩ (.int .i64 0)).setCell ⟨RA.yb k, i * 4 + 3, none⟩ (.int .i64 0)).drew) := ⟨nSt1 nd (nSt1 nd (nSt1 nd (nSt1 nd g1))), nSt1 ny (nSt1 ny (nSt1 ny (nSt1 ny z0)))⟩
        have HY := HA.setY hk1 hi1 ⟨V + 1, 0, 0, []⟩ (v := .slice none 0 0) (l := []) (rwR_nil _ _ _ _ _)
        have CY := (setW_chg wA (RA.yb k) i (.int .u64 ((V + 1 + 1 : Nat) : Int)) (.slice none 0 0) (.int .i64 ((0 : Nat) : Int)) (.int .i64 ((0 : Nat) : Int))).mono (T := hbq Q wA) (fun x _ e => by have e : x = RA.yb k := e; rw [e]; exact ⟨HA.qr k hk1, by rw [HA.kb.2.2.2.2 k hk1]; decide⟩)
        have gd := grown_drew (grown_refl (setW wA (RA.yb k) i (.int .u64 ((V + 1 + 1 : Nat) : Int)) (.slice none 0 0) (.int .i64 ((0 : Nat) : Int)) (.int .i64 ((0 : Nat) : Int))))
        have HH : Hid (RL Q ((((wA.setCell ⟨RA.yb k, i * 4, none⟩ (.int .u64 ((V : Int) + 1 + 1))).setCell ⟨RA.yb k, i * 4 + 1, none⟩ (.slice none 0 0)).setCell ⟨RA.yb k, i * 4 + 2, none⟩ (.int .i64 0)).setCell ⟨RA.yb k, i * 4 + 3, none⟩ (.int .i64 0)).drew d (anewS (anewS (anewK { S with dn := upd S.dn i false } i k) i k) k i) (upd2 (upd2 (upTK T i k) i k []) k i []) { RA with sv := upd2 RA.sv k i (.slice none 0 0) } ∧ Chg (hbq Q w) w ((((wA.setCell ⟨RA.yb k, i * 4, none⟩ (.int .u64 ((V : Int) + 1 + 1))).setCell ⟨RA.yb k, i * 4 + 1, none⟩ (.slice none 0 0)).setCell ⟨RA.yb k, i * 4 + 2, none⟩ (.int .i64 0)).setCell ⟨RA.yb k, i * 4 + 3, none⟩ (.int .i64 0)).drew) := by
          rw [hV] at HY gd CY
          have e1 := HY.kept gd
          rw [← hV] at e1 gd CY
          exact ⟨by rw [hV] at e1 ⊢; exact e1, hb_trans HC2.out (CY.trans (Chg.of_none gd _)) (fun _ => ext_le)⟩
        have hdlt := HA.pb _ HA.qd
        clear HY CY gd kb nd ny hV hVB zf
        clear HA hi1 hk1 hRA HH1
        go_wp2_with fail
        refine wp_region_noPanic ?_
        refine wp_region_held_drew (S := fun w' : World => w'.cell? ⟨d, 1, none⟩ = some (.slice (some ⟨RA.yg, 0, none⟩) N RA.yc) ∧ w'.cell? ⟨RA.yg, k, none⟩ = some (.slice (some ⟨RA.yb k, 0, none⟩) N (RA.yk k))) (by kernel_rfl) K0.out (fun hH => ?_)
        refine take_at (i := 0) (v := .pointer (some ⟨d, 0, none⟩)) rfl rfl (by kernel_rfl) (by kernel_rfl) (by kernel_rfl) (fun _ _ _ h => h) (Or.inl ⟨by rfl, ?_⟩) hH ?_
        · intro w5 hSw; obtain ⟨s0, s1⟩ := hSw; go_simp
        simp only [List.setIfInBounds_toArray, List.set_cons_zero, List.set_cons_succ]
        refine take_at (i := 1) (v := .pointer (some ⟨d, 0, none⟩)) rfl rfl (by kernel_rfl) (by kernel_rfl) (by kernel_rfl) (fun _ _ _ h => h) (Or.inl ⟨by rfl, ?_⟩) hH ?_
        · intro w5 hSw; obtain ⟨s0, s1⟩ := hSw; go_simp
        simp only [List.setIfInBounds_toArray, List.set_cons_zero, List.set_cons_succ]
        refine take_at (i := 2) (v := .pointer (some ⟨d, 1, none⟩)) rfl rfl (by kernel_rfl) (by kernel_rfl) (by kernel_rfl) (fun _ _ _ h => h) (Or.inl ⟨by rfl, ?_⟩) hH ?_
        · intro w5 hSw; obtain ⟨s0, s1⟩ := hSw; go_simp
        simp only [List.setIfInBounds_toArray, List.set_cons_zero, List.set_cons_succ]
        refine take_at (i := 3) (v := .slice (some ⟨RA.yg, 0, none⟩) N RA.yc) rfl rfl (by kernel_rfl) (by kernel_rfl) (by kernel_rfl) (fun _ _ _ h => h) (Or.inl ⟨by rfl, ?_⟩) hH ?_
        · intro w5 hSw; obtain ⟨s0, s1⟩ := hSw; go_simp
        simp only [List.setIfInBounds_toArray, List.set_cons_zero, List.set_cons_succ]
        refine take_at (i := 4) (v := .int .i64 (k : Int)) rfl rfl (by kernel_rfl) (by kernel_rfl) (by kernel_rfl) (fun _ _ _ h => h) (Or.inl ⟨by rfl, ?_⟩) hH ?_
        · intro w5 hSw; obtain ⟨s0, s1⟩ := hSw; go_simp
        simp only [List.setIfInBounds_toArray, List.set_cons_zero, List.set_cons_succ]
        refine take_at (i := 5) (v := .pointer (some ⟨RA.yg, k, none⟩)) rfl rfl (by kernel_rfl) (by kernel_rfl) (by kernel_rfl) (fun _ _ _ h => h) (Or.inl ⟨by rfl, ?_⟩) hH ?_
        · intro w5 hSw; obtain ⟨s0, s1⟩ := hSw; go_simp
        simp only [List.setIfInBounds_toArray, List.set_cons_zero, List.set_cons_succ]
        refine take_at (i := 6) (v := .slice (some ⟨RA.yb k, 0, none⟩) N (RA.yk k)) rfl rfl (by kernel_rfl) (by kernel_rfl) (by kernel_rfl) (fun _ _ _ h => h) (Or.inl ⟨by rfl, ?_⟩) hH ?_
        · intro w5 hSw; obtain ⟨s0, s1⟩ := hSw; go_simp
        simp only [List.setIfInBounds_toArray, List.set_cons_zero, List.set_cons_succ]
        refine take_at (i := 7) (v := .int .i64 (i : Int)) rfl rfl (by kernel_rfl) (by kernel_rfl) (by kernel_rfl) (fun _ _ _ h => h) (Or.inl ⟨by rfl, ?_⟩) hH ?_
        · intro w5 hSw; obtain ⟨s0, s1⟩ := hSw; go_simp
        simp only [List.setIfInBounds_toArray, List.set_cons_zero, List.set_cons_succ]
        refine take_at (i := 8) (v := .pointer (some ⟨d, 0, none⟩)) rfl rfl (by kernel_rfl) (by kernel_rfl) (by kernel_rfl) (fun _ _ _ h => h) (Or.inl ⟨by rfl, ?_⟩) hH ?_
        · intro w5 hSw; obtain ⟨s0, s1⟩ := hSw; go_simp
        simp only [List.setIfInBounds_toArray, List.set_cons_zero, List.set_cons_succ]
        refine take_at (i := 9) (v := .pointer (some ⟨d, 0, none⟩)) rfl rfl (by kernel_rfl) (by kernel_rfl) (by kernel_rfl) (fun _ _ _ h => h) (Or.inl ⟨by rfl, ?_⟩) hH ?_
        · intro w5 hSw; obtain ⟨s0, s1⟩ := hSw; go_simp
        simp only [List.setIfInBounds_toArray, List.set_cons_zero, List.set_cons_succ]
        refine take_at (i := 10) (v := .pointer (some ⟨d, 1, none⟩)) rfl rfl (by kernel_rfl) (by kernel_rfl) (by kernel_rfl) (fun _ _ _ h => h) (Or.inl ⟨by rfl, ?_⟩) hH ?_
        · intro w5 hSw; obtain ⟨s0, s1⟩ := hSw; go_simp
        simp only [List.setIfInBounds_toArray, List.set_cons_zero, List.set_cons_succ]
        refine take_at (i := 11) (v := .slice (some ⟨RA.yg, 0, none⟩) N RA.yc) rfl rfl (by kernel_rfl) (by kernel_rfl) (by kernel_rfl) (fun _ _ _ h => h) (Or.inl ⟨by rfl, ?_⟩) hH ?_
        · intro w5 hSw; obtain ⟨s0, s1⟩ := hSw; go_simp
        simp only [List.setIfInBounds_toArray, List.set_cons_zero, List.set_cons_succ]
        refine take_at (i := 12) (v := .int .i64 (k : Int)) rfl rfl (by kernel_rfl) (by kernel_rfl) (by kernel_rfl) (fun _ _ _ h => h) (Or.inl ⟨by rfl, ?_⟩) hH ?_
        · intro w5 hSw; obtain ⟨s0, s1⟩ := hSw; go_simp
        simp only [List.setIfInBounds_toArray, List.set_cons_zero, List.set_cons_succ]
        refine take_at (i := 13) (v := .pointer (some ⟨RA.yg, k, none⟩)) rfl rfl (by kernel_rfl) (by kernel_rfl) (by kernel_rfl) (fun _ _ _ h => h) (Or.inl ⟨by rfl, ?_⟩) hH ?_
        · intro w5 hSw; obtain ⟨s0, s1⟩ := hSw; go_simp
        simp only [List.setIfInBounds_toArray, List.set_cons_zero, List.set_cons_succ]
        refine take_at (i := 14) (v := .slice (some ⟨RA.yb k, 0, none⟩) N (RA.yk k)) rfl rfl (by kernel_rfl) (by kernel_rfl) (by kernel_rfl) (fun _ _ _ h => h) (Or.inl ⟨by rfl, ?_⟩) hH ?_
        · intro w5 hSw; obtain ⟨s0, s1⟩ := hSw; go_simp
        simp only [List.setIfInBounds_toArray, List.set_cons_zero, List.set_cons_succ]
        refine take_at (i := 15) (v := .int .i64 (i : Int)) rfl rfl (by kernel_rfl) (by kernel_rfl) (by kernel_rfl) (fun _ _ _ h => h) (Or.inl ⟨by rfl, ?_⟩) hH ?_
        · intro w5 hSw; obtain ⟨s0, s1⟩ := hSw; go_simp
        simp only [List.setIfInBounds_toArray, List.set_cons_zero, List.set_cons_succ]
        refine take_at (i := 16) (v := .pointer (some ⟨(RA.yb k), i * 4, none⟩)) rfl rfl (by kernel_rfl) (by kernel_rfl) (by kernel_rfl) (fun _ _ _ h => h) (Or.inl ⟨by rfl, ?_⟩) hH ?_
        · intro w5 hSw; obtain ⟨s0, s1⟩ := hSw; go_simp
        simp only [List.setIfInBounds_toArray, List.set_cons_zero, List.set_cons_succ]
        refine take_at (i := 17) (v := .pointer (some ⟨(RA.yb k), i * 4, none⟩)) rfl rfl (by kernel_rfl) (by kernel_rfl) (by kernel_rfl) (fun _ _ _ h => h) (Or.inl ⟨by rfl, ?_⟩) hH ?_
        · intro w5 hSw; obtain ⟨s0, s1⟩ := hSw; go_simp
        simp only [List.setIfInBounds_toArray, List.set_cons_zero, List.set_cons_succ]
        refine wpAnyH_ready (rs := [18]) (by kernel_rfl) (by simp) ?_
        refine AllReadyH.cons rfl (fun K hK => ?_) AllReadyH.nil
        go_simp
        refine hK.out _ _ K0.out (fun hH => ?_)
        clear hK K
        refine take_at (i := 19) (v := .int .u64 ((V : Int) + 1 + 1)) rfl rfl (by kernel_rfl) (by kernel_rfl) (by kernel_rfl) (fun _ _ _ h => h) (Or.inl ⟨by rfl, ?_⟩) hH ?_
        · intro w5 hSw; obtain ⟨s0, s1⟩ := hSw; go_simp
        simp only [List.setIfInBounds_toArray, List.set_cons_zero, List.set_cons_succ]
        refine take_at (i := 20) (v := .agg #[.int .u64 ((V : Int) + 1 + 1), .slice none 0 0, .int .i64 0, .int .i64 0]) rfl rfl (by kernel_rfl) (by kernel_rfl) (by kernel_rfl) (fun _ _ _ h => h) (Or.inl ⟨by rfl, ?_⟩) hH ?_
        · intro w5 hSw; obtain ⟨s0, s1⟩ := hSw; go_simp
        simp only [List.setIfInBounds_toArray, List.set_cons_zero, List.set_cons_succ]
        refine take_at (i := 21) (v := .pointer (some ⟨(RA.yb k), i * 4, none⟩)) rfl rfl (by kernel_rfl) (by kernel_rfl) (by kernel_rfl) (fun _ _ _ h => h) (Or.inl ⟨by rfl, ?_⟩) hH ?_
        · intro w5 hSw; obtain ⟨s0, s1⟩ := hSw; go_simp
        simp only [List.setIfInBounds_toArray, List.set_cons_zero, List.set_cons_succ]
        refine wpAnyH_ready (rs := [22]) (by kernel_rfl) (by simp) ?_
        refine AllReadyH.cons rfl (fun K hK => ?_) AllReadyH.nil
        go_simp
        refine hK.out _ _ K1.out (fun hH => ?_)
        clear hK K
        refine wpAnyH_done (by kernel_rfl) ?_ _
        refine NoPanic.normal ?_
        clear K0 K1 z0 z1 z2 z3 z4 f0 f1 f2 f3 g0 g1 iw hH hdlt
        generalize ((((wA.setCell ⟨RA.yb k, i * 4, none⟩ (.int .u64 ((V : Int) + 1 + 1))).setCell ⟨RA.yb k, i * 4 + 1, none⟩ (.slice none 0 0)).setCell ⟨RA.yb k, i * 4 + 2, none⟩ (.int .i64 0)).setCell ⟨RA.yb k, i * 4 + 3, none⟩ (.int .i64 0)).drew = wB at HH ⊢
        go_wp2_with fail
        go_roundw
        case rel =>
          refine ⟨k + 1, { RA with sv := upd2 RA.sv k i (.slice none 0 0) }, by go_num, hlt, ?_⟩
          have e1 := HH.out
          have e2 : upTK T i (k + 1) = upd2 (upd2 (upTK T i k) i k []) k i [] := by rw [upTK, if_neg hki]
          have e3 : anewK { S with dn := upd S.dn i false } i (k + 1) = anewS (anewS (anewK { S with dn := upd S.dn i false } i k) i k) k i := by rw [anewK_s, if_neg hki]
          rw [e2, e3]
          exact e1
        case measure => simp [intOf]; omega
    · obtain rfl : k = N := by omega
      have hlti : ¬ (k : Int) < (k : Int) := by omega
      obtain ⟨c0, _⟩ := RN.out.1.cs
      rw [show St.N (anewK { S with dn := upd S.dn i false } i k) = k by rw [HNS.out]; exact (anewK_same _ i _).1] at c0
      have U : Hid (RU Q w d (upS S i) (upT' T i) wr) := by
        obtain ⟨e1, e2⟩ := RN.out
        have e3 : upS S i = anewK { S with dn := upd S.dn i false } i k := by unfold upS; rw [HNS.out]
        have eN : St.N (anewK { S with dn := upd S.dn i false } i k) = k := by rw [HNS.out]; exact (anewK_same _ i _).1
        rw [e3]
        refine RL.upQ HP.out e2 (e1.sent (fun a b ha hb => ?_))
        rw [eN] at ha hb
        rw [upTK_at]
        unfold upT'
        have := HI.out
        have := HNS.out
        by_cases e : a = i ∨ b = i
        · rw [if_pos e, if_pos (by omega)]
        · rw [if_neg e, if_neg (by omega)]
      clear RN
      go_wp2_with fail
      go_ret
      exact ⟨rfl, U.out⟩
theorem rUp_any (h : RL Q w d S T R) (k : Int) (hb : ∀ a b, (S.wy a b).b ≤ 1000000000) : Calls Try.prog 41 #[.pointer (some ⟨d, 0, none⟩), .int .i64 k] w (REQ Q w d (upT S k) (upTT S T k) (upK S k)) := by
  by_cases hk : 0 ≤ k ∧ k < S.N
  · obtain ⟨i, rfl⟩ : ∃ i : Nat, k = (i : Int) := ⟨k.toNat, by omega⟩
    have hi : i < S.N := by omega
    cases hd : S.dn i with
    | true =>
      have e1 : upK S (i : Int) = 0 := by unfold upK; rw [if_pos hk, Int.toNat_natCast, hd]; rfl
      have e2 : upT S (i : Int) = upS S i := by unfold upT; rw [if_pos hk, Int.toNat_natCast, hd]; rfl
      have e3 : upTT S T (i : Int) = upT' T i := by unfold upTT; rw [e1, if_pos rfl, Int.toNat_natCast]
      rw [e1, e2, e3]; exact rUp_goes h hi hd hb
    | false =>
      have e1 : upK S (i : Int) = 1 := by unfold upK; rw [if_pos hk, Int.toNat_natCast, hd]; rfl
      have e2 : upT S (i : Int) = S := by unfold upT; rw [if_pos hk, Int.toNat_natCast, hd]; rfl
      have e3 : upTT S T (i : Int) = T := by unfold upTT; rw [e1]; rfl
      rw [e1, e2, e3]; exact rUp_is h hi hd
  · have e1 : upK S k = 60 := by unfold upK; rw [if_neg hk]
    have e2 : upT S k = S := by unfold upT; rw [if_neg hk]
    have e3 : upTT S T k = T := by unfold upTT; rw [e1]; rfl
    rw [e1, e2, e3]; exact rUp_no h k hk
end Go.Proofs.Ytbdlamlplfogjaa
