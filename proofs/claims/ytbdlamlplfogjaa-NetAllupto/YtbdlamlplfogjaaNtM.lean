/-
  Walks: a packet that is lost, or doubled; a way that begins anew; a node that comes again.
-/
import Derived.Test.YtbdlamlplfogjaaNtI
import Derived.Test.YtbdlamlplfogjaaNtL
namespace Go.Proofs.Ytbdlamlplfogjaa
open Go.RowKit Go.Maps Go.Joins
variable {P : Nat → Prop} {w w' : World} {n c : Nat} {S : St} {L : Ly}

/-- whether there is a packet at a place -/
def fliesS (S : St) (k : Int) : Bool := decide (0 ≤ k ∧ k < S.fl.length)
/-- the net without a packet -/
def loseS (S : St) (k : Int) : St := if fliesS S k then { S with fl := S.fl.eraseIdx k.toNat } else S
theorem UpN.grow {w2 : World} (h : UpN P w n c S w') (hg : w'.grownBy w2 none) : UpN P w n c S w2 := by
  obtain ⟨L, h1, h2⟩ := h
  refine ⟨L, (h1.kept hg).more (fun i hi => ?_) (fun i hi => ?_), h2.trans (Chg.of_none hg _)⟩
  · rcases hi with hi | hi
    · exact Or.inl hi
    · exact Or.inr ⟨hi.1, Nat.lt_of_lt_of_le hi.2 hg.size⟩
  · rcases hi with hi | hi
    · have := h1.pb i (ext_le hi); exact Nat.lt_of_lt_of_le this hg.size
    · exact hi.2
theorem Wm.le {m c c2 N : Nat} {F : Nat → Nat → Value} (h : Wm w m c N F) (hc : c ≤ c2) : Wm w m c2 N F := by
  obtain ⟨n, D, h1, h2, h3⟩ := h
  exact ⟨n, D, h1, by omega, h3⟩
theorem NetL.le {c2 : Nat} (h : NetL P w n c S L) (hc : c ≤ c2) : NetL P w n c2 S L :=
  ⟨h.pb, h.pn, h.pnb, h.pm, h.n1, h.n64, h.net, h.nds, h.wts, h.wtP, h.wtD, h.map.le hc, h.uns, h.unP, h.unD, h.fly, h.flP⟩
theorem UpN.le {c2 : Nat} (h : UpN P w n c S w') (hc : c ≤ c2) : UpN P w n c2 S w' := by
  obtain ⟨L, h1, h2⟩ := h
  exact ⟨L, h1.le hc, h2⟩
theorem UpN.trans {w2 : World} {c2 : Nat} {S2 : St} (h : Chg P w w') (h2 : UpN (ext P w w') w' n c2 S2 w2) : UpN P w n c2 S2 w2 := by
  obtain ⟨L, h3, h4⟩ := h2
  rw [ext_ext h.size h4.size] at h3
  exact ⟨L, h3, h.xtrans h4 (fun i hi => hi)⟩
/-- the error of a place -/
def flE (S : St) (k : Int) : Int := if fliesS S k then 0 else 61
/-- an error, and the net behind it -/
def ErQ (P : Nat → Prop) (w : World) (n c : Nat) (S : St) (err : Int) (r : Ending) (w' : World) : Prop := r = .returned (.int .i64 err) ∧ UpN P w n c S w'
set_option maxHeartbeats 1000000 in
set_option maxRecDepth 100000 in
theorem Lose_any (h : NetL P w n c S L) (k : Int) : Calls Try.prog 34 #[.pointer (some ⟨n, 0, none⟩), .int .i64 k] w (ErQ P w n c (loseS S k) (flE S k)) := by
  have TK := mkHid (take_any h k)
  have H := mkHid h
  clear h
  go_enter Try.func34, Try.ntmps34
  go_wp2_with fail
  refine TK.out.mono ?_
  rintro e w1 (⟨i, p, rfl, hp, rfl, hu⟩ | ⟨hk, ⟨v, rfl, p, rfl⟩, hg⟩)
  · have hi := (List.getElem?_eq_some_iff.1 hp).1
    have e1 : fliesS S (i : Int) = true := decide_eq_true ⟨by omega, by omega⟩
    have e2 : loseS S (i : Int) = { S with fl := S.fl.eraseIdx i } := by unfold loseS; rw [if_pos e1]; rfl
    have FN := mkHid hu.up
    have E1 : Hid (flE S (i : Int) = 0) := by unfold flE; rw [e1]; rfl
    have E2 := mkHid e2
    unfold pkV
    clear hu e1 e2
    go_wp2_with fail
    go_ret
    rw [E1.out, E2.out]
    exact ⟨rfl, FN.out.grow (World.grownBy_alloc _ _ none)⟩
  · have e1 : fliesS S k = false := decide_eq_false hk
    have e2 : loseS S k = S := by unfold loseS; rw [if_neg (by rw [e1]; simp)]
    have FN := mkHid (H.out.upn hg)
    have E1 : Hid (flE S k = 61) := by unfold flE; rw [e1]; rfl
    have E2 := mkHid e2
    unfold pkV
    clear hg e1 e2
    go_wp2_with fail
    go_ret
    rw [E1.out, E2.out]
    exact ⟨rfl, FN.out.grow (World.grownBy_alloc _ _ none)⟩
/-- the net with a packet twice -/
def twiceS (S : St) (k : Int) : St := if fliesS S k then flyS S (S.fl.getD k.toNat pk0) else S
set_option maxHeartbeats 1000000 in
set_option maxRecDepth 100000 in
theorem Twice_any (h : NetL P w n c S L) (k : Int) : Calls Try.prog 36 #[.pointer (some ⟨n, 0, none⟩), .int .i64 k] w (ErQ P w n c (twiceS S k) (flE S k)) := by
  have FL := mkHid (flies_any h k)
  cases e1 : fliesS S k with
  | false =>
    have e2 : twiceS S k = S := by unfold twiceS; rw [if_neg (by rw [e1]; simp)]
    rw [show decide (0 ≤ k ∧ k < S.fl.length) = false from e1] at FL
    have E1 : Hid (flE S k = 61) := by unfold flE; rw [e1]; rfl
    rw [e2, E1.out]
    have FN := mkHid (h.upn (grown_refl w))
    clear h e1 e2
    go_enter Try.func36, Try.ntmps36
    go_wp2_with fail
    refine FL.out.mono ?_
    rintro e w1 ⟨rfl, hwx⟩; have hwx2 := hwx.symm; subst hwx2; clear hwx
    go_wp2_with fail
    go_ret
    exact ⟨rfl, FN.out⟩
  | true =>
    have hk := of_decide_eq_true e1
    obtain ⟨i, rfl⟩ : ∃ i : Nat, k = (i : Int) := ⟨k.toNat, by omega⟩
    have hi : i < S.fl.length := by omega
    have hi2 : (i : Int) < (S.fl.length : Int) := by omega
    obtain ⟨p, hp⟩ : ∃ p, S.fl[i]? = some p := ⟨_, List.getElem?_eq_getElem hi⟩
    have e2 : twiceS S (i : Int) = flyS S p := by
      unfold twiceS; rw [if_pos e1]
      show flyS S (S.fl.getD i pk0) = _
      rw [List.getD_eq_getElem?_getD, hp]; rfl
    have E1 : Hid (flE S (i : Int) = 0) := by unfold flE; rw [e1]; rfl
    rw [e2, E1.out]
    rw [show decide (0 ≤ (i : Int) ∧ (i : Int) < S.fl.length) = true from e1] at FL
    have FY := mkHid (fly_any h p)
    obtain ⟨g, off, cap, hfv, hg, _, q0, q1, q2, q3, q4, q5⟩ := h.fly.pk hp
    obtain ⟨_, _, c2, _⟩ := h.cs
    rw [hfv] at c2
    unfold pkV at FY
    clear h e1 e2 hk hfv hp
    go_enter Try.func36, Try.ntmps36
    go_wp2_with fail
    refine FL.out.mono ?_
    rintro e w1 ⟨rfl, hwx⟩; have hwx2 := hwx.symm; subst hwx2; clear hwx
    go_wp2_with fail
    refine FY.out.mono ?_
    rintro e w2 ⟨rfl, hu⟩
    have FN := mkHid hu.up
    clear hu
    go_wp2_with fail
    go_ret
    exact ⟨rfl, FN.out⟩
theorem fieldW (a b c : Int) (v : Value) (w : World) : (Instr.field 84 (.agg #[.int .u64 a, .int .u64 b, v, .int .u64 c]) 0).run Try.prog w = .ok (.int .u64 a) w := by kernel_rfl
theorem fieldE (a b : Int) (w : World) : (Instr.field 76 (.agg #[.int .i64 a, .int .i64 b]) 1).run Try.prog w = .ok (.int .i64 b) w := by kernel_rfl
/-- a way that begins anew -/
def anewS (S : St) (i j : Nat) : St := { S with wy := upd2 S.wy i j ⟨(S.wy i j).b + 1, 0, 0, []⟩ }
set_option maxHeartbeats 1000000 in
set_option maxRecDepth 100000 in
theorem beginAnew_any (h : NetL P w n c S L) (i j : Nat) (hi : i < S.N) (hj : j < S.N) (hb : (S.wy i j).b < 1000000000000) (hc : c ≤ 1000000000) : Calls Try.prog 52 #[.pointer (some ⟨n, 0, none⟩), ky i j] w fun e w' => e = .returned (.tuple #[]) ∧ UpN P w n (c + 1) (anewS S i j) w' := by
  have h64 := h.n64
  have gb := grown_drew (grown_al (grown_refl w) (.cells #[.int .i64 i, .int .i64 j] 76))
  have hk := h.kept gb
  have lk := hk.map.look (i := i) (j := j) (by omega) (by omega)
  obtain ⟨w2, up, m2, g2⟩ := hk.map.put (i := i) (j := j) hi hj (wyV ⟨(S.wy i j).b + 1, 0, 0, []⟩ (.slice none 0 0)) hc
  have FN : Hid (UpN P w n (c + 1) (anewS S i j) w2) := by
    have cc : Chg (fun k => k = L.m ∨ (L.uv i j).ownBlock = some k) w w2 := (Chg.of_none gb _).trans ((Chg.of_grown g2).mono (fun k _ e => Or.inl (by cases e; rfl)))
    exact ⟨_, h.way cc hi hj (fun k hk => hk) (x := ⟨(S.wy i j).b + 1, 0, 0, []⟩) (v := .slice none 0 0) m2 (shr_nil _ _ _) (fun g hg => by simp [Value.ownBlock] at hg)⟩
  obtain ⟨c0, c1, c2, _⟩ := h.cs
  have hn := lt_of_heap h.net
  unfold ky wyV at lk up
  unfold ky
  simp only [show (((S.wy i j).b + 1 : Nat) : Int) = ((S.wy i j).b : Int) + 1 from rfl, show ((0 : Nat) : Int) = 0 from rfl] at up
  have fw := fun a b c v => fieldW a b c v ((w.alloc (Obj.cells #[Value.int IntKind.i64 ↑i, Value.int IntKind.i64 ↑j] 76)).drew)
  clear h gb hk m2 g2
  go_enter Try.func52, Try.ntmps52
  go_wp2_with fail
  go_region
  all_goals
    go_wp2_with fail
    go_end0
    exact ⟨rfl, FN.out⟩
/-- all ways of a node begin anew, those of the first k others -/
def anewK (S : St) (i : Nat) : Nat → St
  | 0 => S
  | k + 1 => if k = i then anewS (anewK S i k) i k else anewS (anewS (anewK S i k) i k) k i
theorem anewS_N (S : St) (i j : Nat) : (anewS S i j).N = S.N := rfl
theorem anewK_N (S : St) (i : Nat) : ∀ k, (anewK S i k).N = S.N
  | 0 => rfl
  | k + 1 => by
    unfold anewK
    split
    · exact anewK_N S i k
    · exact anewK_N S i k
theorem anewS_b {S : St} {i j B : Nat} (h : ∀ a b, (S.wy a b).b ≤ B) : ∀ a b, ((anewS S i j).wy a b).b ≤ B + 1 := by
  intro a b
  show (upd2 S.wy i j _ a b).b ≤ _
  by_cases e : a = i ∧ b = j
  · rw [e.1, e.2, upd2_same]; have := h i j; show _ + 1 ≤ _; omega
  · rw [upd2_other _ _ e]; have := h a b; omega
theorem anewK_b {S : St} {i B : Nat} (h : ∀ a b, (S.wy a b).b ≤ B) : ∀ k a b, ((anewK S i k).wy a b).b ≤ B + 2 * k
  | 0, a, b => h a b
  | k + 1, a, b => by
    unfold anewK
    split
    · have := anewS_b (anewK_b (i := i) h k) (i := i) (j := k) a b; omega
    · have := anewS_b (anewS_b (anewK_b (i := i) h k) (i := i) (j := k)) (i := k) (j := i) a b; omega
/-- a node that comes again -/
def upS (S : St) (i : Nat) : St := anewK { S with dn := upd S.dn i false } i S.N
def upK (S : St) (k : Int) : Int := if 0 ≤ k ∧ k < S.N then (if S.dn k.toNat then 0 else 1) else 60
def upT (S : St) (k : Int) : St := if 0 ≤ k ∧ k < S.N then (if S.dn k.toNat then upS S k.toNat else S) else S
set_option maxHeartbeats 1000000 in
set_option maxRecDepth 100000 in
theorem Up_no (h : NetL P w n c S L) (k : Int) (hk : ¬ (0 ≤ k ∧ k < S.N)) : Calls Try.prog 18 #[.pointer (some ⟨n, 0, none⟩), .int .i64 k] w (ErQ P w n (c + 128) (upT S k) (upK S k)) := by
  have HS := mkHid (has_any h k)
  rw [decide_eq_false hk] at HS
  rw [show upT S k = S from if_neg hk, show upK S k = 60 from if_neg hk]
  have FN := mkHid (h.upn (grown_refl w))
  clear h
  go_enter Try.func18, Try.ntmps18
  go_wp2_with fail
  refine HS.out.mono ?_
  rintro e w1 ⟨rfl, hwx⟩; have hwx2 := hwx.symm; subst hwx2; clear hwx
  go_wp2_with fail
  go_ret
  exact ⟨rfl, FN.out.le (by omega)⟩
set_option maxHeartbeats 1000000 in
set_option maxRecDepth 100000 in
theorem Up_is (h : NetL P w n c S L) (i : Nat) (hi : i < S.N) (hd : S.dn i = false) : Calls Try.prog 18 #[.pointer (some ⟨n, 0, none⟩), .int .i64 i] w (ErQ P w n (c + 128) (upT S i) (upK S i)) := by
  have hk : 0 ≤ (i : Int) ∧ (i : Int) < S.N := by omega
  have HS := mkHid (has_any h i)
  rw [decide_eq_true hk] at HS
  rw [show upT S (i : Int) = S from (if_pos hk).trans (if_neg (by rw [show ((i : Int)).toNat = i from rfl, hd]; simp)), show upK S (i : Int) = 1 from (if_pos hk).trans (if_neg (by rw [show ((i : Int)).toNat = i from rfl, hd]; simp))]
  have FN := mkHid (h.upn (grown_refl w))
  obtain ⟨c0, _⟩ := h.cs
  obtain ⟨d0, d1, df⟩ := h.cn hi
  rw [hd] at d0
  have hi2 : (i : Int) < (S.N : Int) := by omega
  clear h hk
  go_enter Try.func18, Try.ntmps18
  go_wp2_with fail
  refine HS.out.mono ?_
  rintro e w1 ⟨rfl, hwx⟩; have hwx2 := hwx.symm; subst hwx2; clear hwx
  go_wp2_with fail
  go_ret
  exact ⟨rfl, FN.out.le (by omega)⟩
end Go.Proofs.Ytbdlamlplfogjaa
