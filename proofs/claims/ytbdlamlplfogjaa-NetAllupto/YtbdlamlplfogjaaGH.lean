/-
  In the end: what was sent comes (plain math).
-/
import Derived.Test.YtbdlamlplfogjaaGA
import Derived.Test.YtbdlamlplfogjaaGC
namespace Go.Proofs.Ytbdlamlplfogjaa
variable {S : St} {T : Nat → Nat → List ByteArray} {G O : Nat → Nat → Nat}

/-- how often there is something to deliver, at most -/
def wgt : List Pk → Nat
  | [] => 0
  | p :: l => (if p.ack = true then 1 else 2) + wgt l
theorem wgt_app (a b : List Pk) : wgt (a ++ b) = wgt a + wgt b := by
  induction a with
  | nil => simp [wgt]
  | cons p a ih => simp only [List.cons_append, wgt, ih]; omega
theorem wgt_le (l : List Pk) : wgt l ≤ 2 * l.length := by
  induction l with
  | nil => simp [wgt]
  | cons p l ih => simp only [wgt, List.length_cons]; split <;> omega
theorem wgt_pos {p : Pk} {l : List Pk} : wgt l < wgt (p :: l) := by simp only [wgt]; split <;> omega
/-- a message of a way by its number -/
def mg (a b e : Nat) (l : List ByteArray) (k : Nat) : Pk := ⟨a, b, false, k + 1, e, l.getD k ⟨#[]⟩⟩
/-- so many from one on -/
def mgs (a b e : Nat) (l : List ByteArray) (k : Nat) : Nat → List Pk
  | 0 => []
  | n + 1 => mg a b e l k :: mgs a b e l (k + 1) n
theorem mgs_app (a b e : Nat) (l : List ByteArray) : ∀ n k, mgs a b e l k (n + 1) = mgs a b e l k n ++ [mg a b e l (k + n)]
  | 0, k => rfl
  | n + 1, k => by
    show mg a b e l k :: mgs a b e l (k + 1) (n + 1) = (mg a b e l k :: mgs a b e l (k + 1) n) ++ _
    rw [mgs_app a b e l n (k + 1), List.cons_append, show k + 1 + n = k + (n + 1) by omega]
/-- what is still to come of a way -/
def Pend (S : St) (T : Nat → Nat → List ByteArray) (a b : Nat) : Prop :=
  (S.wy a b).t = (T a b).length ∨ (⟨a, b, true, (T a b).length, (S.wy a b).b + 1, ⟨#[]⟩⟩ : Pk) ∈ S.fl ∨
  ∃ k n, k + (n + 1) = (T a b).length ∧ k ≤ (S.wy a b).c ∧ List.Sublist (mgs a b ((S.wy a b).b + 1) (T a b) k (n + 1)) S.fl
theorem Pend.fin {a b : Nat} (h : Pend S T a b) (hI : Inv S T G O) (ha : a < S.N) (hb : b < S.N) (hf : S.fl = []) : (S.wy a b).us = [] := by
  rw [hI.us a b ha hb]
  rcases h with h | h | ⟨k, n, _, _, h⟩
  · rw [h]; exact List.drop_length
  · rw [hf] at h; simp at h
  · rw [hf] at h
    have := h.length_le
    simp [mgs] at this
/-- a message comes: what it leaves -/
theorem come_msg {p : Pk} (hr : S.fl.length < 4096) (he : p.e = (S.wy p.f p.t).b + 1) (hd : S.dn (pkTo p) = false) (ha : p.ack = false) :
    (comeS S p).fl = S.fl ++ [ackP p ((comeS S p).wy p.f p.t).c] ∧ (∀ i j, ((comeS S p).wy i j).t = (S.wy i j).t ∧ ((comeS S p).wy i j).b = (S.wy i j).b ∧ (S.wy i j).c ≤ ((comeS S p).wy i j).c) ∧ ((comeS S p).wy p.f p.t).c = (if p.s = (S.wy p.f p.t).c + 1 then (S.wy p.f p.t).c + 1 else (S.wy p.f p.t).c) := by
  unfold comeS
  rw [if_pos ⟨he, hd⟩, if_neg (by rw [ha]; simp)]
  by_cases hs : p.s = (S.wy p.f p.t).c + 1
  · rw [if_pos hs, if_pos hs]
    have e : flyS (nextS S p) (ackP p ((S.wy p.f p.t).c + 1)) = { nextS S p with fl := S.fl ++ [ackP p ((S.wy p.f p.t).c + 1)] } := if_pos hr
    rw [e]
    have ew : ((nextS S p).wy p.f p.t).c = (S.wy p.f p.t).c + 1 := by
      show (upd2 S.wy p.f p.t _ p.f p.t).c = _
      rw [upd2_same]
    refine ⟨by show _ = S.fl ++ [ackP p ((nextS S p).wy p.f p.t).c]; rw [ew], fun i j => ?_, ew⟩
    show (upd2 S.wy p.f p.t _ i j).t = _ ∧ (upd2 S.wy p.f p.t _ i j).b = _ ∧ _ ≤ (upd2 S.wy p.f p.t _ i j).c
    by_cases e : i = p.f ∧ j = p.t
    · rw [e.1, e.2, upd2_same]; exact ⟨rfl, rfl, Nat.le_succ _⟩
    · rw [upd2_other _ _ e]; exact ⟨rfl, rfl, Nat.le_refl _⟩
  · rw [if_neg hs, if_neg hs]
    have e : flyS S (ackP p (S.wy p.f p.t).c) = { S with fl := S.fl ++ [ackP p (S.wy p.f p.t).c] } := if_pos hr
    rw [e]
    exact ⟨rfl, fun i j => ⟨rfl, rfl, Nat.le_refl _⟩, rfl⟩
theorem flyS_dn (S : St) (p : Pk) : (flyS S p).dn = S.dn := by unfold flyS; split <;> rfl
theorem comeS_dn (S : St) (p : Pk) : (comeS S p).dn = S.dn := by
  unfold comeS
  split
  · split
    · rfl
    · split
      · rw [flyS_dn]; rfl
      · rw [flyS_dn]
  · rfl
theorem comeS_N (S : St) (p : Pk) : (comeS S p).N = S.N := by
  unfold comeS
  split
  · split
    · rfl
    · split
      · rw [flyS_N]; rfl
      · rw [flyS_N]
  · rfl
/-- the first packet in the air is delivered -/
theorem Pend.step {a b : Nat} (h : Pend S T a b) (hI : Inv S T G O) (ha : a < S.N) (hb : b < S.N) (da : S.dn a = false) (db : S.dn b = false) {p : Pk} {rest : List Pk} (hf : S.fl = p :: rest) (hr : rest.length < 4096) :
    Pend (comeS { S with fl := rest } p) T a b ∧ wgt (comeS { S with fl := rest } p).fl < wgt S.fl := by
  obtain ⟨S0, hS0⟩ : ∃ S0 : St, S0 = { S with fl := rest } := ⟨_, rfl⟩
  rw [← hS0]
  have ew : S0.wy = S.wy := by rw [hS0]
  have ef : S0.fl = rest := by rw [hS0]
  have ed : S0.dn = S.dn := by rw [hS0]
  have hu := hI.us a b ha hb
  have tc := hI.tc a b ha hb
  have hul : (S.wy a b).us.length = (T a b).length - (S.wy a b).t := by rw [hu, List.length_drop]
  unfold Pend at h
  rw [hf] at h
  by_cases hh : p.e = (S.wy p.f p.t).b + 1 ∧ S.dn (pkTo p) = false
  · obtain ⟨he, hd⟩ := hh
    cases hak : p.ack with
    | true =>
      have e1 : comeS S0 p = { S0 with wy := upd2 S0.wy p.f p.t (tellW (S0.wy p.f p.t) p.s) } := by
        unfold comeS
        rw [if_pos (by rw [ew, ed]; exact ⟨he, hd⟩), if_pos hak]
      rw [e1]
      refine ⟨?_, by show wgt S0.fl < _; rw [ef, hf]; exact wgt_pos⟩
      have x1 : (upd2 S0.wy p.f p.t (tellW (S0.wy p.f p.t) p.s) a b).b = (S.wy a b).b ∧ (upd2 S0.wy p.f p.t (tellW (S0.wy p.f p.t) p.s) a b).c = (S.wy a b).c ∧ ((S.wy a b).t = (T a b).length → (upd2 S0.wy p.f p.t (tellW (S0.wy p.f p.t) p.s) a b).t = (T a b).length) ∧ (p.f = a → p.t = b → p.s = (T a b).length → (upd2 S0.wy p.f p.t (tellW (S0.wy p.f p.t) p.s) a b).t = (T a b).length) := by
        rw [ew]
        by_cases e : a = p.f ∧ b = p.t
        · obtain ⟨rfl, rfl⟩ := e
          rw [upd2_same]
          unfold tellW
          split
          · rename_i hk
            refine ⟨rfl, rfl, fun h0 => ?_, fun _ _ h0 => h0⟩
            omega
          · rename_i hk
            refine ⟨rfl, rfl, fun h0 => h0, fun _ _ h0 => ?_⟩
            omega
        · rw [upd2_other _ _ e]
          exact ⟨rfl, rfl, fun h0 => h0, fun e1 e2 => absurd ⟨e1.symm, e2.symm⟩ e⟩
      obtain ⟨x1, x2, x3, x4⟩ := x1
      show (upd2 S0.wy p.f p.t (tellW (S0.wy p.f p.t) p.s) a b).t = _ ∨ (⟨a, b, true, (T a b).length, (upd2 S0.wy p.f p.t (tellW (S0.wy p.f p.t) p.s) a b).b + 1, ⟨#[]⟩⟩ : Pk) ∈ S0.fl ∨ ∃ k n, _ ∧ k ≤ (upd2 S0.wy p.f p.t (tellW (S0.wy p.f p.t) p.s) a b).c ∧ List.Sublist (mgs a b ((upd2 S0.wy p.f p.t (tellW (S0.wy p.f p.t) p.s) a b).b + 1) (T a b) k (n + 1)) S0.fl
      rw [x1, x2, ef]
      rcases h with h | h | ⟨k, n, h1, h2, h3⟩
      · exact Or.inl (x3 h)
      · rcases List.mem_cons.1 h with e | e
        · exact Or.inl (x4 (by rw [← e]) (by rw [← e]) (by rw [← e]))
        · exact Or.inr (Or.inl e)
      · cases h3 with
        | cons _ h3 => exact Or.inr (Or.inr ⟨k, n, h1, h2, h3⟩)
        | cons_cons _ h3 => exact absurd hak (by simp [mg])
    | false =>
      obtain ⟨m1, m2, m3⟩ := come_msg (S := S0) (p := p) (by rw [ef]; exact hr) (by rw [ew]; exact he) (by rw [ed]; exact hd) hak
      obtain ⟨y1, y2, y3⟩ := m2 a b
      rw [ew] at y1 y2 y3 m3
      refine ⟨?_, ?_⟩
      · unfold Pend
        rw [y1, y2, m1, ef]
        rcases h with h | h | ⟨k, n, h1, h2, h3⟩
        · exact Or.inl h
        · rcases List.mem_cons.1 h with e | e
          · rw [← e] at hak; cases hak
          · exact Or.inr (Or.inl (List.mem_append_left _ e))
        · generalize hM : mgs a b ((S.wy a b).b + 1) (T a b) k (n + 1) = M at h3
          cases h3 with
          | cons _ h3 =>
            subst hM
            exact Or.inr (Or.inr ⟨k, n, h1, Nat.le_trans h2 y3, h3.trans (List.sublist_append_left _ _)⟩)
          | cons_cons _ h3 =>
            have hM : mg a b ((S.wy a b).b + 1) (T a b) k :: mgs a b ((S.wy a b).b + 1) (T a b) (k + 1) n = _ := hM
            injection hM with e1 e2
            have ea : p.f = a := by rw [← e1]; rfl
            have eb : p.t = b := by rw [← e1]; rfl
            have es : p.s = k + 1 := by rw [← e1]; rfl
            rw [ea, eb, es] at m3
            rw [ea, eb]
            have hc : k + 1 ≤ ((comeS S0 p).wy a b).c ∧ (n = 0 → ((comeS S0 p).wy a b).c = (T a b).length) := by
              rw [m3]
              split
              · rename_i e; omega
              · rename_i e; omega
            cases n with
            | zero =>
              refine Or.inr (Or.inl (List.mem_append_right _ ?_))
              rw [hc.2 rfl]
              rw [ea, eb] at he
              unfold ackP
              rw [ea, eb, he]; simp
            | succ n =>
              refine Or.inr (Or.inr ⟨k + 1, n, by omega, hc.1, ?_⟩)
              rw [e2]
              exact h3.trans (List.sublist_append_left _ _)
      · rw [m1, ef, hf, wgt_app]
        simp only [wgt, hak, ackP]; simp; omega
  · have e1 : comeS S0 p = S0 := by unfold comeS; rw [ew, ed, if_neg hh]
    rw [e1]
    refine ⟨?_, by rw [ef, hf]; exact wgt_pos⟩
    unfold Pend
    rw [ew, ef]
    rcases h with h | h | ⟨k, n, h1, h2, h3⟩
    · exact Or.inl h
    · rcases List.mem_cons.1 h with e | e
      · refine absurd ?_ hh
        rw [← e]
        exact ⟨rfl, da⟩
      · exact Or.inr (Or.inl e)
    · generalize hM : mgs a b ((S.wy a b).b + 1) (T a b) k (n + 1) = M at h3
      cases h3 with
      | cons _ h3 => subst hM; exact Or.inr (Or.inr ⟨k, n, h1, h2, h3⟩)
      | cons_cons _ h3 =>
        have hM : mg a b ((S.wy a b).b + 1) (T a b) k :: _ = _ := hM
        injection hM with e1 e2
        refine absurd ?_ hh
        rw [← e1]
        exact ⟨rfl, db⟩
/-- how many are unsure on the ways to the first k -/
def sumU (S : St) (i : Nat) : Nat → Nat
  | 0 => 0
  | k + 1 => sumU S i k + (S.wy i k).us.length
theorem tickM_fl {S2 : St} {i j : Nat} {l : List ByteArray} (hu : (S2.wy i j).us = l.drop (S2.wy i j).t) : ∀ m, S2.fl.length + m ≤ 4096 → (tickM S2 i j m).fl = S2.fl ++ mgs i j ((S2.wy i j).b + 1) l (S2.wy i j).t m
  | 0, _ => by simp [tickM, mgs]
  | m + 1, h => by
    have ih := tickM_fl hu m (by omega)
    have hl : (mgs i j ((S2.wy i j).b + 1) l (S2.wy i j).t m).length = m := by
      have : ∀ n k, (mgs i j ((S2.wy i j).b + 1) l k n).length = n := fun n => by
        induction n with
        | zero => intro k; rfl
        | succ n ih => intro k; show (mgs i j _ l (k + 1) n).length + 1 = n + 1; rw [ih]
      exact this m _
    rw [mgs_app, tickM]
    unfold flyS
    rw [if_pos (by rw [ih, List.length_append, hl]; omega)]
    show (tickM S2 i j m).fl ++ _ = _
    rw [ih, List.append_assoc]
    congr 2
    unfold mg
    have : (S2.wy i j).us.getD m ⟨#[]⟩ = l.getD ((S2.wy i j).t + m) ⟨#[]⟩ := by
      rw [hu, List.getD_eq_getElem?_getD, List.getD_eq_getElem?_getD, List.getElem?_drop]
    rw [this, show (S2.wy i j).t + 1 + m = (S2.wy i j).t + m + 1 by omega]
theorem mgs_len (a b e : Nat) (l : List ByteArray) : ∀ n k, (mgs a b e l k n).length = n
  | 0, _ => rfl
  | n + 1, k => by show (mgs a b e l (k + 1) n).length + 1 = n + 1; rw [mgs_len a b e l n]
theorem tickK_fl (hI : Inv S T G O) {i : Nat} (hi : i < S.N) : ∀ k, k ≤ S.N → S.fl.length + sumU S i k ≤ 4096 → (tickK S i k).fl.length = S.fl.length + sumU S i k ∧ ∀ j, j < k → List.Sublist (mgs i j ((S.wy i j).b + 1) (T i j) (S.wy i j).t (S.wy i j).us.length) (tickK S i k).fl
  | 0, _, _ => ⟨rfl, fun j hj => by omega⟩
  | k + 1, hk, hl => by
    have hl : S.fl.length + (sumU S i k + (S.wy i k).us.length) ≤ 4096 := hl
    obtain ⟨h1, h2⟩ := tickK_fl hI hi k (by omega) (by omega)
    have ew := tickK_wy S i k
    have hu : ((tickK S i k).wy i k).us = (T i k).drop ((tickK S i k).wy i k).t := by rw [ew]; exact hI.us i k hi (by omega)
    have e := tickM_fl (S2 := tickK S i k) (i := i) (j := k) hu ((tickK S i k).wy i k).us.length (by rw [h1, ew]; omega)
    rw [ew] at e
    have e0 : (tickK S i (k + 1)).fl = (tickK S i k).fl ++ mgs i k ((S.wy i k).b + 1) (T i k) (S.wy i k).t (S.wy i k).us.length := by
      rw [tickK, ew]; exact e
    rw [e0]
    refine ⟨by rw [List.length_append, h1, mgs_len]; show _ = S.fl.length + (sumU S i k + _); omega, fun j hj => ?_⟩
    by_cases ej : j = k
    · subst ej; exact List.sublist_append_right _ _
    · exact (h2 j (by omega)).trans (List.sublist_append_left _ _)
/-- behind a tick all is on the way -/
theorem Pend.begin (hI : Inv S T G O) {a b : Nat} (ha : a < S.N) (hb : b < S.N) (da : S.dn a = false) (hl : S.fl.length + sumU S a S.N ≤ 4096) : Pend (tickS S (a : Int)) T a b := by
  have hs : isS S (a : Int) = true := by unfold isS; rw [decide_eq_true (by omega), Int.toNat_natCast, da]; rfl
  have e1 : tickS S (a : Int) = tickK S a S.N := by unfold tickS; rw [if_pos hs, Int.toNat_natCast]
  rw [e1]
  unfold Pend
  rw [tickK_wy]
  have hu := hI.us a b ha hb
  have tc := hI.tc a b ha hb
  have h2 := (tickK_fl hI ha S.N (Nat.le_refl _) hl).2 b hb
  have hul : (S.wy a b).us.length = (T a b).length - (S.wy a b).t := by rw [hu, List.length_drop]
  by_cases e : (S.wy a b).t = (T a b).length
  · exact Or.inl e
  · refine Or.inr (Or.inr ⟨(S.wy a b).t, (T a b).length - (S.wy a b).t - 1, by omega, tc.1, ?_⟩)
    rw [hul] at h2
    rw [show (T a b).length - (S.wy a b).t - 1 + 1 = (T a b).length - (S.wy a b).t by omega]
    exact h2
end Go.Proofs.Ytbdlamlplfogjaa
namespace Go.Proofs.Ytbdlamlplfogjaa
open Go.RowKit Go.Maps Go.Joins
variable {w w' wr w5 : World} {e : TypeId} {sz k : Nat} {v : Value} {xs : List Value} {C : Nat → Prop}

/-- a row of its own in memory that is new -/
def xRow (w : World) (e : TypeId) (sz k : Nat) (v : Value) (xs : List Value) (wr : World) : Prop := wr.ownsRow 0 e sz v k xs ∧ ∀ g, v.ownBlock = some g → w.heap.size ≤ g
theorem xRow.kept (h : xRow w e sz k v xs wr) (hc : Chg C wr w5) (hn : ∀ g, v.ownBlock = some g → ¬ C g) : xRow w e sz k v xs w5 := by
  obtain ⟨⟨l1, l2⟩, ho⟩ := h
  refine ⟨⟨l1, ?_⟩, ho⟩
  rcases l2 with l2 | ⟨g, cap, cur, rfl, h1, hb, r⟩
  · exact Or.inl l2
  · exact Or.inr ⟨g, cap, cur, rfl, h1, hc.at_ hb (hn g rfl), r⟩
theorem xRow.kd (h : xRow w e sz k v xs wr) : ∀ g, v.ownBlock = some g → Go.Proofs.Ytbdlamlplfogjaa.kd wr g = e + 2 ∧ g < wr.heap.size := fun g hg => (ownsRow_shr h.1).1.kd g hg
theorem xRow_nil (w wr : World) (e : TypeId) (sz : Nat) : xRow w e sz 0 (.slice none 0 0) [] wr := ⟨⟨by simp, Or.inl ⟨rfl, rfl⟩⟩, fun g hg => by simp [Value.ownBlock] at hg⟩
theorem xRow.form (h : xRow w e sz k v xs wr) : ∃ p q, v = .slice p k q := by
  obtain ⟨p, q, e, _⟩ := (ownsRow_shr h.1).1.form
  exact ⟨p, q, e⟩
theorem xRow.open (h : xRow w e sz k v xs wr) (hk : 0 < k) : ∃ (g cap : Nat) (cur : Array Value), v = .slice (some ⟨g, 0, none⟩) k cap ∧ w.heap.size ≤ g ∧ wr.heap[g]? = some (.cells cur e (0, 0)) ∧ k ≤ cap ∧ cap ≤ maxLen ∧ cur.size = cap * sz ∧ ∀ (j : Nat) (u : Value), xs[j]? = some u → cur[j]? = some u := by
  obtain ⟨⟨l1, l2⟩, ho⟩ := h
  rcases l2 with ⟨_, l2⟩ | ⟨g, cap, cur, rfl, h1, hb, h2, h3, h4, h5⟩
  · omega
  · refine ⟨g, cap, cur, rfl, ho g rfl, hb, h2, h3, h4, fun j u hj => ?_⟩
    rw [← h5, List.getElem?_take] at hj
    split at hj
    · simpa using hj
    · cases hj
/-- an element behind it, laid ahead -/
theorem Rw.xpush {t : TypeId} {z : Value} {by' : Nat} (R : Rw t e z sz by') (gr : w.grownBy wr none) (h : xRow w e sz k v xs wr) (news : List Value) (hn : news.length = sz) (h1 : ∀ u ∈ news, u.oneCell' = true) (hk : k ≤ 1000) :
    ∃ p' c' w4, (∀ ty, (Builtin.append_ #[t, t] ty #[v, .slice (some ⟨wr.heap.size, 0, none⟩) 1 1]).run Try.prog (wr.alloc (.cells news.toArray e)) = .ok (.slice p' (k + 1) c') w4) ∧ xRow w e sz (k + 1) (.slice p' (k + 1) c') (xs ++ news) w4 ∧ w.grownBy w4 none ∧ Chg (fun b => v.ownBlock = some b) wr w4 ∧ ∀ g, (Value.slice p' (k + 1) c').ownBlock = some g → v.ownBlock = some g ∨ wr.heap.size ≤ g := by
  have ga := World.grownBy_alloc wr (.cells news.toArray e) none
  have h' := h.kept (Chg.of_none ga (fun _ => False)) (fun _ _ e => e)
  obtain ⟨v', w4, hr, s4, g4, o4⟩ := R.more (m := 1) (c := 1) (P := some ⟨wr.heap.size, 0, none⟩) (news := news) h'.1 (Or.inr ⟨_, rfl, by omega, one_of (heap_alloc_new wr _), h1⟩) (by omega)
  obtain ⟨p', c', rfl, _⟩ := (ownsRow_shr s4).1.form
  have ob : ∀ g, (Value.slice p' (k + 1) c').ownBlock = some g → v.ownBlock = some g ∨ wr.heap.size ≤ g := fun g hg => by
    rcases o4 g hg with e | e
    · exact Or.inl e
    · exact Or.inr (Nat.le_trans ga.size e)
  refine ⟨p', c', w4, hr, ⟨s4, fun g hg => ?_⟩, grown_new (grown_none_trans gr ga) g4 h.2, (Chg.of_none ga _).trans (Chg.of_grown g4), ob⟩
  rcases ob g hg with e | e
  · exact h.2 g e
  · exact Nat.le_trans gr.size e
/-- ways that nothing was sent on -/
def wayC : Nat → List Value
  | 0 => []
  | n + 1 => wayC n ++ [.int .u64 1, .slice none 0 0, .int .i64 0, .int .i64 0]
theorem wayC_len : ∀ n, (wayC n).length = n * 4
  | 0 => rfl
  | n + 1 => by rw [wayC, List.length_append, wayC_len n]; simp; omega
theorem wayC_get : ∀ n j, j < n → (wayC n)[j * 4]? = some (.int .u64 1) ∧ (wayC n)[j * 4 + 1]? = some (.slice none 0 0) ∧ (wayC n)[j * 4 + 2]? = some (.int .i64 0) ∧ (wayC n)[j * 4 + 3]? = some (.int .i64 0)
  | 0, j, h => by omega
  | n + 1, j, h => by
    rw [wayC]
    by_cases e : j < n
    · have hl := wayC_len n
      rw [List.getElem?_append_left (by omega), List.getElem?_append_left (by omega), List.getElem?_append_left (by omega), List.getElem?_append_left (by omega)]
      exact wayC_get n j e
    · obtain rfl : j = n := by omega
      have hl := wayC_len j
      rw [List.getElem?_append_right (by omega), List.getElem?_append_right (by omega), List.getElem?_append_right (by omega), List.getElem?_append_right (by omega), hl]
      rw [show j * 4 - j * 4 = 0 by omega, show j * 4 + 1 - j * 4 = 1 by omega, show j * 4 + 2 - j * 4 = 2 by omega, show j * 4 + 3 - j * 4 = 3 by omega]
      exact ⟨rfl, rfl, rfl, rfl⟩
/-- the document's net while it is being made -/
structure RnF (w : World) (N d k1 k2 k3 : Nat) (v1 v2 v3 : Value) (x2 : List Value) (wr : World) : Prop where
  gr : w.grownBy wr none
  od : w.heap.size ≤ d
  net : wr.heap[d]? = some (.cells #[v1, v2, v3, .slice none 0 0] 90 (0, 0))
  r1 : xRow w 4 1 k1 v1 (List.replicate k1 (.bool true)) wr
  r2 : xRow w 91 1 k2 v2 x2 wr
  r3 : xRow w 94 1 k3 v3 (List.replicate k3 (.slice none 0 0)) wr
  ry : ∀ (j : Nat) (u : Value), x2[j]? = some u → xRow w 108 4 N u (wayC N) wr
  df : ∀ (i j : Nat) (u u' : Value), i ≠ j → x2[i]? = some u → x2[j]? = some u' → ∀ g, u.ownBlock = some g → u'.ownBlock ≠ some g
variable {N d k1 k2 k3 : Nat} {v1 v2 v3 : Value} {x2 : List Value}
/-- rows of other kinds stay -/
theorem RnF.stay (h : RnF w N d k1 k2 k3 v1 v2 v3 x2 wr) (hc : Chg C wr w5) {t : TypeId} (kC : ∀ b, C b → kd wr b = t + 2 ∨ b = d) {e : TypeId} {sz k : Nat} {v : Value} {xs : List Value} (hr : xRow w e sz k v xs wr) (h1 : e ≠ t) (h2 : e ≠ 90) : xRow w e sz k v xs w5 := hr.kept hc (fun g hg hC => by
  have k0 := (hr.kd g hg).1
  rcases kC g hC with e1 | e1
  · rw [e1] at k0; exact h1 (Nat.add_right_cancel k0).symm
  · rw [e1, kd_cells h.net] at k0; exact h2 (Nat.add_right_cancel k0).symm)
theorem RnF.There (h : RnF w N d k1 k2 k3 v1 v2 v3 x2 wr) (hk : k1 ≤ 1000) :
    ∃ p' c' w4, (∀ ty, (Builtin.append_ #[86, 86] ty #[v1, .slice (some ⟨wr.heap.size, 0, none⟩) 1 1]).run Try.prog (wr.alloc (.cells #[.bool true] 4)) = .ok (.slice p' (k1 + 1) c') w4) ∧ w4.heap[d]? = some (.cells #[v1, v2, v3, .slice none 0 0] 90 (0, 0)) ∧ RnF w N d (k1 + 1) k2 k3 (.slice p' (k1 + 1) c') v2 v3 x2 (w4.setCell ⟨d, 0, none⟩ (.slice p' (k1 + 1) c')) := by
  obtain ⟨p', c', w4, hr, a4, g4, C4, _⟩ := rwBo.xpush h.gr h.r1 [.bool true] rfl (by intro x hx; simp at hx; rw [hx]; rfl) hk
  have kv : ∀ b, v1.ownBlock = some b → kd wr b = 4 + 2 := fun b hb => (h.r1.kd b hb).1
  have hd4 := C4.at_ h.net (fun e => by have := kv d e; rw [kd_cells h.net] at this; simp at this)
  have CC := (C4.mono (T := fun b => v1.ownBlock = some b ∨ b = d) (fun _ _ e => Or.inl e)).set ⟨d, 0, none⟩ (.slice p' (k1 + 1) c') (Or.inr rfl)
  have kC : ∀ b, (v1.ownBlock = some b ∨ b = d) → kd wr b = 4 + 2 ∨ b = d := fun b hb => hb.imp (kv b) id
  refine ⟨p', c', w4, hr, hd4, grown_set g4 _ _ h.od, h.od, (block_setCell hd4 _).trans rfl, ?_, h.stay CC kC h.r2 (by decide) (by decide), h.stay CC kC h.r3 (by decide) (by decide), fun j u hj => h.stay CC kC (h.ry j u hj) (by decide) (by decide), h.df⟩
  rw [List.replicate_succ']
  exact a4.kept (Chg.of_cell w4 ⟨d, 0, none⟩ _) (fun g hg e => by
    have e : g = d := e
    have := (a4.kd g hg).1
    rw [e, kd_cells hd4] at this; simp at this)
theorem RnF.Waits (h : RnF w N d k1 k2 k3 v1 v2 v3 x2 wr) (hk : k3 ≤ 1000) :
    ∃ p' c' w4, (∀ ty, (Builtin.append_ #[88, 88] ty #[v3, .slice (some ⟨wr.heap.size, 0, none⟩) 1 1]).run Try.prog (wr.alloc (.cells #[.slice none 0 0] 94)) = .ok (.slice p' (k3 + 1) c') w4) ∧ w4.heap[d]? = some (.cells #[v1, v2, v3, .slice none 0 0] 90 (0, 0)) ∧ RnF w N d k1 k2 (k3 + 1) v1 v2 (.slice p' (k3 + 1) c') x2 (w4.setCell ⟨d, 2, none⟩ (.slice p' (k3 + 1) c')) := by
  obtain ⟨p', c', w4, hr, a4, g4, C4, _⟩ := rwMM.xpush h.gr h.r3 [.slice none 0 0] rfl (by intro x hx; simp at hx; rw [hx]; rfl) hk
  have kv : ∀ b, v3.ownBlock = some b → kd wr b = 94 + 2 := fun b hb => (h.r3.kd b hb).1
  have hd4 := C4.at_ h.net (fun e => by have := kv d e; rw [kd_cells h.net] at this; simp at this)
  have CC := (C4.mono (T := fun b => v3.ownBlock = some b ∨ b = d) (fun _ _ e => Or.inl e)).set ⟨d, 2, none⟩ (.slice p' (k3 + 1) c') (Or.inr rfl)
  have kC : ∀ b, (v3.ownBlock = some b ∨ b = d) → kd wr b = 94 + 2 ∨ b = d := fun b hb => hb.imp (kv b) id
  refine ⟨p', c', w4, hr, hd4, grown_set g4 _ _ h.od, h.od, (block_setCell hd4 _).trans rfl, h.stay CC kC h.r1 (by decide) (by decide), h.stay CC kC h.r2 (by decide) (by decide), ?_, fun j u hj => h.stay CC kC (h.ry j u hj) (by decide) (by decide), h.df⟩
  rw [List.replicate_succ']
  exact a4.kept (Chg.of_cell w4 ⟨d, 2, none⟩ _) (fun g hg e => by
    have e : g = d := e
    have := (a4.kd g hg).1
    rw [e, kd_cells hd4] at this; simp at this)
/-- a row of ways beside it -/
def RnW (w : World) (N d k1 k2 k3 : Nat) (v1 v2 v3 : Value) (x2 : List Value) (j : Nat) (v : Value) (wr : World) : Prop := RnF w N d k1 k2 k3 v1 v2 v3 x2 wr ∧ xRow w 108 4 j v (wayC j) wr ∧ ∀ (i : Nat) (u : Value), x2[i]? = some u → ∀ g, v.ownBlock = some g → u.ownBlock ≠ some g
theorem RnW.push {j : Nat} (h : RnW w N d k1 k2 k3 v1 v2 v3 x2 j v wr) (hj : j ≤ 1000) :
    ∃ p' c' w4, (∀ ty, (Builtin.append_ #[91, 91] ty #[v, .slice (some ⟨wr.heap.size, 0, none⟩) 1 1]).run Try.prog (wr.alloc (.cells #[.int .u64 1, .slice none 0 0, .int .i64 0, .int .i64 0] 108)) = .ok (.slice p' (j + 1) c') w4) ∧ RnW w N d k1 k2 k3 v1 v2 v3 x2 (j + 1) (.slice p' (j + 1) c') w4 := by
  obtain ⟨h1, h2, h3⟩ := h
  obtain ⟨p', c', w4, hr, a4, g4, C4, o4⟩ := rwWa.xpush h1.gr h2 [.int .u64 1, .slice none 0 0, .int .i64 0, .int .i64 0] rfl (by intro u hu; simp only [List.mem_cons, List.mem_nil_iff, or_false] at hu; rcases hu with rfl | rfl | rfl | rfl <;> rfl) hj
  have kC : ∀ b, v.ownBlock = some b → kd wr b = 108 + 2 ∨ b = d := fun b hb => Or.inl (h2.kd b hb).1
  have hd4 := C4.at_ h1.net (fun e => by have := (h2.kd d e).1; rw [kd_cells h1.net] at this; simp at this)
  refine ⟨p', c', w4, hr, ⟨g4, h1.od, hd4, h1.stay C4 kC h1.r1 (by decide) (by decide), h1.stay C4 kC h1.r2 (by decide) (by decide), h1.stay C4 kC h1.r3 (by decide) (by decide), fun i u hi => (h1.ry i u hi).kept C4 (fun g hg e => h3 i u hi g e hg), h1.df⟩, a4, fun i u hi g hg e => ?_⟩
  rcases o4 g hg with e1 | e1
  · exact h3 i u hi g e1 e
  · have := ((h1.ry i u hi).kd g e).2
    omega
theorem RnW.Ways (h : RnW w N d k1 k2 k3 v1 v2 v3 x2 N v wr) (hk : k2 ≤ 1000) (hl : x2.length = k2) :
    ∃ p' c' w4, (∀ ty, (Builtin.append_ #[87, 87] ty #[v2, .slice (some ⟨wr.heap.size, 0, none⟩) 1 1]).run Try.prog (wr.alloc (.cells #[v] 91)) = .ok (.slice p' (k2 + 1) c') w4) ∧ w4.heap[d]? = some (.cells #[v1, v2, v3, .slice none 0 0] 90 (0, 0)) ∧ RnF w N d k1 (k2 + 1) k3 v1 (.slice p' (k2 + 1) c') v3 (x2 ++ [v]) (w4.setCell ⟨d, 1, none⟩ (.slice p' (k2 + 1) c')) := by
  obtain ⟨h, hv, hne⟩ := h
  obtain ⟨pv, qv, ev⟩ := hv.form
  obtain ⟨p', c', w4, hr, a4, g4, C4, _⟩ := rwWW.xpush h.gr h.r2 [v] rfl (by intro x hx; simp at hx; rw [hx, ev]; rfl) hk
  have kv : ∀ b, v2.ownBlock = some b → kd wr b = 91 + 2 := fun b hb => (h.r2.kd b hb).1
  have hd4 := C4.at_ h.net (fun e => by have := kv d e; rw [kd_cells h.net] at this; simp at this)
  have CC := (C4.mono (T := fun b => v2.ownBlock = some b ∨ b = d) (fun _ _ e => Or.inl e)).set ⟨d, 1, none⟩ (.slice p' (k2 + 1) c') (Or.inr rfl)
  have kC : ∀ b, (v2.ownBlock = some b ∨ b = d) → kd wr b = 91 + 2 ∨ b = d := fun b hb => hb.imp (kv b) id
  have gt : ∀ (j : Nat) (u : Value), (x2 ++ [v])[j]? = some u → x2[j]? = some u ∨ (j = k2 ∧ u = v) := fun j u hj => by
    by_cases e : j < x2.length
    · rw [List.getElem?_append_left e] at hj; exact Or.inl hj
    · rw [List.getElem?_append_right (by omega)] at hj
      have e2 : j - x2.length = 0 := by
        have := (List.getElem?_eq_some_iff.1 hj).1
        simp at this; omega
      rw [e2] at hj
      simp at hj
      exact Or.inr ⟨by omega, hj.symm⟩
  refine ⟨p', c', w4, hr, hd4, grown_set g4 _ _ h.od, h.od, (block_setCell hd4 _).trans rfl, h.stay CC kC h.r1 (by decide) (by decide), ?_, h.stay CC kC h.r3 (by decide) (by decide), fun j u hj => ?_, fun i j u u' hij hi hj g hg => ?_⟩
  · exact a4.kept (Chg.of_cell w4 ⟨d, 1, none⟩ _) (fun g hg e => by
      have e : g = d := e
      have := (a4.kd g hg).1
      rw [e, kd_cells hd4] at this; simp at this)
  · rcases gt j u hj with e | ⟨_, rfl⟩
    · exact h.stay CC kC (h.ry j u e) (by decide) (by decide)
    · exact h.stay CC kC hv (by decide) (by decide)
  · rcases gt i u hi with e1 | ⟨e1, rfl⟩
    · rcases gt j u' hj with e2 | ⟨e2, rfl⟩
      · exact h.df i j u u' hij e1 e2 g hg
      · exact fun e3 => hne i u e1 g e3 hg
    · rcases gt j u' hj with e2 | ⟨e2, rfl⟩
      · exact hne j u' e2 g hg
      · omega
theorem choose_below {α : Type} [Inhabited α] {p : Nat → α → Prop} {N : Nat} (h : ∀ i, i < N → ∃ x, p i x) : ∃ f : Nat → α, ∀ i, i < N → p i (f i) := by
  classical
  refine ⟨fun i => if hi : i < N then (h i hi).choose else default, fun i hi => ?_⟩
  have := (h i hi).choose_spec
  simp only [dif_pos hi]
  exact this
/-- the document's net, made -/
theorem RnF.net0 (h : RnF w N d N N N v1 v2 v3 x2 wr) (h1 : 1 ≤ N) (h64 : N ≤ 64) : ∃ R, RL (newP w wr) wr d (st0 N) (fun _ _ => []) R := by
  obtain ⟨g1, c1, u1, rfl, o1, b1, n1, m1, s1, y1⟩ := h.r1.open (by omega)
  obtain ⟨g2, c2, u2, rfl, o2, b2, n2, m2, s2, y2⟩ := h.r2.open (by omega)
  obtain ⟨g3, c3, u3, rfl, o3, b3, n3, m3, s3, y3⟩ := h.r3.open (by omega)
  have hx : x2.length = N := by have := h.r2.1.1; omega
  have ex : ∀ i, i < N → ∃ q : Nat × Nat, x2[i]? = some (.slice (some ⟨q.1, 0, none⟩) N q.2) := fun i hi => by
    have hv : x2[i]? = some (x2[i]'(by omega)) := List.getElem?_eq_getElem (by omega)
    obtain ⟨g, cap, cur, e, _⟩ := (h.ry i _ hv).open (by omega)
    exact ⟨(g, cap), by rw [hv, e]⟩
  obtain ⟨f, hf⟩ := choose_below ex
  have op : ∀ i, i < N → w.heap.size ≤ (f i).1 ∧ ∃ cur : Array Value, wr.heap[(f i).1]? = some (.cells cur 108 (0, 0)) ∧ N ≤ (f i).2 ∧ (f i).2 ≤ maxLen ∧ cur.size = (f i).2 * 4 ∧ ∀ (j : Nat) (u : Value), (wayC N)[j]? = some u → cur[j]? = some u := fun i hi => by
    obtain ⟨g, cap, cur, e, k1, k2, k3, k4, k5, k6⟩ := (h.ry i _ (hf i hi)).open (by omega)
    have e1 : (f i).1 = g := by injection e with e; injection e with e; injection e
    have e2 : (f i).2 = cap := by injection e
    rw [e1, e2]
    exact ⟨k1, cur, k2, k3, k4, k5, k6⟩
  refine ⟨⟨g1, c1, g2, c2, fun i => (f i).1, fun i => (f i).2, g3, c3, fun _ => .slice none 0 0, .slice none 0 0, fun _ _ => .slice none 0 0⟩, fun i hi => hi.2, ⟨h.od, lt_of_heap h.net⟩, ⟨o1, lt_of_heap b1⟩, ⟨o2, lt_of_heap b2⟩, ⟨o3, lt_of_heap b3⟩, fun i hi => ?_, h1, h64, ⟨n1, n2, n3, m1, m2, m3, fun i hi => ?_⟩, h.net, ⟨u1, b1, by rw [s1]; exact Nat.mul_one _, fun i hi => ?_⟩, ⟨u2, b2, by rw [s2]; exact Nat.mul_one _, fun i hi => y2 i _ (hf i hi)⟩, fun i hi => ?_, fun i j hi hj hij e => ?_, ⟨u3, b3, by rw [s3]; exact Nat.mul_one _, fun i hi => ?_⟩, fun i hi => rwR_nil _ _ _ _ _, fun i j hi hj => rwR_nil _ _ _ _ _, rwR_nil _ _ _ _ _⟩
  · obtain ⟨k1, cur, k2, _⟩ := op i hi
    exact ⟨k1, lt_of_heap k2⟩
  · obtain ⟨k1, cur, k2, k3, k4, _⟩ := op i hi
    exact ⟨k3, k4⟩
  · have hi : i < N := hi
    exact y1 i _ (by rw [List.getElem?_replicate, if_pos hi]; rfl)
  · obtain ⟨k1, cur, k2, k3, k4, k5, k6⟩ := op i hi
    refine ⟨cur, k2, k5, fun j hj => ?_⟩
    obtain ⟨a0, a1, a2, a3⟩ := wayC_get N j hj
    exact ⟨k6 _ _ a0, k6 _ _ a1, k6 _ _ a2, k6 _ _ a3⟩
  · have hi : i < N := hi
    have hj : j < N := hj
    exact h.df i j _ _ hij (hf i hi) (hf j hj) (f i).1 rfl (by show some (f j).1 = some (f i).1; exact congrArg some e.symm)
  · have hi : i < N := hi
    exact y3 i _ (by rw [List.getElem?_replicate, if_pos hi])
end Go.Proofs.Ytbdlamlplfogjaa
namespace Go.Proofs.Ytbdlamlplfogjaa
open Go.RowKit Go.Maps Go.Joins
variable {w w' : World}

/-- what the document's New answers -/
def RmQ (w : World) (N : Nat) (r : Ending) (w' : World) : Prop := ∃ d R, r = .returned (.tuple #[.pointer (some ⟨d, 0, none⟩), .int .i64 0]) ∧ RL (newP w w') w' d (st0 N) (fun _ _ => []) R ∧ w.grownBy w' none
set_option maxHeartbeats 2000000 in
set_option maxRecDepth 100000 in
theorem rNew_ok (N : Nat) (h1 : 1 ≤ N) (h64 : N ≤ 64) : Calls Try.prog 25 #[.int .i64 N] w (RmQ w N) := by
  have i1 : ¬ (N : Int) < 1 := by omega
  have i2 : ¬ (64 : Int) < (N : Int) := by omega
  have R0 : Hid (RnF w N w.heap.size 0 0 0 (.slice none 0 0) (.slice none 0 0) (.slice none 0 0) [] (w.alloc (.cells #[.slice none 0 0, .slice none 0 0, .slice none 0 0, .slice none 0 0] 90))) := ⟨World.grownBy_alloc w _ none, Nat.le_refl _, heap_alloc_new w _, xRow_nil _ _ _ _, xRow_nil _ _ _ _, xRow_nil _ _ _ _, fun j u hj => by simp at hj, fun i j u u' _ hi => by simp at hi⟩
  obtain ⟨d, hd⟩ : ∃ d, d = w.heap.size := ⟨_, rfl⟩
  rw [← hd] at R0
  have HD := mkHid hd
  clear hd
  go_enter Try.func25, Try.ntmps25
  go_wp2_with fail
  rw [← show d = w.heap.size from HD.out]
  clear HD
  go_loopw [5] (fun s5 wr => ∃ (k : Nat) (v1 v2 v3 : Value) (x2 : List Value), s5 = .int .i64 (k : Int) ∧ k ≤ N ∧ Hid (RnF w N d k k k v1 v2 v3 x2 wr)) (fun s5 _ => N - (intOf s5).toNat)
  case atStart => exact ⟨0, _, _, _, _, rfl, Nat.zero_le _, R0⟩
  case round =>
    obtain ⟨k, v1, v2, v3, x2, rfl, hk, RN⟩ := hrel
    by_cases hlt : k < N
    · have hlti : (k : Int) < (N : Int) := by omega
      obtain ⟨p1, q1, rfl⟩ := RN.out.r1.form
      obtain ⟨p2, q2, rfl⟩ := RN.out.r2.form
      obtain ⟨p3, q3, rfl⟩ := RN.out.r3.form
      have HX : Hid (x2.length = k) := by have := RN.out.r2.1.1; rw [Nat.mul_one] at this; exact this
      obtain ⟨x0, x1, xx2, x3, xf⟩ := cells4 RN.out.net
      have hdl := lt_of_heap RN.out.net
      obtain ⟨pa, ca, w4, hr, hd4, RA⟩ := RN.out.There (by omega)
      obtain ⟨y0, y1, y2, y3, yf⟩ := cells4 hd4
      have yf0 := yf 0
      obtain ⟨z0, z1, z2, z3, zf⟩ := cells4 RA.net
      have hdl4 := lt_of_heap RA.net
      obtain ⟨pb, cb, w6, hr6, hd6, RB⟩ := RA.Waits (by omega)
      rw [World.size_setCell] at hr6
      obtain ⟨t0, t1, t2, t3, tf⟩ := cells4 hd6
      have tf2 := tf 2
      have RW0 : Hid (RnW w N d (k + 1) k (k + 1) (.slice pa (k + 1) ca) (.slice p2 k q2) (.slice pb (k + 1) cb) x2 0 (.slice none 0 0) (w6.setCell ⟨d, 2, none⟩ (.slice pb (k + 1) cb))) := ⟨RB, xRow_nil _ _ _ _, fun i u _ g hg => by simp [Value.ownBlock] at hg⟩
      clear xf yf zf tf hd4 hd6 RA RB RN
      go_wp2_with (first | (at_builtin; refine wp_app 86 rfl (.tmp 25) (.tmp 26) rfl rfl rfl hr ?_) | (at_builtin; refine wp_app 88 rfl (.tmp 34) (.tmp 35) rfl rfl rfl hr6 ?_) | fail)
      generalize w6.setCell ⟨d, 2, none⟩ (.slice pb (k + 1) cb) = wx at RW0 ⊢
      clear hr hr6 x0 x1 xx2 x3 y0 y1 y2 y3 z0 z1 z2 z3 t0 t1 t2 t3 yf0 tf2 hdl hdl4
      go_loopw [6, 7] (fun s6 s7 wr => ∃ j : Nat, s7 = .int .i64 (j : Int) ∧ j ≤ N ∧ Hid (RnW w N d (k + 1) k (k + 1) (.slice pa (k + 1) ca) (.slice p2 k q2) (.slice pb (k + 1) cb) x2 j s6 wr)) (fun _ s7 _ => N - (intOf s7).toNat)
      case atStart => exact ⟨0, rfl, Nat.zero_le _, RW0⟩
      case round =>
        rename_i s6 s7
        obtain ⟨j, rfl, hj, RW⟩ := hrel
        by_cases hlj : j < N
        · have hlji : (j : Int) < (N : Int) := by omega
          obtain ⟨ps, qs, rfl⟩ := RW.out.2.1.form
          obtain ⟨pc, cc, w7, hr7, a7⟩ := RW.out.push (by omega)
          have RW7 := mkHid a7
          clear a7 RW
          go_wp2_with (first | (at_builtin; refine wp_app 91 rfl (.tmp 44) (.tmp 46) rfl rfl rfl hr7 ?_) | fail)
          go_roundw
          case rel => exact ⟨j + 1, by go_num, hlj, RW7⟩
          case measure => simp [intOf]; omega
        · obtain rfl : j = N := by omega
          obtain ⟨ps, qs, rfl⟩ := RW.out.2.1.form
          obtain ⟨x0, x1, xx2, x3, xf⟩ := cells4 RW.out.1.net
          have hdl := lt_of_heap RW.out.1.net
          obtain ⟨pe, ce, w8, hr8, hd8, RE⟩ := RW.out.Ways (by omega) HX.out
          obtain ⟨y0, y1, y2, y3, yf⟩ := cells4 hd8
          have yf1 := yf 1
          have RF := mkHid RE
          clear RW xf yf hd8 RE
          go_wp2_with (first | (at_builtin; refine wp_app 87 rfl (.tmp 52) (.tmp 54) rfl rfl rfl hr8 ?_) | fail)
          go_roundw
          case rel => exact ⟨k + 1, _, _, _, _, by go_num, hlt, RF⟩
          case measure => simp [intOf]; omega
    · obtain rfl : k = N := by omega
      have G := mkHid RN.out.gr
      have F := mkHid (RN.out.net0 h1 h64)
      clear RN
      go_wp2_with fail
      go_ret2
      obtain ⟨R, hR⟩ := F.out
      exact ⟨d, R, rfl, hR, G.out⟩
/-- what begins answers: a pair -/
def BgR (w : World) (N : Nat) (r : Ending) (w' : World) : Prop := ∃ pr n d m L R, r = .returned (.tuple #[.pointer (some ⟨pr, 0, none⟩), .bool true]) ∧ w'.heap[pr]? = some (.cells #[.pointer (some ⟨n, 0, none⟩), .pointer (some ⟨d, 0, none⟩)] 33 (0, 0)) ∧ m ≤ pr ∧ NetL (fun i => w.heap.size ≤ i ∧ i < m) w' n 0 (st0 N) L ∧ RL (fun i => m ≤ i ∧ i < pr) w' d (st0 N) (fun _ _ => []) R ∧ w.grownBy w' none
set_option maxHeartbeats 1000000 in
set_option maxRecDepth 100000 in
theorem begins_both (N : Nat) (h1 : 1 ≤ N) (h64 : N ≤ 64) : Calls Try.prog 6 #[.int .i64 N] w (BgR w N) := by
  have NW := mkHid (New_ok (w := w) N h1 h64)
  have RN := mkHid (fun w => rNew_ok (w := w) N h1 h64)
  go_enter Try.func6, Try.ntmps6
  go_wp2_with fail
  refine NW.out.mono ?_
  rintro e w1 ⟨n, L, rfl, hL, g1⟩
  have HL := mkHid hL
  have G1 := mkHid g1
  clear hL g1
  go_wp2_with fail
  refine (RN.out _).mono ?_
  rintro e w2 ⟨d, R, rfl, hR, g2⟩
  have G2 := mkHid g2
  have HR := mkHid hR
  clear g2 hR
  go_wp2_with fail
  go_ret2
  have ga := World.grownBy_alloc w2 (.cells #[.pointer (some ⟨n, 0, none⟩), .pointer (some ⟨d, 0, none⟩)] 33) none
  have g12 := grown_none_trans G2.out ga
  exact ⟨_, n, d, w1.heap.size, L, R, rfl, heap_alloc_new w2 _, G2.out.size, HL.out.kept g12, HR.out.kept ga, grown_none_trans G1.out g12⟩
end Go.Proofs.Ytbdlamlplfogjaa
