/-
  Once, and in order: what holds of a net, of what was sent, and of what was received (plain math).
-/
import Derived.Test.YtbdlamlplfogjaaGM
import Derived.Test.YtbdlamlplfogjaaGN
namespace Go.Proofs.Ytbdlamlplfogjaa
variable {S : St} {T : Nat → Nat → List ByteArray} {G O : Nat → Nat → Nat}

/-- a packet that says what was sent -/
def gp (S : St) (T : Nat → Nat → List ByteArray) (p : Pk) : Prop := p.f < S.N ∧ p.t < S.N ∧ p.e ≤ (S.wy p.f p.t).b + 1 ∧ (p.e = (S.wy p.f p.t).b + 1 → if p.ack = true then p.s ≤ (S.wy p.f p.t).c else 1 ≤ p.s ∧ (T p.f p.t)[p.s - 1]? = some p.x)
/-- what waits at a node from another one -/
def wt (S : St) (i j : Nat) : List ByteArray := ((S.ms j).filter (fun m => m.1 == i)).map (·.2)
structure Inv (S : St) (T : Nat → Nat → List ByteArray) (G O : Nat → Nat → Nat) : Prop where
  us : ∀ i j, i < S.N → j < S.N → (S.wy i j).us = (T i j).drop (S.wy i j).t
  tc : ∀ i j, i < S.N → j < S.N → (S.wy i j).t ≤ (S.wy i j).c ∧ (S.wy i j).c ≤ (T i j).length
  fr : ∀ j, j < S.N → ∀ m ∈ S.ms j, m.1 < S.N
  dn : ∀ j, j < S.N → S.dn j = true → S.ms j = []
  ws : ∀ i j, i < S.N → j < S.N → S.dn j = false → G i j ≤ (S.wy i j).c ∧ ∃ o : List ByteArray, o.length = O i j ∧ wt S i j = o ++ ((T i j).take (S.wy i j).c).drop (G i j)
  pk : ∀ p ∈ S.fl, gp S T p
theorem Inv.begin (N : Nat) : Inv (st0 N) (fun _ _ => []) (fun _ _ => 0) (fun _ _ => 0) :=
  ⟨fun _ _ _ _ => rfl, fun _ _ _ _ => ⟨Nat.le_refl _, Nat.le_refl _⟩, fun _ _ m hm => by simp [st0] at hm, fun _ _ _ => rfl, fun _ _ _ _ _ => ⟨Nat.le_refl _, [], rfl, rfl⟩, fun p hp => by simp [st0] at hp⟩
theorem Inv.sub (h : Inv S T G O) {fl : List Pk} (hs : ∀ p ∈ fl, gp S T p) : Inv { S with fl := fl } T G O := ⟨h.us, h.tc, h.fr, h.dn, h.ws, hs⟩
theorem Inv.fly (h : Inv S T G O) {p : Pk} (hp : gp S T p) : Inv (flyS S p) T G O := by
  unfold flyS
  split
  · refine h.sub (fun q hq => ?_)
    rcases List.mem_append.1 hq with hq | hq
    · exact h.pk q hq
    · simp at hq; rw [hq]; exact hp
  · exact h
theorem Inv.lose (h : Inv S T G O) (k : Int) : Inv (loseS S k) T G O := by
  unfold loseS
  split
  · exact h.sub (fun p hp => h.pk p (List.mem_of_mem_eraseIdx hp))
  · exact h
theorem fliesS_get {k : Int} (h : fliesS S k = true) : S.fl.getD k.toNat pk0 ∈ S.fl := by
  have := of_decide_eq_true h
  have hl : k.toNat < S.fl.length := by omega
  rw [List.getD_eq_getElem?_getD, List.getElem?_eq_getElem hl]
  exact List.getElem_mem hl
theorem Inv.twice (h : Inv S T G O) (k : Int) : Inv (twiceS S k) T G O := by
  unfold twiceS
  split
  · rename_i hk
    exact h.fly (h.pk _ (fliesS_get hk))
  · exact h
/-- a way has changed, its texts have not -/
theorem Inv.way (h : Inv S T G O) {i j : Nat} {x : Wy} (hi : i < S.N) (hj : j < S.N) (hb : x.b = (S.wy i j).b) (hu : x.us = (T i j).drop x.t) (hc : x.c = (S.wy i j).c) (ht : x.t ≤ x.c) : Inv { S with wy := upd2 S.wy i j x } T G O := by
  have ev : ∀ a b, (upd2 S.wy i j x a b).b = (S.wy a b).b ∧ (upd2 S.wy i j x a b).c = (S.wy a b).c := fun a b => by
    by_cases e : a = i ∧ b = j
    · rw [e.1, e.2, upd2_same]; exact ⟨hb, hc⟩
    · rw [upd2_other _ _ e]; exact ⟨rfl, rfl⟩
  have hc2 := (h.tc i j hi hj).2
  refine ⟨fun a b ha hb' => ?_, fun a b ha hb' => ?_, h.fr, h.dn, fun a b ha hb' hd => ?_, fun p hp => ?_⟩
  · show (upd2 S.wy i j x a b).us = (T a b).drop (upd2 S.wy i j x a b).t
    by_cases e : a = i ∧ b = j
    · rw [e.1, e.2, upd2_same]; exact hu
    · rw [upd2_other _ _ e]; exact h.us a b ha hb'
  · show (upd2 S.wy i j x a b).t ≤ (upd2 S.wy i j x a b).c ∧ (upd2 S.wy i j x a b).c ≤ _
    by_cases e : a = i ∧ b = j
    · rw [e.1, e.2, upd2_same]; exact ⟨ht, by omega⟩
    · rw [upd2_other _ _ e]; exact h.tc a b ha hb'
  · have := h.ws a b ha hb' hd
    show G a b ≤ (upd2 S.wy i j x a b).c ∧ ∃ o : List ByteArray, o.length = O a b ∧ wt S a b = o ++ ((T a b).take (upd2 S.wy i j x a b).c).drop (G a b)
    rw [(ev a b).2]; exact this
  · obtain ⟨h1, h2, h3, h4⟩ := h.pk p hp
    refine ⟨h1, h2, ?_, ?_⟩
    · show p.e ≤ (upd2 S.wy i j x p.f p.t).b + 1
      rw [(ev p.f p.t).1]; exact h3
    · show p.e = (upd2 S.wy i j x p.f p.t).b + 1 → if p.ack = true then p.s ≤ (upd2 S.wy i j x p.f p.t).c else _
      rw [(ev p.f p.t).1, (ev p.f p.t).2]; exact h4
theorem Inv.come (h : Inv S T G O) {p : Pk} (hp : gp S T p) : Inv (comeS S p) T G O := by
  obtain ⟨h1, h2, h3, h4⟩ := hp
  unfold comeS
  split
  · rename_i hh
    obtain ⟨he, hd⟩ := hh
    have h5 := h4 he
    split
    · rename_i ha
      rw [if_pos ha] at h5
      have hu := h.us p.f p.t h1 h2
      have tc := h.tc p.f p.t h1 h2
      unfold tellW
      split
      · rename_i hk
        refine h.way h1 h2 rfl ?_ rfl h5
        show (S.wy p.f p.t).us.drop (p.s - (S.wy p.f p.t).t) = (T p.f p.t).drop p.s
        rw [hu, List.drop_drop]
        congr 1; omega
      · exact h.way h1 h2 rfl hu rfl tc.1
    · rename_i ha
      rw [if_neg ha] at h5
      have hto : pkTo p = p.t := by unfold pkTo; rw [if_neg ha]
      rw [hto] at hd
      have tc := h.tc p.f p.t h1 h2
      split
      · rename_i hs
        have hx : (T p.f p.t)[(S.wy p.f p.t).c]? = some p.x := by
          have := h5.2
          rw [hs, Nat.add_sub_cancel] at this; exact this
        have hlt := (List.getElem?_eq_some_iff.1 hx).1
        have ev : ∀ a b, (upd2 S.wy p.f p.t { S.wy p.f p.t with c := (S.wy p.f p.t).c + 1 } a b).b = (S.wy a b).b ∧ (upd2 S.wy p.f p.t { S.wy p.f p.t with c := (S.wy p.f p.t).c + 1 } a b).t = (S.wy a b).t ∧ (upd2 S.wy p.f p.t { S.wy p.f p.t with c := (S.wy p.f p.t).c + 1 } a b).us = (S.wy a b).us ∧ (S.wy a b).c ≤ (upd2 S.wy p.f p.t { S.wy p.f p.t with c := (S.wy p.f p.t).c + 1 } a b).c := fun a b => by
          by_cases e : a = p.f ∧ b = p.t
          · rw [e.1, e.2, upd2_same]; exact ⟨rfl, rfl, rfl, Nat.le_succ _⟩
          · rw [upd2_other _ _ e]; exact ⟨rfl, rfl, rfl, Nat.le_refl _⟩
        have hN : Inv (nextS S p) T G O := by
          refine ⟨fun a b ha' hb' => ?_, fun a b ha' hb' => ?_, fun b hb' m hm => ?_, fun b hb' hdb => ?_, fun a b ha' hb' hdb => ?_, fun q hq => ?_⟩
          · show (upd2 S.wy p.f p.t _ a b).us = (T a b).drop (upd2 S.wy p.f p.t _ a b).t
            rw [(ev a b).2.2.1, (ev a b).2.1]; exact h.us a b ha' hb'
          · show (upd2 S.wy p.f p.t _ a b).t ≤ (upd2 S.wy p.f p.t _ a b).c ∧ (upd2 S.wy p.f p.t _ a b).c ≤ _
            by_cases e : a = p.f ∧ b = p.t
            · rw [e.1, e.2, upd2_same]; exact ⟨Nat.le_succ_of_le tc.1, hlt⟩
            · rw [upd2_other _ _ e]; exact h.tc a b ha' hb'
          · have hm : m ∈ upd S.ms p.t (S.ms p.t ++ [(p.f, p.x)]) b := hm
            by_cases e : b = p.t
            · rw [e, upd_same] at hm
              rcases List.mem_append.1 hm with hm | hm
              · exact h.fr p.t h2 m hm
              · simp at hm; rw [hm]; exact h1
            · rw [upd_other _ _ e] at hm
              exact h.fr b hb' m hm
          · have hdb : S.dn b = true := hdb
            show upd S.ms p.t (S.ms p.t ++ [(p.f, p.x)]) b = []
            by_cases e : b = p.t
            · rw [e, hd] at hdb; cases hdb
            · rw [upd_other _ _ e]; exact h.dn b hb' hdb
          · have hdb : S.dn b = false := hdb
            obtain ⟨g1, o, o1, o2⟩ := h.ws a b ha' hb' hdb
            show G a b ≤ (upd2 S.wy p.f p.t _ a b).c ∧ ∃ o : List ByteArray, o.length = O a b ∧ wt (nextS S p) a b = o ++ ((T a b).take (upd2 S.wy p.f p.t _ a b).c).drop (G a b)
            refine ⟨Nat.le_trans g1 (ev a b).2.2.2, o, o1, ?_⟩
            by_cases eb : b = p.t
            · subst eb
              have e0 : wt (nextS S p) a p.t = wt S a p.t ++ (if p.f = a then [p.x] else []) := by
                show ((upd S.ms p.t (S.ms p.t ++ [(p.f, p.x)]) p.t).filter (fun m => m.1 == a)).map (·.2) = _
                rw [upd_same, List.filter_append, List.map_append]
                congr 1
                by_cases ea : p.f = a
                · rw [if_pos ea]; simp [ea]
                · rw [if_neg ea]; simp [ea]
              rw [e0, o2]
              by_cases ea : p.f = a
              · subst ea
                rw [if_pos rfl, upd2_same, List.append_assoc]
                congr 1
                show _ = ((T p.f p.t).take ((S.wy p.f p.t).c + 1)).drop (G p.f p.t)
                rw [List.take_add_one, hx, List.drop_append_of_le_length (by rw [List.length_take]; omega)]
                rfl
              · rw [if_neg ea, List.append_nil, upd2_other _ _ (fun e => ea e.1.symm)]
            · rw [upd2_other _ _ (fun e => eb e.2)]
              have e0 : wt (nextS S p) a b = wt S a b := by
                show ((upd S.ms p.t _ b).filter _).map _ = _
                rw [upd_other _ _ eb]; rfl
              rw [e0]; exact o2
          · obtain ⟨q1, q2, q3, q4⟩ := h.pk q hq
            refine ⟨q1, q2, ?_, ?_⟩
            · show q.e ≤ (upd2 S.wy p.f p.t _ q.f q.t).b + 1
              rw [(ev q.f q.t).1]; exact q3
            · show q.e = (upd2 S.wy p.f p.t _ q.f q.t).b + 1 → if q.ack = true then q.s ≤ (upd2 S.wy p.f p.t _ q.f q.t).c else _
              rw [(ev q.f q.t).1]
              intro e
              have := q4 e
              split
              · rename_i hq'
                rw [if_pos hq'] at this
                exact Nat.le_trans this (ev q.f q.t).2.2.2
              · rename_i hq'
                rw [if_neg hq'] at this; exact this
        refine hN.fly ⟨h1, h2, ?_, ?_⟩
        · show p.e ≤ (upd2 S.wy p.f p.t _ p.f p.t).b + 1
          rw [(ev p.f p.t).1]; exact h3
        · intro _
          rw [if_pos (show (ackP p ((S.wy p.f p.t).c + 1)).ack = true from rfl)]
          show (S.wy p.f p.t).c + 1 ≤ (upd2 S.wy p.f p.t _ p.f p.t).c
          rw [upd2_same]; exact Nat.le_refl _
      · refine h.fly ⟨h1, h2, h3, fun _ => ?_⟩
        rw [if_pos (show (ackP p (S.wy p.f p.t).c).ack = true from rfl)]
        exact Nat.le_refl _
  · exact h
theorem Inv.deliver (h : Inv S T G O) (k : Int) : Inv (delivS S k) T G O := by
  unfold delivS
  split
  · rename_i hk
    have := h.pk _ (fliesS_get hk)
    exact (h.sub (fun p hp => h.pk p (List.mem_of_mem_eraseIdx hp))).come this
  · exact h
end Go.Proofs.Ytbdlamlplfogjaa
namespace Go.Proofs.Ytbdlamlplfogjaa
variable {S : St} {T : Nat → Nat → List ByteArray} {G O : Nat → Nat → Nat}

theorem gp.same {S2 : St} {p : Pk} (hN : S2.N = S.N) (hw : S2.wy = S.wy) (h : gp S T p) : gp S2 T p := by
  unfold gp at h ⊢
  rw [hN, hw]; exact h
theorem Inv.tickM (h : Inv S T G O) {i j : Nat} (hi : i < S.N) (hj : j < S.N) : ∀ m, m ≤ (S.wy i j).us.length → Inv (tickM S i j m) T G O
  | 0, _ => h
  | m + 1, hm => by
    have ih := h.tickM hi hj m (by omega)
    refine Inv.fly ih ?_
    refine gp.same (S := S) (tickM_N S i j m) (tickM_wy S i j m) ⟨hi, hj, Nat.le_refl _, fun _ => ?_⟩
    rw [if_neg (by simp)]
    refine ⟨by show 1 ≤ (S.wy i j).t + 1 + m; omega, ?_⟩
    show (T i j)[(S.wy i j).t + 1 + m - 1]? = some ((S.wy i j).us.getD m ⟨#[]⟩)
    have hu := h.us i j hi hj
    rw [List.getD_eq_getElem?_getD, hu, List.getElem?_drop, show (S.wy i j).t + 1 + m - 1 = (S.wy i j).t + m by omega]
    have hl : (S.wy i j).t + m < (T i j).length := by
      rw [hu, List.length_drop] at hm; omega
    rw [List.getElem?_eq_getElem hl]; rfl
theorem Inv.tickK (h : Inv S T G O) {i : Nat} (hi : i < S.N) : ∀ k, k ≤ S.N → Inv (tickK S i k) T G O
  | 0, _ => h
  | k + 1, hk => by
    have ih := h.tickK hi k (by omega)
    exact ih.tickM (by rw [tickK_N]; exact hi) (by rw [tickK_N]; omega) _ (Nat.le_refl _)
theorem Inv.tick (h : Inv S T G O) (k : Int) : Inv (tickS S k) T G O := by
  unfold tickS
  split
  · rename_i hk
    obtain ⟨i, rfl, hi, _⟩ := isS_in hk
    exact h.tickK hi _ (Nat.le_refl _)
  · exact h
theorem Inv.down (h : Inv S T G O) (k : Int) : Inv (downT S k) T G O := by
  unfold downT
  split
  · rename_i hk
    obtain ⟨i, rfl, hi, _⟩ := isS_in hk
    show Inv (downS S i) T G O
    refine ⟨h.us, h.tc, fun j hj m hm => ?_, fun j hj hd => ?_, fun a j ha hj hd => ?_, h.pk⟩
    · have hm : m ∈ upd S.ms i [] j := hm
      by_cases e : j = i
      · rw [e, upd_same] at hm; simp at hm
      · rw [upd_other _ _ e] at hm; exact h.fr j hj m hm
    · show upd S.ms i [] j = []
      have hd : upd S.dn i true j = true := hd
      by_cases e : j = i
      · rw [e, upd_same]
      · rw [upd_other _ _ e] at hd ⊢; exact h.dn j hj hd
    · have hd : upd S.dn i true j = false := hd
      by_cases e : j = i
      · rw [e, upd_same] at hd; cases hd
      · rw [upd_other _ _ e] at hd
        have := h.ws a j ha hj hd
        have e0 : wt (downS S i) a j = wt S a j := by
          show ((upd S.ms i [] j).filter _).map _ = _
          rw [upd_other _ _ e]; rfl
        rw [e0]; exact this
  · exact h
theorem Inv.alone (h : Inv S T G O) (x : Ac) : Inv (aloneS S x) T G O := by
  unfold aloneS
  split
  · exact h.deliver _
  split
  · exact h.lose _
  split
  · exact h.twice _
  split
  · exact h.tick _
  split
  · exact h.down _
  · exact h
theorem Inv.send (h : Inv S T G O) {i j : Nat} (x : ByteArray) (hi : i < S.N) (hj : j < S.N) : Inv (sendS S i j x) (upd2 T i j (T i j ++ [x])) G O := by
  have tc := h.tc i j hi hj
  have hu := h.us i j hi hj
  have eT : ∀ a b k y, (T a b)[k]? = some y → (upd2 T i j (T i j ++ [x]) a b)[k]? = some y := fun a b k y hk => by
    by_cases e : a = i ∧ b = j
    · rw [e.1, e.2, upd2_same]
      rw [e.1, e.2] at hk
      rw [List.getElem?_append_left (List.getElem?_eq_some_iff.1 hk).1]; exact hk
    · rw [upd2_other _ _ e]; exact hk
  have ev : ∀ a b, (upd2 S.wy i j (sentW S i j x) a b).b = (S.wy a b).b ∧ (upd2 S.wy i j (sentW S i j x) a b).t = (S.wy a b).t ∧ (upd2 S.wy i j (sentW S i j x) a b).c = (S.wy a b).c := fun a b => by
    by_cases e : a = i ∧ b = j
    · rw [e.1, e.2, upd2_same]; exact ⟨rfl, rfl, rfl⟩
    · rw [upd2_other _ _ e]; exact ⟨rfl, rfl, rfl⟩
  have h1 : Inv { S with wy := upd2 S.wy i j (sentW S i j x) } (upd2 T i j (T i j ++ [x])) G O := by
    refine ⟨fun a b ha hb => ?_, fun a b ha hb => ?_, h.fr, h.dn, fun a b ha hb hd => ?_, fun p hp => ?_⟩
    · show (upd2 S.wy i j (sentW S i j x) a b).us = (upd2 T i j (T i j ++ [x]) a b).drop (upd2 S.wy i j (sentW S i j x) a b).t
      rw [(ev a b).2.1]
      by_cases e : a = i ∧ b = j
      · rw [e.1, e.2, upd2_same, upd2_same]
        show (S.wy i j).us ++ [x] = _
        rw [hu, List.drop_append_of_le_length (by omega)]
      · rw [upd2_other _ _ e, upd2_other _ _ e]; exact h.us a b ha hb
    · show (upd2 S.wy i j (sentW S i j x) a b).t ≤ (upd2 S.wy i j (sentW S i j x) a b).c ∧ (upd2 S.wy i j (sentW S i j x) a b).c ≤ (upd2 T i j (T i j ++ [x]) a b).length
      rw [(ev a b).2.1, (ev a b).2.2]
      by_cases e : a = i ∧ b = j
      · rw [e.1, e.2, upd2_same]
        refine ⟨tc.1, ?_⟩
        rw [List.length_append]; exact Nat.le_trans tc.2 (Nat.le_add_right _ _)
      · rw [upd2_other _ _ e]; exact h.tc a b ha hb
    · obtain ⟨g1, o, o1, o2⟩ := h.ws a b ha hb hd
      show G a b ≤ (upd2 S.wy i j (sentW S i j x) a b).c ∧ ∃ o : List ByteArray, o.length = O a b ∧ wt S a b = o ++ ((upd2 T i j (T i j ++ [x]) a b).take (upd2 S.wy i j (sentW S i j x) a b).c).drop (G a b)
      rw [(ev a b).2.2]
      refine ⟨g1, o, o1, ?_⟩
      by_cases e : a = i ∧ b = j
      · rw [e.1, e.2, upd2_same, List.take_append_of_le_length tc.2]
        rw [e.1, e.2] at o2; exact o2
      · rw [upd2_other _ _ e]; exact o2
    · obtain ⟨q1, q2, q3, q4⟩ := h.pk p hp
      refine ⟨q1, q2, ?_, ?_⟩
      · show p.e ≤ (upd2 S.wy i j (sentW S i j x) p.f p.t).b + 1
        rw [(ev p.f p.t).1]; exact q3
      · show p.e = (upd2 S.wy i j (sentW S i j x) p.f p.t).b + 1 → if p.ack = true then p.s ≤ (upd2 S.wy i j (sentW S i j x) p.f p.t).c else _
        rw [(ev p.f p.t).1, (ev p.f p.t).2.2]
        intro e
        have := q4 e
        split
        · rename_i ha; rw [if_pos ha] at this; exact this
        · rename_i ha; rw [if_neg ha] at this; exact ⟨this.1, eT _ _ _ _ this.2⟩
  refine h1.fly ⟨hi, hj, ?_, fun _ => ?_⟩
  · show (S.wy i j).b + 1 ≤ (upd2 S.wy i j (sentW S i j x) i j).b + 1
    rw [(ev i j).1]; exact Nat.le_refl _
  · rw [if_neg (by simp [sentP])]
    refine ⟨by show 1 ≤ (S.wy i j).t + ((S.wy i j).us.length + 1); omega, ?_⟩
    show (upd2 T i j (T i j ++ [x]) i j)[(S.wy i j).t + ((S.wy i j).us.length + 1) - 1]? = some x
    rw [upd2_same, hu, List.length_drop, show (S.wy i j).t + ((T i j).length - (S.wy i j).t + 1) - 1 = (T i j).length by omega, List.getElem?_append_right (Nat.le_refl _)]
    simp
theorem wt_cons {j : Nat} {m : Nat × ByteArray} {rest : List (Nat × ByteArray)} (hm : S.ms j = m :: rest) (a : Nat) : wt S a j = (if m.1 = a then [m.2] else []) ++ wt { S with ms := upd S.ms j rest } a j := by
  have e : wt { S with ms := upd S.ms j rest } a j = (rest.filter (fun m => m.1 == a)).map (·.2) := by
    show ((upd S.ms j rest j).filter _).map _ = _
    rw [upd_same]
  rw [e]
  unfold wt
  rw [hm]
  by_cases ea : m.1 = a
  · rw [if_pos ea]; simp [ea]
  · rw [if_neg ea]; simp [ea]
/-- a message is taken: it is an elder one, or the next one that was sent -/
theorem Inv.recv (h : Inv S T G O) {j : Nat} {m : Nat × ByteArray} {rest : List (Nat × ByteArray)} (hj : j < S.N) (hd : S.dn j = false) (hm : S.ms j = m :: rest) :
    m.1 < S.N ∧ (0 < O m.1 j → Inv { S with ms := upd S.ms j rest } T G (upd2 O m.1 j (O m.1 j - 1))) ∧ (O m.1 j = 0 → (T m.1 j)[G m.1 j]? = some m.2 ∧ Inv { S with ms := upd S.ms j rest } T (upd2 G m.1 j (G m.1 j + 1)) O) := by
  have hf : m.1 < S.N := h.fr j hj m (by rw [hm]; simp)
  have fr' : ∀ b, b < S.N → ∀ q ∈ upd S.ms j rest b, q.1 < S.N := fun b hb q hq => by
    by_cases e : b = j
    · rw [e, upd_same] at hq
      exact h.fr j hj q (by rw [hm]; exact List.mem_cons_of_mem _ hq)
    · rw [upd_other _ _ e] at hq; exact h.fr b hb q hq
  have dn' : ∀ b, b < S.N → S.dn b = true → upd S.ms j rest b = [] := fun b hb hdb => by
    by_cases e : b = j
    · rw [e, hd] at hdb; cases hdb
    · rw [upd_other _ _ e]; exact h.dn b hb hdb
  have wo : ∀ a b, b ≠ j → wt { S with ms := upd S.ms j rest } a b = wt S a b := fun a b e => by
    show ((upd S.ms j rest b).filter _).map _ = _
    rw [upd_other _ _ e]; rfl
  have wa : ∀ a, a ≠ m.1 → wt { S with ms := upd S.ms j rest } a j = wt S a j := fun a e => by
    rw [wt_cons hm a, if_neg (fun e2 => e e2.symm), List.nil_append]
  obtain ⟨g1, o, o1, o2⟩ := h.ws m.1 j hf hj hd
  have wm := wt_cons hm m.1
  rw [if_pos rfl] at wm
  refine ⟨hf, fun h0 => ⟨h.us, h.tc, fr', dn', fun a b ha hb hdb => ?_, h.pk⟩, fun h0 => ?_⟩
  · by_cases e : a = m.1 ∧ b = j
    · rw [e.1, e.2, upd2_same]
      obtain ⟨y, o', rfl⟩ : ∃ y o', o = y :: o' := by
        cases o with
        | nil => simp at o1; omega
        | cons y o' => exact ⟨y, o', rfl⟩
      refine ⟨g1, o', by simp at o1; omega, ?_⟩
      rw [wm] at o2
      simp at o2
      exact o2.2
    · rw [upd2_other _ _ e]
      obtain ⟨k1, q, q1, q2⟩ := h.ws a b ha hb hdb
      refine ⟨k1, q, q1, ?_⟩
      by_cases eb : b = j
      · subst eb
        rw [wa a (fun ea => e ⟨ea, rfl⟩)]; exact q2
      · rw [wo a b eb]; exact q2
  · obtain rfl : o = [] := List.eq_nil_of_length_eq_zero (by omega)
    rw [wm] at o2
    simp only [List.nil_append, List.cons_append] at o2
    have tc := h.tc m.1 j hf hj
    have hg : G m.1 j < (S.wy m.1 j).c := by
      rcases Nat.lt_or_ge (G m.1 j) (S.wy m.1 j).c with h1 | h1
      · exact h1
      · rw [List.drop_eq_nil_of_le (by rw [List.length_take]; omega)] at o2; cases o2
    have hl : G m.1 j < (T m.1 j).length := by omega
    have e1 : ((T m.1 j).take (S.wy m.1 j).c).drop (G m.1 j) = (T m.1 j)[G m.1 j] :: ((T m.1 j).take (S.wy m.1 j).c).drop (G m.1 j + 1) := by
      rw [List.drop_eq_getElem_cons (by rw [List.length_take]; omega)]
      rw [List.getElem_take]
    rw [e1] at o2
    injection o2 with o3 o4
    refine ⟨by rw [List.getElem?_eq_getElem hl, o3], h.us, h.tc, fr', dn', fun a b ha hb hdb => ?_, h.pk⟩
    by_cases e : a = m.1 ∧ b = j
    · rw [e.1, e.2, upd2_same]
      exact ⟨hg, [], h0.symm, o4⟩
    · rw [upd2_other _ _ e]
      obtain ⟨k1, q, q1, q2⟩ := h.ws a b ha hb hdb
      refine ⟨k1, q, q1, ?_⟩
      by_cases eb : b = j
      · subst eb
        rw [wa a (fun ea => e ⟨ea, rfl⟩)]; exact q2
      · rw [wo a b eb]; exact q2
end Go.Proofs.Ytbdlamlplfogjaa
namespace Go.Proofs.Ytbdlamlplfogjaa
variable {S : St} {T : Nat → Nat → List ByteArray} {G O : Nat → Nat → Nat}

theorem anewS_wy (S : St) (i j a b : Nat) : (anewS S i j).wy a b = if a = i ∧ b = j then ⟨(S.wy i j).b + 1, 0, 0, []⟩ else S.wy a b := rfl
theorem anewK_wy (S : St) (i : Nat) : ∀ k a b, (anewK S i k).wy a b = if (a = i ∧ b < k) ∨ (b = i ∧ a < k) then ⟨(S.wy a b).b + 1, 0, 0, []⟩ else S.wy a b
  | 0, a, b => by rw [if_neg (by omega)]; rfl
  | k + 1, a, b => by
    have ih := anewK_wy S i k
    rw [anewK_s]
    by_cases hk : k = i
    · rw [if_pos hk, anewS_wy]
      by_cases e : a = i ∧ b = k
      · rw [if_pos e, if_pos (Or.inl ⟨e.1, by omega⟩), ih, if_neg (by omega), e.1, e.2]
      · rw [if_neg e, ih]
        by_cases e2 : (a = i ∧ b < k) ∨ (b = i ∧ a < k)
        · rw [if_pos e2, if_pos (by omega)]
        · rw [if_neg e2, if_neg (by omega)]
    · rw [if_neg hk, anewS_wy]
      by_cases e : a = k ∧ b = i
      · rw [if_pos e, if_pos (Or.inr ⟨e.2, by omega⟩), anewS_wy, if_neg (by omega), ih, if_neg (by omega), e.1, e.2]
      · rw [if_neg e, anewS_wy]
        by_cases e3 : a = i ∧ b = k
        · rw [if_pos e3, if_pos (Or.inl ⟨e3.1, by omega⟩), ih, if_neg (by omega), e3.1, e3.2]
        · rw [if_neg e3, ih]
          by_cases e2 : (a = i ∧ b < k) ∨ (b = i ∧ a < k)
          · rw [if_pos e2, if_pos (by omega)]
          · rw [if_neg e2, if_neg (by omega)]
theorem anewK_same (S : St) (i : Nat) : ∀ k, (anewK S i k).N = S.N ∧ (anewK S i k).dn = S.dn ∧ (anewK S i k).ms = S.ms ∧ (anewK S i k).fl = S.fl
  | 0 => ⟨rfl, rfl, rfl, rfl⟩
  | k + 1 => by
    rw [anewK_s]
    split
    · exact anewK_same S i k
    · exact anewK_same S i k
theorem upS_wy (S : St) (i a b : Nat) (ha : a < S.N) (hb : b < S.N) : (upS S i).wy a b = if a = i ∨ b = i then ⟨(S.wy a b).b + 1, 0, 0, []⟩ else S.wy a b := by
  unfold upS
  rw [anewK_wy]
  by_cases e : a = i ∨ b = i
  · rw [if_pos e, if_pos (by omega)]
  · rw [if_neg e, if_neg (by omega)]
theorem upS_same (S : St) (i : Nat) : (upS S i).N = S.N ∧ (upS S i).dn = upd S.dn i false ∧ (upS S i).ms = S.ms ∧ (upS S i).fl = S.fl := anewK_same _ _ _
/-- what is told of sent, received and elder messages behind an Up -/
def upT' (T : Nat → Nat → List ByteArray) (i : Nat) : Nat → Nat → List ByteArray := fun a b => if a = i ∨ b = i then [] else T a b
def upG (G : Nat → Nat → Nat) (i : Nat) : Nat → Nat → Nat := fun a b => if a = i ∨ b = i then 0 else G a b
def upO (O : Nat → Nat → Nat) (cnt : Nat → Nat) (i : Nat) : Nat → Nat → Nat := fun a b => if b = i then 0 else if a = i then cnt b else O a b
theorem Inv.up (h : Inv S T G O) {i : Nat} {cnt : Nat → Nat} (hi : i < S.N) (hd : S.dn i = true) (hc : ∀ b, b < S.N → b ≠ i → S.dn b = false → cnt b = (wt S i b).length) : Inv (upS S i) (upT' T i) (upG G i) (upO O cnt i) := by
  obtain ⟨e1, e2, e3, e4⟩ := upS_same S i
  have hm := h.dn i hi hd
  have ew : ∀ a b, wt (upS S i) a b = wt S a b := fun a b => by unfold wt; rw [e3]
  refine ⟨fun a b ha hb => ?_, fun a b ha hb => ?_, fun b hb m hm' => ?_, fun b hb hdb => ?_, fun a b ha hb hdb => ?_, fun p hp => ?_⟩
  · rw [e1] at ha hb
    rw [upS_wy S i a b ha hb]
    unfold upT'
    split
    · rfl
    · exact h.us a b ha hb
  · rw [e1] at ha hb
    rw [upS_wy S i a b ha hb]
    unfold upT'
    split
    · exact ⟨Nat.le_refl _, Nat.le_refl _⟩
    · exact h.tc a b ha hb
  · rw [e1] at hb ⊢
    rw [e3] at hm'
    exact h.fr b hb m hm'
  · rw [e1] at hb
    rw [e2] at hdb
    rw [e3]
    by_cases e : b = i
    · rw [e, upd_same] at hdb; cases hdb
    · rw [upd_other _ _ e] at hdb; exact h.dn b hb hdb
  · rw [e1] at ha hb
    rw [e2] at hdb
    rw [upS_wy S i a b ha hb, ew]
    unfold upT' upG upO
    by_cases eb : b = i
    · rw [if_pos (Or.inr eb), if_pos (Or.inr eb), if_pos (Or.inr eb), if_pos eb]
      refine ⟨Nat.le_refl _, [], rfl, ?_⟩
      unfold wt
      rw [eb, hm]; rfl
    · rw [upd_other _ _ eb] at hdb
      rw [if_neg eb]
      by_cases ea : a = i
      · rw [if_pos (Or.inl ea), if_pos (Or.inl ea), if_pos (Or.inl ea), if_pos ea]
        refine ⟨Nat.le_refl _, wt S a b, ?_, by simp⟩
        rw [ea]; exact (hc b hb eb hdb).symm
      · have no : ¬ (a = i ∨ b = i) := by omega
        simp only [if_neg no, if_neg ea]
        exact h.ws a b ha hb hdb
  · rw [e4] at hp
    obtain ⟨q1, q2, q3, q4⟩ := h.pk p hp
    unfold gp
    rw [e1, upS_wy S i p.f p.t q1 q2]
    refine ⟨q1, q2, ?_, ?_⟩
    · split
      · show p.e ≤ (S.wy p.f p.t).b + 1 + 1; omega
      · exact q3
    · unfold upT'
      by_cases e : p.f = i ∨ p.t = i
      · rw [if_pos e, if_pos e]
        intro he
        have he : p.e = (S.wy p.f p.t).b + 1 + 1 := he
        omega
      · rw [if_neg e, if_neg e]; exact q4
/-! how great numbers become -/
theorem OkS.fly {B : Nat} (h : OkS S B) {p : Pk} (hp : p.f < S.N ∧ p.t < S.N) : OkS (flyS S p) B := by
  unfold flyS
  split
  · refine ⟨fun q hq => ?_, h.wb, h.wt, h.wc, h.wu, h.ml, h.lt⟩
    rcases List.mem_append.1 hq with hq | hq
    · exact h.pk q hq
    · simp at hq; rw [hq]; exact hp
  · exact h
theorem OkS.more {B : Nat} (h : OkS S B) (hB : B + 1 ≤ 3000000) : OkS S (B + 1) :=
  ⟨h.pk, fun i j => by have := h.wb i j; omega, fun i j => by have := h.wt i j; omega, fun i j => by have := h.wc i j; omega, h.wu, fun i => by have := h.ml i; omega, hB⟩
theorem OkS.way {B : Nat} (h : OkS S B) (hB : B + 1 ≤ 3000000) {i j : Nat} {x : Wy} (h1 : x.b ≤ 200 * (B + 1)) (h2 : x.t ≤ 5000 * (B + 1)) (h3 : x.c ≤ B + 1) (h4 : x.us.length ≤ 4096) : OkS { S with wy := upd2 S.wy i j x } (B + 1) := by
  have h' := h.more hB
  have ev : ∀ (f : Wy → Nat) (bd : Nat), (∀ a b, f (S.wy a b) ≤ bd) → f x ≤ bd → ∀ a b, f (upd2 S.wy i j x a b) ≤ bd := fun f bd ha hx a b => by
    by_cases e : a = i ∧ b = j
    · rw [e.1, e.2, upd2_same]; exact hx
    · rw [upd2_other _ _ e]; exact ha a b
  exact ⟨h'.pk, ev (·.b) _ h'.wb h1, ev (·.t) _ h'.wt h2, ev (·.c) _ h'.wc h3, ev (·.us.length) _ h'.wu h4, h'.ml, hB⟩
theorem OkS.come {B : Nat} (h : OkS S B) (hB : B + 1 ≤ 3000000) {p : Pk} (hp : p.f < S.N ∧ p.t < S.N) : OkS (comeS S p) (B + 1) := by
  have a1 := h.wb p.f p.t
  have a2 := h.wt p.f p.t
  have a3 := h.wc p.f p.t
  have a4 := h.wu p.f p.t
  unfold comeS
  split
  · split
    · unfold tellW
      split
      · rename_i hk
        refine h.way hB (by show (S.wy p.f p.t).b ≤ _; omega) (by show p.s ≤ _; omega) (by show (S.wy p.f p.t).c ≤ _; omega) ?_
        show ((S.wy p.f p.t).us.drop _).length ≤ 4096
        rw [List.length_drop]; omega
      · exact h.way hB (by omega) (by omega) (by omega) a4
    · split
      · have h1 : OkS { S with wy := upd2 S.wy p.f p.t { S.wy p.f p.t with c := (S.wy p.f p.t).c + 1 } } (B + 1) := h.way hB (by show (S.wy p.f p.t).b ≤ _; omega) (by show (S.wy p.f p.t).t ≤ _; omega) (by show (S.wy p.f p.t).c + 1 ≤ _; omega) a4
        have h2 : OkS (nextS S p) (B + 1) := by
          refine ⟨h1.pk, h1.wb, h1.wt, h1.wc, h1.wu, fun i => ?_, hB⟩
          show (upd S.ms p.t (S.ms p.t ++ [(p.f, p.x)]) i).length ≤ B + 1
          by_cases e : i = p.t
          · rw [e, upd_same, List.length_append]
            have := h.ml p.t
            simp; omega
          · rw [upd_other _ _ e]; have := h.ml i; omega
        exact h2.fly hp
      · exact (h.more hB).fly hp
  · exact h.more hB
theorem OkS.tickM {B : Nat} (h : OkS S B) {i j : Nat} (hi : i < S.N) (hj : j < S.N) : ∀ m, OkS (tickM S i j m) B
  | 0 => h
  | m + 1 => (h.tickM hi hj m).fly (by rw [tickM_N]; exact ⟨hi, hj⟩)
theorem OkS.tickK {B : Nat} (h : OkS S B) {i : Nat} (hi : i < S.N) : ∀ k, k ≤ S.N → OkS (tickK S i k) B
  | 0, _ => h
  | k + 1, hk => (h.tickK hi k (by omega)).tickM (by rw [tickK_N]; exact hi) (by rw [tickK_N]; omega) _
theorem OkS.alone {B : Nat} (h : OkS S B) (hB : B + 1 ≤ 3000000) (x : Ac) : OkS (aloneS S x) (B + 1) := by
  unfold aloneS
  split
  · unfold delivS
    split
    · rename_i hk
      exact (h.erase _).come hB (h.pk _ (fliesS_get hk))
    · exact h.more hB
  split
  · unfold loseS
    split
    · exact (h.erase _).more hB
    · exact h.more hB
  split
  · unfold twiceS
    split
    · rename_i hk
      exact (h.more hB).fly (h.pk _ (fliesS_get hk))
    · exact h.more hB
  split
  · unfold tickS
    split
    · rename_i hk
      obtain ⟨i, e, hi, _⟩ := isS_in hk
      rw [e]
      exact ((h.tickK hi _ (Nat.le_refl _))).more hB
    · exact h.more hB
  split
  · unfold downT
    split
    · have h' := h.more hB
      refine ⟨h'.pk, h'.wb, h'.wt, h'.wc, h'.wu, fun i => ?_, hB⟩
      show (upd S.ms _ [] i).length ≤ _
      unfold upd
      split
      · simp
      · exact h'.ml i
    · exact h.more hB
  · exact h.more hB
theorem OkS.send {B : Nat} (h : OkS S B) (hB : B + 1 ≤ 3000000) {i j : Nat} (x : ByteArray) (hi : i < S.N) (hj : j < S.N) (hu : (S.wy i j).us.length < 4096) : OkS (sendS S i j x) (B + 1) := by
  have a1 := h.wb i j
  have a2 := h.wt i j
  have a3 := h.wc i j
  have h1 : OkS { S with wy := upd2 S.wy i j (sentW S i j x) } (B + 1) := h.way hB (by show (S.wy i j).b ≤ _; omega) (by show (S.wy i j).t ≤ _; omega) (by show (S.wy i j).c ≤ _; omega) (by show ((S.wy i j).us ++ [x]).length ≤ 4096; rw [List.length_append]; simp; omega)
  exact h1.fly ⟨hi, hj⟩
theorem OkS.recv {B : Nat} (h : OkS S B) (hB : B + 1 ≤ 3000000) {j : Nat} {m : Nat × ByteArray} {rest : List (Nat × ByteArray)} (hm : S.ms j = m :: rest) : OkS { S with ms := upd S.ms j rest } (B + 1) := by
  have h' := h.more hB
  refine ⟨h'.pk, h'.wb, h'.wt, h'.wc, h'.wu, fun i => ?_, hB⟩
  show (upd S.ms j rest i).length ≤ _
  by_cases e : i = j
  · rw [e, upd_same]
    have := h'.ml j
    rw [hm] at this
    simp at this; omega
  · rw [upd_other _ _ e]; exact h'.ml i
theorem OkS.up {B : Nat} (h : OkS S B) (hB : B + 1 ≤ 3000000) (i : Nat) : OkS (upS S i) (B + 1) := by
  obtain ⟨e1, e2, e3, e4⟩ := upS_same S i
  have h' := h.more hB
  have ew : ∀ a b, (upS S i).wy a b = ⟨(S.wy a b).b + 1, 0, 0, []⟩ ∨ (upS S i).wy a b = S.wy a b := fun a b => by
    unfold upS
    rw [anewK_wy]
    split
    · exact Or.inl rfl
    · exact Or.inr rfl
  refine ⟨by rw [e1, e4]; exact h'.pk, fun a b => ?_, fun a b => ?_, fun a b => ?_, fun a b => ?_, by rw [e3]; exact h'.ml, hB⟩
  · rcases ew a b with e | e <;> rw [e]
    · have := h.wb a b
      show (S.wy a b).b + 1 ≤ _; omega
    · exact h'.wb a b
  · rcases ew a b with e | e <;> rw [e]
    · exact Nat.zero_le _
    · exact h'.wt a b
  · rcases ew a b with e | e <;> rw [e]
    · exact Nat.zero_le _
    · exact h'.wc a b
  · rcases ew a b with e | e <;> rw [e]
    · exact Nat.zero_le _
    · exact h'.wu a b
theorem OkS.begin (N : Nat) : OkS (st0 N) 0 := ⟨fun p hp => by simp [st0] at hp, fun _ _ => Nat.zero_le _, fun _ _ => Nat.zero_le _, fun _ _ => Nat.zero_le _, fun _ _ => Nat.zero_le _, fun _ => Nat.zero_le _, Nat.zero_le _⟩
end Go.Proofs.Ytbdlamlplfogjaa
namespace Go.Proofs.Ytbdlamlplfogjaa
open Go.RowKit Go.Maps Go.Joins
variable {P : Nat → Prop} {w w' : World} {n c : Nat} {S : St} {L : Ly}

theorem rwI : Rw 42 3 (.int .i64 0) 1 8 := ⟨by kernel_rfl, by kernel_rfl, rfl, by decide, by decide⟩
theorem rwII : Rw 40 42 (.slice none 0 0) 1 24 := ⟨by kernel_rfl, by kernel_rfl, rfl, by decide, by decide⟩
/-- a table of N rows of N numbers, of which the first k are there -/
structure MtI (Q : Nat → Prop) (w : World) (g N k : Nat) (hb : Nat → Nat) (f : Nat → Nat → Int) : Prop where
  qg : Q g
  at0 : ∃ cur : Array Value, w.heap[g]? = some (.cells cur 42 (0, 0)) ∧ cur.size = N ∧ ∀ i, i < k → cur[i]? = some (.slice (some ⟨hb i, 0, none⟩) N N)
  row : ∀ i, i < k → Q (hb i) ∧ ∃ r : Array Value, w.heap[hb i]? = some (.cells r 3 (0, 0)) ∧ r.size = N ∧ ∀ j, j < N → r[j]? = some (.int .i64 (f i j))
  dis : ∀ i j, i < k → j < k → i ≠ j → hb i ≠ hb j
theorem MtI.away {Q C : Nat → Prop} {g N k : Nat} {hb : Nat → Nat} {f : Nat → Nat → Int} (h : MtI Q w g N k hb f) (hc : Chg C w w') (hn : ∀ b, Q b → ¬ C b) : MtI Q w' g N k hb f := by
  obtain ⟨cur, h1, h2⟩ := h.at0
  refine ⟨h.qg, ⟨cur, hc.at_ h1 (hn _ h.qg), h2⟩, fun i hi => ?_, h.dis⟩
  obtain ⟨q, r, r1, r2⟩ := h.row i hi
  exact ⟨q, r, hc.at_ r1 (hn _ q), r2⟩
theorem MtI.kept {Q : Nat → Prop} {g N k : Nat} {hb : Nat → Nat} {f : Nat → Nat → Int} (h : MtI Q w g N k hb f) (hg : w.grownBy w' none) : MtI Q w' g N k hb f := h.away (Chg.of_none hg (fun _ => False)) (fun _ _ e => e)
theorem MtI.wide {Q Q' : Nat → Prop} {g N k : Nat} {hb : Nat → Nat} {f : Nat → Nat → Int} (h : MtI Q w g N k hb f) (hq : ∀ b, Q b → Q' b) : MtI Q' w g N k hb f :=
  ⟨hq _ h.qg, h.at0, fun i hi => ⟨hq _ (h.row i hi).1, (h.row i hi).2⟩, h.dis⟩
/-- what is read of it -/
theorem MtI.cell {Q : Nat → Prop} {g N k : Nat} {hb : Nat → Nat} {f : Nat → Nat → Int} (h : MtI Q w g N k hb f) {i j : Nat} (hi : i < k) (hj : j < N) : w.cell? ⟨g, i, none⟩ = some (.slice (some ⟨hb i, 0, none⟩) N N) ∧ w.cell? ⟨hb i, j, none⟩ = some (.int .i64 (f i j)) ∧ w.frozen? ⟨hb i, j, none⟩ = false ∧ g < w.heap.size ∧ hb i < w.heap.size := by
  obtain ⟨cur, h1, _, h3⟩ := h.at0
  obtain ⟨_, r, r1, _, r3⟩ := h.row i hi
  exact ⟨(cell_of_block h1 i).trans (h3 i hi), (cell_of_block r1 j).trans (r3 j hj), unfrozen_of_block r1 j, lt_of_heap h1, lt_of_heap r1⟩
/-- a number is written -/
theorem MtI.set {Q : Nat → Prop} {g N k : Nat} {hb : Nat → Nat} {f : Nat → Nat → Int} (h : MtI Q w g N k hb f) {i j : Nat} (hi : i < k) (v : Int) : MtI Q (w.setCell ⟨hb i, j, none⟩ (.int .i64 v)) g N k hb (upd2 f i j v) ∧ Chg (fun b => b = hb i) w (w.setCell ⟨hb i, j, none⟩ (.int .i64 v)) := by
  obtain ⟨cur, h1, h2, h3⟩ := h.at0
  obtain ⟨qi, r, r1, r2, r3⟩ := h.row i hi
  have CC := Chg.of_cell w ⟨hb i, j, none⟩ (.int .i64 v)
  have hne : g ≠ hb i := fun e => by rw [e, r1] at h1; simp at h1
  refine ⟨⟨h.qg, ⟨cur, CC.at_ h1 hne, h2, h3⟩, fun a ha => ?_, h.dis⟩, CC⟩
  by_cases e : a = i
  · subst e
    refine ⟨qi, r.setIfInBounds j (.int .i64 v), block_setCell r1 _, by simp [r2], fun b hb' => ?_⟩
    by_cases eb : b = j
    · rw [eb, upd2_same, Array.getElem?_setIfInBounds, if_pos rfl, if_pos (by omega)]
    · rw [upd2_other _ _ (fun e => eb e.2), Array.getElem?_setIfInBounds, if_neg (fun e => eb e.symm)]
      exact r3 b hb'
  · obtain ⟨qa, s, s1, s2, s3⟩ := h.row a ha
    refine ⟨qa, s, CC.at_ s1 (h.dis a i ha hi e), s2, fun b hb' => ?_⟩
    rw [upd2_other _ _ (fun e' => e e'.1)]
    exact s3 b hb'
/-- a row of zeros more -/
theorem MtI.more {Q : Nat → Prop} {g N k : Nat} {hb : Nat → Nat} (h : MtI Q w g N k hb (fun _ _ => 0)) (hk : k < N) (hN : N ≤ 1000) {w1 : World} {r : Array Value} (hr : w1.heap[w.heap.size]? = some (.cells r 3 (0, 0))) (hs : r.size = N * 1) (hz : ∀ j, j < N * 1 → r[j]? = (Value.int .i64 0).cells[j % 1]?) (g1 : w.grownBy w1 none) (hq : Q w.heap.size) :
    MtI Q (w1.setCell ⟨g, k, none⟩ (.slice (some ⟨w.heap.size, 0, none⟩) N N)) g N (k + 1) (upd hb k w.heap.size) (fun _ _ => 0) ∧ w1.cell? ⟨g, k, none⟩ ≠ none ∧ w1.frozen? ⟨g, k, none⟩ = false ∧ Chg (fun b => b = g) w (w1.setCell ⟨g, k, none⟩ (.slice (some ⟨w.heap.size, 0, none⟩) N N)) := by
  have h1 := h.kept g1
  obtain ⟨cur, c1, c2, c3⟩ := h1.at0
  obtain ⟨cu0, x0, _⟩ := h.at0
  have lg := lt_of_heap x0
  have CC := Chg.of_cell w1 ⟨g, k, none⟩ (.slice (some ⟨w.heap.size, 0, none⟩) N N)
  have := hN
  refine ⟨⟨h.qg, ⟨cur.setIfInBounds k (.slice (some ⟨w.heap.size, 0, none⟩) N N), block_setCell c1 _, by simp [c2], fun i hi => ?_⟩, fun i hi => ?_, fun i j hi hj hne => ?_⟩, ?_, unfrozen_of_block c1 k, (Chg.of_none g1 _).trans CC⟩
  · by_cases e : i = k
    · rw [e, upd_same, Array.getElem?_setIfInBounds, if_pos rfl, if_pos (by omega)]
    · rw [upd_other _ _ e, Array.getElem?_setIfInBounds, if_neg (fun e2 => e e2.symm)]
      exact c3 i (by omega)
  · by_cases e : i = k
    · rw [e, upd_same]
      refine ⟨hq, r, CC.at_ hr (fun e2 => ?_), by omega, fun j hj => ?_⟩
      · have e2 : w.heap.size = g := e2
        omega
      · rw [hz j (by omega), Nat.mod_one]; rfl
    · rw [upd_other _ _ e]
      obtain ⟨qa, s, s1, s2⟩ := h1.row i (by omega)
      refine ⟨qa, s, CC.at_ s1 (fun e2 => ?_), s2⟩
      have e2 : hb i = g := e2
      rw [e2, c1] at s1; simp at s1
  · have old : ∀ a, a < k → hb a < w.heap.size := fun a ha => by
      obtain ⟨_, s, s1, _⟩ := h.row a ha
      exact lt_of_heap s1
    by_cases e1 : i = k
    · have e2 : j ≠ k := fun e => hne (by omega)
      rw [e1, upd_same, upd_other _ _ e2]
      have := old j (by omega); omega
    · rw [upd_other _ _ e1]
      by_cases e2 : j = k
      · rw [e2, upd_same]
        have := old i (by omega); omega
      · rw [upd_other _ _ e2]; exact h.dis i j (by omega) (by omega) hne
  · rw [cell_of_block c1]
    show cur[k]? ≠ none
    rw [Array.getElem?_eq_getElem (by omega)]; simp
end Go.Proofs.Ytbdlamlplfogjaa
namespace Go.Proofs.Ytbdlamlplfogjaa
open Go.RowKit Go.Maps Go.Joins
variable {P : Nat → Prop} {w w' : World} {n c : Nat} {S : St} {L : Ly}

/-- how many wait of the first k at a node -/
def ctK (S : St) (a i k : Nat) : Nat := (((S.ms i).take k).filter (fun m => m.1 == a)).length
def cntF (S : St) (a b : Nat) : Nat := if S.dn b = true then 0 else (wt S a b).length
def ctF (S : St) (i k : Nat) : Nat → Nat → Int := fun a b => ((if b < i then cntF S a b else if b = i then ctK S a i k else 0 : Nat) : Int)
theorem ctK_zero (S : St) (a i : Nat) : ctK S a i 0 = 0 := rfl
theorem ctK_all (S : St) (a i : Nat) : ctK S a i (S.ms i).length = (wt S a i).length := by
  unfold ctK wt
  rw [List.take_length, List.length_map]
theorem ctK_step {i k : Nat} {m : Nat × ByteArray} (h : (S.ms i)[k]? = some m) (a : Nat) : ctK S a i (k + 1) = ctK S a i k + (if m.1 = a then 1 else 0) := by
  unfold ctK
  rw [List.take_add_one, h, List.filter_append, List.length_append]
  congr 1
  by_cases e : m.1 = a
  · rw [if_pos e]; simp [e]
  · rw [if_neg e]; simp [e]
theorem ctF_next (S : St) (i k : Nat) (h : S.dn i = true ∧ k = 0 ∨ S.dn i = false ∧ k = (S.ms i).length) : ctF S i k = ctF S (i + 1) 0 := by
  funext a b
  unfold ctF
  congr 1
  by_cases e1 : b < i
  · rw [if_pos e1, if_pos (by omega)]
  · rw [if_neg e1]
    by_cases e2 : b = i
    · rw [if_pos e2, if_pos (by omega), e2]
      unfold cntF
      rcases h with ⟨h1, h2⟩ | ⟨h1, h2⟩
      · rw [if_pos h1, h2]; rfl
      · rw [if_neg (by rw [h1]; simp), h2]; exact ctK_all S a i
    · rw [if_neg e2, if_neg (by omega)]
      split
      · rfl
      · rfl
theorem ctF_step {i k : Nat} {m : Nat × ByteArray} (h : (S.ms i)[k]? = some m) : upd2 (ctF S i k) m.1 i (ctF S i k m.1 i + 1) = ctF S i (k + 1) := by
  funext a b
  by_cases e : a = m.1 ∧ b = i
  · rw [e.1, e.2, upd2_same]
    unfold ctF
    rw [if_neg (Nat.lt_irrefl _), if_pos rfl, if_neg (Nat.lt_irrefl _), if_pos rfl, ctK_step h, if_pos rfl]
    rfl
  · rw [upd2_other _ _ e]
    unfold ctF
    congr 1
    split
    · rfl
    · split
      · rename_i e2
        rw [ctK_step h, if_neg (fun e3 => e ⟨e3.symm, e2⟩), Nat.add_zero]
      · rfl
/-- the clone that is being emptied, and the table -/
structure CtS (w : World) (S : St) (c cn g i k : Nat) (hb : Nat → Nat) (wr : World) : Prop where
  gr : w.grownBy wr none
  ex : ∃ (Pc : Nat → Prop) (Lc : Ly) (Sc : St), NetL Pc wr cn c Sc Lc ∧ Sc.N = S.N ∧ Sc.dn = S.dn ∧ (∀ b, i < b → Sc.ms b = S.ms b) ∧ Sc.ms i = (S.ms i).drop k ∧ (∀ b, Pc b → w.heap.size ≤ b) ∧ MtI (fun b => w.heap.size ≤ b ∧ b < wr.heap.size ∧ ¬ Pc b) wr g S.N S.N hb (ctF S i k)
/-- what count answers -/
def CtQ (w : World) (S : St) (r : Ending) (w' : World) : Prop := ∃ g hb, r = .returned (.slice (some ⟨g, 0, none⟩) S.N S.N) ∧ MtI (fun b => w.heap.size ≤ b ∧ b < w'.heap.size) w' g S.N S.N hb (fun a b => (cntF S a b : Int)) ∧ w.grownBy w' none
theorem CtS.recv {cn g i k : Nat} {hb : Nat → Nat} {wr w3 : World} {m : Nat × ByteArray} (gr : w.grownBy wr none) {Pc : Nat → Prop} {Sc : St} {rest : List (Nat × ByteArray)} (hN : Sc.N = S.N) (hd : Sc.dn = S.dn) (ho : ∀ b, i < b → Sc.ms b = S.ms b) (hm : (S.ms i)[k]? = some m) (hr : rest = (S.ms i).drop (k + 1)) (hP : ∀ b, Pc b → w.heap.size ≤ b) (hM : MtI (fun b => w.heap.size ≤ b ∧ b < wr.heap.size ∧ ¬ Pc b) wr g S.N S.N hb (ctF S i k)) (U : UpN Pc wr cn c { Sc with ms := upd Sc.ms i rest } w3) (hf : m.1 < S.N) :
    MtI (fun b => w.heap.size ≤ b ∧ b < w3.heap.size ∧ ¬ ext Pc wr w3 b) w3 g S.N S.N hb (ctF S i k) ∧ CtS w S c cn g i (k + 1) hb (w3.setCell ⟨hb m.1, i, none⟩ (.int .i64 (ctF S i k m.1 i + 1))) := by
  obtain ⟨L3, h3, C3⟩ := U
  have M3 := (hM.away C3 (fun b hb => hb.2.2)).wide (Q' := fun b => w.heap.size ≤ b ∧ b < w3.heap.size ∧ ¬ ext Pc wr w3 b) (fun b hb => ⟨hb.1, Nat.lt_of_lt_of_le hb.2.1 C3.size, fun e => by
    rcases e with e | e
    · exact hb.2.2 e
    · omega⟩)
  refine ⟨M3, ?_⟩
  obtain ⟨M4, C4⟩ := M3.set hf (i := m.1) (j := i) (ctF S i k m.1 i + 1)
  have q := (M3.row m.1 hf).1
  rw [ctF_step hm] at M4
  have h4 := h3.away C4 (fun b hb e => q.2.2 (by rw [← show b = _ from e]; exact hb))
  have gw3 : w.grownBy w3 none := ⟨C3.os.trans gr.os, C3.tape.trans gr.tape, C3.output.trans gr.output, Nat.le_trans gr.size C3.size, fun x hx hn => (C3.block x (Nat.lt_of_lt_of_le hx gr.size) (fun e => by have := hP x e; omega)).trans (gr.block x hx hn)⟩
  refine ⟨grown_set gw3 _ _ q.1, _, L3, _, h4, hN, hd, fun b hb' => ?_, ?_, fun b hb' => ?_, M4.wide (fun b hb' => ⟨hb'.1, by simpa using hb'.2.1, hb'.2.2⟩)⟩
  · show upd Sc.ms i rest b = _
    rw [upd_other _ _ (by omega)]; exact ho b hb'
  · show upd Sc.ms i rest i = _
    rw [upd_same, hr]
  · rcases hb' with e | e
    · exact hP b e
    · exact Nat.le_trans gr.size e.1
end Go.Proofs.Ytbdlamlplfogjaa
namespace Go.Proofs.Ytbdlamlplfogjaa
open Go.RowKit Go.Maps Go.Joins
variable {P : Nat → Prop} {w w' : World} {n c : Nat} {S : St} {L : Ly}

/-- the clone, and the table's first rows -/
structure CtA (w : World) (S : St) (c cn g k : Nat) (hb : Nat → Nat) (w1 wr : World) : Prop where
  gr : w.grownBy wr none
  s1 : w.heap.size ≤ w1.heap.size ∧ w1.heap.size ≤ wr.heap.size
  ex : ∃ Lc, NetL (fun i => w.heap.size ≤ i ∧ i < w1.heap.size) wr cn c S Lc
  mt : MtI (fun b => w1.heap.size ≤ b ∧ b < wr.heap.size) wr g S.N k hb (fun _ _ => 0)
theorem CtA.next {cn g k : Nat} {hb : Nat → Nat} {w1 wr w2 : World} {r : Array Value} (h : CtA w S c cn g k hb w1 wr) (hk : k < S.N) (h64 : S.N ≤ 64) (hr : w2.heap[wr.heap.size]? = some (.cells r 3 (0, 0))) (hs : r.size = S.N * 1) (hz : ∀ j, j < S.N * 1 → r[j]? = (Value.int .i64 0).cells[j % 1]?) (g1 : wr.grownBy w2 none) :
    w2.cell? ⟨g, k, none⟩ ≠ none ∧ w2.frozen? ⟨g, k, none⟩ = false ∧ CtA w S c cn g (k + 1) (upd hb k wr.heap.size) w1 (w2.setCell ⟨g, k, none⟩ (.slice (some ⟨wr.heap.size, 0, none⟩) S.N S.N)) := by
  have lt2 := lt_of_heap hr
  obtain ⟨m1, m2, m3, C⟩ := (h.mt.wide (Q' := fun b => w1.heap.size ≤ b ∧ b < w2.heap.size) (fun b hb => ⟨hb.1, Nat.lt_of_lt_of_le hb.2 g1.size⟩)).more hk (by omega) hr hs hz g1 ⟨h.s1.2, lt2⟩
  obtain ⟨Lc, hN⟩ := h.ex
  have qg := h.mt.qg
  refine ⟨m2, m3, grown_set (grown_none_trans h.gr g1) _ _ (Nat.le_trans h.s1.1 qg.1), ⟨h.s1.1, ?_⟩, ⟨Lc, hN.away C (fun b hb e => ?_)⟩, m1.wide (fun b hb => ⟨hb.1, by simpa using hb.2⟩)⟩
  · have := g1.size
    have := h.s1.2
    show w1.heap.size ≤ (w2.setCell _ _).heap.size
    rw [World.size_setCell]; omega
  · have e : b = g := e
    have := qg.1
    have := hb.2
    omega
theorem CtA.done {cn g : Nat} {hb : Nat → Nat} {w1 wr : World} (h : CtA w S c cn g S.N hb w1 wr) : CtS w S c cn g 0 0 hb wr := by
  obtain ⟨Lc, hN⟩ := h.ex
  have e0 : ctF S 0 0 = fun _ _ => 0 := by
    funext a b
    unfold ctF
    rw [if_neg (Nat.not_lt_zero _)]
    split
    · rfl
    · rfl
  refine ⟨h.gr, _, Lc, S, hN, rfl, rfl, fun _ _ => rfl, by simp, fun b hb => hb.1, ?_⟩
  rw [e0]
  exact h.mt.wide (fun b hb => ⟨Nat.le_trans h.s1.1 hb.1, hb.2, fun e => by omega⟩)
theorem CtS.up {cn g i k : Nat} {hb : Nat → Nat} {wr : World} (h : CtS w S c cn g i k hb wr) (he : S.dn i = true ∧ k = 0 ∨ S.dn i = false ∧ k = (S.ms i).length) : CtS w S c cn g (i + 1) 0 hb wr := by
  obtain ⟨Pc, Lc, Sc, h1, h2, h3, h4, h5, h6, h7⟩ := h.ex
  rw [ctF_next S i k he] at h7
  exact ⟨h.gr, Pc, Lc, Sc, h1, h2, h3, fun b hb => h4 b (by omega), by rw [h4 (i + 1) (by omega)]; simp, h6, h7⟩
theorem CtS.fin {cn g : Nat} {hb : Nat → Nat} {wr : World} (h : CtS w S c cn g S.N 0 hb wr) : ∃ hb', MtI (fun b => w.heap.size ≤ b ∧ b < wr.heap.size) wr g S.N S.N hb' (fun a b => (cntF S a b : Int)) := by
  obtain ⟨Pc, Lc, Sc, h1, h2, h3, h4, h5, h6, h7⟩ := h.ex
  refine ⟨hb, h7.qg |> fun q => ⟨⟨q.1, q.2.1⟩, h7.at0, fun i hi => ?_, h7.dis⟩⟩
  obtain ⟨q1, r, r1, r2, r3⟩ := h7.row i hi
  refine ⟨⟨q1.1, q1.2.1⟩, r, r1, r2, fun j hj => ?_⟩
  rw [r3 j hj]
  unfold ctF
  rw [if_pos hj]
set_option maxHeartbeats 4000000 in
set_option maxRecDepth 100000 in
theorem count_any (h : NetL P w n c S L) {B : Nat} (ok : OkS S B) (hl : S.fl.length ≤ 100000) (hc : c ≤ 1000000000) (hfr : ∀ j, j < S.N → ∀ m ∈ S.ms j, m.1 < S.N) : Calls Try.prog 17 #[.pointer (some ⟨n, 0, none⟩), .int .i64 S.N] w (CtQ w S) := by
  have hB := ok.lt
  have CL := mkHid (Clone_any h hl (fun i => by have := ok.ml i; omega) (fun i j => by have := ok.wu i j; omega) hc)
  have h64 := h.n64
  have h1 := h.n1
  have hml : ∀ i, (S.ms i).length ≤ 3000000 := fun i => by have := ok.ml i; omega
  obtain ⟨N, hN⟩ : ∃ N, N = S.N := ⟨_, rfl⟩
  have HN := mkHid hN
  rw [← hN] at h64 h1 ⊢
  clear h ok hN hl
  go_enter Try.func17, Try.ntmps17
  go_wp2_with fail
  refine CL.out.mono ?_
  rintro e w1 ⟨cn, Lc, rfl, hLc, g1⟩
  obtain ⟨w2, cur, hr, hb2, hs2, _, g2⟩ := rwII.make w1 N (by omega)
  have A0 : Hid (CtA w S c cn w1.heap.size 0 (fun _ => 0) w1 w2) := by
    refine ⟨grown_none_trans g1 g2, ⟨g1.size, g2.size⟩, ⟨Lc, hLc.kept g2⟩, ⟨⟨Nat.le_refl _, lt_of_heap hb2⟩, ⟨cur, hb2, by rw [hs2, show N = S.N from HN.out]; omega, fun i hi => by omega⟩, fun i hi => by omega, fun i j hi => by omega⟩⟩
  obtain ⟨g, hg⟩ : ∃ g, g = w1.heap.size := ⟨_, rfl⟩
  rw [← hg] at A0 hr
  clear hLc g1 hb2 hs2 g2 hg CL
  go_wp2_with (first | (at_make; refine wp_make 40 rfl (.tmp 19) (.tmp 19) rfl rfl rfl hr ?_) | fail)
  clear hr
  go_loopw [7] (fun s7 wr => ∃ (k : Nat) (hb : Nat → Nat), s7 = .int .i64 (k : Int) ∧ k ≤ N ∧ Hid (CtA w S c cn g k hb w1 wr)) (fun s7 _ => N - (intOf s7).toNat)
  case atStart => exact ⟨0, _, rfl, Nat.zero_le _, A0⟩
  case round =>
    obtain ⟨k, hb, rfl, hk, CA⟩ := hrel
    by_cases hlt : k < N
    · have hlti : (k : Int) < (N : Int) := by omega
      obtain ⟨w3, r, hr3, b3, s3, z3, g3⟩ := rwI.make wr N (by omega)
      rw [show N = S.N from HN.out] at s3 z3
      obtain ⟨q1, q2, NX⟩ := CA.out.next (by rw [← show N = S.N from HN.out]; exact hlt) (by rw [← show N = S.N from HN.out]; exact h64) b3 s3 z3 g3
      rw [← show N = S.N from HN.out] at NX
      obtain ⟨u, hu⟩ : ∃ u, w3.cell? ⟨g, k, none⟩ = some u := by
        cases hq : w3.cell? ⟨g, k, none⟩ with
        | none => exact absurd hq q1
        | some u => exact ⟨u, rfl⟩
      have HNX := mkHid NX
      clear b3 s3 z3 g3 q1 NX
      go_wp2_with (first | (at_make; refine wp_make 42 rfl (.tmp 28) (.tmp 28) rfl rfl rfl hr3 ?_) | fail)
      go_roundw
      case rel => exact ⟨k + 1, _, by go_num, hlt, HNX⟩
      case measure => simp [intOf]; omega
    · obtain rfl : k = N := by omega
      have D0 : Hid (CtS w S c cn g 0 0 hb wr) := by
        have := CA.out
        rw [show k = S.N from HN.out] at this
        exact this.done
      clear CA
      go_wp2_with fail
      go_loopw [8] (fun s8 wr => ∃ (i : Nat), s8 = .int .i64 (i : Int) ∧ i ≤ k ∧ Hid (CtS w S c cn g i 0 hb wr)) (fun s8 _ => k - (intOf s8).toNat)
      case atStart => exact ⟨0, rfl, Nat.zero_le _, D0⟩
      case round =>
        obtain ⟨i, rfl, hi, CS⟩ := hrel
        by_cases hli : i < k
        · have hlii : (i : Int) < (k : Int) := by omega
          have hiN : i < S.N := by rw [← show k = S.N from HN.out]; exact hli
          obtain ⟨Pc, Lc2, Sc, n1, n2, n3, n4, n5, n6, n7⟩ := CS.out.ex
          have WT := mkHid (Waits_any n1 i)
          have eI : isS Sc (i : Int) = !S.dn i := by
            unfold isS
            rw [n2, n3, decide_eq_true (by omega), Bool.true_and]; rfl
          rw [eI, show ((i : Int)).toNat = i from rfl, n5, List.drop_zero] at WT
          clear n1 n2 n3 n4 n5 n6 n7 eI
          cases hd : S.dn i with
          | true =>
            rw [hd] at WT
            have C2 := mkHid (CS.out.up (Or.inl ⟨hd, rfl⟩))
            clear CS
            go_wp2_with fail
            refine WT.out.mono ?_
            rintro e w1 ⟨rfl, hwx⟩; have hwx2 := hwx.symm; subst hwx2; clear hwx
            go_wp2_with fail
            go_loopw [11] (fun s11 wr => s11 = .int .i64 0 ∧ Hid (CtS w S c cn g (i + 1) 0 hb wr)) (fun _ _ => 0)
            case atStart => exact ⟨rfl, C2⟩
            case round =>
              obtain ⟨rfl, C3⟩ := hrel
              go_wp2_with fail
              go_roundw
              case rel => exact ⟨i + 1, by go_num, hli, C3⟩
              case measure => simp [intOf]; omega
          | false =>
            rw [hd] at WT
            have hM := hml i
            obtain ⟨M, hMe⟩ : ∃ M, M = (S.ms i).length := ⟨_, rfl⟩
            have HM := mkHid hMe
            rw [← hMe] at hM
            have WT2 : Hid (Calls Try.prog 43 #[.pointer (some ⟨cn, 0, none⟩), .int .i64 i] wr fun e w' => e = .returned (.tuple #[.int .i64 M, .int .i64 0]) ∧ w' = wr) := by
              refine WT.out.mono ?_
              rintro e w1 ⟨rfl, h2⟩
              rw [hMe]
              exact ⟨rfl, h2⟩
            clear WT hMe
            go_wp2_with fail
            refine WT2.out.mono ?_
            rintro e w1 ⟨rfl, hwx⟩; have hwx2 := hwx.symm; subst hwx2; clear hwx
            clear WT2
            go_wp2_with fail
            go_loopw [11] (fun s11 wr => ∃ q : Nat, s11 = .int .i64 (q : Int) ∧ q ≤ M ∧ Hid (CtS w S c cn g i q hb wr)) (fun s11 _ => M - (intOf s11).toNat)
            case atStart => exact ⟨0, rfl, Nat.zero_le _, CS⟩
            case round =>
              obtain ⟨q, rfl, hq, CQ⟩ := hrel
              by_cases hlq : q < M
              · have hlqi : (q : Int) < (M : Int) := by omega
                obtain ⟨m, hm⟩ : ∃ m, (S.ms i)[q]? = some m := ⟨_, List.getElem?_eq_getElem (show q < (S.ms i).length by rw [← show M = _ from HM.out]; exact hlq)⟩
                have hf : m.1 < S.N := hfr i hiN m (List.mem_of_getElem? hm)
                obtain ⟨Pc, Lc2, Sc, n1, n2, n3, n4, n5, n6, n7⟩ := CQ.out.ex
                have gw := CQ.out.gr
                have ed : Sc.ms i = m :: (S.ms i).drop (q + 1) := by
                  have hl := (List.getElem?_eq_some_iff.1 hm).1
                  rw [n5, List.drop_eq_getElem_cons hl]
                  rw [List.getElem?_eq_getElem hl] at hm
                  cases hm; rfl
                have eI : isS Sc (i : Int) = true := by
                  unfold isS
                  rw [n2, n3, decide_eq_true (by omega), Bool.true_and, show ((i : Int)).toNat = i from rfl, hd]; rfl
                have RC : Hid (Calls Try.prog 16 #[.pointer (some ⟨cn, 0, none⟩), .int .i64 i] wr fun e w3 => ∃ gb cap, e = .returned (.tuple #[.agg #[.int .i64 m.1, .slice (some ⟨gb, 0, none⟩) m.2.data.toList.length cap], .bool true, .int .i64 0]) ∧ UpN Pc wr cn c { Sc with ms := upd Sc.ms i ((S.ms i).drop (q + 1)) } w3) := by
                  refine (Recv_any n1 i).mono ?_
                  rintro e w3 (⟨z, _⟩ | ⟨i', z, _, z2, _⟩ | ⟨i', m', rest, gb, cap, z, _, z2, rfl, _, _, U⟩)
                  · rw [eI] at z; cases z
                  · obtain rfl : i' = i := by omega
                    rw [ed] at z2; cases z2
                  · obtain rfl : i' = i := by omega
                    rw [ed] at z2
                    cases z2
                    exact ⟨gb, cap, rfl, U⟩
                have hf2 : (m.1 : Int) < (k : Int) := by rw [show k = S.N from HN.out]; omega
                have hf3 : ¬ (m.1 : Int) < 0 := by omega
                have NXT : Hid (∀ w4, UpN Pc wr cn c { Sc with ms := upd Sc.ms i ((S.ms i).drop (q + 1)) } w4 → MtI (fun b => w.heap.size ≤ b ∧ b < w4.heap.size ∧ ¬ ext Pc wr w4 b) w4 g S.N S.N hb (ctF S i q) ∧ CtS w S c cn g i (q + 1) hb (w4.setCell ⟨hb m.1, i, none⟩ (.int .i64 (ctF S i q m.1 i + 1)))) := fun w4 U => CtS.recv gw n2 n3 n4 hm rfl n6 n7 U hf
                have bd : ctF S i q m.1 i ≤ 3000000 ∧ 0 ≤ ctF S i q m.1 i := by
                  unfold ctF
                  rw [if_neg (Nat.lt_irrefl _), if_pos rfl]
                  have : ctK S m.1 i q ≤ (S.ms i).length := by
                    unfold ctK
                    exact Nat.le_trans (List.length_filter_le _ _) (by rw [List.length_take]; omega)
                  have := hml i
                  omega
                obtain ⟨V, hV⟩ : ∃ V, V = ctF S i q m.1 i := ⟨_, rfl⟩
                have HV := mkHid hV
                rw [← hV] at bd
                clear n1 n2 n3 n4 n5 n6 n7 gw ed eI CQ hV
                go_wp2_with fail
                refine RC.out.mono ?_
                rintro e w3 ⟨gb, cap, rfl, U3⟩
                obtain ⟨M4, C4⟩ := NXT.out _ (U3.grow (World.grownBy_alloc w3 (.cells #[.int .i64 m.1, .slice (some ⟨gb, 0, none⟩) m.2.size cap] 51) none))
                obtain ⟨x0, x1, x2, x3, x4⟩ := M4.cell hf hiN
                rw [← show V = _ from HV.out] at x1 C4
                rw [← show k = S.N from HN.out] at x0
                have HC4 := mkHid C4
                clear M4 C4 U3 RC NXT
                go_wp2_with fail
                go_roundw
                case rel => exact ⟨q + 1, by go_num, hlq, HC4⟩
                case measure => simp [intOf]; omega
              · obtain rfl : q = M := by omega
                have C3 := mkHid (CQ.out.up (Or.inr ⟨hd, HM.out⟩))
                clear CQ
                go_wp2_with fail
                go_roundw
                case rel => exact ⟨i + 1, by go_num, hli, C3⟩
                case measure => simp [intOf]; omega
        · obtain rfl : i = k := by omega
          have F : Hid (∃ hb', MtI (fun b => w.heap.size ≤ b ∧ b < wr.heap.size) wr g S.N S.N hb' (fun a b => (cntF S a b : Int))) := by
            have := CS.out
            rw [show i = S.N from HN.out] at this
            exact this.fin
          have G := mkHid CS.out.gr
          clear CS
          go_wp2_with fail
          go_ret
          obtain ⟨hb', F'⟩ := F.out
          exact ⟨g, hb', by rw [← show i = S.N from HN.out]; rfl, F', G.out⟩
end Go.Proofs.Ytbdlamlplfogjaa
namespace Go.Proofs.Ytbdlamlplfogjaa
open Go.RowKit Go.Maps Go.Joins
variable {P : Nat → Prop} {w w' : World} {n c : Nat} {S : St} {L : Ly}

theorem kd_same {a b : World} {k : Nat} (h : a.heap[k]? = b.heap[k]?) : kd a k = kd b k := by unfold kd; rw [h]
theorem conv_str2 (w : World) (s : ByteArray) : ∃ cap w', (convert 9 27 (.string s)).run Try.prog w = .ok (.slice (some ⟨w.heap.size, 0, none⟩) s.data.toList.length cap) w' ∧ w.grownBy w' none ∧ w'.heap.size = w.heap.size + 1 ∧ bys w' (some ⟨w.heap.size, 0, none⟩) s.data.toList ∧ kd w' w.heap.size = 5 + 2 := by
  refine ⟨_, _, Lib.run_convert_string_bytes w 9 27 5 s strT u8Slice u8T, ⟨rfl, rfl, rfl, by rw [Lib.bytesWorld_size]; omega, fun k hk _ => Lib.bytesWorld_at_old w _ s k hk⟩, Lib.bytesWorld_size w _ s, Or.inr ⟨_, _, rfl, fun i x hx => ?_⟩, kd_cells (Lib.bytesWorld_at_new w _ s)⟩
  have hi := (List.getElem?_eq_some_iff.1 hx).1
  rw [Nat.zero_add, Lib.bytesWorld_cell w _ s i (by simpa using hi)]
  rw [List.getD_eq_getElem?_getD, hx]; rfl
/-- what 'Recv' answers where a message waits -/
def RsQ (P : Nat → Prop) (w : World) (n c : Nat) (S : St) (i : Nat) (m : Nat × ByteArray) (rest : List (Nat × ByteArray)) (r : Ending) (w' : World) : Prop :=
  ∃ (g cap : Nat), r = .returned (.tuple #[msV m.1 (some ⟨g, 0, none⟩) m.2.data.toList.length cap, .bool true, .int .i64 0]) ∧ w.heap.size ≤ g ∧ kd w' g = 5 + 2 ∧ bys w' (some ⟨g, 0, none⟩) m.2.data.toList ∧ UpN P w n c { S with ms := upd S.ms i rest } w'
set_option maxHeartbeats 1000000 in
set_option maxRecDepth 100000 in
theorem Recv_kd (h : NetL P w n c S L) (i : Nat) (hs : isS S (i : Int) = true) (m : Nat × ByteArray) (rest : List (Nat × ByteArray)) (hm : S.ms i = m :: rest) : Calls Try.prog 16 #[.pointer (some ⟨n, 0, none⟩), .int .i64 i] w (RsQ P w n c S i m rest) := by
  have g1 := mkHid (grown_al (grown_refl w) (.cells #[.int .i64 0, .slice none 0 0] 51))
  have IS := mkHid (Is_any (h.kept g1.out) i)
  rw [hs] at IS
  have hi : i < S.N := by obtain ⟨j, h1, h2, _⟩ := isS_in hs; omega
  have hi2 : (i : Int) < (S.N : Int) := by omega
  obtain ⟨c0, _⟩ := h.cs
  obtain ⟨_, d1, _⟩ := h.cn hi
  have hw := h.wts i hi
  rw [hm] at hw
  rcases hw.2 with ⟨_, h0⟩ | ⟨g, off, cap, cur, hv, hg, hn1, hn2, _, hcs⟩
  · simp at h0
  have m0 : w.cell? ⟨g, off, none⟩ = some (.int .i64 m.1) := (cell_of_block hg (off + 0)).trans (hcs 0 _ rfl)
  have m1 : w.cell? ⟨g, off + 1, none⟩ = some (.string m.2) := (cell_of_block hg (off + 1)).trans (hcs 1 _ rfl)
  have hgl := lt_of_heap hg
  rw [hv] at d1
  have hn := lt_of_heap h.net
  have hnb : L.nb < w.heap.size := h.pb _ h.pnb
  have g2 := mkHid (grown_al g1.out (.cells #[.int .i64 m.1, .string m.2] 82))
  have B1 := mkHid (al2_fst w (.cells #[.int .i64 0, .slice none 0 0] 51) (.cells #[.int .i64 m.1, .string m.2] 82))
  have B2 := mkHid (al2_snd w (.cells #[.int .i64 0, .slice none 0 0] 51) (.cells #[.int .i64 m.1, .string m.2] 82))
  rw [hv] at hw
  rw [List.length_cons] at hw hv d1 hn1
  have BH := mkHid (fun (w5 : World) (g5 : w.grownBy w5 none) => behindM (w := w5) (.slice (some ⟨g, off, none⟩) (rest.length + 1) cap) (m :: rest) 1 rest.length (hw.kept (Chg.of_none g5 (fun _ => False)) (fun _ _ e => e)) (by omega))
  have hne : g ≠ L.nb := fun e => by
    have := h.knb
    rw [← e, kd_cells hg] at this; simp at this
  have hgn : g ≠ n := fun e => by
    have := h.kn
    rw [← e, kd_cells hg] at this; simp at this
  have HV := mkHid hv
  have H := mkHid h
  have ed : (msC (m :: rest)).drop (1 * 2) = msC rest := rfl
  rw [ed] at BH
  obtain ⟨r, hr⟩ : ∃ r, r = rest.length := ⟨_, rfl⟩
  have HR := mkHid hr
  rw [← hr] at BH d1 hn1
  have hmx : r + 1 ≤ maxLen := by omega
  unfold maxLen at hmx
  clear h hw hcs hg ed hr hv hn2
  go_enter Try.func16, Try.ntmps16
  go_wp2_with fail
  refine IS.out.mono ?_
  rintro e w1 ⟨rfl, hwx⟩; have hwx2 := hwx.symm; subst hwx2; clear hwx
  go_wp2_with fail
  refine (BH.out _ g2.out).mono ?_
  rintro e w3 ⟨v3, rfl, s3, g3, o3⟩
  obtain ⟨p3, c3, rfl, _⟩ := s3.form
  have K1 := box_keep B1.out g3 (by simp [Value.ownBlock]; omega)
  have K2 := box_keep B2.out g3 (by simp [Value.ownBlock]; omega)
  obtain ⟨cur, hb, _, _, _, r4⟩ := (H.out.kept g2.out).nds
  have K3 := box_keep hb g3 (by simp [Value.ownBlock]; omega)
  have n1 : w3.cell? ⟨L.nb, i * 2 + 1, none⟩ = some (L.vs i) := (cell_of_block K3 _).trans (r4 i hi).2
  have nf : w3.frozen? ⟨L.nb, i * 2 + 1, none⟩ = false := unfrozen_of_block K3 _
  have K1' := box_keep K1 (grown_setCell w3 ⟨L.nb, i * 2 + 1, none⟩ (.slice p3 r c3)) (by simp; omega)
  have K2' := box_keep K2 (grown_setCell w3 ⟨L.nb, i * 2 + 1, none⟩ (.slice p3 r c3)) (by simp; omega)
  have szs : w.heap.size + 2 ≤ (w3.setCell ⟨L.nb, i * 2 + 1, none⟩ (.slice p3 r c3)).heap.size := by
    have := g3.size; simpa using this
  obtain ⟨cc, w5, hcv, g5, sz5, by5, kd5⟩ := conv_str2 (w3.setCell ⟨L.nb, i * 2 + 1, none⟩ (.slice p3 r c3)) m.2
  have K1'' := box_keep K1' g5 (by simp)
  obtain ⟨e0, e1, ef⟩ := cells2 K1''
  obtain ⟨b0, b1, _⟩ := cells2 K2'
  have ef0 := ef 0
  have ef1 := ef 1
  have FN : Hid (∀ W, Chg (fun k => w.heap.size ≤ k) (w3.setCell ⟨L.nb, i * 2 + 1, none⟩ (.slice p3 r c3)) W → UpN P w n c { S with ms := upd S.ms i rest } W) := fun W C => H.out.recv_fin hi g2.out (w3 := w3) (by rw [HV.out]; exact g3) (by rw [← show r = rest.length from HR.out]; exact s3) (by rw [HV.out]; exact o3) C
  have G5 := mkHid g5
  have BY := mkHid by5
  have KD := mkHid kd5
  have SZ := mkHid szs
  generalize hW4 : w3.setCell ⟨L.nb, i * 2 + 1, none⟩ (.slice p3 r c3) = w4 at *
  clear s3 g3 o3 K1 K2 K3 K1' K2' K1'' ef hb r4 g5 by5 szs kd5
  go_wp2_with fail
  refine bodyPost_ret (v := .tuple #[.agg #[.int .i64 m.1, .slice (some ⟨w4.heap.size, 0, none⟩) m.2.data.toList.length cc], .bool true, .int .i64 0]) (by unfold results; rw [Try.results16]; go_simp) rfl ?_
  have hs4 := SZ.out
  have C5 := (((Chg.of_none G5.out (fun k => w.heap.size ≤ k)).set ⟨w.heap.size, 0, none⟩ (.int .i64 m.1) (Nat.le_refl _)).set ⟨w.heap.size, 1, none⟩ (.slice (some ⟨w4.heap.size, 0, none⟩) m.2.data.toList.length cc) (Nat.le_refl _))
  refine ⟨w4.heap.size, cc, rfl, by omega, ?_, ?_, FN.out _ C5⟩
  · exact (kd_same ((((Chg.refl (fun k => k = w.heap.size) w5).set ⟨w.heap.size, 0, none⟩ (.int .i64 m.1) rfl).set ⟨w.heap.size, 1, none⟩ (.slice (some ⟨w4.heap.size, 0, none⟩) m.2.data.toList.length cc) rfl).block _ (by rw [sz5]; omega) (show ¬ w4.heap.size = w.heap.size by omega))).trans KD.out
  · exact BY.out.chg (((Chg.refl (fun k => k = w.heap.size) w5).set ⟨w.heap.size, 0, none⟩ (.int .i64 m.1) rfl).set ⟨w.heap.size, 1, none⟩ (.slice (some ⟨w4.heap.size, 0, none⟩) m.2.data.toList.length cc) rfl) (fun a e => by cases e; show ¬ w4.heap.size = w.heap.size; omega)

/-- a net of its own, made behind w0 -/
def LvN (w0 : World) (n c : Nat) (S : St) (w : World) : Prop := w0.grownBy w none ∧ ∃ L, NetL (blk n S.N L) w n c S L ∧ ∀ b, blk n S.N L b → w0.heap.size ≤ b
/-- blocks that no net holds are as they were -/
def Kp (w w' : World) : Prop := w.heap.size ≤ w'.heap.size ∧ ∀ b, (kd w b = 5 + 2 ∨ kd w b = 51 + 2) → w'.heap[b]? = w.heap[b]?
theorem Kp.of_grown (h : w.grownBy w' none) : Kp w w' := by
  refine ⟨h.size, fun b hb => h.block b ?_ (by simp)⟩
  rcases Nat.lt_or_ge b w.heap.size with hl | hl
  · exact hl
  · exfalso
    unfold kd at hb
    rw [Array.getElem?_eq_none hl] at hb
    revert hb
    decide
theorem Kp.trans {a b d : World} (h : Kp a b) (k : Kp b d) : Kp a d :=
  ⟨Nat.le_trans h.1 k.1, fun x hx => (k.2 x (by rw [kd_same (h.2 x hx)]; exact hx)).trans (h.2 x hx)⟩
theorem LvN.up {w0 : World} {c2 : Nat} {S2 : St} {L : Ly} (g : w0.grownBy w none) (h : NetL (blk n S.N L) w n c S L) (hb : ∀ b, blk n S.N L b → w0.heap.size ≤ b) (U : UpN (blk n S.N L) w n c2 S2 w') : LvN w0 n c2 S2 w' ∧ Kp w w' := by
  obtain ⟨L2, h2, C⟩ := U
  refine ⟨⟨⟨C.os.trans g.os, C.tape.trans g.tape, C.output.trans g.output, Nat.le_trans g.size C.size, fun x hx hn => (C.block x (Nat.lt_of_lt_of_le hx g.size) (fun e => by have := hb x e; omega)).trans (g.block x hx hn)⟩, L2, h2.tight, fun b hb2 => ?_⟩, C.size, fun b hk => ?_⟩
  · rcases h2.blkP b hb2 with e | e
    · exact hb b e
    · exact Nat.le_trans g.size e.1
  · refine C.block b ?_ ?_
    · rcases Nat.lt_or_ge b w.heap.size with hl | hl
      · exact hl
      · exfalso
        unfold kd at hk
        rw [Array.getElem?_eq_none hl] at hk
        revert hk
        decide
    · rcases hk with hk | hk
      · exact h.other hk (by decide) (by decide) (by decide) (by decide) (by decide)
      · exact h.other hk (by decide) (by decide) (by decide) (by decide) (by decide)
theorem LvN.kept {w0 : World} (h : LvN w0 n c S w) (g : w.grownBy w' none) : LvN w0 n c S w' := by
  obtain ⟨g0, L, h1, h2⟩ := h
  exact ⟨grown_none_trans g0 g, L, h1.kept g, h2⟩
/-- what a call upon it leaves -/
def LvQ (w0 w : World) (n c : Nat) (S : St) (er : Int) (r : Ending) (w' : World) : Prop := r = .returned (.int .i64 er) ∧ LvN w0 n c S w' ∧ Kp w w'
theorem LvN.call {w0 : World} {c2 : Nat} {S2 : St} {er : Int} {f : Nat} {args : Array Value} (h : LvN w0 n c S w) (k : ∀ P L, NetL P w n c S L → Calls Try.prog f args w (ErQ P w n c2 S2 er)) : Calls Try.prog f args w (LvQ w0 w n c2 S2 er) := by
  obtain ⟨g, L, h1, h2⟩ := h
  refine (k _ _ h1).mono ?_
  rintro e w1 ⟨rfl, U⟩
  exact ⟨rfl, LvN.up g h1 h2 U⟩
def LrQ (w0 w : World) (n c : Nat) (S : St) (m : Nat × ByteArray) (r : Ending) (w' : World) : Prop := ∃ (g cap : Nat), r = .returned (.tuple #[.agg #[.int .i64 m.1, .slice (some ⟨g, 0, none⟩) m.2.size cap], .bool true, .int .i64 0]) ∧ kd w' g = 5 + 2 ∧ bys w' (some ⟨g, 0, none⟩) m.2.data.toList ∧ LvN w0 n c S w' ∧ Kp w w'
theorem LvN.recv {w0 : World} (h : LvN w0 n c S w) (i : Nat) (hs : isS S (i : Int) = true) (m : Nat × ByteArray) (rest : List (Nat × ByteArray)) (hm : S.ms i = m :: rest) : Calls Try.prog 16 #[.pointer (some ⟨n, 0, none⟩), .int .i64 i] w (LrQ w0 w n c { S with ms := upd S.ms i rest } m) := by
  obtain ⟨g, L, h1, h2⟩ := h
  refine (Recv_kd h1 i hs m rest hm).mono ?_
  rintro e w1 ⟨b, cap, rfl, _, k, B, U⟩
  exact ⟨b, cap, rfl, k, B, LvN.up g h1 h2 U⟩
end Go.Proofs.Ytbdlamlplfogjaa
namespace Go.Proofs.Ytbdlamlplfogjaa
open Go.RowKit Go.Maps Go.Joins
variable {P : Nat → Prop} {w w' : World} {n c : Nat} {S : St} {L : Ly}

def lvA : St := sendT (st0 2) 0 1 ⟨#[97]⟩
def lvB : St := sendT lvA 0 1 ⟨#[98]⟩
def lvC : St := delivS lvB 1
def lvD : St := delivS lvC 0
def lvE : Nat → St
  | 0 => tickS lvD 0
  | k + 1 => delivS (lvE k) 0
def lvF : St := { lvE 9 with ms := upd (lvE 9).ms 1 [(0, ⟨#[98]⟩)] }
def lvG : St := { lvF with ms := upd lvF.ms 1 [] }
theorem lv_e1 : sendE (st0 2) 0 1 1 = 0 := by kernel_rfl
theorem lv_e2 : sendE lvA 0 1 1 = 0 := by kernel_rfl
theorem lv_e3 : flE lvB 1 = 0 := by kernel_rfl
theorem lv_e4 : flE lvC 0 = 0 := by kernel_rfl
theorem lv_e5 : isE lvD 0 = 0 := by kernel_rfl
theorem lv_m1 : (lvE 9).ms 1 = [(0, ⟨#[97]⟩), (0, ⟨#[98]⟩)] := by kernel_rfl
theorem lv_m2 : lvF.ms 1 = [(0, ⟨#[98]⟩)] := by kernel_rfl
theorem lv_m3 : lvG.ms 1 = [] := by kernel_rfl
theorem lv_i1 : isS (lvE 9) 1 = true := by kernel_rfl
theorem lv_i2 : isS lvF 1 = true := by kernel_rfl
theorem lv_i3 : isS lvG 1 = true := by kernel_rfl
theorem OkS.deliver {B : Nat} (h : OkS S B) (hB : B + 1 ≤ 3000000) (k : Int) : OkS (delivS S k) (B + 1) := h.alone hB ⟨2, 0, 0, k, none, [], 0, false⟩
theorem OkS.tick {B : Nat} (h : OkS S B) (hB : B + 1 ≤ 3000000) (k : Int) : OkS (tickS S k) (B + 1) := h.alone hB ⟨5, k, 0, 0, none, [], 0, false⟩
theorem lvA_eq : lvA = sendS (st0 2) 0 1 ⟨#[97]⟩ := by kernel_rfl
theorem lvB_eq : lvB = sendS lvA 0 1 ⟨#[98]⟩ := by kernel_rfl
theorem okA : OkS lvA 1 := by rw [lvA_eq]; exact (OkS.begin 2).send (by omega) _ (by decide) (by decide) (by decide)
theorem okB : OkS lvB 2 := by
  rw [lvB_eq]
  have e1 : lvA.N = 2 := by kernel_rfl
  have e2 : (lvA.wy 0 1).us.length = 1 := by kernel_rfl
  exact okA.send (by omega) _ (by omega) (by omega) (by omega)
theorem okC : OkS lvC 3 := okB.deliver (by omega) 1
theorem okD : OkS lvD 4 := okC.deliver (by omega) 0
theorem okE : ∀ k, k ≤ 9 → OkS (lvE k) (5 + k)
  | 0, _ => okD.tick (by omega) 0
  | k + 1, h => (okE k (by omega)).deliver (by omega) 0
theorem LvN.send {w0 : World} {g cap : Nat} {x : UInt8} (h : LvN w0 n c S w) {B : Nat} (ok : OkS S B) (hc : c ≤ 900000000) (hb : w.cell? ⟨g, 0, none⟩ = some (.int .u8 (x.toNat : Int))) : Calls Try.prog 14 #[.pointer (some ⟨n, 0, none⟩), .int .i64 0, .int .i64 1, .slice (some ⟨g, 0, none⟩) 1 cap] w (LvQ w0 w n (c + 1) (sendT S 0 1 ⟨#[x]⟩) (sendE S 0 1 1)) := by
  have hB := ok.lt
  refine h.call (fun P L hL => ?_)
  exact Send_any hL 0 1 (some ⟨g, 0, none⟩) [x] cap (Or.inr ⟨g, 0, rfl, fun i y hy => by
    cases i with
    | zero => cases hy; exact hb
    | succ i => simp at hy⟩) (fun e => by cases e) (fun i j => by
    have := ok.wb i j; have := ok.wt i j; have := ok.wu i j; omega) (by omega)
theorem LvN.deliver {w0 : World} (h : LvN w0 n c S w) (k : Int) {B : Nat} (ok : OkS S B) (hc : c ≤ 900000000) : Calls Try.prog 23 #[.pointer (some ⟨n, 0, none⟩), .int .i64 k] w (LvQ w0 w n (c + 1) (delivS S k) (flE S k)) :=
  h.call (fun P L hL => Deliver_any hL k ok (by omega))
theorem LvN.tick {w0 : World} (h : LvN w0 n c S w) (k : Int) {B : Nat} (ok : OkS S B) : Calls Try.prog 22 #[.pointer (some ⟨n, 0, none⟩), .int .i64 k] w (LvQ w0 w n c (tickS S k) (isE S k)) := by
  have hB := ok.lt
  exact h.call (fun P L hL => Tick_any hL k (fun i j => by have := ok.wb i j; omega) (fun i j => by have := ok.wt i j; omega) ok.wu)
def LzQ (w0 w : World) (n c : Nat) (S : St) (r : Ending) (w' : World) : Prop := r = .returned (.tuple #[.agg #[.int .i64 0, .slice none 0 0], .bool false, .int .i64 0]) ∧ LvN w0 n c S w' ∧ Kp w w'
theorem LvN.recv0 {w0 : World} (h : LvN w0 n c S w) (i : Nat) (hs : isS S (i : Int) = true) (hm : S.ms i = []) : Calls Try.prog 16 #[.pointer (some ⟨n, 0, none⟩), .int .i64 i] w (LzQ w0 w n c S) := by
  obtain ⟨g, L, h1, h2⟩ := h
  refine (Recv_any h1 i).mono ?_
  rintro e w3 (⟨z, _⟩ | ⟨i', z, _, z2, rfl, U⟩ | ⟨i', m', rest, gb, cap, z, _, z2, _⟩)
  · rw [hs] at z; cases z
  · exact ⟨rfl, LvN.up g h1 h2 U⟩
  · obtain rfl : i' = i := by omega
    rw [hm] at z2; cases z2
theorem New_lv : Calls Try.prog 24 #[.int .i64 2] w fun r w' => ∃ n, r = .returned (.tuple #[.pointer (some ⟨n, 0, none⟩), .int .i64 0]) ∧ LvN w n 0 (st0 2) w' := by
  refine (New_ok 2 (by omega) (by omega)).mono ?_
  rintro e w1 ⟨n, L, rfl, h, g⟩
  exact ⟨n, rfl, g, L, h.tight, fun b hb => (h.blkP b hb).1⟩
theorem conv_bb (w : World) (x : Value) : (convert 27 27 (.slice (some ⟨w.heap.size, 0, none⟩) 1 1)).run Try.prog (w.alloc (.cells #[x] 5)) = .ok (.slice (some ⟨w.heap.size, 0, none⟩) 1 1) (w.alloc (.cells #[x] 5 (1, 2))) := Lib.run_convert_bytes_const w _ _ #[x] 1 1 u8Slice u8T
theorem new_cell (w : World) (x : Value) (t : TypeId) (z : Nat × Nat) : (w.alloc (.cells #[x] t z)).cell? ⟨w.heap.size, 0, none⟩ = some x := by
  simp only [World.cell?, heap_alloc_new]
  simp
theorem cell_same {a b : World} {g i : Nat} (h : b.heap[g]? = a.heap[g]?) : b.cell? ⟨g, i, none⟩ = a.cell? ⟨g, i, none⟩ := by
  unfold World.cell?
  simp only at h ⊢
  rw [h]
theorem bys.same {a b : World} {g : Nat} {l : List UInt8} (h : bys a (some ⟨g, 0, none⟩) l) (e : b.heap[g]? = a.heap[g]?) : bys b (some ⟨g, 0, none⟩) l := by
  rcases h with ⟨h, _⟩ | ⟨g', o, h, k⟩
  · cases h
  · cases h
    exact Or.inr ⟨g, 0, rfl, fun i x hx => by rw [cell_same e]; exact k i x hx⟩
def L1Q (w0 w : World) (n c : Nat) (S : St) (x : UInt8) (r : Ending) (w' : World) : Prop := ∃ (g cap : Nat), r = .returned (.tuple #[.agg #[.int .i64 0, .slice (some ⟨g, 0, none⟩) 1 cap], .bool true, .int .i64 0]) ∧ kd w' g = 5 + 2 ∧ bys w' (some ⟨g, 0, none⟩) [x] ∧ LvN w0 n c S w' ∧ Kp w w'
theorem LvN.recv1 {w0 : World} (h : LvN w0 n c S w) (hs : isS S 1 = true) (x : UInt8) (rest : List (Nat × ByteArray)) (hm : S.ms 1 = (0, ⟨#[x]⟩) :: rest) : Calls Try.prog 16 #[.pointer (some ⟨n, 0, none⟩), .int .i64 1] w (L1Q w0 w n c { S with ms := upd S.ms 1 rest } x) := by
  refine (h.recv 1 hs _ _ hm).mono ?_
  rintro e w1 ⟨g, cap, rfl, k, B, U⟩
  exact ⟨g, cap, rfl, k, B, U⟩
/-- a box and the bytes behind it, later -/
theorem Kp.box {a b : World} {g cap : Nat} {x : UInt8} (K : Kp (a.alloc (.cells #[.int .i64 0, .slice (some ⟨g, 0, none⟩) 1 cap] 51)) b) (hk : kd a g = 5 + 2) (hb : bys a (some ⟨g, 0, none⟩) [x]) :
    b.cell? ⟨a.heap.size, 1, none⟩ = some (.slice (some ⟨g, 0, none⟩) 1 cap) ∧ (convert 27 9 (.slice (some ⟨g, 0, none⟩) 1 cap)).run Try.prog b = .ok (.string ⟨#[x]⟩) b := by
  have h0 := heap_alloc_new a (.cells #[.int .i64 0, .slice (some ⟨g, 0, none⟩) 1 cap] 51)
  have h1 := K.2 _ (Or.inr (kd_cells h0))
  have h2 := ((Kp.of_grown (World.grownBy_alloc a (.cells #[.int .i64 0, .slice (some ⟨g, 0, none⟩) 1 cap] 51) none)).trans K).2 g (Or.inl hk)
  exact ⟨(cell_of_block (h1.trans h0) 1).trans rfl, (hb.same h2).conv cap (fun e => by cases e)⟩
end Go.Proofs.Ytbdlamlplfogjaa
namespace Go.Proofs.Ytbdlamlplfogjaa
open Go.RowKit Go.Maps Go.Joins
variable {P : Nat → Prop} {w w' : World} {n c : Nat} {S : St} {L : Ly}

set_option maxHeartbeats 4000000 in
set_option maxRecDepth 100000 in
theorem lives_any (w0 : World) : Calls Try.prog 11 #[] w0 fun e w' => e = .returned (.bool true) ∧ w0.grownBy w' none := by
  go_enter Try.func11, Try.ntmps11
  go_wp2_with fail
  refine New_lv.mono ?_
  rintro e w1 ⟨n, rfl, N1⟩
  have S1 := mkHid ((N1.kept (World.grownBy_alloc w1 (.cells #[.int .u8 97] 5 (1, 2)) none)).send (g := w1.heap.size) (cap := 1) (x := 97) (OkS.begin 2) (by omega) (new_cell w1 _ _ _))
  rw [lv_e1] at S1
  have cv := conv_bb w1 (.int .u8 97)
  clear N1
  go_wp2_with fail
  refine S1.out.mono ?_
  rintro e w2 ⟨rfl, N2, _⟩
  have S2 := mkHid ((N2.kept (World.grownBy_alloc w2 (.cells #[.int .u8 98] 5 (1, 2)) none)).send (g := w2.heap.size) (cap := 1) (x := 98) okA (by omega) (new_cell w2 _ _ _))
  rw [show sendT (st0 2) 0 1 ⟨#[97]⟩ = lvA from rfl, lv_e2] at S2
  have cv2 := conv_bb w2 (.int .u8 98)
  clear N2 S1 cv
  go_wp2_with fail
  refine S2.out.mono ?_
  rintro e w3 ⟨rfl, N3, _⟩
  have N3 : LvN w0 n (0 + 1 + 1) lvB w3 := N3
  have S3 := mkHid (N3.deliver 1 okB (by omega))
  rw [lv_e3] at S3
  clear N3 S2 cv2
  go_wp2_with fail
  refine S3.out.mono ?_
  rintro e w4 ⟨rfl, N4, _⟩
  have N4 : LvN w0 n (0 + 1 + 1 + 1) lvC w4 := N4
  have S4 := mkHid (N4.deliver 0 okC (by omega))
  rw [lv_e4] at S4
  clear N4 S3
  go_wp2_with fail
  refine S4.out.mono ?_
  rintro e w5 ⟨rfl, N5, _⟩
  have N5 : LvN w0 n (0 + 1 + 1 + 1 + 1) lvD w5 := N5
  have S5 := mkHid (N5.tick 0 okD)
  rw [lv_e5] at S5
  clear N5 S4
  go_wp2_with fail
  refine S5.out.mono ?_
  rintro e w6 ⟨rfl, N6, _⟩
  have N6 : Hid (LvN w0 n (4 + 0) (lvE 0) w6) := N6
  clear S5
  go_wp2_with fail
  go_loopw [3] (fun s3 wr => ∃ (k : Nat), s3 = .int .i64 (k : Int) ∧ k ≤ 9 ∧ Hid (LvN w0 n (4 + k) (lvE k) wr)) (fun s3 _ => 9 - (intOf s3).toNat)
  case atStart => exact ⟨0, rfl, by omega, N6⟩
  case round =>
    obtain ⟨k, rfl, hk, NK⟩ := hrel
    by_cases hlt : k < 9
    · have hlti : (k : Int) < 9 := by omega
      have SK := mkHid (NK.out.deliver 0 (okE k hk) (by omega))
      clear NK
      go_wp2_with fail
      refine SK.out.mono ?_
      rintro e w7 ⟨rfl, N7, _⟩
      have N7 : Hid (LvN w0 n (4 + (k + 1)) (lvE (k + 1)) w7) := N7
      clear SK
      go_wp2_with fail
      go_roundw
      case rel => exact ⟨k + 1, by go_num, hlt, N7⟩
      case measure => simp [intOf]; omega
    · obtain rfl : k = 9 := by omega
      have R1 := mkHid (NK.out.recv1 lv_i1 _ _ lv_m1)
      clear NK
      go_wp2_with fail
      refine R1.out.mono ?_
      rintro e w7 ⟨g1, c1, rfl, kd1, by1, N7, _⟩
      have N7 : LvN w0 n (4 + 9) lvF w7 := N7
      have R2 := mkHid ((N7.kept (World.grownBy_alloc w7 (.cells #[.int .i64 0, .slice (some ⟨g1, 0, none⟩) 1 c1] 51) none)).recv1 lv_i2 _ _ lv_m2)
      have KD1 := mkHid kd1
      have BY1 := mkHid by1
      clear R1 N7 kd1 by1
      go_wp2_with fail
      refine R2.out.mono ?_
      rintro e w8 ⟨g2, c2, rfl, kd2, by2, N8, K8⟩
      have N8 : LvN w0 n (4 + 9) lvG w8 := N8
      have R3 := mkHid ((N8.kept (World.grownBy_alloc w8 (.cells #[.int .i64 0, .slice (some ⟨g2, 0, none⟩) 1 c2] 51) none)).recv0 1 lv_i3 lv_m3)
      have KD2 := mkHid kd2
      have BY2 := mkHid by2
      have HK8 := mkHid (K8.trans (Kp.of_grown (World.grownBy_alloc w8 (.cells #[.int .i64 0, .slice (some ⟨g2, 0, none⟩) 1 c2] 51) none)))
      clear R2 N8 kd2 by2 K8
      go_wp2_with fail
      refine R3.out.mono ?_
      rintro e w9 ⟨rfl, N9, K9⟩
      have K10 := K9.trans (Kp.of_grown (World.grownBy_alloc w9 (.cells #[.int .i64 0, .slice none 0 0] 51) none))
      obtain ⟨a1, a2⟩ := (HK8.out.trans K10).box KD1.out BY1.out
      obtain ⟨b1, b2⟩ := K10.box KD2.out BY2.out
      have G := mkHid (grown_none_trans N9.1 (World.grownBy_alloc w9 (.cells #[.int .i64 0, .slice none 0 0] 51) none))
      clear R3 N9 K9 K10 HK8 KD1 BY1 KD2 BY2
      go_wp2_with fail
      go_ret
      exact ⟨rfl, G.out⟩
end Go.Proofs.Ytbdlamlplfogjaa
namespace Go.Proofs.Ytbdlamlplfogjaa
open Go.RowKit Go.Maps Go.Joins
variable {P : Nat → Prop} {w w' : World} {n c : Nat} {S : St} {L : Ly}

theorem rwT : Rw 39 41 (.slice none 0 0) 1 24 := ⟨by kernel_rfl, by kernel_rfl, rfl, by decide, by decide⟩
theorem rwSS : Rw 41 49 (.slice none 0 0) 1 24 := ⟨by kernel_rfl, by kernel_rfl, rfl, by decide, by decide⟩
/-- a table of N rows of N lists of strings, of which the first k are there -/
structure MtS (Q : Nat → Prop) (w : World) (g N k : Nat) (hb : Nat → Nat) (rv : Nat → Nat → Value) (f : Nat → Nat → List ByteArray) : Prop where
  qg : Q g
  at0 : ∃ cur : Array Value, w.heap[g]? = some (.cells cur 41 (0, 0)) ∧ cur.size = N ∧ ∀ i, i < k → cur[i]? = some (.slice (some ⟨hb i, 0, none⟩) N N)
  row : ∀ i, i < k → Q (hb i) ∧ ∃ r : Array Value, w.heap[hb i]? = some (.cells r 49 (0, 0)) ∧ r.size = N ∧ ∀ j, j < N → r[j]? = some (rv i j)
  dis : ∀ i j, i < k → j < k → i ≠ j → hb i ≠ hb j
  str : ∀ i j, i < k → j < N → shr w 9 1 (rv i j) (f i j).length (usC (f i j)) ∧ ∀ b, (rv i j).ownBlock = some b → Q b
  sep : ∀ i j i' j' b, i < k → j < N → i' < k → j' < N → (rv i j).ownBlock = some b → (rv i' j').ownBlock = some b → i = i' ∧ j = j'
variable {Q Q' C : Nat → Prop} {g N k : Nat} {hb : Nat → Nat} {rv : Nat → Nat → Value} {f : Nat → Nat → List ByteArray}
theorem MtS.away (h : MtS Q w g N k hb rv f) (hc : Chg C w w') (hn : ∀ b, Q b → ¬ C b) : MtS Q w' g N k hb rv f := by
  obtain ⟨cur, h1, h2⟩ := h.at0
  refine ⟨h.qg, ⟨cur, hc.at_ h1 (hn _ h.qg), h2⟩, fun i hi => ?_, h.dis, fun i j hi hj => ?_, h.sep⟩
  · obtain ⟨q, r, r1, r2⟩ := h.row i hi
    exact ⟨q, r, hc.at_ r1 (hn _ q), r2⟩
  · obtain ⟨s1, s2⟩ := h.str i j hi hj
    exact ⟨s1.kept hc (fun b hb => hn b (s2 b hb)), s2⟩
theorem MtS.kept (h : MtS Q w g N k hb rv f) (hg : w.grownBy w' none) : MtS Q w' g N k hb rv f := h.away (Chg.of_none hg (fun _ => False)) (fun _ _ e => e)
theorem MtS.wide (h : MtS Q w g N k hb rv f) (hq : ∀ b, Q b → Q' b) : MtS Q' w g N k hb rv f :=
  ⟨hq _ h.qg, h.at0, fun i hi => ⟨hq _ (h.row i hi).1, (h.row i hi).2⟩, h.dis, fun i j hi hj => ⟨(h.str i j hi hj).1, fun b hb => hq b ((h.str i j hi hj).2 b hb)⟩, h.sep⟩
theorem MtS.cell (h : MtS Q w g N k hb rv f) {i j : Nat} (hi : i < k) (hj : j < N) : w.cell? ⟨g, i, none⟩ = some (.slice (some ⟨hb i, 0, none⟩) N N) ∧ w.cell? ⟨hb i, j, none⟩ = some (rv i j) ∧ w.frozen? ⟨hb i, j, none⟩ = false ∧ g < w.heap.size ∧ hb i < w.heap.size := by
  obtain ⟨cur, h1, _, h3⟩ := h.at0
  obtain ⟨_, r, r1, _, r3⟩ := h.row i hi
  exact ⟨(cell_of_block h1 i).trans (h3 i hi), (cell_of_block r1 j).trans (r3 j hj), unfrozen_of_block r1 j, lt_of_heap h1, lt_of_heap r1⟩
theorem MtS.kg (h : MtS Q w g N k hb rv f) : kd w g = 41 + 2 := by obtain ⟨cur, h1, _⟩ := h.at0; exact kd_cells h1
theorem MtS.kr (h : MtS Q w g N k hb rv f) {i : Nat} (hi : i < k) : kd w (hb i) = 49 + 2 := by obtain ⟨_, r, r1, _⟩ := h.row i hi; exact kd_cells r1
/-- a list is written anew -/
theorem MtS.put (h : MtS Q w g N k hb rv f) {i j : Nat} (hi : i < k) (hj : j < N) {w1 : World} (C1 : Chg (fun b => (rv i j).ownBlock = some b) w w1) {v : Value} {l : List ByteArray} (hv : shr w1 9 1 v l.length (usC l)) (hq : ∀ b, v.ownBlock = some b → Q' b ∧ ((rv i j).ownBlock = some b ∨ w.heap.size ≤ b)) (hQ : ∀ b, Q b → Q' b) :
    MtS Q' (w1.setCell ⟨hb i, j, none⟩ v) g N k hb (upd2 rv i j v) (upd2 f i j l) ∧ Chg (fun b => b = hb i ∨ (rv i j).ownBlock = some b) w (w1.setCell ⟨hb i, j, none⟩ v) := by
  have hkb : ∀ b, (rv i j).ownBlock = some b → kd w b = 9 + 2 := fun b e => ((h.str i j hi hj).1.kd b e).1
  obtain ⟨cur, h1, h2, h3⟩ := h.at0
  obtain ⟨qi, r, r1, r2, r3⟩ := h.row i hi
  have kr := h.kr hi
  have n1 : ∀ a, a < k → ¬ (rv i j).ownBlock = some (hb a) := fun a ha e => by
    have := hkb _ e
    rw [h.kr ha] at this; simp at this
  have n2 : ¬ (rv i j).ownBlock = some g := fun e => by
    have := hkb _ e
    rw [h.kg] at this; simp at this
  have ng : g ≠ hb i := fun e => by
    have := h.kg
    rw [e, kr] at this; simp at this
  have r1' := C1.at_ r1 (n1 i hi)
  have CS := Chg.of_cell w1 ⟨hb i, j, none⟩ v
  have kv : ∀ b, v.ownBlock = some b → b ≠ hb i := fun b e e2 => by
    have := (hv.kd b e).1
    rw [e2, kd_cells r1'] at this; simp at this
  refine ⟨⟨hQ _ h.qg, ⟨cur, CS.at_ (C1.at_ h1 n2) ng, h2, h3⟩, fun a ha => ?_, h.dis, fun a b ha hb' => ?_, fun a b a' b' x ha hb1 ha' hb1' e e' => ?_⟩, (C1.mono (fun b _ e => Or.inr e)).trans (CS.mono (fun b _ e => Or.inl e))⟩
  · by_cases e : a = i
    · subst e
      refine ⟨hQ _ qi, r.setIfInBounds j v, block_setCell r1' _, by simp [r2], fun b hb' => ?_⟩
      by_cases eb : b = j
      · rw [eb, upd2_same, Array.getElem?_setIfInBounds, if_pos rfl, if_pos (by omega)]
      · rw [upd2_other _ _ (fun e => eb e.2), Array.getElem?_setIfInBounds, if_neg (fun e => eb e.symm)]
        exact r3 b hb'
    · obtain ⟨qa, s, s1, s2, s3⟩ := h.row a ha
      refine ⟨hQ _ qa, s, CS.at_ (C1.at_ s1 (n1 a ha)) (h.dis a i ha hi e), s2, fun b hb' => ?_⟩
      rw [upd2_other _ _ (fun e' => e e'.1)]
      exact s3 b hb'
  · by_cases e : a = i ∧ b = j
    · obtain ⟨rfl, rfl⟩ := e
      rw [upd2_same, upd2_same]
      exact ⟨hv.kept CS kv, fun x hx => (hq x hx).1⟩
    · rw [upd2_other _ _ e, upd2_other _ _ e]
      obtain ⟨s1, s2⟩ := h.str a b ha hb'
      refine ⟨(s1.kept C1 (fun x hx hx2 => e (h.sep a b i j x ha hb' hi hj hx hx2))).kept CS (fun x hx hx2 => ?_), fun x hx => hQ x (s2 x hx)⟩
      have hx2 : x = hb i := hx2
      have := (s1.kd x hx).1
      rw [hx2, kr] at this; simp at this
  · have key : ∀ p q, p < k → q < N → ¬ (p = i ∧ q = j) → (rv p q).ownBlock = some x → v.ownBlock = some x → False := fun p q hp hq' hne o1 o2 => by
      rcases (hq x o2).2 with o3 | o3
      · exact hne (h.sep p q i j x hp hq' hi hj o1 o3)
      · have := ((h.str p q hp hq').1.kd x o1).2
        omega
    by_cases e1 : a = i ∧ b = j
    · by_cases e2 : a' = i ∧ b' = j
      · exact ⟨e1.1.trans e2.1.symm, e1.2.trans e2.2.symm⟩
      · obtain ⟨rfl, rfl⟩ := e1
        rw [upd2_same] at e
        rw [upd2_other _ _ e2] at e'
        exact (key _ _ ha' hb1' e2 e' e).elim
    · by_cases e2 : a' = i ∧ b' = j
      · obtain ⟨rfl, rfl⟩ := e2
        rw [upd2_same] at e'
        rw [upd2_other _ _ e1] at e
        exact (key _ _ ha hb1 e1 e e').elim
      · rw [upd2_other _ _ e1] at e
        rw [upd2_other _ _ e2] at e'
        exact h.sep a b a' b' x ha hb1 ha' hb1' e e'
/-- a list is taken away -/
theorem MtS.nil (h : MtS Q w g N k hb rv f) {i j : Nat} (hi : i < k) (hj : j < N) : MtS Q (w.setCell ⟨hb i, j, none⟩ (.slice none 0 0)) g N k hb (upd2 rv i j (.slice none 0 0)) (upd2 f i j []) ∧ Chg (fun b => b = hb i) w (w.setCell ⟨hb i, j, none⟩ (.slice none 0 0)) :=
  ⟨(h.put hi hj (Chg.refl _ w) (v := .slice none 0 0) (l := []) (shr_nil _ _ _) (fun b e => by simp [Value.ownBlock] at e) (fun _ e => e)).1, Chg.of_cell w ⟨hb i, j, none⟩ _⟩
/-- a string at a list's end, laid ahead -/
theorem MtS.app (h : MtS Q w g N k hb rv f) {i j : Nat} (hi : i < k) (hj : j < N) (x : ByteArray) (hl : (f i j).length ≤ 10000000) {W : World} (g0 : w.grownBy W none) {b : Nat} (hbx : W.heap[b]? = some (.cells #[.string x] 9 (0, 0))) :
    ∃ v' w', (∀ ty, (Builtin.append_ #[49, 49] ty #[rv i j, .slice (some ⟨b, 0, none⟩) 1 1]).run Try.prog W = .ok v' w') ∧ w'.cell? ⟨g, i, none⟩ = some (.slice (some ⟨hb i, 0, none⟩) N N) ∧ w'.cell? ⟨hb i, j, none⟩ = some (rv i j) ∧ w'.frozen? ⟨hb i, j, none⟩ = false ∧ (∃ p' c', v' = .slice p' ((f i j).length + 1) c') ∧ W.grownBy w' (rv i j).ownBlock ∧
      MtS (ext Q w (w'.setCell ⟨hb i, j, none⟩ v')) (w'.setCell ⟨hb i, j, none⟩ v') g N k hb (upd2 rv i j v') (upd2 f i j (f i j ++ [x])) ∧ Chg (fun y => y = hb i ∨ (rv i j).ownBlock = some y) w (w'.setCell ⟨hb i, j, none⟩ v') := by
  have h' := h.kept g0
  obtain ⟨v', w', hr, hs, hgr, hbl⟩ := rwS.app (c := 1) (h'.str i j hi hj).1 (m := 1) (news := [.string x]) (by simp) (one_of hbx) (by simp [Value.oneCell']) (by omega) (by omega)
  have hkb : ∀ b, (rv i j).ownBlock = some b → kd W b = 9 + 2 := fun b e => ((h'.str i j hi hj).1.kd b e).1
  obtain ⟨cur, h1, h2, h3⟩ := h'.at0
  obtain ⟨qi, r, r1, r2, r3⟩ := h'.row i hi
  have n1 : ¬ (rv i j).ownBlock = some (hb i) := fun e => by
    have := hkb _ e
    rw [h'.kr hi] at this; simp at this
  have n2 : ¬ (rv i j).ownBlock = some g := fun e => by
    have := hkb _ e
    rw [h'.kg] at this; simp at this
  have r1' := (hgr.block _ (lt_of_heap r1) (fun e => n1 e.symm)).trans r1
  have h1' := (hgr.block _ (lt_of_heap h1) (fun e => n2 e.symm)).trans h1
  obtain ⟨p', c', hf, _⟩ := hs.form
  have sz : w'.heap.size ≤ (w'.setCell ⟨hb i, j, none⟩ v').heap.size := by simp
  obtain ⟨m1, m2⟩ := h'.put hi hj (Q' := ext Q w (w'.setCell ⟨hb i, j, none⟩ v')) ((Chg.of_grown hgr)) (v := v') (l := f i j ++ [x]) (by
    rw [usC_app, List.length_append]; exact hs) (fun y hy => by
    rcases hbl with e | ⟨g', e, e1, e2⟩
    · have hy2 : (rv i j).ownBlock = some y := by rw [← e]; exact hy
      exact ⟨Or.inl ((h.str i j hi hj).2 y hy2), Or.inl hy2⟩
    · rw [hy] at e; cases e
      exact ⟨Or.inr ⟨Nat.le_trans g0.size e1, Nat.lt_of_lt_of_le e2 sz⟩, Or.inr e1⟩) (fun _ e => Or.inl e)
  exact ⟨v', w', hr, (cell_of_block h1' i).trans (h3 i hi), (cell_of_block r1' j).trans (r3 j hj), unfrozen_of_block r1' j, ⟨p', c', hf⟩, hgr, m1, (Chg.of_none g0 _).trans m2⟩
end Go.Proofs.Ytbdlamlplfogjaa
namespace Go.Proofs.Ytbdlamlplfogjaa
open Go.RowKit Go.Maps Go.Joins
variable {P : Nat → Prop} {w w' : World} {n c : Nat} {S : St} {L : Ly}

theorem step_make (t : TypeId) {ops : Array Oper} {o : Oper} {a : Act} {w : World} {K : Act → World → Prop} {Q : Exit → Act → World → Prop} {E : Prop} (hgd : o.guard = none) (l c : Operand) (ho : o.op = .makeSlice t l c)
    {v y v' : Value} {w' : World} (hs : a.eval l = v) (hx : a.eval c = y) (hr : (Instr.makeSlice t v y).run Try.prog w = .ok v' w') (h : K (a.put o.dst v') w') : if Region.wanted o (yielded ops a.tmps) = true then Oper.wp Try.prog o a w K Q else E := by
  have hwd : Region.wanted o (yielded ops a.tmps) = true := by simp [Region.wanted, hgd]
  rw [if_pos hwd]
  unfold Oper.wp
  simp [execOp, ho, hs, hx, hr, Result.andThen]
  exact h
variable {Q Q' C : Nat → Prop} {g N k : Nat} {hb : Nat → Nat} {rv : Nat → Nat → Value} {f : Nat → Nat → List ByteArray}
theorem MtI.later (h : MtI Q w g N k hb (fun _ _ => 0)) (hk : k < N) {w1 : World} {a : Nat} {r : Array Value} (hC : Chg C w w1) (hn : ∀ b, Q b → ¬ C b) (ha : w.heap.size ≤ a) (hr : w1.heap[a]? = some (.cells r 3 (0, 0))) (hs : r.size = N * 1) (hz : ∀ j, j < N * 1 → r[j]? = (Value.int .i64 0).cells[j % 1]?) (hQ : ∀ b, Q b → Q' b) (hq : Q' a) :
    MtI Q' (w1.setCell ⟨g, k, none⟩ (.slice (some ⟨a, 0, none⟩) N N)) g N (k + 1) (upd hb k a) (fun _ _ => 0) ∧ (∃ u, w1.cell? ⟨g, k, none⟩ = some u) ∧ w1.frozen? ⟨g, k, none⟩ = false := by
  have h1 := h.away hC hn
  obtain ⟨cur, c1, c2, c3⟩ := h1.at0
  obtain ⟨cu0, x0, _⟩ := h.at0
  have lg := lt_of_heap x0
  have CC := Chg.of_cell w1 ⟨g, k, none⟩ (.slice (some ⟨a, 0, none⟩) N N)
  refine ⟨⟨hQ _ h.qg, ⟨cur.setIfInBounds k (.slice (some ⟨a, 0, none⟩) N N), block_setCell c1 _, by simp [c2], fun i hi => ?_⟩, fun i hi => ?_, fun i j hi hj hne => ?_⟩, ?_, unfrozen_of_block c1 k⟩
  · by_cases e : i = k
    · rw [e, upd_same, Array.getElem?_setIfInBounds, if_pos rfl, if_pos (by omega)]
    · rw [upd_other _ _ e, Array.getElem?_setIfInBounds, if_neg (fun e2 => e e2.symm)]
      exact c3 i (by omega)
  · by_cases e : i = k
    · rw [e, upd_same]
      refine ⟨hq, r, CC.at_ hr (fun e2 => ?_), by omega, fun j hj => ?_⟩
      · have e2 : a = g := e2
        omega
      · rw [hz j (by omega), Nat.mod_one]; rfl
    · rw [upd_other _ _ e]
      obtain ⟨qa, s, s1, s2⟩ := h1.row i (by omega)
      refine ⟨hQ _ qa, s, CC.at_ s1 (fun e2 => ?_), s2⟩
      have e2 : hb i = g := e2
      rw [e2, c1] at s1; simp at s1
  · have old : ∀ a, a < k → hb a < w.heap.size := fun a ha => by
      obtain ⟨_, s, s1, _⟩ := h.row a ha
      exact lt_of_heap s1
    by_cases e1 : i = k
    · have e2 : j ≠ k := fun e => hne (by omega)
      rw [e1, upd_same, upd_other _ _ e2]
      have := old j (by omega); omega
    · rw [upd_other _ _ e1]
      by_cases e2 : j = k
      · rw [e2, upd_same]
        have := old i (by omega); omega
      · rw [upd_other _ _ e2]; exact h.dis i j (by omega) (by omega) hne
  · rw [cell_of_block c1]
    exact ⟨_, Array.getElem?_eq_getElem (show k < cur.size by omega)⟩
def nlV : Value := .slice none 0 0
theorem MtS.later (h : MtS Q w g N k hb (fun _ _ => nlV) (fun _ _ => [])) (hk : k < N) {w1 : World} {a : Nat} {r : Array Value} (hC : Chg C w w1) (hn : ∀ b, Q b → ¬ C b) (ha : w.heap.size ≤ a) (hr : w1.heap[a]? = some (.cells r 49 (0, 0))) (hs : r.size = N * 1) (hz : ∀ j, j < N * 1 → r[j]? = (Value.slice none 0 0).cells[j % 1]?) (hQ : ∀ b, Q b → Q' b) (hq : Q' a) :
    MtS Q' (w1.setCell ⟨g, k, none⟩ (.slice (some ⟨a, 0, none⟩) N N)) g N (k + 1) (upd hb k a) (fun _ _ => nlV) (fun _ _ => []) ∧ (∃ u, w1.cell? ⟨g, k, none⟩ = some u) ∧ w1.frozen? ⟨g, k, none⟩ = false := by
  have h1 := h.away hC hn
  obtain ⟨cur, c1, c2, c3⟩ := h1.at0
  obtain ⟨cu0, x0, _⟩ := h.at0
  have lg := lt_of_heap x0
  have CC := Chg.of_cell w1 ⟨g, k, none⟩ (.slice (some ⟨a, 0, none⟩) N N)
  refine ⟨⟨hQ _ h.qg, ⟨cur.setIfInBounds k (.slice (some ⟨a, 0, none⟩) N N), block_setCell c1 _, by simp [c2], fun i hi => ?_⟩, fun i hi => ?_, fun i j hi hj hne => ?_, fun i j hi hj => ⟨shr_nil _ _ _, fun b e => by simp [nlV, Value.ownBlock] at e⟩, fun i j i' j' b _ _ _ _ e => by simp [nlV, Value.ownBlock] at e⟩, ?_, unfrozen_of_block c1 k⟩
  · by_cases e : i = k
    · rw [e, upd_same, Array.getElem?_setIfInBounds, if_pos rfl, if_pos (by omega)]
    · rw [upd_other _ _ e, Array.getElem?_setIfInBounds, if_neg (fun e2 => e e2.symm)]
      exact c3 i (by omega)
  · by_cases e : i = k
    · rw [e, upd_same]
      refine ⟨hq, r, CC.at_ hr (fun e2 => ?_), by omega, fun j hj => ?_⟩
      · have e2 : a = g := e2
        omega
      · rw [hz j (by omega), Nat.mod_one]; rfl
    · rw [upd_other _ _ e]
      obtain ⟨qa, s, s1, s2⟩ := h1.row i (by omega)
      refine ⟨hQ _ qa, s, CC.at_ s1 (fun e2 => ?_), s2⟩
      have e2 : hb i = g := e2
      rw [e2, c1] at s1; simp at s1
  · have old : ∀ a, a < k → hb a < w.heap.size := fun a ha => by
      obtain ⟨_, s, s1, _⟩ := h.row a ha
      exact lt_of_heap s1
    by_cases e1 : i = k
    · have e2 : j ≠ k := fun e => hne (by omega)
      rw [e1, upd_same, upd_other _ _ e2]
      have := old j (by omega); omega
    · rw [upd_other _ _ e1]
      by_cases e2 : j = k
      · rw [e2, upd_same]
        have := old i (by omega); omega
      · rw [upd_other _ _ e2]; exact h.dis i j (by omega) (by omega) hne
  · rw [cell_of_block c1]
    exact ⟨_, Array.getElem?_eq_getElem (show k < cur.size by omega)⟩
/-- the net, the pair, and the tables of what was sent and received, of which the first k rows are there; own tells whose a block is -/
structure LwA (w0 : World) (N n d pr gs gg k : Nat) (own : Nat → Nat) (L : Ly) (hs hg : Nat → Nat) (wr : World) : Prop where
  gr : w0.grownBy wr none
  lo : ∀ b, own b ≠ 0 → w0.heap.size ≤ b ∧ b < wr.heap.size
  net : NetL (fun b => own b = 1) wr n 0 (st0 N) L
  pr : wr.heap[pr]? = some (.cells #[.pointer (some ⟨n, 0, none⟩), .pointer (some ⟨d, 0, none⟩)] 33 (0, 0)) ∧ own pr = 5
  ts : MtS (fun b => own b = 2) wr gs N k hs (fun _ _ => nlV) (fun _ _ => [])
  tg : MtI (fun b => own b = 3) wr gg N k hg (fun _ _ => 0)
def LwX (w0 : World) (N n d pr gs gg k : Nat) (wr : World) : Prop := ∃ own L hs hg, LwA w0 N n d pr gs gg k own L hs hg wr
theorem LwX.start {w0 w1 w2 : World} {N n d pr gs gg : Nat} {L : Ly} {c1 c2 : Array Value} (hp : w1.heap[pr]? = some (.cells #[.pointer (some ⟨n, 0, none⟩), .pointer (some ⟨d, 0, none⟩)] 33 (0, 0))) (hlo : w0.heap.size ≤ pr) (hN : NetL (fun i => w0.heap.size ≤ i ∧ i < pr) w1 n 0 (st0 N) L) (g1 : w0.grownBy w1 none) (g2 : w1.grownBy w2 none)
    (s1 : w2.heap[gs]? = some (.cells c1 41 (0, 0))) (z1 : c1.size = N * 1) (l1 : w1.heap.size ≤ gs) (s2 : w2.heap[gg]? = some (.cells c2 42 (0, 0))) (z2 : c2.size = N * 1) (l2 : w1.heap.size ≤ gg) : LwX w0 N n d pr gs gg 0 w2 := by
  have lp := lt_of_heap hp
  have hne : gs ≠ gg := fun e => by rw [e, s2] at s1; simp at s1
  have hl1 := lt_of_heap s1
  have hl2 := lt_of_heap s2
  have sz := g1.size
  have sz2 := g2.size
  refine ⟨fun b => if b = gs then 2 else if b = gg then 3 else if b = pr then 5 else if w0.heap.size ≤ b ∧ b < pr then 1 else 0, L, fun _ => 0, fun _ => 0, grown_none_trans g1 g2, fun b hb => ?_, (hN.kept g2).more (fun i hi => ?_) (fun i hi => ?_), ⟨(g2.block _ lp (by simp)).trans hp, ?_⟩, ⟨by simp, ⟨c1, s1, by omega, fun i hi => by omega⟩, fun i hi => by omega, fun i j hi => by omega, fun i j hi => by omega, fun i j _ _ _ hi => by omega⟩, ⟨by simp [hne.symm], ⟨c2, s2, by omega, fun i hi => by omega⟩, fun i hi => by omega, fun i j hi => by omega⟩⟩
  · revert hb
    split
    · intro _; omega
    · split
      · intro _; omega
      · split
        · intro _; omega
        · split
          · intro _; omega
          · intro h; exact absurd rfl h
  · rw [if_neg (by omega), if_neg (by omega), if_neg (by omega), if_pos hi]
  · revert hi
    split
    · intro _; omega
    · split
      · intro _; omega
      · split
        · intro _; omega
        · split
          · intro _; omega
          · intro h; omega
  · rw [if_neg (by omega), if_neg (by omega)]; exact if_pos rfl
def own2 (own : Nat → Nat) (a b : Nat) : Nat → Nat := fun x => if x = a then 2 else if x = b then 3 else own x
theorem LwA.next2 {w0 w5 wr : World} {N n d pr gs gg k a b : Nat} {own : Nat → Nat} {hs hg : Nat → Nat} {rb : Array Value} (H : LwA w0 N n d pr gs gg k own L hs hg wr) (hk : k < N) (ha : wr.heap.size ≤ a) (hb : wr.heap.size ≤ b) (hne : a ≠ b) (C1 : Chg (fun x => x = gs) wr w5) (la : a < w5.heap.size) (m1 : MtS (fun x => own2 own a b x = 2) w5 gs N (k + 1) (upd hs k a) (fun _ _ => nlV) (fun _ _ => []))
    (sb : w5.heap[b]? = some (.cells rb 3 (0, 0))) (zb : rb.size = N * 1) (yb : ∀ j, j < N * 1 → rb[j]? = (Value.int .i64 0).cells[j % 1]?) :
    (∃ u, w5.cell? ⟨gg, k, none⟩ = some u) ∧ w5.frozen? ⟨gg, k, none⟩ = false ∧ LwX w0 N n d pr gs gg (k + 1) (w5.setCell ⟨gg, k, none⟩ (.slice (some ⟨b, 0, none⟩) N N)) := by
  have lb := lt_of_heap sb
  have lo := H.lo
  have sz := C1.size
  have szw := H.gr.size
  have oe : ∀ x v, v ≠ 0 → own x = v → own2 own a b x = v := fun x v hv hx => by
    have := (lo x (by omega)).2
    unfold own2
    rw [if_neg (by omega), if_neg (by omega)]; exact hx
  have qs := H.ts.qg
  have qg := H.tg.qg
  obtain ⟨p1, p2, p3⟩ := H.tg.later (Q' := fun x => own2 own a b x = 3) (C := fun x => x = gs) hk C1 (fun x hx e => by
      have hx : own x = 3 := hx
      have e : x = gs := e
      rw [e, qs] at hx; cases hx) hb sb zb yb (fun x hx => oe x 3 (by decide) hx) (show (if b = a then 2 else if b = b then 3 else own b) = 3 by rw [if_neg (fun e => hne e.symm), if_pos rfl])
  have C2 := Chg.of_cell w5 ⟨gg, k, none⟩ (.slice (some ⟨b, 0, none⟩) N N)
  have CC : Chg (fun x => x = gs ∨ x = gg) wr (w5.setCell ⟨gg, k, none⟩ (.slice (some ⟨b, 0, none⟩) N N)) := (C1.mono (fun _ _ e => Or.inl e)).trans (C2.mono (fun _ _ e => Or.inr e))
  have lgg := lo gg (by rw [qg]; decide)
  have lgs := lo gs (by rw [qs]; decide)
  refine ⟨p2, p3, own2 own a b, L, _, _, ⟨CC.os.trans H.gr.os, CC.tape.trans H.gr.tape, CC.output.trans H.gr.output, Nat.le_trans H.gr.size CC.size, fun x hx hn => (CC.block x (Nat.lt_of_lt_of_le hx H.gr.size) (fun e => by rcases e with e | e <;> omega)).trans (H.gr.block x hx hn)⟩, fun x hx => ?_, (H.net.away CC (fun x hx e => ?_)).more (fun x hx => oe x 1 (by decide) hx) (fun x hx => ?_), ⟨CC.at_ H.pr.1 (fun e => ?_), oe _ 5 (by decide) H.pr.2⟩, m1.away C2 (fun x hx e => ?_), p1⟩
  · rw [World.size_setCell]
    have hx : (if x = a then 2 else if x = b then 3 else own x) ≠ 0 := hx
    by_cases e1 : x = a
    · omega
    · by_cases e2 : x = b
      · omega
      · rw [if_neg e1, if_neg e2] at hx
        have := lo x hx
        omega
  · have hx : own x = 1 := hx
    rcases e with e | e
    · rw [e, qs] at hx; cases hx
    · rw [e, qg] at hx; cases hx
  · rw [World.size_setCell]
    have hx : (if x = a then 2 else if x = b then 3 else own x) = 1 := hx
    by_cases e1 : x = a
    · omega
    · by_cases e2 : x = b
      · omega
      · rw [if_neg e1, if_neg e2] at hx
        have := lo x (by omega)
        omega
  · have h5 := H.pr.2
    rcases e with e | e
    · rw [e, qs] at h5; cases h5
    · rw [e, qg] at h5; cases h5
  · have hx : own2 own a b x = 2 := hx
    have e : x = gg := e
    rw [e, oe gg 3 (by decide) qg] at hx; cases hx
theorem LwX.next {w0 w3 w5 wr : World} {N n d pr gs gg k a b : Nat} {ra rb : Array Value} (h : LwX w0 N n d pr gs gg k wr) (hk : k < N) (g3 : wr.grownBy w3 none) (ha : wr.heap.size ≤ a) (hb : wr.heap.size ≤ b) (hne : a ≠ b)
    (sa : w3.heap[a]? = some (.cells ra 49 (0, 0))) (za : ra.size = N * 1) (ya : ∀ j, j < N * 1 → ra[j]? = (Value.slice none 0 0).cells[j % 1]?) (g5 : (w3.setCell ⟨gs, k, none⟩ (.slice (some ⟨a, 0, none⟩) N N)).grownBy w5 none) (sb : w5.heap[b]? = some (.cells rb 3 (0, 0))) (zb : rb.size = N * 1) (yb : ∀ j, j < N * 1 → rb[j]? = (Value.int .i64 0).cells[j % 1]?) :
    (∃ u, w3.cell? ⟨gs, k, none⟩ = some u) ∧ w3.frozen? ⟨gs, k, none⟩ = false ∧ (∃ u, w5.cell? ⟨gg, k, none⟩ = some u) ∧ w5.frozen? ⟨gg, k, none⟩ = false ∧
    LwX w0 N n d pr gs gg (k + 1) (w5.setCell ⟨gg, k, none⟩ (.slice (some ⟨b, 0, none⟩) N N)) ∧ gs < wr.heap.size := by
  obtain ⟨own, L, hs, hg, H⟩ := h
  have la := lt_of_heap sa
  have lo := H.lo
  have oe : ∀ x, own x = 2 → own2 own a b x = 2 := fun x hx => by
    have := (lo x (by omega)).2
    unfold own2
    rw [if_neg (by omega), if_neg (by omega)]; exact hx
  obtain ⟨m1, m2, m3⟩ := H.ts.later (Q' := fun x => own2 own a b x = 2) (C := fun _ => False) hk (Chg.of_none g3 _) (fun _ _ e => e) ha sa za ya (fun x hx => oe x hx) (show (if a = a then 2 else if a = b then 3 else own a) = 2 from if_pos rfl)
  have C1 : Chg (fun x => x = gs) wr w5 := ((Chg.of_none g3 _).trans (Chg.of_cell w3 ⟨gs, k, none⟩ _)).trans (Chg.of_none g5 _)
  have sz5 := g5.size
  rw [World.size_setCell] at sz5
  obtain ⟨p2, p3, X⟩ := H.next2 hk ha hb hne C1 (by omega) (m1.kept g5) sb zb yb
  have q2 : own gs = 2 := H.ts.qg
  exact ⟨m2, m3, p2, p3, X, (lo gs (by omega)).2⟩
end Go.Proofs.Ytbdlamlplfogjaa
namespace Go.Proofs.Ytbdlamlplfogjaa
open Go.RowKit Go.Maps Go.Joins
variable {P : Nat → Prop} {w w' : World} {n c : Nat} {S : St} {L : Ly}

/-- with the first ko rows of the third table -/
def LwB (w0 : World) (N n d pr gs gg go ko : Nat) (wr : World) : Prop := ∃ own L hs hg ho, LwA w0 N n d pr gs gg N own L hs hg wr ∧ MtI (fun b => own b = 4) wr go N ko ho (fun _ _ => 0)
theorem LwA.wide {w0 w3 wr : World} {N n d pr gs gg k a v : Nat} {own : Nat → Nat} {hs hg : Nat → Nat} (H : LwA w0 N n d pr gs gg k own L hs hg wr) (g3 : wr.grownBy w3 none) (ha : wr.heap.size ≤ a) (la : a < w3.heap.size) : LwA w0 N n d pr gs gg k (fun x => if x = a then v + 4 else own x) L hs hg w3 := by
  have lo := H.lo
  have szw := H.gr.size
  have sz := g3.size
  have oe : ∀ x v', v' ≠ 0 → own x = v' → (if x = a then v + 4 else own x) = v' := fun x v' hv hx => by
    have := (lo x (by omega)).2
    rw [if_neg (by omega)]; exact hx
  refine ⟨grown_none_trans H.gr g3, fun x hx => ?_, (H.net.kept g3).more (fun x hx => oe x 1 (by decide) hx) (fun x hx => ?_), ⟨(g3.block _ (lt_of_heap H.pr.1) (by simp)).trans H.pr.1, oe _ 5 (by decide) H.pr.2⟩, (H.ts.kept g3).wide (fun x hx => oe x 2 (by decide) hx), (H.tg.kept g3).wide (fun x hx => oe x 3 (by decide) hx)⟩
  · by_cases e1 : x = a
    · omega
    · rw [if_neg e1] at hx
      have := lo x hx
      omega
  · by_cases e1 : x = a
    · omega
    · rw [if_neg e1] at hx
      have := lo x (by omega)
      omega
theorem LwA.away {w0 wr w1 : World} {N n d pr gs gg k : Nat} {own : Nat → Nat} {hs hg : Nat → Nat} (H : LwA w0 N n d pr gs gg k own L hs hg wr) {C : Nat → Prop} (hC : Chg C wr w1) (h4 : ∀ x, C x → own x = 4) : LwA w0 N n d pr gs gg k own L hs hg w1 := by
  have lo := H.lo
  have sz := hC.size
  refine ⟨⟨hC.os.trans H.gr.os, hC.tape.trans H.gr.tape, hC.output.trans H.gr.output, Nat.le_trans H.gr.size hC.size, fun x hx hn => (hC.block x (Nat.lt_of_lt_of_le hx H.gr.size) (fun e => by have := (lo x (by rw [h4 x e]; decide)).1; omega)).trans (H.gr.block x hx hn)⟩, fun x hx => ?_, H.net.away hC (fun x hx e => ?_), ⟨hC.at_ H.pr.1 (fun e => ?_), H.pr.2⟩, H.ts.away hC (fun x hx e => ?_), H.tg.away hC (fun x hx e => ?_)⟩
  · have := lo x hx
    omega
  · have hx : own x = 1 := hx
    rw [h4 x e] at hx; cases hx
  · have hx := H.pr.2
    rw [h4 _ e] at hx; cases hx
  · have hx : own x = 2 := hx
    rw [h4 x e] at hx; cases hx
  · have hx : own x = 3 := hx
    rw [h4 x e] at hx; cases hx
theorem LwB.start {w0 w3 wr : World} {N n d pr gs gg go : Nat} {cu : Array Value} (h : LwX w0 N n d pr gs gg N wr) (g3 : wr.grownBy w3 none) (ha : wr.heap.size ≤ go) (s : w3.heap[go]? = some (.cells cu 42 (0, 0))) (z : cu.size = N * 1) : LwB w0 N n d pr gs gg go 0 w3 := by
  obtain ⟨own, L, hs, hg, H⟩ := h
  exact ⟨_, L, hs, hg, fun _ => 0, H.wide (v := 0) g3 ha (lt_of_heap s), ⟨if_pos rfl, ⟨cu, s, by omega, fun i hi => by omega⟩, fun i hi => by omega, fun i j hi => by omega⟩⟩
theorem LwB.next {w0 w3 wr : World} {N n d pr gs gg go k a : Nat} {ra : Array Value} (h : LwB w0 N n d pr gs gg go k wr) (hk : k < N) (g3 : wr.grownBy w3 none) (ha : wr.heap.size ≤ a)
    (sa : w3.heap[a]? = some (.cells ra 3 (0, 0))) (za : ra.size = N * 1) (ya : ∀ j, j < N * 1 → ra[j]? = (Value.int .i64 0).cells[j % 1]?) :
    (∃ u, w3.cell? ⟨go, k, none⟩ = some u) ∧ w3.frozen? ⟨go, k, none⟩ = false ∧ LwB w0 N n d pr gs gg go (k + 1) (w3.setCell ⟨go, k, none⟩ (.slice (some ⟨a, 0, none⟩) N N)) := by
  obtain ⟨own, L, hs, hg, ho, H, M⟩ := h
  have la := lt_of_heap sa
  have lo := H.lo
  obtain ⟨m1, m2, m3⟩ := M.later (Q' := fun x => (if x = a then 0 + 4 else own x) = 4) (C := fun _ => False) hk (Chg.of_none g3 _) (fun _ _ e => e) ha sa za ya (fun x hx => by
    have hx : own x = 4 := hx
    have := (lo x (by omega)).2
    rw [if_neg (by omega)]; exact hx) (if_pos rfl)
  have q4 : own go = 4 := M.qg
  refine ⟨m2, m3, _, L, hs, hg, _, (H.wide (v := 0) g3 ha la).away (Chg.of_cell w3 ⟨go, k, none⟩ _) (fun x e => ?_), m1⟩
  have e : x = go := e
  have := (lo go (by omega)).2
  rw [e, if_neg (by omega)]; exact q4
/-- the law's state behind i acts -/
structure LwF (w0 : World) (N n d pr gs gg go i : Nat) (own : Nat → Nat) (S : St) (T : Nat → Nat → List ByteArray) (G O : Nat → Nat → Nat) (c : Nat) (L : Ly) (hs : Nat → Nat) (rv : Nat → Nat → Value) (hg ho : Nat → Nat) (wr : World) : Prop where
  gr : w0.grownBy wr none
  lo : ∀ b, own b ≠ 0 → w0.heap.size ≤ b ∧ b < wr.heap.size
  net : NetL (fun b => own b = 1) wr n c S L
  pr : wr.heap[pr]? = some (.cells #[.pointer (some ⟨n, 0, none⟩), .pointer (some ⟨d, 0, none⟩)] 33 (0, 0)) ∧ own pr = 5
  ts : MtS (fun b => own b = 2) wr gs N N hs rv T
  tg : MtI (fun b => own b = 3) wr gg N N hg (fun a b => (G a b : Int))
  tO : MtI (fun b => own b = 4) wr go N N ho (fun a b => (O a b : Int))
  hN : S.N = N
  inv : Inv S T G O
  ok : OkS S i
  hc : c ≤ 130 * i
  tl : ∀ a b, (T a b).length ≤ i ∧ G a b ≤ i ∧ O a b ≤ i
  fb : S.fl.length ≤ 4096
def LwY (w0 : World) (N n d pr gs gg go i : Nat) (wr : World) : Prop := ∃ own S T G O c L hs rv hg ho, LwF w0 N n d pr gs gg go i own S T G O c L hs rv hg ho wr
theorem LwB.done {w0 wr : World} {N n d pr gs gg go : Nat} (h : LwB w0 N n d pr gs gg go N wr) : LwY w0 N n d pr gs gg go 0 wr := by
  obtain ⟨own, L, hs, hg, ho, H, M⟩ := h
  exact ⟨own, st0 N, _, fun _ _ => 0, fun _ _ => 0, 0, L, hs, _, hg, ho, H.gr, H.lo, H.net, H.pr, H.ts, H.tg, M, rfl, Inv.begin N, OkS.begin N, Nat.le_refl _, fun _ _ => ⟨Nat.le_refl _, Nat.le_refl _, Nat.le_refl _⟩, Nat.zero_le _⟩
theorem LwF.kept {w0 wr w1 : World} {N n d pr gs gg go i c : Nat} {own : Nat → Nat} {T : Nat → Nat → List ByteArray} {G O : Nat → Nat → Nat} {hs hg ho : Nat → Nat} {rv : Nat → Nat → Value} (H : LwF w0 N n d pr gs gg go i own S T G O c L hs rv hg ho wr) (g : wr.grownBy w1 none) : LwF w0 N n d pr gs gg go i own S T G O c L hs rv hg ho w1 :=
  ⟨grown_none_trans H.gr g, fun b hb => ⟨(H.lo b hb).1, Nat.lt_of_lt_of_le (H.lo b hb).2 g.size⟩, H.net.kept g, ⟨(g.block _ (lt_of_heap H.pr.1) (by simp)).trans H.pr.1, H.pr.2⟩, H.ts.kept g, H.tg.kept g, H.tO.kept g, H.hN, H.inv, H.ok, H.hc, H.tl, H.fb⟩
/-- the net's own blocks and the new ones -/
def ownN (own : Nat → Nat) (w w' : World) : Nat → Nat := fun b => if w.heap.size ≤ b ∧ b < w'.heap.size then 1 else own b
theorem LwF.call {w0 wr w1 : World} {N n d pr gs gg go i c c2 : Nat} {own : Nat → Nat} {S2 : St} {T : Nat → Nat → List ByteArray} {G O : Nat → Nat → Nat} {hs hg ho : Nat → Nat} {rv : Nat → Nat → Value} (H : LwF w0 N n d pr gs gg go i own S T G O c L hs rv hg ho wr) (U : UpN (fun b => own b = 1) wr n c2 S2 w1) :
    w0.grownBy w1 none ∧ (∀ b, ownN own wr w1 b ≠ 0 → w0.heap.size ≤ b ∧ b < w1.heap.size) ∧ (∃ L2, NetL (fun b => ownN own wr w1 b = 1) w1 n c2 S2 L2) ∧ (w1.heap[pr]? = some (.cells #[.pointer (some ⟨n, 0, none⟩), .pointer (some ⟨d, 0, none⟩)] 33 (0, 0)) ∧ ownN own wr w1 pr = 5) ∧ MtS (fun b => ownN own wr w1 b = 2) w1 gs N N hs rv T ∧ MtI (fun b => ownN own wr w1 b = 3) w1 gg N N hg (fun a b => (G a b : Int)) ∧ MtI (fun b => ownN own wr w1 b = 4) w1 go N N ho (fun a b => (O a b : Int)) := by
  obtain ⟨L2, h2, C⟩ := U
  have lo := H.lo
  have sz := C.size
  have szw := H.gr.size
  have oe : ∀ x v', v' ≠ 0 → own x = v' → ownN own wr w1 x = v' := fun x v' hv hx => by
    have := (lo x (by omega)).2
    unfold ownN
    rw [if_neg (by omega)]; exact hx
  refine ⟨⟨C.os.trans H.gr.os, C.tape.trans H.gr.tape, C.output.trans H.gr.output, Nat.le_trans H.gr.size C.size, fun x hx hn => (C.block x (Nat.lt_of_lt_of_le hx H.gr.size) (fun e => by have := (lo x (by rw [show own x = 1 from e]; decide)).1; omega)).trans (H.gr.block x hx hn)⟩, fun x hx => ?_, ⟨L2, h2.more (fun x hx => ?_) (fun x hx => ?_)⟩, ⟨C.at_ H.pr.1 (fun e => ?_), oe _ 5 (by decide) H.pr.2⟩, (H.ts.away C (fun x hx e => ?_)).wide (fun x hx => oe x 2 (by decide) hx), (H.tg.away C (fun x hx e => ?_)).wide (fun x hx => oe x 3 (by decide) hx), (H.tO.away C (fun x hx e => ?_)).wide (fun x hx => oe x 4 (by decide) hx)⟩
  · unfold ownN at hx
    by_cases e1 : wr.heap.size ≤ x ∧ x < w1.heap.size
    · omega
    · rw [if_neg e1] at hx
      have := lo x hx
      omega
  · rcases hx with e | e
    · exact oe x 1 (by decide) e
    · unfold ownN; exact if_pos e
  · have hx : ownN own wr w1 x = 1 := hx
    unfold ownN at hx
    by_cases e1 : wr.heap.size ≤ x ∧ x < w1.heap.size
    · omega
    · rw [if_neg e1] at hx
      have := lo x (by omega)
      omega
  · have h5 := H.pr.2
    have e : own pr = 1 := e
    omega
  · have hx : own x = 2 := hx
    have e : own x = 1 := e
    omega
  · have hx : own x = 3 := hx
    have e : own x = 1 := e
    omega
  · have hx : own x = 4 := hx
    have e : own x = 1 := e
    omega
/-- a call that leaves the tables right -/
theorem LwF.same {w0 wr w1 : World} {N n d pr gs gg go i c c2 : Nat} {own : Nat → Nat} {S2 : St} {T : Nat → Nat → List ByteArray} {G O : Nat → Nat → Nat} {hs hg ho : Nat → Nat} {rv : Nat → Nat → Value} (H : LwF w0 N n d pr gs gg go i own S T G O c L hs rv hg ho wr) (U : UpN (fun b => own b = 1) wr n c2 S2 w1) (hN : S2.N = N) (ok : OkS S2 (i + 1)) (hc : c2 ≤ 130 * (i + 1)) (inv : Inv S2 T G O) (fb : S2.fl.length ≤ 4096) : LwY w0 N n d pr gs gg go (i + 1) w1 := by
  obtain ⟨h1, h2, ⟨L2, h3⟩, h4, h5, h6, h7⟩ := H.call U
  exact ⟨_, S2, T, G, O, c2, L2, hs, rv, hg, ho, h1, h2, h3, h4, h5, h6, h7, hN, inv, ok, hc, fun a b => ⟨Nat.le_succ_of_le (H.tl a b).1, Nat.le_succ_of_le (H.tl a b).2.1, Nat.le_succ_of_le (H.tl a b).2.2⟩, fb⟩
end Go.Proofs.Ytbdlamlplfogjaa
namespace Go.Proofs.Ytbdlamlplfogjaa
open Go.RowKit Go.Maps Go.Joins
variable {P : Nat → Prop} {w w' : World} {n c : Nat} {S : St} {L : Ly}

/-- acts in memory -/
def nacs (w : World) (p : Option Addr) (l : List Ac) : Prop := l = [] ∨ ∃ g o, p = some ⟨g, o, none⟩ ∧ ∀ i x, l[i]? = some x → (∀ j u, x.cells[j]? = some u → w.cell? ⟨g, o + i * 6 + j, none⟩ = some u) ∧ byA w x.p x.b ∧ (x.p = none → x.b.length = 0 ∧ x.q = 0) ∧ x.b.length ≤ 10000000
set_option maxHeartbeats 4000000 in
set_option maxRecDepth 100000 in
theorem NetOnce_bad (N : Int) (va : Value) (w : World) (h : N < 1 ∨ 64 < N) : Calls Try.prog 4 #[.int .i64 N, va] w fun e w' => e = .returned (.bool true) ∧ w.grownBy w' none := by
  have LV := mkHid (lives_any w)
  have BG := mkHid (fun w => begins_bad (w := w) N h)
  go_enter Try.func4, Try.ntmps4
  go_wp2_with fail
  refine LV.out.mono ?_
  rintro e w1 ⟨rfl, g1⟩
  have G1 := mkHid g1
  clear LV g1
  go_wp2_with fail
  refine (BG.out w1).mono ?_
  rintro e w2 ⟨rfl, hwx⟩; have hwx2 := hwx.symm; subst hwx2; clear hwx
  clear BG
  go_wp2_with fail
  go_ret
  exact ⟨rfl, G1.out⟩
end Go.Proofs.Ytbdlamlplfogjaa
namespace Go.Proofs.Ytbdlamlplfogjaa
open Go.RowKit Go.Maps Go.Joins
variable {w0 wr w1 : World} {N n d pr gs gg go i c c2 : Nat} {own : Nat → Nat} {S S2 : St} {L : Ly} {T : Nat → Nat → List ByteArray} {G O : Nat → Nat → Nat} {hs hg ho : Nat → Nat} {rv : Nat → Nat → Value}

theorem upd2_le {f : Nat → Nat → Nat} {a b v m : Nat} (h : ∀ x y, f x y ≤ m) (hv : v ≤ m) : ∀ x y, upd2 f a b v x y ≤ m := fun x y => by
  by_cases e : x = a ∧ y = b
  · obtain ⟨rfl, rfl⟩ := e
    rw [upd2_same]; exact hv
  · rw [upd2_other _ _ e]; exact h x y
theorem upd2_cast (f : Nat → Nat → Nat) (a b v : Nat) : (fun x y => ((upd2 f a b v x y : Nat) : Int)) = upd2 (fun x y => (f x y : Int)) a b (v : Int) := by
  funext x y
  by_cases e : x = a ∧ y = b
  · obtain ⟨rfl, rfl⟩ := e
    rw [upd2_same, upd2_same]
  · rw [upd2_other _ _ e, upd2_other _ _ e]
/-- a message received that an older epoch sent: one less of these -/
theorem LwF.recvO (H : LwF w0 N n d pr gs gg go i own S T G O c L hs rv hg ho wr) {j : Nat} {m : Nat × ByteArray} {rest : List (Nat × ByteArray)} (hj : j < N) (hd : S.dn j = false) (hm : S.ms j = m :: rest) (U : UpN (fun b => own b = 1) wr n c { S with ms := upd S.ms j rest } w1) (hi : i + 1 ≤ 3000000) (hO : 0 < O m.1 j) :
    LwY w0 N n d pr gs gg go (i + 1) (w1.setCell ⟨ho m.1, j, none⟩ (.int .i64 ((O m.1 j : Int) - 1))) := by
  have hN := H.hN
  obtain ⟨r1, r2, _⟩ := H.inv.recv (by omega) hd hm
  obtain ⟨h1, h2, ⟨L2, h3⟩, h4, h5, h6, h7⟩ := H.call U
  obtain ⟨M, C⟩ := h7.set (i := m.1) (j := j) (by omega) ((O m.1 j : Int) - 1)
  have q4 := (h7.row m.1 (by omega)).1
  have lq := h2 (ho m.1) (by rw [q4]; decide)
  have hc := H.hc
  rw [show ((O m.1 j : Int) - 1) = ((O m.1 j - 1 : Nat) : Int) by omega, ← upd2_cast] at M
  rw [show ((O m.1 j : Int) - 1) = ((O m.1 j - 1 : Nat) : Int) by omega] at C ⊢
  refine ⟨_, _, T, G, _, c, L2, hs, rv, hg, ho, grown_set h1 _ _ lq.1, fun b hb => ?_, h3.away C (fun b hb e => ?_), ⟨C.at_ h4.1 (fun e => ?_), h4.2⟩, h5.away C (fun b hb e => ?_), h6.away C (fun b hb e => ?_), M, hN, r2 hO, H.ok.recv hi hm, by omega, fun a b => ⟨Nat.le_succ_of_le (H.tl a b).1, Nat.le_succ_of_le (H.tl a b).2.1, upd2_le (fun x y => Nat.le_succ_of_le (H.tl x y).2.2) (by have := (H.tl m.1 j).2.2; omega) a b⟩, H.fb⟩
  · rw [World.size_setCell]; exact h2 b hb
  · have e : b = ho m.1 := e
    rw [e, q4] at hb; cases hb
  · have e : pr = ho m.1 := e
    have := h4.2
    rw [e, q4] at this; cases this
  · have e : b = ho m.1 := e
    rw [e, q4] at hb; cases hb
  · have e : b = ho m.1 := e
    rw [e, q4] at hb; cases hb
/-- a message received of this epoch: it is the next one sent -/
theorem LwF.recvG (H : LwF w0 N n d pr gs gg go i own S T G O c L hs rv hg ho wr) {j : Nat} {m : Nat × ByteArray} {rest : List (Nat × ByteArray)} (hj : j < N) (hd : S.dn j = false) (hm : S.ms j = m :: rest) (U : UpN (fun b => own b = 1) wr n c { S with ms := upd S.ms j rest } w1) (hi : i + 1 ≤ 3000000) (hO : O m.1 j = 0) :
    (T m.1 j)[G m.1 j]? = some m.2 ∧ LwY w0 N n d pr gs gg go (i + 1) (w1.setCell ⟨hg m.1, j, none⟩ (.int .i64 ((G m.1 j : Int) + 1))) := by
  have hN := H.hN
  obtain ⟨r1, _, r2⟩ := H.inv.recv (by omega) hd hm
  obtain ⟨r3, r4⟩ := r2 hO
  obtain ⟨h1, h2, ⟨L2, h3⟩, h4, h5, h6, h7⟩ := H.call U
  obtain ⟨M, C⟩ := h6.set (i := m.1) (j := j) (by omega) ((G m.1 j : Int) + 1)
  have q4 := (h6.row m.1 (by omega)).1
  have lq := h2 (hg m.1) (by rw [q4]; decide)
  have hc := H.hc
  rw [show ((G m.1 j : Int) + 1) = ((G m.1 j + 1 : Nat) : Int) by omega, ← upd2_cast] at M
  rw [show ((G m.1 j : Int) + 1) = ((G m.1 j + 1 : Nat) : Int) by omega] at C ⊢
  refine ⟨r3, _, _, T, _, O, c, L2, hs, rv, hg, ho, grown_set h1 _ _ lq.1, fun b hb => ?_, h3.away C (fun b hb e => ?_), ⟨C.at_ h4.1 (fun e => ?_), h4.2⟩, h5.away C (fun b hb e => ?_), M, h7.away C (fun b hb e => ?_), hN, r4, H.ok.recv hi hm, by omega, fun a b => ⟨Nat.le_succ_of_le (H.tl a b).1, upd2_le (fun x y => Nat.le_succ_of_le (H.tl x y).2.1) (by have := (H.tl m.1 j).2.1; omega) a b, Nat.le_succ_of_le (H.tl a b).2.2⟩, H.fb⟩
  · rw [World.size_setCell]; exact h2 b hb
  · have e : b = hg m.1 := e
    rw [e, q4] at hb; cases hb
  · have e : pr = hg m.1 := e
    have := h4.2
    rw [e, q4] at this; cases this
  · have e : b = hg m.1 := e
    rw [e, q4] at hb; cases hb
  · have e : b = hg m.1 := e
    rw [e, q4] at hb; cases hb
end Go.Proofs.Ytbdlamlplfogjaa
namespace Go.Proofs.Ytbdlamlplfogjaa
open Go.RowKit Go.Maps Go.Joins
variable {w0 wr w1 : World} {N n d pr gs gg go i c c2 : Nat} {own : Nat → Nat} {S S2 : St} {L : Ly} {T : Nat → Nat → List ByteArray} {G O : Nat → Nat → Nat} {hs hg ho : Nat → Nat} {rv : Nat → Nat → Value}

theorem flyS_fb {S : St} (p : Pk) (h : S.fl.length ≤ 4096) : (flyS S p).fl.length ≤ 4096 := by
  unfold flyS
  split
  · simp; omega
  · exact h
theorem sendS_N (S : St) (a t : Nat) (x : ByteArray) : (sendS S a t x).N = S.N := by unfold sendS; rw [flyS_N]
/-- the blocks of the table of what was sent, and the new ones -/
def ownS (own : Nat → Nat) (w w' : World) : Nat → Nat := fun b => if w.heap.size ≤ b ∧ b < w'.heap.size then 2 else own b
theorem LwF.send (H : LwF w0 N n d pr gs gg go i own S T G O c L hs rv hg ho wr) {a t : Nat} (ha : a < N) (ht : t < N) (x : ByteArray) (hu : (S.wy a t).us.length < 4096) (U : UpN (fun b => own b = 1) wr n c2 (sendS S a t x) w1) (hc2 : c2 ≤ 130 * (i + 1)) (hi : i + 1 ≤ 3000000) {W : World} (g0 : w1.grownBy W none) {b : Nat} (hbx : W.heap[b]? = some (.cells #[.string x] 9 (0, 0))) :
    ∃ v' w', (∀ ty, (Builtin.append_ #[49, 49] ty #[rv a t, .slice (some ⟨b, 0, none⟩) 1 1]).run Try.prog W = .ok v' w') ∧ w'.cell? ⟨gs, a, none⟩ = some (.slice (some ⟨hs a, 0, none⟩) N N) ∧ w'.cell? ⟨hs a, t, none⟩ = some (rv a t) ∧ w'.frozen? ⟨hs a, t, none⟩ = false ∧ (∃ p' c', v' = .slice p' ((T a t).length + 1) c') ∧ W.grownBy w' (rv a t).ownBlock ∧ LwY w0 N n d pr gs gg go (i + 1) (w'.setCell ⟨hs a, t, none⟩ v') := by
  have hN := H.hN
  have tl := H.tl
  obtain ⟨h1, h2, ⟨L2, h3⟩, h4, h5, h6, h7⟩ := H.call U
  obtain ⟨v', w', k1, k2, k3, k4, k5, k6, M, C⟩ := h5.app ha ht x (by have := (tl a t).1; omega) g0 hbx
  refine ⟨v', w', k1, k2, k3, k4, k5, k6, ?_⟩
  generalize hF : w'.setCell ⟨hs a, t, none⟩ v' = Wf at M C ⊢
  have q2 : ownN own wr w1 (hs a) = 2 := (h5.row a ha).1
  have hC : ∀ y, (y = hs a ∨ (rv a t).ownBlock = some y) → ownN own wr w1 y = 2 := fun y hy => by
    rcases hy with e | e
    · rw [e]; exact q2
    · exact (h5.str a t ha ht).2 y e
  have oe : ∀ y v, v ≠ 0 → ownN own wr w1 y = v → ownS (ownN own wr w1) w1 Wf y = v := fun y v hv hy => by
    have := (h2 y (by omega)).2
    unfold ownS
    rw [if_neg (by omega)]; exact hy
  have sz := C.size
  have sz1 := h1.size
  refine ⟨ownS (ownN own wr w1) w1 Wf, _, _, G, O, c2, L2, hs, _, hg, ho, ⟨C.os.trans h1.os, C.tape.trans h1.tape, C.output.trans h1.output, Nat.le_trans h1.size C.size, fun y hy hn => (C.block y (Nat.lt_of_lt_of_le hy h1.size) (fun e => by have := (h2 y (by rw [hC y e]; decide)).1; omega)).trans (h1.block y hy hn)⟩, fun y hy => ?_, (h3.away C (fun y hy e => ?_)).more (fun y hy => oe y 1 (by decide) hy) (fun y hy => ?_), ⟨C.at_ h4.1 (fun e => ?_), oe _ 5 (by decide) h4.2⟩, M.wide (fun y hy => ?_), (h6.away C (fun y hy e => ?_)).wide (fun y hy => oe y 3 (by decide) hy), (h7.away C (fun y hy e => ?_)).wide (fun y hy => oe y 4 (by decide) hy), by rw [sendS_N]; exact hN, H.inv.send x (by omega) (by omega), H.ok.send hi x (by omega) (by omega) hu, hc2, fun p q => ⟨?_, Nat.le_succ_of_le (tl p q).2.1, Nat.le_succ_of_le (tl p q).2.2⟩, ?_⟩
  · unfold ownS at hy
    by_cases e1 : w1.heap.size ≤ y ∧ y < Wf.heap.size
    · omega
    · rw [if_neg e1] at hy
      have := h2 y hy
      omega
  · have := hC y e
    have hy : ownN own wr w1 y = 1 := hy
    omega
  · have hy : ownS (ownN own wr w1) w1 Wf y = 1 := hy
    unfold ownS at hy
    by_cases e1 : w1.heap.size ≤ y ∧ y < Wf.heap.size
    · omega
    · rw [if_neg e1] at hy
      have := h2 y (by omega)
      omega
  · have := hC _ e
    have := h4.2
    omega
  · rcases hy with e | e
    · exact oe y 2 (by decide) e
    · unfold ownS; exact if_pos e
  · have := hC y e
    have hy : ownN own wr w1 y = 3 := hy
    omega
  · have := hC y e
    have hy : ownN own wr w1 y = 4 := hy
    omega
  · by_cases e : p = a ∧ q = t
    · obtain ⟨rfl, rfl⟩ := e
      rw [upd2_same, List.length_append]
      have := (tl p q).1
      simp; omega
    · rw [upd2_other _ _ e]; exact Nat.le_succ_of_le (tl p q).1
  · unfold sendS; exact flyS_fb _ H.fb
end Go.Proofs.Ytbdlamlplfogjaa
namespace Go.Proofs.Ytbdlamlplfogjaa
open Go.RowKit Go.Maps Go.Joins
variable {w0 wr w1 : World} {N n d pr gs gg go i c c2 : Nat} {own : Nat → Nat} {S S2 : St} {L : Ly} {T T2 : Nat → Nat → List ByteArray} {G O : Nat → Nat → Nat} {hs hg ho : Nat → Nat} {rv : Nat → Nat → Value}

/-- net and tables, whatever the tables say -/
structure LwH (w0 : World) (N n d pr gs gg go : Nat) (own : Nat → Nat) (S : St) (T : Nat → Nat → List ByteArray) (G O : Nat → Nat → Nat) (c : Nat) (L : Ly) (hs : Nat → Nat) (rv : Nat → Nat → Value) (hg ho : Nat → Nat) (wr : World) : Prop where
  gr : w0.grownBy wr none
  lo : ∀ b, own b ≠ 0 → w0.heap.size ≤ b ∧ b < wr.heap.size
  net : NetL (fun b => own b = 1) wr n c S L
  pr : wr.heap[pr]? = some (.cells #[.pointer (some ⟨n, 0, none⟩), .pointer (some ⟨d, 0, none⟩)] 33 (0, 0)) ∧ own pr = 5
  ts : MtS (fun b => own b = 2) wr gs N N hs rv T
  tg : MtI (fun b => own b = 3) wr gg N N hg (fun a b => (G a b : Int))
  tO : MtI (fun b => own b = 4) wr go N N ho (fun a b => (O a b : Int))
theorem LwF.half (H : LwF w0 N n d pr gs gg go i own S T G O c L hs rv hg ho wr) (U : UpN (fun b => own b = 1) wr n c2 S2 w1) : ∃ L2, LwH w0 N n d pr gs gg go (ownN own wr w1) S2 T G O c2 L2 hs rv hg ho w1 := by
  obtain ⟨h1, h2, ⟨L2, h3⟩, h4, h5, h6, h7⟩ := H.call U
  exact ⟨L2, h1, h2, h3, h4, h5, h6, h7⟩
theorem LwH.setO (H : LwH w0 N n d pr gs gg go own S T G O c L hs rv hg ho wr) {a b : Nat} (ha : a < N) (v : Nat) : LwH w0 N n d pr gs gg go own S T G (upd2 O a b v) c L hs rv hg ho (wr.setCell ⟨ho a, b, none⟩ (.int .i64 (v : Int))) := by
  obtain ⟨M, C⟩ := H.tO.set (i := a) (j := b) ha (v : Int)
  have q4 := (H.tO.row a ha).1
  have lq := H.lo (ho a) (by rw [q4]; decide)
  rw [← upd2_cast] at M
  refine ⟨grown_set H.gr _ _ lq.1, fun x hx => by rw [World.size_setCell]; exact H.lo x hx, H.net.away C (fun x hx e => ?_), ⟨C.at_ H.pr.1 (fun e => ?_), H.pr.2⟩, H.ts.away C (fun x hx e => ?_), H.tg.away C (fun x hx e => ?_), M⟩
  · have e : x = ho a := e
    rw [e, q4] at hx; cases hx
  · have e : pr = ho a := e
    have := H.pr.2
    rw [e, q4] at this; cases this
  · have e : x = ho a := e
    rw [e, q4] at hx; cases hx
  · have e : x = ho a := e
    rw [e, q4] at hx; cases hx
theorem LwH.setG (H : LwH w0 N n d pr gs gg go own S T G O c L hs rv hg ho wr) {a b : Nat} (ha : a < N) (v : Nat) : LwH w0 N n d pr gs gg go own S T (upd2 G a b v) O c L hs rv hg ho (wr.setCell ⟨hg a, b, none⟩ (.int .i64 (v : Int))) := by
  obtain ⟨M, C⟩ := H.tg.set (i := a) (j := b) ha (v : Int)
  have q4 := (H.tg.row a ha).1
  have lq := H.lo (hg a) (by rw [q4]; decide)
  rw [← upd2_cast] at M
  refine ⟨grown_set H.gr _ _ lq.1, fun x hx => by rw [World.size_setCell]; exact H.lo x hx, H.net.away C (fun x hx e => ?_), ⟨C.at_ H.pr.1 (fun e => ?_), H.pr.2⟩, H.ts.away C (fun x hx e => ?_), M, H.tO.away C (fun x hx e => ?_)⟩
  · have e : x = hg a := e
    rw [e, q4] at hx; cases hx
  · have e : pr = hg a := e
    have := H.pr.2
    rw [e, q4] at this; cases this
  · have e : x = hg a := e
    rw [e, q4] at hx; cases hx
  · have e : x = hg a := e
    rw [e, q4] at hx; cases hx
theorem LwH.setT (H : LwH w0 N n d pr gs gg go own S T G O c L hs rv hg ho wr) {a b : Nat} (ha : a < N) (hb : b < N) : LwH w0 N n d pr gs gg go own S (upd2 T a b []) G O c L hs (upd2 rv a b (.slice none 0 0)) hg ho (wr.setCell ⟨hs a, b, none⟩ (.slice none 0 0)) := by
  obtain ⟨M, C⟩ := H.ts.nil (i := a) (j := b) ha hb
  have q4 := (H.ts.row a ha).1
  have lq := H.lo (hs a) (by rw [q4]; decide)
  refine ⟨grown_set H.gr _ _ lq.1, fun x hx => by rw [World.size_setCell]; exact H.lo x hx, H.net.away C (fun x hx e => ?_), ⟨C.at_ H.pr.1 (fun e => ?_), H.pr.2⟩, M, H.tg.away C (fun x hx e => ?_), H.tO.away C (fun x hx e => ?_)⟩
  · have e : x = hs a := e
    rw [e, q4] at hx; cases hx
  · have e : pr = hs a := e
    have := H.pr.2
    rw [e, q4] at this; cases this
  · have e : x = hs a := e
    rw [e, q4] at hx; cases hx
  · have e : x = hs a := e
    rw [e, q4] at hx; cases hx
theorem MtI.congr {Q : Nat → Prop} {w : World} {g N : Nat} {hb : Nat → Nat} {f f2 : Nat → Nat → Int} (h : MtI Q w g N N hb f) (e : ∀ a b, a < N → b < N → f a b = f2 a b) : MtI Q w g N N hb f2 :=
  ⟨h.qg, h.at0, fun i hi => by
    obtain ⟨q, r, r1, r2, r3⟩ := h.row i hi
    exact ⟨q, r, r1, r2, fun j hj => by rw [r3 j hj, e i j hi hj]⟩, h.dis⟩
theorem MtS.congr {Q : Nat → Prop} {w : World} {g N : Nat} {hb : Nat → Nat} (h : MtS Q w g N N hb rv T) (e : ∀ a b, a < N → b < N → T a b = T2 a b) : MtS Q w g N N hb rv T2 :=
  ⟨h.qg, h.at0, h.row, h.dis, fun i j hi hj => by rw [← e i j hi hj]; exact h.str i j hi hj, h.sep⟩
/-- the tables are right again -/
theorem LwH.whole (H : LwH w0 N n d pr gs gg go own S T G O c L hs rv hg ho wr) {T2 : Nat → Nat → List ByteArray} {G2 O2 : Nat → Nat → Nat} (eT : ∀ a b, a < N → b < N → T a b = T2 a b) (eG : ∀ a b, a < N → b < N → G a b = G2 a b) (eO : ∀ a b, a < N → b < N → O a b = O2 a b) (hN : S.N = N) (inv : Inv S T2 G2 O2) (ok : OkS S i) (hc : c ≤ 130 * i) (tl : ∀ a b, (T2 a b).length ≤ i ∧ G2 a b ≤ i ∧ O2 a b ≤ i) (fb : S.fl.length ≤ 4096) : LwY w0 N n d pr gs gg go i wr :=
  ⟨own, S, T2, G2, O2, c, L, hs, rv, hg, ho, H.gr, H.lo, H.net, H.pr, H.ts.congr eT, H.tg.congr (fun a b ha hb => by rw [eG a b ha hb]), H.tO.congr (fun a b ha hb => by rw [eO a b ha hb]), hN, inv, ok, hc, tl, fb⟩
end Go.Proofs.Ytbdlamlplfogjaa
namespace Go.Proofs.Ytbdlamlplfogjaa
open Go.RowKit Go.Maps Go.Joins
variable {w wr : World} {Pa : Option Addr} {l : List Ac} {i : Nat} {x : Ac} {S : St}

/-- an act where it lies -/
theorem nacs.at (h : nacs w Pa l) (hx : l[i]? = some x) (hg : w.grownBy wr none) :
    ∃ g o, Pa = some ⟨g, o, none⟩ ∧ wr.cell? ⟨g, o + i * 6, none⟩ = some (.int .i64 x.k) ∧ wr.cell? ⟨g, o + i * 6 + 1, none⟩ = some (.int .i64 x.a) ∧ wr.cell? ⟨g, o + i * 6 + 2, none⟩ = some (.int .i64 x.t) ∧ wr.cell? ⟨g, o + i * 6 + 3, none⟩ = some (.int .i64 x.i) ∧ wr.cell? ⟨g, o + i * 6 + 4, none⟩ = some (.slice x.p x.b.length x.q) ∧ wr.cell? ⟨g, o + i * 6 + 5, none⟩ = some (.bool x.h) ∧
      byA wr x.p x.b ∧ (x.p = none → x.b.length = 0 ∧ x.q = 0) ∧ x.b.length ≤ 10000000 := by
  rcases h with h | ⟨g, o, rfl, h⟩
  · rw [h] at hx; simp at hx
  · obtain ⟨h1, h2, h3, h4⟩ := h i x hx
    have k : ∀ j u, x.cells[j]? = some u → wr.cell? ⟨g, o + i * 6 + j, none⟩ = some u := fun j u hj => by
      have h5 := h1 j u hj
      have hlt := World.block_lt_of_cell? w _ h5
      have := hg.block g hlt (by simp)
      unfold World.cell? at h5 ⊢
      simp only at h5 this ⊢
      rw [this]; exact h5
    exact ⟨g, o, rfl, k 0 _ rfl, k 1 _ rfl, k 2 _ rfl, k 3 _ rfl, k 4 _ rfl, k 5 _ rfl, h2.kept hg, h3, h4⟩
theorem bx_set {b : Nat} {t : TypeId} {a0 a1 a2 a3 a4 a5 : Value} (h : w.heap[b]? = some (.cells #[a0, a1, a2, a3, a4, a5] t (0, 0))) (v u : Value) : ((w.setCell ⟨b, 3, none⟩ v).setCell ⟨b, 5, none⟩ u).heap[b]? = some (.cells #[a0, a1, a2, v, a4, u] t (0, 0)) := (block_setCell (block_setCell h v) u).trans rfl
theorem bx_set' {b : Nat} {t : TypeId} {a0 a1 a2 a3 a4 a5 : Value} (h : w.heap[b]? = some (.cells #[a0, a1, a2, a3, a4, a5] t (0, 0))) (v u : Value) : ((w.setCell ⟨b, 5, none⟩ u).setCell ⟨b, 3, none⟩ v).heap[b]? = some (.cells #[a0, a1, a2, v, a4, u] t (0, 0)) := (block_setCell (block_setCell h u) v).trans rfl
/-- the act's box, with whatever place and flag -/
def bxA (w : World) (b : Nat) (x : Ac) : Prop := ∃ (I : Int) (hw : Bool), w.heap[b]? = some (.cells #[.int .i64 x.k, .int .i64 x.a, .int .i64 x.t, .int .i64 I, .slice x.p x.b.length x.q, .bool hw] 29 (0, 0))
theorem send_no {f t : Int} {l : List UInt8} (h : sendE S f t l.length ≠ 0) : sendT S f t ⟨l.toArray⟩ = S := by
  unfold sendE at h
  unfold sendT
  by_cases h1 : isS S f = true ∧ 0 ≤ t ∧ t < S.N
  · rw [if_pos h1] at h ⊢
    by_cases h2 : 65536 < l.length ∨ (S.wy f.toNat t.toNat).us.length = 4096
    · rw [if_pos h2]
    · rw [if_neg h2] at h; exact absurd rfl h
  · rw [if_neg h1]
theorem send_ok {B : Nat} (ok : OkS S B) {f t : Int} {l : List UInt8} (h : sendE S f t l.length = 0) : ∃ a b : Nat, f = (a : Int) ∧ t = (b : Int) ∧ a < S.N ∧ b < S.N ∧ (S.wy a b).us.length < 4096 ∧ sendT S f t ⟨l.toArray⟩ = sendS S a b ⟨l.toArray⟩ := by
  unfold sendE at h
  by_cases h1 : isS S f = true ∧ 0 ≤ t ∧ t < S.N
  · rw [if_pos h1] at h
    by_cases h2 : 65536 < l.length ∨ (S.wy f.toNat t.toNat).us.length = 4096
    · rw [if_pos h2] at h; cases h
    · obtain ⟨a, rfl, ha, _⟩ := isS_in h1.1
      refine ⟨a, t.toNat, rfl, by omega, ha, by omega, ?_, ?_⟩
      · have := ok.wu a t.toNat
        rw [Int.toNat_natCast] at h2
        omega
      · unfold sendT
        rw [if_pos h1, if_neg h2, Int.toNat_natCast]
  · rw [if_neg h1] at h; cases h
theorem tickM_fb {i j : Nat} : ∀ m, S.fl.length ≤ 4096 → (tickM S i j m).fl.length ≤ 4096
  | 0, h => h
  | m + 1, h => flyS_fb _ (tickM_fb m h)
theorem tickK_fb {i : Nat} (h : S.fl.length ≤ 4096) : ∀ k, (tickK S i k).fl.length ≤ 4096
  | 0 => h
  | k + 1 => tickM_fb _ (tickK_fb h k)
theorem comeS_fb (p : Pk) (h : S.fl.length ≤ 4096) : (comeS S p).fl.length ≤ 4096 := by
  unfold comeS
  split
  · split
    · exact h
    · split
      · exact flyS_fb _ h
      · exact flyS_fb _ h
  · exact h
theorem aloneS_fb (x : Ac) (h : S.fl.length ≤ 4096) : (aloneS S x).fl.length ≤ 4096 := by
  have he : ∀ k, (S.fl.eraseIdx k).length ≤ 4096 := fun k => Nat.le_trans (List.length_eraseIdx_le _ _) h
  unfold aloneS
  split
  · unfold delivS
    split
    · exact comeS_fb _ (he _)
    · exact h
  · split
    · unfold loseS
      split
      · exact he _
      · exact h
    · split
      · unfold twiceS
        split
        · exact flyS_fb _ h
        · exact h
      · split
        · unfold tickS
          split
          · exact tickK_fb h _
          · exact h
        · split
          · unfold downT
            split
            · exact h
            · exact h
          · exact h
theorem tickM_N2 {i j : Nat} : ∀ m, (tickM S i j m).N = S.N
  | 0 => rfl
  | m + 1 => by rw [tickM, flyS_N]; exact tickM_N2 m
theorem tickK_N2 {i : Nat} : ∀ k, (tickK S i k).N = S.N
  | 0 => rfl
  | k + 1 => by rw [tickK, tickM_N2]; exact tickK_N2 k
theorem comeS_N2 (p : Pk) : (comeS S p).N = S.N := by
  unfold comeS
  split
  · split
    · rfl
    · split
      · rw [flyS_N]; rfl
      · rw [flyS_N]
  · rfl
theorem aloneS_N (x : Ac) : (aloneS S x).N = S.N := by
  unfold aloneS
  split
  · unfold delivS
    split
    · rw [comeS_N2]
    · rfl
  · split
    · unfold loseS
      split <;> rfl
    · split
      · unfold twiceS
        split
        · rw [flyS_N]
        · rfl
      · split
        · unfold tickS
          split
          · exact tickK_N2 _
          · rfl
        · split
          · unfold downT
            split <;> rfl
          · rfl
end Go.Proofs.Ytbdlamlplfogjaa
