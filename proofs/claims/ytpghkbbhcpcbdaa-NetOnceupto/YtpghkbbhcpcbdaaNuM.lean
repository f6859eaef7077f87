/-
  Once, and in order: what holds of a net, of what was sent, and of what was received (plain math).
-/
import Derived.Test.YtpghkbbhcpcbdaaNuF
namespace Go.Proofs.Ytpghkbbhcpcbdaa
variable {S : St} {T : Nat → Nat → List ByteArray} {G O : Nat → Nat → Nat}

/-- a packet that says what was sent -/
def gp (S : St) (T : Nat → Nat → List ByteArray) (p : Pk) : Prop := p.f < S.N ∧ p.t < S.N ∧ p.e ≤ (S.wy p.f p.t).b + 1 ∧ (p.e = (S.wy p.f p.t).b + 1 → if p.ack = true then p.s ≤ (S.wy p.f p.t).c else 1 ≤ p.s ∧ (T p.f p.t)[p.s - 1]? = some p.x)
/-- what waits at a node from another one -/
def wt (S : St) (i j : Nat) : List ByteArray := ((S.ms j).filter (fun m => m.1 == i)).map (·.2)
structure Inv (S : St) (T : Nat → Nat → List ByteArray) (G O : Nat → Nat → Nat) : Prop where
  us : ∀ i j, i < S.N → j < S.N → (S.wy i j).us = (T i j).drop (S.wy i j).t
  tc : ∀ i j, i < S.N → j < S.N → (S.wy i j).t ≤ (S.wy i j).c ∧ (S.wy i j).c ≤ (T i j).length
  fr : ∀ j, j < S.N → ∀ m ∈ S.ms j, m.1 < S.N
  dn : ∀ j, j < S.N → S.dn j = true → S.ms j = []
  ws : ∀ i j, i < S.N → j < S.N → S.dn j = false → G i j ≤ (S.wy i j).c ∧ ∃ o : List ByteArray, o.length = O i j ∧ wt S i j = o ++ ((T i j).take (S.wy i j).c).drop (G i j)
  pk : ∀ p ∈ S.fl, gp S T p
theorem Inv.begin (N : Nat) : Inv (st0 N) (fun _ _ => []) (fun _ _ => 0) (fun _ _ => 0) :=
  ⟨fun _ _ _ _ => rfl, fun _ _ _ _ => ⟨Nat.le_refl _, Nat.le_refl _⟩, fun _ _ m hm => by simp [st0] at hm, fun _ _ _ => rfl, fun _ _ _ _ _ => ⟨Nat.le_refl _, [], rfl, rfl⟩, fun p hp => by simp [st0] at hp⟩
theorem Inv.sub (h : Inv S T G O) {fl : List Pk} (hs : ∀ p ∈ fl, gp S T p) : Inv { S with fl := fl } T G O := ⟨h.us, h.tc, h.fr, h.dn, h.ws, hs⟩
theorem Inv.fly (h : Inv S T G O) {p : Pk} (hp : gp S T p) : Inv (flyS S p) T G O := by
  unfold flyS
  split
  · refine h.sub (fun q hq => ?_)
    rcases List.mem_append.1 hq with hq | hq
    · exact h.pk q hq
    · simp at hq; rw [hq]; exact hp
  · exact h
theorem Inv.lose (h : Inv S T G O) (k : Int) : Inv (loseS S k) T G O := by
  unfold loseS
  split
  · exact h.sub (fun p hp => h.pk p (List.mem_of_mem_eraseIdx hp))
  · exact h
theorem fliesS_get {k : Int} (h : fliesS S k = true) : S.fl.getD k.toNat pk0 ∈ S.fl := by
  have := of_decide_eq_true h
  have hl : k.toNat < S.fl.length := by omega
  rw [List.getD_eq_getElem?_getD, List.getElem?_eq_getElem hl]
  exact List.getElem_mem hl
theorem Inv.twice (h : Inv S T G O) (k : Int) : Inv (twiceS S k) T G O := by
  unfold twiceS
  split
  · rename_i hk
    exact h.fly (h.pk _ (fliesS_get hk))
  · exact h
/-- a way has changed, its texts have not -/
theorem Inv.way (h : Inv S T G O) {i j : Nat} {x : Wy} (hi : i < S.N) (hj : j < S.N) (hb : x.b = (S.wy i j).b) (hu : x.us = (T i j).drop x.t) (hc : x.c = (S.wy i j).c) (ht : x.t ≤ x.c) : Inv { S with wy := upd2 S.wy i j x } T G O := by
  have ev : ∀ a b, (upd2 S.wy i j x a b).b = (S.wy a b).b ∧ (upd2 S.wy i j x a b).c = (S.wy a b).c := fun a b => by
    by_cases e : a = i ∧ b = j
    · rw [e.1, e.2, upd2_same]; exact ⟨hb, hc⟩
    · rw [upd2_other _ _ e]; exact ⟨rfl, rfl⟩
  have hc2 := (h.tc i j hi hj).2
  refine ⟨fun a b ha hb' => ?_, fun a b ha hb' => ?_, h.fr, h.dn, fun a b ha hb' hd => ?_, fun p hp => ?_⟩
  · show (upd2 S.wy i j x a b).us = (T a b).drop (upd2 S.wy i j x a b).t
    by_cases e : a = i ∧ b = j
    · rw [e.1, e.2, upd2_same]; exact hu
    · rw [upd2_other _ _ e]; exact h.us a b ha hb'
  · show (upd2 S.wy i j x a b).t ≤ (upd2 S.wy i j x a b).c ∧ (upd2 S.wy i j x a b).c ≤ _
    by_cases e : a = i ∧ b = j
    · rw [e.1, e.2, upd2_same]; exact ⟨ht, by omega⟩
    · rw [upd2_other _ _ e]; exact h.tc a b ha hb'
  · have := h.ws a b ha hb' hd
    show G a b ≤ (upd2 S.wy i j x a b).c ∧ ∃ o : List ByteArray, o.length = O a b ∧ wt S a b = o ++ ((T a b).take (upd2 S.wy i j x a b).c).drop (G a b)
    rw [(ev a b).2]; exact this
  · obtain ⟨h1, h2, h3, h4⟩ := h.pk p hp
    refine ⟨h1, h2, ?_, ?_⟩
    · show p.e ≤ (upd2 S.wy i j x p.f p.t).b + 1
      rw [(ev p.f p.t).1]; exact h3
    · show p.e = (upd2 S.wy i j x p.f p.t).b + 1 → if p.ack = true then p.s ≤ (upd2 S.wy i j x p.f p.t).c else _
      rw [(ev p.f p.t).1, (ev p.f p.t).2]; exact h4
theorem Inv.come (h : Inv S T G O) {p : Pk} (hp : gp S T p) : Inv (comeS S p) T G O := by
  obtain ⟨h1, h2, h3, h4⟩ := hp
  unfold comeS
  split
  · rename_i hh
    obtain ⟨he, hd⟩ := hh
    have h5 := h4 he
    split
    · rename_i ha
      rw [if_pos ha] at h5
      have hu := h.us p.f p.t h1 h2
      have tc := h.tc p.f p.t h1 h2
      unfold tellW
      split
      · rename_i hk
        refine h.way h1 h2 rfl ?_ rfl h5
        show (S.wy p.f p.t).us.drop (p.s - (S.wy p.f p.t).t) = (T p.f p.t).drop p.s
        rw [hu, List.drop_drop]
        congr 1; omega
      · exact h.way h1 h2 rfl hu rfl tc.1
    · rename_i ha
      rw [if_neg ha] at h5
      have hto : pkTo p = p.t := by unfold pkTo; rw [if_neg ha]
      rw [hto] at hd
      have tc := h.tc p.f p.t h1 h2
      split
      · rename_i hs
        have hx : (T p.f p.t)[(S.wy p.f p.t).c]? = some p.x := by
          have := h5.2
          rw [hs, Nat.add_sub_cancel] at this; exact this
        have hlt := (List.getElem?_eq_some_iff.1 hx).1
        have ev : ∀ a b, (upd2 S.wy p.f p.t { S.wy p.f p.t with c := (S.wy p.f p.t).c + 1 } a b).b = (S.wy a b).b ∧ (upd2 S.wy p.f p.t { S.wy p.f p.t with c := (S.wy p.f p.t).c + 1 } a b).t = (S.wy a b).t ∧ (upd2 S.wy p.f p.t { S.wy p.f p.t with c := (S.wy p.f p.t).c + 1 } a b).us = (S.wy a b).us ∧ (S.wy a b).c ≤ (upd2 S.wy p.f p.t { S.wy p.f p.t with c := (S.wy p.f p.t).c + 1 } a b).c := fun a b => by
          by_cases e : a = p.f ∧ b = p.t
          · rw [e.1, e.2, upd2_same]; exact ⟨rfl, rfl, rfl, Nat.le_succ _⟩
          · rw [upd2_other _ _ e]; exact ⟨rfl, rfl, rfl, Nat.le_refl _⟩
        have hN : Inv (nextS S p) T G O := by
          refine ⟨fun a b ha' hb' => ?_, fun a b ha' hb' => ?_, fun b hb' m hm => ?_, fun b hb' hdb => ?_, fun a b ha' hb' hdb => ?_, fun q hq => ?_⟩
          · show (upd2 S.wy p.f p.t _ a b).us = (T a b).drop (upd2 S.wy p.f p.t _ a b).t
            rw [(ev a b).2.2.1, (ev a b).2.1]; exact h.us a b ha' hb'
          · show (upd2 S.wy p.f p.t _ a b).t ≤ (upd2 S.wy p.f p.t _ a b).c ∧ (upd2 S.wy p.f p.t _ a b).c ≤ _
            by_cases e : a = p.f ∧ b = p.t
            · rw [e.1, e.2, upd2_same]; exact ⟨Nat.le_succ_of_le tc.1, hlt⟩
            · rw [upd2_other _ _ e]; exact h.tc a b ha' hb'
          · have hm : m ∈ upd S.ms p.t (S.ms p.t ++ [(p.f, p.x)]) b := hm
            by_cases e : b = p.t
            · rw [e, upd_same] at hm
              rcases List.mem_append.1 hm with hm | hm
              · exact h.fr p.t h2 m hm
              · simp at hm; rw [hm]; exact h1
            · rw [upd_other _ _ e] at hm
              exact h.fr b hb' m hm
          · have hdb : S.dn b = true := hdb
            show upd S.ms p.t (S.ms p.t ++ [(p.f, p.x)]) b = []
            by_cases e : b = p.t
            · rw [e, hd] at hdb; cases hdb
            · rw [upd_other _ _ e]; exact h.dn b hb' hdb
          · have hdb : S.dn b = false := hdb
            obtain ⟨g1, o, o1, o2⟩ := h.ws a b ha' hb' hdb
            show G a b ≤ (upd2 S.wy p.f p.t _ a b).c ∧ ∃ o : List ByteArray, o.length = O a b ∧ wt (nextS S p) a b = o ++ ((T a b).take (upd2 S.wy p.f p.t _ a b).c).drop (G a b)
            refine ⟨Nat.le_trans g1 (ev a b).2.2.2, o, o1, ?_⟩
            by_cases eb : b = p.t
            · subst eb
              have e0 : wt (nextS S p) a p.t = wt S a p.t ++ (if p.f = a then [p.x] else []) := by
                show ((upd S.ms p.t (S.ms p.t ++ [(p.f, p.x)]) p.t).filter (fun m => m.1 == a)).map (·.2) = _
                rw [upd_same, List.filter_append, List.map_append]
                congr 1
                by_cases ea : p.f = a
                · rw [if_pos ea]; simp [ea]
                · rw [if_neg ea]; simp [ea]
              rw [e0, o2]
              by_cases ea : p.f = a
              · subst ea
                rw [if_pos rfl, upd2_same, List.append_assoc]
                congr 1
                show _ = ((T p.f p.t).take ((S.wy p.f p.t).c + 1)).drop (G p.f p.t)
                rw [List.take_add_one, hx, List.drop_append_of_le_length (by rw [List.length_take]; omega)]
                rfl
              · rw [if_neg ea, List.append_nil, upd2_other _ _ (fun e => ea e.1.symm)]
            · rw [upd2_other _ _ (fun e => eb e.2)]
              have e0 : wt (nextS S p) a b = wt S a b := by
                show ((upd S.ms p.t _ b).filter _).map _ = _
                rw [upd_other _ _ eb]; rfl
              rw [e0]; exact o2
          · obtain ⟨q1, q2, q3, q4⟩ := h.pk q hq
            refine ⟨q1, q2, ?_, ?_⟩
            · show q.e ≤ (upd2 S.wy p.f p.t _ q.f q.t).b + 1
              rw [(ev q.f q.t).1]; exact q3
            · show q.e = (upd2 S.wy p.f p.t _ q.f q.t).b + 1 → if q.ack = true then q.s ≤ (upd2 S.wy p.f p.t _ q.f q.t).c else _
              rw [(ev q.f q.t).1]
              intro e
              have := q4 e
              split
              · rename_i hq'
                rw [if_pos hq'] at this
                exact Nat.le_trans this (ev q.f q.t).2.2.2
              · rename_i hq'
                rw [if_neg hq'] at this; exact this
        refine hN.fly ⟨h1, h2, ?_, ?_⟩
        · show p.e ≤ (upd2 S.wy p.f p.t _ p.f p.t).b + 1
          rw [(ev p.f p.t).1]; exact h3
        · intro _
          rw [if_pos (show (ackP p ((S.wy p.f p.t).c + 1)).ack = true from rfl)]
          show (S.wy p.f p.t).c + 1 ≤ (upd2 S.wy p.f p.t _ p.f p.t).c
          rw [upd2_same]; exact Nat.le_refl _
      · refine h.fly ⟨h1, h2, h3, fun _ => ?_⟩
        rw [if_pos (show (ackP p (S.wy p.f p.t).c).ack = true from rfl)]
        exact Nat.le_refl _
  · exact h
theorem Inv.deliver (h : Inv S T G O) (k : Int) : Inv (delivS S k) T G O := by
  unfold delivS
  split
  · rename_i hk
    have := h.pk _ (fliesS_get hk)
    exact (h.sub (fun p hp => h.pk p (List.mem_of_mem_eraseIdx hp))).come this
  · exact h
end Go.Proofs.Ytpghkbbhcpcbdaa
