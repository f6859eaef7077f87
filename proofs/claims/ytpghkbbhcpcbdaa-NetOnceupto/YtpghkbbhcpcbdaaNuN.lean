/-
  Once, and in order: ticks, sending, receiving, nodes that go and come (plain math).
-/
import Derived.Test.YtpghkbbhcpcbdaaNuM
namespace Go.Proofs.Ytpghkbbhcpcbdaa
variable {S : St} {T : Nat → Nat → List ByteArray} {G O : Nat → Nat → Nat}

theorem gp.same {S2 : St} {p : Pk} (hN : S2.N = S.N) (hw : S2.wy = S.wy) (h : gp S T p) : gp S2 T p := by
  unfold gp at h ⊢
  rw [hN, hw]; exact h
theorem Inv.tickM (h : Inv S T G O) {i j : Nat} (hi : i < S.N) (hj : j < S.N) : ∀ m, m ≤ (S.wy i j).us.length → Inv (tickM S i j m) T G O
  | 0, _ => h
  | m + 1, hm => by
    have ih := h.tickM hi hj m (by omega)
    refine Inv.fly ih ?_
    refine gp.same (S := S) (tickM_N S i j m) (tickM_wy S i j m) ⟨hi, hj, Nat.le_refl _, fun _ => ?_⟩
    rw [if_neg (by simp)]
    refine ⟨by show 1 ≤ (S.wy i j).t + 1 + m; omega, ?_⟩
    show (T i j)[(S.wy i j).t + 1 + m - 1]? = some ((S.wy i j).us.getD m ⟨#[]⟩)
    have hu := h.us i j hi hj
    rw [List.getD_eq_getElem?_getD, hu, List.getElem?_drop, show (S.wy i j).t + 1 + m - 1 = (S.wy i j).t + m by omega]
    have hl : (S.wy i j).t + m < (T i j).length := by
      rw [hu, List.length_drop] at hm; omega
    rw [List.getElem?_eq_getElem hl]; rfl
theorem Inv.tickK (h : Inv S T G O) {i : Nat} (hi : i < S.N) : ∀ k, k ≤ S.N → Inv (tickK S i k) T G O
  | 0, _ => h
  | k + 1, hk => by
    have ih := h.tickK hi k (by omega)
    exact ih.tickM (by rw [tickK_N]; exact hi) (by rw [tickK_N]; omega) _ (Nat.le_refl _)
theorem Inv.tick (h : Inv S T G O) (k : Int) : Inv (tickS S k) T G O := by
  unfold tickS
  split
  · rename_i hk
    obtain ⟨i, rfl, hi, _⟩ := isS_in hk
    exact h.tickK hi _ (Nat.le_refl _)
  · exact h
theorem Inv.down (h : Inv S T G O) (k : Int) : Inv (downT S k) T G O := by
  unfold downT
  split
  · rename_i hk
    obtain ⟨i, rfl, hi, _⟩ := isS_in hk
    show Inv (downS S i) T G O
    refine ⟨h.us, h.tc, fun j hj m hm => ?_, fun j hj hd => ?_, fun a j ha hj hd => ?_, h.pk⟩
    · have hm : m ∈ upd S.ms i [] j := hm
      by_cases e : j = i
      · rw [e, upd_same] at hm; simp at hm
      · rw [upd_other _ _ e] at hm; exact h.fr j hj m hm
    · show upd S.ms i [] j = []
      have hd : upd S.dn i true j = true := hd
      by_cases e : j = i
      · rw [e, upd_same]
      · rw [upd_other _ _ e] at hd ⊢; exact h.dn j hj hd
    · have hd : upd S.dn i true j = false := hd
      by_cases e : j = i
      · rw [e, upd_same] at hd; cases hd
      · rw [upd_other _ _ e] at hd
        have := h.ws a j ha hj hd
        have e0 : wt (downS S i) a j = wt S a j := by
          show ((upd S.ms i [] j).filter _).map _ = _
          rw [upd_other _ _ e]; rfl
        rw [e0]; exact this
  · exact h
theorem Inv.alone (h : Inv S T G O) (x : Ac) : Inv (aloneS S x) T G O := by
  unfold aloneS
  split
  · exact h.deliver _
  split
  · exact h.lose _
  split
  · exact h.twice _
  split
  · exact h.tick _
  split
  · exact h.down _
  · exact h
theorem Inv.send (h : Inv S T G O) {i j : Nat} (x : ByteArray) (hi : i < S.N) (hj : j < S.N) : Inv (sendS S i j x) (upd2 T i j (T i j ++ [x])) G O := by
  have tc := h.tc i j hi hj
  have hu := h.us i j hi hj
  have eT : ∀ a b k y, (T a b)[k]? = some y → (upd2 T i j (T i j ++ [x]) a b)[k]? = some y := fun a b k y hk => by
    by_cases e : a = i ∧ b = j
    · rw [e.1, e.2, upd2_same]
      rw [e.1, e.2] at hk
      rw [List.getElem?_append_left (List.getElem?_eq_some_iff.1 hk).1]; exact hk
    · rw [upd2_other _ _ e]; exact hk
  have ev : ∀ a b, (upd2 S.wy i j (sentW S i j x) a b).b = (S.wy a b).b ∧ (upd2 S.wy i j (sentW S i j x) a b).t = (S.wy a b).t ∧ (upd2 S.wy i j (sentW S i j x) a b).c = (S.wy a b).c := fun a b => by
    by_cases e : a = i ∧ b = j
    · rw [e.1, e.2, upd2_same]; exact ⟨rfl, rfl, rfl⟩
    · rw [upd2_other _ _ e]; exact ⟨rfl, rfl, rfl⟩
  have h1 : Inv { S with wy := upd2 S.wy i j (sentW S i j x) } (upd2 T i j (T i j ++ [x])) G O := by
    refine ⟨fun a b ha hb => ?_, fun a b ha hb => ?_, h.fr, h.dn, fun a b ha hb hd => ?_, fun p hp => ?_⟩
    · show (upd2 S.wy i j (sentW S i j x) a b).us = (upd2 T i j (T i j ++ [x]) a b).drop (upd2 S.wy i j (sentW S i j x) a b).t
      rw [(ev a b).2.1]
      by_cases e : a = i ∧ b = j
      · rw [e.1, e.2, upd2_same, upd2_same]
        show (S.wy i j).us ++ [x] = _
        rw [hu, List.drop_append_of_le_length (by omega)]
      · rw [upd2_other _ _ e, upd2_other _ _ e]; exact h.us a b ha hb
    · show (upd2 S.wy i j (sentW S i j x) a b).t ≤ (upd2 S.wy i j (sentW S i j x) a b).c ∧ (upd2 S.wy i j (sentW S i j x) a b).c ≤ (upd2 T i j (T i j ++ [x]) a b).length
      rw [(ev a b).2.1, (ev a b).2.2]
      by_cases e : a = i ∧ b = j
      · rw [e.1, e.2, upd2_same]
        refine ⟨tc.1, ?_⟩
        rw [List.length_append]; exact Nat.le_trans tc.2 (Nat.le_add_right _ _)
      · rw [upd2_other _ _ e]; exact h.tc a b ha hb
    · obtain ⟨g1, o, o1, o2⟩ := h.ws a b ha hb hd
      show G a b ≤ (upd2 S.wy i j (sentW S i j x) a b).c ∧ ∃ o : List ByteArray, o.length = O a b ∧ wt S a b = o ++ ((upd2 T i j (T i j ++ [x]) a b).take (upd2 S.wy i j (sentW S i j x) a b).c).drop (G a b)
      rw [(ev a b).2.2]
      refine ⟨g1, o, o1, ?_⟩
      by_cases e : a = i ∧ b = j
      · rw [e.1, e.2, upd2_same, List.take_append_of_le_length tc.2]
        rw [e.1, e.2] at o2; exact o2
      · rw [upd2_other _ _ e]; exact o2
    · obtain ⟨q1, q2, q3, q4⟩ := h.pk p hp
      refine ⟨q1, q2, ?_, ?_⟩
      · show p.e ≤ (upd2 S.wy i j (sentW S i j x) p.f p.t).b + 1
        rw [(ev p.f p.t).1]; exact q3
      · show p.e = (upd2 S.wy i j (sentW S i j x) p.f p.t).b + 1 → if p.ack = true then p.s ≤ (upd2 S.wy i j (sentW S i j x) p.f p.t).c else _
        rw [(ev p.f p.t).1, (ev p.f p.t).2.2]
        intro e
        have := q4 e
        split
        · rename_i ha; rw [if_pos ha] at this; exact this
        · rename_i ha; rw [if_neg ha] at this; exact ⟨this.1, eT _ _ _ _ this.2⟩
  refine h1.fly ⟨hi, hj, ?_, fun _ => ?_⟩
  · show (S.wy i j).b + 1 ≤ (upd2 S.wy i j (sentW S i j x) i j).b + 1
    rw [(ev i j).1]; exact Nat.le_refl _
  · rw [if_neg (by simp [sentP])]
    refine ⟨by show 1 ≤ (S.wy i j).t + ((S.wy i j).us.length + 1); omega, ?_⟩
    show (upd2 T i j (T i j ++ [x]) i j)[(S.wy i j).t + ((S.wy i j).us.length + 1) - 1]? = some x
    rw [upd2_same, hu, List.length_drop, show (S.wy i j).t + ((T i j).length - (S.wy i j).t + 1) - 1 = (T i j).length by omega, List.getElem?_append_right (Nat.le_refl _)]
    simp
theorem wt_cons {j : Nat} {m : Nat × ByteArray} {rest : List (Nat × ByteArray)} (hm : S.ms j = m :: rest) (a : Nat) : wt S a j = (if m.1 = a then [m.2] else []) ++ wt { S with ms := upd S.ms j rest } a j := by
  have e : wt { S with ms := upd S.ms j rest } a j = (rest.filter (fun m => m.1 == a)).map (·.2) := by
    show ((upd S.ms j rest j).filter _).map _ = _
    rw [upd_same]
  rw [e]
  unfold wt
  rw [hm]
  by_cases ea : m.1 = a
  · rw [if_pos ea]; simp [ea]
  · rw [if_neg ea]; simp [ea]
/-- a message is taken: it is an elder one, or the next one that was sent -/
theorem Inv.recv (h : Inv S T G O) {j : Nat} {m : Nat × ByteArray} {rest : List (Nat × ByteArray)} (hj : j < S.N) (hd : S.dn j = false) (hm : S.ms j = m :: rest) :
    m.1 < S.N ∧ (0 < O m.1 j → Inv { S with ms := upd S.ms j rest } T G (upd2 O m.1 j (O m.1 j - 1))) ∧ (O m.1 j = 0 → (T m.1 j)[G m.1 j]? = some m.2 ∧ Inv { S with ms := upd S.ms j rest } T (upd2 G m.1 j (G m.1 j + 1)) O) := by
  have hf : m.1 < S.N := h.fr j hj m (by rw [hm]; simp)
  have fr' : ∀ b, b < S.N → ∀ q ∈ upd S.ms j rest b, q.1 < S.N := fun b hb q hq => by
    by_cases e : b = j
    · rw [e, upd_same] at hq
      exact h.fr j hj q (by rw [hm]; exact List.mem_cons_of_mem _ hq)
    · rw [upd_other _ _ e] at hq; exact h.fr b hb q hq
  have dn' : ∀ b, b < S.N → S.dn b = true → upd S.ms j rest b = [] := fun b hb hdb => by
    by_cases e : b = j
    · rw [e, hd] at hdb; cases hdb
    · rw [upd_other _ _ e]; exact h.dn b hb hdb
  have wo : ∀ a b, b ≠ j → wt { S with ms := upd S.ms j rest } a b = wt S a b := fun a b e => by
    show ((upd S.ms j rest b).filter _).map _ = _
    rw [upd_other _ _ e]; rfl
  have wa : ∀ a, a ≠ m.1 → wt { S with ms := upd S.ms j rest } a j = wt S a j := fun a e => by
    rw [wt_cons hm a, if_neg (fun e2 => e e2.symm), List.nil_append]
  obtain ⟨g1, o, o1, o2⟩ := h.ws m.1 j hf hj hd
  have wm := wt_cons hm m.1
  rw [if_pos rfl] at wm
  refine ⟨hf, fun h0 => ⟨h.us, h.tc, fr', dn', fun a b ha hb hdb => ?_, h.pk⟩, fun h0 => ?_⟩
  · by_cases e : a = m.1 ∧ b = j
    · rw [e.1, e.2, upd2_same]
      obtain ⟨y, o', rfl⟩ : ∃ y o', o = y :: o' := by
        cases o with
        | nil => simp at o1; omega
        | cons y o' => exact ⟨y, o', rfl⟩
      refine ⟨g1, o', by simp at o1; omega, ?_⟩
      rw [wm] at o2
      simp at o2
      exact o2.2
    · rw [upd2_other _ _ e]
      obtain ⟨k1, q, q1, q2⟩ := h.ws a b ha hb hdb
      refine ⟨k1, q, q1, ?_⟩
      by_cases eb : b = j
      · subst eb
        rw [wa a (fun ea => e ⟨ea, rfl⟩)]; exact q2
      · rw [wo a b eb]; exact q2
  · obtain rfl : o = [] := List.eq_nil_of_length_eq_zero (by omega)
    rw [wm] at o2
    simp only [List.nil_append, List.cons_append] at o2
    have tc := h.tc m.1 j hf hj
    have hg : G m.1 j < (S.wy m.1 j).c := by
      rcases Nat.lt_or_ge (G m.1 j) (S.wy m.1 j).c with h1 | h1
      · exact h1
      · rw [List.drop_eq_nil_of_le (by rw [List.length_take]; omega)] at o2; cases o2
    have hl : G m.1 j < (T m.1 j).length := by omega
    have e1 : ((T m.1 j).take (S.wy m.1 j).c).drop (G m.1 j) = (T m.1 j)[G m.1 j] :: ((T m.1 j).take (S.wy m.1 j).c).drop (G m.1 j + 1) := by
      rw [List.drop_eq_getElem_cons (by rw [List.length_take]; omega)]
      rw [List.getElem_take]
    rw [e1] at o2
    injection o2 with o3 o4
    refine ⟨by rw [List.getElem?_eq_getElem hl, o3], h.us, h.tc, fr', dn', fun a b ha hb hdb => ?_, h.pk⟩
    by_cases e : a = m.1 ∧ b = j
    · rw [e.1, e.2, upd2_same]
      exact ⟨hg, [], h0.symm, o4⟩
    · rw [upd2_other _ _ e]
      obtain ⟨k1, q, q1, q2⟩ := h.ws a b ha hb hdb
      refine ⟨k1, q, q1, ?_⟩
      by_cases eb : b = j
      · subst eb
        rw [wa a (fun ea => e ⟨ea, rfl⟩)]; exact q2
      · rw [wo a b eb]; exact q2
end Go.Proofs.Ytpghkbbhcpcbdaa
