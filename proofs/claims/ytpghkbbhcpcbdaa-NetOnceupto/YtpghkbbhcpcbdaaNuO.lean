/-
  Once, and in order: a node that comes again; how great numbers become (plain math).
-/
import Derived.Test.YtpghkbbhcpcbdaaNuN
namespace Go.Proofs.Ytpghkbbhcpcbdaa
variable {S : St} {T : Nat → Nat → List ByteArray} {G O : Nat → Nat → Nat}

theorem anewS_wy (S : St) (i j a b : Nat) : (anewS S i j).wy a b = if a = i ∧ b = j then ⟨(S.wy i j).b + 1, 0, 0, []⟩ else S.wy a b := rfl
theorem anewK_wy (S : St) (i : Nat) : ∀ k a b, (anewK S i k).wy a b = if (a = i ∧ b < k) ∨ (b = i ∧ a < k) then ⟨(S.wy a b).b + 1, 0, 0, []⟩ else S.wy a b
  | 0, a, b => by rw [if_neg (by omega)]; rfl
  | k + 1, a, b => by
    have ih := anewK_wy S i k
    rw [anewK_s]
    by_cases hk : k = i
    · rw [if_pos hk, anewS_wy]
      by_cases e : a = i ∧ b = k
      · rw [if_pos e, if_pos (Or.inl ⟨e.1, by omega⟩), ih, if_neg (by omega), e.1, e.2]
      · rw [if_neg e, ih]
        by_cases e2 : (a = i ∧ b < k) ∨ (b = i ∧ a < k)
        · rw [if_pos e2, if_pos (by omega)]
        · rw [if_neg e2, if_neg (by omega)]
    · rw [if_neg hk, anewS_wy]
      by_cases e : a = k ∧ b = i
      · rw [if_pos e, if_pos (Or.inr ⟨e.2, by omega⟩), anewS_wy, if_neg (by omega), ih, if_neg (by omega), e.1, e.2]
      · rw [if_neg e, anewS_wy]
        by_cases e3 : a = i ∧ b = k
        · rw [if_pos e3, if_pos (Or.inl ⟨e3.1, by omega⟩), ih, if_neg (by omega), e3.1, e3.2]
        · rw [if_neg e3, ih]
          by_cases e2 : (a = i ∧ b < k) ∨ (b = i ∧ a < k)
          · rw [if_pos e2, if_pos (by omega)]
          · rw [if_neg e2, if_neg (by omega)]
theorem anewK_same (S : St) (i : Nat) : ∀ k, (anewK S i k).N = S.N ∧ (anewK S i k).dn = S.dn ∧ (anewK S i k).ms = S.ms ∧ (anewK S i k).fl = S.fl
  | 0 => ⟨rfl, rfl, rfl, rfl⟩
  | k + 1 => by
    rw [anewK_s]
    split
    · exact anewK_same S i k
    · exact anewK_same S i k
theorem upS_wy (S : St) (i a b : Nat) (ha : a < S.N) (hb : b < S.N) : (upS S i).wy a b = if a = i ∨ b = i then ⟨(S.wy a b).b + 1, 0, 0, []⟩ else S.wy a b := by
  unfold upS
  rw [anewK_wy]
  by_cases e : a = i ∨ b = i
  · rw [if_pos e, if_pos (by omega)]
  · rw [if_neg e, if_neg (by omega)]
theorem upS_same (S : St) (i : Nat) : (upS S i).N = S.N ∧ (upS S i).dn = upd S.dn i false ∧ (upS S i).ms = S.ms ∧ (upS S i).fl = S.fl := anewK_same _ _ _
/-- what is told of sent, received and elder messages behind an Up -/
def upT' (T : Nat → Nat → List ByteArray) (i : Nat) : Nat → Nat → List ByteArray := fun a b => if a = i ∨ b = i then [] else T a b
def upG (G : Nat → Nat → Nat) (i : Nat) : Nat → Nat → Nat := fun a b => if a = i ∨ b = i then 0 else G a b
def upO (O : Nat → Nat → Nat) (cnt : Nat → Nat) (i : Nat) : Nat → Nat → Nat := fun a b => if b = i then 0 else if a = i then cnt b else O a b
theorem Inv.up (h : Inv S T G O) {i : Nat} {cnt : Nat → Nat} (hi : i < S.N) (hd : S.dn i = true) (hc : ∀ b, b < S.N → b ≠ i → S.dn b = false → cnt b = (wt S i b).length) : Inv (upS S i) (upT' T i) (upG G i) (upO O cnt i) := by
  obtain ⟨e1, e2, e3, e4⟩ := upS_same S i
  have hm := h.dn i hi hd
  have ew : ∀ a b, wt (upS S i) a b = wt S a b := fun a b => by unfold wt; rw [e3]
  refine ⟨fun a b ha hb => ?_, fun a b ha hb => ?_, fun b hb m hm' => ?_, fun b hb hdb => ?_, fun a b ha hb hdb => ?_, fun p hp => ?_⟩
  · rw [e1] at ha hb
    rw [upS_wy S i a b ha hb]
    unfold upT'
    split
    · rfl
    · exact h.us a b ha hb
  · rw [e1] at ha hb
    rw [upS_wy S i a b ha hb]
    unfold upT'
    split
    · exact ⟨Nat.le_refl _, Nat.le_refl _⟩
    · exact h.tc a b ha hb
  · rw [e1] at hb ⊢
    rw [e3] at hm'
    exact h.fr b hb m hm'
  · rw [e1] at hb
    rw [e2] at hdb
    rw [e3]
    by_cases e : b = i
    · rw [e, upd_same] at hdb; cases hdb
    · rw [upd_other _ _ e] at hdb; exact h.dn b hb hdb
  · rw [e1] at ha hb
    rw [e2] at hdb
    rw [upS_wy S i a b ha hb, ew]
    unfold upT' upG upO
    by_cases eb : b = i
    · rw [if_pos (Or.inr eb), if_pos (Or.inr eb), if_pos (Or.inr eb), if_pos eb]
      refine ⟨Nat.le_refl _, [], rfl, ?_⟩
      unfold wt
      rw [eb, hm]; rfl
    · rw [upd_other _ _ eb] at hdb
      rw [if_neg eb]
      by_cases ea : a = i
      · rw [if_pos (Or.inl ea), if_pos (Or.inl ea), if_pos (Or.inl ea), if_pos ea]
        refine ⟨Nat.le_refl _, wt S a b, ?_, by simp⟩
        rw [ea]; exact (hc b hb eb hdb).symm
      · have no : ¬ (a = i ∨ b = i) := by omega
        simp only [if_neg no, if_neg ea]
        exact h.ws a b ha hb hdb
  · rw [e4] at hp
    obtain ⟨q1, q2, q3, q4⟩ := h.pk p hp
    unfold gp
    rw [e1, upS_wy S i p.f p.t q1 q2]
    refine ⟨q1, q2, ?_, ?_⟩
    · split
      · show p.e ≤ (S.wy p.f p.t).b + 1 + 1; omega
      · exact q3
    · unfold upT'
      by_cases e : p.f = i ∨ p.t = i
      · rw [if_pos e, if_pos e]
        intro he
        have he : p.e = (S.wy p.f p.t).b + 1 + 1 := he
        omega
      · rw [if_neg e, if_neg e]; exact q4
/-! how great numbers become -/
theorem OkS.fly {B : Nat} (h : OkS S B) {p : Pk} (hp : p.f < S.N ∧ p.t < S.N) : OkS (flyS S p) B := by
  unfold flyS
  split
  · refine ⟨fun q hq => ?_, h.wb, h.wt, h.wc, h.wu, h.ml, h.lt⟩
    rcases List.mem_append.1 hq with hq | hq
    · exact h.pk q hq
    · simp at hq; rw [hq]; exact hp
  · exact h
theorem OkS.more {B : Nat} (h : OkS S B) (hB : B + 1 ≤ 3000000) : OkS S (B + 1) :=
  ⟨h.pk, fun i j => by have := h.wb i j; omega, fun i j => by have := h.wt i j; omega, fun i j => by have := h.wc i j; omega, h.wu, fun i => by have := h.ml i; omega, hB⟩
theorem OkS.way {B : Nat} (h : OkS S B) (hB : B + 1 ≤ 3000000) {i j : Nat} {x : Wy} (h1 : x.b ≤ 200 * (B + 1)) (h2 : x.t ≤ 5000 * (B + 1)) (h3 : x.c ≤ B + 1) (h4 : x.us.length ≤ 4096) : OkS { S with wy := upd2 S.wy i j x } (B + 1) := by
  have h' := h.more hB
  have ev : ∀ (f : Wy → Nat) (bd : Nat), (∀ a b, f (S.wy a b) ≤ bd) → f x ≤ bd → ∀ a b, f (upd2 S.wy i j x a b) ≤ bd := fun f bd ha hx a b => by
    by_cases e : a = i ∧ b = j
    · rw [e.1, e.2, upd2_same]; exact hx
    · rw [upd2_other _ _ e]; exact ha a b
  exact ⟨h'.pk, ev (·.b) _ h'.wb h1, ev (·.t) _ h'.wt h2, ev (·.c) _ h'.wc h3, ev (·.us.length) _ h'.wu h4, h'.ml, hB⟩
theorem OkS.come {B : Nat} (h : OkS S B) (hB : B + 1 ≤ 3000000) {p : Pk} (hp : p.f < S.N ∧ p.t < S.N) : OkS (comeS S p) (B + 1) := by
  have a1 := h.wb p.f p.t
  have a2 := h.wt p.f p.t
  have a3 := h.wc p.f p.t
  have a4 := h.wu p.f p.t
  unfold comeS
  split
  · split
    · unfold tellW
      split
      · rename_i hk
        refine h.way hB (by show (S.wy p.f p.t).b ≤ _; omega) (by show p.s ≤ _; omega) (by show (S.wy p.f p.t).c ≤ _; omega) ?_
        show ((S.wy p.f p.t).us.drop _).length ≤ 4096
        rw [List.length_drop]; omega
      · exact h.way hB (by omega) (by omega) (by omega) a4
    · split
      · have h1 : OkS { S with wy := upd2 S.wy p.f p.t { S.wy p.f p.t with c := (S.wy p.f p.t).c + 1 } } (B + 1) := h.way hB (by show (S.wy p.f p.t).b ≤ _; omega) (by show (S.wy p.f p.t).t ≤ _; omega) (by show (S.wy p.f p.t).c + 1 ≤ _; omega) a4
        have h2 : OkS (nextS S p) (B + 1) := by
          refine ⟨h1.pk, h1.wb, h1.wt, h1.wc, h1.wu, fun i => ?_, hB⟩
          show (upd S.ms p.t (S.ms p.t ++ [(p.f, p.x)]) i).length ≤ B + 1
          by_cases e : i = p.t
          · rw [e, upd_same, List.length_append]
            have := h.ml p.t
            simp; omega
          · rw [upd_other _ _ e]; have := h.ml i; omega
        exact h2.fly hp
      · exact (h.more hB).fly hp
  · exact h.more hB
theorem OkS.tickM {B : Nat} (h : OkS S B) {i j : Nat} (hi : i < S.N) (hj : j < S.N) : ∀ m, OkS (tickM S i j m) B
  | 0 => h
  | m + 1 => (h.tickM hi hj m).fly (by rw [tickM_N]; exact ⟨hi, hj⟩)
theorem OkS.tickK {B : Nat} (h : OkS S B) {i : Nat} (hi : i < S.N) : ∀ k, k ≤ S.N → OkS (tickK S i k) B
  | 0, _ => h
  | k + 1, hk => (h.tickK hi k (by omega)).tickM (by rw [tickK_N]; exact hi) (by rw [tickK_N]; omega) _
theorem OkS.alone {B : Nat} (h : OkS S B) (hB : B + 1 ≤ 3000000) (x : Ac) : OkS (aloneS S x) (B + 1) := by
  unfold aloneS
  split
  · unfold delivS
    split
    · rename_i hk
      exact (h.erase _).come hB (h.pk _ (fliesS_get hk))
    · exact h.more hB
  split
  · unfold loseS
    split
    · exact (h.erase _).more hB
    · exact h.more hB
  split
  · unfold twiceS
    split
    · rename_i hk
      exact (h.more hB).fly (h.pk _ (fliesS_get hk))
    · exact h.more hB
  split
  · unfold tickS
    split
    · rename_i hk
      obtain ⟨i, e, hi, _⟩ := isS_in hk
      rw [e]
      exact ((h.tickK hi _ (Nat.le_refl _))).more hB
    · exact h.more hB
  split
  · unfold downT
    split
    · have h' := h.more hB
      refine ⟨h'.pk, h'.wb, h'.wt, h'.wc, h'.wu, fun i => ?_, hB⟩
      show (upd S.ms _ [] i).length ≤ _
      unfold upd
      split
      · simp
      · exact h'.ml i
    · exact h.more hB
  · exact h.more hB
theorem OkS.send {B : Nat} (h : OkS S B) (hB : B + 1 ≤ 3000000) {i j : Nat} (x : ByteArray) (hi : i < S.N) (hj : j < S.N) (hu : (S.wy i j).us.length < 4096) : OkS (sendS S i j x) (B + 1) := by
  have a1 := h.wb i j
  have a2 := h.wt i j
  have a3 := h.wc i j
  have h1 : OkS { S with wy := upd2 S.wy i j (sentW S i j x) } (B + 1) := h.way hB (by show (S.wy i j).b ≤ _; omega) (by show (S.wy i j).t ≤ _; omega) (by show (S.wy i j).c ≤ _; omega) (by show ((S.wy i j).us ++ [x]).length ≤ 4096; rw [List.length_append]; simp; omega)
  exact h1.fly ⟨hi, hj⟩
theorem OkS.recv {B : Nat} (h : OkS S B) (hB : B + 1 ≤ 3000000) {j : Nat} {m : Nat × ByteArray} {rest : List (Nat × ByteArray)} (hm : S.ms j = m :: rest) : OkS { S with ms := upd S.ms j rest } (B + 1) := by
  have h' := h.more hB
  refine ⟨h'.pk, h'.wb, h'.wt, h'.wc, h'.wu, fun i => ?_, hB⟩
  show (upd S.ms j rest i).length ≤ _
  by_cases e : i = j
  · rw [e, upd_same]
    have := h'.ml j
    rw [hm] at this
    simp at this; omega
  · rw [upd_other _ _ e]; exact h'.ml i
theorem OkS.up {B : Nat} (h : OkS S B) (hB : B + 1 ≤ 3000000) (i : Nat) : OkS (upS S i) (B + 1) := by
  obtain ⟨e1, e2, e3, e4⟩ := upS_same S i
  have h' := h.more hB
  have ew : ∀ a b, (upS S i).wy a b = ⟨(S.wy a b).b + 1, 0, 0, []⟩ ∨ (upS S i).wy a b = S.wy a b := fun a b => by
    unfold upS
    rw [anewK_wy]
    split
    · exact Or.inl rfl
    · exact Or.inr rfl
  refine ⟨by rw [e1, e4]; exact h'.pk, fun a b => ?_, fun a b => ?_, fun a b => ?_, fun a b => ?_, by rw [e3]; exact h'.ml, hB⟩
  · rcases ew a b with e | e <;> rw [e]
    · have := h.wb a b
      show (S.wy a b).b + 1 ≤ _; omega
    · exact h'.wb a b
  · rcases ew a b with e | e <;> rw [e]
    · exact Nat.zero_le _
    · exact h'.wt a b
  · rcases ew a b with e | e <;> rw [e]
    · exact Nat.zero_le _
    · exact h'.wc a b
  · rcases ew a b with e | e <;> rw [e]
    · exact Nat.zero_le _
    · exact h'.wu a b
theorem OkS.begin (N : Nat) : OkS (st0 N) 0 := ⟨fun p hp => by simp [st0] at hp, fun _ _ => Nat.zero_le _, fun _ _ => Nat.zero_le _, fun _ _ => Nat.zero_le _, fun _ _ => Nat.zero_le _, fun _ => Nat.zero_le _, Nat.zero_le _⟩
end Go.Proofs.Ytpghkbbhcpcbdaa
