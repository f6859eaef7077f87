/-
  Both nets, the program's and the document's, beside each other in memory; what holds of them call by call.
-/
import Derived.Test.YtbdlamlplfogjaaGG
import Derived.Test.YtbdlamlplfogjaaGH
import Derived.ArgAppend
import Derived.Deep.RegionHeld3
namespace Go.Proofs.Ytbdlamlplfogjaa
open Go.RowKit Go.Maps Go.Joins
variable {P Q : Nat → Prop} {w w1 w2 : World} {n c c' d : Nat} {S S1 S2 S1' S2' : St} {T T' : Nat → Nat → List ByteArray} {L : Ly} {R : Lr}

/-- both nets -/
structure Bo (P Q : Nat → Prop) (w : World) (n c d : Nat) (S1 S2 : St) (T : Nat → Nat → List ByteArray) (L : Ly) (R : Lr) : Prop where
  p : NetL P w n c S1 L
  q : RL Q w d S2 T R
  x : ∀ i, P i → ¬ Q i
/-- what a call of both may change -/
def bqs (P Q : Nat → Prop) (w : World) : Nat → Prop := fun i => P i ∨ hbq Q w i
/-- both nets, and what has changed since -/
def BU (P Q : Nat → Prop) (w : World) (n c d : Nat) (S1 S2 : St) (T : Nat → Nat → List ByteArray) (w' : World) : Prop := ∃ P' Q' L R, Bo P' Q' w' n c d S1 S2 T L R ∧ (∀ i, P' i → P i ∨ w.heap.size ≤ i) ∧ (∀ i, Q' i → Q i ∨ w.heap.size ≤ i) ∧ Chg (bqs P Q w) w w'
theorem Bo.bu (h : Bo P Q w n c d S1 S2 T L R) (g : w.grownBy w1 none) : BU P Q w n c d S1 S2 T w1 := ⟨P, Q, L, R, ⟨h.p.kept g, h.q.kept g, h.x⟩, fun _ e => Or.inl e, fun _ e => Or.inl e, Chg.of_none g _⟩
theorem BU.grow (h : BU P Q w n c d S1 S2 T w1) (g : w1.grownBy w2 none) : BU P Q w n c d S1 S2 T w2 := by
  obtain ⟨P', Q', L, R, h1, h2, h3, h4⟩ := h
  exact ⟨P', Q', L, R, ⟨h1.p.kept g, h1.q.kept g, h1.x⟩, h2, h3, h4.trans (Chg.of_none g _)⟩
theorem BU.base {w0 : World} (h : BU P Q w n c d S1 S2 T w1) (g : w0.grownBy w none) : BU P Q w0 n c d S1 S2 T w1 := by
  obtain ⟨P', Q', L, R, h1, h2, h3, h4⟩ := h
  exact ⟨P', Q', L, R, h1, fun i hi => (h2 i hi).imp id (Nat.le_trans g.size), fun i hi => (h3 i hi).imp id (Nat.le_trans g.size), h4.os.trans g.os, h4.tape.trans g.tape, h4.output.trans g.output, Nat.le_trans g.size h4.size, fun k hk hn => (h4.block k (Nat.lt_of_lt_of_le hk g.size) (fun e => hn (e.imp id (fun e2 => ⟨e2.1, by rw [← kd_of (g.block k hk (by simp))]; exact e2.2⟩)))).trans (g.block k hk (by simp))⟩
theorem BU.le (h : BU P Q w n c d S1 S2 T w1) (hc : c ≤ c') : BU P Q w n c' d S1 S2 T w1 := by
  obtain ⟨P', Q', L, R, h1, h2, h3, h4⟩ := h
  exact ⟨P', Q', L, R, ⟨h1.p.le hc, h1.q, h1.x⟩, h2, h3, h4⟩
/-- the program's net has moved -/
theorem BU.prog (h : BU P Q w n c d S1 S2 T w1) (hu : ∀ P' L, NetL P' w1 n c S1 L → UpN P' w1 n c' S1' w2) : BU P Q w n c' d S1' S2 T w2 := by
  obtain ⟨P', Q', L, R, h1, h2, h3, h4⟩ := h
  obtain ⟨L2, N2, C2⟩ := hu P' L h1.p
  refine ⟨ext P' w1 w2, Q', L2, R, ⟨N2, h1.q.away C2 (fun b hb e => h1.x b e hb) (fun _ e => e) (fun b hb => Nat.lt_of_lt_of_le (h1.q.pb b hb) C2.size), fun i hi hq => ?_⟩, fun i hi => ?_, h3, ?_⟩
  · rcases hi with e | e
    · exact h1.x i e hq
    · have := h1.q.pb i hq; omega
  · rcases hi with e | e
    · exact h2 i e
    · exact Or.inr (Nat.le_trans h4.size e.1)
  · exact ⟨C2.os.trans h4.os, C2.tape.trans h4.tape, C2.output.trans h4.output, Nat.le_trans h4.size C2.size, fun k hk hn => (C2.block k (Nat.lt_of_lt_of_le hk h4.size) (fun e => by
      rcases h2 k e with e1 | e1
      · exact hn (Or.inl e1)
      · omega)).trans (h4.block k hk hn)⟩
/-- the document's net has moved -/
theorem BU.doc (h : BU P Q w n c d S1 S2 T w1) (hu : ∀ Q' R, RL Q' w1 d S2 T R → RU Q' w1 d S2' T' w2) : BU P Q w n c d S1 S2' T' w2 := by
  obtain ⟨P', Q', L, R, h1, h2, h3, h4⟩ := h
  obtain ⟨R2, N2, C2⟩ := hu Q' R h1.q
  refine ⟨P', ext Q' w1 w2, L, R2, ⟨h1.p.away C2 (fun b hb e => h1.x b hb e.1), N2, fun i hi hq => ?_⟩, h2, fun i hi => ?_, ?_⟩
  · rcases hq with e | e
    · exact h1.x i hi e
    · have := h1.p.pb i hi; omega
  · rcases hi with e | e
    · exact h3 i e
    · exact Or.inr (Nat.le_trans h4.size e.1)
  · exact ⟨C2.os.trans h4.os, C2.tape.trans h4.tape, C2.output.trans h4.output, Nat.le_trans h4.size C2.size, fun k hk hn => (C2.block k (Nat.lt_of_lt_of_le hk h4.size) (fun e => by
      rcases h3 k e.1 with e1 | e1
      · exact hn (Or.inr ⟨e1, by rw [← kd_of (h4.block k hk hn)]; exact e.2⟩)
      · omega)).trans (h4.block k hk hn)⟩
theorem BU.at_ (h : BU P Q w n c d S1 S2 T w1) {b : Nat} {o : Obj} (hb : w.heap[b]? = some o) (h1 : ¬ P b) (h2 : ¬ Q b) : w1.heap[b]? = some o := by
  obtain ⟨P', Q', L, R, _, _, _, h4⟩ := h
  exact h4.at_ hb (fun e => e.elim h1 (fun e2 => h2 e2.1))
/-- no text is longer than a message may be -/
def szB (x : ByteArray) : Prop := x.data.toList.length ≤ 65536
structure Sz (S : St) : Prop where
  m : ∀ j, ∀ m ∈ S.ms j, szB m.2
  f : ∀ p ∈ S.fl, szB p.x
  u : ∀ i j, ∀ x ∈ (S.wy i j).us, szB x
theorem szB_nil : szB ⟨#[]⟩ := Nat.zero_le _
theorem Sz.fly (h : Sz S) {p : Pk} (hp : szB p.x) : Sz (flyS S p) := by
  unfold flyS
  split
  · refine ⟨h.m, fun q hq => ?_, h.u⟩
    rcases List.mem_append.1 hq with hq | hq
    · exact h.f q hq
    · simp at hq; rw [hq]; exact hp
  · exact h
theorem Sz.erase (h : Sz S) (i : Nat) : Sz { S with fl := S.fl.eraseIdx i } := ⟨h.m, fun q hq => h.f q (List.mem_of_mem_eraseIdx hq), h.u⟩
theorem Sz.way (h : Sz S) {i j : Nat} {x : Wy} (hx : ∀ y ∈ x.us, szB y) : Sz { S with wy := upd2 S.wy i j x } := by
  refine ⟨h.m, h.f, fun a b y hy => ?_⟩
  have hy : y ∈ (upd2 S.wy i j x a b).us := hy
  by_cases e : a = i ∧ b = j
  · rw [e.1, e.2, upd2_same] at hy; exact hx y hy
  · rw [upd2_other _ _ e] at hy; exact h.u a b y hy
theorem Sz.mss (h : Sz S) {j : Nat} {l : List (Nat × ByteArray)} (hl : ∀ m ∈ l, szB m.2) : Sz { S with ms := upd S.ms j l } := by
  refine ⟨fun a m hm => ?_, h.f, h.u⟩
  have hm : m ∈ upd S.ms j l a := hm
  by_cases e : a = j
  · rw [e, upd_same] at hm; exact hl m hm
  · rw [upd_other _ _ e] at hm; exact h.m a m hm
theorem Sz.come (h : Sz S) {p : Pk} (hp : szB p.x) : Sz (comeS S p) := by
  unfold comeS
  split
  · split
    · refine h.way (fun y hy => ?_)
      unfold tellW at hy
      split at hy
      · exact h.u _ _ y (List.mem_of_mem_drop hy)
      · exact h.u _ _ y hy
    · split
      · have h1 : Sz { S with wy := upd2 S.wy p.f p.t { S.wy p.f p.t with c := (S.wy p.f p.t).c + 1 } } := h.way (h.u p.f p.t)
        have h2 : Sz (nextS S p) := h1.mss (fun m hm => by
          rcases List.mem_append.1 hm with hm | hm
          · exact h.m _ m hm
          · simp at hm; rw [hm]; exact hp)
        exact h2.fly szB_nil
      · exact h.fly szB_nil
  · exact h
theorem Sz.tickM (h : Sz S) (i j : Nat) : ∀ m, Sz (tickM S i j m)
  | 0 => h
  | m + 1 => by
    refine (h.tickM i j m).fly ?_
    show szB ((S.wy i j).us.getD m ⟨#[]⟩)
    rw [List.getD_eq_getElem?_getD]
    cases e : (S.wy i j).us[m]? with
    | none => exact szB_nil
    | some y => exact h.u i j y (List.mem_of_getElem? e)
theorem Sz.tickK (h : Sz S) (i : Nat) : ∀ k, Sz (tickK S i k)
  | 0 => h
  | k + 1 => (h.tickK i k).tickM _ _ _
theorem Sz.alone (h : Sz S) (x : Ac) : Sz (aloneS S x) := by
  unfold aloneS
  split
  · unfold delivS
    split
    · rename_i hk
      exact (h.erase _).come (h.f _ (fliesS_get hk))
    · exact h
  split
  · unfold loseS
    split
    · exact h.erase _
    · exact h
  split
  · unfold twiceS
    split
    · rename_i hk
      exact h.fly (h.f _ (fliesS_get hk))
    · exact h
  split
  · unfold tickS
    split
    · exact h.tickK _ _
    · exact h
  split
  · unfold downT
    split
    · have h1 := h.mss (j := x.a.toNat) (l := []) (fun m hm => by simp at hm)
      exact ⟨h1.m, h.f, h.u⟩
    · exact h
  · exact h
theorem Sz.up (h : Sz S) (i : Nat) : Sz (upS S i) := by
  obtain ⟨e1, e2, e3, e4⟩ := upS_same S i
  refine ⟨by rw [e3]; exact h.m, by rw [e4]; exact h.f, fun a b y hy => ?_⟩
  unfold upS at hy
  rw [anewK_wy] at hy
  split at hy
  · simp at hy
  · exact h.u a b y hy
theorem Sz.send (h : Sz S) (i j : Nat) {x : ByteArray} (hx : szB x) : Sz (sendS S i j x) := by
  have h1 : Sz { S with wy := upd2 S.wy i j (sentW S i j x) } := h.way (fun y hy => by
    have hy : y ∈ (S.wy i j).us ++ [x] := hy
    rcases List.mem_append.1 hy with hy | hy
    · exact h.u i j y hy
    · simp at hy; rw [hy]; exact hx)
  exact h1.fly hx
/-- what holds of both states -/
structure Good (S : St) (T : Nat → Nat → List ByteArray) (B N : Nat) : Prop where
  inv : ∃ G O, Inv S T G O
  ok : OkS S B
  fb : S.fl.length ≤ 4096
  hN : S.N = N
  hT : ∀ i j, (T i j).length ≤ B
  sz : Sz S
variable {B N : Nat}
theorem Good.us (h : Good S T B N) : ∀ i j, i < S.N → j < S.N → (S.wy i j).us = (T i j).drop (S.wy i j).t ∧ (S.wy i j).t ≤ (T i j).length ∧ (T i j).length ≤ 5000000 := fun i j hi hj => by
  obtain ⟨G, O, hI⟩ := h.inv
  have := hI.tc i j hi hj
  have := h.hT i j
  have := h.ok.lt
  exact ⟨hI.us i j hi hj, by omega, by omega⟩
theorem Good.more (h : Good S T B N) (hB : B + 1 ≤ 3000000) : Good S T (B + 1) N := ⟨h.inv, h.ok.more hB, h.fb, h.hN, fun i j => Nat.le_succ_of_le (h.hT i j), h.sz⟩
theorem Good.alone (h : Good S T B N) (hB : B + 1 ≤ 3000000) (x : Ac) : Good (aloneS S x) T (B + 1) N := by
  obtain ⟨G, O, hI⟩ := h.inv
  exact ⟨⟨G, O, hI.alone x⟩, h.ok.alone hB x, aloneS_fb x h.fb, (aloneS_N x).trans h.hN, fun i j => Nat.le_succ_of_le (h.hT i j), h.sz.alone x⟩
theorem upK_ok {k : Int} (h : upK S k = 0) : ∃ i : Nat, k = (i : Int) ∧ i < S.N ∧ S.dn i = true ∧ upT S k = upS S i := by
  unfold upK at h
  by_cases h1 : 0 ≤ k ∧ k < S.N
  · rw [if_pos h1] at h
    obtain ⟨i, rfl⟩ : ∃ i : Nat, k = (i : Int) := ⟨k.toNat, by omega⟩
    rw [Int.toNat_natCast] at h
    cases hd : S.dn i with
    | false => rw [hd] at h; cases h
    | true => exact ⟨i, rfl, by omega, hd, by unfold upT; rw [if_pos h1, Int.toNat_natCast, hd]; rfl⟩
  · rw [if_neg h1] at h; cases h
theorem upK_no {k : Int} (h : upK S k ≠ 0) : upT S k = S := by
  unfold upK at h
  unfold upT
  by_cases h1 : 0 ≤ k ∧ k < S.N
  · rw [if_pos h1] at h ⊢
    cases hd : S.dn k.toNat with
    | true => rw [hd] at h; exact absurd rfl h
    | false => rfl
  · rw [if_neg h1]
theorem Good.up (h : Good S T B N) (hB : B + 1 ≤ 3000000) (k : Int) : Good (upT S k) (upTT S T k) (B + 1) N := by
  by_cases e : upK S k = 0
  · obtain ⟨i, rfl, hi, hd, e2⟩ := upK_ok e
    have e3 : upTT S T (i : Int) = upT' T i := by unfold upTT; rw [if_pos e, Int.toNat_natCast]
    rw [e2, e3]
    obtain ⟨G, O, hI⟩ := h.inv
    obtain ⟨f1, f2, f3, f4⟩ := upS_same S i
    refine ⟨⟨_, _, hI.up (cnt := fun b => (wt S i b).length) hi hd (fun b _ _ _ => rfl)⟩, h.ok.up hB i, by rw [f4]; exact h.fb, f1.trans h.hN, fun a b => ?_, h.sz.up i⟩
    unfold upT'
    split
    · simp
    · exact Nat.le_succ_of_le (h.hT a b)
  · have e3 : upTT S T k = T := by unfold upTT; rw [if_neg e]
    rw [upK_no e, e3]; exact h.more hB
theorem sendS_fb (h : S.fl.length ≤ 4096) (i j : Nat) (x : ByteArray) : (sendS S i j x).fl.length ≤ 4096 := flyS_fb _ h
theorem Good.send (h : Good S T B N) (hB : B + 1 ≤ 3000000) (f t : Int) (l : List UInt8) : Good (sendT S f t ⟨l.toArray⟩) (sendTT S T f t l) (B + 1) N := by
  by_cases e : sendE S f t l.length = 0
  · obtain ⟨a, b, rfl, rfl, ha, hb, hu, e2⟩ := send_ok h.ok e
    have e3 : sendTT S T (a : Int) (b : Int) l = upd2 T a b (T a b ++ [⟨l.toArray⟩]) := by unfold sendTT; rw [if_pos e, Int.toNat_natCast, Int.toNat_natCast]
    rw [e2, e3]
    obtain ⟨G, O, hI⟩ := h.inv
    refine ⟨⟨G, O, hI.send _ ha hb⟩, h.ok.send hB _ ha hb hu, sendS_fb h.fb _ _ _, (sendS_N _ _ _ _).trans h.hN, fun i j => ?_, h.sz.send a b ?_⟩
    · by_cases e4 : i = a ∧ j = b
      · rw [e4.1, e4.2, upd2_same, List.length_append]
        have := h.hT a b
        simp; omega
      · rw [upd2_other _ _ e4]; exact Nat.le_succ_of_le (h.hT i j)
    · unfold sendE at e
      by_cases h1 : isS S (a : Int) = true ∧ (0 : Int) ≤ (b : Int) ∧ (b : Int) < S.N
      · rw [if_pos h1] at e
        by_cases h2 : 65536 < l.length ∨ (S.wy (a : Int).toNat (b : Int).toNat).us.length = 4096
        · rw [if_pos h2] at e; cases e
        · show l.length ≤ 65536
          omega
      · rw [if_neg h1] at e; cases e
  · have e3 : sendTT S T f t l = T := by unfold sendTT; rw [if_neg e]
    rw [send_no e, e3]; exact h.more hB
theorem Good.recv (h : Good S T B N) (hB : B + 1 ≤ 3000000) {j : Nat} {m : Nat × ByteArray} {rest : List (Nat × ByteArray)} (hj : j < S.N) (hd : S.dn j = false) (hm : S.ms j = m :: rest) : Good { S with ms := upd S.ms j rest } T (B + 1) N := by
  obtain ⟨G, O, hI⟩ := h.inv
  obtain ⟨_, r1, r2⟩ := hI.recv hj hd hm
  refine ⟨?_, h.ok.recv hB hm, h.fb, h.hN, fun i j => Nat.le_succ_of_le (h.hT i j), h.sz.mss (fun q hq => h.sz.m j q (by rw [hm]; exact List.mem_cons_of_mem _ hq))⟩
  rcases Nat.eq_zero_or_pos (O m.1 j) with e | e
  · exact ⟨_, _, (r2 e).2⟩
  · exact ⟨_, _, r1 e⟩
theorem Good.begin (N : Nat) : Good (st0 N) (fun _ _ => []) 0 N := ⟨⟨_, _, Inv.begin N⟩, OkS.begin N, by simp [st0], rfl, fun _ _ => Nat.le_refl _, ⟨fun j m hm => by simp [st0] at hm, fun p hp => by simp [st0] at hp, fun i j x hx => by simp [st0] at hx⟩⟩
/-- what a call of both answers and leaves -/
def DoQ (P Q : Nat → Prop) (w : World) (n c d B N : Nat) (r : Ending) (w' : World) : Prop := r = .returned (.bool true) ∧ ∃ S' T', Good S' T' (B + 1) N ∧ BU P Q w n (c + 128) d S' S' T' w'
end Go.Proofs.Ytbdlamlplfogjaa
namespace Go.Proofs.Ytbdlamlplfogjaa
open Go.RowKit Go.Maps Go.Joins
variable {P Q : Nat → Prop} {w w' : World} {n c d : Nat} {S : St} {L : Ly}

/-- bytes that may be written over -/
def byB (w : World) (v : Value) (k : Nat) : Prop := (v = .slice none 0 0 ∧ k = 0) ∨ ∃ (g cap : Nat) (cur : Array Value) (mk : Nat × Nat), v = .slice (some ⟨g, 0, none⟩) k cap ∧ k ≤ cap ∧ w.heap[g]? = some (.cells cur 5 mk) ∧ cap ≤ cur.size ∧ ∀ i, i < cap → ¬ (mk.1 ≤ i ∧ i < mk.2)
theorem byB.kd {v : Value} {k : Nat} (h : byB w v k) : ∀ g, v.ownBlock = some g → Go.Proofs.Ytbdlamlplfogjaa.kd w g = 5 + 2 ∧ g < w.heap.size := fun g hg => by
  rcases h with ⟨rfl, _⟩ | ⟨g', cap, cur, mk, rfl, _, hb, _⟩
  · simp [Value.ownBlock] at hg
  · cases hg
    exact ⟨kd_cells hb, lt_of_heap hb⟩
theorem byB.kept {v : Value} {k : Nat} (h : byB w v k) {C : Nat → Prop} (hc : Chg C w w') (hn : ∀ g, v.ownBlock = some g → ¬ C g) : byB w' v k := by
  rcases h with h | ⟨g, cap, cur, mk, rfl, h1, hb, r⟩
  · exact Or.inl h
  · exact Or.inr ⟨g, cap, cur, mk, rfl, h1, hc.at_ hb (hn g rfl), r⟩
/-- what own answers, to write on -/
def OwR (w : World) (l : List UInt8) (r : Ending) (w' : World) : Prop := ∃ g cap, r = .returned (.slice (some ⟨g, 0, none⟩) l.length cap) ∧ bys w' (some ⟨g, 0, none⟩) l ∧ byB w' (.slice (some ⟨g, 0, none⟩) l.length cap) l.length ∧ w.heap.size ≤ g ∧ w.grownBy w' none
set_option maxHeartbeats 2000000 in
set_option maxRecDepth 1000000 in
theorem own_row (p : Option Addr) (c : Nat) (l : List UInt8) (w : World) (hp : byA w p l) (hn : p = none → l.length = 0 ∧ c = 0) (hl : l.length ≤ 10000000) :
    Calls Try.prog 15 #[.slice p l.length c] w (OwR w l) := by
  obtain ⟨i0, hi, hz0, hz1, hz2⟩ := info_parts u8Info
  have HP := mkHid hp
  have HN := mkHid hn
  clear hp hn
  go_enter Try.func15, Try.ntmps15
  go_wp2_with (first | (at_make; refine wpList_make_own _ rfl (.const (.int .i64 0)) (.tmp 5) 27 rfl w.heap.size 5 i0 (.int .u8 0) 1 u8Slice hi hz0 hz1 .i64 .i64 ((l.length : Int) + 2) (l.length + 2) rfl rfl (by omega) (by rw [hz2]; omega) (by unfold maxLen; omega) (Nat.le_refl _) ?_; intro w1 ho1 hg1) | (at_builtin; refine wpList_append_fits_any _ rfl (.tmp 6) (.tmp 7) 27 rfl w.heap.size 5 i0 1 u8Slice hi hz1 w.heap.size 0 (l.length + 2) [] rfl ho1 p l.length c (by8 l) rfl (by rw [by8_len]; omega) (fun h => HN.out h) (HP.out.kept hg1).cells (by8_one _) (by omega) ?_; intro w2 ho2 hg2))
  go_ret
  rw [Nat.zero_add, List.nil_append] at ho2
  refine ⟨_, _, rfl, Or.inr ⟨_, 0, rfl, fun i x hx => ?_⟩, ?_, Nat.le_refl _, grown_new hg1 hg2 (fun g h => by cases h; exact Nat.le_refl _)⟩
  · have hi := (List.getElem?_eq_some_iff.1 hx).1
    rw [Nat.zero_add]
    have := World.ownsRow.cellAt ho2 i (by omega)
    rw [this]
    simp [by8, hx]
  · rcases ho2.2 with ⟨e, _⟩ | ⟨g, cap, cur, e, _, hb, h2, h3, h4, h5⟩
    · cases e
    · cases e
      exact Or.inr ⟨_, _, cur, (0, 0), rfl, h2, hb, by omega, fun i hi e => by omega⟩
theorem set_one (w : World) (b o : Nat) (u : Value) : w.setCells b o [u] = w.setCell ⟨b, o, none⟩ u := rfl
/-- a byte appended to what may be written over -/
theorem byB.app {v : Value} {k : Nat} (h : byB w v k) (hk : k ≤ 100000000) {B1 : Nat} (hB : w.heap[B1]? = some (.cells #[.int .u8 85] 5 (0, 0))) : ∃ v' W, (∀ ty, (Builtin.append_ #[27, 27] ty #[v, .slice (some ⟨B1, 0, none⟩) 1 1]).run Try.prog w = .ok v' W) ∧ Chg (fun x => v.ownBlock = some x) w W := by
  obtain ⟨i0, hi, hz0, hz1, hz2⟩ := info_parts u8Info
  have hc := one_of (l := [.int .u8 85]) hB
  rcases h with ⟨rfl, rfl⟩ | ⟨g, cap, cur, mk, rfl, h1, hb, h2, h3⟩
  · obtain ⟨v', W, hr, _, g1, _⟩ := rwBy.more (w := w) (v := .slice none 0 0) (n := 0) (xs := []) (m := 1) (c := 1) (P := some ⟨B1, 0, none⟩) (news := [.int .u8 85]) ⟨by simp, Or.inl ⟨rfl, rfl⟩⟩ (Or.inr ⟨_, rfl, rfl, hc, by intro u hu; simp at hu; rw [hu]; rfl⟩) (by omega)
    exact ⟨v', W, hr, Chg.of_grown g1⟩
  · have fz : ∀ i, i < cap → w.frozen? ⟨g, i, none⟩ = false := fun i hi => by
      unfold World.frozen?
      simp only [hb]
      have := h3 i hi
      simp only [Bool.and_eq_false_iff, decide_eq_false_iff_not]
      omega
    have cl : ∀ i, i < cap → ∃ u, w.cell? ⟨g, i, none⟩ = some u := fun i hi => ⟨_, (cell_of_block hb i).trans (Array.getElem?_eq_getElem (by omega))⟩
    by_cases hr : k + 1 ≤ cap
    · refine ⟨_, _, fun ty => run_append_room_cells (P := Try.prog) w 27 ty 5 i0 u8Slice hi g 0 k cap ⟨B1, 0, none⟩ 1 1 [.int .u8 85] (by rw [hz1]; rfl) hc (by intro u hu; simp at hu; rw [hu]; rfl) hr (fun j hj => ?_) (fun j hj => ?_), ?_⟩
      · have hj : j < 1 := hj
        obtain ⟨u, hu⟩ := cl k (by omega)
        rw [hz1, show 0 + k * 1 + j = k by omega, hu]; rfl
      · have hj : j < 1 := hj
        rw [hz1, show 0 + k * 1 + j = k by omega]; exact fz k (by omega)
      · rw [set_one]
        exact (Chg.of_cell w ⟨g, 0 + k * i0.size, none⟩ _).mono (fun x _ e => by have e : x = g := e; rw [e]; rfl)
    · have hl : (cur.toList.take k).length = k := by rw [List.length_take, Array.length_toList]; omega
      have ho : ∀ j u, (cur.toList.take k)[j]? = some u → w.cell? ((⟨g, 0, none⟩ : Addr).add j) = some u := fun j u hj => by
        rw [add_plain, Nat.zero_add]
        rw [List.getElem?_take] at hj
        split at hj
        · exact (cell_of_block hb j).trans (by simpa using hj)
        · cases hj
      have hr := fun ty => run_append_grow (P := Try.prog) w 27 ty 5 i0 (.int .u8 0) u8Slice hi hz0 ⟨g, 0, none⟩ k cap (cur.toList.take k) (by rw [hl, hz1, Nat.mul_one]) ho ⟨B1, 0, none⟩ 1 1 [.int .u8 85] (by rw [hz1]; rfl) hc (by omega) (by omega) (growslice_fits (by omega) (by rw [hz2]; omega))
      refine ⟨_, _, hr, ?_⟩
      exact Chg.of_none (grown_al (grown_drew (grown_refl w)) _) _
/-- what spoil leaves -/
def SpQ (w : World) (v : Value) (r : Ending) (w' : World) : Prop := r = .returned (.tuple #[]) ∧ Chg (fun x => v.ownBlock = some x) w w'
set_option maxHeartbeats 2000000 in
set_option maxRecDepth 100000 in
theorem spoil_any {v : Value} {k : Nat} (h : byB w v k) (hk : k ≤ 10000000) : Calls Try.prog 30 #[v] w (SpQ w v) := by
  obtain ⟨p, q, hv⟩ : ∃ p q, v = .slice p k q := by
    rcases h with ⟨rfl, rfl⟩ | ⟨g, cap, cur, mk, rfl, _⟩
    · exact ⟨_, _, rfl⟩
    · exact ⟨_, _, rfl⟩
  have H := mkHid h
  clear h
  subst hv
  go_enter Try.func30, Try.ntmps30
  go_wp2_with fail
  go_loopw [2] (fun s2 wr => ∃ j : Nat, s2 = .int .i64 (j : Int) ∧ j ≤ k ∧ Hid (byB wr (.slice p k q) k ∧ Chg (fun x => (Value.slice p k q).ownBlock = some x) w wr)) (fun s2 _ => k - (intOf s2).toNat)
  case atStart => exact ⟨0, rfl, Nat.zero_le _, mkHid ⟨H.out, Chg.refl _ _⟩⟩
  case round =>
    obtain ⟨j, rfl, hj, B⟩ := hrel
    by_cases hlt : j < k
    · have hlti : (j : Int) < (k : Int) := by omega
      rcases B.out.1 with ⟨e, e2⟩ | ⟨g, cap, cur, mk, e, h1, hb, h2, h3⟩
      · omega
      · injection e with e1 _ e3
        subst e1; subst e3
        have fz : wr.frozen? ⟨g, j, none⟩ = false := by
          unfold World.frozen?
          simp only [hb]
          have := h3 j (by omega)
          simp only [Bool.and_eq_false_iff, decide_eq_false_iff_not]
          omega
        obtain ⟨u0, cl⟩ : ∃ u0, wr.cell? ⟨g, j, none⟩ = some u0 := ⟨_, (cell_of_block hb j).trans (Array.getElem?_eq_getElem (by omega))⟩
        have N : Hid (byB (wr.setCell ⟨g, j, none⟩ (.int .u8 85)) (.slice (some ⟨g, 0, none⟩) k q) k ∧ Chg (fun x => (Value.slice (some ⟨g, 0, none⟩) k q).ownBlock = some x) w (wr.setCell ⟨g, j, none⟩ (.int .u8 85))) := ⟨Or.inr ⟨g, q, _, mk, rfl, h1, block_setCell hb _, by simpa using h2, h3⟩, B.out.2.set _ _ rfl⟩
        clear hb h2 h3 B
        go_wp2_with fail
        go_roundw
        case rel => exact ⟨j + 1, by go_num, hlt, N⟩
        case measure => simp [intOf]; omega
    · obtain rfl : j = k := by omega
      obtain ⟨v', W, hr, hC⟩ := (B.out.1.kept (Chg.of_none (World.grownBy_alloc wr (.cells #[.int .u8 85] 5) none) (fun _ => False)) (fun _ _ e => e)).app (by omega) (B1 := wr.heap.size) (heap_alloc_new wr _)
      have F := mkHid ((B.out.2.trans (Chg.of_none (World.grownBy_alloc wr (.cells #[.int .u8 85] 5) none) _)).trans hC)
      clear hC B
      go_wp2_with (first | (at_builtin; refine wp_app 27 rfl (.tmp 12) (.tmp 13) rfl rfl rfl hr ?_) | fail)
      go_end0
      exact ⟨rfl, F.out⟩
end Go.Proofs.Ytbdlamlplfogjaa
namespace Go.Proofs.Ytbdlamlplfogjaa
open Go.RowKit Go.Maps Go.Joins
variable {P : Nat → Prop} {w w' : World} {n c : Nat} {S : St} {L : Ly}

theorem conv_strK (w : World) (s : ByteArray) : ∃ cap w', (convert 9 27 (.string s)).run Try.prog w = .ok (.slice (some ⟨w.heap.size, 0, none⟩) s.data.toList.length cap) w' ∧ w.grownBy w' none ∧ w'.heap.size = w.heap.size + 1 ∧ bys w' (some ⟨w.heap.size, 0, none⟩) s.data.toList ∧ byB w' (.slice (some ⟨w.heap.size, 0, none⟩) s.data.toList.length cap) s.data.toList.length := by
  refine ⟨_, _, Lib.run_convert_string_bytes w 9 27 5 s strT u8Slice u8T, ⟨rfl, rfl, rfl, by rw [Lib.bytesWorld_size]; omega, fun k hk _ => Lib.bytesWorld_at_old w _ s k hk⟩, Lib.bytesWorld_size w _ s, Or.inr ⟨_, _, rfl, fun i x hx => ?_⟩, ?_⟩
  · have hi := (List.getElem?_eq_some_iff.1 hx).1
    rw [Nat.zero_add, Lib.bytesWorld_cell w _ s i (by simpa using hi)]
    rw [List.getD_eq_getElem?_getD, hx]; rfl
  · have hz : s.data.toList.length ≤ grownCap w s.size 0 5 := grownCap_ge w s.size 0 _
    have hs : grownCap w s.size 0 5 ≤ (Lib.bytesCells w 5 s).size := by
      unfold Lib.bytesCells
      simp only [Array.size_append, Array.size_map, Array.size_replicate]
      have : s.size = s.data.size := rfl
      omega
    exact Or.inr ⟨_, _, _, _, rfl, hz, Lib.bytesWorld_at_new w _ s, hs, fun i hi e => by have := e.1; omega⟩
/-- what Recv answers and leaves, its bytes to write on -/
def RcK (P : Nat → Prop) (w : World) (n c : Nat) (S : St) (k : Int) (r : Ending) (w' : World) : Prop :=
  (isS S k = false ∧ r = .returned (.tuple #[msV 0 none 0 0, .bool false, .int .i64 60]) ∧ UpN P w n c S w') ∨
  (∃ i : Nat, k = (i : Int) ∧ isS S k = true ∧ S.ms i = [] ∧ r = .returned (.tuple #[msV 0 none 0 0, .bool false, .int .i64 0]) ∧ UpN P w n c S w') ∨
  ∃ (i : Nat) (m : Nat × ByteArray) (rest : List (Nat × ByteArray)) (g cap : Nat), k = (i : Int) ∧ isS S k = true ∧ S.ms i = m :: rest ∧ r = .returned (.tuple #[msV m.1 (some ⟨g, 0, none⟩) m.2.data.toList.length cap, .bool true, .int .i64 0]) ∧ w.heap.size ≤ g ∧ bys w' (some ⟨g, 0, none⟩) m.2.data.toList ∧ byB w' (.slice (some ⟨g, 0, none⟩) m.2.data.toList.length cap) m.2.data.toList.length ∧ UpN P w n c { S with ms := upd S.ms i rest } w'
set_option maxHeartbeats 2000000 in
set_option maxRecDepth 100000 in
theorem Recv_someK (h : NetL P w n c S L) (i : Nat) (hs : isS S (i : Int) = true) (m : Nat × ByteArray) (rest : List (Nat × ByteArray)) (hm : S.ms i = m :: rest) : Calls Try.prog 16 #[.pointer (some ⟨n, 0, none⟩), .int .i64 i] w (RcK P w n c S i) := by
  have g1 := mkHid (grown_al (grown_refl w) (.cells #[.int .i64 0, .slice none 0 0] 51))
  have IS := mkHid (Is_any (h.kept g1.out) i)
  rw [hs] at IS
  have hi : i < S.N := by obtain ⟨j, h1, h2, _⟩ := isS_in hs; omega
  have hi2 : (i : Int) < (S.N : Int) := by omega
  obtain ⟨c0, _⟩ := h.cs
  obtain ⟨_, d1, _⟩ := h.cn hi
  have hw := h.wts i hi
  rw [hm] at hw
  rcases hw.2 with ⟨_, h0⟩ | ⟨g, off, cap, cur, hv, hg, hn1, hn2, _, hcs⟩
  · simp at h0
  have m0 : w.cell? ⟨g, off, none⟩ = some (.int .i64 m.1) := (cell_of_block hg (off + 0)).trans (hcs 0 _ rfl)
  have m1 : w.cell? ⟨g, off + 1, none⟩ = some (.string m.2) := (cell_of_block hg (off + 1)).trans (hcs 1 _ rfl)
  have hgl := lt_of_heap hg
  rw [hv] at d1
  have hn := lt_of_heap h.net
  have hnb : L.nb < w.heap.size := h.pb _ h.pnb
  have g2 := mkHid (grown_al g1.out (.cells #[.int .i64 m.1, .string m.2] 82))
  have B1 := mkHid (al2_fst w (.cells #[.int .i64 0, .slice none 0 0] 51) (.cells #[.int .i64 m.1, .string m.2] 82))
  have B2 := mkHid (al2_snd w (.cells #[.int .i64 0, .slice none 0 0] 51) (.cells #[.int .i64 m.1, .string m.2] 82))
  rw [hv] at hw
  rw [List.length_cons] at hw hv d1 hn1
  have BH := mkHid (fun (w5 : World) (g5 : w.grownBy w5 none) => behindM (w := w5) (.slice (some ⟨g, off, none⟩) (rest.length + 1) cap) (m :: rest) 1 rest.length (hw.kept (Chg.of_none g5 (fun _ => False)) (fun _ _ e => e)) (by omega))
  have hne : g ≠ L.nb := fun e => by
    have := h.knb
    rw [← e, kd_cells hg] at this; simp at this
  have hgn : g ≠ n := fun e => by
    have := h.kn
    rw [← e, kd_cells hg] at this; simp at this
  have HV := mkHid hv
  have H := mkHid h
  have ed : (msC (m :: rest)).drop (1 * 2) = msC rest := rfl
  rw [ed] at BH
  obtain ⟨r, hr⟩ : ∃ r, r = rest.length := ⟨_, rfl⟩
  have HR := mkHid hr
  rw [← hr] at BH d1 hn1
  have hmx : r + 1 ≤ maxLen := by omega
  unfold maxLen at hmx
  clear h hw hcs hg ed hr hv hn2
  go_enter Try.func16, Try.ntmps16
  go_wp2_with fail
  refine IS.out.mono ?_
  rintro e w1 ⟨rfl, hwx⟩; have hwx2 := hwx.symm; subst hwx2; clear hwx
  go_wp2_with fail
  refine (BH.out _ g2.out).mono ?_
  rintro e w3 ⟨v3, rfl, s3, g3, o3⟩
  obtain ⟨p3, c3, rfl, _⟩ := s3.form
  have K1 := box_keep B1.out g3 (by simp [Value.ownBlock]; omega)
  have K2 := box_keep B2.out g3 (by simp [Value.ownBlock]; omega)
  obtain ⟨cur, hb, _, _, _, r4⟩ := (H.out.kept g2.out).nds
  have K3 := box_keep hb g3 (by simp [Value.ownBlock]; omega)
  have n1 : w3.cell? ⟨L.nb, i * 2 + 1, none⟩ = some (L.vs i) := (cell_of_block K3 _).trans (r4 i hi).2
  have nf : w3.frozen? ⟨L.nb, i * 2 + 1, none⟩ = false := unfrozen_of_block K3 _
  have K1' := box_keep K1 (grown_setCell w3 ⟨L.nb, i * 2 + 1, none⟩ (.slice p3 r c3)) (by simp; omega)
  have K2' := box_keep K2 (grown_setCell w3 ⟨L.nb, i * 2 + 1, none⟩ (.slice p3 r c3)) (by simp; omega)
  have szs : w.heap.size + 2 ≤ (w3.setCell ⟨L.nb, i * 2 + 1, none⟩ (.slice p3 r c3)).heap.size := by
    have := g3.size; simpa using this
  obtain ⟨cc, w5, hcv, g5, sz5, by5, bb5⟩ := conv_strK (w3.setCell ⟨L.nb, i * 2 + 1, none⟩ (.slice p3 r c3)) m.2
  have K1'' := box_keep K1' g5 (by simp)
  obtain ⟨e0, e1, ef⟩ := cells2 K1''
  obtain ⟨b0, b1, _⟩ := cells2 K2'
  have ef0 := ef 0
  have ef1 := ef 1
  have FN : Hid (∀ W, Chg (fun k => w.heap.size ≤ k) (w3.setCell ⟨L.nb, i * 2 + 1, none⟩ (.slice p3 r c3)) W → UpN P w n c { S with ms := upd S.ms i rest } W) := fun W C => H.out.recv_fin hi g2.out (w3 := w3) (by rw [HV.out]; exact g3) (by rw [← show r = rest.length from HR.out]; exact s3) (by rw [HV.out]; exact o3) C
  have G5 := mkHid g5
  have BY := mkHid by5
  have BB := mkHid bb5
  have SZ := mkHid szs
  generalize hW4 : w3.setCell ⟨L.nb, i * 2 + 1, none⟩ (.slice p3 r c3) = w4 at *
  clear s3 g3 o3 K1 K2 K3 K1' K2' K1'' ef hb r4 g5 by5 bb5 szs
  go_wp2_with fail
  refine bodyPost_ret (v := .tuple #[.agg #[.int .i64 m.1, .slice (some ⟨w4.heap.size, 0, none⟩) m.2.data.toList.length cc], .bool true, .int .i64 0]) (by unfold results; rw [Try.results16]; go_simp) rfl ?_
  have hs4 := SZ.out
  have C5 := (((Chg.of_none G5.out (fun k => w.heap.size ≤ k)).set ⟨w.heap.size, 0, none⟩ (.int .i64 m.1) (Nat.le_refl _)).set ⟨w.heap.size, 1, none⟩ (.slice (some ⟨w4.heap.size, 0, none⟩) m.2.data.toList.length cc) (Nat.le_refl _))
  refine Or.inr (Or.inr ⟨i, m, rest, w4.heap.size, cc, rfl, hs, hm, rfl, by omega, ?_, ?_, FN.out _ C5⟩)
  · exact BY.out.chg (((Chg.refl (fun k => k = w.heap.size) w5).set ⟨w.heap.size, 0, none⟩ (.int .i64 m.1) rfl).set ⟨w.heap.size, 1, none⟩ (.slice (some ⟨w4.heap.size, 0, none⟩) m.2.data.toList.length cc) rfl) (fun a e => by cases e; show ¬ w4.heap.size = w.heap.size; omega)
  · exact BB.out.kept (((Chg.refl (fun k => k = w.heap.size) w5).set ⟨w.heap.size, 0, none⟩ (.int .i64 m.1) rfl).set ⟨w.heap.size, 1, none⟩ (.slice (some ⟨w4.heap.size, 0, none⟩) m.2.data.toList.length cc) rfl) (fun g e => by cases e; show ¬ w4.heap.size = w.heap.size; omega)
theorem Recv_k (h : NetL P w n c S L) (k : Int) : Calls Try.prog 16 #[.pointer (some ⟨n, 0, none⟩), .int .i64 k] w (RcK P w n c S k) := by
  cases hs : isS S k with
  | false =>
    refine (Recv_no h k hs).mono ?_
    rintro e w5 (⟨h1, h2, h3⟩ | ⟨i, h1, h2, _⟩ | ⟨i, m, rest, g, cap, h1, h2, _⟩)
    · exact Or.inl ⟨h1, h2, h3⟩
    · rw [hs] at h2; cases h2
    · rw [hs] at h2; cases h2
  | true =>
    obtain ⟨i, rfl, hi, _⟩ := isS_in hs
    cases hm : S.ms i with
    | nil =>
      refine (Recv_none h i hs hm).mono ?_
      rintro e w5 (⟨h1, h2, h3⟩ | ⟨j, h1, h2, h3⟩ | ⟨j, m, rest, g, cap, h1, h2, h3, _⟩)
      · rw [hs] at h1; cases h1
      · exact Or.inr (Or.inl ⟨j, h1, h2, h3⟩)
      · have : i = j := by omega
        rw [this] at hm
        rw [hm] at h3; cases h3
    | cons m rest => exact Recv_someK h i hs m rest hm
end Go.Proofs.Ytbdlamlplfogjaa
namespace Go.Proofs.Ytbdlamlplfogjaa
open Go.RowKit Go.Maps Go.Joins
variable {P Q : Nat → Prop} {w w' : World} {n c d B N : Nat} {S : St} {T : Nat → Nat → List ByteArray} {L : Ly} {R : Lr}

/-- the document's net has moved, as it was found -/
theorem BU.put {w1 w2 : World} {P' Q' : Nat → Prop} {S1 S2 S2' : St} {T' : Nat → Nat → List ByteArray} {L' : Ly} {R' : Lr} (b1 : Bo P' Q' w1 n c d S1 S2 T L' R') (h2 : ∀ i, P' i → P i ∨ w.heap.size ≤ i) (h3 : ∀ i, Q' i → Q i ∨ w.heap.size ≤ i) (h4 : Chg (bqs P Q w) w w1) (U : RU Q' w1 d S2' T' w2) : BU P Q w n c d S1 S2' T' w2 := by
  obtain ⟨R2, N2, C2⟩ := U
  refine ⟨P', ext Q' w1 w2, L', R2, ⟨b1.p.away C2 (fun b hb e => b1.x b hb e.1), N2, fun i hi hq => ?_⟩, h2, fun i hi => ?_, ?_⟩
  · rcases hq with e | e
    · exact b1.x i hi e
    · have := b1.p.pb i hi; omega
  · rcases hi with e | e
    · exact h3 i e
    · exact Or.inr (Nat.le_trans h4.size e.1)
  · exact ⟨C2.os.trans h4.os, C2.tape.trans h4.tape, C2.output.trans h4.output, Nat.le_trans h4.size C2.size, fun k hk hn => (C2.block k (Nat.lt_of_lt_of_le hk h4.size) (fun e => by
      rcases h3 k e.1 with e1 | e1
      · exact hn (Or.inr ⟨e1, by rw [← kd_of (h4.block k hk hn)]; exact e.2⟩)
      · omega)).trans (h4.block k hk hn)⟩
set_option maxHeartbeats 4000000 in
set_option maxRecDepth 100000 in
theorem does_2 (h : Bo P Q w n c d S S T L R) (G : Good S T B N) (hB : B + 1 ≤ 3000000) (hc : c ≤ 800000000) {pr : Nat} (hpr : w.heap[pr]? = some (.cells #[.pointer (some ⟨n, 0, none⟩), .pointer (some ⟨d, 0, none⟩)] 33 (0, 0))) (hP : ¬ P pr) (hQ : ¬ Q pr) (x : Ac) (hk : x.k = 2) : Calls Try.prog 9 #[.pointer (some ⟨pr, 0, none⟩), .agg x.cells] w (DoQ P Q w n c d B N) := by
  obtain ⟨w1, hw1⟩ : ∃ w1, w1 = w.alloc (.cells x.cells 29) := ⟨_, rfl⟩
  have g1 : w.grownBy w1 none := by rw [hw1]; exact grown_al (grown_refl _) _
  have s1 : w1.heap.size = w.heap.size + 1 := by rw [hw1]; simp
  have bx : w1.heap[w.heap.size]? = some (.cells x.cells 29 (0, 0)) := by rw [hw1]; exact heap_alloc_new _ _
  have pr1 := box_keep hpr g1 (by simp)
  have lpr := lt_of_heap hpr
  have h1 : Bo P Q w1 n c d S S T L R := ⟨h.p.kept g1, h.q.kept g1, h.x⟩
  have nbP : ¬ P w.heap.size := fun e => by have := h.p.pb _ e; omega
  have nbQ : ¬ Q w.heap.size := fun e => by have := h.q.pb _ e; omega
  obtain ⟨a0, a1, a2, a3, a4, a5, _⟩ := cells6 bx
  obtain ⟨p0, p1, _⟩ := cells2 pr1
  have K0 : Hid (∀ W, w1.grownBy W none → (fun w' : World => w'.cell? ⟨pr, 0, none⟩ = some (.pointer (some ⟨n, 0, none⟩)) ∧ w'.cell? ⟨pr, 1, none⟩ = some (.pointer (some ⟨d, 0, none⟩)) ∧ w'.cell? ⟨w.heap.size, 1, none⟩ = some (.int .i64 x.a) ∧ w'.cell? ⟨w.heap.size, 2, none⟩ = some (.int .i64 x.t) ∧ w'.cell? ⟨w.heap.size, 4, none⟩ = some (.slice x.p x.b.length x.q)) W) := fun W g => ⟨g.cell p0 (by simp), g.cell p1 (by simp), g.cell a1 (by simp), g.cell a2 (by simp), g.cell a4 (by simp)⟩
  have KB : Hid (∀ W S1 S2 T' c', BU P Q w1 n c' d S1 S2 T' W → (fun w' : World => w'.cell? ⟨pr, 0, none⟩ = some (.pointer (some ⟨n, 0, none⟩)) ∧ w'.cell? ⟨pr, 1, none⟩ = some (.pointer (some ⟨d, 0, none⟩)) ∧ w'.cell? ⟨w.heap.size, 1, none⟩ = some (.int .i64 x.a) ∧ w'.cell? ⟨w.heap.size, 2, none⟩ = some (.int .i64 x.t) ∧ w'.cell? ⟨w.heap.size, 4, none⟩ = some (.slice x.p x.b.length x.q)) W) := fun W S1 S2 T' c' U => by
    obtain ⟨b0, b1, b2, b3, b4, b5, _⟩ := cells6 (U.at_ bx nbP nbQ)
    obtain ⟨q0, q1, _⟩ := cells2 (U.at_ pr1 hP hQ)
    exact ⟨q0, q1, b1, b2, b4⟩
  obtain ⟨pa, ca, ha, _⟩ := h.q.ar.form
  have d3 := h.q.cs.2.2.2.1
  rw [ha] at d3
  have K3 : Hid (∀ W, w1.grownBy W none → (fun w' : World => w'.cell? ⟨pr, 1, none⟩ = some (.pointer (some ⟨d, 0, none⟩)) ∧ w'.cell? ⟨d, 3, none⟩ = some (.slice pa S.fl.length ca) ∧ w'.cell? ⟨w.heap.size, 3, none⟩ = some (.int .i64 x.i)) W) := fun W g => ⟨g.cell p1 (by simp), (grown_none_trans g1 g).cell d3 (by simp), g.cell a3 (by simp)⟩
  have PL : Hid (∀ W : World, Calls Try.prog 12 #[.int .i64 x.i, .int .i64 (S.fl.length : Int)] W fun e w' => (∃ I : Int, e = .returned (.int .i64 I)) ∧ w' = W) := fun W => place_any (w := W) x.i S.fl.length (by have := G.fb; omega)
  have CP : Hid (∀ W, w1.grownBy W none → ∀ I : Int, Calls Try.prog 23 #[.pointer (some ⟨n, 0, none⟩), .int .i64 I] W fun e w' => e = .returned (.int .i64 (flE S I)) ∧ BU P Q w1 n (c + 128) d (delivS S I) S T w') := fun W g I => by
    have ok := G.ok
    have hlt := ok.lt
    have U0 := h1.bu g
    have H0 := h1.p.kept g
    refine ((Deliver_any H0 I ok (by omega))).mono ?_
    rintro e w5 ⟨rfl, U⟩
    obtain ⟨L2, N2, C2⟩ := U.le (c2 := c + 128) (by omega)
    refine ⟨rfl, ext P W w5, Q, L2, R, ⟨N2, (h1.q.kept g).away C2 (fun b hb e => h1.x b e hb) (fun _ e => e) (fun b hb => Nat.lt_of_lt_of_le (h1.q.pb b hb) (Nat.le_trans g.size C2.size)), fun i hi hq => ?_⟩, fun i hi => ?_, fun _ e => Or.inl e, (Chg.of_none g _).trans (C2.mono (fun i _ e => Or.inl e))⟩
    · rcases hi with e | e
      · exact h1.x i e hq
      · have := h1.q.pb i hq; have := g.size; omega
    · rcases hi with e | e
      · exact Or.inl e
      · exact Or.inr (Nat.le_trans g.size e.1)
  have CD : Hid (∀ W (I : Int), BU P Q w1 n (c + 128) d (delivS S I) S T W → Calls Try.prog 33 #[.pointer (some ⟨d, 0, none⟩), .int .i64 I] W fun e w' => e = .returned (.int .i64 (flE S I)) ∧ BU P Q w1 n (c + 128) d (delivS S I) (delivS S I) (T) w') := fun W I U => by
    have ok := G.ok
    have hlt := ok.lt
    obtain ⟨P', Q', L', R', b1, h2, h3, h4⟩ := U
    have H0 := b1.q
    refine (rDeliver_any H0 I ok G.fb G.us).mono ?_
    rintro e w5 ⟨rfl, U5⟩
    exact ⟨rfl, BU.put b1 h2 h3 h4 U5⟩
  have FIN : Hid (∀ W (I : Int), BU P Q w1 n (c + 128) d (delivS S I) (delivS S I) (T) W → DoQ P Q w n c d B N (.returned (.bool true)) W) := fun W I U => ⟨rfl, _, _, (G.alone hB ⟨2, 0, 0, I, none, [], 0, false⟩), U.base g1⟩
  unfold Ac.cells at hw1 bx ⊢
  rw [hk] at hw1 bx a0 ⊢
  generalize x.h = hb at hw1 bx a5 ⊢
  subst hw1
  cases hb with
  | false =>
    clear h h1 G hB hc hpr hP hQ g1 s1 bx pr1 nbP nbQ p0 p1 d3 ha  K3 PL
    go_enter Try.func9, Try.ntmps9
    go_wp2_with fail
    go_region_held3 (fun w' : World => w'.cell? ⟨pr, 0, none⟩ = some (.pointer (some ⟨n, 0, none⟩)) ∧ w'.cell? ⟨pr, 1, none⟩ = some (.pointer (some ⟨d, 0, none⟩)) ∧ w'.cell? ⟨w.heap.size, 1, none⟩ = some (.int .i64 x.a) ∧ w'.cell? ⟨w.heap.size, 2, none⟩ = some (.int .i64 x.t) ∧ w'.cell? ⟨w.heap.size, 4, none⟩ = some (.slice x.p x.b.length x.q)) (first | exact KB.out _ _ _ _ _ U2.out | exact KB.out _ _ _ _ _ U1.out | exact K0.out _ (by repeat (first | with_reducible exact grown_refl _ | with_reducible refine grown_drew ?_ | with_reducible refine grown_al ?_ _))) (first | (go_at_call 23; refine (CP.out _ (by repeat (first | with_reducible exact grown_refl _ | with_reducible refine grown_drew ?_ | with_reducible refine grown_al ?_ _)) _).mono ?_; rintro e w5 ⟨rfl, u5⟩; have U1 := mkHid u5; clear u5) | (go_at_call 33; refine (CD.out _ _ U1.out).mono ?_; rintro e w6 ⟨rfl, u6⟩; have U2 := mkHid u6; clear u6))
    go_wp2_with fail
    go_ret
    exact FIN.out _ _ U2.out
  | true =>
    clear h h1 G hB hc hpr hP hQ g1 s1 bx pr1 nbP nbQ p0 p1 d3 ha 
    go_enter Try.func9, Try.ntmps9
    go_wp2_with fail
    go_region_held3 (fun w' : World => w'.cell? ⟨pr, 1, none⟩ = some (.pointer (some ⟨d, 0, none⟩)) ∧ w'.cell? ⟨d, 3, none⟩ = some (.slice pa S.fl.length ca) ∧ w'.cell? ⟨w.heap.size, 3, none⟩ = some (.int .i64 x.i)) (exact K3.out _ (by repeat (first | with_reducible exact grown_refl _ | with_reducible refine grown_drew ?_ | with_reducible refine grown_al ?_ _))) (first | (go_at_call 12; refine (PL.out _).mono ?_; rintro e w5 ⟨⟨I, rfl⟩, hwx⟩; have hwx2 := hwx.symm; subst hwx2; clear hwx) | fail)
    go_wp2_with fail
    go_region_held3 (fun w' : World => w'.cell? ⟨pr, 0, none⟩ = some (.pointer (some ⟨n, 0, none⟩)) ∧ w'.cell? ⟨pr, 1, none⟩ = some (.pointer (some ⟨d, 0, none⟩)) ∧ w'.cell? ⟨w.heap.size, 1, none⟩ = some (.int .i64 x.a) ∧ w'.cell? ⟨w.heap.size, 2, none⟩ = some (.int .i64 x.t) ∧ w'.cell? ⟨w.heap.size, 4, none⟩ = some (.slice x.p x.b.length x.q)) (first | exact KB.out _ _ _ _ _ U2.out | exact KB.out _ _ _ _ _ U1.out | exact K0.out _ (by repeat (first | with_reducible exact grown_refl _ | with_reducible refine grown_drew ?_ | with_reducible refine grown_al ?_ _))) (first | (go_at_call 23; refine (CP.out _ (by repeat (first | with_reducible exact grown_refl _ | with_reducible refine grown_drew ?_ | with_reducible refine grown_al ?_ _)) _).mono ?_; rintro e w5 ⟨rfl, u5⟩; have U1 := mkHid u5; clear u5) | (go_at_call 33; refine (CD.out _ _ U1.out).mono ?_; rintro e w6 ⟨rfl, u6⟩; have U2 := mkHid u6; clear u6))
    go_wp2_with fail
    go_ret
    exact FIN.out _ _ U2.out
end Go.Proofs.Ytbdlamlplfogjaa
