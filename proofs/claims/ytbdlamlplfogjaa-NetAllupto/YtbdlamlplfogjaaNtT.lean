/-
  Walks: a packet that comes, all ways through; delivered.
-/
import Derived.Test.YtbdlamlplfogjaaNtS
namespace Go.Proofs.Ytbdlamlplfogjaa
open Go.RowKit Go.Maps Go.Joins
variable {P : Nat → Prop} {w w' : World} {n c : Nat} {S : St} {L : Ly}

/-- what holds of a net behind B calls -/
structure OkS (S : St) (B : Nat) : Prop where
  pk : ∀ p ∈ S.fl, p.f < S.N ∧ p.t < S.N
  wb : ∀ i j, (S.wy i j).b ≤ 200 * B
  wt : ∀ i j, (S.wy i j).t ≤ 5000 * B
  wc : ∀ i j, (S.wy i j).c ≤ B
  wu : ∀ i j, (S.wy i j).us.length ≤ 4096
  ml : ∀ i, (S.ms i).length ≤ B
  lt : B ≤ 3000000
/-- the net behind a packet that comes -/
def comeS (S : St) (p : Pk) : St :=
  if p.e = (S.wy p.f p.t).b + 1 ∧ S.dn (pkTo p) = false then
    if p.ack = true then { S with wy := upd2 S.wy p.f p.t (tellW (S.wy p.f p.t) p.s) }
    else if p.s = (S.wy p.f p.t).c + 1 then flyS (nextS S p) (ackP p ((S.wy p.f p.t).c + 1)) else flyS S (ackP p (S.wy p.f p.t).c)
  else S
/-- what 'come' leaves -/
def CmQ (P : Nat → Prop) (w : World) (n c : Nat) (S : St) (r : Ending) (w' : World) : Prop := r = .returned (.tuple #[]) ∧ UpN P w n c S w'
theorem come_any (h : NetL P w n c S L) (p : Pk) (hf : p.f < S.N) (ht : p.t < S.N) {B : Nat} (ok : OkS S B) (hc : c ≤ 1000000000) : Calls Try.prog 54 #[.pointer (some ⟨n, 0, none⟩), pkV p] w (CmQ P w n (c + 1) (comeS S p)) := by
  have h1 := ok.lt
  have h2 := ok.wb p.f p.t
  have h3 := ok.wt p.f p.t
  have h4 := ok.wc p.f p.t
  have h5 := ok.wu p.f p.t
  have h6 := ok.ml p.t
  by_cases he : p.e = (S.wy p.f p.t).b + 1
  · cases hd : S.dn (pkTo p) with
    | true =>
      have e : comeS S p = S := if_neg (by rw [hd]; simp)
      rw [e]
      refine (come_down h p hf ht (by omega) he hd).mono ?_
      rintro e w1 ⟨rfl, hg⟩
      exact ⟨rfl, (h.upn hg).le (by omega)⟩
    | false =>
      have e0 : comeS S p = if p.ack = true then { S with wy := upd2 S.wy p.f p.t (tellW (S.wy p.f p.t) p.s) } else if p.s = (S.wy p.f p.t).c + 1 then flyS (nextS S p) (ackP p ((S.wy p.f p.t).c + 1)) else flyS S (ackP p (S.wy p.f p.t).c) := if_pos ⟨he, hd⟩
      rw [e0]
      cases ha : p.ack with
      | true =>
        rw [if_pos rfl]
        refine (come_ack h p hf ht (by omega) he hd ha (by omega) (by omega) hc).mono ?_
        rintro e w1 ⟨rfl, hu⟩
        exact ⟨rfl, hu⟩
      | false =>
        rw [if_neg (by simp)]
        by_cases hs : p.s = (S.wy p.f p.t).c + 1
        · rw [if_pos hs]
          refine (come_next h p hf ht (by omega) he hd ha hs (by omega) (by omega) hc).mono ?_
          rintro e w1 ⟨rfl, hu⟩
          exact ⟨rfl, hu⟩
        · rw [if_neg hs]
          refine (come_again h p hf ht (by omega) he hd ha hs (by omega)).mono ?_
          rintro e w1 ⟨rfl, hu⟩
          exact ⟨rfl, hu.le (by omega)⟩
  · have e : comeS S p = S := if_neg (fun e => he e.1)
    rw [e]
    refine (come_old h p hf ht (by omega) he).mono ?_
    rintro e w1 ⟨rfl, hg⟩
    exact ⟨rfl, (h.upn hg).le (by omega)⟩
/-- the net behind a delivery -/
def delivS (S : St) (k : Int) : St := if fliesS S k then comeS { S with fl := S.fl.eraseIdx k.toNat } (S.fl.getD k.toNat pk0) else S
theorem OkS.erase {B : Nat} (h : OkS S B) (i : Nat) : OkS { S with fl := S.fl.eraseIdx i } B := ⟨fun p hp => h.pk p (List.mem_of_mem_eraseIdx hp), h.wb, h.wt, h.wc, h.wu, h.ml, h.lt⟩
set_option maxHeartbeats 1000000 in
set_option maxRecDepth 100000 in
theorem Deliver_any (h : NetL P w n c S L) (k : Int) {B : Nat} (ok : OkS S B) (hc : c ≤ 1000000000) : Calls Try.prog 23 #[.pointer (some ⟨n, 0, none⟩), .int .i64 k] w (ErQ P w n (c + 1) (delivS S k) (flE S k)) := by
  have TK := mkHid (take_any h k)
  have H := mkHid h
  have OK := mkHid ok
  clear h ok
  go_enter Try.func23, Try.ntmps23
  go_wp2_with fail
  refine TK.out.mono ?_
  rintro e w1 (⟨i, p, rfl, hp, rfl, hu⟩ | ⟨hk, ⟨v, rfl, p, rfl⟩, hg⟩)
  · have hi := (List.getElem?_eq_some_iff.1 hp).1
    have e1 : fliesS S (i : Int) = true := decide_eq_true ⟨by omega, by omega⟩
    have E1 : Hid (flE S (i : Int) = 0) := by unfold flE; rw [e1]; rfl
    have E2 : Hid (delivS S (i : Int) = comeS { S with fl := S.fl.eraseIdx i } p) := by
      unfold delivS; rw [if_pos e1]
      show comeS { S with fl := S.fl.eraseIdx i } (S.fl.getD i pk0) = _
      rw [List.getD_eq_getElem?_getD, hp]; rfl
    have hpk := OK.out.pk p (List.mem_of_getElem? hp)
    obtain ⟨L1, h1, C1⟩ := hu.up.grow (World.grownBy_alloc w1 (.cells #[.int .i64 p.f, .int .i64 p.t, .bool p.ack, .int .u64 p.s, .int .u64 p.e, .string p.x] 79) none)
    have CM := mkHid (come_any h1 p hpk.1 hpk.2 (OK.out.erase i) hc)
    have HC := mkHid C1
    unfold pkV at CM
    unfold pkV
    clear hu e1 hp hpk h1 C1
    go_wp2_with fail
    refine CM.out.mono ?_
    rintro e w2 ⟨rfl, hu⟩
    have FN := mkHid (UpN.trans HC.out hu)
    clear hu
    go_wp2_with fail
    go_ret
    rw [E1.out, E2.out]
    exact ⟨rfl, FN.out⟩
  · have e1 : fliesS S k = false := decide_eq_false hk
    have E1 : Hid (flE S k = 61) := by unfold flE; rw [e1]; rfl
    have e2 : delivS S k = S := by unfold delivS; rw [if_neg (by rw [e1]; simp)]
    have E2 := mkHid e2
    clear e2
    have FN := mkHid ((H.out.upn hg).le (c2 := c + 1) (by omega))
    unfold pkV
    clear hg e1
    go_wp2_with fail
    go_ret
    rw [E1.out, E2.out]
    exact ⟨rfl, FN.out.grow (World.grownBy_alloc _ _ none)⟩
end Go.Proofs.Ytbdlamlplfogjaa
