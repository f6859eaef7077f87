/-
  Walks: how many messages wait, by from and to.
-/
import Derived.Test.YtpghkbbhcpcbdaaNuP
import Derived.Test.YtpghkbbhcpcbdaaNuB
namespace Go.Proofs.Ytpghkbbhcpcbdaa
open Go.RowKit Go.Maps Go.Joins
variable {P : Nat → Prop} {w w' : World} {n c : Nat} {S : St} {L : Ly}

/-- how many wait of the first k at a node -/
def ctK (S : St) (a i k : Nat) : Nat := (((S.ms i).take k).filter (fun m => m.1 == a)).length
def cntF (S : St) (a b : Nat) : Nat := if S.dn b = true then 0 else (wt S a b).length
def ctF (S : St) (i k : Nat) : Nat → Nat → Int := fun a b => ((if b < i then cntF S a b else if b = i then ctK S a i k else 0 : Nat) : Int)
theorem ctK_zero (S : St) (a i : Nat) : ctK S a i 0 = 0 := rfl
theorem ctK_all (S : St) (a i : Nat) : ctK S a i (S.ms i).length = (wt S a i).length := by
  unfold ctK wt
  rw [List.take_length, List.length_map]
theorem ctK_step {i k : Nat} {m : Nat × ByteArray} (h : (S.ms i)[k]? = some m) (a : Nat) : ctK S a i (k + 1) = ctK S a i k + (if m.1 = a then 1 else 0) := by
  unfold ctK
  rw [List.take_add_one, h, List.filter_append, List.length_append]
  congr 1
  by_cases e : m.1 = a
  · rw [if_pos e]; simp [e]
  · rw [if_neg e]; simp [e]
theorem ctF_next (S : St) (i k : Nat) (h : S.dn i = true ∧ k = 0 ∨ S.dn i = false ∧ k = (S.ms i).length) : ctF S i k = ctF S (i + 1) 0 := by
  funext a b
  unfold ctF
  congr 1
  by_cases e1 : b < i
  · rw [if_pos e1, if_pos (by omega)]
  · rw [if_neg e1]
    by_cases e2 : b = i
    · rw [if_pos e2, if_pos (by omega), e2]
      unfold cntF
      rcases h with ⟨h1, h2⟩ | ⟨h1, h2⟩
      · rw [if_pos h1, h2]; rfl
      · rw [if_neg (by rw [h1]; simp), h2]; exact ctK_all S a i
    · rw [if_neg e2, if_neg (by omega)]
      split
      · rfl
      · rfl
theorem ctF_step {i k : Nat} {m : Nat × ByteArray} (h : (S.ms i)[k]? = some m) : upd2 (ctF S i k) m.1 i (ctF S i k m.1 i + 1) = ctF S i (k + 1) := by
  funext a b
  by_cases e : a = m.1 ∧ b = i
  · rw [e.1, e.2, upd2_same]
    unfold ctF
    rw [if_neg (Nat.lt_irrefl _), if_pos rfl, if_neg (Nat.lt_irrefl _), if_pos rfl, ctK_step h, if_pos rfl]
    rfl
  · rw [upd2_other _ _ e]
    unfold ctF
    congr 1
    split
    · rfl
    · split
      · rename_i e2
        rw [ctK_step h, if_neg (fun e3 => e ⟨e3.symm, e2⟩), Nat.add_zero]
      · rfl
/-- the clone that is being emptied, and the table -/
structure CtS (w : World) (S : St) (c cn g i k : Nat) (hb : Nat → Nat) (wr : World) : Prop where
  gr : w.grownBy wr none
  ex : ∃ (Pc : Nat → Prop) (Lc : Ly) (Sc : St), NetL Pc wr cn c Sc Lc ∧ Sc.N = S.N ∧ Sc.dn = S.dn ∧ (∀ b, i < b → Sc.ms b = S.ms b) ∧ Sc.ms i = (S.ms i).drop k ∧ (∀ b, Pc b → w.heap.size ≤ b) ∧ MtI (fun b => w.heap.size ≤ b ∧ b < wr.heap.size ∧ ¬ Pc b) wr g S.N S.N hb (ctF S i k)
/-- what count answers -/
def CtQ (w : World) (S : St) (r : Ending) (w' : World) : Prop := ∃ g hb, r = .returned (.slice (some ⟨g, 0, none⟩) S.N S.N) ∧ MtI (fun b => w.heap.size ≤ b ∧ b < w'.heap.size) w' g S.N S.N hb (fun a b => (cntF S a b : Int)) ∧ w.grownBy w' none
theorem CtS.recv {cn g i k : Nat} {hb : Nat → Nat} {wr w3 : World} {m : Nat × ByteArray} (gr : w.grownBy wr none) {Pc : Nat → Prop} {Sc : St} {rest : List (Nat × ByteArray)} (hN : Sc.N = S.N) (hd : Sc.dn = S.dn) (ho : ∀ b, i < b → Sc.ms b = S.ms b) (hm : (S.ms i)[k]? = some m) (hr : rest = (S.ms i).drop (k + 1)) (hP : ∀ b, Pc b → w.heap.size ≤ b) (hM : MtI (fun b => w.heap.size ≤ b ∧ b < wr.heap.size ∧ ¬ Pc b) wr g S.N S.N hb (ctF S i k)) (U : UpN Pc wr cn c { Sc with ms := upd Sc.ms i rest } w3) (hf : m.1 < S.N) :
    MtI (fun b => w.heap.size ≤ b ∧ b < w3.heap.size ∧ ¬ ext Pc wr w3 b) w3 g S.N S.N hb (ctF S i k) ∧ CtS w S c cn g i (k + 1) hb (w3.setCell ⟨hb m.1, i, none⟩ (.int .i64 (ctF S i k m.1 i + 1))) := by
  obtain ⟨L3, h3, C3⟩ := U
  have M3 := (hM.away C3 (fun b hb => hb.2.2)).wide (Q' := fun b => w.heap.size ≤ b ∧ b < w3.heap.size ∧ ¬ ext Pc wr w3 b) (fun b hb => ⟨hb.1, Nat.lt_of_lt_of_le hb.2.1 C3.size, fun e => by
    rcases e with e | e
    · exact hb.2.2 e
    · omega⟩)
  refine ⟨M3, ?_⟩
  obtain ⟨M4, C4⟩ := M3.set hf (i := m.1) (j := i) (ctF S i k m.1 i + 1)
  have q := (M3.row m.1 hf).1
  rw [ctF_step hm] at M4
  have h4 := h3.away C4 (fun b hb e => q.2.2 (by rw [← show b = _ from e]; exact hb))
  have gw3 : w.grownBy w3 none := ⟨C3.os.trans gr.os, C3.tape.trans gr.tape, C3.output.trans gr.output, Nat.le_trans gr.size C3.size, fun x hx hn => (C3.block x (Nat.lt_of_lt_of_le hx gr.size) (fun e => by have := hP x e; omega)).trans (gr.block x hx hn)⟩
  refine ⟨grown_set gw3 _ _ q.1, _, L3, _, h4, hN, hd, fun b hb' => ?_, ?_, fun b hb' => ?_, M4.wide (fun b hb' => ⟨hb'.1, by simpa using hb'.2.1, hb'.2.2⟩)⟩
  · show upd Sc.ms i rest b = _
    rw [upd_other _ _ (by omega)]; exact ho b hb'
  · show upd Sc.ms i rest i = _
    rw [upd_same, hr]
  · rcases hb' with e | e
    · exact hP b e
    · exact Nat.le_trans gr.size e.1
end Go.Proofs.Ytpghkbbhcpcbdaa
