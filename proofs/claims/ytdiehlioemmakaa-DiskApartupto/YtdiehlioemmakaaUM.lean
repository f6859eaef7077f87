/-
  Two disks begin; calls one after another.
-/
import Derived.Test.YtdiehlioemmakaaGdZpx
import Derived.Test.YtdiehlioemmakaaUA
namespace Go.Proofs.Ytdiehlioemmakaa
open Go.RowKit Go.Maps Go.Joins

def st0 (q : Int) : St := ⟨q, [], [[]], 0, false⟩
theorem Jn.begin (q : Int) (h0 : 0 ≤ q) (h1 : q ≤ 16777216) : Jn (st0 q) 0 [] [] where
  ab := rfl
  st := by unfold stR' st0; simp
  lf := by show -9223372036854775808 ≤ (0 : Int) ∧ (0 : Int) ≤ 9223372036854775807; omega
  ul := rfl
  wk := fun W hW => by
    have e : W = [] := List.mem_singleton.1 hW
    subst e
    exact ⟨List.Pairwise.nil, fun p hp => by simp at hp, List.Pairwise.nil, by simp⟩
  un := fun j u hu => by simp at hu
  ln := fun u hu => by simp at hu
  fl := fun x hx => by simp [st0] at hx
  q := ⟨h0, h1⟩
theorem Dsk.begin {w : World} {base f : Nat} {q : Int} (hb : base ≤ f) (h : FsAt w f q none (.slice none 0 0) 0) : Dsk (fun i => i = f) w base f q 0 none [] [] := by
  have hl : f < w.heap.size := lt_of_heap h
  exact ⟨by omega, fun i hi => by subst hi; omega, rfl, ⟨_, h, ⟨rfl, Or.inl ⟨rfl, rfl⟩⟩, fun g hg => (by cases hg)⟩, fun m e => (by cases e), fun _ => ⟨rfl, rfl⟩, ⟨fun x hx => by simp at hx, List.Pairwise.nil, List.Pairwise.nil⟩, fun x hx => by simp at hx, fun u hu => by simp at hu⟩
def BegQ (w : World) (q : Int) (e : Ending) (w' : World) : Prop := ∃ fp fr pr, e = .returned (.tuple #[.pointer (some ⟨pr, 0, none⟩), .bool true]) ∧ Both (fun i => i = fp) w' w.heap.size fp fr pr (st0 q) 0 ∧ Below w.heap.size w w'
set_option maxHeartbeats 8000000 in
set_option maxRecDepth 1000000 in
theorem Begins_bad (q : Int) (w : World) (h : q < 0 ∨ 16777216 < q) : Calls Try.prog 7 #[.int .i64 q] w fun e w' => e = .returned (.tuple #[.pointer none, .bool true]) ∧ w' = w := by
  have N1 := mkHid (New_bad q w h)
  have N2 := mkHid (refNew_bad q w h)
  clear h
  go_enter Try.func7, Try.ntmps7
  go_wp2_with fail
  refine N1.out.mono ?_
  rintro e wx ⟨rfl, hwx⟩; have hwx2 := hwx.symm; subst hwx2; clear hwx
  go_wp2_with fail
  refine N2.out.mono ?_
  rintro e wx ⟨rfl, hwx⟩; have hwx2 := hwx.symm; subst hwx2; clear hwx
  go_wp2_with fail
  go_ret2
  exact ⟨rfl, rfl⟩
set_option maxHeartbeats 8000000 in
set_option maxRecDepth 1000000 in
theorem Begins_ok (q : Int) (w : World) (h0 : 0 ≤ q) (h1 : q ≤ 16777216) : Calls Try.prog 7 #[.int .i64 q] w fun e w' => BegQ w q e w' := by
  have N1 := mkHid (New_ok q w h0 h1)
  obtain ⟨F, hF⟩ : ∃ F, F = w.heap.size := ⟨_, rfl⟩
  rw [← hF] at N1
  have HF := mkHid hF
  clear hF
  go_enter Try.func7, Try.ntmps7
  go_wp2_with fail
  refine N1.out.mono ?_
  rintro e w1 ⟨rfl, F1, B1, s1⟩
  have N2 := mkHid (refNew_ok (F := fun i => i = F) q w1 (fun i hi => by rw [hi]; omega) h0 h1)
  have HF1 := mkHid F1
  have HB1 := mkHid B1
  have hs1 : F < w1.heap.size := by omega
  clear F1 B1 s1
  go_wp2_with fail
  refine N2.out.mono ?_
  rintro e w2 ⟨rfl, R2, g2, s2⟩
  obtain ⟨r, hr⟩ : ∃ r, r = w1.heap.size + 1 := ⟨_, rfl⟩
  rw [← hr] at R2
  have hsz : r < w2.heap.size := by omega
  have g3 := World.grownBy_alloc w2 (.cells #[.pointer (some ⟨F, 0, none⟩), .pointer (some ⟨r, 0, none⟩)] 34 (0, 0)) none
  have BB : Hid (Both (fun i => i = F) (w2.alloc (.cells #[.pointer (some ⟨F, 0, none⟩), .pointer (some ⟨r, 0, none⟩)] 34)) w.heap.size F r w2.heap.size (st0 q) 0 ∧ Below w.heap.size w (w2.alloc (.cells #[.pointer (some ⟨F, 0, none⟩), .pointer (some ⟨r, 0, none⟩)] 34))) := by
    have hF : F = w.heap.size := HF.out
    rw [← hF]
    have D2 : Dsk (fun i => i = F) w1 F F q 0 none [] [] := Dsk.begin (Nat.le_refl _) HF1.out
    refine ⟨⟨⟨_, _, _, _, (D2.kept g2).kept g3, Jn.begin q h0 h1⟩, R2.grown g3, ⟨fun e => ?_, ?_⟩, heap_alloc_new _ _, ⟨fun e => ?_, ?_⟩, ⟨Nat.le_refl _, Nat.le_refl _, by omega⟩⟩, ?_⟩
    · have e : r = F := e; omega
    · omega
    · have e : w2.heap.size = F := e; omega
    · omega
    · refine HB1.out.trans ⟨g3.os.trans g2.os, g3.tape.trans g2.tape, g3.output.trans g2.output, Nat.le_trans g2.size g3.size, fun k hk => ?_⟩
      exact (g3.block k (by omega) (by simp)).trans (g2.block k (by omega) (by simp))
  have hr2 := mkHid hr
  clear R2 g2 s2 g3
  rw [← hr]
  clear hr
  go_wp2_with fail
  go_ret2
  exact ⟨F, r, w2.heap.size, rfl, BB.out.1, BB.out.2⟩
end Go.Proofs.Ytdiehlioemmakaa

namespace Go.Proofs.Ytdiehlioemmakaa
open Go.RowKit Go.Maps Go.Joins

theorem chgBl {base : Nat} {w w' : World} (hb : Below base w w') : Chg (fun i => base ≤ i) w w' := ⟨hb.os, hb.tape, hb.output, hb.size, fun k _ hn => hb.block k (by omega)⟩
theorem AcV.ok.below {a : AcV} {w w' : World} {base : Nat} (h : a.ok w base) (hb : Below base w w') : a.ok w' base :=
  ⟨h.m, h.n, h.t, h.b.chg0 (chgBl hb) (fun ne x e hx => by have := h.bb ne x e; omega), h.bb, h.bc, h.bl, h.bm, h.k.chg (chgBl hb) (fun ne x e hx => by have := h.kb ne x e; omega), h.kb, h.kc, h.kr, h.kl⟩
/-- the six cells of a call -/
def acAt (w : World) (g o : Nat) (a : AcV) : Prop := w.cell? ⟨g, o, none⟩ = some (.int .i64 a.k) ∧ w.cell? ⟨g, o + 1, none⟩ = some (.string ⟨a.n.toArray⟩) ∧ w.cell? ⟨g, o + 2, none⟩ = some (.string ⟨a.t.toArray⟩) ∧ w.cell? ⟨g, o + 3, none⟩ = some (.slice a.pb a.b.length a.cb) ∧ w.cell? ⟨g, o + 4, none⟩ = some (.int .i64 a.m) ∧ w.cell? ⟨g, o + 5, none⟩ = some (.slice a.pk a.ks.length a.ck)
theorem acAt.chg {S : Nat → Prop} {w w' : World} {g o : Nat} {a : AcV} (h : acAt w g o a) (hc : Chg S w w') (hn : ¬ S g) : acAt w' g o a := ⟨cellC hc h.1 hn, cellC hc h.2.1 hn, cellC hc h.2.2.1 hn, cellC hc h.2.2.2.1 hn, cellC hc h.2.2.2.2.1 hn, cellC hc h.2.2.2.2.2 hn⟩
/-- calls in memory, below base -/
structure acsIn (w : World) (base : Nat) (P : Option Addr) (l : List AcV) : Prop where
  ok : ∀ a ∈ l, a.ok w base
  at_ : l = [] ∨ ∃ g o, P = some ⟨g, o, none⟩ ∧ g < base ∧ ∀ i a, l[i]? = some a → acAt w g (o + i * 6) a
end Go.Proofs.Ytdiehlioemmakaa

