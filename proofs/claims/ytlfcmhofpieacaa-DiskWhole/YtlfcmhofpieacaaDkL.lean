/-
  The walk of the closure that takes a Rename back: it had been it.new, and another file it.
-/
import Derived.Test.YtlfcmhofpieacaaDkK
namespace Go.Proofs.Ytlfcmhofpieacaa
open Go.RowKit Go.Maps Go.Joins

set_option maxHeartbeats 8000000 in
set_option maxRecDepth 1000000 in
theorem undoR (base f m ct cf cl : Nat) (q : Int) (X Y : Fl) (us : List Un) (w : World) (d : Disk w base f q m [(nI, Y)] us) (hu : Un.rn ct cf cl sI sN X ∈ us) :
    Calls Try.prog 18 #[.map (some m), .pointer (some ⟨ct, 0, none⟩), .pointer (some ⟨cf, 0, none⟩), .pointer (some ⟨cl, 0, none⟩)] w fun e w' => e = .returned (.tuple #[]) ∧ (∃ b v, Disk w' base f q m [(nI, ⟨b, v, X.l, X.k⟩), (nN, Y)] us) ∧ Chg (fun i => i = m) w w' := by
  obtain ⟨u1, u2, u3, u4, u5, u6⟩ := d.un _ hu
  have ct0 : w.cell? ⟨ct, 0, none⟩ = some (.string sI) := (cell_of_block u4 0).trans rfl
  have cf0 : w.cell? ⟨cf, 0, none⟩ = some (.string sN) := (cell_of_block u5 0).trans rfl
  have cl0 : w.cell? ⟨cl, 0, none⟩ = some (.pointer (some ⟨X.b, 0, none⟩)) := (cell_of_block u6 0).trans rfl
  have hXl : X ∈ [(nI, Y)].map (·.2) ++ us.flatMap Un.lost := by
    rw [List.mem_append, List.mem_flatMap]
    exact Or.inr ⟨_, hu, List.mem_singleton.2 rfl⟩
  obtain ⟨es, ck, hmk⟩ := d.mp.kind
  have nm : ∀ {b : Nat} {cs : Array Value} {t : TypeId} {fr : Nat × Nat}, w.heap[b]? = some (.cells cs t fr) → ¬ b = m := fun h e => by rw [e, hmk] at h; cases h
  have lk : (Instr.lookup 37 (.map (some m)) (.string sI) false).run Try.prog w = .ok (.pointer (some ⟨Y.b, 0, none⟩)) w := by
    obtain ⟨v, ps, hrun, hR⟩ := World.ownsMap.lookup (key := .string sI) d.mp keyS mapT (zeroP _) (zd := .nil) (zp := []) rfl (WideMaps.keyOf_string_mk strT (by decide))
    have e : (DataW.map ([(nI, Y)].map ent)).atKey (.string sI.data.toList) .nil = .lit (.int .i64 (Y.b : Int)) := rfl
    rw [e] at hR
    rcases ptrR_inv hR with ⟨_, e⟩ | ⟨b', rfl, e⟩
    · cases e
    · cases e; exact hrun
  obtain ⟨w1, hrun1, hown1, hturn1⟩ := World.ownsMap.store (key := .string sN) (val := .pointer (some ⟨Y.b, 0, none⟩)) d.mp keyS mapT (by simp; unfold maxLen; omega) (WideMaps.keyOf_string_mk strT (by decide)) (ptrR_mk Y.b)
  have e1 : (DataW.map ([(nI, Y)].map ent)).put (.string sN.data.toList) (.lit (.int .i64 (Y.b : Int))) = .map ([(nI, Y), (nN, Y)].map ent) := rfl
  rw [e1] at hown1
  have c01 : Chg (fun i => i = m) w w1 := (Chg.of_grown hturn1.grown).mono (fun i _ e => by cases e; rfl)
  have ct1 : w1.cell? ⟨ct, 0, none⟩ = some (.string sI) := (cell_of_block (c01.at_ u4 (nm u4)) 0).trans rfl
  obtain ⟨w2, hrun2, hown2, hturn2⟩ := World.ownsMap.drop (key := .string sI) hown1 keyS mapT (WideMaps.keyOf_string_mk strT (by decide)) 0
  have hrun2b : ∀ ty, (Builtin.delete_ #[37, 9] ty #[.map (some m), .string sI]).run Try.prog w1 = .ok (.tuple #[]) w2 := fun ty => hrun2
  have e2 : (DataW.map ([(nI, Y), (nN, Y)].map ent)).del (.string sI.data.toList) = .map ([(nN, Y)].map ent) := rfl
  rw [e2] at hown2
  have c02 : Chg (fun i => i = m) w w2 := c01.trans ((Chg.of_grown hturn2.grown).mono (fun i _ e => by cases e; rfl))
  have ct2 : w2.cell? ⟨ct, 0, none⟩ = some (.string sI) := (cell_of_block (c02.at_ u4 (nm u4)) 0).trans rfl
  have cl2 : w2.cell? ⟨cl, 0, none⟩ = some (.pointer (some ⟨X.b, 0, none⟩)) := (cell_of_block (c02.at_ u6 (nm u6)) 0).trans rfl
  have L2 : Fls w2 base ([(nI, Y)].map (·.2) ++ us.flatMap Un.lost) := c02.files d.fl (fun r e => by subst e; exact other_map hmk)
  have hb2 : base ≤ w2.heap.size := Nat.le_trans d.bs c02.size
  have GB : Hid (Calls Try.prog 19 #[.map (some m), .string sI, .pointer (some ⟨X.b, 0, none⟩)] w2 fun e w' => ∃ (b : Nat) (v : Value), e = .returned (.tuple #[]) ∧ w2.heap.size ≤ b ∧ FlOk w' base ⟨b, v, X.l, X.k⟩ ∧ (∀ g, v.ownBlock = some g → w2.heap.size ≤ g) ∧ w'.ownsMap Try.prog 9 ptrR m (2 + 1) ((DataW.map ([(nN, Y)].map ent)).put (.string sI.data.toList) (.lit (.int .i64 (b : Int)))) ∧ Chg (fun i => i = m) w2 w') := giveBack_ok base m 2 sI X (.map ([(nN, Y)].map ent)) w2 okI (hown2.mono (by simp)) (by omega) d.mge (L2.ok X hXl) hb2
  obtain ⟨ov, h1, h2⟩ := d.fs
  have F2 : FsAt w2 f q (some m) ov 0 := c02.at_ h1 (nm h1)
  have R2 : w2.ownsRow base 55 1 ov us.length (us.map Un.val) := c02.row h2 (fun g hg e => by obtain ⟨cs, hk⟩ := own_kind h2 g hg; exact nm hk e)
  have U2 : ∀ u ∈ us, Un.ok w2 base u := fun u hu => c02.un (d.un u hu) (fun r e => by subst e; exact plainB_map hmk)
  have fge := d.fge
  have mge := d.mge
  obtain ⟨es2, ck2, hmk2, _⟩ := id hown2
  clear hturn1 hturn2 hown1 hown2 c01 hmk nm h1 h2 d u1 u2 u3 u4 u5 u6 hrun2 hXl hu
  go_enter Try.func18, Try.ntmps18
  go_wp2_with fail
  refine GB.out.mono ?_
  rintro e w3 ⟨b, v, rfl, hbb, okX', hv, hown3, c23⟩
  go_wp2_with fail
  go_end0
  have nm : ∀ {b : Nat} {cs : Array Value} {t : TypeId} {fr : Nat × Nat}, w2.heap[b]? = some (.cells cs t fr) → ¬ b = m := fun h e => by rw [e, hmk2] at h; cases h
  refine ⟨rfl, ⟨b, v, ⟨Nat.le_trans hb2 c23.size, fge, mge, ⟨ov, c23.at_ F2 (nm F2), c23.row R2 (fun g hg e => by obtain ⟨cs, hk⟩ := own_kind R2 g hg; exact nm hk e)⟩, own_tight hown3, ?_, fun u hu => c23.un (U2 u hu) (fun r e => by subst e; exact plainB_map hmk2)⟩⟩, c02.trans c23⟩
  have h0 := c23.files L2 (fun r e => by subst e; exact other_map hmk2)
  have h0' : Fls w3 base ([] ++ (Y :: us.flatMap Un.lost)) := h0
  refine Fls.add (w := w3) (A := []) h0' okX' (fun x hx e => ?_) (fun x hx g hg e => ?_) rfl
  · have := lt_of_heap (L2.ok x hx).at_
    have e : x.b = b := e
    omega
  · obtain ⟨cs, hk⟩ := own_kind (L2.ok x hx).row g hg
    have := lt_of_heap hk
    have := hv g e
    omega
end Go.Proofs.Ytlfcmhofpieacaa
