/-
  The walks of slices.Clone and simfs.Read.
-/
import Derived.Test.YtlfcmhofpieacaaDkF
namespace Go.Proofs.Ytlfcmhofpieacaa
open Go.RowKit Go.Maps Go.Joins

theorem eqNil (w : World) : (binOp .eql 22 (.slice none 0 0) (.slice none 0 0)).run Try.prog w = .ok (.bool true) w := by kernel_rfl
theorem neNil (a : Addr) (n c : Nat) (w : World) : (binOp .eql 22 (.slice (some a) n c) (.slice none 0 0)).run Try.prog w = .ok (.bool false) w := by kernel_rfl
theorem eqNilM (w : World) : (binOp .eql 37 (.map none) (.map none)).run Try.prog w = .ok (.bool true) w := by kernel_rfl
theorem neNilM (m : Nat) (w : World) : (binOp .eql 37 (.map (some m)) (.map none)).run Try.prog w = .ok (.bool false) w := by kernel_rfl

set_option maxHeartbeats 1000000 in
set_option maxRecDepth 100000 in
theorem Clone_any (base : Nat) (v : Value) (l : List UInt8) (w : World) (h : ownsB w base v l) (hl : l.length ≤ 100000000) :
    Calls Try.prog 23 #[v] w fun e w' => ∃ v', e = .returned v' ∧ ownsB w' w.heap.size v' l ∧ w.grownBy w' none := by
  rcases h.2 with ⟨rfl, h0⟩ | ⟨g, cap, cur, rfl, hb, hcur, hn, hm, hs, ht⟩
  · obtain rfl : l = [] := List.eq_nil_of_length_eq_zero h0
    have z := eqNil w
    go_enter Try.func23, Try.ntmps23
    go_wp2_with fail
    go_ret
    exact ⟨_, rfl, ownsB_nil _ _, ⟨rfl, rfl, rfl, Nat.le_refl _, fun _ _ _ => rfl⟩⟩
  · have hin : byIn w (some ⟨g, 0, none⟩) l := Or.inr ⟨⟨g, 0, none⟩, rfl, fun i x hx => by
      have hi := (List.getElem?_eq_some_iff.1 hx).1
      rw [add_plain, Nat.zero_add, World.ownsRow.cellAt h i (by omega)]
      simp [by8, hx]⟩
    have HI : Hid (∀ o, byIn (w.alloc o) (some ⟨g, 0, none⟩) l) := fun o => hin.kept (World.grownBy_alloc w o none)
    have O0 : Hid (∀ t, (w.alloc (.cells #[] t)).ownsRow w.heap.size t 1 (.slice (some ⟨w.heap.size, 0, none⟩) 0 0) 0 []) := fun t => World.ownsRow_made w #[] 0 (Nat.le_refl _) (by unfold maxLen; omega) rfl
    have z := neNil ⟨g, 0, none⟩ l.length cap w
    clear h hb hcur hn hm hs ht hin
    go_enter Try.func23, Try.ntmps23
    go_wp2_with (at_builtin; refine app_in rfl (.tmp 5) (.tmp 6) rfl w.heap.size _ [] l _ cap rfl (O0.out _) (HI.out _) (fun e => by cases e) rfl (by simp; omega) (by simp) ?_; intro v3 w3 ho3 hg3 hl3)
    go_ret
    refine ⟨_, rfl, ho3, ⟨hg3.os, hg3.tape, hg3.output, Nat.le_trans (by simp) hg3.size, fun k hk _ => ?_⟩⟩
    rw [hg3.block k (by simp; omega) (fun e => by cases e; exact Nat.lt_irrefl _ hk)]
    exact Below.heap_alloc _ _ k hk

set_option maxHeartbeats 1000000 in
set_option maxRecDepth 100000 in
theorem Read_ok (base f m : Nat) (q : Int) (s : ByteArray) (X : Fl) (A B : List (List UInt8 × Fl)) (us : List Un) (w : World) (d : Disk w base f q m (A ++ (s.data.toList, X) :: B) us) (hs : okN s) :
    Calls Try.prog 12 #[.pointer (some ⟨f, 0, none⟩), .string s] w fun e w' => ∃ v', e = .returned (.tuple #[v', .int .i64 0]) ∧ ownsB w' w.heap.size v' X.l ∧ w.grownBy w' none := by
  obtain ⟨ov, h1, h2⟩ := d.fs
  have okX : FlOk w base X := d.fl.ok X (by simp)
  have NM : Hid (Calls Try.prog 16 #[.pointer (some ⟨f, 0, none⟩), .string s] w fun e w' => e = .returned (.tuple #[.pointer (some ⟨X.b, 0, none⟩), .int .i64 0]) ∧ w' = w) := named_ok f m q 0 ov s X.b _ w h1 d.mp hs (at_of d.mp.names (by simp))
  have CL : Hid (Calls Try.prog 23 #[X.v] w fun e w' => ∃ v', e = .returned v' ∧ ownsB w' w.heap.size v' X.l ∧ w.grownBy w' none) := Clone_any base X.v X.l w okX.row okX.ll
  obtain ⟨c0, c1, cf⟩ := okX.c
  obtain ⟨P, C, hP⟩ := okX.form
  rw [hP] at c0 CL
  clear d h1 h2 okX hP
  go_enter Try.func12, Try.ntmps12
  go_wp2_with fail
  refine NM.out.mono ?_
  rintro e wx ⟨rfl, hwx⟩; have hwx2 := hwx.symm; subst hwx2; clear hwx
  go_wp2_with fail
  refine CL.out.mono ?_
  rintro e w2 ⟨v', rfl, ho, hg⟩
  go_wp2_with fail
  go_ret2
  exact ⟨v', rfl, ho, hg⟩
end Go.Proofs.Ytlfcmhofpieacaa
