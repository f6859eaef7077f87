/-
  The document's Hash and Value.
-/
import Derived.Test.YtmhmcffejkpmjaaDoorRdD
import Derived.Test.YtmhmcffejkpmjaaDoorRnG
namespace Go.Proofs.YtmhmcffejkpmjaaDoor
open Go.RowKit Go.Shelf

set_option maxHeartbeats 2000000 in
set_option maxRecDepth 1000000 in
theorem refHash_by (F : List UInt8 → Nat) (G : Nat → UInt8 → Nat) (F0 : Hid (F [] = 14695981039346656037)) (FL : Hid (∀ l, F l < 18446744073709551616))
    (FN : Hid (∀ (l : List UInt8) (k : Nat) (x : UInt8), l[k]? = some x → F (l.take (k + 1)) = G (F (l.take k)) x))
    (GM : Hid (∀ h x, IntKind.u64.wrap (((h ^^^ x.toNat : Nat) : Int) * 1099511628211) = ((G h x : Nat) : Int)))
    (p : Option Addr) (c : Nat) (l : List UInt8) (w : World) (h : byIn w p l) (hl : l.length ≤ 10000000) :
    Calls Tryd.prog 23 #[.slice p l.length c] w fun e w' => e = .returned (.int .u64 (F l : Int)) ∧ w' = w := by
  obtain ⟨N, hN⟩ : ∃ N, N = F l := ⟨_, rfl⟩
  rw [← hN]
  have HN : Hid (N = F l) := hN
  have HP : Hid (byIn w p l) := h
  clear hN h
  go_enter Tryd.func23, Tryd.ntmps23
  go_wp2_with fail
  go_loop [3, 4] (fun sh sk => ∃ (k H : Nat), sk = .int .i64 k ∧ k ≤ l.length ∧ sh = .int .u64 (H : Int) ∧ Hid (H = F (l.take k))) (fun _ sk => l.length - (intOf sk).toNat)
  case atStart => exact ⟨0, 14695981039346656037, rfl, Nat.zero_le _, rfl, F0.out.symm⟩
  case round =>
    obtain ⟨k, H, rfl, hk, rfl, hH⟩ := hrel
    have hHl : H < 18446744073709551616 := by rw [hH.out]; exact FL.out _
    by_cases hlt : k < l.length
    · obtain ⟨x, hx⟩ : ∃ x, l[k]? = some x := ⟨l[k], List.getElem?_eq_getElem hlt⟩
      rcases HP.out with rfl | ⟨g, off, rfl, hg, hcs⟩
      · simp at hx
      have hc := hcs k x hx
      have h1 := hash_xor H x hHl
      have h2 := GM.out H x
      have h3 : IntKind.u64.wrap (x.toNat : Int) = (x.toNat : Int) := by have := x.toNat_lt; rw [IntKind.wrap_u64]; omega
      have hn : Hid (G H x = F (l.take (k + 1))) := by
        have e := FN.out l k x hx
        rw [← hH.out] at e; exact e.symm
      clear hx hH HN HP FN GM FL F0 hcs
      generalize H ^^^ x.toNat = X at *
      go_wp2_with fail
      go_round
      case rel => exact ⟨k + 1, _, by go_num, hlt, rfl, hn⟩
      case measure => simp [intOf]; omega
    · have e : N = H := by rw [HN.out, hH.out, List.take_of_length_le (by omega)]
      subst e
      clear HN hH HP
      go_wp2_with fail
      go_ret
      exact ⟨rfl, rfl⟩
theorem refHash_any (p : Option Addr) (c : Nat) (l : List UInt8) (w : World) (h : byIn w p l) (hl : l.length ≤ 10000000) :
    Calls Tryd.prog 23 #[.slice p l.length c] w fun e w' => e = .returned (.int .u64 (hashN l : Int)) ∧ w' = w :=
  refHash_by hashN hashS hashN_nil hashN_lt (fun _ _ _ hx => hashN_next hx) hash_mul p c l w h hl


set_option maxHeartbeats 2000000 in
set_option maxRecDepth 1000000 in
theorem refValue_any (x : Va) (w : World) (hf : fit x.n) (h0 : x.chk = 0) :
    Calls Tryd.prog 22 #[.agg #[.int .i64 x.ty, .int .i64 x.n, .string x.s]] w fun e w' => ∃ v', e = .returned (.tuple #[v', .int .i64 0]) ∧ Below w.heap.size w w' ∧ ownsB w' w.heap.size v' (valB x) := by
  have CK : Hid (∀ w, Calls Tryd.prog 20 #[.agg #[.int .i64 x.ty, .int .i64 x.n, .string x.s]] w fun e w' => e = .returned (.int .i64 0) ∧ Below w.heap.size w w') := fun w => h0 ▸ refCheck_any x.ty x.n x.s w
  have AV : Hid (∀ w1, Calls Tryd.prog 32 #[.agg #[.int .i64 x.ty, .int .i64 x.n, .string x.s]] w1 fun e w' => ∃ v', e = .returned v' ∧ ownsB w' w1.heap.size v' (valB x) ∧ Below w1.heap.size w1 w') := fun w1 => bytes_any x w1 hf h0
  have hB1 : Hid (∀ o, Below w.heap.size w (w.alloc o)) := fun o => (Below.refl _ w).alloc (Nat.le_refl _) o
  have R0 : Hid _ := Res.new w x.ty x.n x.s
  clear hf h0
  go_enter Tryd.func22, Tryd.ntmps22
  go_wp2_with fail
  refine (CK.out _).mono ?_
  rintro e w1 ⟨rfl, hb1⟩
  obtain ⟨_, y0, y1, y2, _, _, _⟩ := R0.out.below hb1
  have b1 := (hB1.out _).trans (hb1.mono (hB1.out _).size)
  clear hb1 hB1 CK R0
  go_wp2_with fail
  refine (AV.out _).mono ?_
  rintro e w2 ⟨v2, rfl, ho2, hb2⟩
  clear y0 y1 y2
  go_wp2_with fail
  refine bodyPost_ret (v := .tuple #[v2, .int .i64 0]) (by simp [results, Tryd.results22, go_sem]) rfl ⟨_, rfl, b1.trans (hb2.mono b1.size), ho2.low b1.size⟩

set_option maxHeartbeats 2000000 in
set_option maxRecDepth 1000000 in
theorem refValue_bad (x : Va) (w : World) (h0 : ¬ x.chk = 0) :
    Calls Tryd.prog 22 #[.agg #[.int .i64 x.ty, .int .i64 x.n, .string x.s]] w fun e w' => e = .returned (.tuple #[.slice none 0 0, .int .i64 x.chk]) ∧ Below w.heap.size w w' := by
  have CK : Hid (∀ w, Calls Tryd.prog 20 #[.agg #[.int .i64 x.ty, .int .i64 x.n, .string x.s]] w fun e w' => e = .returned (.int .i64 x.chk) ∧ Below w.heap.size w w') := fun w => refCheck_any x.ty x.n x.s w
  have hB1 : Hid (∀ o, Below w.heap.size w (w.alloc o)) := fun o => (Below.refl _ w).alloc (Nat.le_refl _) o
  have h1 : (x.chk != 0) = true := by rw [bne_iff_ne]; exact h0
  go_enter Tryd.func22, Tryd.ntmps22
  go_wp2_with fail
  refine (CK.out _).mono ?_
  rintro e w1 ⟨rfl, hb1⟩
  have b1 := (hB1.out _).trans (hb1.mono (hB1.out _).size)
  clear hb1 hB1 CK
  go_wp2_with fail
  refine bodyPost_ret (v := .tuple #[.slice none 0 0, .int .i64 x.chk]) (by simp [results, Tryd.results22, go_sem]) rfl ⟨rfl, b1⟩

end Go.Proofs.YtmhmcffejkpmjaaDoor
