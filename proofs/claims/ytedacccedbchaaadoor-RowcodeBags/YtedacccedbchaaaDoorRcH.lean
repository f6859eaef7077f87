/-
  The walk of rowcode.Hash, and of rowcode.Value.
-/
import Derived.Test.YtedacccedbchaaaDoorRcG
namespace Go.Proofs.YtedacccedbchaaaDoor
open Go.RowKit Go.Shelf

def hashS (h : Nat) (x : UInt8) : Nat := (h ^^^ x.toNat) * 1099511628211 % 18446744073709551616
/-- the hash of bytes -/
def hashN (l : List UInt8) : Nat := l.foldl hashS 14695981039346656037
theorem foldl_next {f : Nat → UInt8 → Nat} {s : Nat} {l : List UInt8} {k : Nat} {x : UInt8} (h : l[k]? = some x) : (l.take (k + 1)).foldl f s = f ((l.take k).foldl f s) x := by
  rw [List.take_add_one, h, List.foldl_append]; rfl
theorem hashN_next {l : List UInt8} {k : Nat} {x : UInt8} (h : l[k]? = some x) : hashN (l.take (k + 1)) = hashS (hashN (l.take k)) x := foldl_next h
theorem hashN_nil : hashN [] = 14695981039346656037 := rfl
theorem hashS_lt (h : Nat) (x : UInt8) : hashS h x < 18446744073709551616 := Nat.mod_lt _ (by decide)
theorem foldl_lt : ∀ (l : List UInt8) (h : Nat), h < 18446744073709551616 → l.foldl hashS h < 18446744073709551616
  | [], _, h => h
  | x :: l, h, _ => foldl_lt l (hashS h x) (hashS_lt h x)
theorem hashN_lt (l : List UInt8) : hashN l < 18446744073709551616 := foldl_lt l _ (by decide)
theorem by8_get {l : List UInt8} {k : Nat} {x : UInt8} (h : l[k]? = some x) : (by8 l)[k]? = some (.int .u8 (x.toNat : Int)) := by simp [by8, h]
theorem hash_xor (h : Nat) (x : UInt8) (hh : h < 18446744073709551616) : bits .xor .u64 (h : Int) (x.toNat : Int) = ((h ^^^ x.toNat : Nat) : Int) :=
  bits_xor_u64_nat h x.toNat hh (by have := x.toNat_lt; omega)
theorem hash_mul (h : Nat) (x : UInt8) : IntKind.u64.wrap (((h ^^^ x.toNat : Nat) : Int) * 1099511628211) = ((hashS h x : Nat) : Int) := by
  rw [IntKind.wrap_u64]; unfold hashS; omega

set_option maxHeartbeats 2000000 in
set_option maxRecDepth 1000000 in
theorem Hash_by (F : List UInt8 → Nat) (G : Nat → UInt8 → Nat) (F0 : Hid (F [] = 14695981039346656037)) (FL : Hid (∀ l, F l < 18446744073709551616))
    (FN : Hid (∀ (l : List UInt8) (k : Nat) (x : UInt8), l[k]? = some x → F (l.take (k + 1)) = G (F (l.take k)) x))
    (GM : Hid (∀ h x, IntKind.u64.wrap (((h ^^^ x.toNat : Nat) : Int) * 1099511628211) = ((G h x : Nat) : Int)))
    (base : Nat) (v : Value) (l : List UInt8) (w : World) (h : ownsB w base v l) (hl : l.length ≤ 10000000) :
    Calls Tryd.prog 32 #[v] w fun e w' => e = .returned (.int .u64 (F l : Int)) ∧ w' = w := by
  rcases h.2 with ⟨rfl, h0⟩ | ⟨g, cap, cur, rfl, hbg, _⟩
  · obtain rfl : l = [] := List.eq_nil_of_length_eq_zero h0
    rw [F0.out]
    clear h
    go_enter Tryd.func32, Tryd.ntmps32
    go_wp2_with fail
    go_loop [3, 8] (fun sh sk => sh = .int .u64 14695981039346656037 ∧ sk = .int .i64 0) (fun _ _ => 0)
    case atStart => exact ⟨rfl, rfl⟩
    case round =>
      obtain ⟨rfl, rfl⟩ := hrel
      go_wp2_with fail
      go_ret
      exact ⟨rfl, rfl⟩
  · obtain ⟨N, hN⟩ : ∃ N, N = F l := ⟨_, rfl⟩
    rw [← hN]
    have HN : Hid (N = F l) := hN
    clear hN
    go_enter Tryd.func32, Tryd.ntmps32
    go_wp2_with fail
    go_loop [3, 8] (fun sh sk => ∃ (k H : Nat), sk = .int .i64 k ∧ k ≤ l.length ∧ sh = .int .u64 (H : Int) ∧ Hid (H = F (l.take k))) (fun _ sk => l.length - (intOf sk).toNat)
    case atStart => exact ⟨0, 14695981039346656037, rfl, Nat.zero_le _, rfl, F0.out.symm⟩
    case round =>
      obtain ⟨k, H, rfl, hk, rfl, hH⟩ := hrel
      have hHl : H < 18446744073709551616 := by rw [hH.out]; exact FL.out _
      by_cases hlt : k < l.length
      · obtain ⟨x, hx⟩ : ∃ x, l[k]? = some x := ⟨l[k], List.getElem?_eq_getElem hlt⟩
        have hc : w.cell? ⟨g, k, none⟩ = some (.int .u8 (x.toNat : Int)) := by
          have := World.ownsRow.cellAt h k (by omega)
          rw [this]; exact by8_get hx
        have h1 := hash_xor H x hHl
        have h2 := GM.out H x
        have h3 : IntKind.u64.wrap (x.toNat : Int) = (x.toNat : Int) := by have := x.toNat_lt; rw [IntKind.wrap_u64]; omega
        have hn : Hid (G H x = F (l.take (k + 1))) := by
          have e := FN.out l k x hx
          rw [← hH.out] at e; exact e.symm
        clear hx hH HN h FN GM FL F0
        generalize H ^^^ x.toNat = X at *
        go_wp2_with fail
        go_round
        case rel => exact ⟨k + 1, _, by go_num, hlt, rfl, hn⟩
        case measure => simp [intOf]; omega
      · have e : N = H := by rw [HN.out, hH.out, List.take_of_length_le (by omega)]
        subst e
        clear HN hH h
        go_wp2_with fail
        go_ret
        exact ⟨rfl, rfl⟩
theorem Hash_any (base : Nat) (v : Value) (l : List UInt8) (w : World) (h : ownsB w base v l) (hl : l.length ≤ 10000000) :
    Calls Tryd.prog 32 #[v] w fun e w' => e = .returned (.int .u64 (hashN l : Int)) ∧ w' = w :=
  Hash_by hashN hashS hashN_nil hashN_lt (fun _ _ _ hx => hashN_next hx) hash_mul base v l w h hl

set_option maxHeartbeats 2000000 in
set_option maxRecDepth 1000000 in
theorem Value_any (x : Va) (w : World) (hf : fit x.n) (hs : x.s.size ≤ 9223372036854775807) (hT : Tabs w) (h0 : x.chk = 0) :
    Calls Tryd.prog 31 #[.agg #[.int .i64 x.ty, .int .i64 x.n, .string x.s]] w fun e w' => ∃ v', e = .returned (.tuple #[v', .int .i64 0]) ∧ Below w.heap.size w w' ∧ ownsB w' w.heap.size v' (valB x) := by
  have CK : Hid (∀ w, Tabs w → Calls Tryd.prog 21 #[.agg #[.int .i64 x.ty, .int .i64 x.n, .string x.s]] w fun e w' => e = .returned (.int .i64 0) ∧ Below w.heap.size w w') := fun w h => h0 ▸ Check_any x.ty x.n x.s w hs h
  have AV : Hid (∀ w1, w.heap.size ≤ w1.heap.size → Calls Tryd.prog 22 #[.slice none 0 0, .agg #[.int .i64 x.ty, .int .i64 x.n, .string x.s]] w1 fun e w' => ∃ v', e = .returned v' ∧ ownsB w' w.heap.size v' (valB x) ∧ Below w.heap.size w1 w') := fun w1 h2 => appendValue_any w.heap.size (.slice none 0 0) [] x w1 (ownsB_nil _ _) h2 (by simp) hf h0
  have hT1 : Hid (∀ o, Tabs (w.alloc o)) := fun o => hT.below ((Below.refl _ _).alloc (Nat.le_refl _) o)
  have hB1 : Hid (∀ o, Below w.heap.size w (w.alloc o)) := fun o => (Below.refl _ w).alloc (Nat.le_refl _) o
  have hZ1 : Hid (∀ o, w.heap.size < (w.alloc o).heap.size) := fun o => by simp
  have hX1 : Hid ((w.alloc (.cells #[.int .i64 x.ty, .int .i64 x.n, .string x.s] 46)).cell? ⟨w.heap.size, 0, none⟩ = some (.int .i64 x.ty) ∧ (w.alloc (.cells #[.int .i64 x.ty, .int .i64 x.n, .string x.s] 46)).cell? ⟨w.heap.size, 1, none⟩ = some (.int .i64 x.n) ∧ (w.alloc (.cells #[.int .i64 x.ty, .int .i64 x.n, .string x.s] 46)).cell? ⟨w.heap.size, 2, none⟩ = some (.string x.s)) := by
    show _ ∧ _ ∧ _
    go_simp
  clear hf hs hT h0
  go_enter Tryd.func31, Tryd.ntmps31
  go_wp2_with fail
  refine (CK.out _ (hT1.out _)).mono ?_
  rintro e w1 ⟨rfl, hb1⟩
  obtain ⟨x0, x1, x2⟩ := hX1.out
  have y0 := (hb1.cell (p := ⟨w.heap.size, 0, none⟩) (hZ1.out _)).trans x0
  have y1 := (hb1.cell (p := ⟨w.heap.size, 1, none⟩) (hZ1.out _)).trans x1
  have y2 := (hb1.cell (p := ⟨w.heap.size, 2, none⟩) (hZ1.out _)).trans x2
  have b1 := (hB1.out _).trans (hb1.mono (hB1.out _).size)
  clear x0 x1 x2 hb1 hX1 hB1 hT1 CK
  go_wp2_with fail
  refine (AV.out _ b1.size).mono ?_
  rintro e w2 ⟨v2, rfl, ho2, hb2⟩
  clear y0 y1 y2
  go_wp2_with fail
  refine bodyPost_ret (v := .tuple #[v2, .int .i64 0]) (by simp [results, Tryd.results31, go_sem]) rfl ⟨_, rfl, b1.trans hb2, ho2⟩
end Go.Proofs.YtedacccedbchaaaDoor
