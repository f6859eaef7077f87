/-
  Bytes in memory, wherever they begin; hash.On: the hash of bytes that stand behind others; rowcode.Hash.
-/
import Derived.Test.YtjdnbgnjgicbbaaDoorProg
import Derived.WalkKit
import Derived.WalkSpells
import Derived.WalkLawsBesides
import Derived.Lib.OthersKept
import Derived.OwnWalk
import Derived.Below
namespace Go.Proofs.YtjdnbgnjgicbbaaDoor
open Go.RowKit

def hashS (h : Nat) (x : UInt8) : Nat := (h ^^^ x.toNat) * 1099511628211 % 18446744073709551616
/-- the hash of bytes behind some whose hash is h -/
def hashF (h : Nat) (l : List UInt8) : Nat := l.foldl hashS h
/-- the hash of bytes -/
def hashN (l : List UInt8) : Nat := l.foldl hashS 14695981039346656037
theorem foldl_next {f : Nat → UInt8 → Nat} {s : Nat} {l : List UInt8} {k : Nat} {x : UInt8} (h : l[k]? = some x) : (l.take (k + 1)).foldl f s = f ((l.take k).foldl f s) x := by
  rw [List.take_add_one, h, List.foldl_append]; rfl
theorem hashN_next {l : List UInt8} {k : Nat} {x : UInt8} (h : l[k]? = some x) : hashN (l.take (k + 1)) = hashS (hashN (l.take k)) x := foldl_next h
theorem hashN_nil : hashN [] = 14695981039346656037 := rfl
theorem hashS_lt (h : Nat) (x : UInt8) : hashS h x < 18446744073709551616 := Nat.mod_lt _ (by decide)
theorem foldl_lt : ∀ (l : List UInt8) (h : Nat), h < 18446744073709551616 → l.foldl hashS h < 18446744073709551616
  | [], _, h => h
  | x :: l, h, _ => foldl_lt l (hashS h x) (hashS_lt h x)
theorem hashN_lt (l : List UInt8) : hashN l < 18446744073709551616 := foldl_lt l _ (by decide)
theorem hash_xor (h : Nat) (x : UInt8) (hh : h < 18446744073709551616) : bits .xor .u64 (h : Int) (x.toNat : Int) = ((h ^^^ x.toNat : Nat) : Int) :=
  bits_xor_u64_nat h x.toNat hh (by have := x.toNat_lt; omega)
theorem hash_mul (h : Nat) (x : UInt8) : IntKind.u64.wrap (((h ^^^ x.toNat : Nat) : Int) * 1099511628211) = ((hashS h x : Nat) : Int) := by
  rw [IntKind.wrap_u64]; unfold hashS; omega

/-- bytes in memory, wherever they begin -/
def bI (w : World) (P : Option Addr) (l : List UInt8) : Prop := (P = none ∧ l = []) ∨ ∃ g off, P = some ⟨g, off, none⟩ ∧ ∀ i x, l[i]? = some x → w.cell? ⟨g, off + i, none⟩ = some (.int .u8 (x.toNat : Int))

set_option maxHeartbeats 2000000 in
set_option maxRecDepth 1000000 in
theorem On_by (h0 : Nat) (F : List UInt8 → Nat) (G : Nat → UInt8 → Nat) (F0 : Hid (F [] = h0)) (FL : Hid (∀ l, F l < 18446744073709551616))
    (FN : Hid (∀ (l : List UInt8) (k : Nat) (x : UInt8), l[k]? = some x → F (l.take (k + 1)) = G (F (l.take k)) x))
    (GM : Hid (∀ h x, IntKind.u64.wrap (((h ^^^ x.toNat : Nat) : Int) * 1099511628211) = ((G h x : Nat) : Int)))
    (P : Option Addr) (C : Nat) (l : List UInt8) (w : World) (h : bI w P l) (hC : P = none → C = 0) (hl : l.length ≤ 100000000) :
    Calls Tryd.prog 30 #[.int .u64 (h0 : Int), .slice P l.length C] w fun e w' => e = .returned (.int .u64 (F l : Int)) ∧ w' = w := by
  rcases h with ⟨rfl, rfl⟩ | ⟨g, off, rfl, hcl⟩
  · obtain rfl := hC rfl
    rw [F0.out]
    clear hC F0 FL FN GM
    simp only [List.length_nil]
    generalize (h0 : Int) = H0
    go_enter Tryd.func30, Tryd.ntmps30
    go_wp2_with fail
    go_loop [0, 9] (fun sh sk => sh = .int .u64 H0 ∧ sk = .int .i64 0) (fun _ _ => 0)
    case atStart => exact ⟨rfl, rfl⟩
    case round =>
      obtain ⟨rfl, rfl⟩ := hrel
      go_wp2_with fail
      go_ret
      exact ⟨rfl, rfl⟩
  · obtain ⟨N, hN⟩ : ∃ N, N = F l := ⟨_, rfl⟩
    rw [← hN]
    have HN : Hid (N = F l) := hN
    clear hN hC
    have HC : Hid (∀ i x, l[i]? = some x → w.cell? ⟨g, off + i, none⟩ = some (.int .u8 (x.toNat : Int))) := hcl
    clear hcl
    go_enter Tryd.func30, Tryd.ntmps30
    go_wp2_with fail
    go_loop [0, 9] (fun sh sk => ∃ (k H : Nat), sk = .int .i64 k ∧ k ≤ l.length ∧ sh = .int .u64 (H : Int) ∧ Hid (H = F (l.take k))) (fun _ sk => l.length - (intOf sk).toNat)
    case atStart => exact ⟨0, h0, rfl, Nat.zero_le _, rfl, F0.out.symm⟩
    case round =>
      obtain ⟨k, H, rfl, hk, rfl, hH⟩ := hrel
      have hHl : H < 18446744073709551616 := by rw [hH.out]; exact FL.out _
      by_cases hlt : k < l.length
      · obtain ⟨x, hx⟩ : ∃ x, l[k]? = some x := ⟨l[k], List.getElem?_eq_getElem hlt⟩
        have hc : w.cell? ⟨g, off + k, none⟩ = some (.int .u8 (x.toNat : Int)) := HC.out k x hx
        have h1 := hash_xor H x hHl
        have h2 := GM.out H x
        have h3 : IntKind.u64.wrap (x.toNat : Int) = (x.toNat : Int) := by have := x.toNat_lt; rw [IntKind.wrap_u64]; omega
        have hn : Hid (G H x = F (l.take (k + 1))) := by
          have e := FN.out l k x hx
          rw [← hH.out] at e; exact e.symm
        clear hx hH HN HC FN GM FL F0
        generalize H ^^^ x.toNat = X at *
        go_wp2_with fail
        go_round
        case rel => exact ⟨k + 1, _, by go_num, hlt, rfl, hn⟩
        case measure => simp [intOf]; omega
      · have e : N = H := by rw [HN.out, hH.out, List.take_of_length_le (by omega)]
        subst e
        clear HN hH HC
        go_wp2_with fail
        go_ret
        exact ⟨rfl, rfl⟩
theorem On_any (h0 : Nat) (hh : h0 < 18446744073709551616) (P : Option Addr) (C : Nat) (l : List UInt8) (w : World) (h : bI w P l) (hC : P = none → C = 0) (hl : l.length ≤ 100000000) :
    Calls Tryd.prog 30 #[.int .u64 (h0 : Int), .slice P l.length C] w fun e w' => e = .returned (.int .u64 (hashF h0 l : Int)) ∧ w' = w := by
  have := On_by h0 (fun l => l.foldl hashS h0) hashS rfl (fun l => foldl_lt l h0 hh) (fun _ _ _ hx => foldl_next hx) hash_mul P C l w h hC hl
  exact this

set_option maxHeartbeats 2000000 in
set_option maxRecDepth 1000000 in
theorem Hash_in (P : Option Addr) (C : Nat) (l : List UInt8) (w : World) (h : bI w P l) (hC : P = none → C = 0) (hl : l.length ≤ 100000000) :
    Calls Tryd.prog 12 #[.slice P l.length C] w fun e w' => e = .returned (.int .u64 (hashN l : Int)) ∧ w' = w := by
  have ON := On_any 14695981039346656037 (by decide) P C l w h hC hl
  generalize l.length = L at *
  have ON' : Hid (Calls Tryd.prog 30 #[.int .u64 14695981039346656037, .slice P L C] w fun e w' => e = .returned (.int .u64 (hashF 14695981039346656037 l : Int)) ∧ w' = w) := ON
  clear ON hC hl h
  have hN : hashF 14695981039346656037 l = hashN l := rfl
  rw [hN] at ON'
  clear hN
  go_enter Tryd.func12, Tryd.ntmps12
  go_wp2_with fail
  refine ON'.out.mono ?_
  rintro e w' ⟨rfl, rfl⟩
  go_wp2_with fail
  go_ret
  exact ⟨rfl, rfl⟩
end Go.Proofs.YtjdnbgnjgicbbaaDoor
