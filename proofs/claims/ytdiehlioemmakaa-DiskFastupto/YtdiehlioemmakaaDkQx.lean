/-
  The living call of the laws on disks.
-/
import Derived.Test.YtdiehlioemmakaaDkPx
import Derived.Laws.IdiomStrings
import Derived.Laws.BytesString
namespace Go.Proofs.Ytdiehlioemmakaa
open Go.RowKit Go.Maps Go.Joins Go.Sort

def sA : ByteArray := ⟨#[97]⟩
def nA : List UInt8 := [97]
theorem okA : okN sA := by
  refine ⟨by decide, by decide, ?_⟩
  intro k h
  have h : k < 1 := h
  have : k = 0 := by omega
  subst this
  exact ⟨Nat.le_of_ble_eq_true rfl, Nat.le_of_ble_eq_true rfl⟩
theorem conv_own {w : World} {base : Nat} {v : Value} {l : List UInt8} (h : ownsB w base v l) : (convert 27 9 v).run Try.prog w = .ok (.string ⟨l.toArray⟩) w := by
  rcases h.2 with ⟨rfl, h0⟩ | ⟨g, cap, cur, rfl, _, hcur, _⟩
  · obtain rfl : l = [] := List.eq_nil_of_length_eq_zero h0
    rw [run_convert_bytes_string w 27 9 5 none 0 0 u8Slice u8T strT]
    rfl
  · refine run_convert_bytes_back (P := Try.prog) w 27 9 5 ⟨g, 0, none⟩ cap l u8Slice u8T strT (fun j hj => ?_)
    rw [add_plain, Nat.zero_add]
    have := World.ownsRow.cellAt h j (by omega)
    rw [this, by8, List.getElem?_map, List.getElem?_eq_getElem hj]; rfl
theorem lit_in (w : World) (cs : Array Value) (fr : Nat × Nat) (l : List UInt8) (hcs : cs.toList = by8 l) : byIn (w.alloc (.cells cs 5 fr)) (some ⟨w.heap.size, 0, none⟩) l := by
  refine Or.inr ⟨⟨w.heap.size, 0, none⟩, rfl, fun i x hx => ?_⟩
  rw [add_plain, Nat.zero_add, cell_of_block (heap_alloc_new w _) i, ← Array.getElem?_toList, hcs, by8, List.getElem?_map, hx]; rfl
theorem one_of {zs : List (List UInt8 × Fl)} {n l : List UInt8} {k : Nat} (h : zs.map abs = [(n, l, k)]) : ∃ Z : Fl, zs = [(n, Z)] ∧ Z.l = l ∧ Z.k = k := by
  cases zs with
  | nil => cases h
  | cons p t =>
    rw [List.map_cons, List.cons.injEq, List.map_eq_nil_iff] at h
    obtain ⟨h1, rfl⟩ := h
    obtain ⟨n', Z⟩ := p
    simp only [abs, Prod.mk.injEq] at h1
    obtain ⟨rfl, h2, h3⟩ := h1
    exact ⟨Z, rfl, h2, h3⟩
theorem one_sort (n : List UInt8) : ∀ ss : List (List UInt8), ss.Perm [n] → ss.mergeSort (fun x y => decide (x ≤ y)) = [n] := by
  intro ss h
  rw [List.perm_singleton] at h
  subst h; simp

set_option maxHeartbeats 8000000 in
set_option maxRecDepth 1000000 in
theorem lives_any (w : World) : Calls Try.prog 12 #[] w fun e w' => e = .returned (.bool true) ∧ Below w.heap.size w w' := by
  obtain ⟨F, hF⟩ : ∃ F, F = w.heap.size := ⟨_, rfl⟩
  have NE : Hid (Calls Try.prog 25 #[.int .i64 100] w fun e w' => e = .returned (.tuple #[.pointer (some ⟨F, 0, none⟩), .int .i64 0]) ∧ FsAt w' F 100 none (.slice none 0 0) 0 ∧ Below F w w' ∧ w'.heap.size = F + 1) := by rw [hF]; exact New_ok 100 w (by omega) (by omega)
  have hFw : F ≤ w.heap.size := by omega
  rw [← hF]
  clear hF
  go_enter Try.func12, Try.ntmps12
  go_wp2_with fail
  refine NE.out.mono ?_
  rintro e w1 ⟨rfl, F1, B1, s1⟩
  have CR : Hid (Calls Try.prog 29 #[.pointer (some ⟨F, 0, none⟩), .string ⟨#[97]⟩] w1 fun e w' => e = .returned (.int .i64 0) ∧ ∃ m b c, Disk w' F F 100 m [(nA, ⟨b, .slice none 0 0, [], 0⟩)] [.cr c sA] ∧ Below F w1 w') := Create_nil F F 100 sA w1 F1 (Nat.le_refl _) (by omega) okA
  clear F1 s1
  go_wp2_with fail
  refine CR.out.mono ?_
  rintro e w2 ⟨rfl, m, b, c, D2, B2⟩
  have g2 := World.grownBy_alloc w2 (.cells #[.int .u8 120, .int .u8 121, .int .u8 122] 5 (3, 4)) none
  have AP : Hid (Calls Try.prog 22 #[.pointer (some ⟨F, 0, none⟩), .string ⟨#[97]⟩, .slice (some ⟨w2.heap.size, 0, none⟩) 3 3] (w2.alloc (.cells #[.int .u8 120, .int .u8 121, .int .u8 122] 5 (3, 4))) fun e w' => e = .returned (.int .i64 0) ∧ ∃ v', Disk w' F F 100 m [(nA, ⟨b, v', [120, 121, 122], 0⟩)] [.cr c sA] ∧ Below F (w2.alloc (.cells #[.int .u8 120, .int .u8 121, .int .u8 122] 5 (3, 4))) w') := Append_ok F F m 100 sA ⟨b, .slice none 0 0, [], 0⟩ [] [] [.cr c sA] [120, 121, 122] (some ⟨w2.heap.size, 0, none⟩) 3 _ (D2.kept g2) okA (lit_in w2 _ _ _ rfl) (fun e => by cases e) (by show ((0 : Nat) : Int) + ((3 : Nat) : Int) ≤ 100; omega) (by omega)
  have B2' : Below F w (w2.alloc (.cells #[.int .u8 120, .int .u8 121, .int .u8 122] 5 (3, 4))) := (B1.trans B2).alloc D2.bs _
  clear B1 B2 g2 D2
  have cv : (convert 27 27 (.slice (some ⟨w2.heap.size, 0, none⟩) 3 3)).run Try.prog (w2.alloc (.cells #[.int .u8 120, .int .u8 121, .int .u8 122] 5)) = .ok (.slice (some ⟨w2.heap.size, 0, none⟩) 3 3) (w2.alloc (.cells #[.int .u8 120, .int .u8 121, .int .u8 122] 5 (3, 4))) := run_convert_bytes_const_at w2 27 5 _ 3 3 w2.heap.size rfl u8Slice u8T
  go_wp2_with fail
  refine AP.out.mono ?_
  rintro e w3 ⟨rfl, v3, D3, B3⟩
  have B3' := B2'.trans B3
  have SY : Hid (Calls Try.prog 23 #[.pointer (some ⟨F, 0, none⟩), .string ⟨#[97]⟩] w3 fun e w' => e = .returned (.int .i64 0) ∧ Disk w' F F 100 m [(nA, ⟨b, v3, [120, 121, 122], 3⟩)] [.cr c sA] ∧ Below F w3 w') := Sync_ok F F m 100 sA ⟨b, v3, [120, 121, 122], 0⟩ [] [] [.cr c sA] w3 D3 okA
  clear B3 B2' D3
  go_wp2_with fail
  refine SY.out.mono ?_
  rintro e w4 ⟨rfl, D4, B4⟩
  have g4 := World.grownBy_alloc w4 (.cells #[.int .u8 117, .int .u8 118] 5 (2, 3)) none
  have AQ : Hid (Calls Try.prog 22 #[.pointer (some ⟨F, 0, none⟩), .string ⟨#[97]⟩, .slice (some ⟨w4.heap.size, 0, none⟩) 2 2] (w4.alloc (.cells #[.int .u8 117, .int .u8 118] 5 (2, 3))) fun e w' => e = .returned (.int .i64 0) ∧ ∃ v', Disk w' F F 100 m [(nA, ⟨b, v', [120, 121, 122, 117, 118], 3⟩)] [.cr c sA] ∧ Below F (w4.alloc (.cells #[.int .u8 117, .int .u8 118] 5 (2, 3))) w') := Append_ok F F m 100 sA ⟨b, v3, [120, 121, 122], 3⟩ [] [] [.cr c sA] [117, 118] (some ⟨w4.heap.size, 0, none⟩) 2 _ (D4.kept g4) okA (lit_in w4 _ _ _ rfl) (fun e => by cases e) (by show ((3 : Nat) : Int) + ((2 : Nat) : Int) ≤ 100; omega) (by omega)
  have B4' : Below F w (w4.alloc (.cells #[.int .u8 117, .int .u8 118] 5 (2, 3))) := (B3'.trans B4).alloc D4.bs _
  clear B4 B3' g4 D4
  have cv : (convert 27 27 (.slice (some ⟨w4.heap.size, 0, none⟩) 2 2)).run Try.prog (w4.alloc (.cells #[.int .u8 117, .int .u8 118] 5)) = .ok (.slice (some ⟨w4.heap.size, 0, none⟩) 2 2) (w4.alloc (.cells #[.int .u8 117, .int .u8 118] 5 (2, 3))) := run_convert_bytes_const_at w4 27 5 _ 2 2 w4.heap.size rfl u8Slice u8T
  go_wp2_with fail
  refine AQ.out.mono ?_
  rintro e w5 ⟨rfl, v5, D5, B5⟩
  have B5' := B4'.trans B5
  have SN : Hid (Calls Try.prog 15 #[.pointer (some ⟨F, 0, none⟩)] w5 fun e w' => e = .returned (.int .i64 0) ∧ Disk w' F F 100 m [(nA, ⟨b, v5, [120, 121, 122, 117, 118], 3⟩)] [] ∧ Below F w5 w') := SyncNames_disk F F m 100 _ _ w5 D5
  clear B5 B4' D5
  go_wp2_with fail
  refine SN.out.mono ?_
  rintro e w6 ⟨rfl, D6, B6⟩
  have g6 := World.grownBy_alloc w6 (.cells #[.int .i64 1] 3) none
  have hk6 : (w6.alloc (.cells #[.int .i64 1] 3)).heap[w6.heap.size]? = some (.cells #[.int .i64 1] 3 (0, 0)) := heap_alloc_new _ _
  have CRS : Hid (Calls Try.prog 17 #[.pointer (some ⟨F, 0, none⟩), .slice (some ⟨w6.heap.size, 0, none⟩) 1 1, .int .i64 0] (w6.alloc (.cells #[.int .i64 1] 3)) fun e w' => e = .returned (.tuple #[]) ∧ (∃ ys zs, ys = [(nA, (⟨b, v5, [120, 121, 122, 117, 118], 3⟩ : Fl))] ∧ Disk w' F F 100 m zs [] ∧ zs.map abs = cuts [1] 0 ys) ∧ Kp F (w6.alloc (.cells #[.int .i64 1] 3)) w') := by
    refine Crash_ok F F m 100 0 [1] (some ⟨w6.heap.size, 0, none⟩) 1 [] (fun _ ys => ys = [(nA, (⟨b, v5, [120, 121, 122, 117, 118], 3⟩ : Fl))]) _ _ ⟨by omega, by omega⟩ (by simp) (fun j u xs w h => by simp at h) rfl (D6.kept g6) (fun ys h => ?_) (fun w' hb => ?_) (fun x hx => ?_) (by simp)
    · subst h
      exact ⟨by simp, fun p hp => by rw [List.mem_singleton] at hp; subst hp; show (1 : Nat) ≤ 64; omega, one_sort nA⟩
    · refine Or.inr ⟨w6.heap.size, 0, rfl, fun i x hx => ?_⟩
      have hi := (List.getElem?_eq_some_iff.1 hx).1
      have h0 : i = 0 := by simp at hi; exact hi
      subst h0
      simp at hx; subst hx
      exact (cell_of_block (hb.2 _ _ _ hk6) 0).trans rfl
    · simp at hx; subst hx; omega
  have B6' : Below F w (w6.alloc (.cells #[.int .i64 1] 3)) := (B5'.trans B6).alloc D6.bs _
  clear B6 B5' g6 D6 hk6
  go_wp2_with fail
  refine CRS.out.mono ?_
  rintro e w7 ⟨rfl, ⟨ys, zs, hys, D7, E7⟩, B7⟩
  have B7' := B6'.trans B7.1
  obtain ⟨Z, hZ, hZl⟩ : ∃ Z : Fl, zs = [(nA, Z)] ∧ Z.l = [120, 121, 122, 117] := by
    rw [hys] at E7
    have e : cuts [1] 0 [(nA, (⟨b, v5, [120, 121, 122, 117, 118], 3⟩ : Fl))] = [(nA, [120, 121, 122, 117], 4)] := rfl
    rw [e] at E7
    obtain ⟨Z, h1, h2, _⟩ := one_of E7
    exact ⟨Z, h1, h2⟩
  subst hZ
  have RD : Hid (Calls Try.prog 43 #[.pointer (some ⟨F, 0, none⟩), .string ⟨#[97]⟩] w7 fun e w' => ∃ v', e = .returned (.tuple #[v', .int .i64 0]) ∧ ownsB w' w7.heap.size v' Z.l ∧ w7.grownBy w' none) := Read_ok F F m 100 sA Z [] [] [] w7 D7 okA
  rw [hZl] at RD
  have b7 := D7.bs
  clear E7 hys D7 B7 B6' hZl
  go_wp2_with fail
  refine RD.out.mono ?_
  rintro e w8 ⟨v8, rfl, ho8, hg8⟩
  have cs8 := conv_own ho8
  go_wp2_with fail
  go_ret
  exact ⟨by first | rfl | decide, B7'.trans (below_own hg8 b7 (fun g e => by cases e))⟩
end Go.Proofs.Ytdiehlioemmakaa
