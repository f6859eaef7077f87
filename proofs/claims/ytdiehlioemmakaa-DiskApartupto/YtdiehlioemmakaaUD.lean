/-
  A disk whose own block alone has changed: SyncNames, Stop; the walk of simfs.Crash.
-/
import Derived.Test.YtdiehlioemmakaaDkOpx
import Derived.Laws.IdiomStrings
import Derived.Laws.BytesString
import Derived.ProofKit
import Derived.OpenShut
import Derived.WideKeyArgs
import Derived.Deep.Slices
import Derived.Deep.Strs
import Derived.ChangeOld
import Derived.Lib.SmallJoins
import Derived.Test.YtdiehlioemmakaaUA
namespace Go.Proofs.Ytdiehlioemmakaa
open Go.RowKit Go.Maps Go.Joins Go.Sort

theorem lost_sub : ∀ {us' us : List Un}, us'.Sublist us → (us'.flatMap Un.lost).Sublist (us.flatMap Un.lost)
  | _, _, .slnil => List.Sublist.refl _
  | _, _, .cons a h => by rw [List.flatMap_cons]; exact (lost_sub h).trans (List.sublist_append_right _ _)
  | _, _, .cons_cons a h => by rw [List.flatMap_cons, List.flatMap_cons]; exact List.Sublist.append (List.Sublist.refl _) (lost_sub h)
/-- the disk's own block alone has changed, and fewer changes of names are open -/
theorem Disk.own {w w' : World} {base f m : Nat} {q : Int} {xs : List (List UInt8 × Fl)} {us us' : List Un} {ov : Value} (h : Disk w base f q m xs us) (hc : Chg (fun i => i = f) w w') (hF : FsAt w' f q (some m) ov 0) (hr : w'.ownsRow base 72 1 ov us'.length (us'.map Un.val)) (hs : us'.Sublist us) :
    Disk w' base f q m xs us' ∧ Below base w w' := by
  obtain ⟨ov0, h1, h2⟩ := h.fs
  have kf : ∀ i, i = f → ∃ cs, w.heap[i]? = some (.cells cs 67 (0, 0)) := fun i e => by subst e; exact ⟨_, h1⟩
  refine ⟨⟨Nat.le_trans h.bs hc.size, h.fge, h.mge, ⟨ov, hF, hr⟩, hc.map h.mp (fun e => ?_), ?_, fun u hu => hc.un (h.un u (hs.subset hu)) (fun r e => ?_)⟩, hc.below h.bs (fun i e => by subst e; exact h.fge)⟩
  · obtain ⟨cs, hk⟩ := kf _ e
    obtain ⟨es, c, hk'⟩ := h.mp.kind
    rw [hk'] at hk; cases hk
  · refine (hc.files h.fl (fun r e => ?_)).sub (List.Sublist.append (List.Sublist.refl _) (lost_sub hs))
    obtain ⟨cs, hk⟩ := kf _ e
    exact other_cells hk (by decide) (by decide)
  · obtain ⟨cs, hk⟩ := kf _ e
    exact plainB_cells hk (by decide) (by decide)
theorem SyncNames_disk (base f m : Nat) (q : Int) (xs : List (List UInt8 × Fl)) (us : List Un) (w : World) (d : Disk w base f q m xs us) :
    Calls Try.prog 15 #[.pointer (some ⟨f, 0, none⟩)] w fun e w' => e = .returned (.int .i64 0) ∧ Disk w' base f q m xs [] ∧ Below base w w' := by
  obtain ⟨ov, h1, h2⟩ := d.fs
  refine (SyncNames_ok f q (some m) ov w h1).mono ?_
  rintro e w' ⟨rfl, hF, hg⟩
  exact ⟨rfl, d.own ((Chg.of_grown hg).mono (fun i _ e => by cases e; rfl)) hF (World.ownsRow_nil _ _ _ _) (List.nil_sublist _)⟩
theorem Stop_disk (base f m : Nat) (q : Int) (xs : List (List UInt8 × Fl)) (us : List Un) (w : World) (d : Disk w base f q m xs us) :
    Calls Try.prog 14 #[.pointer (some ⟨f, 0, none⟩), .int .i64 0] w fun e w' => e = .returned (.tuple #[]) ∧ Disk w' base f q m xs us ∧ Kp base w w' := by
  obtain ⟨ov, h1, h2⟩ := d.fs
  refine (Stop_0 f q 0 (some m) ov w h1).mono ?_
  rintro e w' ⟨rfl, hF, hg⟩
  have hc : Chg (fun i => i = f) w w' := (Chg.of_grown hg).mono (fun i _ e => by cases e; rfl)
  refine ⟨rfl, (d.own hc hF (hc.row h2 (fun g hg e => ?_)) (List.Sublist.refl _)).1, Kp.of_chg hc d.bs (fun i e => by subst e; exact d.fge) (fun i e cs fr h => by subst e; unfold FsAt at h1; rw [h1] at h; simp at h)⟩
  obtain ⟨cs, hk⟩ := own_kind h2 g hg
  have e : g = f := e
  unfold FsAt at h1
  rw [e, h1] at hk; simp at hk

set_option maxHeartbeats 2000000 in
set_option maxRecDepth 100000 in
theorem Crash_ok (base f m : Nat) (q names : Int) (keeps : List Int) (Pk : Option Addr) (Ck : Nat) (us : List Un) (St : Nat → List (List UInt8 × Fl) → Prop) (xs : List (List UInt8 × Fl)) (w : World) (hn : -9223372036854775808 ≤ names ∧ names ≤ 9223372036854775807) (hus : us.length ≤ 1000)
    (hstep : ∀ j u xs w, us[j]? = some u → Disk w base f q m xs us → St (j + 1) xs → callU m w (fun e w' => e = .returned (.tuple #[]) ∧ (∃ xs', Disk w' base f q m xs' us ∧ St j xs') ∧ Chg (fun i => i = m) w w') u)
    (h0 : St us.length xs) (d : Disk w base f q m xs us)
    (hst : ∀ ys, St (kp names us.length) ys → ys.length ≤ 1000 ∧ (∀ p ∈ ys, p.1.length ≤ 64) ∧ ∀ ss : List (List UInt8), ss.Perm (ys.map (·.1)) → ss.mergeSort (fun x y => decide (x ≤ y)) = ys.map (·.1))
    (hk : ∀ w', Kp base w w' → intIn w' Pk keeps) (hkr : ∀ x ∈ keeps, -9223372036854775808 ≤ x ∧ x ≤ 9223372036854775807) (hkl : keeps.length ≤ 9223372036854775807) :
    Calls Try.prog 17 #[.pointer (some ⟨f, 0, none⟩), .slice Pk keeps.length Ck, .int .i64 names] w fun e w' => e = .returned (.tuple #[]) ∧ (∃ ys zs, St (kp names us.length) ys ∧ Disk w' base f q m zs [] ∧ zs.map abs = cuts keeps 0 ys) ∧ Kp base w w' := by
  have LN : Hid (Calls Try.prog 54 #[.pointer (some ⟨f, 0, none⟩), .int .i64 names] w fun e w' => e = .returned (.tuple #[]) ∧ (∃ xs', Disk w' base f q m xs' [] ∧ St (kp names us.length) xs') ∧ Kp base w w') := loseNames_ok base f m q names us St xs w hn hus hstep h0 d
  have HT : Hid (∀ ys, St (kp names us.length) ys → ys.length ≤ 1000 ∧ (∀ p ∈ ys, p.1.length ≤ 64) ∧ ∀ ss : List (List UInt8), ss.Perm (ys.map (·.1)) → ss.mergeSort (fun x y => decide (x ≤ y)) = ys.map (·.1)) := hst
  have HK : Hid (∀ w', Kp base w w' → intIn w' Pk keeps) := hk
  have HR : Hid (∀ x ∈ keeps, -9223372036854775808 ≤ x ∧ x ≤ 9223372036854775807) := hkr
  generalize kp names us.length = k at *
  clear hstep h0 d hst hk hkr
  go_enter Try.func17, Try.ntmps17
  go_wp2_with fail
  refine LN.out.mono ?_
  rintro e w1 ⟨rfl, ⟨ys, D1, S1⟩, B1⟩
  obtain ⟨t1, t2, t3⟩ := HT.out ys S1
  have L2 : Hid (Calls Try.prog 55 #[.pointer (some ⟨f, 0, none⟩), .slice Pk keeps.length Ck] w1 fun e w' => e = .returned (.tuple #[]) ∧ (∃ xs', Disk w' base f q m xs' [] ∧ xs'.map abs = cuts keeps 0 ys) ∧ Kp base w1 w') := loseBytes_ok base f m q keeps Pk Ck ys w1 D1 t1 t2 t3 (fun w' hb => HK.out w' (B1.trans hb)) HR.out hkl
  clear t1 t2 t3 D1
  go_wp2_with fail
  refine L2.out.mono ?_
  rintro e w2 ⟨rfl, ⟨zs, D2, E2⟩, B2⟩
  have L3 : Hid (Calls Try.prog 14 #[.pointer (some ⟨f, 0, none⟩), .int .i64 0] w2 fun e w' => e = .returned (.tuple #[]) ∧ Disk w' base f q m zs [] ∧ Kp base w2 w') := Stop_disk base f m q zs [] w2 D2
  clear D2
  go_wp2_with fail
  refine L3.out.mono ?_
  rintro e w3 ⟨rfl, D3, B3⟩
  go_wp2_with fail
  go_end0
  exact ⟨rfl, ⟨ys, zs, S1, D3, E2⟩, B1.trans (B2.trans B3)⟩
end Go.Proofs.Ytdiehlioemmakaa

namespace Go.Proofs.Ytdiehlioemmakaa
open Go.RowKit Go.Maps Go.Joins Go.Sort

def sA : ByteArray := ⟨#[97]⟩
def nA : List UInt8 := [97]
theorem okA : okN sA := by
  refine ⟨by decide, by decide, ?_⟩
  intro k h
  have h : k < 1 := h
  have : k = 0 := by omega
  subst this
  exact ⟨Nat.le_of_ble_eq_true rfl, Nat.le_of_ble_eq_true rfl⟩
theorem conv_own {w : World} {base : Nat} {v : Value} {l : List UInt8} (h : ownsB w base v l) : (convert 27 9 v).run Try.prog w = .ok (.string ⟨l.toArray⟩) w := by
  rcases h.2 with ⟨rfl, h0⟩ | ⟨g, cap, cur, rfl, _, hcur, _⟩
  · obtain rfl : l = [] := List.eq_nil_of_length_eq_zero h0
    rw [run_convert_bytes_string w 27 9 5 none 0 0 u8Slice u8T strT]
    rfl
  · refine run_convert_bytes_back (P := Try.prog) w 27 9 5 ⟨g, 0, none⟩ cap l u8Slice u8T strT (fun j hj => ?_)
    rw [add_plain, Nat.zero_add]
    have := World.ownsRow.cellAt h j (by omega)
    rw [this, by8, List.getElem?_map, List.getElem?_eq_getElem hj]; rfl
theorem lit_in (w : World) (cs : Array Value) (fr : Nat × Nat) (l : List UInt8) (hcs : cs.toList = by8 l) : byIn (w.alloc (.cells cs 5 fr)) (some ⟨w.heap.size, 0, none⟩) l := by
  refine Or.inr ⟨⟨w.heap.size, 0, none⟩, rfl, fun i x hx => ?_⟩
  rw [add_plain, Nat.zero_add, cell_of_block (heap_alloc_new w _) i, ← Array.getElem?_toList, hcs, by8, List.getElem?_map, hx]; rfl
theorem one_of {zs : List (List UInt8 × Fl)} {n l : List UInt8} {k : Nat} (h : zs.map abs = [(n, l, k)]) : ∃ Z : Fl, zs = [(n, Z)] ∧ Z.l = l ∧ Z.k = k := by
  cases zs with
  | nil => cases h
  | cons p t =>
    rw [List.map_cons, List.cons.injEq, List.map_eq_nil_iff] at h
    obtain ⟨h1, rfl⟩ := h
    obtain ⟨n', Z⟩ := p
    simp only [abs, Prod.mk.injEq] at h1
    obtain ⟨rfl, h2, h3⟩ := h1
    exact ⟨Z, rfl, h2, h3⟩
theorem one_sort (n : List UInt8) : ∀ ss : List (List UInt8), ss.Perm [n] → ss.mergeSort (fun x y => decide (x ≤ y)) = [n] := by
  intro ss h
  rw [List.perm_singleton] at h
  subst h; simp

set_option maxHeartbeats 8000000 in
set_option maxRecDepth 1000000 in
theorem lives_any (w : World) : Calls Try.prog 12 #[] w fun e w' => e = .returned (.bool true) ∧ Below w.heap.size w w' := by
  obtain ⟨F, hF⟩ : ∃ F, F = w.heap.size := ⟨_, rfl⟩
  have NE : Hid (Calls Try.prog 25 #[.int .i64 100] w fun e w' => e = .returned (.tuple #[.pointer (some ⟨F, 0, none⟩), .int .i64 0]) ∧ FsAt w' F 100 none (.slice none 0 0) 0 ∧ Below F w w' ∧ w'.heap.size = F + 1) := by rw [hF]; exact New_ok 100 w (by omega) (by omega)
  have hFw : F ≤ w.heap.size := by omega
  rw [← hF]
  clear hF
  go_enter Try.func12, Try.ntmps12
  go_wp2_with fail
  refine NE.out.mono ?_
  rintro e w1 ⟨rfl, F1, B1, s1⟩
  have CR : Hid (Calls Try.prog 29 #[.pointer (some ⟨F, 0, none⟩), .string ⟨#[97]⟩] w1 fun e w' => e = .returned (.int .i64 0) ∧ ∃ m b c, Disk w' F F 100 m [(nA, ⟨b, .slice none 0 0, [], 0⟩)] [.cr c sA] ∧ Below F w1 w') := Create_nil F F 100 sA w1 F1 (Nat.le_refl _) (by omega) okA
  clear F1 s1
  go_wp2_with fail
  refine CR.out.mono ?_
  rintro e w2 ⟨rfl, m, b, c, D2, B2⟩
  have g2 := World.grownBy_alloc w2 (.cells #[.int .u8 120, .int .u8 121, .int .u8 122] 5 (3, 4)) none
  have AP : Hid (Calls Try.prog 22 #[.pointer (some ⟨F, 0, none⟩), .string ⟨#[97]⟩, .slice (some ⟨w2.heap.size, 0, none⟩) 3 3] (w2.alloc (.cells #[.int .u8 120, .int .u8 121, .int .u8 122] 5 (3, 4))) fun e w' => e = .returned (.int .i64 0) ∧ ∃ v', Disk w' F F 100 m [(nA, ⟨b, v', [120, 121, 122], 0⟩)] [.cr c sA] ∧ Below F (w2.alloc (.cells #[.int .u8 120, .int .u8 121, .int .u8 122] 5 (3, 4))) w') := Append_ok F F m 100 sA ⟨b, .slice none 0 0, [], 0⟩ [] [] [.cr c sA] [120, 121, 122] (some ⟨w2.heap.size, 0, none⟩) 3 _ (D2.kept g2) okA (lit_in w2 _ _ _ rfl) (fun e => by cases e) (by show ((0 : Nat) : Int) + ((3 : Nat) : Int) ≤ 100; omega) (by omega)
  have B2' : Below F w (w2.alloc (.cells #[.int .u8 120, .int .u8 121, .int .u8 122] 5 (3, 4))) := (B1.trans B2).alloc D2.bs _
  clear B1 B2 g2 D2
  have cv : (convert 27 27 (.slice (some ⟨w2.heap.size, 0, none⟩) 3 3)).run Try.prog (w2.alloc (.cells #[.int .u8 120, .int .u8 121, .int .u8 122] 5)) = .ok (.slice (some ⟨w2.heap.size, 0, none⟩) 3 3) (w2.alloc (.cells #[.int .u8 120, .int .u8 121, .int .u8 122] 5 (3, 4))) := run_convert_bytes_const_at w2 27 5 _ 3 3 w2.heap.size rfl u8Slice u8T
  go_wp2_with fail
  refine AP.out.mono ?_
  rintro e w3 ⟨rfl, v3, D3, B3⟩
  have B3' := B2'.trans B3
  have SY : Hid (Calls Try.prog 23 #[.pointer (some ⟨F, 0, none⟩), .string ⟨#[97]⟩] w3 fun e w' => e = .returned (.int .i64 0) ∧ Disk w' F F 100 m [(nA, ⟨b, v3, [120, 121, 122], 3⟩)] [.cr c sA] ∧ Below F w3 w') := Sync_ok F F m 100 sA ⟨b, v3, [120, 121, 122], 0⟩ [] [] [.cr c sA] w3 D3 okA
  clear B3 B2' D3
  go_wp2_with fail
  refine SY.out.mono ?_
  rintro e w4 ⟨rfl, D4, B4⟩
  have g4 := World.grownBy_alloc w4 (.cells #[.int .u8 117, .int .u8 118] 5 (2, 3)) none
  have AQ : Hid (Calls Try.prog 22 #[.pointer (some ⟨F, 0, none⟩), .string ⟨#[97]⟩, .slice (some ⟨w4.heap.size, 0, none⟩) 2 2] (w4.alloc (.cells #[.int .u8 117, .int .u8 118] 5 (2, 3))) fun e w' => e = .returned (.int .i64 0) ∧ ∃ v', Disk w' F F 100 m [(nA, ⟨b, v', [120, 121, 122, 117, 118], 3⟩)] [.cr c sA] ∧ Below F (w4.alloc (.cells #[.int .u8 117, .int .u8 118] 5 (2, 3))) w') := Append_ok F F m 100 sA ⟨b, v3, [120, 121, 122], 3⟩ [] [] [.cr c sA] [117, 118] (some ⟨w4.heap.size, 0, none⟩) 2 _ (D4.kept g4) okA (lit_in w4 _ _ _ rfl) (fun e => by cases e) (by show ((3 : Nat) : Int) + ((2 : Nat) : Int) ≤ 100; omega) (by omega)
  have B4' : Below F w (w4.alloc (.cells #[.int .u8 117, .int .u8 118] 5 (2, 3))) := (B3'.trans B4).alloc D4.bs _
  clear B4 B3' g4 D4
  have cv : (convert 27 27 (.slice (some ⟨w4.heap.size, 0, none⟩) 2 2)).run Try.prog (w4.alloc (.cells #[.int .u8 117, .int .u8 118] 5)) = .ok (.slice (some ⟨w4.heap.size, 0, none⟩) 2 2) (w4.alloc (.cells #[.int .u8 117, .int .u8 118] 5 (2, 3))) := run_convert_bytes_const_at w4 27 5 _ 2 2 w4.heap.size rfl u8Slice u8T
  go_wp2_with fail
  refine AQ.out.mono ?_
  rintro e w5 ⟨rfl, v5, D5, B5⟩
  have B5' := B4'.trans B5
  have SN : Hid (Calls Try.prog 15 #[.pointer (some ⟨F, 0, none⟩)] w5 fun e w' => e = .returned (.int .i64 0) ∧ Disk w' F F 100 m [(nA, ⟨b, v5, [120, 121, 122, 117, 118], 3⟩)] [] ∧ Below F w5 w') := SyncNames_disk F F m 100 _ _ w5 D5
  clear B5 B4' D5
  go_wp2_with fail
  refine SN.out.mono ?_
  rintro e w6 ⟨rfl, D6, B6⟩
  have g6 := World.grownBy_alloc w6 (.cells #[.int .i64 1] 3) none
  have hk6 : (w6.alloc (.cells #[.int .i64 1] 3)).heap[w6.heap.size]? = some (.cells #[.int .i64 1] 3 (0, 0)) := heap_alloc_new _ _
  have CRS : Hid (Calls Try.prog 17 #[.pointer (some ⟨F, 0, none⟩), .slice (some ⟨w6.heap.size, 0, none⟩) 1 1, .int .i64 0] (w6.alloc (.cells #[.int .i64 1] 3)) fun e w' => e = .returned (.tuple #[]) ∧ (∃ ys zs, ys = [(nA, (⟨b, v5, [120, 121, 122, 117, 118], 3⟩ : Fl))] ∧ Disk w' F F 100 m zs [] ∧ zs.map abs = cuts [1] 0 ys) ∧ Kp F (w6.alloc (.cells #[.int .i64 1] 3)) w') := by
    refine Crash_ok F F m 100 0 [1] (some ⟨w6.heap.size, 0, none⟩) 1 [] (fun _ ys => ys = [(nA, (⟨b, v5, [120, 121, 122, 117, 118], 3⟩ : Fl))]) _ _ ⟨by omega, by omega⟩ (by simp) (fun j u xs w h => by simp at h) rfl (D6.kept g6) (fun ys h => ?_) (fun w' hb => ?_) (fun x hx => ?_) (by simp)
    · subst h
      exact ⟨by simp, fun p hp => by rw [List.mem_singleton] at hp; subst hp; show (1 : Nat) ≤ 64; omega, one_sort nA⟩
    · refine Or.inr ⟨w6.heap.size, 0, rfl, fun i x hx => ?_⟩
      have hi := (List.getElem?_eq_some_iff.1 hx).1
      have h0 : i = 0 := by simp at hi; exact hi
      subst h0
      simp at hx; subst hx
      exact (cell_of_block (hb.2 _ _ _ hk6) 0).trans rfl
    · simp at hx; subst hx; omega
  have B6' : Below F w (w6.alloc (.cells #[.int .i64 1] 3)) := (B5'.trans B6).alloc D6.bs _
  clear B6 B5' g6 D6 hk6
  go_wp2_with fail
  refine CRS.out.mono ?_
  rintro e w7 ⟨rfl, ⟨ys, zs, hys, D7, E7⟩, B7⟩
  have B7' := B6'.trans B7.1
  obtain ⟨Z, hZ, hZl⟩ : ∃ Z : Fl, zs = [(nA, Z)] ∧ Z.l = [120, 121, 122, 117] := by
    rw [hys] at E7
    have e : cuts [1] 0 [(nA, (⟨b, v5, [120, 121, 122, 117, 118], 3⟩ : Fl))] = [(nA, [120, 121, 122, 117], 4)] := rfl
    rw [e] at E7
    obtain ⟨Z, h1, h2, _⟩ := one_of E7
    exact ⟨Z, h1, h2⟩
  subst hZ
  have RD : Hid (Calls Try.prog 43 #[.pointer (some ⟨F, 0, none⟩), .string ⟨#[97]⟩] w7 fun e w' => ∃ v', e = .returned (.tuple #[v', .int .i64 0]) ∧ ownsB w' w7.heap.size v' Z.l ∧ w7.grownBy w' none) := Read_ok F F m 100 sA Z [] [] [] w7 D7 okA
  rw [hZl] at RD
  have b7 := D7.bs
  clear E7 hys D7 B7 B6' hZl
  go_wp2_with fail
  refine RD.out.mono ?_
  rintro e w8 ⟨v8, rfl, ho8, hg8⟩
  have cs8 := conv_own ho8
  go_wp2_with fail
  go_ret
  exact ⟨by first | rfl | decide, B7'.trans (below_own hg8 b7 (fun g e => by cases e))⟩
end Go.Proofs.Ytdiehlioemmakaa

namespace Go.Proofs.Ytdiehlioemmakaa
open Go.RowKit Go.Maps Go.Joins Go.Sort

theorem byIn.below {w w' : World} {P : Option Addr} {l : List UInt8} (h : byIn w P l) (hb : Below w.heap.size w w') : byIn w' P l := by
  rcases h with h | ⟨a, e, hc⟩
  · exact Or.inl h
  · exact Or.inr ⟨a, e, fun i x hx => (hb.cell (p := a.add i) (World.block_lt_of_cell? w (a.add i) (hc i x hx))).trans (hc i x hx)⟩
theorem intIn.below {w w' : World} {P : Option Addr} {l : List Int} (h : intIn w P l) (hb : Below w.heap.size w w') : intIn w' P l := by
  rcases h with h | ⟨g, off, e, hc⟩
  · exact Or.inl h
  · exact Or.inr ⟨g, off, e, fun i x hx => (hb.cell (p := ⟨g, off + i, none⟩) (World.block_lt_of_cell? w ⟨g, off + i, none⟩ (hc i x hx))).trans (hc i x hx)⟩
theorem conv_by {w : World} {P : Option Addr} {l : List UInt8} {C : Nat} (h : byIn w P l) (hC : P = none → C = 0) : (convert 27 9 (.slice P l.length C)).run Try.prog w = .ok (.string ⟨l.toArray⟩) w := by
  rcases h with ⟨rfl, rfl⟩ | ⟨a, rfl, hc⟩
  · obtain rfl := hC rfl
    exact conv_own (ownsB_nil w 0)
  · refine run_convert_bytes_back (P := Try.prog) w 27 9 5 a C l u8Slice u8T strT (fun j hj => ?_)
    exact hc j _ (List.getElem?_eq_getElem hj)
end Go.Proofs.Ytdiehlioemmakaa

namespace Go.Proofs.Ytdiehlioemmakaa
open Go.ChangeShapes Go.WideShapes Go.ChangeAt Go.RowKit Go.Lib Go.Joins Go.Deep

set_option maxRecDepth 100000
theorem laidOut' : laidOutB Try.prog = true := by kernel_rfl
theorem cellsU8 : Try.prog.cellsOf 5 = 1 := by kernel_rfl
theorem cellsI : Try.prog.cellsOf 3 = 1 := by kernel_rfl
/-- what came in reads as before where all that lay there is as it was -/
theorem all_stay {H : Type} {enc : TypeId × Value → H} {W W' : World} (hb : Below W.heap.size W W') : ∀ {ts : List TypeId} {vs : List Value} {ds : List (DataW H)} {ps : List MemPlace}, (∀ t ∈ ts, Try.prog.readableRec t = true ∧ t < Try.prog.types.size) →
    (∀ p ∈ ps, p.block < W.heap.size) → DataW.TrodAll enc Try.prog W 0 (fun _ => true) true ts vs ds ps → DataW.TrodAll enc Try.prog W' 0 (fun b => decide (b < W.heap.size)) true ts vs ds ps
  | [], [], [], _, _, _, h => h
  | t :: ts, v :: vs, d :: ds, ps, ht, hp, ⟨p, q, h1, h2, e⟩ => by
    subst e
    refine ⟨p, q, WideElems.Trod_stays laidOut' (ht t List.mem_cons_self).1 (ht t List.mem_cons_self).2 h1 (fun x hx => hb.same (hp x (List.mem_append_left _ hx))) (fun x hx => by simpa using hp x (List.mem_append_left _ hx)), ?_, rfl⟩
    exact all_stay hb (fun t h => ht t (List.mem_cons_of_mem _ h)) (fun x hx => hp x (List.mem_append_right _ hx)) h2
  | [], _ :: _, _, _, _, _, h => h.elim
  | [], [], _ :: _, _, _, _, h => h.elim
  | _ :: _, [], _, _, _, _, h => h.elim
  | _ :: _, _ :: _, [], _, _, _, h => h.elim
end Go.Proofs.Ytdiehlioemmakaa

namespace Go.Proofs.Ytdiehlioemmakaa
open Go.RowKit

/-- names with the numbers of their files -/
abbrev Ws := List (List UInt8 × Nat)
/-- the document's disk -/
structure St where
  q : Int
  fs : List (List UInt8 × Nat)
  ways : List Ws
  left : Int
  dead : Bool
/-- a name can be -/
def nmOk (l : List UInt8) : Bool := decide (1 ≤ l.length) && decide (l.length ≤ 64) && l.all fun b => decide (33 ≤ b.toNat) && decide (b.toNat ≤ 126)
/-- the file of a name; below 0: none -/
def fnd (s : List UInt8) : Ws → Int
  | [] => -1
  | p :: r => if p.1 = s then (p.2 : Int) else fnd s r
/-- names with one that stands for a file (below 0: for none) -/
def wth (s : List UInt8) (k : Int) : Bool → Ws → Ws
  | put, [] => if put then [] else [(s, k.toNat)]
  | put, p :: r => (if !put && !Op.bytesLess p.1 s then [(s, k.toNat)] else []) ++ ((if p.1 = s then [] else [p]) ++ wth s k (put || !Op.bytesLess p.1 s) r)
/-- how many bytes the files of names have -/
def usd (fs : List (List UInt8 × Nat)) : Ws → Nat
  | [] => 0
  | p :: r => (fs.getD p.2 ([], 0)).1.length + usd fs r
/-- a change that would be done -/
def stp (s : St) : St × Bool :=
  if s.dead = true then (s, true) else if s.left = 1 then ({ s with dead := true }, true) else if 1 < s.left then ({ s with left := s.left - 1 }, false) else (s, false)
def St.now (s : St) : Ws := s.ways.getLastD []

/-- cells of a slice of elements of one cell, not in a block -/
def rd1 (F : Nat → Prop) (w : World) (f : Nat) (v : Value) (us : List Value) : Prop := ∃ (p : Option Addr) (c : Nat), v = .slice p us.length c ∧ us.length ≤ c ∧ c ≤ 9223372036854775807 ∧ (p = none → c = 0) ∧ (us = [] ∨ ∃ g o, p = some ⟨g, o, none⟩ ∧ (g ≠ f ∧ ¬ F g) ∧ ∀ i u, us[i]? = some u → w.cell? ⟨g, o + i, none⟩ = some u)
/-- and of elements of two cells -/
def rd2 (F : Nat → Prop) (w : World) (f : Nat) (v : Value) (us : List (Value × Value)) : Prop := ∃ (p : Option Addr) (c : Nat), v = .slice p us.length c ∧ us.length ≤ c ∧ c ≤ 9223372036854775807 ∧ (p = none → c = 0) ∧ (us = [] ∨ ∃ g o, p = some ⟨g, o, none⟩ ∧ (g ≠ f ∧ ¬ F g) ∧ ∀ i u, us[i]? = some u → w.cell? ⟨g, o + i * 2, none⟩ = some u.1 ∧ w.cell? ⟨g, o + i * 2 + 1, none⟩ = some u.2)
def strV (l : List UInt8) : Value := .string ⟨l.toArray⟩
def intV (n : Nat) : Value := .int .i64 (n : Int)
/-- a file's two cells -/
def fileIn (F : Nat → Prop) (w : World) (f : Nat) (u : Value × Value) (x : List UInt8 × Nat) : Prop := u.2 = intV x.2 ∧ rd1 F w f u.1 (by8 x.1)
/-- a way's two cells -/
def wayIn (F : Nat → Prop) (w : World) (f : Nat) (u : Value × Value) (x : Ws) : Prop := rd1 F w f u.1 (x.map fun p => strV p.1) ∧ rd1 F w f u.2 (x.map fun p => intV p.2)
/-- a list of them -/
def listIn {α : Type} (F : Nat → Prop) (R : World → Nat → Value × Value → α → Prop) (w : World) (f : Nat) (v : Value) (l : List α) : Prop := ∃ us : List (Value × Value), us.length = l.length ∧ rd2 F w f v us ∧ ∀ (i : Nat) (u : Value × Value) (x : α), us[i]? = some u → l[i]? = some x → R w f u x
/-- the document's disk in memory -/
structure Rf (F : Nat → Prop) (w : World) (f : Nat) (s : St) : Prop where
  fs : ∃ vF vW, w.heap[f]? = some (.cells #[.int .i64 s.q, vF, vW, .int .i64 s.left, .bool s.dead] 76 (0, 0)) ∧ listIn F (fileIn F) w f vF s.fs ∧ listIn F (wayIn F) w f vW s.ways
  ne : s.ways ≠ []
  fb : ∀ i, F i → i < w.heap.size
/-- nothing but one block has changed -/
def Keep (f : Nat) (w w' : World) : Prop := Chg (fun i => i = f) w w'
theorem Keep.cell {F : Nat → Prop} {f : Nat} {w w' : World} (h : Keep f w w') {g o : Nat} {u : Value} (hg : g ≠ f ∧ ¬ F g) (hc : w.cell? ⟨g, o, none⟩ = some u) : w'.cell? ⟨g, o, none⟩ = some u := by
  have hl := World.block_lt_of_cell? w _ hc
  have := h.block g hl hg.1
  unfold World.cell? at hc ⊢
  simp only at hc hl this ⊢
  rw [this]; exact hc
theorem rd1.kept {F : Nat → Prop} {f : Nat} {w w' : World} {v : Value} {us : List Value} (h : rd1 F w f v us) (hk : Keep f w w') : rd1 F w' f v us := by
  obtain ⟨p, c, h1, h2, h3, h4, h5⟩ := h
  refine ⟨p, c, h1, h2, h3, h4, ?_⟩
  rcases h5 with h5 | ⟨g, o, e, hg, h5⟩
  · exact Or.inl h5
  · exact Or.inr ⟨g, o, e, hg, fun i u hi => hk.cell hg (h5 i u hi)⟩
theorem rd2.kept {F : Nat → Prop} {f : Nat} {w w' : World} {v : Value} {us : List (Value × Value)} (h : rd2 F w f v us) (hk : Keep f w w') : rd2 F w' f v us := by
  obtain ⟨p, c, h1, h2, h3, h4, h5⟩ := h
  refine ⟨p, c, h1, h2, h3, h4, ?_⟩
  rcases h5 with h5 | ⟨g, o, e, hg, h5⟩
  · exact Or.inl h5
  · exact Or.inr ⟨g, o, e, hg, fun i u hi => ⟨hk.cell hg (h5 i u hi).1, hk.cell hg (h5 i u hi).2⟩⟩
theorem fileIn.kept {F : Nat → Prop} {f : Nat} {w w' : World} {u : Value × Value} {x : List UInt8 × Nat} (h : fileIn F w f u x) (hk : Keep f w w') : fileIn F w' f u x := ⟨h.1, h.2.kept hk⟩
theorem wayIn.kept {F : Nat → Prop} {f : Nat} {w w' : World} {u : Value × Value} {x : Ws} (h : wayIn F w f u x) (hk : Keep f w w') : wayIn F w' f u x := ⟨h.1.kept hk, h.2.kept hk⟩
theorem listIn.kept {α : Type} {F : Nat → Prop} {R : World → Nat → Value × Value → α → Prop} (hR : ∀ {f : Nat} {w w' : World} {u : Value × Value} {x : α}, R w f u x → Keep f w w' → R w' f u x) {f : Nat} {w w' : World} {v : Value} {l : List α} (h : listIn F R w f v l) (hk : Keep f w w') : listIn F R w' f v l := by
  obtain ⟨us, h1, h2, h3⟩ := h
  exact ⟨us, h1, h2.kept hk, fun i u x hu hx => hR (h3 i u x hu hx) hk⟩
theorem Keep.refl (f : Nat) (w : World) : Keep f w w := Chg.refl _ w
theorem Keep.trans {f : Nat} {a b c : World} (h : Keep f a b) (k : Keep f b c) : Keep f a c := Chg.trans h k
theorem Keep.alloc {f : Nat} {w : World} (o : Obj) : Keep f w (w.alloc o) := Chg.of_alloc w o _
theorem Keep.grown {f : Nat} {w w' : World} (h : w.grownBy w' none) : Keep f w w' := Chg.of_none h _
end Go.Proofs.Ytdiehlioemmakaa

namespace Go.Proofs.Ytdiehlioemmakaa
open Go.RowKit

theorem size_mkE (l : List UInt8) : (ByteArray.mk l.toArray).size = l.length := by simp [ByteArray.size]
theorem get_mkE {l : List UInt8} {k : Nat} {x : UInt8} (h : l[k]? = some x) : ∃ hk : k < (ByteArray.mk l.toArray).size, (ByteArray.mk l.toArray)[k]'hk = x := by
  have hl := (List.getElem?_eq_some_iff.1 h).1
  refine ⟨by rw [size_mkE]; exact hl, ?_⟩
  have e := (List.getElem?_eq_some_iff.1 h).2
  show (l.toArray)[k] = x
  rw [List.getElem_toArray]; exact e
def chOk (b : UInt8) : Bool := decide (33 ≤ b.toNat) && decide (b.toNat ≤ 126)
theorem nmOk_eq (l : List UInt8) : nmOk l = (decide (1 ≤ l.length) && decide (l.length ≤ 64) && l.all chOk) := rfl
theorem all_nextE {l : List UInt8} {k : Nat} {x : UInt8} (h : l[k]? = some x) : (l.take (k + 1)).all chOk = ((l.take k).all chOk && chOk x) := by
  rw [List.take_add_one, h, List.all_append]; simp
theorem all_badE {l : List UInt8} {k : Nat} {x : UInt8} (h : l[k]? = some x) (hx : chOk x = false) : l.all chOk = false := by
  cases e : l.all chOk
  · rfl
  · rw [List.all_eq_true.1 e x (List.mem_of_getElem? h)] at hx; cases hx
set_option maxHeartbeats 2000000 in
set_option maxRecDepth 1000000 in
theorem refName_any (l : List UInt8) (w : World) : Calls Try.prog 64 #[.string ⟨l.toArray⟩] w fun e w' => e = .returned (.bool (nmOk l)) ∧ w' = w := by
  have hz := size_mkE l
  obtain ⟨B, hB⟩ : ∃ B, B = nmOk l := ⟨_, rfl⟩
  rw [← hB]
  rw [nmOk_eq] at hB
  have HB : Hid (B = (decide (1 ≤ l.length) && decide (l.length ≤ 64) && l.all chOk)) := hB
  clear hB
  by_cases h1 : l.length < 1
  · have hE : B = false := by rw [HB.out, decide_eq_false (by omega)]; rfl
    subst hE
    have h1i : (l.length : Int) < 1 := by omega
    clear HB
    go_enter Try.func64, Try.ntmps64
    go_wp2_with fail
    go_ret
    exact ⟨rfl, rfl⟩
  have h1i : ¬ (l.length : Int) < 1 := by omega
  by_cases h2 : 64 < l.length
  · have hE : B = false := by rw [HB.out, decide_eq_false (p := l.length ≤ 64) (by omega), Bool.and_false]; rfl
    subst hE
    have h2i : (64 : Int) < (l.length : Int) := by omega
    clear HB
    go_enter Try.func64, Try.ntmps64
    go_wp2_with fail
    go_ret
    exact ⟨rfl, rfl⟩
  have h2i : ¬ (64 : Int) < (l.length : Int) := by omega
  have HB2 : Hid (B = l.all chOk) := by show B = _; rw [HB.out, decide_eq_true (by omega), decide_eq_true (p := l.length ≤ 64) (by omega)]; rfl
  clear HB
  go_enter Try.func64, Try.ntmps64
  go_wp2_with fail
  go_loopw [3] (fun s3 wr => ∃ (k : Nat), s3 = .int .i64 k ∧ k ≤ l.length ∧ Hid ((l.take k).all chOk = true) ∧ wr = w) (fun s3 _ => l.length - (intOf s3).toNat)
  case atStart => exact ⟨0, rfl, Nat.zero_le _, rfl, rfl⟩
  case round =>
    obtain ⟨k, rfl, hk, hn, rfl⟩ := hrel
    by_cases hlt : k < l.length
    · obtain ⟨x, hx⟩ : ∃ x, l[k]? = some x := ⟨l[k], List.getElem?_eq_getElem hlt⟩
      have hgx := get_mkE hx
      obtain ⟨hgl, hgx⟩ := hgx
      have hlti : (k : Int) < (l.length : Int) := by omega
      by_cases c1 : x.toNat < 33
      · have hc : chOk x = false := by unfold chOk; rw [decide_eq_false (by omega)]; rfl
        have hE : B = false := by rw [HB2.out]; exact all_badE hx hc
        subst hE
        have c1i : (x.toNat : Int) < 33 := by omega
        clear HB2 hn hx hc
        go_wp2_with fail
        go_ret
        exact ⟨rfl, rfl⟩
      have c1i : ¬ (x.toNat : Int) < 33 := by omega
      by_cases c2 : 126 < x.toNat
      · have hc : chOk x = false := by unfold chOk; rw [decide_eq_false (p := x.toNat ≤ 126) (by omega), Bool.and_false]
        have hE : B = false := by rw [HB2.out]; exact all_badE hx hc
        subst hE
        have c2i : (126 : Int) < (x.toNat : Int) := by omega
        clear HB2 hn hx hc
        go_wp2_with fail
        go_ret
        exact ⟨rfl, rfl⟩
      have c2i : ¬ (126 : Int) < (x.toNat : Int) := by omega
      have hn2 : Hid ((l.take (k + 1)).all chOk = true) := by
        show _ = _
        rw [all_nextE hx, hn.out]
        unfold chOk
        rw [decide_eq_true (p := 33 ≤ x.toNat) (by omega), decide_eq_true (p := x.toNat ≤ 126) (by omega)]; rfl
      clear hn hx
      go_wp2_with fail
      go_roundw
      case rel => exact ⟨k + 1, by go_num, hlt, hn2, by trivial⟩
      case measure => simp [intOf]; omega
    · have hlti : ¬ (k : Int) < (l.length : Int) := by omega
      have hE : B = true := by
        rw [HB2.out]
        have := hn.out
        rw [List.take_of_length_le (by omega)] at this
        exact this
      subst hE
      clear HB2 hn
      go_wp2_with fail
      go_ret
      exact ⟨rfl, rfl⟩
/-- the block of the document's disk -/
def RB (w : World) (f : Nat) (q left : Int) (vF vW : Value) (dead : Bool) : Prop := w.heap[f]? = some (.cells #[.int .i64 q, vF, vW, .int .i64 left, .bool dead] 76 (0, 0))
theorem RB.c {w : World} {f : Nat} {q left : Int} {vF vW : Value} {dead : Bool} (h : RB w f q left vF vW dead) : w.cell? ⟨f, 0, none⟩ = some (.int .i64 q) ∧ w.cell? ⟨f, 1, none⟩ = some vF ∧ w.cell? ⟨f, 2, none⟩ = some vW ∧ w.cell? ⟨f, 3, none⟩ = some (.int .i64 left) ∧ w.cell? ⟨f, 4, none⟩ = some (.bool dead) ∧ (∀ i, w.frozen? ⟨f, i, none⟩ = false) :=
  ⟨(Joins.cell_of_block h 0).trans rfl, (Joins.cell_of_block h 1).trans rfl, (Joins.cell_of_block h 2).trans rfl, (Joins.cell_of_block h 3).trans rfl, (Joins.cell_of_block h 4).trans rfl, fun i => Joins.unfrozen_of_block h i⟩
theorem RB.set {w : World} {f : Nat} {q left : Int} {vF vW : Value} {dead : Bool} (h : RB w f q left vF vW dead) : (∀ n : Int, RB (w.setCell ⟨f, 3, none⟩ (.int .i64 n)) f q n vF vW dead) ∧ (∀ b : Bool, RB (w.setCell ⟨f, 4, none⟩ (.bool b)) f q left vF vW b) ∧ (∀ v, RB (w.setCell ⟨f, 1, none⟩ v) f q left v vW dead) ∧ (∀ v, RB (w.setCell ⟨f, 2, none⟩ v) f q left vF v dead) := by
  refine ⟨fun n => ?_, fun b => ?_, fun v => ?_, fun v => ?_⟩
  · exact (heap_setCell_same w f 3 _ _ _ h).trans rfl
  · exact (heap_setCell_same w f 4 _ _ _ h).trans rfl
  · exact (heap_setCell_same w f 1 _ _ _ h).trans rfl
  · exact (heap_setCell_same w f 2 _ _ _ h).trans rfl
theorem Keep.set (w : World) (f i : Nat) (v : Value) : Keep f w (w.setCell ⟨f, i, none⟩ v) := Chg.of_cell w ⟨f, i, none⟩ v
set_option maxHeartbeats 2000000 in
set_option maxRecDepth 1000000 in
theorem stops_any (f : Nat) (q left : Int) (vF vW : Value) (dead : Bool) (w : World) (hl : -9223372036854775808 ≤ left ∧ left ≤ 9223372036854775807) (h : RB w f q left vF vW dead) :
    Calls Try.prog 67 #[.pointer (some ⟨f, 0, none⟩)] w fun e w' => e = .returned (.bool (stp ⟨q, [], [], left, dead⟩).2) ∧ RB w' f q (stp ⟨q, [], [], left, dead⟩).1.left vF vW (stp ⟨q, [], [], left, dead⟩).1.dead ∧ Keep f w w' := by
  obtain ⟨c0, c1, c2, c3, c4, fr⟩ := h.c
  obtain ⟨s3, s4, _, _⟩ := h.set
  have f3 := fr 3
  have f4 := fr 4
  have K0 : Hid (∀ i v, Keep f w (w.setCell ⟨f, i, none⟩ v)) := fun i v => Keep.set w f i v
  have H0 : Hid (RB w f q left vF vW dead) := h
  have S3 : Hid (∀ n : Int, RB (w.setCell ⟨f, 3, none⟩ (.int .i64 n)) f q n vF vW dead) := s3
  have S4 : Hid (∀ b : Bool, RB (w.setCell ⟨f, 4, none⟩ (.bool b)) f q left vF vW b) := s4
  have hw := (World.block_lt_of_cell? w _ c0)
  clear h s3 s4 fr
  cases dead with
  | true =>
    have e : stp ⟨q, [], [], left, true⟩ = (⟨q, [], [], left, true⟩, true) := rfl
    rw [e]
    go_enter Try.func67, Try.ntmps67
    go_wp2_with fail
    go_ret
    exact ⟨rfl, H0.out, Keep.refl _ _⟩
  | false =>
    by_cases h1 : left = 1
    · subst h1
      have e : stp ⟨q, [], [], 1, false⟩ = (⟨q, [], [], 1, true⟩, true) := rfl
      rw [e]
      have k4 := (S4.out true).c.2.2.2.2.1
      go_enter Try.func67, Try.ntmps67
      go_wp2_with fail
      go_ret
      exact ⟨rfl, S4.out true, K0.out _ _⟩
    · have b1 : (left == 1) = false := by rw [beq_eq_false_iff_ne]; exact h1
      by_cases h2 : 1 < left
      · have e : stp ⟨q, [], [], left, false⟩ = (⟨q, [], [], left - 1, false⟩, false) := by unfold stp; simp [h1, h2]
        rw [e]
        have hr : -9223372036854775808 ≤ left - 1 ∧ left - 1 ≤ 9223372036854775807 := by omega
        have k4 := (S3.out (left - 1)).c.2.2.2.2.1
        clear e h1
        go_enter Try.func67, Try.ntmps67
        go_wp2_with fail
        go_ret
        exact ⟨rfl, S3.out _, K0.out _ _⟩
      · have e : stp ⟨q, [], [], left, false⟩ = (⟨q, [], [], left, false⟩, false) := by unfold stp; simp [h1, h2]
        rw [e]
        clear e h1
        go_enter Try.func67, Try.ntmps67
        go_wp2_with fail
        go_ret
        exact ⟨rfl, H0.out, Keep.refl _ _⟩
end Go.Proofs.Ytdiehlioemmakaa

