/-
  The walk of simfs's Crash on any disk.
-/
import Derived.Test.YtdiehlioemmakaaGdMx
namespace Go.Proofs.Ytdiehlioemmakaa
open Go.RowKit Go.Maps Go.Joins Go.Sort

def cutA (keeps : List Int) (t : Nat) (x : List UInt8 × Nat) : Nat := x.2 + (if keeps = [] then 0 else kp (keeps.getD (t % keeps.length) 0) (x.1.length - x.2))
/-- what a crash leaves of the files -/
def cutsA (keeps : List Int) : Nat → List (List UInt8 × (List UInt8 × Nat)) → List (List UInt8 × (List UInt8 × Nat))
  | _, [] => []
  | t, p :: r => if p.2.2 = p.2.1.length then p :: cutsA keeps t r else (p.1, (p.2.1.take (cutA keeps t p.2), cutA keeps t p.2)) :: cutsA keeps (t + 1) r
theorem cuts_abs (keeps : List Int) : ∀ (t : Nat) (xs : List (List UInt8 × Fl)), cuts keeps t xs = cutsA keeps t (absX xs)
  | _, [] => rfl
  | t, p :: r => by
    show (if p.2.k = p.2.l.length then _ else _) = (if p.2.k = p.2.l.length then _ else _)
    rw [cuts_abs keeps t r, cuts_abs keeps (t + 1) r]; rfl
set_option maxHeartbeats 8000000 in
set_option maxRecDepth 1000000 in
theorem loseBytes_any {P : Nat → Prop} (base f : Nat) (q st : Int) (mo : Option Nat) (xs : List (List UInt8 × Fl)) (us : List Ux) (keeps : List Int) (Pk : Option Addr) (Ck : Nat) (w : World) (hl : xs.length ≤ 1000) (hnm : ∀ p ∈ xs, p.1.length ≤ 64) (so : SrtN xs) (hk : ∀ w', Chg P w w' → intIn w' Pk keeps) (hkr : ∀ x ∈ keeps, -9223372036854775808 ≤ x ∧ x ≤ 9223372036854775807) (hkl : keeps.length ≤ 9223372036854775807) (hus : us = []) (d : Dsk P w base f q st mo xs us) :
    Calls Try.prog 55 #[.pointer (some ⟨f, 0, none⟩), .slice Pk keeps.length Ck] w fun e w' => e = .returned (.tuple #[]) ∧ (∃ xs', absX xs' = cutsA keeps 0 (absX xs) ∧ Dsk P w' base f q st mo xs' []) ∧ Chg P w w' := by
  subst hus
  cases mo with
  | some m =>
    refine (loseBytes_go base f m q st keeps Pk Ck xs w d so hl hnm hk hkr hkl).mono ?_
    rintro e w' ⟨rfl, ⟨xs', d', e'⟩, c'⟩
    exact ⟨rfl, ⟨xs', by rw [← cuts_abs]; exact e', d'⟩, c'⟩
  | none =>
    obtain ⟨rfl, _⟩ := d.mn rfl
    have LS := mkHid (List_any base f q st none [] [] w so (by simp) d)
    have D := mkHid d
    clear d so hk hkr hnm hl
    go_enter Try.func55, Try.ntmps55
    go_wp2_with fail
    refine LS.out.mono ?_
    rintro e w1 ⟨v1, rfl, ho1, hg1⟩
    obtain ⟨P1, C1, rfl⟩ := row_form ho1
    have D1 := mkHid (D.out.kept hg1)
    have B1 := mkHid (Chg.of_none hg1 P)
    clear ho1 hg1
    simp only [List.length_nil]
    go_wp2_with fail
    go_loopw [4, 6, 7, 8, 12] (fun s4 _ _ _ s12 wr => s4 = .int .i64 0 ∧ s12 = .int .i64 0 ∧ wr = w1) (fun _ _ _ _ _ _ => 0)
    case atStart => exact ⟨rfl, rfl, rfl⟩
    case round =>
      obtain ⟨rfl, rfl, hwr⟩ := hrel
      have hwr2 := hwr.symm; subst hwr2; clear hwr
      go_wp2_with fail
      go_end0
      exact ⟨rfl, ⟨[], rfl, D1.out⟩, B1.out⟩
set_option maxHeartbeats 8000000 in
set_option maxRecDepth 1000000 in
theorem Crash_any {P : Nat → Prop} (base f : Nat) (q st : Int) (mo : Option Nat) (xs : List (List UInt8 × Fl)) (us : List Ux) (keeps : List Int) (Pk : Option Addr) (Ck : Nat) (names : Int) (W : Nat → List (List UInt8 × (List UInt8 × Nat))) (w : World) (hn : -9223372036854775808 ≤ names ∧ names ≤ 9223372036854775807) (hus : us.length ≤ 9000000) (hW0 : absX xs = W us.length) (hW : ∀ j u, us[j]? = some u → UnA u (W (j + 1)) (W j)) (hWs : ∀ j, j ≤ us.length → SrtN (W j) ∧ (W j).length ≤ 1000) (hWn : ∀ j, j ≤ us.length → ∀ p ∈ W j, p.1.length ≤ 64) (hk : ∀ w', Chg P w w' → intIn w' Pk keeps) (hkr : ∀ x ∈ keeps, -9223372036854775808 ≤ x ∧ x ≤ 9223372036854775807) (hkl : keeps.length ≤ 9223372036854775807) (d : Dsk P w base f q st mo xs us) :
    Calls Try.prog 17 #[.pointer (some ⟨f, 0, none⟩), .slice Pk keeps.length Ck, .int .i64 names] w fun e w' => e = .returned (.tuple #[]) ∧ ∃ xs', absX xs' = cutsA keeps 0 (W (kp names us.length)) ∧ Dsk (ext P w w') w' base f q 0 mo xs' [] ∧ Chg P w w' := by
  have LN := mkHid (loseNames_any base f q st mo xs us names W w hn hus hW0 hW hWs d)
  have hkl0 : kp names us.length ≤ us.length := by unfold kp; have := Nat.mod_lt (max 0 names).toNat (show 0 < us.length + 1 by omega); omega
  have hws := hWs _ hkl0
  have hwn := hWn _ hkl0
  generalize kp names us.length = k at *
  have HK := mkHid hk
  have HR := mkHid hkr
  have HS := mkHid hws
  have HN := mkHid hwn
  have hbs := d.bs
  have hpb := mkHid d.pb
  clear d hW hWs hWn hk hkr hW0 hws hwn hn hus
  go_enter Try.func17, Try.ntmps17
  go_wp2_with fail
  refine LN.out.mono ?_
  rintro e w1 ⟨rfl, ys, A1, D1, C1⟩
  have hso : SrtN ys ∧ ys.length ≤ 1000 := by have := HS.out; rw [← A1, abs_srt, abs_len] at this; exact this
  have hnm : ∀ p ∈ ys, p.1.length ≤ 64 := fun p hp => by
    have := HN.out (p.1, (p.2.l, p.2.k)) (by rw [← A1]; exact List.mem_map_of_mem hp)
    exact this
  have L2 := mkHid (loseBytes_any base f q st mo ys [] keeps Pk Ck w1 hso.2 hnm hso.1 (fun w' hb => HK.out w' (C1.xtrans hb)) HR.out hkl rfl D1)
  have C1' := mkHid C1
  have A1' := mkHid A1
  clear D1 C1 A1 hso hnm
  go_wp2_with fail
  refine L2.out.mono ?_
  rintro e w2 ⟨rfl, ⟨zs, A2, D2⟩, C2⟩
  have L3 := mkHid (Stop_any base f q st 0 mo zs [] w2 D2 (by omega))
  have E2 : Hid (Chg P w w2) := C1'.out.xtrans C2
  have S1 := C1'.out.size
  have S2 := C2.size
  have A2' := mkHid A2
  have pf := D2.pf
  clear D2 C2 A2
  go_wp2_with fail
  refine L3.out.mono ?_
  rintro e w3 ⟨rfl, D3, C3, S3⟩
  have E3 : Hid (Dsk (ext P w w3) w3 base f q 0 mo zs []) := by
    refine D3.more (fun i hi => ?_) (ext_bd hbs (by have := C3.size; omega) hpb.out)
    rcases hi with hi | hi
    · exact Or.inl hi
    · exact Or.inr ⟨hi.1, by have := C3.size; omega⟩
  have F3 : Hid (Chg P w w3) := E2.out.step C3 (fun i e => by
    subst e
    rcases pf with h | h
    · exact Or.inl h
    · exact Or.inr h.1)
  clear D3 C3
  go_wp2_with fail
  go_end0
  exact ⟨rfl, zs, by rw [A2'.out, A1'.out], E3.out, F3.out⟩
end Go.Proofs.Ytdiehlioemmakaa
