/-
  What the law on whole files wants besides: arguments below the disk, texts of bytes, two names in their order, a crash behind which the first file is whole.
-/
import Derived.Test.YtdiehlioemmakaaDkQx
namespace Go.Proofs.Ytdiehlioemmakaa
open Go.RowKit Go.Maps Go.Joins Go.Sort

theorem byIn.below {w w' : World} {P : Option Addr} {l : List UInt8} (h : byIn w P l) (hb : Below w.heap.size w w') : byIn w' P l := by
  rcases h with h | ⟨a, e, hc⟩
  · exact Or.inl h
  · exact Or.inr ⟨a, e, fun i x hx => (hb.cell (p := a.add i) (World.block_lt_of_cell? w (a.add i) (hc i x hx))).trans (hc i x hx)⟩
theorem intIn.below {w w' : World} {P : Option Addr} {l : List Int} (h : intIn w P l) (hb : Below w.heap.size w w') : intIn w' P l := by
  rcases h with h | ⟨g, off, e, hc⟩
  · exact Or.inl h
  · exact Or.inr ⟨g, off, e, fun i x hx => (hb.cell (p := ⟨g, off + i, none⟩) (World.block_lt_of_cell? w ⟨g, off + i, none⟩ (hc i x hx))).trans (hc i x hx)⟩
theorem conv_by {w : World} {P : Option Addr} {l : List UInt8} {C : Nat} (h : byIn w P l) (hC : P = none → C = 0) : (convert 27 9 (.slice P l.length C)).run Try.prog w = .ok (.string ⟨l.toArray⟩) w := by
  rcases h with ⟨rfl, rfl⟩ | ⟨a, rfl, hc⟩
  · obtain rfl := hC rfl
    exact conv_own (ownsB_nil w 0)
  · refine run_convert_bytes_back (P := Try.prog) w 27 9 5 a C l u8Slice u8T strT (fun j hj => ?_)
    exact hc j _ (List.getElem?_eq_getElem hj)
theorem two_sort : ∀ ss : List (List UInt8), ss.Perm [nI, nN] → ss.mergeSort (fun x y => decide (x ≤ y)) = [nI, nN] := by
  intro ss h
  have hl := h.length_eq
  match ss, hl with
  | [a, b], _ =>
    have h1 : nI ∈ [a, b] := h.mem_iff.2 (by simp)
    have h2 : nN ∈ [a, b] := h.mem_iff.2 (by simp)
    have hne : nI ≠ nN := by decide
    have a1 : nI ≤ nN := by decide
    have a2 : ¬ nN ≤ nI := by decide
    simp only [List.mem_cons, List.not_mem_nil, or_false] at h1 h2
    rcases h1 with h1 | h1 <;> rcases h2 with h2 | h2
    · exact absurd (h1.trans h2.symm) hne
    · subst h1 h2; simp [List.mergeSort, List.MergeSort.Internal.splitInTwo, a1]
    · subst h1 h2; simp [List.mergeSort, List.MergeSort.Internal.splitInTwo, a2]
    · exact absurd (h1.trans h2.symm) hne

theorem Crash_it (base f m : Nat) (q names : Int) (keeps : List Int) (Pk : Option Addr) (Ck : Nat) (us : List Un) (St : Nat → List (List UInt8 × Fl) → Prop) (Good : List UInt8 → Prop) (xs : List (List UInt8 × Fl)) (w : World) (hn : -9223372036854775808 ≤ names ∧ names ≤ 9223372036854775807) (hus : us.length ≤ 1000)
    (hstep : ∀ j u xs w, us[j]? = some u → Disk w base f q m xs us → St (j + 1) xs → callU m w (fun e w' => e = .returned (.tuple #[]) ∧ (∃ xs', Disk w' base f q m xs' us ∧ St j xs') ∧ Chg (fun i => i = m) w w') u)
    (h0 : St us.length xs) (d : Disk w base f q m xs us)
    (hG : ∀ j ys, St j ys → ∃ X r, ys = (nI, X) :: r ∧ X.k = X.l.length ∧ Good X.l ∧ (r = [] ∨ ∃ Y, r = [(nN, Y)]))
    (hk : ∀ w', Kp base w w' → intIn w' Pk keeps) (hkr : ∀ x ∈ keeps, -9223372036854775808 ≤ x ∧ x ≤ 9223372036854775807) (hkl : keeps.length ≤ 9223372036854775807) :
    Calls Try.prog 17 #[.pointer (some ⟨f, 0, none⟩), .slice Pk keeps.length Ck, .int .i64 names] w fun e w' => e = .returned (.tuple #[]) ∧ (∃ Z r, Disk w' base f q m ((nI, Z) :: r) [] ∧ Good Z.l) ∧ Kp base w w' := by
  refine (Crash_ok base f m q names keeps Pk Ck us St xs w hn hus hstep h0 d (fun ys h => ?_) hk hkr hkl).mono ?_
  · obtain ⟨X, r, rfl, _, _, rfl | ⟨Y, rfl⟩⟩ := hG _ _ h
    · exact ⟨by simp, fun p hp => by rw [List.mem_singleton] at hp; subst hp; show (2 : Nat) ≤ 64; omega, one_sort nI⟩
    · refine ⟨by simp, fun p hp => ?_, two_sort⟩
      rw [List.mem_cons, List.mem_singleton] at hp
      rcases hp with rfl | rfl
      · show (2 : Nat) ≤ 64; omega
      · show (6 : Nat) ≤ 64; omega
  · rintro e w' ⟨rfl, ⟨ys, zs, hS, hD, hE⟩, hK⟩
    obtain ⟨X, r, rfl, hx, hg, _⟩ := hG _ _ hS
    have e : cuts keeps 0 ((nI, X) :: r) = abs (nI, X) :: cuts keeps 0 r := if_pos hx
    rw [e] at hE
    cases zs with
    | nil => cases hE
    | cons p t =>
      rw [List.map_cons, List.cons.injEq] at hE
      obtain ⟨n', Z⟩ := p
      have h1 := hE.1
      simp only [abs, Prod.mk.injEq] at h1
      obtain ⟨rfl, h2, _⟩ := h1
      exact ⟨rfl, ⟨Z, t, hD, by rw [h2]; exact hg⟩, hK⟩
end Go.Proofs.Ytdiehlioemmakaa
