/-
  A disk with no open change of names that does not stop: each call, in the files alone.
-/
import Derived.Test.YtdiehlioemmakaaGfAx
namespace Go.Proofs.Ytdiehlioemmakaa
open Go.RowKit Go.Maps Go.Joins

abbrev Ab' := List (List UInt8 × (List UInt8 × Nat))
/-- a disk of the program with these files, no open change, not stopped -/
def Dz (P : Nat → Prop) (w : World) (base fp : Nat) (q : Int) (A : Ab') : Prop := ∃ mo xs s, absX xs = A ∧ Dsk P w base fp q 0 mo xs [] ∧ Jn s 0 xs [] ∧ s.q = q
theorem Dz.kept {P : Nat → Prop} {w w' : World} {base fp : Nat} {q : Int} {A : Ab'} (h : Dz P w base fp q A) (hg : w.grownBy w' none) : Dz P w' base fp q A := by
  obtain ⟨mo, xs, s, h1, h2, h3, h4⟩ := h
  exact ⟨mo, xs, s, h1, h2.kept hg, h3, h4⟩
theorem Dz.pb {P : Nat → Prop} {w : World} {base fp : Nat} {q : Int} {A : Ab'} (h : Dz P w base fp q A) : ∀ i, P i → base ≤ i ∧ i < w.heap.size := by
  obtain ⟨mo, xs, s, h1, h2, h3, h4⟩ := h
  exact h2.pb
theorem abs_names (xs : List (List UInt8 × Fl)) : (absX xs).map (·.1) = xs.map (·.1) := by simp [absX]
theorem Jn.names {s : St} {st : Int} {xs : List (List UInt8 × Fl)} {us : List Ux} (h : Jn s st xs us) : ∀ p ∈ absX xs, nmOk p.1 = true := fun p hp => by
  rw [h.ab] at hp
  obtain ⟨y, hy, rfl⟩ := List.mem_map.1 hp
  exact (h.nw.nm y hy).1
theorem Dz.facts {P : Nat → Prop} {w : World} {base fp : Nat} {q : Int} {A : Ab'} (h : Dz P w base fp q A) : SrtN A ∧ A.length ≤ 64 ∧ ∀ p ∈ A, nmOk p.1 = true := by
  obtain ⟨mo, xs, s, rfl, h2, h3, h4⟩ := h
  exact ⟨abs_srt.2 h3.so, by rw [abs_len]; exact h3.len.2, h3.names⟩
theorem put_keys {α : Type} {n : List UInt8} {v x : α} {A : List (List UInt8 × α)} (so : SrtN A) (h : lookN n A = some x) : (putN n v A).map (·.1) = A.map (·.1) := by
  obtain ⟨a, b, rfl⟩ := List.append_of_mem (look_mem h)
  rw [put_mid so]; simp
theorem mem_look {n : List UInt8} {A : Ab'} (so : SrtN A) (h : n ∈ A.map (·.1)) : ∃ x, lookN n A = some x := by
  obtain ⟨p, hp, rfl⟩ := List.mem_map.1 h
  exact ⟨p.2, look_in so hp⟩
theorem stp_q (s : St) : (stp s).1.q = s.q := by unfold stp; (repeat' split) <;> rfl
theorem syS_q (s : St) : (syS s).q = s.q := by unfold syS; split <;> exact stp_q s
theorem snS_q (n : List UInt8) (s : St) : (snS n s).q = s.q := by unfold snS; (repeat' split) <;> first | rfl | exact stp_q s
theorem apS_q (n b : List UInt8) (s : St) : (apS n b s).q = s.q := by unfold apS; (repeat' split) <;> first | rfl | exact stp_q s
theorem Dz.crash {P : Nat → Prop} {w : World} {base fp : Nat} {q : Int} {A : Ab'} (h : Dz P w base fp q A) (keeps : List Int) (Pk : Option Addr) (Ck : Nat) (names : Int) (hn : -9223372036854775808 ≤ names ∧ names ≤ 9223372036854775807) (hk : ∀ w', Chg P w w' → intIn w' Pk keeps) (hkr : ∀ x ∈ keeps, -9223372036854775808 ≤ x ∧ x ≤ 9223372036854775807) (hkl : keeps.length ≤ 1000000000) :
    Calls Try.prog 17 #[.pointer (some ⟨fp, 0, none⟩), .slice Pk keeps.length Ck, .int .i64 names] w fun e w' => e = .returned (.tuple #[]) ∧ Dz (ext P w w') w' base fp q (cutsA keeps 0 A) ∧ Chg P w w' := by
  obtain ⟨mo, xs, s, rfl, d, j, hq⟩ := h
  refine (Crash_any base fp q 0 mo xs [] keeps Pk Ck names (fun j => absW s.fs (s.ways.getD j [])) w hn (by simp) j.una.1 j.una.2.1 j.una.2.2.1 j.una.2.2.2 hk hkr (by omega) d).mono ?_
  rintro e w' ⟨rfl, xs', hx, d', c⟩
  have h0 : kp names ([] : List Ux).length = ([] : List Ux).length := by unfold kp; simp [Nat.mod_one]
  refine ⟨rfl, ⟨mo, xs', crashS keeps names s, ?_, d', j.crash keeps names hx, hq⟩, c⟩
  rw [hx, h0, j.una.1]
def ImZ (w : World) (A : Ab') (e : Ending) (w' : World) : Prop := ∃ P C, e = .returned (.slice P A.length C) ∧ enIn w' P A ∧ (∀ S : Nat → Prop, (∀ i, S i → i < w.heap.size) → ∀ w2, Chg S w' w2 → enIn w2 P A) ∧ w.grownBy w' none
theorem ImZ.of {w : World} {xs : List (List UInt8 × Fl)} {e : Ending} {w' : World} (h : ImQ w xs e w') : ImZ w (absX xs) e w' := by
  obtain ⟨v, zs, rfl, im, ab, g⟩ := h
  have hl : zs.length = (absX xs).length := by rw [← ab, abs_len]
  obtain ⟨P, C, hv⟩ := row_formS im.row
  rw [hl] at hv
  subst hv
  refine ⟨P, C, rfl, ?_, fun S hS w2 hc => ?_, g⟩
  · have := im.en hl; rw [ab] at this; exact this
  · have := (im.chg hc hS).en hl; rw [ab] at this; exact this
theorem Dz.image {P : Nat → Prop} {w : World} {base fp : Nat} {q : Int} {A : Ab'} (h : Dz P w base fp q A) : Calls Try.prog 16 #[.pointer (some ⟨fp, 0, none⟩)] w fun e w' => ImZ w A e w' := by
  obtain ⟨mo, xs, s, rfl, d, j, hq⟩ := h
  refine (Image_any base fp q 0 mo xs [] w j.so (by have := j.len.2; omega) (fun p hp => ?_) d).mono (fun e w' h => ImZ.of h)
  have := (nm_len (j.names (p.1, (p.2.l, p.2.k)) (List.mem_map.2 ⟨p, hp, rfl⟩))).2
  have h2 : p.1.length ≤ 64 := this
  omega
theorem Dz.open_ {P : Nat → Prop} {w : World} {base fp : Nat} {q : Int} {A : Ab'} (h : Dz P w base fp q A) : Calls Try.prog 18 #[.pointer (some ⟨fp, 0, none⟩)] w fun e w' => e = .returned (.int .i64 0) ∧ w' = w := by
  obtain ⟨mo, xs, s, rfl, d, j, hq⟩ := h
  exact Open_any base fp q 0 mo xs [] w d
theorem Dz.list {P : Nat → Prop} {w : World} {base fp : Nat} {q : Int} {A : Ab'} (h : Dz P w base fp q A) : Calls Try.prog 21 #[.pointer (some ⟨fp, 0, none⟩)] w fun e w' => ∃ v, e = .returned v ∧ w'.ownsRow w.heap.size 9 1 v A.length ((A.map (·.1)).map encStr) ∧ w.grownBy w' none := by
  obtain ⟨mo, xs, s, rfl, d, j, hq⟩ := h
  rw [abs_len, abs_names]
  exact List_any base fp q 0 mo xs [] w j.so (by have := j.len.2; omega) d
theorem Dz.syncNames {P : Nat → Prop} {w : World} {base fp : Nat} {q : Int} {A : Ab'} (h : Dz P w base fp q A) : Calls Try.prog 15 #[.pointer (some ⟨fp, 0, none⟩)] w fun e w' => e = .returned (.int .i64 0) ∧ Dz (ext P w w') w' base fp q A ∧ Chg P w w' := by
  obtain ⟨mo, xs, s, rfl, d, j, hq⟩ := h
  refine (SyncNames_any base fp q 0 mo xs [] w ⟨by omega, by omega⟩ d).mono ?_
  rintro e w' ⟨rfl, d', c⟩
  exact ⟨rfl, ⟨mo, xs, syS s, rfl, d', (j.syncN).2, by rw [syS_q]; exact hq⟩, c⟩
theorem nm0 {n : List UInt8} {A : Ab'} {x : List UInt8 × Nat} (h1 : nmOk n = true) (h2 : lookN n A = some x) : nmE n A = 0 := by
  unfold nmE; rw [h1, h2]; rfl
theorem Dz.append {P : Nat → Prop} {w : World} {base fp : Nat} {q : Int} {A : Ab'} (h : Dz P w base fp q A) (n b : List UInt8) (Pb : Option Addr) (C : Nat) (hmem : n ∈ A.map (·.1)) (hin : byIn w Pb b) (hout : ∀ a, Pb = some a → ¬ P a.block) (hC : Pb = none → C = 0) (hbC : b.length ≤ C) :
    Calls Try.prog 22 #[.pointer (some ⟨fp, 0, none⟩), .string ⟨n.toArray⟩, .slice Pb b.length C] w fun e w' => ∃ k A', e = .returned (.int .i64 k) ∧ A'.map (·.1) = A.map (·.1) ∧ (∀ p ∈ A', p.1 ≠ n → p ∈ A) ∧ Dz (ext P w w') w' base fp q A' ∧ Chg P w w' := by
  have fa := h.facts
  obtain ⟨x, hx⟩ := mem_look fa.1 hmem
  obtain ⟨p, hp, hpn⟩ := List.mem_map.1 hmem
  have hok : nmOk n = true := by rw [← hpn]; exact fa.2.2 p hp
  obtain ⟨mo, xs, s, rfl, d, j, rfl⟩ := h
  have hnl := (nm_len hok).2
  refine (Append_any base fp s.q 0 mo xs [] n b Pb C w (by omega) ⟨by omega, by omega⟩ j.so hin hout hC hbC j.q (by rw [← used_abs, j.ab, usd_abs]; have := usd_le j.fl s.now; have := j.nw.len; omega) d).mono ?_
  rintro e w' ⟨rfl, xs', hx', d', c⟩
  have hst : stA n b s.q (absX xs) 0 = 0 := by unfold stA rfS; simp
  have j' := j.app hx'
  rw [hst] at d' j'
  have hq : (apS n b s).q = s.q := apS_q n b s
  have key : apPX n b s.q (absX xs) 0 = absX xs ∨ ∃ v, apPX n b s.q (absX xs) 0 = putN n v (absX xs) := by
    unfold apPX
    rw [hx]
    simp only
    split
    · exact Or.inr ⟨_, rfl⟩
    · split
      · exact Or.inr ⟨_, rfl⟩
      · exact Or.inl rfl
  refine ⟨_, absX xs', rfl, ?_, fun p hp hne => ?_, ⟨mo, xs', _, rfl, d', j', hq⟩, c⟩
  · rw [hx']
    rcases key with e | ⟨v, e⟩
    · rw [e]
    · rw [e]; exact put_keys fa.1 hx
  · rw [hx'] at hp
    rcases key with e | ⟨v, e⟩
    · rw [e] at hp; exact hp
    · rw [e] at hp
      rcases mem_put.1 hp with e | ⟨h1, _⟩
      · rw [e] at hne; exact absurd rfl hne
      · exact h1
theorem Dz.sync {P : Nat → Prop} {w : World} {base fp : Nat} {q : Int} {A : Ab'} (h : Dz P w base fp q A) (n : List UInt8) (hmem : n ∈ A.map (·.1)) :
    Calls Try.prog 23 #[.pointer (some ⟨fp, 0, none⟩), .string ⟨n.toArray⟩] w fun e w' => ∃ A', e = .returned (.int .i64 0) ∧ A'.map (·.1) = A.map (·.1) ∧ (∀ p ∈ A', p.1 = n → p.2.2 = p.2.1.length) ∧ (∀ p ∈ A', p.1 ≠ n → p ∈ A) ∧ Dz (ext P w w') w' base fp q A' ∧ Chg P w w' := by
  have fa := h.facts
  obtain ⟨x, hx⟩ := mem_look fa.1 hmem
  obtain ⟨p, hp, hpn⟩ := List.mem_map.1 hmem
  have hok : nmOk n = true := by rw [← hpn]; exact fa.2.2 p hp
  obtain ⟨mo, xs, s, rfl, d, j, rfl⟩ := h
  have hnl := (nm_len hok).2
  have h0 := nm0 hok hx
  have hE : snPE n (absX xs) 0 = 0 := by unfold snPE rfB; rw [h0]; rfl
  refine (Sync_any base fp s.q 0 mo xs [] n w (by omega) ⟨by omega, by omega⟩ j.so d).mono ?_
  rintro e w' ⟨rfl, xs', hx', d', c⟩
  have hst : stF n (absX xs) 0 = 0 := by unfold stF rfS; simp
  have j' := j.sync hx'
  rw [hst] at d' j'
  have hq : (snS n s).q = s.q := snS_q n s
  have key : snPX n (absX xs) 0 = putN n (x.1, x.1.length) (absX xs) := by
    unfold snPX
    rw [hE, hx]; rfl
  rw [hE]
  refine ⟨absX xs', rfl, ?_, fun p hp he => ?_, fun p hp hne => ?_, ⟨mo, xs', _, rfl, d', j', hq⟩, c⟩
  · rw [hx', key]; exact put_keys fa.1 hx
  · rw [hx', key] at hp
    rcases mem_put.1 hp with e | ⟨_, h1⟩
    · rw [e]
    · exact absurd he h1
  · rw [hx', key] at hp
    rcases mem_put.1 hp with e | ⟨h1, _⟩
    · rw [e] at hne; exact absurd rfl hne
    · exact h1
/-- behind a crash, whatever was open -/
theorem Dz.first {P : Nat → Prop} {w : World} {base fp fr pr N : Nat} {s : St} (h : Both P w base fp fr pr s N) (hN : N < 2000000) (keeps : List Int) (Pk : Option Addr) (Ck : Nat) (names : Int) (hn : -9223372036854775808 ≤ names ∧ names ≤ 9223372036854775807) (hk : ∀ w', Chg P w w' → intIn w' Pk keeps) (hkr : ∀ x ∈ keeps, -9223372036854775808 ≤ x ∧ x ≤ 9223372036854775807) (hkl : keeps.length ≤ 1000000000) :
    Calls Try.prog 17 #[.pointer (some ⟨fp, 0, none⟩), .slice Pk keeps.length Ck, .int .i64 names] w fun e w' => e = .returned (.tuple #[]) ∧ ∃ A, Dz (ext P w w') w' base fp s.q A ∧ (∀ p ∈ A, p.2.2 = p.2.1.length) ∧ Chg P w w' := by
  obtain ⟨st, mo, xs, us, d, j⟩ := h.d
  have hul : us.length ≤ 9000000 := by have := j.ul; have := h.bd; omega
  refine (Crash_any base fp s.q st mo xs us keeps Pk Ck names (fun j => absW s.fs (s.ways.getD j [])) w hn hul j.una.1 j.una.2.1 j.una.2.2.1 j.una.2.2.2 hk hkr (by omega) d).mono ?_
  rintro e w' ⟨rfl, xs', hx, d', c⟩
  refine ⟨rfl, absX xs', ⟨mo, xs', crashS keeps names s, rfl, d', j.crash keeps names hx, rfl⟩, ?_, c⟩
  rw [hx]
  refine cuts_fast keeps 0 _ (fun p hp => ?_)
  obtain ⟨y, hy, rfl⟩ := List.mem_map.1 hp
  show (s.fs.getD y.2 ([], 0)).2 ≤ (s.fs.getD y.2 ([], 0)).1.length
  by_cases hlt : y.2 < s.fs.length
  · rw [List.getD_eq_getElem?_getD, List.getElem?_eq_getElem hlt]; exact (j.fl _ (List.getElem_mem hlt)).1
  · rw [List.getD_eq_getElem?_getD, List.getElem?_eq_none (by omega)]; exact Nat.zero_le _
end Go.Proofs.Ytdiehlioemmakaa
