/-
  Each call of the program's disk, and of the document's, beside each other.
-/
import Derived.Test.YtdiehlioemmakaaUK
namespace Go.Proofs.Ytdiehlioemmakaa
open Go.RowKit Go.Maps Go.Joins

theorem stp_bd (s : St) : (stp s).1.ways.length = s.ways.length ∧ (stp s).1.fs.length = s.fs.length ∧ (stp s).1.q = s.q := by
  obtain ⟨h1, h2, h3⟩ := stp_ways s
  rw [h1, h2, h3]; exact ⟨rfl, rfl, rfl⟩
def bdd (s s' : St) : Prop := s'.ways.length ≤ s.ways.length + 1 ∧ s'.fs.length ≤ s.fs.length + 1 ∧ s'.q = s.q
theorem bdd_refl (s : St) : bdd s s := ⟨by omega, by omega, rfl⟩
theorem bdd_stp (s : St) : bdd s (stp s).1 := by obtain ⟨h1, h2, h3⟩ := stp_bd s; exact ⟨by omega, by omega, h3⟩
theorem bdd_set (s : St) (fs : List (List UInt8 × Nat)) (h : fs.length = (stp s).1.fs.length) : bdd s { (stp s).1 with fs := fs } := by
  obtain ⟨h1, h2, h3⟩ := stp_bd s
  exact ⟨by show (stp s).1.ways.length ≤ _; omega, by show fs.length ≤ _; omega, h3⟩
theorem bdd_way (s : St) (W : Ws) : bdd s { (stp s).1 with ways := (stp s).1.ways ++ [W] } := by
  obtain ⟨h1, h2, h3⟩ := stp_bd s
  exact ⟨by show ((stp s).1.ways ++ [W]).length ≤ _; simp; omega, by show (stp s).1.fs.length ≤ _; omega, h3⟩
theorem bd_cr (n : List UInt8) (s : St) : bdd s (crS n s) := by
  unfold crS
  split
  · exact bdd_refl s
  · split
    · exact bdd_refl s
    · split
      · exact bdd_refl s
      · split
        · exact bdd_stp s
        · obtain ⟨h1, h2, h3⟩ := stp_bd s
          exact ⟨by simp; omega, by simp; omega, h3⟩
theorem bd_rm (n : List UInt8) (s : St) : bdd s (rmS n s) := by
  unfold rmS
  split
  · exact bdd_refl s
  · split
    · exact bdd_stp s
    · exact bdd_way s _
theorem bd_rn (a b : List UInt8) (s : St) : bdd s (rnS a b s) := by
  unfold rnS
  split
  · exact bdd_refl s
  · split
    · exact bdd_refl s
    · split
      · exact bdd_refl s
      · split
        · exact bdd_stp s
        · split
          · exact bdd_stp s
          · exact bdd_way s _
theorem bd_sn (n : List UInt8) (s : St) : bdd s (snS n s) := by
  unfold snS
  split
  · exact bdd_refl s
  · split
    · exact bdd_stp s
    · exact bdd_set s _ (List.length_set)
theorem bd_cu (n : List UInt8) (k : Int) (s : St) : bdd s (cuS n k s) := by
  unfold cuS
  split
  · exact bdd_refl s
  · split
    · exact bdd_refl s
    · split
      · exact bdd_stp s
      · exact bdd_set s _ (List.length_set)
theorem bd_ap (n b : List UInt8) (s : St) : bdd s (apS n b s) := by
  unfold apS
  split
  · exact bdd_refl s
  · split
    · exact bdd_refl s
    · split
      · exact bdd_stp s
      · exact bdd_set s _ (List.length_set)
theorem bd_sy (s : St) : bdd s (syS s) := by
  unfold syS
  split
  · exact bdd_stp s
  · obtain ⟨h1, h2, h3⟩ := stp_bd s
    exact ⟨by show 1 ≤ _; omega, by show (stp s).1.fs.length ≤ _; omega, h3⟩
theorem bd_crash (keeps : List Int) (names : Int) (s : St) : bdd s (crashS keeps names s) := by
  unfold crashS
  exact ⟨by show 1 ≤ _; omega, by show (crF keeps 0 _ s.fs).length ≤ _; rw [crF_len]; omega, rfl⟩
theorem Jn.getl {s : St} {st : Int} {xs : List (List UInt8 × Fl)} {us : List Ux} (j : Jn s st xs us) (n : List UInt8) : (getF s n).1.length ≤ 100000000 := by
  unfold getF
  rw [List.getD_eq_getElem?_getD]
  cases e : s.fs[(fnd n s.now).toNat]? with
  | none => simp
  | some x => have := (j.fl x (List.mem_of_getElem? e)).2; simp; omega
theorem refCut_all {F : Nat → Prop} (f : Nat) (s : St) (n : List UInt8) (k : Int) (w : World) (h : Rf F w f s) (hl : -9223372036854775808 ≤ s.left ∧ s.left ≤ 9223372036854775807) (hb : s.ways.length ≤ 9000000) (hn : s.now.length ≤ 4000000) (hm : s.fs.length ≤ 9000000) (hok : StOk s) (hlen : (getF s n).1.length ≤ 100000000) :
    Calls Try.prog 35 #[.pointer (some ⟨f, 0, none⟩), .string ⟨n.toArray⟩, .int .i64 k] w fun e w' => e = .returned (.int .i64 (cuE n k s)) ∧ Rf F w' f (cuS n k s) ∧ Keep f w w' := by
  by_cases hbad : atE n s.now ≠ 0 ∨ k < 0 ∨ ((getF s n).1.length : Int) < k
  · exact refCut_bad f s n k w h hb hn hm hok hbad
  · obtain ⟨K, rfl⟩ : ∃ K : Nat, k = (K : Int) := ⟨k.toNat, by omega⟩
    exact refCut_ok f s n K w h hl hb hn hm hok (by omega) (by omega) hlen
theorem intIn.chg {S : Nat → Prop} {w w' : World} {P : Option Addr} {l : List Int} (h : intIn w P l) (hc : Chg S w w') (hn : l ≠ [] → ∀ a, P = some a → ¬ S a.block) : intIn w' P l := by
  rcases h with h | ⟨g, off, e, hk⟩
  · exact Or.inl h
  · exact Or.inr ⟨g, off, e, fun i x hx => cellC hc (hk i x hx) (hn (by intro e0; rw [e0] at hx; simp at hx) _ e)⟩
theorem usd_le {fs : List (List UInt8 × Nat)} (h : ∀ x ∈ fs, x.2 ≤ x.1.length ∧ x.1.length ≤ 16777216) : ∀ W : Ws, usd fs W ≤ W.length * 16777216
  | [] => Nat.le_refl _
  | p :: r => by
    have := usd_le h r
    have h1 : (fs.getD p.2 ([], 0)).1.length ≤ 16777216 := by
      rw [List.getD_eq_getElem?_getD]
      cases e : fs[p.2]? with
      | none => simp
      | some x => exact (h x (List.mem_of_getElem? e)).2
    show (fs.getD p.2 ([], 0)).1.length + usd fs r ≤ (r.length + 1) * 16777216
    omega
set_option maxHeartbeats 8000000 in
set_option maxRecDepth 1000000 in
theorem pCreate {P : Nat → Prop} {w : World} {base fp fr pr N : Nat} {s : St} (h : Both P w base fp fr pr s N) (hN : N < 2000000) (n : List UInt8) (hll : n.length ≤ 1000000000) :
    Calls Try.prog 29 #[.pointer (some ⟨fp, 0, none⟩), .string ⟨n.toArray⟩] w fun e w' => e = .returned (.int .i64 (crE n s)) ∧ ∃ Q, Half Q w w' base fp fr pr s (crS n s) ∧ Chg P w w' ∧ ∀ i, Q i → P i ∨ w.heap.size ≤ i := by
  obtain ⟨st, mo, xs, us, d, j⟩ := h.d
  have hul : us.length ≤ 9000000 := by have := j.ul; have := h.bd; omega
  have hxl := j.len.2
  have hr := st_rng j.st j.lf
  refine (Create_any base fp s.q st mo xs us n w hll hr (by omega) hul d).mono ?_
  rintro e w' ⟨rfl, hQ⟩
  obtain ⟨st', mo', xs', us', J', D', C', _⟩ := j.create hQ
  exact ⟨by rw [j.createE n], _, h.half C' (ext_sub (Nat.le_refl _)) ⟨_, _, _, _, D', J'⟩, C', ext_sub (Nat.le_refl _)⟩
set_option maxHeartbeats 8000000 in
set_option maxRecDepth 1000000 in
theorem rCreate {Q : Nat → Prop} {P : Nat → Prop} {w : World} {base fp fr pr N : Nat} {s : St} {w2 : World} (h : Both P w base fp fr pr s N) (hN : N < 2000000) (n : List UInt8) (hf : Half Q w w2 base fp fr pr s (crS n s)) :
    Calls Try.prog 30 #[.pointer (some ⟨fr, 0, none⟩), .string ⟨n.toArray⟩] w2 fun e w3 => e = .returned (.int .i64 (crE n s)) ∧ Both Q w3 base fp fr pr (crS n s) (N + 1) ∧ Below base w w3 ∧ Keep fr w2 w3 := by
  obtain ⟨st, mo, xs, us, d, j⟩ := h.d
  have hbd := h.bd
  have hnl := j.nw.len
  have bd := bd_cr n s
  refine (refCreate_any fr s n w2 hf.r j.lf (by omega) (by omega) (by omega)).mono ?_
  rintro e w3 ⟨rfl, R3, k3⟩
  have hb := hf.both k3 R3 bd.2.2 (N := N + 1) ⟨by have := bd.1; omega, by have := bd.2.1; omega, by omega⟩ d.bs
  exact ⟨rfl, hb.1, hb.2, k3⟩
set_option maxHeartbeats 8000000 in
set_option maxRecDepth 1000000 in
theorem pRemove {P : Nat → Prop} {w : World} {base fp fr pr N : Nat} {s : St} (h : Both P w base fp fr pr s N) (hN : N < 2000000) (n : List UInt8) (hll : n.length ≤ 1000000000) :
    Calls Try.prog 38 #[.pointer (some ⟨fp, 0, none⟩), .string ⟨n.toArray⟩] w fun e w' => e = .returned (.int .i64 (snE n s)) ∧ ∃ Q, Half Q w w' base fp fr pr s (rmS n s) ∧ Chg P w w' ∧ ∀ i, Q i → P i ∨ w.heap.size ≤ i := by
  obtain ⟨st, mo, xs, us, d, j⟩ := h.d
  have hul : us.length ≤ 9000000 := by have := j.ul; have := h.bd; omega
  have hxl := j.len.2
  have hr := st_rng j.st j.lf
  refine (Remove_any base fp s.q st mo xs us n (fnd n s.now).toNat w hll hr j.so hul d).mono ?_
  rintro e w' ⟨rfl, hQ⟩
  obtain ⟨st', mo', xs', us', J', D', C', _⟩ := j.remove hQ
  exact ⟨by rw [j.err n], _, h.half C' (ext_sub (Nat.le_refl _)) ⟨_, _, _, _, D', J'⟩, C', ext_sub (Nat.le_refl _)⟩
set_option maxHeartbeats 8000000 in
set_option maxRecDepth 1000000 in
theorem rRemove {Q : Nat → Prop} {P : Nat → Prop} {w : World} {base fp fr pr N : Nat} {s : St} {w2 : World} (h : Both P w base fp fr pr s N) (hN : N < 2000000) (n : List UInt8) (hf : Half Q w w2 base fp fr pr s (rmS n s)) :
    Calls Try.prog 39 #[.pointer (some ⟨fr, 0, none⟩), .string ⟨n.toArray⟩] w2 fun e w3 => e = .returned (.int .i64 (snE n s)) ∧ Both Q w3 base fp fr pr (rmS n s) (N + 1) ∧ Below base w w3 ∧ Keep fr w2 w3 := by
  obtain ⟨st, mo, xs, us, d, j⟩ := h.d
  have hbd := h.bd
  have hnl := j.nw.len
  have bd := bd_rm n s
  refine (refRemove_any fr s n w2 hf.r j.lf (by omega) (by omega)).mono ?_
  rintro e w3 ⟨rfl, R3, k3⟩
  have hb := hf.both k3 R3 bd.2.2 (N := N + 1) ⟨by have := bd.1; omega, by have := bd.2.1; omega, by omega⟩ d.bs
  exact ⟨rfl, hb.1, hb.2, k3⟩
set_option maxHeartbeats 8000000 in
set_option maxRecDepth 1000000 in
theorem pRename {P : Nat → Prop} {w : World} {base fp fr pr N : Nat} {s : St} (h : Both P w base fp fr pr s N) (hN : N < 2000000) (a b : List UInt8) (hla : a.length ≤ 1000000000) (hlb : b.length ≤ 1000000000) :
    Calls Try.prog 36 #[.pointer (some ⟨fp, 0, none⟩), .string ⟨a.toArray⟩, .string ⟨b.toArray⟩] w fun e w' => e = .returned (.int .i64 (rnE a b s)) ∧ ∃ Q, Half Q w w' base fp fr pr s (rnS a b s) ∧ Chg P w w' ∧ ∀ i, Q i → P i ∨ w.heap.size ≤ i := by
  obtain ⟨st, mo, xs, us, d, j⟩ := h.d
  have hul : us.length ≤ 9000000 := by have := j.ul; have := h.bd; omega
  have hxl := j.len.2
  have hr := st_rng j.st j.lf
  refine (Rename_any base fp s.q st mo xs us a b (fnd b s.now).toNat w hla hlb hr j.so (by omega) hul d).mono ?_
  rintro e w' ⟨rfl, hQ⟩
  obtain ⟨st', mo', xs', us', J', D', C', _⟩ := j.rename hQ
  exact ⟨by rw [j.renE a b], _, h.half C' (ext_sub (Nat.le_refl _)) ⟨_, _, _, _, D', J'⟩, C', ext_sub (Nat.le_refl _)⟩
set_option maxHeartbeats 8000000 in
set_option maxRecDepth 1000000 in
theorem rRename {Q : Nat → Prop} {P : Nat → Prop} {w : World} {base fp fr pr N : Nat} {s : St} {w2 : World} (h : Both P w base fp fr pr s N) (hN : N < 2000000) (a b : List UInt8) (hf : Half Q w w2 base fp fr pr s (rnS a b s)) :
    Calls Try.prog 37 #[.pointer (some ⟨fr, 0, none⟩), .string ⟨a.toArray⟩, .string ⟨b.toArray⟩] w2 fun e w3 => e = .returned (.int .i64 (rnE a b s)) ∧ Both Q w3 base fp fr pr (rnS a b s) (N + 1) ∧ Below base w w3 ∧ Keep fr w2 w3 := by
  obtain ⟨st, mo, xs, us, d, j⟩ := h.d
  have hbd := h.bd
  have hnl := j.nw.len
  have bd := bd_rn a b s
  refine (refRename_any fr s a b w2 hf.r j.lf (by omega) (by omega)).mono ?_
  rintro e w3 ⟨rfl, R3, k3⟩
  have hb := hf.both k3 R3 bd.2.2 (N := N + 1) ⟨by have := bd.1; omega, by have := bd.2.1; omega, by omega⟩ d.bs
  exact ⟨rfl, hb.1, hb.2, k3⟩
set_option maxHeartbeats 8000000 in
set_option maxRecDepth 1000000 in
theorem pSync {P : Nat → Prop} {w : World} {base fp fr pr N : Nat} {s : St} (h : Both P w base fp fr pr s N) (hN : N < 2000000) (n : List UInt8) (hll : n.length ≤ 1000000000) :
    Calls Try.prog 23 #[.pointer (some ⟨fp, 0, none⟩), .string ⟨n.toArray⟩] w fun e w' => e = .returned (.int .i64 (snE n s)) ∧ ∃ Q, Half Q w w' base fp fr pr s (snS n s) ∧ Chg P w w' ∧ ∀ i, Q i → P i ∨ w.heap.size ≤ i := by
  obtain ⟨st, mo, xs, us, d, j⟩ := h.d
  have hul : us.length ≤ 9000000 := by have := j.ul; have := h.bd; omega
  have hxl := j.len.2
  have hr := st_rng j.st j.lf
  refine (Sync_any base fp s.q st mo xs us n w hll hr j.so d).mono ?_
  rintro e w' ⟨rfl, xs', hx, D', C'⟩
  exact ⟨by rw [j.err n], _, h.half C' (ext_sub (Nat.le_refl _)) ⟨_, _, _, _, D', j.sync hx⟩, C', ext_sub (Nat.le_refl _)⟩
set_option maxHeartbeats 8000000 in
set_option maxRecDepth 1000000 in
theorem rSync {Q : Nat → Prop} {P : Nat → Prop} {w : World} {base fp fr pr N : Nat} {s : St} {w2 : World} (h : Both P w base fp fr pr s N) (hN : N < 2000000) (n : List UInt8) (hf : Half Q w w2 base fp fr pr s (snS n s)) :
    Calls Try.prog 40 #[.pointer (some ⟨fr, 0, none⟩), .string ⟨n.toArray⟩] w2 fun e w3 => e = .returned (.int .i64 (snE n s)) ∧ Both Q w3 base fp fr pr (snS n s) (N + 1) ∧ Below base w w3 ∧ Keep fr w2 w3 := by
  obtain ⟨st, mo, xs, us, d, j⟩ := h.d
  have hbd := h.bd
  have hnl := j.nw.len
  have bd := bd_sn n s
  refine (refSync_any fr s n w2 hf.r j.lf (by omega) (by omega) (by omega) j.ok).mono ?_
  rintro e w3 ⟨rfl, R3, k3⟩
  have hb := hf.both k3 R3 bd.2.2 (N := N + 1) ⟨by have := bd.1; omega, by have := bd.2.1; omega, by omega⟩ d.bs
  exact ⟨rfl, hb.1, hb.2, k3⟩
set_option maxHeartbeats 8000000 in
set_option maxRecDepth 1000000 in
theorem pSyncNames {P : Nat → Prop} {w : World} {base fp fr pr N : Nat} {s : St} (h : Both P w base fp fr pr s N) (hN : N < 2000000)  :
    Calls Try.prog 15 #[.pointer (some ⟨fp, 0, none⟩)] w fun e w' => e = .returned (.int .i64 (syE s)) ∧ ∃ Q, Half Q w w' base fp fr pr s (syS s) ∧ Chg P w w' ∧ ∀ i, Q i → P i ∨ w.heap.size ≤ i := by
  obtain ⟨st, mo, xs, us, d, j⟩ := h.d
  have hul : us.length ≤ 9000000 := by have := j.ul; have := h.bd; omega
  have hxl := j.len.2
  have hr := st_rng j.st j.lf
  refine (SyncNames_any base fp s.q st mo xs us w hr d).mono ?_
  rintro e w' ⟨rfl, D', C'⟩
  exact ⟨by rw [j.syncN.1], _, h.half C' (ext_sub (Nat.le_refl _)) ⟨_, _, _, _, D', j.syncN.2⟩, C', ext_sub (Nat.le_refl _)⟩
set_option maxHeartbeats 8000000 in
set_option maxRecDepth 1000000 in
theorem rSyncNames {Q : Nat → Prop} {P : Nat → Prop} {w : World} {base fp fr pr N : Nat} {s : St} {w2 : World} (h : Both P w base fp fr pr s N) (hN : N < 2000000)  (hf : Half Q w w2 base fp fr pr s (syS s)) :
    Calls Try.prog 41 #[.pointer (some ⟨fr, 0, none⟩)] w2 fun e w3 => e = .returned (.int .i64 (syE s)) ∧ Both Q w3 base fp fr pr (syS s) (N + 1) ∧ Below base w w3 ∧ Keep fr w2 w3 := by
  obtain ⟨st, mo, xs, us, d, j⟩ := h.d
  have hbd := h.bd
  have hnl := j.nw.len
  have bd := bd_sy s
  refine (refSyncNames_any fr s w2 hf.r j.lf (by omega)).mono ?_
  rintro e w3 ⟨rfl, R3, k3⟩
  have hb := hf.both k3 R3 bd.2.2 (N := N + 1) ⟨by have := bd.1; omega, by have := bd.2.1; omega, by omega⟩ d.bs
  exact ⟨rfl, hb.1, hb.2, k3⟩
set_option maxHeartbeats 8000000 in
set_option maxRecDepth 1000000 in
theorem pCut {P : Nat → Prop} {w : World} {base fp fr pr N : Nat} {s : St} (h : Both P w base fp fr pr s N) (hN : N < 2000000) (n : List UInt8) (k : Int) (hll : n.length ≤ 1000000000) :
    Calls Try.prog 34 #[.pointer (some ⟨fp, 0, none⟩), .string ⟨n.toArray⟩, .int .i64 k] w fun e w' => e = .returned (.int .i64 (cuE n k s)) ∧ ∃ Q, Half Q w w' base fp fr pr s (cuS n k s) ∧ Chg P w w' ∧ ∀ i, Q i → P i ∨ w.heap.size ≤ i := by
  obtain ⟨st, mo, xs, us, d, j⟩ := h.d
  have hul : us.length ≤ 9000000 := by have := j.ul; have := h.bd; omega
  have hxl := j.len.2
  have hr := st_rng j.st j.lf
  refine (Cut_any base fp s.q st mo xs us n k w hll hr j.so d).mono ?_
  rintro e w' ⟨rfl, xs', hx, D', C'⟩
  exact ⟨by rw [j.cutE n k], _, h.half C' (ext_sub (Nat.le_refl _)) ⟨_, _, _, _, D', j.cut hx⟩, C', ext_sub (Nat.le_refl _)⟩
set_option maxHeartbeats 8000000 in
set_option maxRecDepth 1000000 in
theorem rCut {Q : Nat → Prop} {P : Nat → Prop} {w : World} {base fp fr pr N : Nat} {s : St} {w2 : World} (h : Both P w base fp fr pr s N) (hN : N < 2000000) (n : List UInt8) (k : Int) (hf : Half Q w w2 base fp fr pr s (cuS n k s)) :
    Calls Try.prog 35 #[.pointer (some ⟨fr, 0, none⟩), .string ⟨n.toArray⟩, .int .i64 k] w2 fun e w3 => e = .returned (.int .i64 (cuE n k s)) ∧ Both Q w3 base fp fr pr (cuS n k s) (N + 1) ∧ Below base w w3 ∧ Keep fr w2 w3 := by
  obtain ⟨st, mo, xs, us, d, j⟩ := h.d
  have hbd := h.bd
  have hnl := j.nw.len
  have bd := bd_cu n k s
  refine (refCut_all fr s n k w2 hf.r j.lf (by omega) (by omega) (by omega) j.ok (j.getl n)).mono ?_
  rintro e w3 ⟨rfl, R3, k3⟩
  have hb := hf.both k3 R3 bd.2.2 (N := N + 1) ⟨by have := bd.1; omega, by have := bd.2.1; omega, by omega⟩ d.bs
  exact ⟨rfl, hb.1, hb.2, k3⟩
set_option maxHeartbeats 8000000 in
set_option maxRecDepth 1000000 in
theorem pAppend {P : Nat → Prop} {w : World} {base fp fr pr N : Nat} {s : St} (h : Both P w base fp fr pr s N) (hN : N < 2000000) (n b : List UInt8) (Pb : Option Addr) (C : Nat) (hll : n.length ≤ 1000000000) (hin : byIn w Pb b) (hout : ∀ a, Pb = some a → ¬ P a.block) (hC : Pb = none → C = 0) (hbC : b.length ≤ C) :
    Calls Try.prog 22 #[.pointer (some ⟨fp, 0, none⟩), .string ⟨n.toArray⟩, .slice Pb b.length C] w fun e w' => e = .returned (.int .i64 (apE n b s)) ∧ ∃ Q, Half Q w w' base fp fr pr s (apS n b s) ∧ Chg P w w' ∧ ∀ i, Q i → P i ∨ w.heap.size ≤ i := by
  obtain ⟨st, mo, xs, us, d, j⟩ := h.d
  have hul : us.length ≤ 9000000 := by have := j.ul; have := h.bd; omega
  have hxl := j.len.2
  have hr := st_rng j.st j.lf
  refine (Append_any base fp s.q st mo xs us n b Pb C w hll hr j.so hin hout hC hbC j.q (by rw [← used_abs, j.ab, usd_abs]; have := usd_le j.fl s.now; have := j.nw.len; omega) d).mono ?_
  rintro e w' ⟨rfl, xs', hx, D', C'⟩
  exact ⟨by rw [j.appE n b], _, h.half C' (ext_sub (Nat.le_refl _)) ⟨_, _, _, _, D', j.app hx⟩, C', ext_sub (Nat.le_refl _)⟩
set_option maxHeartbeats 8000000 in
set_option maxRecDepth 1000000 in
theorem rAppend {Q : Nat → Prop} {P : Nat → Prop} {w : World} {base fp fr pr N : Nat} {s : St} {w2 : World} (h : Both P w base fp fr pr s N) (hN : N < 2000000) (n b : List UInt8) (Pb : Option Addr) (C : Nat) (hin : byIn w2 Pb b) (hout : b ≠ [] → ∀ a, Pb = some a → a.block ≠ fr) (hC : Pb = none → C = 0) (hbC : b.length ≤ C) (hbl : b.length ≤ 1000000000) (hf : Half Q w w2 base fp fr pr s (apS n b s)) :
    Calls Try.prog 33 #[.pointer (some ⟨fr, 0, none⟩), .string ⟨n.toArray⟩, .slice Pb b.length C] w2 fun e w3 => e = .returned (.int .i64 (apE n b s)) ∧ Both Q w3 base fp fr pr (apS n b s) (N + 1) ∧ Below base w w3 ∧ Keep fr w2 w3 := by
  obtain ⟨st, mo, xs, us, d, j⟩ := h.d
  have hbd := h.bd
  have hnl := j.nw.len
  have bd := bd_ap n b s
  refine (refAppend_any fr s n b Pb C w2 hf.r j.lf (by omega) (by omega) (by omega) j.ok (by have := usd_le j.fl s.now; omega) j.q (j.getl n) hin hout hC hbC hbl).mono ?_
  rintro e w3 ⟨rfl, R3, k3⟩
  have hb := hf.both k3 R3 bd.2.2 (N := N + 1) ⟨by have := bd.1; omega, by have := bd.2.1; omega, by omega⟩ d.bs
  exact ⟨rfl, hb.1, hb.2, k3⟩
set_option maxHeartbeats 8000000 in
set_option maxRecDepth 1000000 in
theorem pCrash {P : Nat → Prop} {w : World} {base fp fr pr N : Nat} {s : St} (h : Both P w base fp fr pr s N) (hN : N < 2000000) (keeps : List Int) (Pk : Option Addr) (Ck : Nat) (names : Int) (hn : -9223372036854775808 ≤ names ∧ names ≤ 9223372036854775807) (hk : intIn w Pk keeps) (hkb : keeps ≠ [] → ∀ a, Pk = some a → ¬ P a.block) (hkr : ∀ x ∈ keeps, -9223372036854775808 ≤ x ∧ x ≤ 9223372036854775807) (hkl : keeps.length ≤ 1000000000) :
    Calls Try.prog 17 #[.pointer (some ⟨fp, 0, none⟩), .slice Pk keeps.length Ck, .int .i64 names] w fun e w' => e = .returned (.tuple #[]) ∧ ∃ Q, Half Q w w' base fp fr pr s (crashS keeps names s) ∧ Chg P w w' ∧ ∀ i, Q i → P i ∨ w.heap.size ≤ i := by
  obtain ⟨st, mo, xs, us, d, j⟩ := h.d
  have hul : us.length ≤ 9000000 := by have := j.ul; have := h.bd; omega
  have hxl := j.len.2
  have hr := st_rng j.st j.lf
  refine (Crash_any base fp s.q st mo xs us keeps Pk Ck names (fun j => absW s.fs (s.ways.getD j [])) w hn hul j.una.1 j.una.2.1 j.una.2.2.1 j.una.2.2.2 (fun w' hc => hk.chg hc hkb) hkr (by omega) d).mono ?_
  rintro e w' ⟨rfl, xs', hx, D', C'⟩
  exact ⟨rfl, _, h.half C' (ext_sub (Nat.le_refl _)) ⟨_, _, _, _, D', j.crash keeps names hx⟩, C', ext_sub (Nat.le_refl _)⟩
set_option maxHeartbeats 8000000 in
set_option maxRecDepth 1000000 in
theorem rCrash {Q : Nat → Prop} {P : Nat → Prop} {w : World} {base fp fr pr N : Nat} {s : St} {w2 : World} (h : Both P w base fp fr pr s N) (hN : N < 2000000) (keeps : List Int) (Pk : Option Addr) (Ck : Nat) (names : Int) (hn : -9223372036854775808 ≤ names ∧ names ≤ 9223372036854775807) (hk : intIn w2 Pk keeps) (hkb : keeps ≠ [] → ∀ a, Pk = some a → a.block ≠ fr) (hkr : ∀ x ∈ keeps, -9223372036854775808 ≤ x ∧ x ≤ 9223372036854775807) (hkl : keeps.length ≤ 1000000000) (hf : Half Q w w2 base fp fr pr s (crashS keeps names s)) :
    Calls Try.prog 24 #[.pointer (some ⟨fr, 0, none⟩), .slice Pk keeps.length Ck, .int .i64 names] w2 fun e w3 => e = .returned (.tuple #[]) ∧ Both Q w3 base fp fr pr (crashS keeps names s) (N + 1) ∧ Below base w w3 ∧ Keep fr w2 w3 := by
  obtain ⟨st, mo, xs, us, d, j⟩ := h.d
  have hbd := h.bd
  have hnl := j.nw.len
  have bd := bd_crash keeps names s
  refine (refCrash_any fr s keeps Pk Ck names w2 hf.r hn (by omega) (by omega) (fun W hW => ⟨by have := (j.wk W hW).len; omega, fun p hp => ((j.wk W hW).nm p hp).2⟩) (fun x hx => ⟨(j.fl x hx).1, by have := (j.fl x hx).2; omega⟩) hk hkb hkr hkl).mono ?_
  rintro e w3 ⟨rfl, R3, k3⟩
  have hb := hf.both k3 R3 bd.2.2 (N := N + 1) ⟨by have := bd.1; omega, by have := bd.2.1; omega, by omega⟩ d.bs
  exact ⟨rfl, hb.1, hb.2, k3⟩
end Go.Proofs.Ytdiehlioemmakaa

namespace Go.Proofs.Ytdiehlioemmakaa
open Go.RowKit Go.Maps Go.Joins

def stoS (n : Int) (s : St) : St := { s with left := n, dead := false }
set_option maxHeartbeats 8000000 in
set_option maxRecDepth 1000000 in
theorem pStop {P : Nat → Prop} {w : World} {base fp fr pr N : Nat} {s : St} (h : Both P w base fp fr pr s N) (n : Int) (hn : -9223372036854775808 ≤ n ∧ n ≤ 9223372036854775807) :
    Calls Try.prog 14 #[.pointer (some ⟨fp, 0, none⟩), .int .i64 n] w fun e w' => e = .returned (.tuple #[]) ∧ ∃ Q, Half Q w w' base fp fr pr s (stoS n s) ∧ Chg P w w' ∧ ∀ i, Q i → P i ∨ w.heap.size ≤ i := by
  obtain ⟨st, mo, xs, us, d, j⟩ := h.d
  refine (Stop_any base fp s.q st n mo xs us w d hn).mono ?_
  rintro e w' ⟨rfl, D', C', _⟩
  have C2 : Chg P w w' := C'.mono (fun i _ e => by rw [e]; exact d.pf)
  exact ⟨rfl, P, h.half C2 (fun i hi => Or.inl hi) ⟨_, _, _, _, D', j.stop n hn⟩, C2, fun i hi => Or.inl hi⟩
theorem rStop {Q : Nat → Prop} {P : Nat → Prop} {w : World} {base fp fr pr N : Nat} {s : St} {w2 : World} (h : Both P w base fp fr pr s N) (hN : N < 2000000) (n : Int) (hf : Half Q w w2 base fp fr pr s (stoS n s)) :
    Calls Try.prog 42 #[.pointer (some ⟨fr, 0, none⟩), .int .i64 n] w2 fun e w3 => e = .returned (.tuple #[]) ∧ Both Q w3 base fp fr pr (stoS n s) (N + 1) ∧ Below base w w3 ∧ Keep fr w2 w3 := by
  obtain ⟨st, mo, xs, us, d, j⟩ := h.d
  have hbd := h.bd
  obtain ⟨vF, vW, h1, h2, h3⟩ := hf.r.fs
  refine (refStop_any fr s.q s.left n vF vW s.dead w2 h1).mono ?_
  rintro e w3 ⟨rfl, B3, k3⟩
  have hb := hf.both k3 (Rf.of (s' := stoS n s) hf.r.fb h2 h3 hf.r.ne k3 B3 rfl rfl) rfl (N := N + 1) ⟨by show s.ways.length ≤ _; omega, by show s.fs.length ≤ _; omega, by omega⟩ d.bs
  exact ⟨rfl, hb.1, hb.2, k3⟩
theorem two_eq {a b c d : Int} (h : a = b) (k : c = d) : Ending.returned (.tuple #[.int .i64 a, .int .i64 c]) = Ending.returned (.tuple #[.int .i64 b, .int .i64 d]) := by rw [h, k]
/-- what is read of a name -/
def rdB (n : List UInt8) (s : St) : List UInt8 := if atE n s.now = 0 then (getF s n).1 else []
def rdF (n : List UInt8) (s : St) : Nat := if atE n s.now = 0 then (getF s n).2 else 0
theorem Jn.read {s : St} {st : Int} {xs : List (List UInt8 × Fl)} {us : List Ux} (j : Jn s st xs us) (n : List UInt8) : nmE n xs = atE n s.now ∧ (match lookN n xs with | some X => if nmE n xs = 0 then X.l else [] | none => []) = rdB n s ∧ (if nmE n xs = 0 then (match lookN n xs with | some X => ((X.l.length : Nat) : Int) | none => 0) else 0) = ((rdB n s).length : Int) ∧ (if nmE n xs = 0 then (match lookN n xs with | some X => ((X.k : Nat) : Int) | none => 0) else 0) = (rdF n s : Int) ∧ (rdB n s).length ≤ 100000000 := by
  have e := j.nmx n
  refine ⟨e, ?_⟩
  have hl : (rdB n s).length ≤ 100000000 := by unfold rdB; split; exact j.getl n; simp
  unfold rdB rdF at *
  rw [e]
  by_cases h0 : atE n s.now = 0
  · obtain ⟨i, h1, h2, h3, h4⟩ := j.file h0
    have hk := j.look n
    rw [h1] at hk
    cases hx : lookN n xs with
    | none => rw [hx] at hk; simp at hk
    | some X =>
      rw [hx] at hk
      simp only [Option.map_some, Option.some.injEq] at hk
      have e4 : getF s n = (X.l, X.k) := by rw [hk]; exact h4.1
      simp only [if_pos h0, e4] at hl ⊢
      exact ⟨trivial, trivial, trivial, hl⟩
  · simp only [if_neg h0]
    refine ⟨?_, rfl, rfl, Nat.zero_le _⟩
    split <;> rfl
set_option maxHeartbeats 8000000 in
set_option maxRecDepth 1000000 in
theorem pRead {P : Nat → Prop} {w : World} {base fp fr pr N : Nat} {s : St} (h : Both P w base fp fr pr s N) (n : List UInt8) (hll : n.length ≤ 1000000000) :
    Calls Try.prog 43 #[.pointer (some ⟨fp, 0, none⟩), .string ⟨n.toArray⟩] w fun e w' => ∃ v', e = .returned (.tuple #[v', .int .i64 (atE n s.now)]) ∧ ownsB w' w.heap.size v' (rdB n s) ∧ w.grownBy w' none := by
  obtain ⟨st, mo, xs, us, d, j⟩ := h.d
  obtain ⟨e1, e2, e3, e4, _⟩ := j.read n
  refine (Read_any base fp s.q st mo xs us n w hll d).mono ?_
  rintro e w' ⟨v', rfl, o', g'⟩
  exact ⟨v', by rw [e1], (congrArg (ownsB w' w.heap.size v') e2).mp o', g'⟩
theorem pSize {P : Nat → Prop} {w : World} {base fp fr pr N : Nat} {s : St} (h : Both P w base fp fr pr s N) (n : List UInt8) (hll : n.length ≤ 1000000000) :
    Calls Try.prog 45 #[.pointer (some ⟨fp, 0, none⟩), .string ⟨n.toArray⟩] w fun e w' => e = .returned (.tuple #[.int .i64 ((rdB n s).length : Int), .int .i64 (atE n s.now)]) ∧ w' = w := by
  obtain ⟨st, mo, xs, us, d, j⟩ := h.d
  obtain ⟨e1, e2, e3, e4, _⟩ := j.read n
  refine (Size_any base fp s.q st mo xs us n w hll d).mono ?_
  rintro e w' ⟨rfl, hw⟩
  exact ⟨two_eq e3 e1, hw⟩
theorem pFast {P : Nat → Prop} {w : World} {base fp fr pr N : Nat} {s : St} (h : Both P w base fp fr pr s N) (n : List UInt8) (hll : n.length ≤ 1000000000) :
    Calls Try.prog 46 #[.pointer (some ⟨fp, 0, none⟩), .string ⟨n.toArray⟩] w fun e w' => e = .returned (.tuple #[.int .i64 (rdF n s : Int), .int .i64 (atE n s.now)]) ∧ w' = w := by
  obtain ⟨st, mo, xs, us, d, j⟩ := h.d
  obtain ⟨e1, e2, e3, e4, _⟩ := j.read n
  refine (Fast_any base fp s.q st mo xs us n w hll d).mono ?_
  rintro e w' ⟨rfl, hw⟩
  exact ⟨two_eq e4 e1, hw⟩
theorem rRead {P : Nat → Prop} {w : World} {base fp fr pr N : Nat} {s : St} (h : Both P w base fp fr pr s N) (n : List UInt8) :
    Calls Try.prog 44 #[.pointer (some ⟨fr, 0, none⟩), .string ⟨n.toArray⟩] w fun e w' => ∃ p c, e = .returned (.tuple #[.slice p (rdB n s).length c, .int .i64 (atE n s.now)]) ∧ byIn w' p (rdB n s) ∧ (p = none → c = 0) ∧ (rdB n s).length ≤ c ∧ c ≤ 9223372036854775807 ∧ w.grownBy w' none := by
  obtain ⟨st, mo, xs, us, d, j⟩ := h.d
  have hbd := h.bd
  have hnl := j.nw.len
  by_cases h0 : atE n s.now = 0
  · refine (refRead_ok fr s n w h.r (by omega) (by omega) (by omega) j.ok h0).mono ?_
    rintro e w' ⟨⟨v, rfl, p, c, rfl, h2, h3, h4, h5⟩, g⟩
    have e0 : rdB n s = (getF s n).1 := by unfold rdB; rw [if_pos h0]
    have hl : (by8 (getF s n).1).length = (rdB n s).length := by rw [e0]; simp [by8]
    rw [hl] at h2 ⊢
    refine ⟨p, c, by rw [h0], ?_, h4, h2, h3, g⟩
    rw [e0]
    rcases h5 with h5 | ⟨g1, o1, e5, _, h5⟩
    · have hx : (getF s n).1 = [] := by cases hx : (getF s n).1 with
        | nil => rfl
        | cons a t => rw [hx] at h5; simp [by8] at h5
      rw [hx]
      cases p with
      | none => exact Or.inl ⟨rfl, rfl⟩
      | some a => exact Or.inr ⟨a, rfl, fun i x hx => by simp at hx⟩
    · right
      refine ⟨⟨g1, o1, none⟩, e5, fun i x hx => ?_⟩
      have := h5 i (.int .u8 (x.toNat : Int)) (by simp [by8, hx])
      rw [add_plain]; exact this
  · refine (refRead_err fr s n w h.r (by omega) (by omega) h0).mono ?_
    rintro e w' ⟨rfl, g⟩
    have e0 : rdB n s = [] := by unfold rdB; rw [if_neg h0]
    rw [e0]
    exact ⟨none, 0, rfl, Or.inl ⟨rfl, rfl⟩, fun _ => rfl, Nat.le_refl _, by omega, g⟩
theorem rFast {P : Nat → Prop} {w : World} {base fp fr pr N : Nat} {s : St} (h : Both P w base fp fr pr s N) (n : List UInt8) :
    Calls Try.prog 47 #[.pointer (some ⟨fr, 0, none⟩), .string ⟨n.toArray⟩] w fun e w' => e = .returned (.tuple #[.int .i64 (rdF n s : Int), .int .i64 (atE n s.now)]) ∧ w.grownBy w' none := by
  obtain ⟨st, mo, xs, us, d, j⟩ := h.d
  have hbd := h.bd
  have hnl := j.nw.len
  by_cases h0 : atE n s.now = 0
  · have e0 : rdF n s = (getF s n).2 := by unfold rdF; rw [if_pos h0]
    rw [e0, h0]
    exact refFast_ok fr s n w h.r (by omega) (by omega) (by omega) j.ok h0
  · have e0 : rdF n s = 0 := by unfold rdF; rw [if_neg h0]
    rw [e0]
    exact refFast_err fr s n w h.r (by omega) (by omega) h0
end Go.Proofs.Ytdiehlioemmakaa

