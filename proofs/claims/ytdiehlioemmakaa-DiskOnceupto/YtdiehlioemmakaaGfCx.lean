/-
  The law DiskOnce.
-/
import Derived.Test.YtdiehlioemmakaaGfBx
namespace Go.Proofs.Ytdiehlioemmakaa
open Go.RowKit Go.Maps Go.Joins

theorem bmore {b : Nat} {w W W' : World} {Q : Nat → Prop} (h : Below b w W) (hc : Chg Q W W') (hs : b ≤ W.heap.size) (hQ : ∀ i, Q i → b ≤ i) : Below b w W' := h.trans (hc.below hs hQ)
theorem bgrew {b : Nat} {w W W' : World} (h : Below b w W) (hg : W.grownBy W' none) (hs : b ≤ W.heap.size) : Below b w W' := h.trans ⟨hg.os, hg.tape, hg.output, hg.size, fun k hk => hg.block k (Nat.lt_of_lt_of_le hk hs) (by simp)⟩
theorem int_far {w W w' : World} {Q : Nat → Prop} {P : Option Addr} {l : List Int} (hk : intIn w P l) (hb : l ≠ [] → ∀ a, P = some a → a.block < w.heap.size) (B : Below w.heap.size w W) (hc : Chg Q W w') (hQ : ∀ i, Q i → w.heap.size ≤ i) : intIn w' P l :=
  (hk.chg (chgBl B) (fun ne a e hx => by have := hb ne a e; omega)).chg hc (fun ne a e hx => by have := hb ne a e; have := hQ _ hx; omega)
/-- the loop that makes all fast -/
structure LoQ (w wr : World) (b6 base fp : Nat) (q : Int) (NS : List (List UInt8)) (Pl : Option Addr) (L Cl : Nat) : Prop where
  d : ∃ Q A, Dz Q wr base fp q A ∧ A.map (·.1) = NS ∧ (∀ p ∈ A, p.2.2 = p.2.1.length) ∧ ∀ g, (Value.slice Pl L Cl).ownBlock = some g → ¬ Q g
  r : wr.ownsRow b6 9 1 (.slice Pl L Cl) L (NS.map encStr)
  b : Below w.heap.size w wr
set_option maxHeartbeats 8000000 in
set_option maxRecDepth 1000000 in
theorem DiskOnce_bad (q : Int) (va vk vg vn vm : Value) (w : World) (h : q < 0 ∨ 16777216 < q) : Calls Try.prog 5 #[.int .i64 q, va, vk, vg, vn, vm] w fun e w' => e = .returned (.bool true) ∧ Below w.heap.size w w' := by
  have LI := mkHid (lives_any w)
  go_enter Try.func5, Try.ntmps5
  go_wp2_with fail
  refine LI.out.mono ?_
  rintro e w0 ⟨rfl, B0⟩
  have PL := mkHid (played_bad q va w0 h)
  have HB := mkHid B0
  clear B0
  go_wp2_with fail
  refine PL.out.mono ?_
  rintro e wx ⟨rfl, hwx⟩; have hwx2 := hwx.symm; subst hwx2; clear hwx
  go_wp2_with fail
  go_ret
  exact ⟨rfl, HB.out⟩
set_option maxHeartbeats 8000000 in
set_option maxRecDepth 1000000 in
theorem DiskOnce_ok (q : Int) (l : List AcV) (Pa : Option Addr) (Ca : Nat) (keeps : List Int) (Pk : Option Addr) (Ck : Nat) (again : List Int) (Pg : Option Addr) (Cg : Nat) (names more : Int) (w : World) (h0 : 0 ≤ q) (h1 : q ≤ 16777216) (hl : l.length ≤ 1900000) (ha : acsIn w w.heap.size Pa l) (hn : -9223372036854775808 ≤ names ∧ names ≤ 9223372036854775807) (hm : -9223372036854775808 ≤ more ∧ more ≤ 9223372036854775807) (hk : intIn w Pk keeps) (hkb : keeps ≠ [] → ∀ a, Pk = some a → a.block < w.heap.size) (hkr : ∀ x ∈ keeps, -9223372036854775808 ≤ x ∧ x ≤ 9223372036854775807) (hkl : keeps.length ≤ 1000000000) (hg : intIn w Pg again) (hgb : again ≠ [] → ∀ a, Pg = some a → a.block < w.heap.size) (hgr : ∀ x ∈ again, -9223372036854775808 ≤ x ∧ x ≤ 9223372036854775807) (hgl : again.length ≤ 1000000000) : Calls Try.prog 5 #[.int .i64 q, .slice Pa l.length Ca, .slice Pk keeps.length Ck, .slice Pg again.length Cg, .int .i64 names, .int .i64 more] w fun e w' => e = .returned (.bool true) ∧ Below w.heap.size w w' := by
  have LI := mkHid (lives_any w)
  have HA := mkHid ha
  have HKI : Hid (∀ (Q : Nat → Prop) (W w' : World), Below w.heap.size w W → Chg Q W w' → (∀ i, Q i → w.heap.size ≤ i) → intIn w' Pk keeps) := fun Q W w' B hc hQ => int_far hk hkb B hc hQ
  have HGI : Hid (∀ (Q : Nat → Prop) (W w' : World), Below w.heap.size w W → Chg Q W w' → (∀ i, Q i → w.heap.size ≤ i) → intIn w' Pg again) := fun Q W w' B hc hQ => int_far hg hgb B hc hQ
  have HKR := mkHid hkr
  have HGR := mkHid hgr
  clear ha hk hkb hkr hg hgb hgr
  go_enter Try.func5, Try.ntmps5
  go_wp2_with fail
  refine LI.out.mono ?_
  rintro e w0 ⟨rfl, B0⟩
  have PL := mkHid (played_ok q l Pa Ca w0 h0 h1 hl (HA.out.up B0))
  have HB0 := mkHid B0
  have hs0 := mkHid B0.size
  clear B0 LI
  go_wp2_with fail
  refine PL.out.mono ?_
  rintro e w1 ⟨fp, fr, pr, P, s, rfl, BB, B1⟩
  obtain ⟨b0, hb0⟩ : ∃ b0, b0 = w0.heap.size := ⟨_, rfl⟩
  have hbw : Hid (w.heap.size ≤ b0) := by rw [hb0]; exact hs0.out
  have BL1 : Hid (Below w.heap.size w w1) := HB0.out.trans ⟨B1.os, B1.tape, B1.output, B1.size, fun k hk => B1.block k (by have := hs0.out; omega)⟩
  rw [← hb0] at BB
  have hpb1 : Hid (∀ i, P i → w.heap.size ≤ i) := fun i hi => by
    obtain ⟨_, _, _, _, d, _⟩ := BB.d
    have := (d.pb i hi).1; have := hbw.out; omega
  have CR1 := mkHid (Dz.first BB (by omega) keeps Pk Ck names hn (fun w' hc => HKI.out P w1 w' BL1.out hc hpb1.out) HKR.out hkl)
  obtain ⟨Q, hQe⟩ : ∃ Q, Q = s.q := ⟨_, rfl⟩
  rw [← hQe] at CR1
  clear BB B1 PL HB0 hs0 hb0 hQe HA HKR
  go_wp2_with fail
  refine CR1.out.mono ?_
  rintro e w2 ⟨rfl, A, dz2, fa2, c2⟩
  have BL2 := mkHid (bmore BL1.out c2 BL1.out.size hpb1.out)
  obtain ⟨P2, hP2⟩ : ∃ P2, P2 = ext P w1 w2 := ⟨_, rfl⟩
  rw [← hP2] at dz2
  have D2 := mkHid dz2
  have FA := mkHid fa2
  have IM2 := mkHid dz2.image
  clear dz2 fa2 c2 hP2 CR1 BL1 hpb1 HKI
  go_wp2_with fail
  refine IM2.out.mono ?_
  rintro e w3 ⟨Pi, Ci, rfl, en3, st3, g3⟩
  obtain ⟨L, hL⟩ : ∃ L, L = A.length := ⟨_, rfl⟩
  have hLb : L ≤ 64 := by rw [hL]; exact D2.out.facts.2.1
  rw [← hL]
  have HL := mkHid hL
  have D3 := mkHid (D2.out.kept g3)
  have BL3 := mkHid (bgrew BL2.out g3 BL2.out.size)
  have ST3 : Hid (∀ w', Chg P2 w3 w' → enIn w' Pi A) := fun w' hc => st3 P2 (fun i hi => (D2.out.pb i hi).2) w' hc
  have PB : Hid (∀ i, P2 i → w.heap.size ≤ i) := fun i hi => by have := (D2.out.pb i hi).1; have := hbw.out; omega
  have CR2 : Hid (Calls Try.prog 17 #[.pointer (some ⟨fp, 0, none⟩), .slice Pg again.length Cg, .int .i64 more] w3 fun e w' => e = .returned (.tuple #[]) ∧ Dz (ext P2 w3 w') w' b0 fp Q A ∧ Chg P2 w3 w') := by
    have h5 := D3.out.crash again Pg Cg more hm (fun w' hc => HGI.out P2 w3 w' BL3.out hc PB.out) HGR.out hgl
    rw [cuts_once again 0 A FA.out] at h5
    exact h5
  clear en3 st3 g3 hL IM2 BL2 D2 D3
  go_wp2_with fail
  refine CR2.out.mono ?_
  rintro e w4 ⟨rfl, dz4, c4⟩
  have EN4 := mkHid (ST3.out w4 c4)
  have BL4 := mkHid (bmore BL3.out c4 BL3.out.size PB.out)
  obtain ⟨P4, hP4⟩ : ∃ P4, P4 = ext P2 w3 w4 := ⟨_, rfl⟩
  rw [← hP4] at dz4
  have D4 := mkHid dz4
  have IM4 := mkHid dz4.image
  clear dz4 c4 hP4 CR2 BL3 PB ST3
  go_wp2_with fail
  refine IM4.out.mono ?_
  rintro e w5 ⟨Pj, Cj, rfl, en5, st5, g5⟩
  rw [show A.length = L from HL.out.symm]
  have D5 := mkHid (D4.out.kept g5)
  have BL5 := mkHid (bgrew BL4.out g5 BL4.out.size)
  have IE := mkHid (Images_any A Pi Pj Ci Cj L w5 HL.out.symm (by omega) (EN4.out.grow g5) en5)
  clear en5 st5 g5 IM4 D4 BL4 EN4
  go_wp2_with fail
  refine IE.out.mono ?_
  rintro e w6 ⟨rfl, g6⟩
  have D6 := mkHid (D5.out.kept g6)
  have BL6 := mkHid (bgrew BL5.out g6 BL5.out.size)
  have OP := mkHid (D6.out.open_)
  clear g6 IE D5 BL5
  go_wp2_with fail
  refine OP.out.mono ?_
  rintro e wx ⟨rfl, hwx⟩; have hwx2 := hwx.symm; subst hwx2; clear hwx
  have LS := mkHid D6.out.list
  clear OP
  go_wp2_with fail
  refine LS.out.mono ?_
  rintro e w7 ⟨v7, rfl, r7, g7⟩
  rw [show A.length = L from HL.out.symm] at r7
  obtain ⟨Pl, Cl, hv7⟩ := row_formS r7
  subst hv7
  obtain ⟨NS, hNS⟩ : ∃ NS, NS = A.map (·.1) := ⟨_, rfl⟩
  rw [← hNS] at r7
  have hNL : NS.length = L := by rw [hNS, List.length_map]; exact HL.out.symm
  have HNL := mkHid hNL
  obtain ⟨b6, hb6⟩ : ∃ b6, b6 = w6.heap.size := ⟨_, rfl⟩
  rw [← hb6] at r7
  have I0 : Hid (LoQ w w7 b6 b0 fp Q NS Pl L Cl) := ⟨⟨P4, A, D6.out.kept g7, hNS.symm, FA.out, fun g hg hp => by
    have h1 := (D6.out.pb g hp).2
    rcases r7.2 with ⟨e, _⟩ | ⟨g', _, _, e, hge, _⟩
    · rw [e] at hg; cases hg
    · rw [e] at hg; cases hg; exact absurd h1 (Nat.not_lt.2 (hb6 ▸ hge))⟩, r7, bgrew BL6.out g7 BL6.out.size⟩
  clear r7 g7 hNS hb6 LS D6 BL6 FA HL hNL
  go_wp2_with fail
  go_loopw [17] (fun s17 wr => ∃ (i : Nat), s17 = .int .i64 (i : Int) ∧ i ≤ L ∧ Hid (LoQ w wr b6 b0 fp Q NS Pl L Cl)) (fun s17 _ => L - (intOf s17).toNat)
  case atStart => exact ⟨0, rfl, Nat.zero_le _, I0⟩
  case round =>
    obtain ⟨i, rfl, hi, HI⟩ := hrel
    by_cases hlt : i < L
    · have hlti : (i : Int) < (L : Int) := by omega
      obtain ⟨n, hn5⟩ : ∃ n, NS[i]? = some n := ⟨NS[i]'(by have : NS.length = L := HNL.out; omega), List.getElem?_eq_getElem _⟩
      obtain ⟨⟨Q5, A5, dz5, nm5, fa5, nq5⟩, r5, bl5⟩ := HI.out
      obtain ⟨g1, hg1e⟩ : ∃ g, Pl = some ⟨g, 0, none⟩ := by
        rcases r5.2 with ⟨e, h0⟩ | ⟨g, cap, cur, e, _⟩
        · exfalso; omega
        · cases e; exact ⟨g, rfl⟩
      subst hg1e
      have cnm : wr.cell? ⟨g1, i, none⟩ = some (.string ⟨n.toArray⟩) := by
        rw [World.ownsRow.cellAt r5 i (by omega), List.getElem?_map, hn5]; rfl
      have hmem : n ∈ A5.map (·.1) := by rw [nm5]; exact List.mem_of_getElem? hn5
      have ga := World.grownBy_alloc wr (.cells #[.int .u8 120] 5 (1, 2)) none
      have PB5 : Hid (∀ i, Q5 i → w.heap.size ≤ i ∧ i < wr.heap.size) := fun i hi => by have := dz5.pb i hi; have := hbw.out; omega
      have AP : Hid (Calls Try.prog 22 #[.pointer (some ⟨fp, 0, none⟩), .string ⟨n.toArray⟩, .slice (some ⟨wr.heap.size, 0, none⟩) 1 1] (wr.alloc (.cells #[.int .u8 120] 5 (1, 2))) fun e w' => ∃ k A', e = .returned (.int .i64 k) ∧ A'.map (·.1) = A5.map (·.1) ∧ (∀ p ∈ A', p.1 ≠ n → p ∈ A5) ∧ Dz (ext Q5 (wr.alloc (.cells #[.int .u8 120] 5 (1, 2))) w') w' b0 fp Q A' ∧ Chg Q5 (wr.alloc (.cells #[.int .u8 120] 5 (1, 2))) w') := (dz5.kept ga).append n [120] (some ⟨wr.heap.size, 0, none⟩) 1 hmem (lit_in wr _ _ _ rfl) (fun a e hp => by cases e; exact absurd (PB5.out _ hp).2 (Nat.lt_irrefl _)) (fun e => by cases e) (Nat.le_refl _)
      have cv : (convert 27 27 (.slice (some ⟨wr.heap.size, 0, none⟩) 1 1)).run Try.prog (wr.alloc (.cells #[.int .u8 120] 5)) = .ok (.slice (some ⟨wr.heap.size, 0, none⟩) 1 1) (wr.alloc (.cells #[.int .u8 120] 5 (1, 2))) := run_convert_bytes_const_at wr 27 5 _ 1 1 wr.heap.size rfl u8Slice u8T
      have hwl := World.block_lt_of_cell? wr _ cnm
      have HM : Hid (n ∈ NS) := by rw [← nm5]; exact hmem
      have R8 : Hid (∀ w', Chg Q5 (wr.alloc (.cells #[.int .u8 120] 5 (1, 2))) w' → w'.ownsRow b6 9 1 (.slice (some ⟨g1, 0, none⟩) L Cl) L (NS.map encStr) ∧ Below w.heap.size w w' ∧ w'.cell? ⟨g1, i, none⟩ = some (.string ⟨n.toArray⟩)) := fun w' hc => by
        have r6 := hc.row (World.ownsRow.kept r5 ga (by right; simp [Value.ownBlock])) (fun g hg => nq5 g hg)
        refine ⟨r6, bmore (bgrew bl5 ga bl5.size) hc (Nat.le_trans bl5.size ga.size) (fun i hi => (PB5.out i hi).1), ?_⟩
        rw [World.ownsRow.cellAt r6 i (by omega), List.getElem?_map, hn5]; rfl
      have NM5 := mkHid nm5
      have FA5 := mkHid fa5
      have NQ5 : Hid (∀ w8, (ext Q5 (wr.alloc (.cells #[.int .u8 120] 5 (1, 2))) w8) g1 → False) := fun w8 hp => by
        rcases hp with hp | hp
        · exact nq5 g1 rfl hp
        · exact absurd (Nat.lt_of_lt_of_le hwl (Nat.le_trans ga.size hp.1)) (Nat.lt_irrefl _)
      clear r5 bl5 dz5 nm5 fa5 nq5 hmem hn5 ga HI
      go_wp2_with fail
      refine AP.out.mono ?_
      rintro e w8 ⟨k8, A8, rfl, nm8, pp8, dz8, c8⟩
      obtain ⟨r8, bl8, cn8⟩ := R8.out w8 c8
      obtain ⟨P8, hP8⟩ : ∃ P8, P8 = ext Q5 (wr.alloc (.cells #[.int .u8 120] 5 (1, 2))) w8 := ⟨_, rfl⟩
      have nq8 : ¬ P8 g1 := fun hp => NQ5.out w8 (by rw [← hP8]; exact hp)
      rw [← hP8] at dz8
      have SY := mkHid (dz8.sync n (by rw [nm8, NM5.out]; exact HM.out))
      have hwl8 := World.block_lt_of_cell? w8 _ cn8
      have H8 : Hid (∀ A9 w9, A9.map (·.1) = A8.map (·.1) → (∀ p ∈ A9, p.1 = n → p.2.2 = p.2.1.length) → (∀ p ∈ A9, p.1 ≠ n → p ∈ A8) → Dz (ext P8 w8 w9) w9 b0 fp Q A9 → Chg P8 w8 w9 → LoQ w w9 b6 b0 fp Q NS (some ⟨g1, 0, none⟩) L Cl) := fun A9 w9 nm9 fa9 pp9 dz9 c9 => by
        refine ⟨⟨_, A9, dz9, nm9.trans (nm8.trans NM5.out), fun p hp => ?_, fun g hg hp => ?_⟩, c9.row r8 (fun g hg => by cases hg; exact nq8), bmore bl8 c9 bl8.size (fun i hi => by have := (dz8.pb i hi).1; have := hbw.out; omega)⟩
        · by_cases he : p.1 = n
          · exact fa9 p hp he
          · exact FA5.out p (pp8 p (pp9 p hp he) he)
        · cases hg
          rcases hp with hp | hp
          · exact nq8 hp
          · exact absurd (Nat.lt_of_lt_of_le hwl8 hp.1) (Nat.lt_irrefl _)
      clear r8 bl8 nm8 pp8 dz8 c8 hP8 nq8 AP R8 NQ5 FA5 NM5 PB5 cv cnm hwl
      go_wp2_with fail
      refine SY.out.mono ?_
      rintro e w9 ⟨A9, rfl, nm9, fa9, pp9, dz9, c9⟩
      have J9 := mkHid (H8.out A9 w9 nm9 fa9 pp9 dz9 c9)
      clear nm9 fa9 pp9 dz9 c9 H8 SY
      go_wp2_with fail
      go_roundw
      case rel => exact ⟨i + 1, by go_num, hlt, J9⟩
      case measure => simp [intOf]; omega
    · have hlti : ¬ (i : Int) < (L : Int) := by omega
      obtain ⟨⟨Q5, A5, dz5, nm5, fa5, nq5⟩, r5, bl5⟩ := HI.out
      have hA5 : A5.length = L := by rw [← List.length_map (f := fun p : List UInt8 × (List UInt8 × Nat) => p.1), nm5]; exact HNL.out
      have HA5 := mkHid hA5
      have SN := mkHid dz5.syncNames
      have PB5 : Hid (∀ i, Q5 i → w.heap.size ≤ i) := fun i hi => by have := dz5.pb i hi; have := hbw.out; omega
      have BL := mkHid bl5
      have FA5 := mkHid fa5
      clear r5 bl5 dz5 nm5 fa5 nq5 hA5 HI
      go_wp2_with fail
      refine SN.out.mono ?_
      rintro e w10 ⟨rfl, dz10, c10⟩
      have BL10 := mkHid (bmore BL.out c10 BL.out.size PB5.out)
      obtain ⟨P10, hP10⟩ : ∃ P10, P10 = ext Q5 wr w10 := ⟨_, rfl⟩
      rw [← hP10] at dz10
      have D10 := mkHid dz10
      have IM10 := mkHid dz10.image
      have PB10 : Hid (∀ i, P10 i → w.heap.size ≤ i) := fun i hi => by have := (D10.out.pb i hi).1; have := hbw.out; omega
      clear dz10 c10 hP10 SN BL PB5
      go_wp2_with fail
      refine IM10.out.mono ?_
      rintro e w11 ⟨Pi, Ci, rfl, en11, st11, g11⟩
      rw [show A5.length = L from HA5.out]
      have BL11 := mkHid (bgrew BL10.out g11 BL10.out.size)
      have ST11 : Hid (∀ w', Chg P10 w11 w' → enIn w' Pi A5) := fun w' hc => st11 P10 (fun i hi => (D10.out.pb i hi).2) w' hc
      have CR11 : Hid (Calls Try.prog 17 #[.pointer (some ⟨fp, 0, none⟩), .slice Pg again.length Cg, .int .i64 more] w11 fun e w' => e = .returned (.tuple #[]) ∧ Dz (ext P10 w11 w') w' b0 fp Q A5 ∧ Chg P10 w11 w') := by
        have h5 := (D10.out.kept g11).crash again Pg Cg more hm (fun w' hc => HGI.out P10 w11 w' BL11.out hc PB10.out) HGR.out hgl
        rw [cuts_once again 0 A5 FA5.out] at h5
        exact h5
      clear en11 st11 g11 IM10 BL10
      go_wp2_with fail
      refine CR11.out.mono ?_
      rintro e w12 ⟨rfl, dz12, c12⟩
      have EN12 := mkHid (ST11.out w12 c12)
      have BL12 := mkHid (bmore BL11.out c12 BL11.out.size PB10.out)
      have IM12 := mkHid dz12.image
      clear dz12 c12 CR11 BL11 ST11
      go_wp2_with fail
      refine IM12.out.mono ?_
      rintro e w13 ⟨Pj, Cj, rfl, en13, st13, g13⟩
      rw [show A5.length = L from HA5.out]
      have BL13 := mkHid (bgrew BL12.out g13 BL12.out.size)
      have IE := mkHid (Images_any A5 Pi Pj Ci Cj L w13 HA5.out (by omega) (EN12.out.grow g13) en13)
      clear en13 st13 g13 IM12 BL12 EN12
      go_wp2_with fail
      refine IE.out.mono ?_
      rintro e w14 ⟨rfl, g14⟩
      have BL14 := mkHid (bgrew BL13.out g14 BL13.out.size)
      clear g14 IE
      go_wp2_with fail
      go_ret
      exact ⟨rfl, BL14.out⟩
end Go.Proofs.Ytdiehlioemmakaa
