/-
  The law DiskApart.
-/
import Derived.Test.YtdiehlioemmakaaGgFpx
import Derived.Test.YtdiehlioemmakaaUN
namespace Go.Proofs.Ytdiehlioemmakaa
open Go.RowKit Go.Maps Go.Joins

/-- entries of an image, in blocks between two numbers -/
def EnS (lo hi : Nat) (w : World) (P : Option Addr) (A : Ab') : Prop := ∀ (i : Nat) (z : List UInt8 × (List UInt8 × Nat)), A[i]? = some z → ∃ g Pz Cz, P = some ⟨g, 0, none⟩ ∧ enAt w g i z Pz Cz ∧ (lo ≤ g ∧ g < hi) ∧ (z.2.1 ≠ [] → ∀ a, Pz = some a → lo ≤ a.block ∧ a.block < hi)
theorem EnS.en {lo hi : Nat} {w : World} {P : Option Addr} {A : Ab'} (h : EnS lo hi w P A) : enIn w P A := fun i z hz => by
  obtain ⟨g, Pz, Cz, e, h1, _⟩ := h i z hz
  exact ⟨g, Pz, Cz, e, h1⟩
theorem EnS.chg {S : Nat → Prop} {lo hi : Nat} {w w' : World} {P : Option Addr} {A : Ab'} (h : EnS lo hi w P A) (hc : Chg S w w') (hS : ∀ i, S i → i < lo ∨ hi ≤ i) : EnS lo hi w' P A := fun i z hz => by
  obtain ⟨g, Pz, Cz, e, ⟨h1, h2, h3, h4, h5⟩, hg, hb⟩ := h i z hz
  have ng : ¬ S g := fun e => by have := hS g e; omega
  refine ⟨g, Pz, Cz, e, ⟨cellC hc h1 ng, cellC hc h2 ng, cellC hc h3 ng, h4.chg0 hc (fun ne a ea hs => ?_), h5⟩, hg, hb⟩
  have := hb ne a ea
  have := hS _ hs
  omega
theorem EnS.grow {lo hi : Nat} {w w' : World} {P : Option Addr} {A : Ab'} (h : EnS lo hi w P A) (hg : w.grownBy w' none) : EnS lo hi w' P A := h.chg (Chg.of_none hg (fun _ => False)) (fun _ e => e.elim)
theorem imgIn.ens {w : World} {base : Nat} {P : Option Addr} {C L : Nat} {zs : List (List UInt8 × Fl)} (h : imgIn w base (.slice P L C) zs) (hL : zs.length = L) : EnS base w.heap.size w P (absX zs) := fun i z hz => by
  obtain ⟨y, hy⟩ : ∃ y, zs[i]? = some y := by
    have hi := (List.getElem?_eq_some_iff.1 hz).1
    rw [abs_len] at hi
    exact ⟨zs[i], List.getElem?_eq_getElem hi⟩
  obtain ⟨g, e, h1, h2, h3, Pz, Cz, ez, ho⟩ := h.at_ hL hy
  have hz2 : z = (y.1, (y.2.l, y.2.k)) := by
    have : (absX zs)[i]? = some (y.1, (y.2.l, y.2.k)) := by simp [absX, hy]
    rw [this] at hz; exact (Option.some.inj hz).symm
  subst hz2
  have ob := own_by ho
  subst e
  obtain ⟨cs, hk⟩ := own_kind h.row g rfl
  refine ⟨g, Pz, Cz, rfl, ⟨h1, by rw [h2, ez], h3, ob.1, ob.2.1⟩, ⟨?_, lt_of_heap hk⟩, fun _ a ea => ob.2.2.2 a ea⟩
  rcases h.row.2 with ⟨e, _⟩ | ⟨g', _, _, e, hge, _⟩
  · cases e
  · cases e; exact hge
def ImP (w : World) (A : Ab') (e : Ending) (w' : World) : Prop := ∃ P C, e = .returned (.slice P A.length C) ∧ EnS w.heap.size w'.heap.size w' P A ∧ w.grownBy w' none
theorem Pr.image {G : Nat → Prop} {w : World} {fp fr pr : Nat} {s : St} (h : Pr G w fp fr pr s) : Calls Try.prog 16 #[.pointer (some ⟨fp, 0, none⟩)] w fun e w' => ImP w (absW s.fs s.now) e w' := by
  obtain ⟨Pv, base, st, mo, xs, us, dv, j, _⟩ := h.d
  refine (Image_dv base fp s.q st mo xs us w j.so (by have := j.len.2; omega) (fun p hp => ?_) dv).mono ?_
  · have h2 : p.1.length ≤ 64 := (nm_len (j.names (p.1, (p.2.l, p.2.k)) (List.mem_map.2 ⟨p, hp, rfl⟩))).2
    omega
  · rintro e w' ⟨v, zs, rfl, im, ab, g⟩
    have hl : zs.length = (absW s.fs s.now).length := by rw [← j.ab, ← ab, abs_len]
    obtain ⟨P, C, hv⟩ := row_formS im.row
    rw [hl] at hv
    subst hv
    have := im.im.ens hl
    rw [ab, j.ab] at this
    exact ⟨P, C, rfl, this, g⟩
/-- a pair whose disk will be cloned: it stands, whatever becomes of what its open changes hold -/
theorem Both.split {P : Nat → Prop} {w : World} {base fp fr pr N : Nat} {s : St} (h : Both P w base fp fr pr s N) : ∃ st mo xs us, Dsk P w base fp s.q st mo xs us ∧ Jn s st xs us ∧ Pr (lostS us) w fp fr pr s := by
  obtain ⟨st, mo, xs, us, d, j⟩ := h.d
  refine ⟨st, mo, xs, us, d, j, ⟨_, base, st, mo, xs, us, d.view, j, fun _ hi => hi.2⟩, h.r.less (fun i hi => d.lostP hi), fun e => h.nf.1 (d.lostP e), h.p, fun e => h.np.1 (d.lostP e), by have := h.bd; omega⟩
/-- a clone's pair and the elder one, while the clone goes on -/
structure Ap (w0 wr : World) (b fp fr pr f2 fr2 pr2 : Nat) (s : St) (lo hi N : Nat) (Pi : Option Addr) (A : Ab') : Prop where
  h : ∃ Py s' G, Both Py wr b f2 fr2 pr2 s' N ∧ Pr G wr fp fr pr s ∧ (∀ i, Py i → G i) ∧ G fr2 ∧ ∀ i, G i → i < lo ∨ hi ≤ i
  e : EnS lo hi wr Pi A
  b : Below b w0 wr
  hi : hi ≤ wr.heap.size
theorem Ap.step {w0 wr w' : World} {b fp fr pr f2 fr2 pr2 : Nat} {s : St} {lo hi N : Nat} {Pi : Option Addr} {A : Ab'} (hE : EnS lo hi wr Pi A) (hb : Below b w0 wr) (hh : hi ≤ wr.heap.size) {Py G : Nat → Prop} (hP : Pr G wr fp fr pr s) (hG : ∀ i, Py i → G i) (hf : G fr2) (hl : ∀ i, G i → i < lo ∨ hi ≤ i) (hD : DoesQ Py wr b f2 fr2 pr2 N w') : Ap w0 w' b fp fr pr f2 fr2 pr2 s lo hi N Pi A := by
  obtain ⟨P', s', B', L', C', S'⟩ := hD
  have hc : Chg G wr w' := C'.mono (fun i _ e => by rcases e with e | rfl; exact hG i e; exact hf)
  have hlt := B'.lt.2.2.2
  refine ⟨⟨P', s', ext G wr w', B', hP.away hc, fun i hi2 => ?_, ext_le hf, fun i hi2 => ?_⟩, hE.chg hc hl, hb.trans L', Nat.le_trans hh hc.size⟩
  · rcases S' i hi2 with e | e
    · exact ext_le (hG i e)
    · exact ext_new e (hlt i hi2)
  · rcases hi2 with e | e
    · exact hl i e
    · right; omega
set_option maxHeartbeats 8000000 in
set_option maxRecDepth 1000000 in
theorem DiskApart_bad (q : Int) (va vm vk vn : Value) (w : World) (h : q < 0 ∨ 16777216 < q) : Calls Try.prog 6 #[.int .i64 q, va, vm, vk, vn] w fun e w' => e = .returned (.bool true) ∧ Below w.heap.size w w' := by
  have LI := mkHid (lives_any w)
  go_enter Try.func6, Try.ntmps6
  go_wp2_with fail
  refine LI.out.mono ?_
  rintro e w0 ⟨rfl, B0⟩
  have PL := mkHid (Begins_bad q w0 h)
  have HB := mkHid B0
  clear B0
  go_wp2_with fail
  refine PL.out.mono ?_
  rintro e wx ⟨rfl, hwx⟩; have hwx2 := hwx.symm; subst hwx2; clear hwx
  go_wp2_with fail
  go_ret
  exact ⟨rfl, HB.out⟩
set_option maxHeartbeats 8000000 in
set_option maxRecDepth 1000000 in
theorem DiskApart_ok (q : Int) (l1 : List AcV) (P1 : Option Addr) (C1 : Nat) (l2 : List AcV) (P2 : Option Addr) (C2 : Nat) (keeps : List Int) (Pk : Option Addr) (Ck : Nat) (names : Int) (w : World) (h0 : 0 ≤ q) (h1 : q ≤ 16777216) (hl : l1.length + l2.length ≤ 1900000) (ha1 : acsIn w w.heap.size P1 l1) (ha2 : acsIn w w.heap.size P2 l2) (hn : -9223372036854775808 ≤ names ∧ names ≤ 9223372036854775807) (hk : intIn w Pk keeps) (hkb : keeps ≠ [] → ∀ a, Pk = some a → a.block < w.heap.size) (hkr : ∀ x ∈ keeps, -9223372036854775808 ≤ x ∧ x ≤ 9223372036854775807) (hkl : keeps.length ≤ 1000000000) : Calls Try.prog 6 #[.int .i64 q, .slice P1 l1.length C1, .slice P2 l2.length C2, .slice Pk keeps.length Ck, .int .i64 names] w fun e w' => e = .returned (.bool true) ∧ Below w.heap.size w w' := by
  have LI := mkHid (lives_any w)
  have HA1 := mkHid ha1
  have HA2 := mkHid ha2
  have HKI : Hid (∀ (Q : Nat → Prop) (W w' : World), Below w.heap.size w W → Chg Q W w' → (∀ i, Q i → w.heap.size ≤ i) → intIn w' Pk keeps) := fun Q W w' B hc hQ => int_far hk hkb B hc hQ
  have HKB := mkHid hkb
  have HKR := mkHid hkr
  obtain ⟨L1, hL1⟩ : ∃ L, L = l1.length := ⟨_, rfl⟩
  obtain ⟨L2, hL2⟩ : ∃ L, L = l2.length := ⟨_, rfl⟩
  have HL1 := mkHid hL1
  have HL2 := mkHid hL2
  rw [← hL1, ← hL2] at hl ⊢
  clear ha1 ha2 hk hkb hkr hL1 hL2
  go_enter Try.func6, Try.ntmps6
  go_wp2_with fail
  refine LI.out.mono ?_
  rintro e w0 ⟨rfl, B0⟩
  have BG := mkHid (Begins_ok q w0 h0 h1)
  have HB0 := mkHid B0
  have AC1 := mkHid (HA1.out.up B0)
  have AC2 := mkHid (HA2.out.up B0)
  obtain ⟨b, hb0⟩ : ∃ b, b = w0.heap.size := ⟨_, rfl⟩
  have hbw : Hid (w.heap.size ≤ b) := by rw [hb0]; exact B0.size
  unfold BegQ at BG
  rw [← hb0] at BG AC1 AC2
  clear B0 LI HA1 HA2
  go_wp2_with fail
  refine BG.out.mono ?_
  rintro e w1 ⟨fp, fr, pr, rfl, B1, E1⟩
  have I0 : Hid (∃ P s, Both P w1 b fp fr pr s 0 ∧ Below b w0 w1) := ⟨_, _, B1, E1⟩
  have hb0' := mkHid hb0
  clear B1 E1 BG hb0
  go_wp2_with fail
  go_loopw [13] (fun s13 wr => ∃ (i : Nat), s13 = .int .i64 (i : Int) ∧ i ≤ L1 ∧ Hid (∃ P s, Both P wr b fp fr pr s i ∧ Below b w0 wr)) (fun s13 _ => L1 - (intOf s13).toNat)
  case atStart => exact ⟨0, rfl, Nat.zero_le _, I0⟩
  case round =>
    obtain ⟨i, rfl, hi, HI⟩ := hrel
    by_cases hlt : i < L1
    · have hlti : (i : Int) < (L1 : Int) := by omega
      obtain ⟨a, hga⟩ : ∃ a, l1[i]? = some a := ⟨l1[i]'(by have : L1 = l1.length := HL1.out; omega), List.getElem?_eq_getElem _⟩
      obtain ⟨g, o, rfl, hgb, hcs⟩ : ∃ g o, P1 = some ⟨g, o, none⟩ ∧ g < b ∧ ∀ i a, l1[i]? = some a → acAt w0 g (o + i * 6) a := by
        rcases AC1.out.at_ with e | e
        · rw [e] at hga; simp at hga
        · exact e
      obtain ⟨P, s, BB, BL⟩ := HI.out
      have cs := (hcs i a hga).chg (chgBl BL) (by omega)
      obtain ⟨c0, c1, c2, c3, c4, c5⟩ := cs
      have hok := (AC1.out.ok a (List.mem_of_getElem? hga)).below BL
      have DO := mkHid (Does_any BB (by omega) a hok)
      have HBL := mkHid BL
      have hwl := World.block_lt_of_cell? wr _ c0
      clear hcs BB BL hok hga
      unfold AcV.val at DO
      go_wp2_with fail
      refine DO.out.mono ?_
      rintro e w2 ⟨rfl, P9, s9, B9, E9, _, _⟩
      have J2 : Hid (∃ P s, Both P w2 b fp fr pr s (i + 1) ∧ Below b w0 w2) := ⟨P9, s9, B9, HBL.out.trans E9⟩
      clear B9 E9 DO
      go_wp2_with fail
      go_roundw
      case rel => exact ⟨i + 1, by go_num, hlt, J2⟩
      case measure => simp [intOf]; omega
    · have hlti : ¬ (i : Int) < (L1 : Int) := by omega
      have e : i = L1 := by omega
      subst e
      clear I0 AC1 HL1
      obtain ⟨P, s, BB, BL⟩ := HI.out
      have HBB := mkHid BB
      have HBL := mkHid BL
      have f0 : wr.cell? ⟨pr, 0, none⟩ = some (.pointer (some ⟨fp, 0, none⟩)) := (cell_of_block BB.p 0).trans rfl
      have hwl := World.block_lt_of_cell? wr _ f0
      have IM := mkHid BB.pr.image
      obtain ⟨A, hA⟩ : ∃ A, A = absW s.fs s.now := ⟨_, rfl⟩
      rw [← hA] at IM
      have hAl : A.length ≤ 64 := by
        obtain ⟨_, _, xs, _, _, j⟩ := BB.d
        rw [hA, absW_len]; have := j.len; omega
      have HA := mkHid hA
      clear BB BL HI hA
      go_wp2_with fail
      refine IM.out.mono ?_
      rintro e w3 ⟨Pi, Ci, rfl, en3, g3⟩
      obtain ⟨AL, hAL⟩ : ∃ AL, AL = A.length := ⟨_, rfl⟩
      rw [← hAL] at hAl ⊢
      have HAL := mkHid hAL
      obtain ⟨lo, hlo⟩ : ∃ lo, lo = wr.heap.size := ⟨_, rfl⟩
      obtain ⟨hi3, hhi⟩ : ∃ hi3, hi3 = w3.heap.size := ⟨_, rfl⟩
      rw [← hlo, ← hhi] at en3
      obtain ⟨st, mo, xs, us, d, j, PR⟩ := HBB.out.split
      have d3 := d.kept g3
      have PR3 := PR.grow g3
      have hnm : ∀ p ∈ xs, p.1.length ≤ 64 := fun p hp => (nm_len (j.names (p.1, (p.2.l, p.2.k)) (List.mem_map.2 ⟨p, hp, rfl⟩))).2
      have hbd := HBB.out.bd
      have hul := j.ul
      have CL := mkHid (Clone_dsk b fp s.q st mo xs us w3 j.so (by have := j.len.2; omega) hnm (by omega) d3)
      have BL3 : Hid (Below b w0 w3) := bgrew HBL.out g3 d.bs
      have f3 : w3.cell? ⟨pr, 0, none⟩ = some (.pointer (some ⟨fp, 0, none⟩)) := (cell_of_block PR3.p 0).trans rfl
      have hwl3 := World.block_lt_of_cell? w3 _ f3
      have J := mkHid j
      have PRH := mkHid PR3
      have LST : Hid (∀ i, lostS us i → b ≤ i ∧ i < lo) := fun i hi => by rw [hlo]; exact d.pb i (d.lostP hi)
      have EN3 := mkHid en3
      have hhi' := mkHid hhi
      clear d PR PR3 j en3 g3 hnm hAL hlo hhi f0 hwl HBL IM hul
      unfold ClQ at CL
      go_wp2_with fail
      refine CL.out.mono ?_
      rintro e w4 ⟨f2, m2, xs2, rfl, ab4, D4, g4, hf2⟩
      obtain ⟨P4, hP4⟩ : ∃ P4, P4 = ext (lostS us) w3 w4 := ⟨_, rfl⟩
      have PR4 : Hid (Pr P4 w4 fp fr pr s) := by rw [hP4]; exact PRH.out.away (Chg.of_none g4 _)
      rw [← hP4] at D4
      have S4 : Hid (∀ i, P4 i → i < lo ∨ hi3 ≤ i) := fun i hi => by
        rw [hP4] at hi
        rcases hi with hi | hi
        · exact Or.inl (LST.out i hi).2
        · have e5 : hi3 = w3.heap.size := hhi'.out
          right; rw [e5]; exact hi.1
      have jx : absX xs2 = A := by rw [ab4, J.out.ab]; exact HA.out.symm
      have j2 := J.out.same ab4
      have IM4 : Hid (Calls Try.prog 16 #[.pointer (some ⟨f2, 0, none⟩)] w4 fun e w' => ImZ w4 A e w') := by
        refine (Image_any b f2 s.q st (some m2) xs2 us w4 j2.so (by have := j2.len.2; omega) (fun p hp => ?_) D4).mono (fun e w' h => by have := ImZ.of h; rw [jx] at this; exact this)
        have h2 : p.1.length ≤ 64 := (nm_len (j2.names (p.1, (p.2.l, p.2.k)) (List.mem_map.2 ⟨p, hp, rfl⟩))).2
        omega
      have DH4 := mkHid D4
      have J2 := mkHid j2
      have EN4 := mkHid (EN3.out.grow g4)
      have BL4 : Hid (Below b w0 w4) := bgrew BL3.out g4 d3.bs
      have hs4 : Hid (hi3 ≤ w4.heap.size) := by have e5 : hi3 = w3.heap.size := hhi'.out; rw [e5]; exact g4.size
      clear D4 g4 hP4 ab4 j2 jx CL PRH EN3 LST d3 BL3 f3 hwl3
      go_wp2_with fail
      refine IM4.out.mono ?_
      rintro e w5 ⟨Pj, Cj, rfl, en5, _, g5⟩
      rw [show A.length = AL from HAL.out.symm]
      have IE := mkHid (Images_any A Pj Pi Cj Ci AL w5 HAL.out.symm (by omega) en5 (EN4.out.grow g5).en)
      have G5 := mkHid g5
      clear en5 g5 IM4
      go_wp2_with fail
      refine IE.out.mono ?_
      rintro e w6 ⟨rfl, g6⟩
      have G6 := mkHid (grTrans G5.out g6)
      have D6 := mkHid (DH4.out.kept G6.out)
      have EN6 := mkHid (EN4.out.grow G6.out)
      have PR6 : Hid (Pr (ext P4 w4 w6) w6 fp fr pr s) := PR4.out.away (Chg.of_none G6.out _)
      have BL6 : Hid (Below b w0 w6) := bgrew BL4.out G6.out DH4.out.bs
      have BW6 : Hid (Below w.heap.size w w6) := HB0.out.trans ⟨BL6.out.os, BL6.out.tape, BL6.out.output, BL6.out.size, fun k hk => BL6.out.block k (by have := hbw.out; omega)⟩
      have PB4 : Hid (∀ i, P4 i → b ≤ i) := fun i hi => (DH4.out.pb i hi).1
      have hs6 : Hid (hi3 ≤ w6.heap.size) := Nat.le_trans hs4.out G6.out.size
      have CR : Hid (Calls Try.prog 17 #[.pointer (some ⟨f2, 0, none⟩), .slice Pk keeps.length Ck, .int .i64 names] w6 fun e w' => e = .returned (.tuple #[]) ∧ ∃ xs', Jn (crashS keeps names s) 0 xs' [] ∧ Dsk (ext P4 w6 w') w' b f2 s.q 0 (some m2) xs' [] ∧ Chg P4 w6 w') := by
        have hul : us.length ≤ 9000000 := by have := J2.out.ul; omega
        refine (Crash_any b f2 s.q st (some m2) xs2 us keeps Pk Ck names (fun j => absW s.fs (s.ways.getD j [])) w6 hn hul J2.out.una.1 J2.out.una.2.1 J2.out.una.2.2.1 J2.out.una.2.2.2 (fun w' hc => HKI.out P4 w6 w' BW6.out hc (fun i hi => Nat.le_trans hbw.out (PB4.out i hi))) HKR.out (by omega) D6.out).mono ?_
        rintro e w' ⟨rfl, xs', hx, d', c⟩
        exact ⟨rfl, xs', J2.out.crash keeps names hx, d', c⟩
      have SG6 : Hid (∀ i, ext P4 w4 w6 i → i < lo ∨ hi3 ≤ i) := fun i hi => by
        rcases hi with hi | hi
        · exact S4.out i hi
        · right; exact Nat.le_trans hs4.out hi.1
      have BLs4 := mkHid G6.out.size
      have d4b := mkHid DH4.out.bs
      clear g6 G5 G6 DH4 EN4 PR4 BL4 IE hs4
      go_wp2_with fail
      refine CR.out.mono ?_
      rintro e w7 ⟨rfl, xs7, j7, d7, c7⟩
      obtain ⟨P7, hP7⟩ : ∃ P7, P7 = ext P4 w6 w7 := ⟨_, rfl⟩
      obtain ⟨G7, hG7⟩ : ∃ G7, G7 = ext (ext P4 w4 w6) w6 w7 := ⟨_, rfl⟩
      have PG : ∀ i, P7 i → G7 i := fun i hi => by
        rw [hP7] at hi; rw [hG7]
        rcases hi with hi | hi
        · exact Or.inl (Or.inl hi)
        · exact Or.inr hi
      have c7' : Chg (ext P4 w4 w6) w6 w7 := c7.mono (fun i _ e => Or.inl e)
      have PR7 : Pr G7 w7 fp fr pr s := by rw [hG7]; exact PR6.out.away c7'
      rw [← hP7] at d7
      have SG7 : Hid (∀ i, G7 i → i < lo ∨ hi3 ≤ i) := fun i hi => by
        rw [hG7] at hi
        rcases hi with hi | hi
        · exact SG6.out i hi
        · right; exact Nat.le_trans hs6.out hi.1
      have EN7 := mkHid (EN6.out.chg c7 S4.out)
      have R7 := PR7.r.less PG
      have CY := mkHid (refCopy_any fr s w7 R7 (by omega) (by omega))
      have BL7 : Hid (Below b w0 w7) := bmore BL6.out c7 (Nat.le_trans d4b.out BLs4.out) PB4.out
      have k1 : w7.cell? ⟨pr, 1, none⟩ = some (.pointer (some ⟨fr, 0, none⟩)) := (cell_of_block PR7.p 1).trans rfl
      have hwl7 := World.block_lt_of_cell? w7 _ k1
      have D7 := mkHid d7
      have J7 := mkHid j7
      have PR7' := mkHid PR7
      have PG' := mkHid PG
      have hs7 : Hid (hi3 ≤ w7.heap.size) := Nat.le_trans hs6.out c7.size
      clear c7 c7' d7 j7 PR7 PG hP7 hG7 R7 CR PR6 EN6 BL6 D6 J2 S4 SG6 hs6
      unfold CyQ at CY
      go_wp2_with fail
      refine CY.out.mono ?_
      rintro e w8 ⟨fr2, rfl, hf8, R8, g8⟩
      obtain ⟨w9, hw9⟩ : ∃ w9, w9 = w8.alloc (.cells #[.pointer (some ⟨f2, 0, none⟩), .pointer (some ⟨fr2, 0, none⟩)] 34) := ⟨_, rfl⟩
      obtain ⟨pr2, hpr2⟩ : ∃ pr2, pr2 = w8.heap.size := ⟨_, rfl⟩
      have g9 : w8.grownBy w9 none := by rw [hw9]; exact World.grownBy_alloc w8 _ none
      have g79 := grTrans g8 g9
      have p9 : w9.heap[pr2]? = some (.cells #[.pointer (some ⟨f2, 0, none⟩), .pointer (some ⟨fr2, 0, none⟩)] 34 (0, 0)) := by rw [hw9, hpr2]; exact heap_alloc_new _ _
      have hfl : fr2 < w8.heap.size := by obtain ⟨_, _, hh, _⟩ := R8.fs; exact lt_of_heap hh
      have R9 := R8.grown g9
      have P9f : ¬ P7 fr2 := fun e => by have := (D7.out.pb _ e).2; omega
      have P9p : ¬ P7 pr2 := fun e => by have := (D7.out.pb _ e).2; have := g8.size; omega
      have PR9 : Pr (ext G7 w7 w9) w9 fp fr pr s := PR7'.out.away (Chg.of_none g79 _)
      have GF : ext G7 w7 w9 fr2 := ext_new hf8 (Nat.lt_of_lt_of_le hfl g9.size)
      have SG9 : Hid (∀ i, ext G7 w7 w9 i → i < lo ∨ hi3 ≤ i) := fun i hi => by
        rcases hi with hi | hi
        · exact SG7.out i hi
        · right; exact Nat.le_trans hs7.out hi.1
      have BL9 : Hid (Below b w0 w9) := bgrew BL7.out g79 D7.out.bs
      have BW9 : Hid (Below w.heap.size w w9) := HB0.out.trans ⟨BL9.out.os, BL9.out.tape, BL9.out.output, BL9.out.size, fun k hk => BL9.out.block k (by have := hbw.out; omega)⟩
      have EN9 := mkHid (EN7.out.grow g79)
      have q1 : w9.cell? ⟨pr2, 1, none⟩ = some (.pointer (some ⟨fr2, 0, none⟩)) := (cell_of_block p9 1).trans rfl
      have hwl9 := World.block_lt_of_cell? w9 _ q1
      have hsb := D7.out.bs
      have DC := mkHid (refCrash_any fr2 s keeps Pk Ck names w9 R9 hn (by omega) (by omega) (fun W hW => ⟨by have := (J.out.wk W hW).len; omega, fun p hp => ((J.out.wk W hW).nm p hp).2⟩) (fun x hx => ⟨(J.out.fl x hx).1, by have := (J.out.fl x hx).2; omega⟩) (HKI.out (fun _ => False) w9 w9 BW9.out (Chg.refl _ _) (fun _ e => e.elim)) (fun ne a e e2 => by have := HKB.out ne a e; have := hbw.out; omega) HKR.out hkl)
      have FIN : Hid (∀ w10, Rf P7 w10 fr2 (crashS keeps names s) → Keep fr2 w9 w10 → Ap w0 w10 b fp fr pr f2 fr2 pr2 s lo hi3 (i + 1) Pi A) := fun w10 r10 k10 => by
        have c10 : Chg (ext G7 w7 w9) w9 w10 := k10.mono (fun i _ e => by rw [e]; exact GF)
        have bd := bd_crash keeps names s
        have hne : pr2 ≠ fr2 := by omega
        refine ⟨⟨P7, crashS keeps names s, ext (ext G7 w7 w9) w9 w10, ⟨⟨0, some m2, xs7, [], by rw [bd.2.2]; exact (D7.out.kept g79).away k10 (fun j hj e => P9f (by rw [← e]; exact hj)), J7.out⟩, r10, ⟨P9f, by omega⟩, k10.at_ p9 hne, ⟨P9p, by omega⟩, ⟨by have := bd.1; omega, by have := bd.2.1; omega, by omega⟩⟩, PR9.away c10, fun j hj => ext_le (ext_le (PG'.out j hj)), ext_le GF, fun j hj => ?_⟩, EN9.out.chg c10 SG9.out, bmore BL9.out k10 (Nat.le_trans hsb g79.size) (fun j e => by rw [e]; omega), ?_⟩
        · rcases hj with hj | hj
          · exact SG9.out j hj
          · right; exact Nat.le_trans hs7.out (Nat.le_trans g79.size hj.1)
        · exact Nat.le_trans hs7.out (Nat.le_trans g79.size k10.size)
      have HW9 := mkHid hw9
      have HP2 := mkHid hpr2
      clear hf8 R8 g8 g9 g79 p9 hfl R9 P9f P9p PR9 GF SG9 BL9 BW9 EN9 hsb CY D7 J7 PR7' PG' BL7 EN7 SG7 hs7 k1 hwl7 hw9 hpr2 J HKI HKB
      go_wp2_with fail
      rw [← show w9 = _ from HW9.out, ← show pr2 = _ from HP2.out]
      clear HW9 HP2
      refine DC.out.mono ?_
      rintro e w10 ⟨rfl, r10, k10⟩
      have AP0 := mkHid (FIN.out w10 r10 k10)
      clear r10 k10 DC FIN q1 hwl9
      go_wp2_with fail
      go_loopw [17] (fun s17 wr => ∃ (k : Nat), s17 = .int .i64 (k : Int) ∧ k ≤ L2 ∧ Hid (Ap w0 wr b fp fr pr f2 fr2 pr2 s lo hi3 (i + 1 + k) Pi A)) (fun s17 _ => L2 - (intOf s17).toNat)
      case atStart => exact ⟨0, rfl, Nat.zero_le _, AP0⟩
      case round =>
        obtain ⟨k, rfl, hk, HP⟩ := hrel
        by_cases hlt2 : k < L2
        · have hlti2 : (k : Int) < (L2 : Int) := by omega
          obtain ⟨a, hga⟩ : ∃ a, l2[k]? = some a := ⟨l2[k]'(by have : L2 = l2.length := HL2.out; omega), List.getElem?_eq_getElem _⟩
          obtain ⟨g, o, rfl, hgb, hcs⟩ : ∃ g o, P2 = some ⟨g, o, none⟩ ∧ g < b ∧ ∀ i a, l2[i]? = some a → acAt w0 g (o + i * 6) a := by
            rcases AC2.out.at_ with e | e
            · rw [e] at hga; simp at hga
            · exact e
          obtain ⟨⟨Py, s', G, BB, PR, hG, hf, hl2⟩, hE, BL, hh⟩ := HP.out
          have cs := (hcs k a hga).chg (chgBl BL) (by omega)
          obtain ⟨c0, c1, c2, c3, c4, c5⟩ := cs
          have hok := (AC2.out.ok a (List.mem_of_getElem? hga)).below BL
          have DO := mkHid (Does_any BB (by omega) a hok)
          have ST : Hid (∀ w', DoesQ Py wr b f2 fr2 pr2 (i + 1 + k + 1) w' → Ap w0 w' b fp fr pr f2 fr2 pr2 s lo hi3 (i + 1 + (k + 1)) Pi A) := fun w' hD => Ap.step hE BL hh PR hG hf hl2 hD
          have hwl2 := World.block_lt_of_cell? wr _ c0
          clear hcs BB BL hok hga PR hE hh hG hf hl2
          unfold AcV.val at DO
          go_wp2_with fail
          refine DO.out.mono ?_
          rintro e w11 ⟨rfl, D11⟩
          have J11 := mkHid (ST.out w11 D11)
          clear D11 ST DO
          go_wp2_with fail
          go_roundw
          case rel => exact ⟨k + 1, by go_num, hlt2, J11⟩
          case measure => simp [intOf]; omega
        · have hlti2 : ¬ (k : Int) < (L2 : Int) := by omega
          obtain ⟨⟨Py, s', G, BB, PR, hG, hf, hl2⟩, hE, BL, hh⟩ := HP.out
          have IMx : Hid (Calls Try.prog 16 #[.pointer (some ⟨fp, 0, none⟩)] wr fun e w' => ImP wr A e w') := by
            have := PR.image
            rw [← show A = _ from HA.out] at this; exact this
          have STx : Hid (∀ W, wr.grownBy W none → Calls Try.prog 11 #[.pointer (some ⟨pr, 0, none⟩)] W fun e w' => e = .returned (.bool true) ∧ W.grownBy w' none) := fun W g => Stands_any (PR.grow g)
          have STy : Hid (∀ W, wr.grownBy W none → Calls Try.prog 11 #[.pointer (some ⟨pr2, 0, none⟩)] W fun e w' => e = .returned (.bool true) ∧ W.grownBy w' none) := fun W g => Stands_any (BB.pr.grow g)
          have EN := mkHid hE
          have BLX : Hid (Below w.heap.size w wr) := HB0.out.trans ⟨BL.os, BL.tape, BL.output, BL.size, fun k hk => BL.block k (by have := hbw.out; omega)⟩
          have kx : wr.cell? ⟨pr, 0, none⟩ = some (.pointer (some ⟨fp, 0, none⟩)) := (cell_of_block PR.p 0).trans rfl
          have hwlx := World.block_lt_of_cell? wr _ kx
          clear BB BL PR hE hh hG hf hl2 HP AP0 AC2
          go_wp2_with fail
          refine IMx.out.mono ?_
          rintro e w12 ⟨Pq, Cq, rfl, en12, g12⟩
          rw [show A.length = AL from HAL.out.symm]
          have IE := mkHid (Images_any A Pq Pi Cq Ci AL w12 HAL.out.symm (by omega) en12.en (EN.out.grow g12).en)
          have G12 := mkHid g12
          clear en12 g12 IMx
          go_wp2_with fail
          refine IE.out.mono ?_
          rintro e w13 ⟨rfl, g13⟩
          have G13 := mkHid (grTrans G12.out g13)
          clear g13 IE
          go_wp2_with fail
          refine (STx.out _ G13.out).mono ?_
          rintro e w14 ⟨rfl, g14⟩
          have G14 := mkHid (grTrans G13.out g14)
          clear g14
          go_wp2_with fail
          refine (STy.out _ G14.out).mono ?_
          rintro e w15 ⟨rfl, g15⟩
          have BF : Hid (Below w.heap.size w w15) := bgrew BLX.out (grTrans G14.out g15) BLX.out.size
          clear g15
          go_wp2_with fail
          go_ret
          exact ⟨rfl, BF.out⟩
end Go.Proofs.Ytdiehlioemmakaa

