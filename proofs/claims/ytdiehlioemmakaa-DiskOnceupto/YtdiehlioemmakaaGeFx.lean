/-
  The law DiskFast: what it wants besides the calls.
-/
import Derived.Test.YtdiehlioemmakaaHK
import Derived.Test.YtdiehlioemmakaaDkQx
namespace Go.Proofs.Ytdiehlioemmakaa
open Go.RowKit Go.Maps Go.Joins

theorem AcV.ok.up {a : AcV} {w : World} {base base' : Nat} (h : a.ok w base) (hb : base ≤ base') : a.ok w base' :=
  ⟨h.m, h.n, h.t, h.b, fun ne x e => Nat.lt_of_lt_of_le (h.bb ne x e) hb, h.bc, h.bl, h.bm, h.k, fun ne x e => Nat.lt_of_lt_of_le (h.kb ne x e) hb, h.kc, h.kr, h.kl⟩
theorem acsIn.up {w w0 : World} {Pa : Option Addr} {l : List AcV} (h : acsIn w w.heap.size Pa l) (hb : Below w.heap.size w w0) : acsIn w0 w0.heap.size Pa l := by
  refine ⟨fun a ha => ((h.ok a ha).below hb).up hb.size, ?_⟩
  rcases h.at_ with e | ⟨g, o, e, hg, hc⟩
  · exact Or.inl e
  · exact Or.inr ⟨g, o, e, Nat.lt_of_lt_of_le hg hb.size, fun i a ha => (hc i a ha).chg (chgBl hb) (by omega)⟩
theorem imgIn.chg {S : Nat → Prop} {w w' : World} {base : Nat} {v : Value} {zs : List (List UInt8 × Fl)} (h : imgIn w base v zs) (hc : Chg S w w') (hS : ∀ i, S i → i < base) : imgIn w' base v zs := by
  refine ⟨hc.row h.row (fun g hg hs => ?_), fun z hz => hc.row (h.by_ z hz) (fun g hg hs => ?_)⟩
  · rcases h.row.2 with ⟨e, _⟩ | ⟨g', _, _, e, hge, _⟩
    · rw [e] at hg; cases hg
    · rw [e] at hg; cases hg; exact absurd (hS _ hs) (Nat.not_lt.2 hge)
  · rcases (h.by_ z hz).2 with ⟨e, _⟩ | ⟨g', _, _, e, hge, _⟩
    · rw [e] at hg; cases hg
    · rw [e] at hg; cases hg; exact absurd (hS _ hs) (Nat.not_lt.2 hge)
theorem cuts_names (keeps : List Int) : ∀ (t : Nat) (xs : List (List UInt8 × (List UInt8 × Nat))), (cutsA keeps t xs).map (·.1) = xs.map (·.1)
  | _, [] => rfl
  | t, x :: r => by
    unfold cutsA
    split
    · rw [List.map_cons, List.map_cons, cuts_names keeps t r]
    · rw [List.map_cons, List.map_cons, cuts_names keeps (t + 1) r]
theorem srt_names {α β : Type} {a : List (List UInt8 × α)} {b : List (List UInt8 × β)} (h : a.map (·.1) = b.map (·.1)) (hb : SrtN b) : SrtN a := by
  unfold SrtN at hb ⊢
  have h1 : (b.map (·.1)).Pairwise fun p q => bytesBefore p q = true := List.pairwise_map.2 hb
  rw [← h] at h1
  exact List.pairwise_map.1 h1
theorem mem_names {α β : Type} {a : List (List UInt8 × α)} {b : List (List UInt8 × β)} (h : a.map (·.1) = b.map (·.1)) {p : List UInt8 × α} (hp : p ∈ a) : ∃ x ∈ b, x.1 = p.1 := by
  have : p.1 ∈ b.map (·.1) := by rw [← h]; exact List.mem_map.2 ⟨p, hp, rfl⟩
  obtain ⟨x, hx, e⟩ := List.mem_map.1 this
  exact ⟨x, hx, e⟩
theorem entsV_at : ∀ (zs : List (List UInt8 × Fl)) (i : Nat) (z : List UInt8 × Fl), zs[i]? = some z → ∀ k, k < 3 → (entsV zs)[i * 3 + k]? = ([.string ⟨z.1.toArray⟩, z.2.v, .int .i64 (z.2.k : Int)] : List Value)[k]?
  | [], i, z, h, k, hk => by simp at h
  | a :: r, 0, z, h, k, hk => by
    simp at h; subst h
    show ([.string ⟨a.1.toArray⟩, a.2.v, .int .i64 (a.2.k : Int)] ++ entsV r)[0 * 3 + k]? = _
    rw [List.getElem?_append_left (by simp; omega), Nat.zero_mul, Nat.zero_add]
  | a :: r, i + 1, z, h, k, hk => by
    have h5 := entsV_at r i z (by simpa using h) k hk
    show ([.string ⟨a.1.toArray⟩, a.2.v, .int .i64 (a.2.k : Int)] ++ entsV r)[(i + 1) * 3 + k]? = _
    rw [List.getElem?_append_right (by simp; omega), ← h5]
    congr 1
    simp
    omega
/-- the entry of an image -/
theorem imgIn.at_ {w : World} {base : Nat} {P : Option Addr} {C L : Nat} {zs : List (List UInt8 × Fl)} (h : imgIn w base (.slice P L C) zs) (hL : zs.length = L) {i : Nat} {z : List UInt8 × Fl} (hz : zs[i]? = some z) : ∃ g, P = some ⟨g, 0, none⟩ ∧ w.cell? ⟨g, i * 3, none⟩ = some (.string ⟨z.1.toArray⟩) ∧ w.cell? ⟨g, i * 3 + 1, none⟩ = some z.2.v ∧ w.cell? ⟨g, i * 3 + 2, none⟩ = some (.int .i64 (z.2.k : Int)) ∧ ∃ Pz Cz, z.2.v = .slice Pz z.2.l.length Cz ∧ ownsB w base (.slice Pz z.2.l.length Cz) z.2.l := by
  have hi := (List.getElem?_eq_some_iff.1 hz).1
  have hv := h.by_ z (List.mem_of_getElem? hz)
  obtain ⟨Pz, Cz, e⟩ := own_form hv
  have hc : ∀ k < 3, w.cell? ⟨(match P with | some a => a.block | none => 0), i * 3 + k, none⟩ = (entsV zs)[i * 3 + k]? := fun k hk => by
    have hr := h.row
    rcases hr.2 with ⟨e, h0⟩ | ⟨g, cap, cur, e, _, hb, _, _, hs, ht⟩
    · exfalso; omega
    · injection e with e1 e2 e3
      subst e1
      have hlt : i * 3 + k < zs.length * 3 := by omega
      rw [← ht, List.getElem?_take_of_lt hlt]
      exact (cell_of_block hb (i * 3 + k)).trans (by simp)
  have hent : ∀ k, k < 3 → (entsV zs)[i * 3 + k]? = ([.string ⟨z.1.toArray⟩, z.2.v, .int .i64 (z.2.k : Int)] : List Value)[k]? := fun k hk => by
    exact entsV_at zs i z hz k hk
  rcases h.row.2 with ⟨e, h0⟩ | ⟨g, cap, cur, e5, _, hb, _, _, hs, ht⟩
  · exfalso; omega
  · injection e5 with e1 e2 e3
    subst e1
    refine ⟨g, rfl, ?_, ?_, ?_, Pz, Cz, e, by rw [← e]; exact hv⟩
    · have := hc 0 (by omega); rw [hent 0 (by omega)] at this; simpa using this
    · have := hc 1 (by omega); rw [hent 1 (by omega)] at this; simpa using this
    · have := hc 2 (by omega); rw [hent 2 (by omega)] at this; simpa using this
set_option maxHeartbeats 8000000 in
set_option maxRecDepth 1000000 in
theorem DiskFast_bad (q : Int) (va vk vn : Value) (w : World) (h : q < 0 ∨ 16777216 < q) : Calls Try.prog 4 #[.int .i64 q, va, vk, vn] w fun e w' => e = .returned (.bool true) ∧ Below w.heap.size w w' := by
  have LI := mkHid (lives_any w)
  go_enter Try.func4, Try.ntmps4
  go_wp2_with fail
  refine LI.out.mono ?_
  rintro e w0 ⟨rfl, B0⟩
  have PL := mkHid (played_bad q va w0 h)
  have HB := mkHid B0
  clear B0
  go_wp2_with fail
  refine PL.out.mono ?_
  rintro e wx ⟨rfl, hwx⟩; have hwx2 := hwx.symm; subst hwx2; clear hwx
  go_wp2_with fail
  go_ret
  exact ⟨rfl, HB.out⟩
set_option maxHeartbeats 8000000 in
set_option maxRecDepth 1000000 in
theorem DiskFast_ok (q : Int) (l : List AcV) (Pa : Option Addr) (Ca : Nat) (keeps : List Int) (Pk : Option Addr) (Ck : Nat) (names : Int) (w : World) (h0 : 0 ≤ q) (h1 : q ≤ 16777216) (hl : l.length ≤ 1900000) (ha : acsIn w w.heap.size Pa l) (hn : -9223372036854775808 ≤ names ∧ names ≤ 9223372036854775807) (hk : intIn w Pk keeps) (hkb : keeps ≠ [] → ∀ a, Pk = some a → a.block < w.heap.size) (hkr : ∀ x ∈ keeps, -9223372036854775808 ≤ x ∧ x ≤ 9223372036854775807) (hkl : keeps.length ≤ 1000000000) : Calls Try.prog 4 #[.int .i64 q, .slice Pa l.length Ca, .slice Pk keeps.length Ck, .int .i64 names] w fun e w' => e = .returned (.bool true) ∧ Below w.heap.size w w' := by
  have LI := mkHid (lives_any w)
  have HA := mkHid ha
  have HK := mkHid hk
  have HKB := mkHid hkb
  have HKR := mkHid hkr
  clear ha hk hkb hkr
  go_enter Try.func4, Try.ntmps4
  go_wp2_with fail
  refine LI.out.mono ?_
  rintro e w0 ⟨rfl, B0⟩
  have PL := mkHid (played_ok q l Pa Ca w0 h0 h1 hl (HA.out.up B0))
  have HB0 := mkHid B0
  clear B0 LI
  go_wp2_with fail
  refine PL.out.mono ?_
  rintro e w1 ⟨fp, fr, pr, P, s, rfl, BB, B1⟩
  obtain ⟨st, mo, xs, us, d, j⟩ := BB.d
  have ST := mkHid (Stop_any w0.heap.size fp s.q st 0 mo xs us w1 d ⟨by omega, by omega⟩)
  have J := mkHid j
  have D1 := mkHid d
  have HB1 := mkHid B1
  clear BB B1 d j PL
  go_wp2_with fail
  refine ST.out.mono ?_
  rintro e w2 ⟨rfl, d2, c2, _⟩
  have SN : Hid (Calls Try.prog 15 #[.pointer (some ⟨fp, 0, none⟩)] w2 fun e w' => e = .returned (.int .i64 0) ∧ Dsk (ext P w2 w') w' w0.heap.size fp s.q 0 mo xs [] ∧ Chg P w2 w') := SyncNames_any w0.heap.size fp s.q 0 mo xs us w2 ⟨by omega, by omega⟩ d2
  have C2 : Hid (Chg P w1 w2) := c2.mono (fun i _ e => by rw [e]; exact D1.out.pf)
  clear d2 c2 ST
  go_wp2_with fail
  refine SN.out.mono ?_
  rintro e w3 ⟨rfl, d3, c3⟩
  have jl := J.out.len
  have HNM : Hid (∀ p ∈ xs, p.1.length ≤ 64) := fun p hp => by
    have h5 : (p.1, (p.2.l, p.2.k)) ∈ absX xs := List.mem_map.2 ⟨p, hp, rfl⟩
    rw [J.out.una.1] at h5
    exact J.out.una.2.2.2 us.length (Nat.le_refl _) _ h5
  have IM := mkHid (Image_any w0.heap.size fp s.q 0 mo xs [] w3 J.out.so (by omega) (fun p hp => Nat.le_trans (HNM.out p hp) (by omega)) d3)
  have D3 := mkHid d3
  have C3 := mkHid (C2.out.trans c3)
  clear d3 c3 SN
  go_wp2_with fail
  refine IM.out.mono ?_
  rintro e w4 ⟨v4, zs, rfl, im4, ab4, g4⟩
  obtain ⟨P4, C4, hv4⟩ := row_formS im4.row
  subst hv4
  have HI4 := mkHid im4
  have HA4 := mkHid ab4
  have G4 := mkHid g4
  have D4 := mkHid (D3.out.kept g4)
  clear im4 ab4 g4 IM
  have HKW : Hid (∀ w', Chg (ext P w2 w3) w4 w' → intIn w' Pk keeps) := fun w' hc => by
    have k0 := HK.out.below HB0.out
    have hb0 := HB0.out.size
    have k1 := k0.chg (chgBl HB1.out) (fun ne a e hx => by have := HKB.out ne a e; omega)
    have k3 := (k1.chg C3.out (fun ne a e hx => by have := HKB.out ne a e; have := (D1.out.pb _ hx).1; omega)).grow G4.out
    exact k3.chg hc (fun ne a e hx => by have := HKB.out ne a e; have := (D3.out.pb _ hx).1; omega)
  have CR : Hid (Calls Try.prog 17 #[.pointer (some ⟨fp, 0, none⟩), .slice Pk keeps.length Ck, .int .i64 names] w4 fun e w' => e = .returned (.tuple #[]) ∧ ∃ xs', absX xs' = cutsA keeps 0 (absX xs) ∧ Dsk (ext (ext P w2 w3) w4 w') w' w0.heap.size fp s.q 0 mo xs' [] ∧ Chg (ext P w2 w3) w4 w') := Crash_any w0.heap.size fp s.q 0 mo xs [] keeps Pk Ck names (fun _ => absX xs) w4 hn (by simp) rfl (fun j u h => by simp at h) (fun _ _ => ⟨by rw [J.out.una.1]; exact (J.out.una.2.2.1 us.length (Nat.le_refl _)).1, by rw [abs_len]; omega⟩) (fun _ _ p hp => by rw [J.out.una.1] at hp; exact J.out.una.2.2.2 us.length (Nat.le_refl _) p hp) HKW.out HKR.out (by omega) D4.out
  go_wp2_with fail
  refine CR.out.mono ?_
  rintro e w5 ⟨rfl, xs5, ab5, d5, c5⟩
  have HI5 := mkHid (HI4.out.chg c5 (fun i hi => (D3.out.pb i hi).2))
  have IM2 := mkHid (Image_any w0.heap.size fp s.q 0 mo xs5 [] w5 (abs_srt.1 (by rw [ab5]; exact srt_names (cuts_names keeps 0 _) (abs_srt.2 J.out.so))) (by rw [← abs_len, ab5, ← List.length_map (f := fun p : List UInt8 × (List UInt8 × Nat) => p.1), cuts_names, List.length_map, abs_len]; omega) (fun p hp => by
    obtain ⟨x, hx, e⟩ := mem_names (a := cutsA keeps 0 (absX xs)) (cuts_names keeps 0 (absX xs)) (p := (p.1, (p.2.l, p.2.k))) (by rw [← ab5]; exact List.mem_map.2 ⟨p, hp, rfl⟩)
    obtain ⟨y, hy, rfl⟩ := List.mem_map.1 hx
    have e5 : y.1 = p.1 := e
    have := HNM.out y hy
    rw [← e5]; omega) d5)
  have OP := mkHid (fun w' (g : w5.grownBy w' none) => Open_any w0.heap.size fp s.q 0 mo xs5 [] w' (d5.kept g))
  have AB5 := mkHid ab5
  have BL5 : Hid (Below w.heap.size w w5) := by
    have hb0 := HB0.out.size
    have x1 := HB0.out.trans (⟨HB1.out.os, HB1.out.tape, HB1.out.output, HB1.out.size, fun k hk => HB1.out.block k (by omega)⟩ : Below w.heap.size w0 w1)
    have x3 := x1.trans (C3.out.below x1.size (fun i hi => by have := (D1.out.pb i hi).1; omega))
    have x4 := x3.trans (⟨G4.out.os, G4.out.tape, G4.out.output, G4.out.size, fun k hk => G4.out.block k (Nat.lt_of_lt_of_le hk x3.size) (by simp)⟩ : Below w.heap.size w3 w4)
    exact x4.trans (c5.below x4.size (fun i hi => by have := (D3.out.pb i hi).1; omega))
  clear ab5 d5 c5 CR HKW
  go_wp2_with fail
  refine IM2.out.mono ?_
  rintro e w6 ⟨v6, ys, rfl, im6, ab6, g6⟩
  obtain ⟨P6, C6, hv6⟩ := row_formS im6.row
  have hv6' : v6 = .slice P6 ys.length C6 := hv6
  subst hv6'
  have LE : Hid (ys.length = zs.length ∧ ∀ (i : Nat) (p q : List UInt8 × (List UInt8 × Nat)), (absX zs)[i]? = some p → (absX ys)[i]? = some q → cutOf p q) := by
    have h5 := cuts_of keeps 0 (absX xs) (fun p hp => by
      obtain ⟨y, hy, rfl⟩ := List.mem_map.1 hp
      exact (D3.out.fl.ok y.2 (List.mem_append_left _ (List.mem_map.2 ⟨y, hy, rfl⟩))).kl)
    rw [← AB5.out, ← ab6, ← HA4.out] at h5
    exact ⟨by rw [← abs_len ys, h5.1, abs_len], h5.2⟩
  obtain ⟨L, hL⟩ : ∃ L, L = zs.length := ⟨_, rfl⟩
  have hLb : L ≤ 64 := by rw [hL, ← abs_len, HA4.out, abs_len]; omega
  have hyL : ys.length = L := by rw [hL]; exact LE.out.1
  rw [hyL] at im6 ⊢
  rw [← hL] at HI5 ⊢
  have HIz := mkHid (HI5.out.grow g6)
  have HIy := mkHid im6
  have OP6 := mkHid (OP.out w6 g6)
  have BL6 : Hid (Below w.heap.size w w6) := BL5.out.trans ⟨g6.os, g6.tape, g6.output, g6.size, fun k hk => g6.block k (Nat.lt_of_lt_of_le hk BL5.out.size) (by simp)⟩
  have HLz := mkHid hL
  have HLy := mkHid hyL
  clear im6 ab6 g6 hL hyL hv6 OP IM2
  clear HI5 BL5
  go_wp2_with fail
  refine OP6.out.mono ?_
  rintro e wx ⟨rfl, hwx⟩; have hwx2 := hwx.symm; subst hwx2; clear hwx
  go_wp2_with fail
  go_loopw [13] (fun s13 wr => ∃ (i : Nat), s13 = .int .i64 (i : Int) ∧ i ≤ L ∧ Hid (w6.grownBy wr none)) (fun s13 _ => L - (intOf s13).toNat)
  case atStart => exact ⟨0, rfl, Nat.zero_le _, gr_refl w6⟩
  case round =>
    obtain ⟨i, rfl, hi, GR⟩ := hrel
    by_cases hlt : i < L
    · have hlti : (i : Int) < (L : Int) := by omega
      obtain ⟨z, hz⟩ : ∃ z, zs[i]? = some z := ⟨zs[i]'(by have : L = zs.length := HLz.out; omega), List.getElem?_eq_getElem _⟩
      obtain ⟨y, hy⟩ : ∃ y, ys[i]? = some y := ⟨ys[i]'(by have : ys.length = L := HLy.out; omega), List.getElem?_eq_getElem _⟩
      obtain ⟨u1, u2, u3, u4⟩ := LE.out.2 i _ _ (show (absX zs)[i]? = some (z.1, (z.2.l, z.2.k)) by simp [absX, hz]) (show (absX ys)[i]? = some (y.1, (y.2.l, y.2.k)) by simp [absX, hy])
      obtain ⟨g1, rfl, a0, a1, a2, Pz, Cz, ez, oz⟩ := (HIz.out.grow GR.out).at_ (show zs.length = L from HLz.out.symm) hz
      obtain ⟨g2, rfl, b0, b1, b2, Py, Cy, ey, oy⟩ := (HIy.out.grow GR.out).at_ (show ys.length = L from HLy.out) hy
      have u1' : y.1 = z.1 := u1
      have u2' : z.2.l.take y.2.l.length = y.2.l := u2
      have u3' : z.2.k ≤ y.2.l.length := u3
      have u4' : y.2.k = y.2.l.length := u4
      rw [ez] at a1
      rw [u1'] at b0
      rw [ey] at b1
      rw [u4'] at b2
      have SS := mkHid (fun w' (g : wr.grownBy w' none) => starts_any _ _ z.2.l y.2.l Pz Py Cz Cy w' (ownG oz g) (ownG oy g) u2')
      obtain ⟨n, hn5⟩ : ∃ n, n = z.1 := ⟨_, rfl⟩
      rw [← hn5] at a0 b0
      obtain ⟨M, hM⟩ : ∃ M, M = y.2.l.length := ⟨_, rfl⟩
      obtain ⟨kz, hkz⟩ : ∃ kz, kz = z.2.k := ⟨_, rfl⟩
      obtain ⟨B1, hB1⟩ : ∃ B1, B1 = z.2.l.length := ⟨_, rfl⟩
      rw [← hM] at b1 b2 SS u3'
      rw [← hkz] at a2 u3'
      rw [← hB1] at a1 SS
      have ukM : ¬ (M : Int) < (kz : Int) := by omega
      have ukM2 : ¬ M < kz := by omega
      have hl1 := World.block_lt_of_cell? wr _ a0
      have hl2 := World.block_lt_of_cell? wr _ b0
      clear u1 u2 u3 u4 u1' u2' u4' oz oy ez ey hz hy hn5 hM hkz hB1
      go_wp2_with fail
      refine wp_region_noPanic ?_
      refine wp_region_held_drew (S := fun w' : World => w'.cell? ⟨g1, i * 3, none⟩ = some (.string ⟨n.toArray⟩) ∧ w'.cell? ⟨g1, i * 3 + 1, none⟩ = some (.slice Pz B1 Cz) ∧ w'.cell? ⟨g1, i * 3 + 2, none⟩ = some (.int .i64 (kz : Int)) ∧ w'.cell? ⟨g2, i * 3, none⟩ = some (.string ⟨n.toArray⟩) ∧ w'.cell? ⟨g2, i * 3 + 1, none⟩ = some (.slice Py M Cy) ∧ w'.cell? ⟨g2, i * 3 + 2, none⟩ = some (.int .i64 (M : Int))) (by kernel_rfl) (⟨a0, a1, a2, b0, b1, b2⟩) (fun hH => ?_)
      refine take_at (i := 0) (v := .slice (some ⟨g2, 0, none⟩) L C6) rfl rfl (by kernel_rfl) (by kernel_rfl) (by kernel_rfl) (fun _ _ _ h => h) (Or.inl ⟨by rfl, ?_⟩) hH ?_
      · intro w5 hSw; obtain ⟨c0, c1, c2, d0, d1, d2⟩ := hSw; go_simp
      simp only [List.setIfInBounds_toArray, List.set_cons_zero, List.set_cons_succ]
      refine take_at (i := 1) (v := .int .i64 (i : Int)) rfl rfl (by kernel_rfl) (by kernel_rfl) (by kernel_rfl) (fun _ _ _ h => h) (Or.inl ⟨by rfl, ?_⟩) hH ?_
      · intro w5 hSw; obtain ⟨c0, c1, c2, d0, d1, d2⟩ := hSw; go_simp
      simp only [List.setIfInBounds_toArray, List.set_cons_zero, List.set_cons_succ]
      refine take_at (i := 2) (v := .pointer (some ⟨g2, i * 3, none⟩)) rfl rfl (by kernel_rfl) (by kernel_rfl) (by kernel_rfl) (fun _ _ _ h => h) (Or.inl ⟨by rfl, ?_⟩) hH ?_
      · intro w5 hSw; obtain ⟨c0, c1, c2, d0, d1, d2⟩ := hSw; go_simp
      simp only [List.setIfInBounds_toArray, List.set_cons_zero, List.set_cons_succ]
      refine take_at (i := 3) (v := .pointer (some ⟨g2, i * 3, none⟩)) rfl rfl (by kernel_rfl) (by kernel_rfl) (by kernel_rfl) (fun _ _ _ h => h) (Or.inl ⟨by rfl, ?_⟩) hH ?_
      · intro w5 hSw; obtain ⟨c0, c1, c2, d0, d1, d2⟩ := hSw; go_simp
      simp only [List.setIfInBounds_toArray, List.set_cons_zero, List.set_cons_succ]
      refine take_at (i := 4) (v := .string ⟨n.toArray⟩) rfl rfl (by kernel_rfl) (by kernel_rfl) (by kernel_rfl) (fun _ _ _ h => h) (Or.inl ⟨by rfl, ?_⟩) hH ?_
      · intro w5 hSw; obtain ⟨c0, c1, c2, d0, d1, d2⟩ := hSw; go_simp
      simp only [List.setIfInBounds_toArray, List.set_cons_zero, List.set_cons_succ]
      refine take_at (i := 5) (v := .slice (some ⟨g1, 0, none⟩) L C4) rfl rfl (by kernel_rfl) (by kernel_rfl) (by kernel_rfl) (fun _ _ _ h => h) (Or.inl ⟨by rfl, ?_⟩) hH ?_
      · intro w5 hSw; obtain ⟨c0, c1, c2, d0, d1, d2⟩ := hSw; go_simp
      simp only [List.setIfInBounds_toArray, List.set_cons_zero, List.set_cons_succ]
      refine take_at (i := 6) (v := .int .i64 (i : Int)) rfl rfl (by kernel_rfl) (by kernel_rfl) (by kernel_rfl) (fun _ _ _ h => h) (Or.inl ⟨by rfl, ?_⟩) hH ?_
      · intro w5 hSw; obtain ⟨c0, c1, c2, d0, d1, d2⟩ := hSw; go_simp
      simp only [List.setIfInBounds_toArray, List.set_cons_zero, List.set_cons_succ]
      refine take_at (i := 7) (v := .pointer (some ⟨g1, i * 3, none⟩)) rfl rfl (by kernel_rfl) (by kernel_rfl) (by kernel_rfl) (fun _ _ _ h => h) (Or.inl ⟨by rfl, ?_⟩) hH ?_
      · intro w5 hSw; obtain ⟨c0, c1, c2, d0, d1, d2⟩ := hSw; go_simp
      simp only [List.setIfInBounds_toArray, List.set_cons_zero, List.set_cons_succ]
      refine take_at (i := 8) (v := .pointer (some ⟨g1, i * 3, none⟩)) rfl rfl (by kernel_rfl) (by kernel_rfl) (by kernel_rfl) (fun _ _ _ h => h) (Or.inl ⟨by rfl, ?_⟩) hH ?_
      · intro w5 hSw; obtain ⟨c0, c1, c2, d0, d1, d2⟩ := hSw; go_simp
      simp only [List.setIfInBounds_toArray, List.set_cons_zero, List.set_cons_succ]
      refine take_at (i := 9) (v := .string ⟨n.toArray⟩) rfl rfl (by kernel_rfl) (by kernel_rfl) (by kernel_rfl) (fun _ _ _ h => h) (Or.inl ⟨by rfl, ?_⟩) hH ?_
      · intro w5 hSw; obtain ⟨c0, c1, c2, d0, d1, d2⟩ := hSw; go_simp
      simp only [List.setIfInBounds_toArray, List.set_cons_zero, List.set_cons_succ]
      refine take_at (i := 10) (v := .bool false) rfl rfl (by kernel_rfl) (by kernel_rfl) (by kernel_rfl) (fun _ _ _ h => h) (Or.inl ⟨by rfl, ?_⟩) hH ?_
      · intro w5 hSw; obtain ⟨c0, c1, c2, d0, d1, d2⟩ := hSw; go_simp
      simp only [List.setIfInBounds_toArray, List.set_cons_zero, List.set_cons_succ]
      refine take_at (i := 11) (v := .bool false) rfl rfl (by kernel_rfl) (by kernel_rfl) (by kernel_rfl) (fun _ _ _ h => h) (Or.inl ⟨by rfl, ?_⟩) hH ?_
      · intro w5 hSw; obtain ⟨c0, c1, c2, d0, d1, d2⟩ := hSw; go_simp
      simp only [List.setIfInBounds_toArray, List.set_cons_zero, List.set_cons_succ]
      refine take_at (i := 12) (v := .slice (some ⟨g1, 0, none⟩) L C4) rfl rfl (by kernel_rfl) (by kernel_rfl) (by kernel_rfl) (fun _ _ _ h => h) (Or.inl ⟨by rfl, ?_⟩) hH ?_
      · intro w5 hSw; obtain ⟨c0, c1, c2, d0, d1, d2⟩ := hSw; go_simp
      simp only [List.setIfInBounds_toArray, List.set_cons_zero, List.set_cons_succ]
      refine take_at (i := 13) (v := .int .i64 (i : Int)) rfl rfl (by kernel_rfl) (by kernel_rfl) (by kernel_rfl) (fun _ _ _ h => h) (Or.inl ⟨by rfl, ?_⟩) hH ?_
      · intro w5 hSw; obtain ⟨c0, c1, c2, d0, d1, d2⟩ := hSw; go_simp
      simp only [List.setIfInBounds_toArray, List.set_cons_zero, List.set_cons_succ]
      refine take_at (i := 14) (v := .pointer (some ⟨g1, i * 3, none⟩)) rfl rfl (by kernel_rfl) (by kernel_rfl) (by kernel_rfl) (fun _ _ _ h => h) (Or.inl ⟨by rfl, ?_⟩) hH ?_
      · intro w5 hSw; obtain ⟨c0, c1, c2, d0, d1, d2⟩ := hSw; go_simp
      simp only [List.setIfInBounds_toArray, List.set_cons_zero, List.set_cons_succ]
      refine take_at (i := 15) (v := .pointer (some ⟨g1, i * 3 + 1, none⟩)) rfl rfl (by kernel_rfl) (by kernel_rfl) (by kernel_rfl) (fun _ _ _ h => h) (Or.inl ⟨by rfl, ?_⟩) hH ?_
      · intro w5 hSw; obtain ⟨c0, c1, c2, d0, d1, d2⟩ := hSw; go_simp
      simp only [List.setIfInBounds_toArray, List.set_cons_zero, List.set_cons_succ]
      refine take_at (i := 16) (v := .slice Pz B1 Cz) rfl rfl (by kernel_rfl) (by kernel_rfl) (by kernel_rfl) (fun _ _ _ h => h) (Or.inl ⟨by rfl, ?_⟩) hH ?_
      · intro w5 hSw; obtain ⟨c0, c1, c2, d0, d1, d2⟩ := hSw; go_simp
      simp only [List.setIfInBounds_toArray, List.set_cons_zero, List.set_cons_succ]
      refine take_at (i := 17) (v := .slice (some ⟨g2, 0, none⟩) L C6) rfl rfl (by kernel_rfl) (by kernel_rfl) (by kernel_rfl) (fun _ _ _ h => h) (Or.inl ⟨by rfl, ?_⟩) hH ?_
      · intro w5 hSw; obtain ⟨c0, c1, c2, d0, d1, d2⟩ := hSw; go_simp
      simp only [List.setIfInBounds_toArray, List.set_cons_zero, List.set_cons_succ]
      refine take_at (i := 18) (v := .int .i64 (i : Int)) rfl rfl (by kernel_rfl) (by kernel_rfl) (by kernel_rfl) (fun _ _ _ h => h) (Or.inl ⟨by rfl, ?_⟩) hH ?_
      · intro w5 hSw; obtain ⟨c0, c1, c2, d0, d1, d2⟩ := hSw; go_simp
      simp only [List.setIfInBounds_toArray, List.set_cons_zero, List.set_cons_succ]
      refine take_at (i := 19) (v := .pointer (some ⟨g2, i * 3, none⟩)) rfl rfl (by kernel_rfl) (by kernel_rfl) (by kernel_rfl) (fun _ _ _ h => h) (Or.inl ⟨by rfl, ?_⟩) hH ?_
      · intro w5 hSw; obtain ⟨c0, c1, c2, d0, d1, d2⟩ := hSw; go_simp
      simp only [List.setIfInBounds_toArray, List.set_cons_zero, List.set_cons_succ]
      refine take_at (i := 20) (v := .pointer (some ⟨g2, i * 3 + 1, none⟩)) rfl rfl (by kernel_rfl) (by kernel_rfl) (by kernel_rfl) (fun _ _ _ h => h) (Or.inl ⟨by rfl, ?_⟩) hH ?_
      · intro w5 hSw; obtain ⟨c0, c1, c2, d0, d1, d2⟩ := hSw; go_simp
      simp only [List.setIfInBounds_toArray, List.set_cons_zero, List.set_cons_succ]
      refine take_at (i := 21) (v := .slice Py M Cy) rfl rfl (by kernel_rfl) (by kernel_rfl) (by kernel_rfl) (fun _ _ _ h => h) (Or.inl ⟨by rfl, ?_⟩) hH ?_
      · intro w5 hSw; obtain ⟨c0, c1, c2, d0, d1, d2⟩ := hSw; go_simp
      simp only [List.setIfInBounds_toArray, List.set_cons_zero, List.set_cons_succ]
      refine wpAnyH_ready (rs := [22]) (by kernel_rfl) (by simp) ?_
      refine AllReadyH.cons rfl (fun K hK => ?_) AllReadyH.nil
      go_simp
      go_at_call 19
      refine (SS.out wr.drew (gr_drew wr)).mono ?_
      rintro e w7 ⟨rfl, g7⟩
      have G7 := mkHid (grTrans (gr_drew wr) g7)
      clear g7
      go_wp2_with fail
      refine hK.out _ _ ⟨G7.out.cell a0 (by simp), G7.out.cell a1 (by simp), G7.out.cell a2 (by simp), G7.out.cell b0 (by simp), G7.out.cell b1 (by simp), G7.out.cell b2 (by simp)⟩ (fun hH => ?_)
      clear hK K
      refine take_at (i := 23) (v := .bool false) rfl rfl (by kernel_rfl) (by kernel_rfl) (by kernel_rfl) (fun _ _ _ h => h) (Or.inl ⟨by rfl, ?_⟩) hH ?_
      · intro w5 hSw; obtain ⟨c0, c1, c2, d0, d1, d2⟩ := hSw; go_simp
      simp only [List.setIfInBounds_toArray, List.set_cons_zero, List.set_cons_succ]
      refine take_at (i := 24) (v := .bool false) rfl rfl (by kernel_rfl) (by kernel_rfl) (by kernel_rfl) (fun _ _ _ h => h) (Or.inl ⟨by rfl, ?_⟩) hH ?_
      · intro w5 hSw; obtain ⟨c0, c1, c2, d0, d1, d2⟩ := hSw; go_simp
      simp only [List.setIfInBounds_toArray, List.set_cons_zero, List.set_cons_succ]
      refine take_at (i := 25) (v := .bool false) rfl rfl (by kernel_rfl) (by kernel_rfl) (by kernel_rfl) (fun _ _ _ h => h) (Or.inl ⟨by rfl, ?_⟩) hH ?_
      · intro w5 hSw; obtain ⟨c0, c1, c2, d0, d1, d2⟩ := hSw; go_simp
      simp only [List.setIfInBounds_toArray, List.set_cons_zero, List.set_cons_succ]
      refine take_at (i := 26) (v := .slice (some ⟨g1, 0, none⟩) L C4) rfl rfl (by kernel_rfl) (by kernel_rfl) (by kernel_rfl) (fun _ _ _ h => h) (Or.inl ⟨by rfl, ?_⟩) hH ?_
      · intro w5 hSw; obtain ⟨c0, c1, c2, d0, d1, d2⟩ := hSw; go_simp
      simp only [List.setIfInBounds_toArray, List.set_cons_zero, List.set_cons_succ]
      refine take_at (i := 27) (v := .int .i64 (i : Int)) rfl rfl (by kernel_rfl) (by kernel_rfl) (by kernel_rfl) (fun _ _ _ h => h) (Or.inl ⟨by rfl, ?_⟩) hH ?_
      · intro w5 hSw; obtain ⟨c0, c1, c2, d0, d1, d2⟩ := hSw; go_simp
      simp only [List.setIfInBounds_toArray, List.set_cons_zero, List.set_cons_succ]
      refine take_at (i := 28) (v := .pointer (some ⟨g1, i * 3, none⟩)) rfl rfl (by kernel_rfl) (by kernel_rfl) (by kernel_rfl) (fun _ _ _ h => h) (Or.inl ⟨by rfl, ?_⟩) hH ?_
      · intro w5 hSw; obtain ⟨c0, c1, c2, d0, d1, d2⟩ := hSw; go_simp
      simp only [List.setIfInBounds_toArray, List.set_cons_zero, List.set_cons_succ]
      refine take_at (i := 29) (v := .pointer (some ⟨g1, i * 3 + 2, none⟩)) rfl rfl (by kernel_rfl) (by kernel_rfl) (by kernel_rfl) (fun _ _ _ h => h) (Or.inl ⟨by rfl, ?_⟩) hH ?_
      · intro w5 hSw; obtain ⟨c0, c1, c2, d0, d1, d2⟩ := hSw; go_simp
      simp only [List.setIfInBounds_toArray, List.set_cons_zero, List.set_cons_succ]
      refine take_at (i := 30) (v := .int .i64 (kz : Int)) rfl rfl (by kernel_rfl) (by kernel_rfl) (by kernel_rfl) (fun _ _ _ h => h) (Or.inl ⟨by rfl, ?_⟩) hH ?_
      · intro w5 hSw; obtain ⟨c0, c1, c2, d0, d1, d2⟩ := hSw; go_simp
      simp only [List.setIfInBounds_toArray, List.set_cons_zero, List.set_cons_succ]
      refine take_at (i := 31) (v := .slice (some ⟨g2, 0, none⟩) L C6) rfl rfl (by kernel_rfl) (by kernel_rfl) (by kernel_rfl) (fun _ _ _ h => h) (Or.inl ⟨by rfl, ?_⟩) hH ?_
      · intro w5 hSw; obtain ⟨c0, c1, c2, d0, d1, d2⟩ := hSw; go_simp
      simp only [List.setIfInBounds_toArray, List.set_cons_zero, List.set_cons_succ]
      refine take_at (i := 32) (v := .int .i64 (i : Int)) rfl rfl (by kernel_rfl) (by kernel_rfl) (by kernel_rfl) (fun _ _ _ h => h) (Or.inl ⟨by rfl, ?_⟩) hH ?_
      · intro w5 hSw; obtain ⟨c0, c1, c2, d0, d1, d2⟩ := hSw; go_simp
      simp only [List.setIfInBounds_toArray, List.set_cons_zero, List.set_cons_succ]
      refine take_at (i := 33) (v := .pointer (some ⟨g2, i * 3, none⟩)) rfl rfl (by kernel_rfl) (by kernel_rfl) (by kernel_rfl) (fun _ _ _ h => h) (Or.inl ⟨by rfl, ?_⟩) hH ?_
      · intro w5 hSw; obtain ⟨c0, c1, c2, d0, d1, d2⟩ := hSw; go_simp
      simp only [List.setIfInBounds_toArray, List.set_cons_zero, List.set_cons_succ]
      refine take_at (i := 34) (v := .pointer (some ⟨g2, i * 3 + 1, none⟩)) rfl rfl (by kernel_rfl) (by kernel_rfl) (by kernel_rfl) (fun _ _ _ h => h) (Or.inl ⟨by rfl, ?_⟩) hH ?_
      · intro w5 hSw; obtain ⟨c0, c1, c2, d0, d1, d2⟩ := hSw; go_simp
      simp only [List.setIfInBounds_toArray, List.set_cons_zero, List.set_cons_succ]
      refine take_at (i := 35) (v := .slice Py M Cy) rfl rfl (by kernel_rfl) (by kernel_rfl) (by kernel_rfl) (fun _ _ _ h => h) (Or.inl ⟨by rfl, ?_⟩) hH ?_
      · intro w5 hSw; obtain ⟨c0, c1, c2, d0, d1, d2⟩ := hSw; go_simp
      simp only [List.setIfInBounds_toArray, List.set_cons_zero, List.set_cons_succ]
      refine take_at (i := 36) (v := .int .i64 (M : Int)) rfl rfl (by kernel_rfl) (by kernel_rfl) (by kernel_rfl) (fun _ _ _ h => h) (Or.inl ⟨by rfl, ?_⟩) hH ?_
      · intro w5 hSw; obtain ⟨c0, c1, c2, d0, d1, d2⟩ := hSw; go_simp
      simp only [List.setIfInBounds_toArray, List.set_cons_zero, List.set_cons_succ]
      refine take_at (i := 37) (v := .bool false) rfl rfl (by kernel_rfl) (by kernel_rfl) (by kernel_rfl) (fun _ _ _ h => h) (Or.inl ⟨by rfl, ?_⟩) hH ?_
      · intro w5 hSw; obtain ⟨c0, c1, c2, d0, d1, d2⟩ := hSw; go_simp
      simp only [List.setIfInBounds_toArray, List.set_cons_zero, List.set_cons_succ]
      refine take_at (i := 38) (v := .bool false) rfl rfl (by kernel_rfl) (by kernel_rfl) (by kernel_rfl) (fun _ _ _ h => h) (Or.inl ⟨by rfl, ?_⟩) hH ?_
      · intro w5 hSw; obtain ⟨c0, c1, c2, d0, d1, d2⟩ := hSw; go_simp
      simp only [List.setIfInBounds_toArray, List.set_cons_zero, List.set_cons_succ]
      refine take_at (i := 39) (v := .bool false) rfl rfl (by kernel_rfl) (by kernel_rfl) (by kernel_rfl) (fun _ _ _ h => h) (Or.inl ⟨by rfl, ?_⟩) hH ?_
      · intro w5 hSw; obtain ⟨c0, c1, c2, d0, d1, d2⟩ := hSw; go_simp
      simp only [List.setIfInBounds_toArray, List.set_cons_zero, List.set_cons_succ]
      refine take_at (i := 40) (v := .slice (some ⟨g2, 0, none⟩) L C6) rfl rfl (by kernel_rfl) (by kernel_rfl) (by kernel_rfl) (fun _ _ _ h => h) (Or.inl ⟨by rfl, ?_⟩) hH ?_
      · intro w5 hSw; obtain ⟨c0, c1, c2, d0, d1, d2⟩ := hSw; go_simp
      simp only [List.setIfInBounds_toArray, List.set_cons_zero, List.set_cons_succ]
      refine take_at (i := 41) (v := .int .i64 (i : Int)) rfl rfl (by kernel_rfl) (by kernel_rfl) (by kernel_rfl) (fun _ _ _ h => h) (Or.inl ⟨by rfl, ?_⟩) hH ?_
      · intro w5 hSw; obtain ⟨c0, c1, c2, d0, d1, d2⟩ := hSw; go_simp
      simp only [List.setIfInBounds_toArray, List.set_cons_zero, List.set_cons_succ]
      refine take_at (i := 42) (v := .pointer (some ⟨g2, i * 3, none⟩)) rfl rfl (by kernel_rfl) (by kernel_rfl) (by kernel_rfl) (fun _ _ _ h => h) (Or.inl ⟨by rfl, ?_⟩) hH ?_
      · intro w5 hSw; obtain ⟨c0, c1, c2, d0, d1, d2⟩ := hSw; go_simp
      simp only [List.setIfInBounds_toArray, List.set_cons_zero, List.set_cons_succ]
      refine take_at (i := 43) (v := .pointer (some ⟨g2, i * 3 + 2, none⟩)) rfl rfl (by kernel_rfl) (by kernel_rfl) (by kernel_rfl) (fun _ _ _ h => h) (Or.inl ⟨by rfl, ?_⟩) hH ?_
      · intro w5 hSw; obtain ⟨c0, c1, c2, d0, d1, d2⟩ := hSw; go_simp
      simp only [List.setIfInBounds_toArray, List.set_cons_zero, List.set_cons_succ]
      refine take_at (i := 44) (v := .int .i64 (M : Int)) rfl rfl (by kernel_rfl) (by kernel_rfl) (by kernel_rfl) (fun _ _ _ h => h) (Or.inl ⟨by rfl, ?_⟩) hH ?_
      · intro w5 hSw; obtain ⟨c0, c1, c2, d0, d1, d2⟩ := hSw; go_simp
      simp only [List.setIfInBounds_toArray, List.set_cons_zero, List.set_cons_succ]
      refine take_at (i := 45) (v := .slice (some ⟨g2, 0, none⟩) L C6) rfl rfl (by kernel_rfl) (by kernel_rfl) (by kernel_rfl) (fun _ _ _ h => h) (Or.inl ⟨by rfl, ?_⟩) hH ?_
      · intro w5 hSw; obtain ⟨c0, c1, c2, d0, d1, d2⟩ := hSw; go_simp
      simp only [List.setIfInBounds_toArray, List.set_cons_zero, List.set_cons_succ]
      refine take_at (i := 46) (v := .int .i64 (i : Int)) rfl rfl (by kernel_rfl) (by kernel_rfl) (by kernel_rfl) (fun _ _ _ h => h) (Or.inl ⟨by rfl, ?_⟩) hH ?_
      · intro w5 hSw; obtain ⟨c0, c1, c2, d0, d1, d2⟩ := hSw; go_simp
      simp only [List.setIfInBounds_toArray, List.set_cons_zero, List.set_cons_succ]
      refine take_at (i := 47) (v := .pointer (some ⟨g2, i * 3, none⟩)) rfl rfl (by kernel_rfl) (by kernel_rfl) (by kernel_rfl) (fun _ _ _ h => h) (Or.inl ⟨by rfl, ?_⟩) hH ?_
      · intro w5 hSw; obtain ⟨c0, c1, c2, d0, d1, d2⟩ := hSw; go_simp
      simp only [List.setIfInBounds_toArray, List.set_cons_zero, List.set_cons_succ]
      refine take_at (i := 48) (v := .pointer (some ⟨g2, i * 3 + 1, none⟩)) rfl rfl (by kernel_rfl) (by kernel_rfl) (by kernel_rfl) (fun _ _ _ h => h) (Or.inl ⟨by rfl, ?_⟩) hH ?_
      · intro w5 hSw; obtain ⟨c0, c1, c2, d0, d1, d2⟩ := hSw; go_simp
      simp only [List.setIfInBounds_toArray, List.set_cons_zero, List.set_cons_succ]
      refine take_at (i := 49) (v := .slice Py M Cy) rfl rfl (by kernel_rfl) (by kernel_rfl) (by kernel_rfl) (fun _ _ _ h => h) (Or.inl ⟨by rfl, ?_⟩) hH ?_
      · intro w5 hSw; obtain ⟨c0, c1, c2, d0, d1, d2⟩ := hSw; go_simp
      simp only [List.setIfInBounds_toArray, List.set_cons_zero, List.set_cons_succ]
      refine take_at (i := 50) (v := .int .i64 (M : Int)) rfl rfl (by kernel_rfl) (by kernel_rfl) (by kernel_rfl) (fun _ _ _ h => h) (Or.inl ⟨by rfl, ?_⟩) hH ?_
      · intro w5 hSw; obtain ⟨c0, c1, c2, d0, d1, d2⟩ := hSw; go_simp
      simp only [List.setIfInBounds_toArray, List.set_cons_zero, List.set_cons_succ]
      refine take_at (i := 51) (v := .bool false) rfl rfl (by kernel_rfl) (by kernel_rfl) (by kernel_rfl) (fun _ _ _ h => h) (Or.inl ⟨by rfl, ?_⟩) hH ?_
      · intro w5 hSw; obtain ⟨c0, c1, c2, d0, d1, d2⟩ := hSw; go_simp
      simp only [List.setIfInBounds_toArray, List.set_cons_zero, List.set_cons_succ]
      refine take_at (i := 52) (v := .bool false) rfl rfl (by kernel_rfl) (by kernel_rfl) (by kernel_rfl) (fun _ _ _ h => h) (Or.inl ⟨by rfl, ?_⟩) hH ?_
      · intro w5 hSw; obtain ⟨c0, c1, c2, d0, d1, d2⟩ := hSw; go_simp
      simp only [List.setIfInBounds_toArray, List.set_cons_zero, List.set_cons_succ]
      refine wpAnyH_done (by kernel_rfl) ?_ _
      refine NoPanic.normal ?_
      go_wp2_with fail
      go_roundw
      case rel => exact ⟨i + 1, by go_num, hlt, grTrans GR.out G7.out⟩
      case measure => simp [intOf]; omega
    · have hlti : ¬ (i : Int) < (L : Int) := by omega
      have RB : Hid (Below w.heap.size w wr) := BL6.out.trans ⟨GR.out.os, GR.out.tape, GR.out.output, GR.out.size, fun k hk => GR.out.block k (Nat.lt_of_lt_of_le hk BL6.out.size) (by simp)⟩
      go_wp2_with fail
      go_ret
      exact ⟨rfl, RB.out⟩
end Go.Proofs.Ytdiehlioemmakaa
