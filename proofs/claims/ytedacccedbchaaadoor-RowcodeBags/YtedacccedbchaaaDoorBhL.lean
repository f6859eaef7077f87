/-
  The walk of locksteplaw02.RowcodeBags: it answers true.
-/
import Derived.Test.YtedacccedbchaaaDoorBhM
namespace Go.Proofs.YtedacccedbchaaaDoor
open Go.RowKit Go.Shelf

theorem bag_bound {l : List (List Va)} (h : bagE l = 0) : (bagB l).length ≤ 10000000000 := by
  have h1 := flatten_len (L := srtB (l.map rowB)) (m := 131121) (fun x hx => by
    have := (srtB_perm (l.map rowB)).subset hx
    obtain ⟨r, hr, rfl⟩ := List.mem_map.1 this
    exact rowB_len2 (bag_all h r hr))
  have h2 : (srtB (l.map rowB)).length = l.length := by rw [(srtB_perm _).length_eq, List.length_map]
  have h3 := bag_len h
  rw [h2] at h1
  unfold bagB
  rw [List.length_append]
  show 4 + _ ≤ _
  omega
theorem own_caps {w : World} {base e sz n m C : Nat} {P : Option Addr} {xs : List Value} (h : w.ownsRow base e sz (.slice P m C) n xs) : n ≤ C ∧ C ≤ 9223372036854775807 := by
  obtain ⟨P', C', e, _, h1, h2⟩ := row_form h
  simp only [Value.slice.injEq] at e
  omega
/-- a bag of rows of one's own -/
theorem bag_own {base : Nat} {P : Option Addr} {C : Nat} {L : List Rw} {w : World} {B : List UInt8} (ho : ownsW w base (.slice P L.length C) L) (hr : ∀ r ∈ L, rwOk w r) (hT : Tabs w) (h0 : bagE (L.map (·.la)) = 0) (hB : bagB (L.map (·.la)) = B) :
    Calls Tryd.prog 10 #[.slice P L.length C] w fun e w' => ∃ v', e = .returned (.tuple #[v', .int .i64 0]) ∧ Below w.heap.size w w' ∧ ownsB w' w.heap.size v' B := by
  refine (Bag_any P C L w ho.rows.2 hr hT).mono ?_
  rintro e w' ⟨v', rfl, hb, h1, _⟩
  exact ⟨v', by rw [h0], hb, hB ▸ h1 h0⟩
theorem bag_bad {base : Nat} {P : Option Addr} {C : Nat} {L : List Rw} {w : World} {E : Int} (ho : ownsW w base (.slice P L.length C) L) (hr : ∀ r ∈ L, rwOk w r) (hT : Tabs w) (h0 : bagE (L.map (·.la)) = E) (hE : ¬ E = 0) :
    Calls Tryd.prog 10 #[.slice P L.length C] w fun e w' => e = .returned (.tuple #[.slice none 0 0, .int .i64 E]) ∧ Below w.heap.size w w' := by
  refine (Bag_any P C L w ho.rows.2 hr hT).mono ?_
  rintro e w' ⟨v', rfl, hb, _, h2⟩
  subst h0
  exact ⟨by rw [h2 hE], hb⟩
theorem tmod_nat (a n : Nat) : ((a : Int)).tmod (n : Int) = ((a % n : Nat) : Int) := by
  rw [Int.tmod_eq_emod_of_nonneg (by omega)]; rfl
theorem u16_wf {F : Int} (h : (Lit.int .u16 F).wf = true) : ∃ f : Nat, F = (f : Int) ∧ f ≤ 65535 := by
  have : 0 ≤ F ∧ F ≤ 65535 := by
    simp [Lit.wf, IntKind.min, IntKind.max, IntKind.bits, IntKind.signed] at h
    omega
  exact ⟨F.toNat, by omega, by omega⟩

set_option maxHeartbeats 8000000 in
set_option maxRecDepth 1000000 in
theorem RowcodeBags_true (P : Option Addr) (C : Nat) (l : List Rw) (F : Int) (mo : Rw) (w : World) (hP : rowsIn w P l) (hr : ∀ r ∈ l, rwOk w r) (hl : l.length ≤ 1048576) (hk : ∀ r ∈ l, r.la.length ≤ 1048576) (hn : ∀ r ∈ l, r.p = none → r.c = 0)
    (hF : (Lit.int .u16 F).wf = true) (hm : rwOk w mo) (hml : mo.la.length ≤ 1048576) (hmn : mo.p = none → mo.c = 0) (hT : Tabs w) :
    Calls Tryd.prog 4 #[.slice P l.length C, .int .u16 F, .slice mo.p mo.la.length mo.c] w fun e w' => e = .returned (.bool true) ∧ Below w.heap.size w w' := by
  obtain ⟨f, rfl, hf⟩ := u16_wf hF
  have LI : Hid (Calls Tryd.prog 18 #[] w fun e w' => e = .returned (.bool true) ∧ Below w.heap.size w w') := lives_any w hT
  have OW : Hid (∀ W, Below w.heap.size w W → Calls Tryd.prog 5 #[.slice P l.length C] W fun e w' => ∃ v' L, e = .returned v' ∧ ownsW w' W.heap.size v' L ∧ L.map (·.la) = l.map (·.la) ∧ (∀ r ∈ L, rwOwn w' W.heap.size r) ∧ Below W.heap.size W w') := fun W hW => Owned_any P C l W (by
      rcases hP with h | ⟨g, off, h1, h2, h3⟩
      · exact Or.inl h
      · exact Or.inr ⟨g, off, h1, Nat.lt_of_lt_of_le h2 hW.size, fun i b hi => (hW.cell (p := ⟨g, off + i, none⟩) h2).trans (h3 i b hi)⟩) (fun r h => (hr r h).below hW) hn hl hk
  have ON2 : Hid (∀ W, Below w.heap.size w W → Calls Tryd.prog 20 #[.slice mo.p mo.la.length mo.c] W fun e w' => e = .returned (.slice (some ⟨W.heap.size, 0, none⟩) mo.la.length (mo.la.length + 1)) ∧ w'.ownsRow W.heap.size 46 3 (.slice (some ⟨W.heap.size, 0, none⟩) mo.la.length (mo.la.length + 1)) mo.la.length (flat mo.la) ∧ Below W.heap.size W w') := fun W hW => Own_any mo.p mo.c mo.la W (hm.1.below hW) hmn hml
  have HM : Hid ((∀ v ∈ mo.la, fit v.n) ∧ ∀ v ∈ mo.la, v.s.size ≤ 9223372036854775807) := hm.2
  have HFI : Hid (∀ r ∈ l.map (·.la), ∀ v ∈ r, fit v.n) := fun r h => by
    obtain ⟨x, hx, rfl⟩ := List.mem_map.1 h
    exact (hr x hx).2.1
  have HR : Hid (∀ r ∈ l, rwOk w r ∧ (r.p = none → r.c = 0) ∧ r.la.length ≤ 1048576) := fun r h => ⟨hr r h, hn r h, hk r h⟩
  have HP : Hid (rowsIn w P l) := hP
  have HT : Hid (Tabs w) := hT
  obtain ⟨E, hE⟩ : ∃ E, E = bagE (l.map (·.la)) := ⟨_, rfl⟩
  clear hP hr hk hn hm hmn hT hF
  by_cases hE0 : E = 0
  · subst hE0
    have HE : Hid (bagE (l.map (·.la)) = 0) := hE.symm
    obtain ⟨B, hB⟩ : ∃ B, B = bagB (l.map (·.la)) := ⟨_, rfl⟩
    have HB : Hid (B = bagB (l.map (·.la))) := hB
    have hBl : B.length ≤ 10000000000 := by rw [hB]; exact bag_bound hE.symm
    obtain ⟨S, hS, hSm, hSg⟩ := rd_bag hE.symm HFI.out
    rw [← hB] at hS
    obtain ⟨hSl, hSE, hSB⟩ := bag_back hE.symm hSm hSg
    have HS : Hid (rdBag B = .ok S ∧ S.length = l.length ∧ bagE S = 0 ∧ bagB S = B ∧ (∀ r ∈ S, goodR r) ∧ ∀ k a b, S[k]? = some a → S[k + 1]? = some b → rowsV a b ≤ 0) := ⟨hS, by simpa using hSl, hSE, by rw [hSB, hB], hSg, fun k a b ha hb => bag_rows hSm hSg ha hb⟩
    clear hE hB hS hSm hSg hSl hSE hSB
    go_enter Tryd.func4, Tryd.ntmps4
    go_wp2_with fail
    refine LI.out.mono ?_
    rintro e w1 ⟨rfl, b1⟩
    clear LI
    go_wp2_with fail
    refine (OW.out _ b1).mono ?_
    rintro e w2 ⟨v24, L1, rfl, ho2, hm2, hr2, hb2⟩
    obtain ⟨P24, C24, rfl, _, _, _⟩ := row_form ho2
    have b2 := b1.trans (hb2.mono b1.size)
    have BG : Hid (Calls Tryd.prog 10 #[.slice P24 L1.length C24] w2 fun e w' => ∃ v', e = .returned (.tuple #[v', .int .i64 0]) ∧ Below w2.heap.size w2 w' ∧ ownsB w' w2.heap.size v' B) := bag_own ho2 (fun r h => (hr2 r h).ok) (HT.out.below b2) (by rw [hm2]; exact HE.out) (by rw [hm2]; exact HB.out.symm)
    clear ho2 hm2 hr2 hb2 b1
    go_wp2_with fail
    refine BG.out.mono ?_
    rintro e w3 ⟨v7, rfl, hb3, ho3⟩
    obtain ⟨P7, C7, rfl, hn7, hc71, hc72⟩ := row_form ho3
    have b3 := b2.trans (hb3.mono b2.size)
    have H7 : Hid (byIn w3 P7 B) := (show ownsB w3 w2.heap.size (Bv.val ⟨P7, C7, B⟩) B from ho3).byIn
    have ON : Hid (∀ W, Below w3.heap.size w3 W → Calls Tryd.prog 6 #[.slice P7 B.length C7] W fun e w' => ∃ v', e = .returned v' ∧ ownsB w' W.heap.size v' B ∧ Below W.heap.size W w' ∧ ∃ g cap, v' = .slice (some ⟨g, 0, none⟩) B.length cap) := fun W hW => own_big P7 C7 B W (H7.out.below hW) hn7 hBl
    have CA : Hid (∀ W, Below w3.heap.size w3 W → (convert 23 9 (.slice P7 B.length C7)).run Tryd.prog W = .ok (.string ⟨B.toArray⟩) W) := fun W hW => conv_in C7 (H7.out.below hW)
    clear BG ho3 hb3 hn7 H7
    go_wp2_with fail
    go_loopw [9, 10] (fun sv si wr => ∃ k : Nat, si = .int .i64 ((k : Int) - 1) ∧ k ≤ l.length ∧ Hid (ownsW wr w3.heap.size sv ((rot l f).drop k).reverse) ∧ Hid (Below w3.heap.size w3 wr)) (fun _ si _ => ((intOf si) + 1).toNat)
    case atStart =>
      refine ⟨l.length, rfl, Nat.le_refl _, ?_, Below.refl _ _⟩
      show ownsW _ _ _ _
      rw [List.drop_eq_nil_of_le (by rw [rot_len]; exact Nat.le_refl _)]
      exact World.ownsRow_nil _ _ _ _
    case round =>
      obtain ⟨k, hsi, hk, ho, hbr⟩ := hrel
      have br := b3.trans (hbr.out.mono b3.size)
      have sr := hbr.out.size
      rcases k with _ | k
      · have hsi' : u10 = .int .i64 (-1) := hsi
        subst hsi'
        clear hsi hk
        have ho2 := ho.out
        rw [List.drop_zero] at ho2
        have HTP : Hid (((rot l f).reverse).Perm l) := rot_perm l f
        have hTl : ((rot l f).reverse).length = l.length := by rw [List.length_reverse, rot_len]
        generalize (rot l f).reverse = T at ho2 HTP hTl
        obtain ⟨P9, C9, rfl, _, _, _⟩ := row_form ho2
        have HTE : Hid (bagE (T.map (·.la)) = 0 ∧ bagB (T.map (·.la)) = B) := by
          obtain ⟨q1, q2⟩ := bag_perm (HTP.out.map (·.la)) HE.out
          exact ⟨q1, by rw [q2]; exact HB.out.symm⟩
        have OW2 : Hid (Calls Tryd.prog 5 #[.slice P9 T.length C9] wr fun e w' => ∃ v' L, e = .returned v' ∧ ownsW w' wr.heap.size v' L ∧ L.map (·.la) = T.map (·.la) ∧ (∀ r ∈ L, rwOwn w' wr.heap.size r) ∧ Below wr.heap.size wr w') := Owned_any P9 C9 T wr ho2.rows.2 (fun r h => (HR.out r (HTP.out.subset h)).1.below br) (fun r h => (HR.out r (HTP.out.subset h)).2.1) (by omega) (fun r h => (HR.out r (HTP.out.subset h)).2.2)
        have HB2 := hbr.out
        clear ho ho2 HTP hbr HP HR hTl
        go_wp2_with fail
        refine OW2.out.mono ?_
        rintro e w5 ⟨v55, L2, rfl, ho5, hm5, hr5, hb5⟩
        obtain ⟨P55, C55, rfl, _, _, _⟩ := row_form ho5
        have b5 : Below w3.heap.size w3 w5 := HB2.trans (hb5.mono sr)
        have BG2 : Hid (Calls Tryd.prog 10 #[.slice P55 L2.length C55] w5 fun e w' => ∃ v', e = .returned (.tuple #[v', .int .i64 0]) ∧ Below w5.heap.size w5 w' ∧ ownsB w' w5.heap.size v' B) := bag_own ho5 (fun r h => (hr5 r h).ok) (HT.out.below (b3.trans (b5.mono b3.size))) (by rw [hm5]; exact HTE.out.1) (by rw [hm5]; exact HTE.out.2)
        clear OW2 ho5 hm5 hr5 hb5 HB2 HTE
        go_wp2_with fail
        refine BG2.out.mono ?_
        rintro e w6 ⟨v11, rfl, hb6, ho6⟩
        have b6 : Below w3.heap.size w3 w6 := b5.trans (hb6.mono b5.size)
        clear BG2 hb6 b5
        go_wp2_with fail
        refine (ON.out _ b6).mono ?_
        rintro e w7 ⟨v61, rfl, ho7, hb7, g61, c61, rfl⟩
        have b7 : Below w3.heap.size w3 w7 := b6.trans (hb7.mono b6.size)
        obtain ⟨h611, h612⟩ := own_caps ho7
        have ho6 := own_below ho6 hb7
        have RB : Hid (Calls Tryd.prog 15 #[.slice (some ⟨g61, 0, none⟩) B.length c61] w7 fun e w' => ∃ P13 C13 L13, e = .returned (.tuple #[.slice P13 (L13 : List Rw).length C13, .int .i64 0]) ∧ Below w7.heap.size w7 w' ∧ (ownsW w' w7.heap.size (.slice P13 L13.length C13) L13) ∧ L13.map (·.la) = S ∧ ∀ r ∈ L13, ownsV w' w7.heap.size r.val r.la) := by
          refine (ReadBag_any (some ⟨g61, 0, none⟩) c61 B w7 (show ownsB w7 w6.heap.size (Bv.val ⟨some ⟨g61, 0, none⟩, c61, B⟩) B from ho7).byIn h611 h612 (by omega) (HT.out.below (b3.trans (b7.mono b3.size)))).mono ?_
          rintro e w' ⟨v', rfl, hb, q1, _⟩
          obtain ⟨L, o1, o2, o3⟩ := q1 S HS.out.1
          obtain ⟨P13, C13, rfl, _⟩ := row_form o1
          refine ⟨P13, C13, L, ?_, hb, o1, o2, o3⟩
          rw [HS.out.1]; rfl
        clear ho7 hb7 b6 h611 h612
        go_wp2_with fail
        refine RB.out.mono ?_
        rintro e w8 ⟨P13, C13, L13, rfl, hb8, ho8, hm8, hv8⟩
        have b8 : Below w3.heap.size w3 w8 := b7.trans (hb8.mono b7.size)
        have ho6 := own_below ho6 hb8
        have cv1 := CA.out _ b8
        have cv2 := conv_own ho6
        have hLl : L13.length = l.length := by have := congrArg List.length hm8; rw [List.length_map, HS.out.2.1] at this; exact this
        have hLb : ((L13.length : Int) != (l.length : Int)) = false := by rw [hLl]; simp
        have hL13 : (L13.length : Int) ≤ 1048576 := by omega
        have HOK : Hid (∀ r ∈ L13, goodR r.la ∧ rwOk w8 r) := fun r h => by
          have hg : goodR r.la := HS.out.2.2.2.2.1 r.la (by rw [← hm8]; exact List.mem_map.2 ⟨r, h, rfl⟩)
          exact ⟨hg, (hv8 r h).rowIn, fun v hv => (hg.2.1 v hv).2, fun v hv => Nat.le_trans (hg.2.2 v hv) (by decide)⟩
        have HO8 : Hid (ownsW w8 w7.heap.size (.slice P13 L13.length C13) L13) := ho8
        have HM8 : Hid (L13.map (·.la) = S) := hm8
        have HR8 : Hid (rowsIn w8 P13 L13) := ho8.rows.2
        clear RB hb8 b7 ho6 ON hLl ho8 hm8 hv8
        go_wp2_with fail
        clear cv1 cv2
        go_loopw [15] (fun si wr => ∃ k : Nat, si = .int .i64 ((k : Int) + 1) ∧ k ≤ L13.length ∧ Hid (Below w8.heap.size w8 wr)) (fun si _ => L13.length - (intOf si).toNat)
        case atStart => exact ⟨0, rfl, Nat.zero_le _, Below.refl _ _⟩
        case round =>
          obtain ⟨k, rfl, hk, hbr⟩ := hrel
          have sr8 := hbr.out.size
          by_cases hlt : k + 1 < L13.length
          · have hlti : (k : Int) + 1 < (L13.length : Int) := by omega
            obtain ⟨a, ha⟩ : ∃ x, L13[k]? = some x := ⟨L13[k]'(by omega), List.getElem?_eq_getElem _⟩
            obtain ⟨b, hb⟩ : ∃ x, L13[k + 1]? = some x := ⟨L13[k + 1]'(by omega), List.getElem?_eq_getElem _⟩
            obtain ⟨ga, oka⟩ := HOK.out a (List.mem_of_getElem? ha)
            obtain ⟨gb, okb⟩ := HOK.out b (List.mem_of_getElem? hb)
            have hz : ¬ 0 < rowsV a.la b.la := by
              have := HS.out.2.2.2.2.2 k a.la b.la (by rw [← HM8.out, List.getElem?_map, ha]; rfl) (by rw [← HM8.out, List.getElem?_map, hb]; rfl)
              omega
            have RV : Hid (∀ W, Below wr.heap.size wr W → Calls Tryd.prog 19 #[.slice a.p a.la.length a.c, .slice b.p b.la.length b.c] W fun e w' => e = .returned (.int .i64 (rowsV a.la b.la)) ∧ Below W.heap.size W w') := fun W hW => Rows_any a.p b.p a.c b.c a.la b.la W (Nat.le_trans ga.1 (by decide)) ((oka.1.below hbr.out).below hW) ((okb.1.below hbr.out).below hW) oka.2.1 okb.2.1
            generalize rowsV a.la b.la = z at hz RV
            have hp := HR8.out
            rcases hp with hp | ⟨g, off, hP13, hgw, hcs⟩
            · rw [hp] at ha; simp at ha
            subst hP13
            have d1 := (hbr.out.cell (p := ⟨g, off + k, none⟩) hgw).trans (hcs k a ha)
            have d2 := (hbr.out.cell (p := ⟨g, off + (k + 1), none⟩) hgw).trans (hcs (k + 1) b hb)
            have hgr : g < wr.heap.size := Nat.lt_of_lt_of_le hgw sr8
            have T0 : ls2 wr ⟨g, off + k, none⟩ ⟨g, off + (k + 1), none⟩ (.slice a.p a.la.length a.c) (.slice b.p b.la.length b.c) wr := ⟨Below.refl _ _, d1, d2⟩
            have T1 := T0.up hgr hgr (below_drewN (Below.refl _ wr) 1)
            have hka : (k : Int) < (L13.length : Int) := by omega
            have hkn : ¬ L13.length ≤ k := by omega
            have hkm : ¬ L13.length ≤ k + 1 := by omega
            have hk0 : ¬ (k : Int) + 1 < 0 := by omega
            have hk1 : (0 : Int) ≤ (k : Int) + 1 := by omega
            have htn : ((k : Int) + 1).toNat = k + 1 := by omega
            have hwk : IntKind.i64.wrap (k : Int) = (k : Int) := by simp [IntKind.wrap, IntKind.bits, IntKind.signed]; omega
            have hw1 : IntKind.i64.wrap ((k : Int) + 1 - 1) = (k : Int) := by simp [IntKind.wrap, IntKind.bits, IntKind.signed]; omega
            clear ha hb ga gb oka okb hcs d1 d2 T0
            go_wp2_with fail
            refine wp_region_noPanic ?_
            refine wp_region_held_drew (S := fun w' => Below wr.heap.size wr w' ∧ w'.cell? ⟨g, off + k, none⟩ = some (.slice a.p a.la.length a.c) ∧ w'.cell? ⟨g, off + (k + 1), none⟩ = some (.slice b.p b.la.length b.c)) (by kernel_rfl) (T1) (fun hH0 => ?_)
            refine take_at (i := 0) (v := .slice (some ⟨g, off, none⟩) L13.length C13) rfl rfl (by kernel_rfl) (by kernel_rfl) (by kernel_rfl) (fun _ _ _ h => h) (Or.inl ⟨by rfl, ?_⟩) hH0 ?_
            · intro w hSw; (try dsimp only at hSw); go_simp
            simp only [List.setIfInBounds_toArray, List.set_cons_zero, List.set_cons_succ]
            refine take_at (i := 1) (v := .int .i64 ((k : Int) + 1)) rfl rfl (by kernel_rfl) (by kernel_rfl) (by kernel_rfl) (fun _ _ _ h => h) (Or.inl ⟨by rfl, ?_⟩) hH0 ?_
            · intro w hSw; (try dsimp only at hSw); go_simp
            simp only [List.setIfInBounds_toArray, List.set_cons_zero, List.set_cons_succ]
            refine take_at (i := 2) (v := .int .i64 k) rfl rfl (by kernel_rfl) (by kernel_rfl) (by kernel_rfl) (fun _ _ _ h => h) (Or.inl ⟨by rfl, ?_⟩) hH0 ?_
            · intro w hSw; (try dsimp only at hSw); go_simp
            simp only [List.setIfInBounds_toArray, List.set_cons_zero, List.set_cons_succ]
            refine take_at (i := 3) (v := .pointer (some ⟨g, off + k, none⟩)) rfl rfl (by kernel_rfl) (by kernel_rfl) (by kernel_rfl) (fun _ _ _ h => h) (Or.inl ⟨by rfl, ?_⟩) hH0 ?_
            · intro w hSw; (try dsimp only at hSw); go_simp
            simp only [List.setIfInBounds_toArray, List.set_cons_zero, List.set_cons_succ]
            refine take_at (i := 4) (v := .slice a.p a.la.length a.c) rfl rfl (by kernel_rfl) (by kernel_rfl) (by kernel_rfl) (fun _ _ _ h => h) (Or.inl ⟨by rfl, ?_⟩) hH0 ?_
            · intro w hSw; (try dsimp only at hSw); obtain ⟨hS1, hS2, hS3⟩ := hSw; go_simp
            simp only [List.setIfInBounds_toArray, List.set_cons_zero, List.set_cons_succ]
            refine take_at (i := 5) (v := .slice (some ⟨g, off, none⟩) L13.length C13) rfl rfl (by kernel_rfl) (by kernel_rfl) (by kernel_rfl) (fun _ _ _ h => h) (Or.inl ⟨by rfl, ?_⟩) hH0 ?_
            · intro w hSw; (try dsimp only at hSw); go_simp
            simp only [List.setIfInBounds_toArray, List.set_cons_zero, List.set_cons_succ]
            refine take_at (i := 6) (v := .int .i64 ((k : Int) + 1)) rfl rfl (by kernel_rfl) (by kernel_rfl) (by kernel_rfl) (fun _ _ _ h => h) (Or.inl ⟨by rfl, ?_⟩) hH0 ?_
            · intro w hSw; (try dsimp only at hSw); go_simp
            simp only [List.setIfInBounds_toArray, List.set_cons_zero, List.set_cons_succ]
            refine take_at (i := 7) (v := .pointer (some ⟨g, off + (k + 1), none⟩)) rfl rfl (by kernel_rfl) (by kernel_rfl) (by kernel_rfl) (fun _ _ _ h => h) (Or.inl ⟨by rfl, ?_⟩) hH0 ?_
            · intro w hSw; (try dsimp only at hSw); go_simp
            simp only [List.setIfInBounds_toArray, List.set_cons_zero, List.set_cons_succ]
            refine take_at (i := 8) (v := .slice b.p b.la.length b.c) rfl rfl (by kernel_rfl) (by kernel_rfl) (by kernel_rfl) (fun _ _ _ h => h) (Or.inl ⟨by rfl, ?_⟩) hH0 ?_
            · intro w hSw; (try dsimp only at hSw); obtain ⟨hS1, hS2, hS3⟩ := hSw; go_simp
            simp only [List.setIfInBounds_toArray, List.set_cons_zero, List.set_cons_succ]
            refine wpAnyH_ready (rs := [9]) (by kernel_rfl) (by simp) ?_
            refine AllReadyH.cons rfl (fun K hK => ?_) AllReadyH.nil
            go_simp
            go_at_call 19
            refine (RV.out _ hH0.1).mono ?_
            rintro e w9 ⟨rfl, hb9⟩
            go_wp2_with fail
            refine hK.out _ _ (ls2.up (A := ⟨g, off + k, none⟩) (B := ⟨g, off + (k + 1), none⟩) hH0 hgr hgr hb9) (fun hH1 => ?_)
            clear hK K
            refine take_at (i := 10) (v := .bool false) rfl rfl (by kernel_rfl) (by kernel_rfl) (by kernel_rfl) (fun _ _ _ h => h) (Or.inl ⟨by rfl, ?_⟩) hH1 ?_
            · intro w hSw; (try dsimp only at hSw); go_simp
            simp only [List.setIfInBounds_toArray, List.set_cons_zero, List.set_cons_succ]
            refine wpAnyH_done (by kernel_rfl) ?_ _
            refine NoPanic.normal ?_
            go_wp2_with fail
            go_roundw
            case rel => exact ⟨k + 1, by go_num, by omega, hbr.out.trans (hH1.1.mono sr8)⟩
            case measure => simp [intOf]; omega
          · have hlti : ¬ (k : Int) + 1 < (L13.length : Int) := by omega
            have br8 := b8.trans (hbr.out.mono b8.size)
            have brw := b3.trans (br8.mono b3.size)
            have BG3 : Hid (Calls Tryd.prog 10 #[.slice P13 L13.length C13] wr fun e w' => ∃ v', e = .returned (.tuple #[v', .int .i64 0]) ∧ Below wr.heap.size wr w' ∧ ownsB w' wr.heap.size v' B) := bag_own (show ownsW wr w7.heap.size (.slice P13 L13.length C13) L13 from own_below HO8.out hbr.out) (fun r h => (HOK.out r h).2.below hbr.out) (HT.out.below brw) (by rw [HM8.out]; exact HS.out.2.2.1) (by rw [HM8.out]; exact HS.out.2.2.2.1)
            clear HOK HO8 HM8 HR8 HS hbr b8
            go_wp2_with fail
            refine BG3.out.mono ?_
            rintro e w10 ⟨v16, rfl, hb10, ho10⟩
            have b10 := br8.trans (hb10.mono br8.size)
            have bw10 := b3.trans (b10.mono b3.size)
            clear BG3 hb10
            go_wp2_with fail
            refine (OW.out _ bw10).mono ?_
            rintro e w11 ⟨v109, L4, rfl, ho11, hm11, hr11, hb11⟩
            have b11 := b10.trans (hb11.mono b10.size)
            have bw11 := b3.trans (b11.mono b3.size)
            have ho10 := own_below ho10 hb11
            have s11 := hb11.size
            clear OW
            go_wp2_with fail
            refine (ON2.out _ bw11).mono ?_
            rintro e w12 ⟨rfl, ho12, hb12⟩
            have b12 := b11.trans (hb12.mono b11.size)
            have bw12 := b3.trans (b12.mono b3.size)
            have ho10 := own_below ho10 hb12
            have ho11' : ownsW w12 w10.heap.size v109 L4 := own_below ho11 hb12
            have hr12 : Hid (∀ r ∈ L4, rwOwn w12 w10.heap.size r) := fun r h => (hr11 r h).below hb12
            have hN : Hid (rwOwn w12 w10.heap.size ⟨some ⟨w11.heap.size, 0, none⟩, mo.la.length + 1, mo.la⟩) := ⟨own_low ho12 s11, HM.out.1, HM.out.2, by intro h; cases h⟩
            have hL4 : L4.length ≤ 10000000 := by have := congrArg List.length hm11; simp at this; omega
            have HM11 : Hid (L4.map (·.la) = l.map (·.la)) := hm11
            have s12 : w10.heap.size ≤ w12.heap.size := Nat.le_trans s11 hb12.size
            clear ON2 ho11 hr11 ho12 hm11 hb11 hb12
            go_wp2_with (at_builtin; refine app_r rfl (.tmp 109) (.tmp 112) rfl w10.heap.size _ L4 ⟨some ⟨w11.heap.size, 0, none⟩, mo.la.length + 1, mo.la⟩ rfl ho11' rfl hL4 s12 ?_; intro v113 w13 ho13 hg13)
            obtain ⟨P113, C113, rfl, _, _, _⟩ := row_form ho13
            have b13 : Below w3.heap.size w3 w13 := b12.trans (grown_below hg13 b12.size (fun g h => Nat.le_trans b10.size (World.ownsRow.lt ho11' g h).1))
            have bw13 := b3.trans (b13.mono b3.size)
            have ho10 : ownsB w13 wr.heap.size v16 B := World.ownsRow.kept ho10 hg13 (kinds ho10 ho11' (by decide))
            have hr13 : ∀ r ∈ L4 ++ [(⟨some ⟨w11.heap.size, 0, none⟩, mo.la.length + 1, mo.la⟩ : Rw)], rwOk w13 r := fun r h => by
              rcases List.mem_append.1 h with h | h
              · exact ((hr12.out r h).grown ho11' hg13).ok
              · simp at h; subst h; exact (hN.out.grown ho11' hg13).ok
            have hm13 : (L4 ++ [(⟨some ⟨w11.heap.size, 0, none⟩, mo.la.length + 1, mo.la⟩ : Rw)]).map (·.la) = l.map (·.la) ++ [mo.la] := by rw [List.map_append, HM11.out]; rfl
            by_cases hE4 : bagE (l.map (·.la) ++ [mo.la]) = 0
            · obtain ⟨B4, hB4⟩ : ∃ B4, B4 = bagB (l.map (·.la) ++ [mo.la]) := ⟨_, rfl⟩
              have hne : (B4 == B) = false := by
                rw [beq_eq_false_iff_ne, hB4, HB.out]
                exact bag_other HE.out hE4 (by simp)
              have BG4 : Hid (Calls Tryd.prog 10 #[.slice P113 (L4 ++ [(⟨some ⟨w11.heap.size, 0, none⟩, mo.la.length + 1, mo.la⟩ : Rw)]).length C113] w13 fun e w' => ∃ v', e = .returned (.tuple #[v', .int .i64 0]) ∧ Below w13.heap.size w13 w' ∧ ownsB w' w13.heap.size v' B4) := bag_own ho13 hr13 (HT.out.below bw13) (by rw [hm13]; exact hE4) (by rw [hm13]; exact hB4.symm)
              generalize (L4 ++ [(⟨some ⟨w11.heap.size, 0, none⟩, mo.la.length + 1, mo.la⟩ : Rw)]).length = N4 at *
              clear ho13 hr13 hm13 hB4 hg13
              go_wp2_with fail
              refine BG4.out.mono ?_
              rintro e w14 ⟨v18, rfl, hb14, ho14⟩
              have b14 := b13.trans (hb14.mono b13.size)
              have cv1 := CA.out _ b14
              have cv2 := conv_own (own_below ho10 hb14)
              have cv3 := conv_own ho14
              clear BG4
              go_wp2_with fail
              go_ret
              exact ⟨rfl, b3.trans (b14.mono b3.size)⟩
            · obtain ⟨E4, hE5⟩ : ∃ E4, E4 = bagE (l.map (·.la) ++ [mo.la]) := ⟨_, rfl⟩
              rw [← hE5] at hE4
              have hne : (E4 != 0) = true := by rw [bne_iff_ne]; exact hE4
              have BG4 : Hid (Calls Tryd.prog 10 #[.slice P113 (L4 ++ [(⟨some ⟨w11.heap.size, 0, none⟩, mo.la.length + 1, mo.la⟩ : Rw)]).length C113] w13 fun e w' => e = .returned (.tuple #[.slice none 0 0, .int .i64 E4]) ∧ Below w13.heap.size w13 w') := bag_bad ho13 hr13 (HT.out.below bw13) (by rw [hm13]; exact hE5.symm) hE4
              generalize (L4 ++ [(⟨some ⟨w11.heap.size, 0, none⟩, mo.la.length + 1, mo.la⟩ : Rw)]).length = N4 at *
              clear ho13 hr13 hm13 hE5 hg13
              go_wp2_with fail
              refine BG4.out.mono ?_
              rintro e w14 ⟨rfl, hb14⟩
              have b14 := b13.trans (hb14.mono b13.size)
              have cv1 := CA.out _ b14
              have cv2 := conv_own (own_below ho10 hb14)
              clear BG4
              go_wp2_with fail
              go_ret
              exact ⟨rfl, b3.trans (b14.mono b3.size)⟩
      · have hsi' : u10 = .int .i64 (k : Int) := by rw [hsi, show (((k + 1 : Nat) : Int) - 1) = (k : Int) by omega]
        subst hsi'
        clear hsi
        have hj : (k + f) % l.length < l.length := Nat.mod_lt _ (by omega)
        obtain ⟨j, hjd⟩ : ∃ j, j = (k + f) % l.length := ⟨_, rfl⟩
        rw [← hjd] at hj
        obtain ⟨x, hx⟩ : ∃ x, l[j]? = some x := ⟨l[j], List.getElem?_eq_getElem hj⟩
        have hnx : Hid (((rot l f).drop k).reverse = ((rot l f).drop (k + 1)).reverse ++ [x]) := rot_next (by omega) (by rw [← hjd]; exact hx)
        have hp := HP.out
        rcases hp with rfl | ⟨g, off, rfl, hgw, hcs⟩
        · simp at hx
        have d1 := (br.cell (p := ⟨g, off + j, none⟩) hgw).trans (hcs j x hx)
        have htm : ((k : Int) + (f : Int)).tmod (l.length : Int) = (j : Int) := by
          rw [hjd, ← tmod_nat, show ((k + f : Nat) : Int) = (k : Int) + (f : Int) by omega]
        have hem : ((k : Int) + (f : Int)) % (l.length : Int) = (j : Int) := by
          rw [← htm, Int.tmod_eq_emod_of_nonneg (by omega)]
        have hln : ¬ (l.length : Int) = 0 := by omega
        have hlb : ((l.length : Int) == 0) = false := by rw [beq_eq_false_iff_ne]; exact hln
        have hji : (j : Int) < (l.length : Int) := by omega
        have hki : (k : Int) ≤ 1048576 := by omega
        have hwj : IntKind.i64.wrap (j : Int) = (j : Int) := by simp [IntKind.wrap, IntKind.bits, IntKind.signed]; omega
        have ho2 := ho.out
        have hTl : ((rot l f).drop (k + 1)).reverse.length ≤ 10000000 := by rw [List.length_reverse, List.length_drop, rot_len]; omega
        generalize ((rot l f).drop (k + 1)).reverse = T at ho2 hnx hTl
        clear hcs hx hjd ho
        go_wp2_with (at_builtin; refine app_r rfl (.tmp 40) (.tmp 51) rfl w3.heap.size _ T x rfl ho2 rfl hTl sr ?_; intro v4 w4 ho4 hg4)
        go_roundw
        case rel => exact ⟨k, rfl, by omega, by show ownsW _ _ _ _; rw [hnx.out]; exact ho4, hbr.out.trans (grown_below hg4 sr (fun g h => (World.ownsRow.lt ho2 g h).1))⟩
        case measure => simp [intOf] <;> omega
  · have HE : Hid (bagE (l.map (·.la)) = E) := hE.symm
    have h1 : (E != 0) = true := by rw [bne_iff_ne]; exact hE0
    clear hE
    go_enter Tryd.func4, Tryd.ntmps4
    go_wp2_with fail
    refine LI.out.mono ?_
    rintro e w1 ⟨rfl, b1⟩
    clear LI
    go_wp2_with fail
    refine (OW.out _ b1).mono ?_
    rintro e w2 ⟨v24, L1, rfl, ho2, hm2, hr2, hb2⟩
    obtain ⟨P24, C24, rfl, _, _, _⟩ := row_form ho2
    have b2 := b1.trans (hb2.mono b1.size)
    have BG : Hid (Calls Tryd.prog 10 #[.slice P24 L1.length C24] w2 fun e w' => e = .returned (.tuple #[.slice none 0 0, .int .i64 E]) ∧ Below w2.heap.size w2 w') := bag_bad ho2 (fun r h => (hr2 r h).ok) (HT.out.below b2) (by rw [hm2]; exact HE.out) hE0
    clear ho2 hm2 hr2 hb2 b1
    go_wp2_with fail
    refine BG.out.mono ?_
    rintro e w3 ⟨rfl, hb3⟩
    have b3 := b2.trans (hb3.mono b2.size)
    clear BG
    go_wp2_with fail
    go_ret
    exact ⟨rfl, b3⟩
end Go.Proofs.YtedacccedbchaaaDoor
