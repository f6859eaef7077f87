/-
  The walk of lockstepref02.ReadBag.
-/
import Derived.Test.YtedacccedbchaaaDoorBgI
import Derived.Test.YtedacccedbchaaaDoorBgE
namespace Go.Proofs.YtedacccedbchaaaDoor
open Go.RowKit Go.Shelf

set_option maxHeartbeats 8000000 in
set_option maxRecDepth 1000000 in
theorem refReadBag_any (p : Option Addr) (c : Nat) (l : List UInt8) (w : World) (hp : byIn w p l) (hc : l.length ≤ c) (hcm : c ≤ 9223372036854775807) (hlm : l.length ≤ 140737488351232) :
    Calls Tryd.prog 16 #[.slice p l.length c] w fun e w' => ∃ v', e = .returned (.tuple #[v', .int .i64 (bErr (rdBag l))]) ∧ Below w.heap.size w w' ∧ (∀ s, (rdBag l) = .ok s → ∃ L : List Rw, ownsW w' w.heap.size v' L ∧ L.map (·.la) = s ∧ ∀ r ∈ L, ownsV w' w.heap.size r.val r.la) ∧ (∀ x, (rdBag l) = .error x → v' = .slice none 0 0) := by
  by_cases h4 : l.length < 4
  · have e : rdBag l = .error 4 := if_pos h4
    rw [e]
    have hi : (l.length : Int) < 4 := by omega
    go_enter Tryd.func16, Tryd.ntmps16
    go_wp2_with fail
    refine bodyPost_ret (v := .tuple #[.slice none 0 0, .int .i64 4]) (by simp [results, Tryd.results16, go_sem]) rfl (by first | exact ⟨_, rfl, Below.refl _ _, (by intro s h; cases h), fun _ _ => rfl⟩ | exact ⟨_, rfl, Below.refl _ _, by simp⟩ | exact ⟨_, Below.refl _ _⟩ | exact Below.refl _ _)
  obtain ⟨b0, b1, b2, b3, ht, g0, g1, g2, g3⟩ := take4 h4
  obtain ⟨g, off, rfl⟩ := hp.some_of (by omega)
  have hN := be4 ht
  obtain ⟨N, hN0⟩ : ∃ N, N = beN (l.take 4) := ⟨_, rfl⟩
  have HP : Hid (byIn w (some ⟨g, off, none⟩) l) := hp
  rcases hp with rfl | ⟨g', off', e, hg, hcs⟩
  · simp at h4
  simp only [Option.some.injEq, Addr.mk.injEq] at e
  obtain ⟨rfl, rfl, _⟩ := e
  have c0 := hcs 0 b0 g0
  have c1 := hcs 1 b1 g1
  have c2 := hcs 2 b2 g2
  have c3 := hcs 3 b3 g3
  rw [Nat.add_zero] at c0
  have x0 := b0.toNat_lt
  have x1 := b1.toNat_lt
  have x2 := b2.toNat_lt
  have x3 := b3.toNat_lt
  obtain ⟨A1, hA1⟩ : ∃ A1 : Nat, A1 = b0.toNat * 16777216 + b1.toNat * 65536 := ⟨_, rfl⟩
  obtain ⟨A2, hA2⟩ : ∃ A2 : Nat, A2 = A1 + b2.toNat * 256 := ⟨_, rfl⟩
  have o1 : bits .or .i64 ((b0.toNat : Int) * 16777216) ((b1.toNat : Int) * 65536) = (A1 : Int) := by
    rw [show (b0.toNat : Int) * 16777216 = ((b0.toNat * 16777216 : Nat) : Int) by omega, show (b1.toNat : Int) * 65536 = ((b1.toNat * 65536 : Nat) : Int) by omega, or_i64 _ _ (by omega) (by omega), or_add b0.toNat _ 24 (by omega), hA1]
  have o2 : bits .or .i64 (A1 : Int) ((b2.toNat : Int) * 256) = (A2 : Int) := by
    rw [show (b2.toNat : Int) * 256 = ((b2.toNat * 256 : Nat) : Int) by omega, or_i64 _ _ (by omega) (by omega), show A1 = (b0.toNat * 256 + b1.toNat) * 2 ^ 16 by omega, or_add _ _ 16 (by omega), hA2, hA1]
    omega
  have o3 : bits .or .i64 (A2 : Int) (b3.toNat : Int) = (N : Int) := by
    rw [or_i64 _ _ (by omega) (by omega), show A2 = (b0.toNat * 65536 + b1.toNat * 256 + b2.toNat) * 2 ^ 8 by omega, or_add _ _ 8 (by omega), hN0, hN]
    omega
  have l4 : (4 : Int) ≤ (l.length : Int) := by omega
  have l4n : ¬ (l.length : Int) < 4 := by omega
  have lc : (l.length : Int) ≤ (c : Int) := by omega
  clear hA1 hA2 hN ht g0 g1 g2 g3 hcs
  by_cases h65 : 65536 < N
  · have e : rdBag l = .error 20 := by unfold rdBag; rw [if_neg h4, if_pos (by rw [← hN0]; exact h65)]
    rw [e]
    have h65i : (65536 : Int) < (N : Int) := by omega
    clear hN0 HP
    go_enter Tryd.func16, Tryd.ntmps16
    go_wp2_with fail
    go_quiet (fail)
    go_wp2_with fail
    refine bodyPost_ret (v := .tuple #[.slice none 0 0, .int .i64 20]) (by simp [results, Tryd.results16, go_sem]) rfl (by first | exact ⟨_, rfl, below_drewN (Below.refl _ w) _, (by intro s h; cases h), fun _ _ => rfl⟩ | exact ⟨_, rfl, below_drewN (Below.refl _ w) _, by simp⟩ | exact ⟨_, below_drewN (Below.refl _ w) _⟩ | exact below_drewN (Below.refl _ w) _)
  have e : rdBag l = rdBs N [] [] (l.drop 4) := by unfold rdBag; rw [if_neg h4, if_neg (by rw [← hN0]; exact h65), hN0]
  rw [e]
  obtain ⟨E, hE⟩ : ∃ E, E = rdBs N [] [] (l.drop 4) := ⟨_, rfl⟩
  rw [← hE]
  have HE : Hid (E = rdBs (N - 0) (([] : List Rw).map (·.la)) [] (l.drop 4)) := hE
  have h65i : ¬ (65536 : Int) < (N : Int) := by omega
  have hN65 : N ≤ 65536 := by omega
  clear hE e hN0 h65
  go_enter Tryd.func16, Tryd.ntmps16
  go_wp2_with fail
  go_quiet (fail)
  go_wp2_with fail
  have BW : Below w.heap.size w (w.drewN nq) := below_drewN (Below.refl _ w) nq
  generalize w.drewN nq = w2 at *
  go_loopw [5, 6, 7] (fun s5 s6 s7 wr => ∃ (k ii : Nat) (PL : Option Addr) (CL : Nat) (A : Bv) (L : List Rw), s5 = .slice PL L.length CL ∧ s6 = .int .i64 ii ∧ s7 = .slice A.p A.l.length A.c ∧ k ≤ N ∧ L.length = k ∧ ii ≤ l.length ∧ Hid (L.length = 0 → A.l = []) ∧ Hid (E = rdBs (N - k) (L.map (·.la)) A.l (l.drop ii)) ∧ Hid (byIn w A.p A.l) ∧ Hid (ownsW wr w.heap.size s5 L) ∧ Hid (∀ r ∈ L, ownsV wr w.heap.size r.val r.la) ∧ Hid (Below w.heap.size w wr)) (fun s5 _ _ _ => N - (match s5 with | .slice _ n _ => n | _ => 0))
  case atStart => exact ⟨0, 4, none, 0, ⟨none, 0, []⟩, [], rfl, rfl, rfl, Nat.zero_le _, rfl, by omega, (fun _ => rfl), HE, Or.inl rfl, World.ownsRow_nil _ _ _ _, (fun r h => by simp at h), BW⟩
  case round =>
    obtain ⟨k, ii, PL, CL, A, L, rfl, rfl, rfl, hk, rfl, hil, hA0, hd, hAr, ho, hLo, hbr⟩ := hrel
    clear HE
    have bs := hbr.out.size
    have hii : (ii : Int) ≤ (l.length : Int) := by omega
    by_cases hlt : L.length < N
    · have hlti : (L.length : Int) < (N : Int) := by omega
      have hd1 := hd.out
      rw [show N - L.length = (N - (L.length + 1)) + 1 by omega, rdBs] at hd1
      by_cases hci : c = ii
      · obtain rfl : ii = c := hci.symm
        have hl0 : l.length - ii = 0 := by omega
        have hd2 : E = .error 4 := by
          rw [hd1, List.drop_eq_nil_of_le (by omega)]; rfl
        subst hd2
        have RD : Hid (Calls Tryd.prog 14 #[.slice (some ⟨g, off, none⟩) 0 0] wr fun e w' => ∃ v', e = .returned (.tuple #[v', .int .i64 0, .int .i64 4]) ∧ Below wr.heap.size wr w') := by
          refine (refReadRow_any (some ⟨g, off, none⟩) 0 [] wr (Or.inl rfl) (by simp) (by omega) (by simp)).mono ?_
          rintro e w' ⟨v', rfl, hb, _⟩
          exact ⟨v', rfl, hb⟩
        clear hd hd1
        go_wp2_with fail
        refine RD.out.mono ?_
        rintro e' w4 ⟨v4, rfl, hb4⟩
        have B4 := hbr.out.trans (hb4.mono bs)
        clear RD
        go_wp2_with fail
        refine bodyPost_ret (v := .tuple #[.slice none 0 0, .int .i64 4]) (by simp [results, Tryd.results16, go_sem]) rfl (by first | exact ⟨_, rfl, B4, (by intro s h; cases h), fun _ _ => rfl⟩ | exact ⟨_, rfl, B4, by simp⟩ | exact ⟨_, B4⟩ | exact ⟨rfl, B4⟩ | exact B4)
      · have RD : Hid (Calls Tryd.prog 14 #[.slice (some ⟨g, off + ii, none⟩) (l.length - ii) (c - ii)] wr fun e w' => ∃ v', e = .returned (.tuple #[v', .int .i64 ((rCnt (rdRow (l.drop ii)) : Nat) : Int), .int .i64 (rErr (rdRow (l.drop ii)))]) ∧ Below wr.heap.size wr w' ∧ (∀ s m, rdRow (l.drop ii) = .ok (s, m) → ownsV w' wr.heap.size v' s) ∧ (∀ x, rdRow (l.drop ii) = .error x → v' = .slice none 0 0)) := by
          have := refReadRow_any (some ⟨g, off + ii, none⟩) (c - ii) (l.drop ii) wr ((HP.out.from ii).below hbr.out) (by rw [List.length_drop]; omega) (by omega) (by rw [List.length_drop]; omega)
          rw [List.length_drop] at this
          exact this
        rcases hq : rdRow (l.drop ii) with x | ⟨s, m⟩
        · rw [hq] at hd1 RD
          have hd2 : E = .error x := hd1
          subst hd2
          have hne : (x != 0) = true := by rw [bne_iff_ne]; exact rdRow_err hq
          clear hd hd1 hq
          simp only [rCnt, rErr] at RD
          go_wp2_with fail
          refine RD.out.mono ?_
          rintro e' w4 ⟨v4, rfl, hb4, _, _⟩
          have B4 := hbr.out.trans (hb4.mono bs)
          clear RD
          go_wp2_with fail
          refine bodyPost_ret (v := .tuple #[.slice none 0 0, .int .i64 x]) (by simp [results, Tryd.results16, go_sem]) rfl (by first | exact ⟨_, rfl, B4, (by intro s h; cases h), fun _ _ => rfl⟩ | exact ⟨_, rfl, B4, by simp⟩ | exact ⟨_, B4⟩ | exact ⟨rfl, B4⟩ | exact B4)
        · obtain ⟨hsok, hs16, hm1, hm2, hm3⟩ := rdRow_back hq
          rw [List.length_drop] at hm2
          rw [hq] at hd1 RD
          simp only [rCnt, rErr] at RD
          have hmi : (ii : Int) + (m : Int) ≤ (l.length : Int) := by omega
          have hmC : (ii : Int) + (m : Int) ≤ (c : Int) := by omega
          have ht1 : ((ii : Int) + (m : Int)).toNat = ii + m := by omega
          have ht2 : ii + m - ii = m := by omega
          have hnow : Hid (byIn w (some ⟨g, off + ii, none⟩) ((l.drop ii).take m)) := (HP.out.from ii).upto m
          have hnl : Hid (((l.drop ii).take m).length = m) := by show _ = _; rw [List.length_take, List.length_drop]; omega
          have hdd : Hid ((l.drop ii).drop m = l.drop (ii + m)) := by show _ = _; rw [List.drop_drop]
          have LS : Hid (∀ W, Below wr.heap.size wr W → Calls Tryd.prog 29 #[.slice (some ⟨g, off + ii, none⟩) m (c - ii), .slice A.p A.l.length A.c] W fun e w' => e = .returned (.bool (!leB A.l ((l.drop ii).take m))) ∧ w' = W) := fun W hW => by
            have h1 := less_any (c - ii) A.c ((hnow.out.below hbr.out).below hW) ((hAr.out.below hbr.out).below hW)
            rw [hnl.out] at h1
            exact h1
          by_cases hL0 : L.length = 0
          · have hle : leB A.l ((l.drop ii).take m) = true := by rw [hA0.out hL0]; exact leB_nil _
            have hd2 : Hid (E = rdBs (N - (L.length + 1)) (L.map (·.la) ++ [s]) ((l.drop ii).take m) (l.drop (ii + m))) := by
              show _ = _
              rw [hd1, ← hdd.out]; simp only [hle, if_true]
            have hL0i : ¬ (0 : Int) < (L.length : Int) := by omega
            clear hd hd1 hq hle hsok hm3 LS hL0
            go_wp2_with fail
            refine RD.out.mono ?_
            rintro e' w4 ⟨v4, rfl, hb4, hV4, _⟩
            have hV4 := hV4 s m rfl
            obtain ⟨r4, hr4, hla4, _, _, _⟩ := ownsV.row hV4
            subst hr4
            have B4 := hbr.out.trans (hb4.mono bs)
            have s4 := B4.size
            have o4 : ownsW w4 w.heap.size _ L := own_below ho.out hb4
            have L4 : Hid (∀ r ∈ (L : List Rw), ownsV w4 w.heap.size r.val r.la) := fun r h => own_below (hLo.out r h) hb4
            have N4 : Hid (ownsV w4 w.heap.size r4.val r4.la) := by rw [hla4]; exact own_low hV4 bs
            have HLA : Hid (r4.la = s) := hla4
            clear RD ho hLo hbr hV4 hla4
            go_wp2_with (at_builtin; refine app_r rfl (.tmp 68) (.tmp 70) rfl w.heap.size _ L r4 rfl o4 rfl (by omega) s4 ?_; intro v6 w6 ho6 hg6)
            obtain ⟨P6, C6, rfl, _⟩ := row_form ho6
            have B6 : Below w.heap.size w w6 := B4.trans (grown_below hg6 s4 (fun g h => (World.ownsRow.lt o4 g h).1))
            have L6 : Hid (∀ r ∈ (L : List Rw) ++ [r4], ownsV w6 w.heap.size r.val r.la) := fun r h => by
              rcases List.mem_append.1 h with h | h
              · exact ownsV.grownW (L4.out r h) o4 hg6
              · simp at h; subst h; exact ownsV.grownW N4.out o4 hg6
            have hd3 : Hid (E = rdBs (N - (L.length + 1)) (((L : List Rw) ++ [r4]).map (·.la)) ((l.drop ii).take m) (l.drop (ii + m))) := by
              show _ = _
              rw [List.map_append, List.map_cons, List.map_nil, HLA.out]; exact hd2.out
            go_roundw
            case rel => exact ⟨L.length + 1, ii + m, P6, C6, ⟨some ⟨g, off + ii, none⟩, c - ii, (l.drop ii).take m⟩, L ++ [r4], rfl, by go_num, by rw [hnl.out], hlt, by simp, by omega, (fun h => by simp at h), hd3, hnow, ho6, L6, B6⟩
            case measure => simp; omega
          · have hL0i : (0 : Int) < (L.length : Int) := by omega
            by_cases hle : leB A.l ((l.drop ii).take m) = true
            · have hd2 : Hid (E = rdBs (N - (L.length + 1)) (L.map (·.la) ++ [s]) ((l.drop ii).take m) (l.drop (ii + m))) := by
                show _ = _
                rw [hd1, ← hdd.out]; simp only [hle, if_true]
              rw [hle] at LS
              clear hd hd1 hq hle hsok hm3 hL0
              go_wp2_with fail
              refine RD.out.mono ?_
              rintro e' w4 ⟨v4, rfl, hb4, hV4, _⟩
              have hV4 := hV4 s m rfl
              obtain ⟨r4, hr4, hla4, _, _, _⟩ := ownsV.row hV4
              subst hr4
              have B4 := hbr.out.trans (hb4.mono bs)
              have s4 := B4.size
              have o4 : ownsW w4 w.heap.size _ L := own_below ho.out hb4
              have L4 : Hid (∀ r ∈ (L : List Rw), ownsV w4 w.heap.size r.val r.la) := fun r h => own_below (hLo.out r h) hb4
              have N4 : Hid (ownsV w4 w.heap.size r4.val r4.la) := by rw [hla4]; exact own_low hV4 bs
              have HLA : Hid (r4.la = s) := hla4
              clear RD ho hLo hbr hV4 hla4
              go_wp2_with fail
              refine (LS.out _ hb4).mono ?_
              rintro e' w5 ⟨rfl, hw5⟩
              obtain rfl : w4 = w5 := hw5.symm
              clear LS hb4
              go_wp2_with (at_builtin; refine app_r rfl (.tmp 68) (.tmp 70) rfl w.heap.size _ L r4 rfl o4 rfl (by omega) s4 ?_; intro v6 w6 ho6 hg6)
              obtain ⟨P6, C6, rfl, _⟩ := row_form ho6
              have B6 : Below w.heap.size w w6 := B4.trans (grown_below hg6 s4 (fun g h => (World.ownsRow.lt o4 g h).1))
              have L6 : Hid (∀ r ∈ (L : List Rw) ++ [r4], ownsV w6 w.heap.size r.val r.la) := fun r h => by
                rcases List.mem_append.1 h with h | h
                · exact ownsV.grownW (L4.out r h) o4 hg6
                · simp at h; subst h; exact ownsV.grownW N4.out o4 hg6
              have hd3 : Hid (E = rdBs (N - (L.length + 1)) (((L : List Rw) ++ [r4]).map (·.la)) ((l.drop ii).take m) (l.drop (ii + m))) := by
                show _ = _
                rw [List.map_append, List.map_cons, List.map_nil, HLA.out]; exact hd2.out
              go_roundw
              case rel => exact ⟨L.length + 1, ii + m, P6, C6, ⟨some ⟨g, off + ii, none⟩, c - ii, (l.drop ii).take m⟩, L ++ [r4], rfl, by go_num, by rw [hnl.out], hlt, by simp, by omega, (fun h => by simp at h), hd3, hnow, ho6, L6, B6⟩
              case measure => simp; omega
            · have hle : leB A.l ((l.drop ii).take m) = false := by simpa using hle
              have hd2 : E = .error 20 := by rw [hd1]; simp only [hle, Bool.false_eq_true, if_false]
              subst hd2
              rw [hle] at LS
              clear hd hd1 hq hle hsok hm3 hL0
              go_wp2_with fail
              refine RD.out.mono ?_
              rintro e' w4 ⟨v4, rfl, hb4, _, _⟩
              have B4 := hbr.out.trans (hb4.mono bs)
              clear RD
              go_wp2_with fail
              refine (LS.out _ hb4).mono ?_
              rintro e' w5 ⟨rfl, hw5⟩
              obtain rfl : w4 = w5 := hw5.symm
              clear LS
              go_wp2_with fail
              refine bodyPost_ret (v := .tuple #[.slice none 0 0, .int .i64 20]) (by simp [results, Tryd.results16, go_sem]) rfl (by first | exact ⟨_, rfl, B4, (by intro s h; cases h), fun _ _ => rfl⟩ | exact ⟨_, rfl, B4, by simp⟩ | exact ⟨_, B4⟩ | exact ⟨rfl, B4⟩ | exact B4)
    · have hk0 : N = L.length := by omega
      have hlti : ¬ (L.length : Int) < (N : Int) := by omega
      obtain rfl : L.length = N := hk0.symm
      have hd1 := hd.out
      rw [Nat.sub_self, rdBs] at hd1
      have hB := hbr.out
      by_cases hr0 : l.drop ii = []
      · have hd2 : E = .ok (L.map (·.la)) := by rw [hd1, if_pos hr0]
        subst hd2
        have hil2 : ¬ (ii : Int) < (l.length : Int) := by have := List.drop_eq_nil_iff.1 hr0; omega
        have O5 : Hid (ownsW wr w.heap.size (.slice PL L.length CL) L) := ho.out
        clear hd hd1 ho
        go_wp2_with fail
        refine bodyPost_ret (v := .tuple #[(.slice PL L.length CL), .int .i64 0]) (by simp [results, Tryd.results16, go_sem]) rfl (by first | exact ⟨_, rfl, hB, (by intro s h; cases h; exact ⟨L, O5.out, rfl, hLo.out⟩), (by intro x h; cases h)⟩ | exact ⟨_, rfl, hB, L, O5.out, rfl, hLo.out⟩ | exact ⟨hB, L, O5.out, rfl, hLo.out⟩)
      · have hd2 : E = .error 5 := by rw [hd1, if_neg hr0]
        subst hd2
        have hrp : (ii : Int) < (l.length : Int) := by
          rcases Nat.lt_or_ge ii l.length with h | h
          · omega
          · exact absurd (List.drop_eq_nil_of_le h) hr0
        clear hd hd1 ho
        go_wp2_with fail
        refine bodyPost_ret (v := .tuple #[.slice none 0 0, .int .i64 5]) (by simp [results, Tryd.results16, go_sem]) rfl (by first | exact ⟨_, rfl, hB, (by intro s h; cases h), fun _ _ => rfl⟩ | exact ⟨_, rfl, hB, by simp⟩ | exact ⟨_, hB⟩ | exact ⟨rfl, hB⟩ | exact hB)
end Go.Proofs.YtedacccedbchaaaDoor
