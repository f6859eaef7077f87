/-
  The walk of lockstepref02.Bag.
-/
import Derived.Test.YtedacccedbchaaaDoorBgG
import Derived.Test.YtedacccedbchaaaDoorBgF
import Derived.Test.YtedacccedbchaaaDoorDgA
namespace Go.Proofs.YtedacccedbchaaaDoor
open Go.RowKit Go.Shelf

theorem ownsB.grownS {w w' : World} {base b2 : Nat} {v x : Value} {l : List UInt8} {L : List Bv} (h : ownsB w base x l) (ho : ownsS w b2 v L) (hg : w.grownBy w' v.ownBlock) : ownsB w' base x l :=
  World.ownsRow.kept h hg (kinds h ho (by decide))

set_option maxHeartbeats 8000000 in
set_option maxRecDepth 1000000 in
theorem refBag_any (P : Option Addr) (C : Nat) (l : List Rw) (w : World) (hP : rowsIn w P l) (hr : ∀ r ∈ l, rwOk w r) (hk : ∀ r ∈ l, r.la.length ≤ 9223372036854775807) (hll : l.length ≤ 9223372036854775807) :
    Calls Tryd.prog 11 #[.slice P l.length C] w fun e w' => ∃ v', e = .returned (.tuple #[v', .int .i64 (bagE (l.map (·.la)))]) ∧ Below w.heap.size w w' ∧ (bagE (l.map (·.la)) = 0 → ownsB w' w.heap.size v' (bagB (l.map (·.la)))) ∧ (¬ bagE (l.map (·.la)) = 0 → v' = .slice none 0 0) := by
  by_cases h16 : 65536 < l.length
  · have e : bagE (l.map (·.la)) = 2 := if_pos (by simpa using h16)
    rw [e]
    have h16i : (65536 : Int) < (l.length : Int) := by omega
    go_enter Tryd.func11, Tryd.ntmps11
    go_wp2_with fail
    refine bodyPost_ret (v := .tuple #[.slice none 0 0, .int .i64 2]) (by simp [results, Tryd.results11, go_sem]) rfl ⟨_, rfl, Below.refl _ _, fun h => by omega, fun _ => rfl⟩
  · have e : bagE (l.map (·.la)) = bagEs (l.map (·.la)) := if_neg (by simpa using h16)
    rw [e]
    obtain ⟨E, hE⟩ : ∃ E, E = bagEs (l.map (·.la)) := ⟨_, rfl⟩
    rw [← hE]
    have HE : Hid (E = bagEs ((l.drop 0).map (·.la))) := hE
    clear hE e
    have h16i : (l.length : Int) ≤ 65536 := by omega
    have HP : Hid (rowsIn w P l) := hP
    have HR : Hid (∀ r ∈ l, rwOk w r) := hr
    have HK : Hid (∀ r ∈ l, r.la.length ≤ 9223372036854775807) := hk
    clear hP hr hk hll
    go_enter Tryd.func11, Tryd.ntmps11
    go_wp2_with fail
    go_loopw [4, 5] (fun sv si wr => ∃ (k : Nat) (L : List Bv), si = .int .i64 k ∧ k ≤ l.length ∧ L.length = k ∧ Hid (E = bagEs ((l.drop k).map (·.la))) ∧ Hid (∀ r ∈ l.take k, rowE r.la = 0) ∧ Hid (L.map (·.l) = (l.take k).map (fun r => rowB r.la)) ∧ Hid (ownsS wr w.heap.size sv L) ∧ Hid (∀ b ∈ L, ownsB wr w.heap.size b.val b.l) ∧ Hid (Below w.heap.size w wr)) (fun _ si _ => l.length - (intOf si).toNat)
    case atStart => exact ⟨0, [], rfl, Nat.zero_le _, rfl, HE, (fun r h => by simp at h), rfl, World.ownsRow_nil _ _ _ _, (fun b h => by simp at h), Below.refl _ _⟩
    case round =>
      obtain ⟨k, L, rfl, hk, hLk, hd, hck, hLm, ho, hLo, hbr⟩ := hrel
      clear HE
      by_cases hlt : k < l.length
      · obtain ⟨x, hx⟩ : ∃ x, l[k]? = some x := ⟨l[k], List.getElem?_eq_getElem hlt⟩
        have hok := HR.out x (List.mem_of_getElem? hx)
        have hkx := HK.out x (List.mem_of_getElem? hx)
        have hp := HP.out
        rcases hp with rfl | ⟨g, off, rfl, hgw, hcs⟩
        · simp at hx
        have d1 := (hbr.out.cell (p := ⟨g, off + k, none⟩) hgw).trans (hcs k x hx)
        have hd1 := hd.out
        rw [drop_at hx, List.map_cons] at hd1
        have RW : Hid (Calls Tryd.prog 8 #[.slice x.p x.la.length x.c] wr fun e w' => ∃ v', e = .returned (.tuple #[v', .int .i64 (rowE x.la)]) ∧ Below wr.heap.size wr w' ∧ (rowE x.la = 0 → ownsB w' wr.heap.size v' (rowB x.la)) ∧ (¬ rowE x.la = 0 → v' = .slice none 0 0)) := refRow_any x.p x.c x.la wr (hok.1.below hbr.out) hok.2.1 hkx
        by_cases h0 : rowE x.la = 0
        · have hd2 : Hid (E = bagEs ((l.drop (k + 1)).map (·.la))) := hd1.trans (bagEs_pass h0)
          rw [h0] at RW
          have hck2 : Hid (∀ r ∈ l.take (k + 1), rowE r.la = 0) := fun r hr => by
            rw [List.take_add_one, hx] at hr
            simp only [Option.toList_some, List.mem_append, List.mem_cons, List.not_mem_nil, or_false] at hr
            rcases hr with hr | rfl
            · exact hck.out r hr
            · exact h0
          have hLm2 : Hid (∀ b : Bv, b.l = rowB x.la → (L ++ [b]).map (·.l) = (l.take (k + 1)).map (fun r => rowB r.la)) := fun b hb => by
            rw [List.take_add_one, hx, List.map_append, List.map_append, hLm.out]; simp [hb]
          clear hd hd1 hck hLm hcs hx hok h0 hkx
          go_wp2_with fail
          refine RW.out.mono ?_
          rintro e w2 ⟨v2, rfl, hb2, ho2, _⟩
          have ho2 := ho2 (by first | exact rfl | trivial)
          obtain ⟨b, rfl, hbl, hbn, _, _⟩ := ho2.bv
          have bs := hbr.out.size
          have b2 : Below w.heap.size w w2 := hbr.out.trans (hb2.mono bs)
          have ho3 : ownsS w2 w.heap.size u4 L := own_below ho.out hb2
          have HBL : Hid (b.l = rowB x.la) := hbl
          have hN : Hid (ownsB w2 w.heap.size b.val b.l) := by rw [hbl]; exact own_low ho2 bs
          have hLo3 : Hid (∀ b ∈ L, ownsB w2 w.heap.size b.val b.l) := fun b h => own_below (hLo.out b h) hb2
          clear RW ho hLo hbr ho2 hb2 hbl
          unfold Bv.val
          go_wp2_with (at_builtin; refine app_s rfl (.tmp 31) (.tmp 33) rfl w.heap.size _ L b rfl ho3 rfl (by omega) b2.size ?_; intro v4 w4 ho4 hg4)
          go_roundw
          case rel =>
            refine ⟨k + 1, L ++ [b], by go_num, hlt, by simp [hLk], hd2, hck2, hLm2.out b HBL.out, ho4, ?_, b2.trans (grown_below hg4 b2.size (fun g h => (World.ownsRow.lt ho3 g h).1))⟩
            intro y hy
            rcases List.mem_append.1 hy with hy | hy
            · exact (hLo3.out y hy).grownS ho3 hg4
            · simp at hy; subst hy; exact hN.out.grownS ho3 hg4
          case measure => simp [intOf]; omega
        · have hd2 : E = rowE x.la := hd1.trans (bagEs_stop h0)
          have h1 : (rowE x.la != 0) = true := by rw [bne_iff_ne]; exact h0
          subst hd2
          clear hd hd1 hck hLm hcs hx hok hkx
          go_wp2_with fail
          refine RW.out.mono ?_
          rintro e w2 ⟨v2, rfl, hb2, _, _⟩
          have b2 : Below w.heap.size w w2 := hbr.out.trans (hb2.mono hbr.out.size)
          clear RW
          go_wp2_with fail
          refine bodyPost_ret (v := .tuple #[.slice none 0 0, .int .i64 (rowE x.la)]) (by simp [results, Tryd.results11, go_sem]) rfl ⟨_, rfl, b2, fun h => absurd h h0, fun _ => rfl⟩
      · have hkl : k = l.length := by omega
        have hE0 : E = 0 := by have := hd.out; rw [List.drop_eq_nil_of_le (by omega)] at this; exact this
        subst hE0
        subst hkl
        have ho3 := ho.out
        obtain ⟨PL, CL, rfl, _, hc1, hc2⟩ := row_form ho3
        rw [hLk] at hc1
        have hLm3 : Hid (L.map (·.l) = (l.map (·.la)).map rowB) := by
          show _ = _
          rw [hLm.out, List.take_length, List.map_map]; rfl
        have hLb : Hid (∀ b ∈ L, byIn wr b.p b.l ∧ b.l ≠ [] ∧ b.l.length ≤ 131121) := fun b hb => by
          have h1 : b.l ∈ L.map (·.l) := List.mem_map.2 ⟨b, hb, rfl⟩
          rw [hLm.out, List.take_length] at h1
          obtain ⟨r, hr, e⟩ := List.mem_map.1 h1
          have h2 := hck.out r (by rw [List.take_length]; exact hr)
          refine ⟨(hLo.out b hb).byIn, ?_⟩
          rw [← e]
          exact ⟨rowB_ne _, rowB_len2 h2⟩
        have SO : Hid (Calls Tryd.prog 26 #[.slice PL l.length CL] wr fun e w' => ∃ P' C' M, e = .returned (.slice P' (M : List Bv).length C') ∧ bvsIn w' P' M ∧ M.Perm L ∧ M.Pairwise (fun a b => leV a b = true) ∧ Below wr.heap.size wr w' ∧ M.length ≤ C' ∧ C' ≤ 9223372036854775807) := by
          have := sorted_any L.length L PL CL wr (Nat.le_refl _) ho3.bvs.2 (fun b hb => (hLb.out b hb).1) (by omega) hc2 (by omega)
          rw [hLk] at this
          exact this
        have bs := hbr.out.size
        have hB := hbr.out
        clear hd hck hLm ho hLo hbr ho3
        go_wp2_with fail
        refine SO.out.mono ?_
        rintro e w3 ⟨P3, C3, M, rfl, hV3, hp3, hs3, hb3', hc31, hc32⟩
        have b3 : Below w.heap.size w w3 := hB.trans (hb3'.mono bs)
        have hMl : M.length = l.length := hp3.length_eq.trans hLk
        have h16m : (M.length : Int) ≤ 65536 := by omega
        have hMb : Hid (∀ b ∈ M, byIn w3 b.p b.l ∧ b.l ≠ [] ∧ b.l.length ≤ 131121) := fun b hb => by
          have hbL := hp3.subset hb
          obtain ⟨q1, q2⟩ := hLb.out b hbL
          exact ⟨q1.below hb3', q2⟩
        have hfin : Hid (cnt4 M.length ++ ((M.take M.length).map (·.l)).flatten = bagB (l.map (·.la))) := by
          show _ = _
          unfold bagB
          rw [List.take_length, srt_of_bv hp3 hs3, hLm3.out, hMl, List.length_map]
        have HV : Hid (bvsIn w3 P3 M) := hV3
        have HML : Hid (M.length = l.length) := hMl
        clear SO hLb hLm3 hp3 hs3 hV3 hMl hb3'
        go_wp2_with fail
        have hO4 : Hid (ownsB (w3.alloc (.cells #[.int .u8 ((M.length : Int) / 16777216), .int .u8 ((M.length : Int) / 65536), .int .u8 ((M.length : Int) / 256 % 256), .int .u8 ((M.length : Int) % 256)] 5)) w3.heap.size (.slice (some ⟨w3.heap.size, 0, none⟩) 4 4) (cnt4 M.length ++ ((M.take 0).map (·.l)).flatten)) := by
          show ownsB _ _ _ _
          rw [List.take_zero, List.map_nil, List.flatten_nil, List.append_nil]
          exact own_four w3 w3.heap.size _ _ (cnt4_cells (by omega)) rfl (Nat.le_refl _)
        have hbd : Hid (∀ k, (cnt4 M.length ++ ((M.take k).map (·.l)).flatten).length ≤ 8593145860) := fun k => by
          have := flat_bound (M := M) (by omega) (fun b hb => (hMb.out b hb).2.2) k
          rw [List.length_append]
          show 4 + _ ≤ _
          omega
        go_loopw [9, 10] (fun sv si wr => ∃ k : Nat, si = .int .i64 k ∧ k ≤ M.length ∧ Hid (ownsB wr w3.heap.size sv (cnt4 M.length ++ ((M.take k).map (·.l)).flatten)) ∧ Hid (Below w3.heap.size w3 wr)) (fun _ si _ => M.length - (intOf si).toNat)
        case atStart => exact ⟨0, rfl, Nat.zero_le _, hO4, (Below.refl _ w3).alloc (Nat.le_refl _) _⟩
        case round =>
          obtain ⟨k, rfl, hk, ho, hbr⟩ := hrel
          clear hO4
          have bs4 := hbr.out.size
          by_cases hlt4 : k < M.length
          · obtain ⟨b, hb⟩ : ∃ x, M[k]? = some x := ⟨M[k]'(by omega), List.getElem?_eq_getElem (by omega)⟩
            obtain ⟨hy, hne, hbl⟩ := hMb.out b (List.mem_of_getElem? hb)
            obtain ⟨gm, om, rfl, hgm, cm⟩ := HV.out.get hb
            have d4 := (hbr.out.cell (p := ⟨gm, om + k, none⟩) hgm).trans cm
            have hy4 := hy.below hbr.out
            have hn4 : Hid (((M.take (k + 1)).map (·.l)).flatten = ((M.take k).map (·.l)).flatten ++ b.l) := flat_next hb
            have hb4 := hbd.out k
            have ho4 := ho.out
            have HBL : Hid (b.l.length ≤ 131121) := hbl
            clear hb hy ho hbl cm
            go_wp2_with (at_builtin; refine app_in rfl (.tmp 56) (.tmp 60) rfl w3.heap.size _ (cnt4 M.length ++ ((M.take k).map (·.l)).flatten) b rfl ho4 rfl hy4 hne (by have := HBL.out; omega) bs4 ?_; intro v5 w5 ho5 hg5)
            go_roundw
            case rel => exact ⟨k + 1, by go_num, hlt4, by show ownsB _ _ _ _; rw [hn4.out, ← List.append_assoc]; exact ho5, hbr.out.trans (grown_below hg5 bs4 (fun g h => (World.ownsRow.lt ho4 g h).1))⟩
            case measure => simp [intOf]; omega
          · have hk0 : k = M.length := by omega
            subst hk0
            have ho4 := ho.out
            rw [hfin.out] at ho4
            have B4 := b3.trans (hbr.out.mono b3.size)
            have ho5 : ownsB wr w.heap.size _ (bagB (l.map (·.la))) := own_low ho4 b3.size
            go_wp2_with fail
            refine bodyPost_ret (v := .tuple #[u9, .int .i64 0]) (by simp [results, Tryd.results11, go_sem]) rfl (by first | exact ⟨_, rfl, B4, fun _ => ho5, fun h => absurd rfl h⟩ | exact ⟨_, rfl, B4, ho5⟩ | exact ⟨B4, ho5⟩)
end Go.Proofs.YtedacccedbchaaaDoor
