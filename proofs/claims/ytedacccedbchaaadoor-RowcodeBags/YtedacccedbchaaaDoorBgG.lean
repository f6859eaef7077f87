/-
  The walk of rowcode.Bag: rows as bytes, in their order.
-/
import Derived.Test.YtedacccedbchaaaDoorBgS
namespace Go.Proofs.YtedacccedbchaaaDoor
open Go.RowKit Go.Shelf

/-- an append of bytes that lie anywhere onto one's own -/
theorem app_in {ops : Array Oper} {rest : List Oper} {o : Oper} {a : Act} {w : World} {Q : Exit → Act → World → Prop} (hgd : o.guard = none) (s x : Operand)
    (ho : o.op = .call { callee := .builtin .append, args := #[s, x], argTypes := #[23, 23] })
    (base : Nat) (v : Value) (l : List UInt8) (b : Bv) (hs : a.eval s = v) (hown : ownsB w base v l) (hx : a.eval x = .slice b.p b.l.length b.c) (hp : byIn w b.p b.l) (hne : b.l ≠ []) (hl : l.length + b.l.length ≤ 20000000000) (hb : base ≤ w.heap.size)
    (h : ∀ v' w', ownsB w' base v' (l ++ b.l) → w.grownBy w' v.ownBlock → wpList Tryd.prog ops Q rest (a.put o.dst v') w') :
    wpList Tryd.prog ops Q (o :: rest) a w := by
  obtain ⟨i0, hi, hz0, hz1, hz2⟩ := info_parts u8Info
  obtain ⟨p, c, news⟩ := b
  simp only at hx hp hne hl h
  rcases p with _ | ad
  · exact absurd hp.none_nil hne
  refine wpList_append_own _ hgd s x 23 ho base 5 i0 (.int .u8 0) 1 1 u8Slice hi hz0 hz1 hz2 rfl (by decide) v l.length (by8 l) hs hown ad news.length c (by8 news) hx (by rw [by8_len]; omega) (hp.cells ad rfl) (by8_one _) (by unfold maxLen; omega) (by omega) hb ?_
  intro v' w' h1 h2 _
  refine h v' w' ?_ h2
  show w'.ownsRow _ _ _ _ _ _
  rw [by8_app, List.length_append]; exact h1
theorem set_next (L : List Bv) (m : Nat) (z : Value) (b : Bv) : (L.map Bv.val ++ List.replicate (m + 1) z).set L.length b.val = (L ++ [b]).map Bv.val ++ List.replicate m z := by
  rw [List.set_append_right _ _ (by simp)]
  simp [List.replicate_succ]
theorem rowB_ne (l : List Va) : rowB l ≠ [] := by simp [rowB]
theorem cnt4_cells {n : Nat} (h : n ≤ 65536) : (#[.int .u8 ((n : Int) / 16777216), .int .u8 ((n : Int) / 65536), .int .u8 ((n : Int) / 256 % 256), .int .u8 ((n : Int) % 256)] : Array Value).toList = by8 (cnt4 n) := by
  simp only [by8, cnt4, List.map_cons, List.map_nil, ofNat_int]
  rw [show ((n / 16777216 : Nat) : Int) % 256 = (n : Int) / 16777216 by omega, show ((n / 65536 : Nat) : Int) % 256 = (n : Int) / 65536 by omega, show ((n / 256 : Nat) : Int) % 256 = (n : Int) / 256 % 256 by omega]
/-- bytes just laid, four of them -/
theorem own_four (W : World) (base : Nat) (l : List UInt8) (cs : Array Value) (hcs : cs.toList = by8 l) (hn : l.length = 4) (hb : base ≤ W.heap.size) : ownsB (W.alloc (.cells cs 5)) base (.slice (some ⟨W.heap.size, 0, none⟩) 4 4) l := by
  refine ⟨by rw [by8_len, Nat.mul_one], Or.inr ⟨W.heap.size, 4, cs, by rw [hn], hb, heap_alloc_new W _, by rw [hn]; exact Nat.le_refl _, by unfold maxLen; omega, ?_, ?_⟩⟩
  · have := congrArg List.length hcs
    rw [by8_len, hn] at this
    simpa using this
  · rw [hcs, List.take_of_length_le (by rw [by8_len]; omega)]
theorem flat_next {M : List Bv} {k : Nat} {b : Bv} (h : M[k]? = some b) : ((M.take (k + 1)).map (·.l)).flatten = ((M.take k).map (·.l)).flatten ++ b.l := by
  rw [List.take_add_one, h]; simp
theorem flat_bound {M : List Bv} (hl : M.length ≤ 65536) (hb : ∀ b ∈ M, b.l.length ≤ 131121) (k : Nat) : ((M.take k).map (·.l)).flatten.length ≤ 8593145856 := by
  have h1 := flatten_len (L := (M.take k).map (·.l)) (m := 131121) (fun x hx => by
    obtain ⟨b, hbm, rfl⟩ := List.mem_map.1 hx
    exact hb b (List.mem_of_mem_take hbm))
  rw [List.length_map, List.length_take] at h1
  omega
theorem rowB_len2 {la : List Va} (h : rowE la = 0) : (rowB la).length ≤ 131121 := by
  obtain ⟨h1, h2⟩ := rowE_ok h
  have := rowsB_len la h2
  unfold rowB; rw [List.length_append]; simp; omega

set_option maxHeartbeats 8000000 in
set_option maxRecDepth 1000000 in
theorem Bag_any (P : Option Addr) (C : Nat) (l : List Rw) (w : World) (hP : rowsIn w P l) (hr : ∀ r ∈ l, rwOk w r) (hT : Tabs w) :
    Calls Tryd.prog 10 #[.slice P l.length C] w fun e w' => ∃ v', e = .returned (.tuple #[v', .int .i64 (bagE (l.map (·.la)))]) ∧ Below w.heap.size w w' ∧ (bagE (l.map (·.la)) = 0 → ownsB w' w.heap.size v' (bagB (l.map (·.la)))) ∧ (¬ bagE (l.map (·.la)) = 0 → v' = .slice none 0 0) := by
  by_cases h16 : 65536 < l.length
  · have e : bagE (l.map (·.la)) = 2 := if_pos (by simpa using h16)
    rw [e]
    have h16i : (65536 : Int) < (l.length : Int) := by omega
    go_enter Tryd.func10, Tryd.ntmps10
    go_wp2_with fail
    refine bodyPost_ret (v := .tuple #[.slice none 0 0, .int .i64 2]) (by simp [results, Tryd.results10, go_sem]) rfl ⟨_, rfl, Below.refl _ _, fun h => by omega, fun _ => rfl⟩
  · have e : bagE (l.map (·.la)) = bagEs (l.map (·.la)) := if_neg (by simpa using h16)
    rw [e]
    obtain ⟨E, hE⟩ : ∃ E, E = bagEs (l.map (·.la)) := ⟨_, rfl⟩
    rw [← hE]
    have HE : Hid (E = bagEs ((l.drop 0).map (·.la))) := hE
    clear hE e
    have h16i : (l.length : Int) ≤ 65536 := by omega
    obtain ⟨i0, hi, hz0, hz1, hz2⟩ := info_parts sInfo
    have HP : Hid (rowsIn w P l) := hP
    have HR : Hid (∀ r ∈ l, rwOk w r) := hr
    have HT : Hid (Tabs w) := hT
    clear hP hr hT
    go_enter Tryd.func10, Tryd.ntmps10
    go_wp2_with (at_make; refine wpList_make_full _ rfl (.tmp 17) (.tmp 17) 50 rfl w.heap.size 23 i0 (.slice none 0 0) 1 sSlice hi hz0 hz1 .i64 .i64 (l.length : Int) (l.length : Int) l.length rfl rfl rfl rfl (by rw [hz2]; omega) (by unfold maxLen; omega) (Nat.le_refl _) ?_; intro w1 ho1 hg1)
    have b1 : Below w.heap.size w w1 := grown_below hg1 (Nat.le_refl _) (by intro g h; cases h)
    have ho1' : w1.ownsRow w.heap.size 23 1 (.slice (some ⟨w.heap.size, 0, none⟩) l.length l.length) l.length (([] : List Bv).map Bv.val ++ List.replicate (l.length - 0) (.slice none 0 0)) := by
      have e2 : (madeCells (Value.slice none 0 0).cells (l.length * 1)).toList = ([] : List Bv).map Bv.val ++ List.replicate (l.length - 0) (.slice none 0 0) := by
        apply List.ext_getElem
        · simp [madeCells]
        · intro i h1 h2; simp [madeCells, Value.cells, Nat.mod_one]
      rw [← e2]; exact ho1
    clear ho1 hg1 hi hz0 hz1 hz2
    go_loopw [21] (fun si wr => ∃ (k : Nat) (L : List Bv), si = .int .i64 k ∧ k ≤ l.length ∧ L.length = k ∧ Hid (E = bagEs ((l.drop k).map (·.la))) ∧ Hid (∀ r ∈ l.take k, rowE r.la = 0) ∧ Hid (L.map (·.l) = (l.take k).map (fun r => rowB r.la)) ∧ Hid (wr.ownsRow w.heap.size 23 1 (.slice (some ⟨w.heap.size, 0, none⟩) l.length l.length) l.length (L.map Bv.val ++ List.replicate (l.length - k) (.slice none 0 0))) ∧ Hid (∀ b ∈ L, ownsB wr w.heap.size b.val b.l) ∧ Hid (Below w.heap.size w wr)) (fun si _ => l.length - (intOf si).toNat)
    case atStart => exact ⟨0, [], rfl, Nat.zero_le _, rfl, HE, (fun r h => by simp at h), rfl, ho1', (fun b h => by simp at h), b1⟩
    case round =>
      obtain ⟨k, L, rfl, hk, hLk, hd, hck, hLm, ho, hLo, hbr⟩ := hrel
      clear HE ho1' b1
      by_cases hlt : k < l.length
      · obtain ⟨x, hx⟩ : ∃ x, l[k]? = some x := ⟨l[k], List.getElem?_eq_getElem hlt⟩
        have hok := HR.out x (List.mem_of_getElem? hx)
        have hp := HP.out
        rcases hp with rfl | ⟨g, off, rfl, hgw, hcs⟩
        · simp at hx
        have d1 := (hbr.out.cell (p := ⟨g, off + k, none⟩) hgw).trans (hcs k x hx)
        have hd1 := hd.out
        rw [drop_at hx, List.map_cons] at hd1
        have RW : Hid (Calls Tryd.prog 7 #[.slice x.p x.la.length x.c] wr fun e w' => ∃ v', e = .returned (.tuple #[v', .int .i64 (rowE x.la)]) ∧ Below wr.heap.size wr w' ∧ (rowE x.la = 0 → ownsB w' wr.heap.size v' (rowB x.la)) ∧ (¬ rowE x.la = 0 → v' = .slice none 0 0)) := Row_any x.p x.c x.la wr (hok.1.below hbr.out) hok.2.1 hok.2.2 (HT.out.below hbr.out)
        by_cases h0 : rowE x.la = 0
        · have hd2 : Hid (E = bagEs ((l.drop (k + 1)).map (·.la))) := hd1.trans (bagEs_pass h0)
          rw [h0] at RW
          have hck2 : Hid (∀ r ∈ l.take (k + 1), rowE r.la = 0) := fun r hr => by
            rw [List.take_add_one, hx] at hr
            simp only [Option.toList_some, List.mem_append, List.mem_cons, List.not_mem_nil, or_false] at hr
            rcases hr with hr | rfl
            · exact hck.out r hr
            · exact h0
          have hLm2 : Hid (∀ b : Bv, b.l = rowB x.la → (L ++ [b]).map (·.l) = (l.take (k + 1)).map (fun r => rowB r.la)) := fun b hb => by
            rw [List.take_add_one, hx, List.map_append, List.map_append, hLm.out]; simp [hb]
          clear hd hd1 hck hLm hcs hx hok h0
          go_wp2_with fail
          refine RW.out.mono ?_
          rintro e w2 ⟨v2, rfl, hb2, ho2, _⟩
          have ho2 := ho2 (by first | exact rfl | trivial)
          obtain ⟨b, rfl, hbl, hbn, _, _⟩ := ho2.bv
          have bs := hbr.out.size
          have b2 : Below w.heap.size w w2 := hbr.out.trans (hb2.mono bs)
          have ho3 := own_below ho.out hb2
          have HBL : Hid (b.l = rowB x.la) := hbl
          have hN : Hid (ownsB w2 w.heap.size b.val b.l) := by rw [hbl]; exact own_low ho2 bs
          have hLo3 : Hid (∀ b ∈ L, ownsB w2 w.heap.size b.val b.l) := fun b h => own_below (hLo.out b h) hb2
          have f0 := World.ownsRow.frozenAt ho3 k
          have c0 : w2.cell? ⟨w.heap.size, k, none⟩ = some (.slice none 0 0) := by
            rw [World.ownsRow.cellAt ho3 k (by omega), List.getElem?_append_right (by rw [List.length_map]; omega), List.length_map, hLk, Nat.sub_self, List.getElem?_replicate, if_pos (by omega)]
          obtain ⟨s1, t1⟩ := World.ownsRow.stored ho3 k b.val
          have S1 : Hid ((w2.setCell ⟨w.heap.size, k, none⟩ b.val).ownsRow w.heap.size 23 1 (.slice (some ⟨w.heap.size, 0, none⟩) l.length l.length) l.length ((L ++ [b]).map Bv.val ++ List.replicate (l.length - (k + 1)) (.slice none 0 0))) := by
            show World.ownsRow _ _ _ _ _ _ _
            rw [show l.length - k = (l.length - (k + 1)) + 1 by omega, ← hLk, set_next] at s1
            rw [← hLk]; exact s1
          have S2 : Hid (Below w.heap.size w (w2.setCell ⟨w.heap.size, k, none⟩ b.val)) := b2.trans (grown_below t1 b2.size (by intro g h; cases h; exact Nat.le_refl _))
          have S3 : Hid (∀ x ∈ L ++ [b], ownsB (w2.setCell ⟨w.heap.size, k, none⟩ b.val) w.heap.size x.val x.l) := fun y hy => by
            have hy2 : ownsB w2 w.heap.size y.val y.l := by
              rcases List.mem_append.1 hy with hy | hy
              · exact hLo3.out y hy
              · simp at hy; subst hy; exact hN.out
            exact World.ownsRow.kept hy2 t1 (kinds hy2 ho3 (by decide))
          clear RW ho hLo hbr ho2 hb2 ho3 s1 t1 hN hLo3 hbl
          unfold Bv.val at S1 S2 S3 ⊢
          go_wp2_with fail
          go_roundw
          case rel => exact ⟨k + 1, L ++ [b], by go_num, hlt, by simp [hLk], hd2, hck2, hLm2.out b HBL.out, S1, S3, S2⟩
          case measure => simp [intOf]; omega
        · have hd2 : E = rowE x.la := hd1.trans (bagEs_stop h0)
          have h1 : (rowE x.la != 0) = true := by rw [bne_iff_ne]; exact h0
          subst hd2
          clear hd hd1 hck hLm hcs hx hok
          go_wp2_with fail
          refine RW.out.mono ?_
          rintro e w2 ⟨v2, rfl, hb2, _, _⟩
          have b2 : Below w.heap.size w w2 := hbr.out.trans (hb2.mono hbr.out.size)
          clear RW
          go_wp2_with fail
          refine bodyPost_ret (v := .tuple #[.slice none 0 0, .int .i64 (rowE x.la)]) (by simp [results, Tryd.results10, go_sem]) rfl ⟨_, rfl, b2, fun h => absurd h h0, fun _ => rfl⟩
      · have hkl : k = l.length := by omega
        have hE0 : E = 0 := by have := hd.out; rw [List.drop_eq_nil_of_le (by omega)] at this; exact this
        subst hE0
        subst hkl
        have ho3 : wr.ownsRow w.heap.size 23 1 (.slice (some ⟨w.heap.size, 0, none⟩) l.length l.length) l.length (L.map Bv.val) := by
          have := ho.out
          rw [Nat.sub_self, List.replicate_zero, List.append_nil] at this
          exact this
        have hLm3 : Hid (L.map (·.l) = (l.map (·.la)).map rowB) := by
          show _ = _
          rw [hLm.out, List.take_length, List.map_map]; rfl
        have hLb : Hid (∀ b ∈ L, b.l ≠ [] ∧ b.l.length ≤ 131121) := fun b hb => by
          have h1 : b.l ∈ L.map (·.l) := List.mem_map.2 ⟨b, hb, rfl⟩
          rw [hLm.out, List.take_length] at h1
          obtain ⟨r, hr, e⟩ := List.mem_map.1 h1
          have h2 := hck.out r (by rw [List.take_length]; exact hr)
          rw [← e]
          exact ⟨rowB_ne _, rowB_len2 h2⟩
        have SO : Hid (Calls Tryd.prog 24 #[.slice (some ⟨w.heap.size, 0, none⟩) l.length l.length, .func (.func 25) #[] #[]] wr fun e w' =>
            e = .returned (.tuple #[]) ∧ ∃ M : List Bv, M.Perm L ∧ M.Pairwise (fun a b => leV a b = true) ∧ wr.grownBy w' (some w.heap.size) ∧ ∀ i b, M[i]? = some b → w'.cell? ⟨w.heap.size, i, none⟩ = some b.val) := by
          have := sort_any w.heap.size l.length L wr (fun i b hi => by
            have hil := (List.getElem?_eq_some_iff.1 hi).1
            refine ⟨?_, World.ownsRow.frozenAt ho3 i⟩
            rw [World.ownsRow.cellAt ho3 i (by omega), List.getElem?_map, hi]; rfl) ((World.ownsRow.lt ho3) _ rfl).2 (fun b hb => by
            have h1 := hLo.out b hb
            have h2 := (hLb.out b hb).1
            have h3 := kinds h1 ho3 (by decide)
            rcases h1.byIn with h4 | ⟨g, off, h4, h5, h6⟩
            · exact absurd h4 h2
            · refine ⟨g, off, h4, ?_, h5, h6⟩
              intro hg
              unfold Bv.val at h3
              rw [h4] at h3
              simp [Value.ownBlock, hg] at h3) (by omega)
          rw [hLk] at this
          exact this
        have bs := hbr.out.size
        clear hd hck hLm ho
        go_wp2_with fail
        refine SO.out.mono ?_
        rintro e w3 ⟨rfl, M, hp3, hs3, hg3, hc3⟩
        have b3 : Below w.heap.size w w3 := hbr.out.trans (grown_below hg3 bs (by intro g h; cases h; exact Nat.le_refl _))
        have hMl : M.length = l.length := hp3.length_eq.trans hLk
        have hMb : Hid (∀ b ∈ M, byIn w3 b.p b.l ∧ b.l ≠ [] ∧ b.l.length ≤ 131121) := fun b hb => by
          have hbL := hp3.subset hb
          have h1 := hLo.out b hbL
          exact ⟨(show ownsB w3 w.heap.size b.val b.l from World.ownsRow.kept h1 hg3 (kinds h1 ho3 (by decide))).byIn, hLb.out b hbL⟩
        have hfin : Hid (cnt4 l.length ++ ((M.take l.length).map (·.l)).flatten = bagB (l.map (·.la))) := by
          show _ = _
          unfold bagB
          rw [← hMl, List.take_length, srt_of_bv hp3 hs3, hLm3.out, hMl, List.length_map]
        have hc3' : Hid (∀ i b, M[i]? = some b → w3.cell? ⟨w.heap.size, i, none⟩ = some (.slice b.p b.l.length b.c)) := hc3
        have hgl : w.heap.size < w3.heap.size := Nat.lt_of_lt_of_le ((World.ownsRow.lt ho3) _ rfl).2 hg3.size
        clear SO hg3 ho3 hLo hLb hLm3 hbr hp3 hs3 hc3
        go_wp2_with fail
        have hO4 : Hid (ownsB (w3.alloc (.cells #[.int .u8 ((l.length : Int) / 16777216), .int .u8 ((l.length : Int) / 65536), .int .u8 ((l.length : Int) / 256 % 256), .int .u8 ((l.length : Int) % 256)] 5)) w3.heap.size (.slice (some ⟨w3.heap.size, 0, none⟩) 4 4) (cnt4 l.length ++ ((M.take 0).map (·.l)).flatten)) := by
          show ownsB _ _ _ _
          rw [List.take_zero, List.map_nil, List.flatten_nil, List.append_nil]
          exact own_four w3 w3.heap.size _ _ (cnt4_cells (by omega)) rfl (Nat.le_refl _)
        have hbd : Hid (∀ k, (cnt4 l.length ++ ((M.take k).map (·.l)).flatten).length ≤ 8593145860) := fun k => by
          have := flat_bound (M := M) (by omega) (fun b hb => (hMb.out b hb).2.2) k
          rw [List.length_append]
          show 4 + _ ≤ _
          omega
        go_loopw [10, 57] (fun sv si wr => ∃ k : Nat, si = .int .i64 k ∧ k ≤ l.length ∧ Hid (ownsB wr w3.heap.size sv (cnt4 l.length ++ ((M.take k).map (·.l)).flatten)) ∧ Hid (Below w3.heap.size w3 wr)) (fun _ si _ => l.length - (intOf si).toNat)
        case atStart => exact ⟨0, rfl, Nat.zero_le _, hO4, (Below.refl _ w3).alloc (Nat.le_refl _) _⟩
        case round =>
          obtain ⟨k, rfl, hk, ho, hbr⟩ := hrel
          clear hO4
          have bs4 := hbr.out.size
          by_cases hlt4 : k < l.length
          · obtain ⟨b, hb⟩ : ∃ x, M[k]? = some x := ⟨M[k]'(by omega), List.getElem?_eq_getElem (by omega)⟩
            obtain ⟨hy, hne, hbl⟩ := hMb.out b (List.mem_of_getElem? hb)
            have d4 := (hbr.out.cell (p := ⟨w.heap.size, k, none⟩) hgl).trans (hc3'.out k b hb)
            have hy4 := hy.below hbr.out
            have hn4 : Hid (((M.take (k + 1)).map (·.l)).flatten = ((M.take k).map (·.l)).flatten ++ b.l) := flat_next hb
            have hb4 := hbd.out k
            have ho4 := ho.out
            have HBL : Hid (b.l.length ≤ 131121) := hbl
            clear hb hy ho hbl
            go_wp2_with (at_builtin; refine app_in rfl (.tmp 61) (.tmp 62) rfl w3.heap.size _ (cnt4 l.length ++ ((M.take k).map (·.l)).flatten) b rfl ho4 rfl hy4 hne (by have := HBL.out; omega) bs4 ?_; intro v5 w5 ho5 hg5)
            go_roundw
            case rel => exact ⟨k + 1, by go_num, hlt4, by show ownsB _ _ _ _; rw [hn4.out, ← List.append_assoc]; exact ho5, hbr.out.trans (grown_below hg5 bs4 (fun g h => (World.ownsRow.lt ho4 g h).1))⟩
            case measure => simp [intOf]; omega
          · have hk0 : k = l.length := by omega
            subst hk0
            have ho4 := ho.out
            rw [hfin.out] at ho4
            have B4 := b3.trans (hbr.out.mono b3.size)
            have ho5 : ownsB wr w.heap.size _ (bagB (l.map (·.la))) := own_low ho4 b3.size
            go_wp2_with fail
            refine bodyPost_ret (v := .tuple #[u10, .int .i64 0]) (by simp [results, Tryd.results10, go_sem]) rfl (by first | exact ⟨_, rfl, B4, fun _ => ho5, fun h => absurd rfl h⟩ | exact ⟨_, rfl, B4, ho5⟩ | exact ⟨B4, ho5⟩)
end Go.Proofs.YtedacccedbchaaaDoor
