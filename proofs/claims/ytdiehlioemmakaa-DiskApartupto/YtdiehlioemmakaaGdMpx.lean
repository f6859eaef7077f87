/-
  The walks of simfs's loseBytes and Crash on any disk.
-/
import Derived.Test.YtdiehlioemmakaaGdLpx
import Derived.Test.YtdiehlioemmakaaUD
namespace Go.Proofs.Ytdiehlioemmakaa
open Go.RowKit Go.Maps Go.Joins Go.Sort

/-- a file of a disk is cut -/
theorem Dsk.cut {P : Nat → Prop} {w w' : World} {base f m : Nat} {q st : Int} {n : List UInt8} {X : Fl} {PX : Option Addr} {CX K : Nat} {A B : List (List UInt8 × Fl)} (h : Dsk P w base f q st (some m) (A ++ (n, X) :: B) []) (hv : X.v = .slice PX X.l.length CX) (hK : K ≤ X.l.length) (hc : Chg (fun i => i = X.b) w w') (hX : w'.heap[X.b]? = some (.cells #[.slice PX K CX, .int .i64 (K : Int)] 86 (0, 0))) :
    Dsk P w' base f q st (some m) (A ++ (n, ⟨X.b, .slice PX K CX, X.l.take K, K⟩) :: B) [] ∧ Chg P w w' := by
  have ok := h.fl.ok X (by simp)
  have e : (X.l.take K).length = K := by rw [List.length_take]; omega
  have own := ok.cut hv hK
  have hb : ∀ g, (Value.slice PX K CX).ownBlock = some g → X.v.ownBlock = some g := fun g hg => by
    rw [hv]; cases PX with
    | none => cases hg
    | some a => exact hg
  have k := h.file (X' := ⟨X.b, .slice PX K CX, X.l.take K, K⟩) (hc.mono (fun i _ e => Or.inl e)) ⟨ok.ge, hX, hc.row own (fun g hg e => ?_), by show K ≤ (X.l.take K).length; omega, by show (X.l.take K).length ≤ _; have := ok.ll; omega⟩ rfl (fun g hg => Or.inl (hb g hg))
  · obtain ⟨ov, h1, h2, h3⟩ := k.1.fs
    obtain ⟨ov0, h10, _, h30⟩ := h.fs
    have eov : ov = ov0 := by
      have h11 := hc.at_ h10 (fun e => by unfold FsAt at h10; rw [e, ok.at_] at h10; simp at h10)
      unfold FsAt at h1
      rw [h11] at h1
      simp at h1
      exact h1.symm
    subst eov
    refine ⟨⟨k.1.bs, fun i hi => ⟨(h.pb i hi).1, Nat.lt_of_lt_of_le (h.pb i hi).2 hc.size⟩, h.pf, ⟨ov, h1, h2, h30⟩, fun m' em => ⟨(h.mp m' em).1, (k.1.mp m' em).2⟩, (fun e => by cases e), k.1.fl, fun x hx => ?_, fun u hu => by simp at hu⟩, k.2⟩
    rw [List.map_append, List.map_cons, List.append_assoc, List.mem_append, List.cons_append, List.mem_cons] at hx
    rcases hx with hx | rfl | hx
    · exact h.pl x (by rw [List.map_append, List.map_cons, List.append_assoc, List.mem_append]; exact Or.inl hx)
    · have p := h.pl X (by simp)
      exact ⟨p.1, fun g hg => p.2 g (hb g hg)⟩
    · exact h.pl x (by rw [List.map_append, List.map_cons, List.append_assoc, List.mem_append, List.cons_append, List.mem_cons]; exact Or.inr (Or.inr hx))
  · obtain ⟨cs, hk⟩ := own_kind own g hg
    have e : g = X.b := e
    rw [e, ok.at_] at hk; simp at hk
set_option maxHeartbeats 16000000 in
set_option maxRecDepth 1000000 in
theorem loseBytes_go {P : Nat → Prop} (base f m : Nat) (q st : Int) (keeps : List Int) (Pk : Option Addr) (Ck : Nat) (xs : List (List UInt8 × Fl)) (w : World) (d : Dsk P w base f q st (some m) xs []) (so : SrtN xs) (hl : xs.length ≤ 1000) (hnm : ∀ p ∈ xs, p.1.length ≤ 64)
    (hk : ∀ w', Chg P w w' → intIn w' Pk keeps) (hkr : ∀ x ∈ keeps, -9223372036854775808 ≤ x ∧ x ≤ 9223372036854775807) (hkl : keeps.length ≤ 9223372036854775807) :
    Calls Try.prog 55 #[.pointer (some ⟨f, 0, none⟩), .slice Pk keeps.length Ck] w fun e w' => e = .returned (.tuple #[]) ∧ (∃ xs', Dsk P w' base f q st (some m) xs' [] ∧ xs'.map abs = cuts keeps 0 xs) ∧ Chg P w w' := by
  have LS : Hid (Calls Try.prog 21 #[.pointer (some ⟨f, 0, none⟩)] w fun e w' => ∃ v, e = .returned v ∧ w'.ownsRow w.heap.size 9 1 v xs.length ((xs.map (·.1)).map encStr) ∧ w.grownBy w' none) := List_any base f q st (some m) xs [] w so hl d
  have D : Hid (Dsk P w base f q st (some m) xs []) := d
  have HK : Hid (∀ w', Chg P w w' → intIn w' Pk keeps) := hk
  have HR : Hid (∀ x ∈ keeps, -9223372036854775808 ≤ x ∧ x ≤ 9223372036854775807) := hkr
  have HN : Hid (∀ p ∈ xs, p.1.length ≤ 64) := hnm
  have KP : Hid (∀ says many w, (-9223372036854775808 ≤ says ∧ says ≤ 9223372036854775807) → many ≤ 1000000000 → Calls Try.prog 74 #[.int .i64 says, .int .i64 ((many : Nat) : Int)] w fun e w' => e = .returned (.int .i64 (kp says many : Int)) ∧ w' = w) := fun says many w h1 h2 => kept_any says many w h1 h2
  have hsz : base ≤ w.heap.size := d.bs
  clear d hk hkr so hnm
  go_enter Try.func55, Try.ntmps55
  go_wp2_with fail
  refine LS.out.mono ?_
  rintro e w1 ⟨v1, rfl, ho1, hg1⟩
  obtain ⟨P1, C1, rfl⟩ := row_form ho1
  have D1 : Hid (Dsk P w1 base f q st (some m) xs []) := D.out.kept hg1
  have B1 : Chg P w w1 := Chg.of_none hg1 P
  go_wp2_with fail
  go_loopw [4, 6, 7, 8, 12] (fun s4 _ _ _ s12 wr => ∃ (t i : Nat) (ys : List (List UInt8 × Fl)), s4 = .int .i64 (t : Int) ∧ s12 = .int .i64 (i : Int) ∧ i ≤ xs.length ∧ t ≤ i ∧ Hid (Dsk P wr base f q st (some m) (ys ++ xs.drop i) []) ∧ Hid (ys.map abs ++ cuts keeps t (xs.drop i) = cuts keeps 0 xs) ∧ Hid (wr.ownsRow w.heap.size 9 1 (.slice P1 xs.length C1) xs.length ((xs.map (·.1)).map encStr)) ∧ Chg P w wr) (fun _ _ _ _ s12 _ => xs.length - (intOf s12).toNat)
  case atStart => exact ⟨0, 0, [], rfl, rfl, Nat.zero_le _, Nat.le_refl _, D1, rfl, ho1, B1⟩
  case round =>
    obtain ⟨t, i, ys, rfl, rfl, hi, hti, DR, HC, OR, BR⟩ := hrel
    by_cases hlt : i < xs.length
    · have hii : (i : Int) < (xs.length : Int) := by omega
      obtain ⟨⟨n, X⟩, hx⟩ : ∃ p, xs[i]? = some p := ⟨xs[i], List.getElem?_eq_getElem hlt⟩
      have hdr : xs.drop i = (n, X) :: xs.drop (i + 1) := by
        have hx2 := hx
        rw [List.getElem?_eq_getElem hlt, Option.some.injEq] at hx2
        rw [List.drop_eq_getElem_cons hlt, hx2]
      have DX := DR.out
      rw [hdr] at DX
      have HCX : Hid (ys.map abs ++ cuts keeps t ((n, X) :: xs.drop (i + 1)) = cuts keeps 0 xs) := by
        have := HC.out; rw [hdr] at this; exact this
      have hnl : n.length ≤ 64 := HN.out (n, X) (List.mem_of_getElem? hx)
      obtain ⟨g1, hg1e⟩ : ∃ g, P1 = some ⟨g, 0, none⟩ := by
        rcases OR.out.2 with ⟨e, h0⟩ | ⟨g, cap, cur, e, _⟩
        · exfalso; omega
        · cases e; exact ⟨g, rfl⟩
      subst hg1e
      have cnm : wr.cell? ⟨g1, i, none⟩ = some (.string ⟨n.toArray⟩) := by
        rw [World.ownsRow.cellAt OR.out i (by omega), List.getElem?_map, List.getElem?_map, hx]; rfl
      obtain ⟨ov, h1, h2, _⟩ := DX.fs
      obtain ⟨c0, c1, c2, c3, cf⟩ := h1.c
      have okX : FlOk wr base X := DX.fl.ok X (by simp)
      have pX : P X.b := (DX.pl X (by simp)).1
      obtain ⟨PX, CX, hPX⟩ := okX.form
      obtain ⟨x0, x1, xf⟩ := okX.c
      rw [hPX] at x0
      have kl := okX.kl
      have hcp := okX.cap hPX
      have ll := okX.ll
      have kpX : ∀ {w' : World}, Chg (fun i => i = X.b) wr w' → Chg P wr w' := fun h => h.mono (fun i _ e => by subst e; exact pX)
      have lk : (Instr.lookup 64 (.map (some m)) (.string ⟨n.toArray⟩) false).run Try.prog wr = .ok (.pointer (some ⟨X.b, 0, none⟩)) wr := by
        obtain ⟨v, ps, hrun, hR⟩ := World.ownsMap.lookup (key := .string ⟨n.toArray⟩) (DX.mp m rfl).2 keyS mapT (zeroP _) (zd := .nil) (zp := []) rfl (WideMaps.keyOf_string_mk strT (by show n.toArray.size ≤ maxLen; simp; unfold maxLen; omega))
        have e : (DataW.map ((ys ++ (n, X) :: xs.drop (i + 1)).map ent)).atKey (.string (⟨n.toArray⟩ : ByteArray).data.toList) .nil = .lit (.int .i64 (X.b : Int)) := at_of (DX.mp m rfl).2.names (by simp)
        rw [e] at hR
        rcases ptrR_inv hR with ⟨_, e⟩ | ⟨b', rfl, e⟩
        · cases e
        · cases e; exact hrun
      have wl : IntKind.i64.wrap ((X.l.length : Int) - (X.k : Int)) = ((X.l.length - X.k : Nat) : Int) := by rw [IntKind.wrap_i64]; omega
      have wl2 : wrap64 ((X.l.length : Int) - (X.k : Int)) = ((X.l.length - X.k : Nat) : Int) := by unfold wrap64; omega
      clear h1 h2 c0 c2 c3 hdr DR HC
      by_cases hz : X.k = X.l.length
      · have lz : (((X.l.length - X.k : Nat) : Int) == 0) = true := by rw [beq_iff_eq]; omega
        go_wp2_with fail
        go_quiet (fail)
        go_wp2_with fail
        go_roundw
        case rel =>
          refine ⟨t, i + 1, ys ++ [(n, X)], rfl, by go_num, hlt, by omega, ?_, ?_, OR, BR.drewN nq⟩
          · show Dsk _ _ _ _ _ _ _ _ _
            rw [List.append_assoc]; exact DX.drewN nq
          · have := HCX.out
            show _ = _
            rw [← this, List.map_append, List.append_assoc]
            show _ = ys.map abs ++ (if X.k = X.l.length then _ else _)
            rw [if_pos hz]; rfl
        case measure => simp [intOf]; omega
      · have lz : (((X.l.length - X.k : Nat) : Int) == 0) = false := by rw [beq_eq_false_iff_ne]; omega
        have HCY : Hid ((ys.map abs ++ [(n, X.l.take (cutK keeps t X), cutK keeps t X)]) ++ cuts keeps (t + 1) (xs.drop (i + 1)) = cuts keeps 0 xs) := by
          have := HCX.out
          show _ = _
          rw [← this, List.append_assoc]
          show _ = ys.map abs ++ (if X.k = X.l.length then _ else _)
          rw [if_neg hz]; rfl
        clear HCX
        by_cases hke : keeps = []
        · have ck : cutK keeps t X = X.k := by unfold cutK; rw [if_pos hke, Nat.add_zero]
          rw [ck] at HCY
          have kz : decide (0 < keeps.length) = false := by rw [hke]; rfl
          have kz2 : decide ((0 : Int) < (keeps.length : Int)) = false := by rw [hke]; rfl
          clear hke ck
          have hKl : X.k ≤ X.l.length := kl
          go_wp2_with fail
          go_quiet (fail)
          have at2 : (wr.drewN nq).heap[X.b]? = some (.cells #[.slice PX X.l.length CX, .int .i64 (X.k : Int)] 86 (0, 0)) := by have := okX.at_; rw [hPX] at this; exact this
          have ch2 : Chg (fun i => i = X.b) wr (wr.drewN nq) := ⟨rfl, rfl, rfl, Nat.le_refl _, fun _ _ _ => rfl⟩
          go_wp2_with fail
          generalize wr.drewN nq = w2 at *
          have e0 : w2.cell? ⟨X.b, 0, none⟩ = some (.slice PX X.l.length CX) := (cell_of_block at2 0).trans rfl
          have e1 : w2.cell? ⟨X.b, 1, none⟩ = some (.int .i64 (X.k : Int)) := (cell_of_block at2 1).trans rfl
          have ef : ∀ i, w2.frozen? ⟨X.b, i, none⟩ = false := fun i => unfrozen_of_block at2 i
          have at3 : (w2.setCell ⟨X.b, 0, none⟩ (.slice PX X.k CX)).heap[X.b]? = some (.cells #[.slice PX X.k CX, .int .i64 (X.k : Int)] 86 (0, 0)) := (block_setCell at2 _).trans rfl
          have ch3 : Chg (fun i => i = X.b) wr (w2.setCell ⟨X.b, 0, none⟩ (.slice PX X.k CX)) := ch2.trans (Chg.of_cell w2 ⟨X.b, 0, none⟩ _)
          have dc := DX.cut hPX hKl ch3 at3
          have Y1 : (w2.setCell ⟨X.b, 0, none⟩ (.slice PX X.k CX)).drew.cell? ⟨X.b, 1, none⟩ = some (.int .i64 (X.k : Int)) := (cell_of_block at3 1).trans rfl
          have Y2 : Hid (Dsk P (w2.setCell ⟨X.b, 0, none⟩ (.slice PX X.k CX)).drew base f q st (some m) ((ys ++ [(n, ⟨X.b, .slice PX X.k CX, X.l.take X.k, X.k⟩)]) ++ xs.drop (i + 1)) []) := by
            show Dsk _ _ _ _ _ _ _ _ _
            rw [List.append_assoc]; exact dc.1.drewN 1
          have Y3 : Hid ((ys ++ [(n, (⟨X.b, .slice PX X.k CX, X.l.take X.k, X.k⟩ : Fl))]).map abs ++ cuts keeps (t + 1) (xs.drop (i + 1)) = cuts keeps 0 xs) := by
            have := HCY.out
            show _ = _
            rw [← this, List.map_append]; rfl
          have Y4 : Hid ((w2.setCell ⟨X.b, 0, none⟩ (.slice PX X.k CX)).drew.ownsRow w.heap.size 9 1 (.slice (some ⟨g1, 0, none⟩) xs.length C1) xs.length ((xs.map (·.1)).map encStr)) := ch3.row OR.out (fun g hg e => by
            obtain ⟨cs, hk⟩ := own_kind OR.out g hg
            have e : g = X.b := e
            rw [e, okX.at_] at hk; simp at hk)
          have Y5 : Hid (Chg P w (w2.setCell ⟨X.b, 0, none⟩ (.slice PX X.k CX)).drew) := (BR.trans (kpX ch3)).drewN 1
          refine wp_region_noPanic ?_
          refine wp_region_held_drew (S := fun w' => w'.cell? ⟨X.b, 1, none⟩ = some (.int .i64 (X.k : Int))) (by kernel_rfl) e1 (fun hH => ?_)
          refine tKx (i := 0) (v := .pointer (some ⟨X.b, 0, none⟩)) rfl rfl (by kernel_rfl) (fun _ _ _ h => h) ?_ hH ?_
          · intro v hv; replace hv : v.cell? ⟨X.b, 1, none⟩ = some (.int .i64 (X.k : Int)) := hv; go_simp
          simp only [zA9, zB9, zC9]
          refine tKx (i := 1) (v := .pointer (some ⟨X.b, 0, none⟩)) rfl rfl (by kernel_rfl) (fun _ _ _ h => h) ?_ hH ?_
          · intro v hv; replace hv : v.cell? ⟨X.b, 1, none⟩ = some (.int .i64 (X.k : Int)) := hv; go_simp
          simp only [zA9, zB9, zC9]
          refine tKx (i := 2) (v := .pointer (some ⟨X.b, 0, none⟩)) rfl rfl (by kernel_rfl) (fun _ _ _ h => h) ?_ hH ?_
          · intro v hv; replace hv : v.cell? ⟨X.b, 1, none⟩ = some (.int .i64 (X.k : Int)) := hv; go_simp
          simp only [zA9, zB9, zC9]
          refine tKx (i := 3) (v := .pointer (some ⟨X.b, 0, none⟩)) rfl rfl (by kernel_rfl) (fun _ _ _ h => h) ?_ hH ?_
          · intro v hv; replace hv : v.cell? ⟨X.b, 1, none⟩ = some (.int .i64 (X.k : Int)) := hv; go_simp
          simp only [zA9, zB9, zC9]
          refine tKx (i := 5) (v := .pointer (some ⟨X.b, 0, none⟩)) rfl rfl (by kernel_rfl) (fun _ _ _ h => h) ?_ hH ?_
          · intro v hv; replace hv : v.cell? ⟨X.b, 1, none⟩ = some (.int .i64 (X.k : Int)) := hv; go_simp
          simp only [zA9, zB9, zC9]
          refine tKx (i := 6) (v := .pointer (some ⟨X.b, 0, none⟩)) rfl rfl (by kernel_rfl) (fun _ _ _ h => h) ?_ hH ?_
          · intro v hv; replace hv : v.cell? ⟨X.b, 1, none⟩ = some (.int .i64 (X.k : Int)) := hv; go_simp
          simp only [zA9, zB9, zC9]
          refine tKx (i := 7) (v := .pointer (some ⟨X.b, 1, none⟩)) rfl rfl (by kernel_rfl) (fun _ _ _ h => h) ?_ hH ?_
          · intro v hv; replace hv : v.cell? ⟨X.b, 1, none⟩ = some (.int .i64 (X.k : Int)) := hv; go_simp
          simp only [zA9, zB9, zC9]
          refine tKx (i := 8) (v := .int .i64 (X.k : Int)) rfl rfl (by kernel_rfl) (fun _ _ _ h => h) ?_ hH ?_
          · intro v hv; replace hv : v.cell? ⟨X.b, 1, none⟩ = some (.int .i64 (X.k : Int)) := hv; go_simp
          simp only [zA9, zB9, zC9]
          refine wpAnyH_ready (rs := [4]) (by kernel_rfl) (by simp) ?_
          refine AllReadyH.cons rfl (fun K hK => ?_) AllReadyH.nil
          go_simp
          refine hK.out _ _ e1 (fun _ => ?_)
          clear hK K
          refine tKx (i := 9) (v := .slice PX X.k CX) rfl rfl (by kernel_rfl) (fun _ _ _ h => h) ?_ hH ?_
          · intro v hv; replace hv : v.cell? ⟨X.b, 1, none⟩ = some (.int .i64 (X.k : Int)) := hv; go_simp; try (intro hbad; exfalso; omega)
          simp only [zA9, zB9, zC9]
          refine tKx (i := 10) (v := .pointer (some ⟨X.b, 0, none⟩)) rfl rfl (by kernel_rfl) (fun _ _ _ h => h) ?_ hH ?_
          · intro v hv; replace hv : v.cell? ⟨X.b, 1, none⟩ = some (.int .i64 (X.k : Int)) := hv; go_simp
          simp only [zA9, zB9, zC9]
          refine tKx (i := 11) (v := .pointer (some ⟨X.b, 0, none⟩)) rfl rfl (by kernel_rfl) (fun _ _ _ h => h) ?_ hH ?_
          · intro v hv; replace hv : v.cell? ⟨X.b, 1, none⟩ = some (.int .i64 (X.k : Int)) := hv; go_simp
          simp only [zA9, zB9, zC9]
          refine wpAnyH_ready (rs := [12]) (by kernel_rfl) (by simp) ?_
          refine AllReadyH.cons rfl (fun K hK => ?_) AllReadyH.nil
          go_simp
          refine hK.out _ _ Y1 (fun _ => ?_)
          clear hK K hH
          refine wpAnyH_done (by kernel_rfl) ?_ _
          refine NoPanic.normal ?_
          go_wp2_with fail
          go_roundw
          case rel => exact ⟨t + 1, i + 1, ys ++ [(n, ⟨X.b, .slice PX X.k CX, X.l.take X.k, X.k⟩)], by go_num, by go_num, hlt, by omega, Y2, Y3, Y4, Y5.out⟩
          case measure => simp [intOf]; omega
        · have kpos : 0 < keeps.length := List.length_pos_iff.2 hke
          have htl : t % keeps.length < keeps.length := Nat.mod_lt _ kpos
          obtain ⟨kv, hkv⟩ : ∃ kv, keeps[t % keeps.length]? = some kv := ⟨keeps[t % keeps.length], List.getElem?_eq_getElem htl⟩
          have hkr := HR.out kv (List.mem_of_getElem? hkv)
          obtain ⟨KK, hKK⟩ : ∃ KK, KK = cutK keeps t X := ⟨_, rfl⟩
          have hKl : KK ≤ X.l.length := by rw [hKK]; exact cutK_le kl
          have hcK : ¬ CX < KK := by omega
          have hKe : KK = X.k + kp kv (X.l.length - X.k) := by rw [hKK]; unfold cutK; rw [if_neg hke, List.getD_eq_getElem?_getD, hkv]; rfl
          rw [← hKK] at HCY
          obtain ⟨gk, offk, hPk, hkc⟩ : ∃ g off, Pk = some ⟨g, off, none⟩ ∧ wr.cell? ⟨g, off + t % keeps.length, none⟩ = some (.int .i64 kv) := by
            rcases HK.out wr BR with e | ⟨g, off, e, hc⟩
            · exact absurd e hke
            · exact ⟨g, off, e, hc _ _ hkv⟩
          subst hPk
          have tm : (t : Int).tmod (keeps.length : Int) = ((t % keeps.length : Nat) : Int) := by rw [Int.tmod_eq_emod_of_nonneg (by omega), Int.natCast_emod]
          have tm2 : (t : Int) % (keeps.length : Int) = ((t % keeps.length : Nat) : Int) := by rw [Int.natCast_emod]
          have tz : ((keeps.length : Int) == 0) = false := by rw [beq_eq_false_iff_ne]; omega
          have kz : decide (0 < keeps.length) = true := decide_eq_true kpos
          obtain ⟨tk, htk⟩ : ∃ tk, tk = t % keeps.length := ⟨_, rfl⟩
          rw [← htk] at tm tm2 hkc htl
          have htl2 : (tk : Int) < (keeps.length : Int) := by omega
          have KC := fun w => KP.out kv (X.l.length - X.k) w hkr (by omega)
          obtain ⟨kk, hkk⟩ : ∃ kk, kk = kp kv (X.l.length - X.k) := ⟨_, rfl⟩
          rw [← hkk] at KC hKe
          have KC2 : Hid (∀ w, Calls Try.prog 74 #[.int .i64 kv, .int .i64 ((X.l.length - X.k : Nat) : Int)] w fun e w' => e = .returned (.int .i64 (kk : Int)) ∧ w' = w) := KC
          have ad1 : IntKind.i64.wrap ((X.k : Int) + (kk : Int)) = (KK : Int) := by rw [IntKind.wrap_i64]; omega
          have ad2 : wrap64 ((X.k : Int) + (kk : Int)) = (KK : Int) := by unfold wrap64; omega
          have HKC : Hid (∀ w', Chg P w w' → w'.cell? ⟨gk, offk + tk, none⟩ = some (.int .i64 kv)) := fun w' hb => by
            rcases HK.out w' hb with e | ⟨g, off, e, hc⟩
            · exact absurd e hke
            · cases e; rw [htk]; exact hc _ _ hkv
          clear KC hkk hKK htk hkv hKe kpos
          go_wp2_with fail
          go_quiet (fail)
          go_wp2_with fail
          have at0 : (wr.drewN nq).heap[X.b]? = some (.cells #[.slice PX X.l.length CX, .int .i64 (X.k : Int)] 86 (0, 0)) := by have := okX.at_; rw [hPX] at this; exact this
          have ch0 : Chg (fun i => i = X.b) wr (wr.drewN nq) := ⟨rfl, rfl, rfl, Nat.le_refl _, fun _ _ _ => rfl⟩
          have kc0 : (wr.drewN nq).cell? ⟨gk, offk + tk, none⟩ = some (.int .i64 kv) := hkc
          have xge := okX.ge
          have bw : base ≤ wr.heap.size := DX.bs
          generalize wr.drewN nq = w2 at *
          have d0 : w2.cell? ⟨X.b, 0, none⟩ = some (.slice PX X.l.length CX) := (cell_of_block at0 0).trans rfl
          have d1 : w2.cell? ⟨X.b, 1, none⟩ = some (.int .i64 (X.k : Int)) := (cell_of_block at0 1).trans rfl
          have df : ∀ i, w2.frozen? ⟨X.b, i, none⟩ = false := fun i => unfrozen_of_block at0 i
          have at2 : (w2.setCell ⟨X.b, 1, none⟩ (.int .i64 (KK : Int))).drew.heap[X.b]? = some (.cells #[.slice PX X.l.length CX, .int .i64 (KK : Int)] 86 (0, 0)) := (block_setCell at0 _).trans rfl
          have ch2 : Chg (fun i => i = X.b) wr (w2.setCell ⟨X.b, 1, none⟩ (.int .i64 (KK : Int))).drew := by
            have h := ch0.trans (Chg.of_cell w2 ⟨X.b, 1, none⟩ (.int .i64 (KK : Int)))
            exact ⟨h.os, h.tape, h.output, h.size, h.block⟩
          have kc5 : (w2.setCell ⟨X.b, 1, none⟩ (.int .i64 (KK : Int))).drew.cell? ⟨gk, offk + tk, none⟩ = some (.int .i64 kv) := HKC.out _ (BR.trans (kpX ch2))
          refine wp_region_noPanic ?_
          refine wp_region_held_drew (S := fun w' => w'.cell? ⟨gk, offk + tk, none⟩ = some (.int .i64 kv)) (by kernel_rfl) kc0 (fun hH => ?_)
          refine tKx (i := 0) (v := .pointer (some ⟨X.b, 0, none⟩)) rfl rfl (by kernel_rfl) (fun _ _ _ h => h) ?_ hH ?_
          · intro v hv; replace hv : v.cell? ⟨gk, offk + tk, none⟩ = some (.int .i64 kv) := hv; go_simp
          simp only [zA9, zB9, zC9]
          refine tKx (i := 1) (v := .pointer (some ⟨X.b, 0, none⟩)) rfl rfl (by kernel_rfl) (fun _ _ _ h => h) ?_ hH ?_
          · intro v hv; replace hv : v.cell? ⟨gk, offk + tk, none⟩ = some (.int .i64 kv) := hv; go_simp
          simp only [zA9, zB9, zC9]
          refine tKx (i := 2) (v := .pointer (some ⟨X.b, 1, none⟩)) rfl rfl (by kernel_rfl) (fun _ _ _ h => h) ?_ hH ?_
          · intro v hv; replace hv : v.cell? ⟨gk, offk + tk, none⟩ = some (.int .i64 kv) := hv; go_simp
          simp only [zA9, zB9, zC9]
          refine tKx (i := 4) (v := .slice (some ⟨gk, offk, none⟩) keeps.length Ck) rfl rfl (by kernel_rfl) (fun _ _ _ h => h) ?_ hH ?_
          · intro v hv; replace hv : v.cell? ⟨gk, offk + tk, none⟩ = some (.int .i64 kv) := hv; go_simp
          simp only [zA9, zB9, zC9]
          refine tKx (i := 5) (v := .int .i64 (t : Int)) rfl rfl (by kernel_rfl) (fun _ _ _ h => h) ?_ hH ?_
          · intro v hv; replace hv : v.cell? ⟨gk, offk + tk, none⟩ = some (.int .i64 kv) := hv; go_simp
          simp only [zA9, zB9, zC9]
          refine tKx (i := 6) (v := .slice (some ⟨gk, offk, none⟩) keeps.length Ck) rfl rfl (by kernel_rfl) (fun _ _ _ h => h) ?_ hH ?_
          · intro v hv; replace hv : v.cell? ⟨gk, offk + tk, none⟩ = some (.int .i64 kv) := hv; go_simp
          simp only [zA9, zB9, zC9]
          refine tKx (i := 7) (v := .int .i64 (keeps.length : Int)) rfl rfl (by kernel_rfl) (fun _ _ _ h => h) ?_ hH ?_
          · intro v hv; replace hv : v.cell? ⟨gk, offk + tk, none⟩ = some (.int .i64 kv) := hv; go_simp
          simp only [zA9, zB9, zC9]
          refine tKx (i := 8) (v := .int .i64 (tk : Int)) rfl rfl (by kernel_rfl) (fun _ _ _ h => h) ?_ hH ?_
          · intro v hv; replace hv : v.cell? ⟨gk, offk + tk, none⟩ = some (.int .i64 kv) := hv; go_simp
          simp only [zA9, zB9, zC9]
          refine tKx (i := 9) (v := .pointer (some ⟨gk, offk + tk, none⟩)) rfl rfl (by kernel_rfl) (fun _ _ _ h => h) ?_ hH ?_
          · intro v hv; replace hv : v.cell? ⟨gk, offk + tk, none⟩ = some (.int .i64 kv) := hv; go_simp
          simp only [zA9, zB9, zC9]
          refine tKx (i := 10) (v := .int .i64 kv) rfl rfl (by kernel_rfl) (fun _ _ _ h => h) ?_ hH ?_
          · intro v hv; replace hv : v.cell? ⟨gk, offk + tk, none⟩ = some (.int .i64 kv) := hv; go_simp
          simp only [zA9, zB9, zC9]
          refine tKx (i := 11) (v := .int .i64 ((X.l.length - X.k : Nat) : Int)) rfl rfl (by kernel_rfl) (fun _ _ _ h => h) ?_ hH ?_
          · intro v hv; replace hv : v.cell? ⟨gk, offk + tk, none⟩ = some (.int .i64 kv) := hv; go_simp
          simp only [zA9, zB9, zC9]
          refine wpAnyH_ready (rs := [3, 12]) (by kernel_rfl) (by simp) ?_
          refine AllReadyH.cons rfl (fun K hK => ?_) (AllReadyH.cons rfl (fun K hK => ?_) AllReadyH.nil)
          · go_simp
            refine hK.out _ _ kc0 (fun _ => ?_)
            clear hK K
            refine wpAnyH_ready (rs := [12]) (by kernel_rfl) (by simp) ?_
            refine AllReadyH.cons rfl (fun K hK => ?_) AllReadyH.nil
            go_simp
            go_at_call 74
            refine (KC2.out _).mono ?_
            rintro e wx ⟨rfl, hwx⟩; have hwx2 := hwx.symm; subst hwx2; clear hwx
            go_wp2_with fail
            refine hK.out _ _ kc0 (fun _ => ?_)
            clear hK K
            refine tKx (i := 13) (v := .int .i64 (KK : Int)) rfl rfl (by kernel_rfl) (fun _ _ _ h => h) ?_ hH ?_
            · intro v hv; replace hv : v.cell? ⟨gk, offk + tk, none⟩ = some (.int .i64 kv) := hv; go_simp
            simp only [zA9, zB9, zC9]
            refine tKx (i := 14) (v := .pointer (some ⟨X.b, 0, none⟩)) rfl rfl (by kernel_rfl) (fun _ _ _ h => h) ?_ hH ?_
            · intro v hv; replace hv : v.cell? ⟨gk, offk + tk, none⟩ = some (.int .i64 kv) := hv; go_simp
            simp only [zA9, zB9, zC9]
            refine tKx (i := 15) (v := .pointer (some ⟨X.b, 1, none⟩)) rfl rfl (by kernel_rfl) (fun _ _ _ h => h) ?_ hH ?_
            · intro v hv; replace hv : v.cell? ⟨gk, offk + tk, none⟩ = some (.int .i64 kv) := hv; go_simp
            simp only [zA9, zB9, zC9]
            refine wpAnyH_ready (rs := [16]) (by kernel_rfl) (by simp) ?_
            refine AllReadyH.cons rfl (fun K hK => ?_) AllReadyH.nil
            go_simp
            refine hK.out _ _ kc5 (fun _ => ?_)
            clear hK K hH
            refine wpAnyH_done (by kernel_rfl) ?_ _
            refine NoPanic.normal ?_
            generalize (w2.setCell ⟨X.b, 1, none⟩ (.int .i64 (KK : Int))).drew = w5 at *
            clear d0 d1 df kc0 kc5 at0 ch0 tm tm2 tz kz ad1 ad2 htl htl2 KC2 HKC hkr hke
            go_wp2_with fail
            have e0 : w5.cell? ⟨X.b, 0, none⟩ = some (.slice PX X.l.length CX) := (cell_of_block at2 0).trans rfl
            have e1 : w5.cell? ⟨X.b, 1, none⟩ = some (.int .i64 (KK : Int)) := (cell_of_block at2 1).trans rfl
            have ef : ∀ i, w5.frozen? ⟨X.b, i, none⟩ = false := fun i => unfrozen_of_block at2 i
            have at3 : (w5.setCell ⟨X.b, 0, none⟩ (.slice PX KK CX)).heap[X.b]? = some (.cells #[.slice PX KK CX, .int .i64 (KK : Int)] 86 (0, 0)) := (block_setCell at2 _).trans rfl
            have ch3 : Chg (fun i => i = X.b) wr (w5.setCell ⟨X.b, 0, none⟩ (.slice PX KK CX)) := ch2.trans (Chg.of_cell w5 ⟨X.b, 0, none⟩ _)
            have dc := DX.cut hPX hKl ch3 at3
            have Y1 : (w5.setCell ⟨X.b, 0, none⟩ (.slice PX KK CX)).drew.cell? ⟨X.b, 1, none⟩ = some (.int .i64 (KK : Int)) := (cell_of_block at3 1).trans rfl
            have Y2 : Hid (Dsk P (w5.setCell ⟨X.b, 0, none⟩ (.slice PX KK CX)).drew base f q st (some m) ((ys ++ [(n, ⟨X.b, .slice PX KK CX, X.l.take KK, KK⟩)]) ++ xs.drop (i + 1)) []) := by
              show Dsk _ _ _ _ _ _ _ _ _
              rw [List.append_assoc]; exact dc.1.drewN 1
            have Y3 : Hid ((ys ++ [(n, (⟨X.b, .slice PX KK CX, X.l.take KK, KK⟩ : Fl))]).map abs ++ cuts keeps (t + 1) (xs.drop (i + 1)) = cuts keeps 0 xs) := by
              have := HCY.out
              show _ = _
              rw [← this, List.map_append]; rfl
            have Y4 : Hid ((w5.setCell ⟨X.b, 0, none⟩ (.slice PX KK CX)).drew.ownsRow w.heap.size 9 1 (.slice (some ⟨g1, 0, none⟩) xs.length C1) xs.length ((xs.map (·.1)).map encStr)) := ch3.row OR.out (fun g hg e => by
              obtain ⟨cs, hk⟩ := own_kind OR.out g hg
              have e : g = X.b := e
              rw [e, okX.at_] at hk; simp at hk)
            have Y5 : Hid (Chg P w (w5.setCell ⟨X.b, 0, none⟩ (.slice PX KK CX)).drew) := (BR.trans (kpX ch3)).drewN 1
            refine wp_region_noPanic ?_
            refine wp_region_held_drew (S := fun w' => w'.cell? ⟨X.b, 1, none⟩ = some (.int .i64 (KK : Int))) (by kernel_rfl) e1 (fun hH => ?_)
            refine tKx (i := 0) (v := .pointer (some ⟨X.b, 0, none⟩)) rfl rfl (by kernel_rfl) (fun _ _ _ h => h) ?_ hH ?_
            · intro v hv; replace hv : v.cell? ⟨X.b, 1, none⟩ = some (.int .i64 (KK : Int)) := hv; go_simp
            simp only [zA9, zB9, zC9]
            refine tKx (i := 1) (v := .pointer (some ⟨X.b, 0, none⟩)) rfl rfl (by kernel_rfl) (fun _ _ _ h => h) ?_ hH ?_
            · intro v hv; replace hv : v.cell? ⟨X.b, 1, none⟩ = some (.int .i64 (KK : Int)) := hv; go_simp
            simp only [zA9, zB9, zC9]
            refine tKx (i := 2) (v := .pointer (some ⟨X.b, 0, none⟩)) rfl rfl (by kernel_rfl) (fun _ _ _ h => h) ?_ hH ?_
            · intro v hv; replace hv : v.cell? ⟨X.b, 1, none⟩ = some (.int .i64 (KK : Int)) := hv; go_simp
            simp only [zA9, zB9, zC9]
            refine tKx (i := 3) (v := .pointer (some ⟨X.b, 0, none⟩)) rfl rfl (by kernel_rfl) (fun _ _ _ h => h) ?_ hH ?_
            · intro v hv; replace hv : v.cell? ⟨X.b, 1, none⟩ = some (.int .i64 (KK : Int)) := hv; go_simp
            simp only [zA9, zB9, zC9]
            refine tKx (i := 5) (v := .pointer (some ⟨X.b, 0, none⟩)) rfl rfl (by kernel_rfl) (fun _ _ _ h => h) ?_ hH ?_
            · intro v hv; replace hv : v.cell? ⟨X.b, 1, none⟩ = some (.int .i64 (KK : Int)) := hv; go_simp
            simp only [zA9, zB9, zC9]
            refine tKx (i := 6) (v := .pointer (some ⟨X.b, 0, none⟩)) rfl rfl (by kernel_rfl) (fun _ _ _ h => h) ?_ hH ?_
            · intro v hv; replace hv : v.cell? ⟨X.b, 1, none⟩ = some (.int .i64 (KK : Int)) := hv; go_simp
            simp only [zA9, zB9, zC9]
            refine tKx (i := 7) (v := .pointer (some ⟨X.b, 1, none⟩)) rfl rfl (by kernel_rfl) (fun _ _ _ h => h) ?_ hH ?_
            · intro v hv; replace hv : v.cell? ⟨X.b, 1, none⟩ = some (.int .i64 (KK : Int)) := hv; go_simp
            simp only [zA9, zB9, zC9]
            refine tKx (i := 8) (v := .int .i64 (KK : Int)) rfl rfl (by kernel_rfl) (fun _ _ _ h => h) ?_ hH ?_
            · intro v hv; replace hv : v.cell? ⟨X.b, 1, none⟩ = some (.int .i64 (KK : Int)) := hv; go_simp
            simp only [zA9, zB9, zC9]
            refine wpAnyH_ready (rs := [4]) (by kernel_rfl) (by simp) ?_
            refine AllReadyH.cons rfl (fun K hK => ?_) AllReadyH.nil
            go_simp
            refine hK.out _ _ e1 (fun _ => ?_)
            clear hK K
            refine tKx (i := 9) (v := .slice PX KK CX) rfl rfl (by kernel_rfl) (fun _ _ _ h => h) ?_ hH ?_
            · intro v hv; replace hv : v.cell? ⟨X.b, 1, none⟩ = some (.int .i64 (KK : Int)) := hv; go_simp; try (intro hbad; exfalso; omega)
            simp only [zA9, zB9, zC9]
            refine tKx (i := 10) (v := .pointer (some ⟨X.b, 0, none⟩)) rfl rfl (by kernel_rfl) (fun _ _ _ h => h) ?_ hH ?_
            · intro v hv; replace hv : v.cell? ⟨X.b, 1, none⟩ = some (.int .i64 (KK : Int)) := hv; go_simp
            simp only [zA9, zB9, zC9]
            refine tKx (i := 11) (v := .pointer (some ⟨X.b, 0, none⟩)) rfl rfl (by kernel_rfl) (fun _ _ _ h => h) ?_ hH ?_
            · intro v hv; replace hv : v.cell? ⟨X.b, 1, none⟩ = some (.int .i64 (KK : Int)) := hv; go_simp
            simp only [zA9, zB9, zC9]
            refine wpAnyH_ready (rs := [12]) (by kernel_rfl) (by simp) ?_
            refine AllReadyH.cons rfl (fun K hK => ?_) AllReadyH.nil
            go_simp
            refine hK.out _ _ Y1 (fun _ => ?_)
            clear hK K hH
            refine wpAnyH_done (by kernel_rfl) ?_ _
            refine NoPanic.normal ?_
            go_wp2_with fail
            go_roundw
            case rel => exact ⟨t + 1, i + 1, ys ++ [(n, ⟨X.b, .slice PX KK CX, X.l.take KK, KK⟩)], by go_num, by go_num, hlt, by omega, Y2, Y3, Y4, Y5.out⟩
            case measure => simp [intOf]; omega
          · go_simp
            go_at_call 74
            refine (KC2.out _).mono ?_
            rintro e wx ⟨rfl, hwx⟩; have hwx2 := hwx.symm; subst hwx2; clear hwx
            go_wp2_with fail
            refine hK.out _ _ kc0 (fun _ => ?_)
            clear hK K
            refine wpAnyH_ready (rs := [3]) (by kernel_rfl) (by simp) ?_
            refine AllReadyH.cons rfl (fun K hK => ?_) AllReadyH.nil
            go_simp
            refine hK.out _ _ kc0 (fun _ => ?_)
            clear hK K
            refine tKx (i := 13) (v := .int .i64 (KK : Int)) rfl rfl (by kernel_rfl) (fun _ _ _ h => h) ?_ hH ?_
            · intro v hv; replace hv : v.cell? ⟨gk, offk + tk, none⟩ = some (.int .i64 kv) := hv; go_simp
            simp only [zA9, zB9, zC9]
            refine tKx (i := 14) (v := .pointer (some ⟨X.b, 0, none⟩)) rfl rfl (by kernel_rfl) (fun _ _ _ h => h) ?_ hH ?_
            · intro v hv; replace hv : v.cell? ⟨gk, offk + tk, none⟩ = some (.int .i64 kv) := hv; go_simp
            simp only [zA9, zB9, zC9]
            refine tKx (i := 15) (v := .pointer (some ⟨X.b, 1, none⟩)) rfl rfl (by kernel_rfl) (fun _ _ _ h => h) ?_ hH ?_
            · intro v hv; replace hv : v.cell? ⟨gk, offk + tk, none⟩ = some (.int .i64 kv) := hv; go_simp
            simp only [zA9, zB9, zC9]
            refine wpAnyH_ready (rs := [16]) (by kernel_rfl) (by simp) ?_
            refine AllReadyH.cons rfl (fun K hK => ?_) AllReadyH.nil
            go_simp
            refine hK.out _ _ kc5 (fun _ => ?_)
            clear hK K hH
            refine wpAnyH_done (by kernel_rfl) ?_ _
            refine NoPanic.normal ?_
            generalize (w2.setCell ⟨X.b, 1, none⟩ (.int .i64 (KK : Int))).drew = w5 at *
            clear d0 d1 df kc0 kc5 at0 ch0 tm tm2 tz kz ad1 ad2 htl htl2 KC2 HKC hkr hke
            go_wp2_with fail
            have e0 : w5.cell? ⟨X.b, 0, none⟩ = some (.slice PX X.l.length CX) := (cell_of_block at2 0).trans rfl
            have e1 : w5.cell? ⟨X.b, 1, none⟩ = some (.int .i64 (KK : Int)) := (cell_of_block at2 1).trans rfl
            have ef : ∀ i, w5.frozen? ⟨X.b, i, none⟩ = false := fun i => unfrozen_of_block at2 i
            have at3 : (w5.setCell ⟨X.b, 0, none⟩ (.slice PX KK CX)).heap[X.b]? = some (.cells #[.slice PX KK CX, .int .i64 (KK : Int)] 86 (0, 0)) := (block_setCell at2 _).trans rfl
            have ch3 : Chg (fun i => i = X.b) wr (w5.setCell ⟨X.b, 0, none⟩ (.slice PX KK CX)) := ch2.trans (Chg.of_cell w5 ⟨X.b, 0, none⟩ _)
            have dc := DX.cut hPX hKl ch3 at3
            have Y1 : (w5.setCell ⟨X.b, 0, none⟩ (.slice PX KK CX)).drew.cell? ⟨X.b, 1, none⟩ = some (.int .i64 (KK : Int)) := (cell_of_block at3 1).trans rfl
            have Y2 : Hid (Dsk P (w5.setCell ⟨X.b, 0, none⟩ (.slice PX KK CX)).drew base f q st (some m) ((ys ++ [(n, ⟨X.b, .slice PX KK CX, X.l.take KK, KK⟩)]) ++ xs.drop (i + 1)) []) := by
              show Dsk _ _ _ _ _ _ _ _ _
              rw [List.append_assoc]; exact dc.1.drewN 1
            have Y3 : Hid ((ys ++ [(n, (⟨X.b, .slice PX KK CX, X.l.take KK, KK⟩ : Fl))]).map abs ++ cuts keeps (t + 1) (xs.drop (i + 1)) = cuts keeps 0 xs) := by
              have := HCY.out
              show _ = _
              rw [← this, List.map_append]; rfl
            have Y4 : Hid ((w5.setCell ⟨X.b, 0, none⟩ (.slice PX KK CX)).drew.ownsRow w.heap.size 9 1 (.slice (some ⟨g1, 0, none⟩) xs.length C1) xs.length ((xs.map (·.1)).map encStr)) := ch3.row OR.out (fun g hg e => by
              obtain ⟨cs, hk⟩ := own_kind OR.out g hg
              have e : g = X.b := e
              rw [e, okX.at_] at hk; simp at hk)
            have Y5 : Hid (Chg P w (w5.setCell ⟨X.b, 0, none⟩ (.slice PX KK CX)).drew) := (BR.trans (kpX ch3)).drewN 1
            refine wp_region_noPanic ?_
            refine wp_region_held_drew (S := fun w' => w'.cell? ⟨X.b, 1, none⟩ = some (.int .i64 (KK : Int))) (by kernel_rfl) e1 (fun hH => ?_)
            refine tKx (i := 0) (v := .pointer (some ⟨X.b, 0, none⟩)) rfl rfl (by kernel_rfl) (fun _ _ _ h => h) ?_ hH ?_
            · intro v hv; replace hv : v.cell? ⟨X.b, 1, none⟩ = some (.int .i64 (KK : Int)) := hv; go_simp
            simp only [zA9, zB9, zC9]
            refine tKx (i := 1) (v := .pointer (some ⟨X.b, 0, none⟩)) rfl rfl (by kernel_rfl) (fun _ _ _ h => h) ?_ hH ?_
            · intro v hv; replace hv : v.cell? ⟨X.b, 1, none⟩ = some (.int .i64 (KK : Int)) := hv; go_simp
            simp only [zA9, zB9, zC9]
            refine tKx (i := 2) (v := .pointer (some ⟨X.b, 0, none⟩)) rfl rfl (by kernel_rfl) (fun _ _ _ h => h) ?_ hH ?_
            · intro v hv; replace hv : v.cell? ⟨X.b, 1, none⟩ = some (.int .i64 (KK : Int)) := hv; go_simp
            simp only [zA9, zB9, zC9]
            refine tKx (i := 3) (v := .pointer (some ⟨X.b, 0, none⟩)) rfl rfl (by kernel_rfl) (fun _ _ _ h => h) ?_ hH ?_
            · intro v hv; replace hv : v.cell? ⟨X.b, 1, none⟩ = some (.int .i64 (KK : Int)) := hv; go_simp
            simp only [zA9, zB9, zC9]
            refine tKx (i := 5) (v := .pointer (some ⟨X.b, 0, none⟩)) rfl rfl (by kernel_rfl) (fun _ _ _ h => h) ?_ hH ?_
            · intro v hv; replace hv : v.cell? ⟨X.b, 1, none⟩ = some (.int .i64 (KK : Int)) := hv; go_simp
            simp only [zA9, zB9, zC9]
            refine tKx (i := 6) (v := .pointer (some ⟨X.b, 0, none⟩)) rfl rfl (by kernel_rfl) (fun _ _ _ h => h) ?_ hH ?_
            · intro v hv; replace hv : v.cell? ⟨X.b, 1, none⟩ = some (.int .i64 (KK : Int)) := hv; go_simp
            simp only [zA9, zB9, zC9]
            refine tKx (i := 7) (v := .pointer (some ⟨X.b, 1, none⟩)) rfl rfl (by kernel_rfl) (fun _ _ _ h => h) ?_ hH ?_
            · intro v hv; replace hv : v.cell? ⟨X.b, 1, none⟩ = some (.int .i64 (KK : Int)) := hv; go_simp
            simp only [zA9, zB9, zC9]
            refine tKx (i := 8) (v := .int .i64 (KK : Int)) rfl rfl (by kernel_rfl) (fun _ _ _ h => h) ?_ hH ?_
            · intro v hv; replace hv : v.cell? ⟨X.b, 1, none⟩ = some (.int .i64 (KK : Int)) := hv; go_simp
            simp only [zA9, zB9, zC9]
            refine wpAnyH_ready (rs := [4]) (by kernel_rfl) (by simp) ?_
            refine AllReadyH.cons rfl (fun K hK => ?_) AllReadyH.nil
            go_simp
            refine hK.out _ _ e1 (fun _ => ?_)
            clear hK K
            refine tKx (i := 9) (v := .slice PX KK CX) rfl rfl (by kernel_rfl) (fun _ _ _ h => h) ?_ hH ?_
            · intro v hv; replace hv : v.cell? ⟨X.b, 1, none⟩ = some (.int .i64 (KK : Int)) := hv; go_simp; try (intro hbad; exfalso; omega)
            simp only [zA9, zB9, zC9]
            refine tKx (i := 10) (v := .pointer (some ⟨X.b, 0, none⟩)) rfl rfl (by kernel_rfl) (fun _ _ _ h => h) ?_ hH ?_
            · intro v hv; replace hv : v.cell? ⟨X.b, 1, none⟩ = some (.int .i64 (KK : Int)) := hv; go_simp
            simp only [zA9, zB9, zC9]
            refine tKx (i := 11) (v := .pointer (some ⟨X.b, 0, none⟩)) rfl rfl (by kernel_rfl) (fun _ _ _ h => h) ?_ hH ?_
            · intro v hv; replace hv : v.cell? ⟨X.b, 1, none⟩ = some (.int .i64 (KK : Int)) := hv; go_simp
            simp only [zA9, zB9, zC9]
            refine wpAnyH_ready (rs := [12]) (by kernel_rfl) (by simp) ?_
            refine AllReadyH.cons rfl (fun K hK => ?_) AllReadyH.nil
            go_simp
            refine hK.out _ _ Y1 (fun _ => ?_)
            clear hK K hH
            refine wpAnyH_done (by kernel_rfl) ?_ _
            refine NoPanic.normal ?_
            go_wp2_with fail
            go_roundw
            case rel => exact ⟨t + 1, i + 1, ys ++ [(n, ⟨X.b, .slice PX KK CX, X.l.take KK, KK⟩)], by go_num, by go_num, hlt, by omega, Y2, Y3, Y4, Y5.out⟩
            case measure => simp [intOf]; omega
    · have hin : ¬ (i : Int) < (xs.length : Int) := by omega
      have hd0 : xs.drop i = [] := List.drop_eq_nil_of_le (by omega)
      have E : Hid (∃ xs', Dsk P wr base f q st (some m) xs' [] ∧ xs'.map abs = cuts keeps 0 xs) := by
        have h1 := DR.out
        have h2 := HC.out
        rw [hd0] at h1 h2
        exact ⟨ys, by rw [List.append_nil] at h1; exact h1, by rw [← h2]; show _ = _ ++ []; rw [List.append_nil]⟩
      clear DR HC OR hd0
      go_wp2_with fail
      go_end0
      exact ⟨rfl, E.out, BR⟩
end Go.Proofs.Ytdiehlioemmakaa

