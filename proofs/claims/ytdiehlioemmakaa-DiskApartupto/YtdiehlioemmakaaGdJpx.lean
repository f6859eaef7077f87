/-
  The walk of simfs's Rename on any disk.
-/
import Derived.Test.YtdiehlioemmakaaGdIpx
namespace Go.Proofs.Ytdiehlioemmakaa
open Go.RowKit Go.Maps Go.Joins

def rnPE {α : Type} (s t : List UInt8) (xs : List (List UInt8 × α)) (st : Int) : Int := if nmOk t = false then 6 else if nmE s xs ≠ 0 then nmE s xs else if rfB st = true then 44 else 0
def stR {α : Type} (s t : List UInt8) (xs : List (List UInt8 × α)) (st : Int) : Int := if nmOk t = false then st else if nmE s xs ≠ 0 then st else rfS st
def RnQ (P : Nat → Prop) (w w' : World) (base f : Nat) (q st' : Int) (xs : List (List UInt8 × Fl)) (us : List Ux) (s t : List UInt8) (j : Nat) (E : Int) : Prop := ∃ mo' xs' us', (if E = 0 ∧ s ≠ t then ∃ ct cf cl X, lookN s xs = some X ∧ xs' = putN t X (delN s xs) ∧ us' = us ++ [Ux.rn ct cf cl t s ((lookN t xs).map fun Y => (Y, j))] else xs' = xs ∧ us' = us) ∧ Dsk (ext P w w') w' base f q st' mo' xs' us' ∧ Chg P w w'
theorem RnQ.no {P : Nat → Prop} {w w' : World} {base f j : Nat} {q st' : Int} {mo : Option Nat} {xs : List (List UInt8 × Fl)} {us : List Ux} {s t : List UInt8} {E : Int} (hE : ¬ (E = 0 ∧ s ≠ t)) (h : Dsk (ext P w w') w' base f q st' mo xs us ∧ Chg P w w') : RnQ P w w' base f q st' xs us s t j E :=
  ⟨mo, xs, us, by rw [if_neg hE]; exact ⟨rfl, rfl⟩, h⟩
theorem lostV_look (o : Option Fl) (j : Nat) : lostV (o.map fun Y => (Y, j)) = lookV o := by cases o <;> rfl
theorem rn_perm {s t : List UInt8} {X : Fl} {xs : List (List UInt8 × Fl)} {us : List Ux} {ct cf cl j : Nat} (so : SrtN xs) (hs : lookN s xs = some X) (hst : s ≠ t) : (xs.map (·.2) ++ us.flatMap Ux.lost).Perm ((putN t X (delN s xs)).map (·.2) ++ (us ++ [Ux.rn ct cf cl t s ((lookN t xs).map fun Y => (Y, j))]).flatMap Ux.lost) := by
  have h1 := (del_perm so hs).map (·.2)
  have h2 := (put_perm t X (delN s xs)).map (·.2)
  have hlk : lookN t (delN s xs) = lookN t xs := by rw [look_del, if_neg (fun e => hst e.symm)]
  cases hl : lookN t xs with
  | none =>
    have e1 : (us ++ [Ux.rn ct cf cl t s ((none : Option Fl).map fun Y => (Y, j))]).flatMap Ux.lost = us.flatMap Ux.lost := by rw [List.flatMap_append]; simp [Ux.lost, Ux.rn, lostF]
    rw [e1]
    rw [del_none (look_no (hlk.trans hl))] at h2
    exact (h1.trans h2.symm).append_right _
  | some Y =>
    have e1 : (us ++ [Ux.rn ct cf cl t s ((some Y).map fun Y => (Y, j))]).flatMap Ux.lost = us.flatMap Ux.lost ++ [Y] := by rw [List.flatMap_append]; simp [Ux.lost, Ux.rn, lostF]
    rw [e1]
    have h3 := (del_perm (srt_del s so) (hlk.trans hl)).map (·.2)
    refine (h1.append_right _).trans ?_
    refine List.Perm.trans ?_ (h2.symm.append_right _)
    simp only [List.map_cons, List.cons_append]
    refine List.Perm.cons _ ?_
    refine (h3.append_right _).trans ?_
    rw [← List.append_assoc]
    exact (List.perm_append_comm (l₁ := [Y]) (l₂ := (delN t (delN s xs)).map (·.2) ++ us.flatMap Ux.lost))
theorem lookM {a : World} {m : Nat} {ys : List (List UInt8 × Fl)} (hm : Mp a m ys) (n : List UInt8) (hn : n.length ≤ maxLen) : (Instr.lookup 64 (.map (some m)) (.string ⟨n.toArray⟩) false).run Try.prog a = .ok (lookV (lookN n ys)) a := by
  have hn2 : (⟨n.toArray⟩ : ByteArray).size ≤ maxLen := by rw [mk_size]; exact hn
  obtain ⟨v, ps, hrun, hR⟩ := World.ownsMap.lookup (key := .string ⟨n.toArray⟩) hm keyS mapT (zeroP a) (zd := .nil) (zp := []) rfl (WideMaps.keyOf_string_mk strT hn2)
  rw [show (⟨n.toArray⟩ : ByteArray).data.toList = n from rfl, at_ent] at hR
  cases hl : lookN n ys with
  | none =>
    rw [hl] at hR
    rcases ptrR_inv hR with ⟨rfl, _⟩ | ⟨b', _, e⟩
    · exact hrun
    · cases e
  | some X =>
    rw [hl] at hR
    rcases ptrR_inv hR with ⟨_, e⟩ | ⟨b', rfl, e⟩
    · cases e
    · cases e; exact hrun
theorem len_del {α : Type} (n : List UInt8) (l : List (List UInt8 × α)) : (delN n l).length ≤ l.length := List.length_filter_le _ _
set_option maxHeartbeats 8000000 in
set_option maxRecDepth 1000000 in
theorem Rename_any {P : Nat → Prop} (base f : Nat) (q st : Int) (mo : Option Nat) (xs : List (List UInt8 × Fl)) (us : List Ux) (s t : List UInt8) (j : Nat) (w : World) (hls : s.length ≤ 1000000000) (hlt : t.length ≤ 1000000000) (hr : -9223372036854775808 ≤ st ∧ st ≤ 9223372036854775807) (so : SrtN xs) (hxl : xs.length ≤ 1000) (hul : us.length ≤ 9000000) (d : Dsk P w base f q st mo xs us) :
    Calls Try.prog 36 #[.pointer (some ⟨f, 0, none⟩), .string ⟨s.toArray⟩, .string ⟨t.toArray⟩] w fun e w' => e = .returned (.int .i64 (rnPE s t xs st)) ∧ RnQ P w w' base f q (stR s t xs st) xs us s t j (rnPE s t xs st) := by
  have CB : Hid (∀ w, Calls Try.prog 62 #[.string ⟨t.toArray⟩] w fun e w' => e = .returned (.bool (nmOk t)) ∧ w' = w) := fun w => canBe_any t w hlt
  have g1 := World.grownBy_alloc w (.cells #[.string ⟨s.toArray⟩] 9) none
  have g2 := World.grownBy_alloc (w.alloc (.cells #[.string ⟨s.toArray⟩] 9)) (.cells #[.string ⟨t.toArray⟩] 9) none
  have D0 : Hid (Dsk P ((w.alloc (.cells #[.string ⟨s.toArray⟩] 9)).alloc (.cells #[.string ⟨t.toArray⟩] 9)) base f q st mo xs us) := (d.kept g1).kept g2
  have C0 : Hid (Chg P w ((w.alloc (.cells #[.string ⟨s.toArray⟩] 9)).alloc (.cells #[.string ⟨t.toArray⟩] 9))) := (Chg.of_alloc _ _ _).trans (Chg.of_alloc _ _ _)
  have hs0 : ((w.alloc (.cells #[.string ⟨s.toArray⟩] 9)).alloc (.cells #[.string ⟨t.toArray⟩] 9)).heap[w.heap.size]? = some (.cells #[.string ⟨s.toArray⟩] 9 (0, 0)) := hAlloc (heap_alloc_new _ _) _
  have ht0 : ((w.alloc (.cells #[.string ⟨s.toArray⟩] 9)).alloc (.cells #[.string ⟨t.toArray⟩] 9)).heap[w.heap.size + 1]? = some (.cells #[.string ⟨t.toArray⟩] 9 (0, 0)) := new2 _ _ _ _
  have sz0 : w.heap.size + 2 ≤ ((w.alloc (.cells #[.string ⟨s.toArray⟩] 9)).alloc (.cells #[.string ⟨t.toArray⟩] 9)).heap.size := by simp
  have NM : Hid (Calls Try.prog 58 #[.pointer (some ⟨f, 0, none⟩), .string ⟨s.toArray⟩] ((w.alloc (.cells #[.string ⟨s.toArray⟩] 9)).alloc (.cells #[.string ⟨t.toArray⟩] 9)) fun e w' => e = .returned (.tuple #[nmV s xs, .int .i64 (nmE s xs)]) ∧ w' = ((w.alloc (.cells #[.string ⟨s.toArray⟩] 9)).alloc (.cells #[.string ⟨t.toArray⟩] 9))) := named_any base f q st mo xs us s _ hls D0.out
  have RF := mkHid (refuses_any base f q st mo xs us _ D0.out hr)
  have hbs := d.bs
  have hpb := mkHid d.pb
  have pf := d.pf
  have hfl := (d.pb f d.pf).2
  have D := mkHid d
  have SO := mkHid so
  have hcs : ((w.alloc (.cells #[.string ⟨s.toArray⟩] 9)).alloc (.cells #[.string ⟨t.toArray⟩] 9)).cell? ⟨w.heap.size, 0, none⟩ = some (.string ⟨s.toArray⟩) := (cell_of_block hs0 0).trans rfl
  have hct : ((w.alloc (.cells #[.string ⟨s.toArray⟩] 9)).alloc (.cells #[.string ⟨t.toArray⟩] 9)).cell? ⟨w.heap.size + 1, 0, none⟩ = some (.string ⟨t.toArray⟩) := (cell_of_block ht0 0).trans rfl
  have es1 := toListE s
  have et1 := toListE t
  clear d g1 g2 so hls hlt
  cases hok : nmOk t with
  | false =>
    rw [hok] at CB
    have EE : rnPE s t xs st = 6 := by unfold rnPE; rw [hok]; rfl
    have ES : stR s t xs st = st := by unfold stR; rw [hok]; rfl
    rw [EE, ES]
    clear EE ES RF NM
    go_enter Try.func36, Try.ntmps36
    go_wp2_with fail
    generalize (w.alloc (.cells #[.string ⟨s.toArray⟩] 9)).alloc (.cells #[.string ⟨t.toArray⟩] 9) = w1 at *
    refine (CB.out _).mono ?_
    rintro e wx ⟨rfl, hwx⟩; have hwx2 := hwx.symm; subst hwx2; clear hwx
    go_wp2_with fail
    go_ret
    exact ⟨rfl, RnQ.no (fun h => by simp at h) (D.out.same2 D0.out C0.out (fun _ e => e))⟩
  | true =>
    rw [hok] at CB
    rcases nm_cases s xs with ⟨e1, e2, e3⟩ | ⟨e1, e2, e3, e4⟩ | ⟨X, e1, e2, e3, e4⟩
    · rw [e1, e2] at NM
      have EE : rnPE s t xs st = 6 := by unfold rnPE; rw [hok, e1]; rfl
      have ES : stR s t xs st = st := by unfold stR; rw [hok, e1]; rfl
      rw [EE, ES]
      clear EE ES RF
      go_enter Try.func36, Try.ntmps36
      go_wp2_with fail
      generalize (w.alloc (.cells #[.string ⟨s.toArray⟩] 9)).alloc (.cells #[.string ⟨t.toArray⟩] 9) = w1 at *
      refine (CB.out _).mono ?_
      rintro e wx ⟨rfl, hwx⟩; have hwx2 := hwx.symm; subst hwx2; clear hwx
      go_wp2_with fail
      refine NM.out.mono ?_
      rintro e wx ⟨rfl, hwx⟩; have hwx2 := hwx.symm; subst hwx2; clear hwx
      go_wp2_with fail
      go_ret
      exact ⟨rfl, RnQ.no (fun h => by simp at h) (D.out.same2 D0.out C0.out (fun _ e => e))⟩
    · rw [e1, e2] at NM
      have EE : rnPE s t xs st = 40 := by unfold rnPE; rw [hok, e1]; rfl
      have ES : stR s t xs st = st := by unfold stR; rw [hok, e1]; rfl
      rw [EE, ES]
      clear EE ES RF
      go_enter Try.func36, Try.ntmps36
      go_wp2_with fail
      generalize (w.alloc (.cells #[.string ⟨s.toArray⟩] 9)).alloc (.cells #[.string ⟨t.toArray⟩] 9) = w1 at *
      refine (CB.out _).mono ?_
      rintro e wx ⟨rfl, hwx⟩; have hwx2 := hwx.symm; subst hwx2; clear hwx
      go_wp2_with fail
      refine NM.out.mono ?_
      rintro e wx ⟨rfl, hwx⟩; have hwx2 := hwx.symm; subst hwx2; clear hwx
      go_wp2_with fail
      go_ret
      exact ⟨rfl, RnQ.no (fun h => by simp at h) (D.out.same2 D0.out C0.out (fun _ e => e))⟩
    · rw [e1, e2] at NM
      have EE : rnPE s t xs st = if rfB st = true then 44 else 0 := by unfold rnPE; rw [hok, e1]; rfl
      have ES : stR s t xs st = rfS st := by unfold stR; rw [hok, e1]; rfl
      rw [EE, ES]
      clear EE ES e2
      have hmo : ∃ m, mo = some m := by
        cases mo with
        | none => have := (D.out.mn rfl).1; rw [this] at e4; cases e4
        | some m => exact ⟨m, rfl⟩
      obtain ⟨m, rfl⟩ := hmo
      have hsl : s.length ≤ maxLen := by have := nm_len e3; unfold maxLen; omega
      have htl : t.length ≤ maxLen := by have := nm_len hok; unfold maxLen; omega
      cases hB : rfB st with
      | true =>
        rw [hB] at RF
        rw [if_pos rfl]
        go_enter Try.func36, Try.ntmps36
        go_wp2_with fail
        generalize (w.alloc (.cells #[.string ⟨s.toArray⟩] 9)).alloc (.cells #[.string ⟨t.toArray⟩] 9) = w1 at *
        refine (CB.out _).mono ?_
        rintro e wx ⟨rfl, hwx⟩; have hwx2 := hwx.symm; subst hwx2; clear hwx
        go_wp2_with fail
        refine NM.out.mono ?_
        rintro e wx ⟨rfl, hwx⟩; have hwx2 := hwx.symm; subst hwx2; clear hwx
        go_wp2_with fail
        refine RF.out.mono ?_
        rintro e w4 ⟨rfl, d4, c4, s4⟩
        have C4 : Hid (Chg P w w4) := C0.out.trans (c4.mono (fun i _ e => by subst e; exact pf))
        go_wp2_with fail
        go_ret
        exact ⟨rfl, RnQ.no (fun h => by simp at h) (D.out.same2 d4 C4.out (fun _ e => e))⟩
      | false =>
        rw [hB] at RF
        rw [if_neg (by simp)]
        by_cases hst : s = t
        · subst hst
          have est : (s == s) = true := beq_self_eq_true s
          clear et1
          go_enter Try.func36, Try.ntmps36
          go_wp2_with fail
          generalize (w.alloc (.cells #[.string ⟨s.toArray⟩] 9)).alloc (.cells #[.string ⟨s.toArray⟩] 9) = w1 at *
          refine (CB.out _).mono ?_
          rintro e wx ⟨rfl, hwx⟩; have hwx2 := hwx.symm; subst hwx2; clear hwx
          go_wp2_with fail
          refine NM.out.mono ?_
          rintro e wx ⟨rfl, hwx⟩; have hwx2 := hwx.symm; subst hwx2; clear hwx
          go_wp2_with fail
          refine RF.out.mono ?_
          rintro e w4 ⟨rfl, d4, c4, s4⟩
          have C4 : Hid (Chg P w w4) := C0.out.trans (c4.mono (fun i _ e => by subst e; exact pf))
          have hs4 := c4.at_ hs0 (fun e => by have e : w.heap.size = f := e; omega)
          have ht4 := c4.at_ ht0 (fun e => by have e : w.heap.size + 1 = f := e; omega)
          have cs4 : w4.cell? ⟨w.heap.size, 0, none⟩ = some (.string ⟨s.toArray⟩) := (cell_of_block hs4 0).trans rfl
          have ct4 : w4.cell? ⟨w.heap.size + 1, 0, none⟩ = some (.string ⟨s.toArray⟩) := (cell_of_block ht4 0).trans rfl
          go_wp2_with fail
          go_ret
          exact ⟨rfl, RnQ.no (fun h => h.2 rfl) (D.out.same2 d4 C4.out (fun _ e => e))⟩
        · have est : (s == t) = false := by rw [beq_eq_false_iff_ne]; exact hst
          go_enter Try.func36, Try.ntmps36
          go_wp2_with fail
          generalize (w.alloc (.cells #[.string ⟨s.toArray⟩] 9)).alloc (.cells #[.string ⟨t.toArray⟩] 9) = w1 at *
          refine (CB.out _).mono ?_
          rintro e wx ⟨rfl, hwx⟩; have hwx2 := hwx.symm; subst hwx2; clear hwx
          go_wp2_with fail
          refine NM.out.mono ?_
          rintro e wx ⟨rfl, hwx⟩; have hwx2 := hwx.symm; subst hwx2; clear hwx
          go_wp2_with fail
          refine RF.out.mono ?_
          rintro e w4 ⟨rfl, d4, c4, s4⟩
          have C4 : Hid (Chg P w w4) := C0.out.trans (c4.mono (fun i _ e => by subst e; exact pf))
          have hs4 := c4.at_ hs0 (fun e => by have e : w.heap.size = f := e; omega)
          have ht4 := c4.at_ ht0 (fun e => by have e : w.heap.size + 1 = f := e; omega)
          have cs4 : w4.cell? ⟨w.heap.size, 0, none⟩ = some (.string ⟨s.toArray⟩) := (cell_of_block hs4 0).trans rfl
          have ct4 : w4.cell? ⟨w.heap.size + 1, 0, none⟩ = some (.string ⟨t.toArray⟩) := (cell_of_block ht4 0).trans rfl
          obtain ⟨ov, dp4⟩ := Dp.start d4 C4.out hbs hpb.out
          have sz4 : w.heap.size + 2 ≤ w4.heap.size := by omega
          obtain ⟨c0, c1, c2, c3, cf⟩ := dp4.fs.c
          have lk : ∀ w' : World, w'.heap[m]? = w4.heap[m]? → (Instr.lookup 64 (.map (some m)) (.string ⟨t.toArray⟩) false).run Try.prog w' = .ok (lookV (lookN t xs)) w' := fun w' hw => by
            have hm' : Mp w' m xs := by
              obtain ⟨es, clock, hb, F, hs, hD⟩ := dp4.mp
              exact ⟨es, clock, hw.trans hb, F, hs, hD⟩
            exact lookM hm' t htl
          obtain ⟨LV, hLV⟩ : ∃ LV, LV = lookV (lookN t xs) := ⟨_, rfl⟩
          obtain ⟨LP, hLP⟩ : ∃ LP, LV = .pointer LP := by rw [hLV]; cases lookN t xs <;> exact ⟨_, rfl⟩
          have hlost : Hid (lostV ((lookN t xs).map fun Y => (Y, j)) = .pointer LP) := by show _ = _; rw [lostV_look, ← hLV, hLP]
          rw [← hLV, hLP] at lk
          have gA : ∀ u : Value, w4.grownBy (w4.alloc (.cells #[u] 68)).drew none := fun u => by
            have h := World.grownBy_alloc w4 (.cells #[u] 68) none
            exact ⟨h.os, h.tape, h.output, h.size, h.block⟩
          have hmlt := World.ownsMap.lt dp4.mp
          have hS : ∀ u : Value, (fun w' : World => w'.cell? ⟨f, 1, none⟩ = some (.map (some m)) ∧ w'.cell? ⟨w.heap.size + 1, 0, none⟩ = some (.string ⟨t.toArray⟩) ∧ w'.heap[m]? = w4.heap[m]?) (w4.alloc (.cells #[u] 68)).drew := fun u => ⟨(gA u).cell c1 (by simp), (gA u).cell ct4 (by simp), (gA u).block m hmlt (by simp)⟩
          have hl5 : (w4.alloc (.cells #[.pointer LP] 68)).drew.heap[w4.heap.size]? = some (.cells #[.pointer LP] 68 (0, 0)) := heap_alloc_new _ _
          have dp5 := mkHid (dp4.grow (gA (.pointer LP)))
          have hs5 := (((gA (.pointer LP)).block _ (lt_of_heap hs4) (by simp)).trans hs4)
          have ht5 := (((gA (.pointer LP)).block _ (lt_of_heap ht4) (by simp)).trans ht4)
          have HS := mkHid hS
          have HL5 := mkHid hl5
          have HS5 := mkHid hs5
          have HT5 := mkHid ht5
          clear hS hl5 hs5 ht5 gA
          clear hLV hLP d4 c4 C4 c0 c2 c3 cf RF NM CB D0 C0 hs0 ht0 hcs hct sz0 s4 dp4 hs4 ht4 hmlt
          go_wp2_with fail
          refine wp_region_noPanic ?_
          refine wp_region_held_drew (S := fun w' => w'.cell? ⟨f, 1, none⟩ = some (.map (some m)) ∧ w'.cell? ⟨w.heap.size + 1, 0, none⟩ = some (.string ⟨t.toArray⟩) ∧ w'.heap[m]? = w4.heap[m]?) (by kernel_rfl) (⟨c1, ct4, rfl⟩) (fun hH => ?_)
          refine tKx (i := 0) (v := .pointer (some ⟨f, 0, none⟩)) rfl rfl (by kernel_rfl) (fun _ _ _ h => h) ?_ hH ?_
          · intro w5 hSw; obtain ⟨hv1, hv2, hv3⟩ := hSw; go_simp
          simp only [zA9, zB9, zC9]
          refine tKx (i := 1) (v := .pointer (some ⟨f, 0, none⟩)) rfl rfl (by kernel_rfl) (fun _ _ _ h => h) ?_ hH ?_
          · intro w5 hSw; obtain ⟨hv1, hv2, hv3⟩ := hSw; go_simp
          simp only [zA9, zB9, zC9]
          refine tKx (i := 2) (v := .pointer (some ⟨f, 1, none⟩)) rfl rfl (by kernel_rfl) (fun _ _ _ h => h) ?_ hH ?_
          · intro w5 hSw; obtain ⟨hv1, hv2, hv3⟩ := hSw; go_simp
          simp only [zA9, zB9, zC9]
          refine tKx (i := 3) (v := .map (some m)) rfl rfl (by kernel_rfl) (fun _ _ _ h => h) ?_ hH ?_
          · intro w5 hSw; obtain ⟨hv1, hv2, hv3⟩ := hSw; go_simp
          simp only [zA9, zB9, zC9]
          refine tKx (i := 4) (v := .string ⟨t.toArray⟩) rfl rfl (by kernel_rfl) (fun _ _ _ h => h) ?_ hH ?_
          · intro w5 hSw; obtain ⟨hv1, hv2, hv3⟩ := hSw; go_simp
          simp only [zA9, zB9, zC9]
          refine tKx (i := 5) (v := .pointer LP) rfl rfl (by kernel_rfl) (fun _ _ _ h => h) ?_ hH ?_
          · intro w5 hSw; obtain ⟨hv1, hv2, hv3⟩ := hSw; have lk5 := lk w5 hv3; go_simp
          simp only [zA9, zB9, zC9]
          refine wpAnyH_ready (rs := [6]) (by kernel_rfl) (by simp) ?_
          refine AllReadyH.cons rfl (fun K hK => ?_) AllReadyH.nil
          go_simp
          refine hK.out _ _ (HS.out _) (fun _ => ?_)
          clear hK K hH
          refine wpAnyH_ready (rs := [7]) (by kernel_rfl) (by simp) ?_
          refine AllReadyH.cons rfl (fun K hK => ?_) AllReadyH.nil
          go_simp
          refine hK.out _ _ (HS.out _) (fun _ => ?_)
          clear hK K
          refine wpAnyH_done (by kernel_rfl) ?_ _
          refine NoPanic.normal ?_
          have hs5 := HS5.out
          have ht5 := HT5.out
          have hl5 := HL5.out
          clear HS HS5 HT5 HL5 lk c1 ct4 cs4
          generalize (w4.alloc (.cells #[.pointer LP] 68)).drew = w5 at *
          obtain ⟨B, hB5⟩ : ∃ B, B = w4.heap.size := ⟨_, rfl⟩
          rw [← hB5] at hl5 sz4 ⊢
          clear hB5
          obtain ⟨w6, hrun6, dp6, c6⟩ := (dp5.out.grow (b := w5.drew) ⟨rfl, rfl, rfl, Nat.le_refl _, fun _ _ _ => rfl⟩).drop s hsl
          obtain ⟨es, ck, hmk⟩ := dp5.out.mp.kind
          have nm : ∀ {b : Nat} {cs : Array Value} {t : TypeId} {fr : Nat × Nat}, w5.heap[b]? = some (.cells cs t fr) → ¬ b = m := fun h e => by rw [e, hmk] at h; cases h
          have hs6 := c6.at_ (b := w.heap.size) hs5 (nm hs5)
          have ht6 := c6.at_ (b := w.heap.size + 1) ht5 (nm ht5)
          have hl6 := c6.at_ (b := B) hl5 (nm hl5)
          obtain ⟨w7, hrun7, dp7, c7⟩ := (dp6.grow (b := w6.drew) ⟨rfl, rfl, rfl, Nat.le_refl _, fun _ _ _ => rfl⟩).store t X htl (Nat.le_trans (len_del s xs) (by omega))
          obtain ⟨es6, ck6, hmk6⟩ := dp6.mp.kind
          have nm6 : ∀ {b : Nat} {cs : Array Value} {t : TypeId} {fr : Nat × Nat}, w6.heap[b]? = some (.cells cs t fr) → ¬ b = m := fun h e => by rw [e, hmk6] at h; cases h
          have hs7 := c7.at_ (b := w.heap.size) hs6 (nm6 hs6)
          have ht7 := c7.at_ (b := w.heap.size + 1) ht6 (nm6 ht6)
          have hl7 := c7.at_ (b := B) hl6 (nm6 hl6)
          obtain ⟨P8, C8, w8, hrun8, F8, dp8⟩ := dp7.push (.rn (w.heap.size + 1) w.heap.size B t s ((lookN t xs).map fun Y => (Y, j))) (.func (.func 71) #[] #[.pointer (some ⟨w.heap.size + 1, 0, none⟩), .pointer (some ⟨w.heap.size, 0, none⟩), .pointer (some ⟨B, 0, none⟩)]) rfl ⟨Or.inr (Nat.le_succ _), ht7, (fun y hy => by cases hy; exact ⟨Or.inr (Nat.le_refl _), hs7⟩), (fun z hz => by cases hz; exact ⟨Or.inr (by omega), by rw [hlost.out]; exact hl7⟩)⟩ (by omega) rfl
          obtain ⟨a0, a1, a2, a3, af⟩ := dp5.out.fs.c
          obtain ⟨b0, b1, b2, b3, bf⟩ := dp6.fs.c
          obtain ⟨d0, d1, d2, d3, df⟩ := dp7.fs.c
          obtain ⟨k0, k1, k2, k3, kf⟩ := F8.c
          have kf2 := kf 2
          have hw8 := lt_of_heap F8
          have xs5 : w5.cell? ⟨w.heap.size, 0, none⟩ = some (.string ⟨s.toArray⟩) := (cell_of_block hs5 0).trans rfl
          have xs6 : w6.cell? ⟨w.heap.size, 0, none⟩ = some (.string ⟨s.toArray⟩) := (cell_of_block hs6 0).trans rfl
          have xt6 : w6.cell? ⟨w.heap.size + 1, 0, none⟩ = some (.string ⟨t.toArray⟩) := (cell_of_block ht6 0).trans rfl
          have xt7 : w7.cell? ⟨w.heap.size + 1, 0, none⟩ = some (.string ⟨t.toArray⟩) := (cell_of_block ht7 0).trans rfl
          have fin := mkHid (dp8.done (List.Sublist.refl _) (rn_perm SO.out e4 hst))
          clear dp5 dp6 dp7 dp8 c6 c7 hs5 ht5 hl5 hs6 ht6 hl6 hs7 ht7 hl7 hmk hmk6 nm nm6 hlost F8 kf af bf df a0 a2 a3 b0 b2 b3 d0 d3 k0 k1 k3 sz4
          go_wp2_with fail
          refine wp_region_noPanic ?_
          refine wp_region_held_drew (S := fun w' => w'.cell? ⟨f, 1, none⟩ = some (.map (some m)) ∧ w'.cell? ⟨w.heap.size, 0, none⟩ = some (.string ⟨s.toArray⟩)) (by kernel_rfl) (⟨a1, xs5⟩) (fun hH => ?_)
          refine tKx (i := 0) (v := .pointer (some ⟨f, 0, none⟩)) rfl rfl (by kernel_rfl) (fun _ _ _ h => h) ?_ hH ?_
          · intro w5 hSw; obtain ⟨hv1, hv2⟩ := hSw; go_simp
          simp only [zA9, zB9, zC9]
          refine tKx (i := 1) (v := .pointer (some ⟨f, 0, none⟩)) rfl rfl (by kernel_rfl) (fun _ _ _ h => h) ?_ hH ?_
          · intro w5 hSw; obtain ⟨hv1, hv2⟩ := hSw; go_simp
          simp only [zA9, zB9, zC9]
          refine tKx (i := 2) (v := .pointer (some ⟨f, 1, none⟩)) rfl rfl (by kernel_rfl) (fun _ _ _ h => h) ?_ hH ?_
          · intro w5 hSw; obtain ⟨hv1, hv2⟩ := hSw; go_simp
          simp only [zA9, zB9, zC9]
          refine tKx (i := 3) (v := .map (some m)) rfl rfl (by kernel_rfl) (fun _ _ _ h => h) ?_ hH ?_
          · intro w5 hSw; obtain ⟨hv1, hv2⟩ := hSw; go_simp
          simp only [zA9, zB9, zC9]
          refine tKx (i := 4) (v := .string ⟨s.toArray⟩) rfl rfl (by kernel_rfl) (fun _ _ _ h => h) ?_ hH ?_
          · intro w5 hSw; obtain ⟨hv1, hv2⟩ := hSw; go_simp
          simp only [zA9, zB9, zC9]
          refine wpAnyH_ready (rs := [5]) (by kernel_rfl) (by simp) ?_
          refine AllReadyH.cons rfl (fun K hK => ?_) AllReadyH.nil
          go_simp
          refine hK.out _ _ ⟨b1, xs6⟩ (fun _ => ?_)
          clear hK K hH
          refine wpAnyH_done (by kernel_rfl) ?_ _
          refine NoPanic.normal ?_
          clear hrun6 a1 xs5
          go_wp2_with fail
          refine wp_region_noPanic ?_
          refine wp_region_held_drew (S := fun w' => w'.cell? ⟨f, 1, none⟩ = some (.map (some m)) ∧ w'.cell? ⟨w.heap.size + 1, 0, none⟩ = some (.string ⟨t.toArray⟩)) (by kernel_rfl) (⟨b1, xt6⟩) (fun hH => ?_)
          refine tKx (i := 0) (v := .pointer (some ⟨f, 0, none⟩)) rfl rfl (by kernel_rfl) (fun _ _ _ h => h) ?_ hH ?_
          · intro w5 hSw; obtain ⟨hv1, hv2⟩ := hSw; go_simp
          simp only [zA9, zB9, zC9]
          refine tKx (i := 1) (v := .pointer (some ⟨f, 0, none⟩)) rfl rfl (by kernel_rfl) (fun _ _ _ h => h) ?_ hH ?_
          · intro w5 hSw; obtain ⟨hv1, hv2⟩ := hSw; go_simp
          simp only [zA9, zB9, zC9]
          refine tKx (i := 2) (v := .pointer (some ⟨f, 1, none⟩)) rfl rfl (by kernel_rfl) (fun _ _ _ h => h) ?_ hH ?_
          · intro w5 hSw; obtain ⟨hv1, hv2⟩ := hSw; go_simp
          simp only [zA9, zB9, zC9]
          refine tKx (i := 3) (v := .map (some m)) rfl rfl (by kernel_rfl) (fun _ _ _ h => h) ?_ hH ?_
          · intro w5 hSw; obtain ⟨hv1, hv2⟩ := hSw; go_simp
          simp only [zA9, zB9, zC9]
          refine tKx (i := 4) (v := .string ⟨t.toArray⟩) rfl rfl (by kernel_rfl) (fun _ _ _ h => h) ?_ hH ?_
          · intro w5 hSw; obtain ⟨hv1, hv2⟩ := hSw; go_simp
          simp only [zA9, zB9, zC9]
          refine tKx (i := 5) (v := .pointer (some ⟨X.b, 0, none⟩)) rfl rfl (by kernel_rfl) (fun _ _ _ h => h) ?_ hH ?_
          · intro w5 hSw; obtain ⟨hv1, hv2⟩ := hSw; go_simp
          simp only [zA9, zB9, zC9]
          refine wpAnyH_ready (rs := [6]) (by kernel_rfl) (by simp) ?_
          refine AllReadyH.cons rfl (fun K hK => ?_) AllReadyH.nil
          go_simp
          refine hK.out _ _ ⟨d1, xt7⟩ (fun _ => ?_)
          clear hK K hH
          refine wpAnyH_done (by kernel_rfl) ?_ _
          refine NoPanic.normal ?_
          clear hrun7 b1 xt6
          go_wp2_with (at_builtin; refine list_app 65 rfl (.tmp 48) (.tmp 50) rfl rfl rfl hrun8 ?_)
          go_ret
          exact ⟨rfl, (show RnQ _ _ _ _ _ _ _ _ _ _ _ _ _ from ⟨some m, putN t X (delN s xs), us ++ [.rn (w.heap.size + 1) w.heap.size B t s ((lookN t xs).map fun Y => (Y, j))], by rw [if_pos ⟨rfl, hst⟩]; exact ⟨w.heap.size + 1, w.heap.size, B, X, e4, rfl, rfl⟩, fin.out⟩)⟩
end Go.Proofs.Ytdiehlioemmakaa

