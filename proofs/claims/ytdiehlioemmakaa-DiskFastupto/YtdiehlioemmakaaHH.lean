/-
  The walk of simfs's Rename on any disk.
-/
import Derived.Test.YtdiehlioemmakaaHG
import Derived.Test.YtdiehlioemmakaaHB
namespace Go.Proofs.Ytdiehlioemmakaa
open Go.RowKit Go.Maps Go.Joins

def rnPE {α : Type} (s t : List UInt8) (xs : List (List UInt8 × α)) (st : Int) : Int := if nmOk t = false then 6 else if nmE s xs ≠ 0 then nmE s xs else if rfB st = true then 44 else 0
def stR {α : Type} (s t : List UInt8) (xs : List (List UInt8 × α)) (st : Int) : Int := if nmOk t = false then st else if nmE s xs ≠ 0 then st else rfS st
def RnQ (P : Nat → Prop) (w w' : World) (base f : Nat) (q st' : Int) (xs : List (List UInt8 × Fl)) (us : List Ux) (s t : List UInt8) (j : Nat) (E : Int) : Prop := ∃ mo' xs' us', (if E = 0 ∧ s ≠ t then ∃ ct cf cl X, lookN s xs = some X ∧ xs' = putN t X (delN s xs) ∧ us' = us ++ [Ux.rn ct cf cl t s ((lookN t xs).map fun Y => (Y, j))] else xs' = xs ∧ us' = us) ∧ Dsk (ext P w w') w' base f q st' mo' xs' us' ∧ Chg P w w'
theorem RnQ.no {P : Nat → Prop} {w w' : World} {base f j : Nat} {q st' : Int} {mo : Option Nat} {xs : List (List UInt8 × Fl)} {us : List Ux} {s t : List UInt8} {E : Int} (hE : ¬ (E = 0 ∧ s ≠ t)) (h : Dsk (ext P w w') w' base f q st' mo xs us ∧ Chg P w w') : RnQ P w w' base f q st' xs us s t j E :=
  ⟨mo, xs, us, by rw [if_neg hE]; exact ⟨rfl, rfl⟩, h⟩
theorem lostV_look (o : Option Fl) (j : Nat) : lostV (o.map fun Y => (Y, j)) = lookV o := by cases o <;> rfl
theorem rn_perm {s t : List UInt8} {X : Fl} {xs : List (List UInt8 × Fl)} {us : List Ux} {ct cf cl j : Nat} (so : SrtN xs) (hs : lookN s xs = some X) (hst : s ≠ t) : (xs.map (·.2) ++ us.flatMap Ux.lost).Perm ((putN t X (delN s xs)).map (·.2) ++ (us ++ [Ux.rn ct cf cl t s ((lookN t xs).map fun Y => (Y, j))]).flatMap Ux.lost) := by
  have h1 := (del_perm so hs).map (·.2)
  have h2 := (put_perm t X (delN s xs)).map (·.2)
  have hlk : lookN t (delN s xs) = lookN t xs := by rw [look_del, if_neg (fun e => hst e.symm)]
  cases hl : lookN t xs with
  | none =>
    have e1 : (us ++ [Ux.rn ct cf cl t s ((none : Option Fl).map fun Y => (Y, j))]).flatMap Ux.lost = us.flatMap Ux.lost := by rw [List.flatMap_append]; simp [Ux.lost, Ux.rn, lostF]
    rw [e1]
    rw [del_none (look_no (hlk.trans hl))] at h2
    exact (h1.trans h2.symm).append_right _
  | some Y =>
    have e1 : (us ++ [Ux.rn ct cf cl t s ((some Y).map fun Y => (Y, j))]).flatMap Ux.lost = us.flatMap Ux.lost ++ [Y] := by rw [List.flatMap_append]; simp [Ux.lost, Ux.rn, lostF]
    rw [e1]
    have h3 := (del_perm (srt_del s so) (hlk.trans hl)).map (·.2)
    refine (h1.append_right _).trans ?_
    refine List.Perm.trans ?_ (h2.symm.append_right _)
    simp only [List.map_cons, List.cons_append]
    refine List.Perm.cons _ ?_
    refine (h3.append_right _).trans ?_
    rw [← List.append_assoc]
    exact (List.perm_append_comm (l₁ := [Y]) (l₂ := (delN t (delN s xs)).map (·.2) ++ us.flatMap Ux.lost))
theorem lookM {a : World} {m : Nat} {ys : List (List UInt8 × Fl)} (hm : Mp a m ys) (n : List UInt8) (hn : n.length ≤ maxLen) : (Instr.lookup 64 (.map (some m)) (.string ⟨n.toArray⟩) false).run Try.prog a = .ok (lookV (lookN n ys)) a := by
  have hn2 : (⟨n.toArray⟩ : ByteArray).size ≤ maxLen := by rw [mk_size]; exact hn
  obtain ⟨v, ps, hrun, hR⟩ := World.ownsMap.lookup (key := .string ⟨n.toArray⟩) hm keyS mapT (zeroP a) (zd := .nil) (zp := []) rfl (WideMaps.keyOf_string_mk strT hn2)
  rw [show (⟨n.toArray⟩ : ByteArray).data.toList = n from rfl, at_ent] at hR
  cases hl : lookN n ys with
  | none =>
    rw [hl] at hR
    rcases ptrR_inv hR with ⟨rfl, _⟩ | ⟨b', _, e⟩
    · exact hrun
    · cases e
  | some X =>
    rw [hl] at hR
    rcases ptrR_inv hR with ⟨_, e⟩ | ⟨b', rfl, e⟩
    · cases e
    · cases e; exact hrun
theorem len_del {α : Type} (n : List UInt8) (l : List (List UInt8 × α)) : (delN n l).length ≤ l.length := List.length_filter_le _ _
set_option maxHeartbeats 8000000 in
set_option maxRecDepth 1000000 in
theorem Rename_any {P : Nat → Prop} (base f : Nat) (q st : Int) (mo : Option Nat) (xs : List (List UInt8 × Fl)) (us : List Ux) (s t : List UInt8) (j : Nat) (w : World) (hls : s.length ≤ 1000000000) (hlt : t.length ≤ 1000000000) (hr : -9223372036854775808 ≤ st ∧ st ≤ 9223372036854775807) (so : SrtN xs) (hxl : xs.length ≤ 1000) (hul : us.length ≤ 9000000) (d : Dsk P w base f q st mo xs us) :
    Calls Try.prog 36 #[.pointer (some ⟨f, 0, none⟩), .string ⟨s.toArray⟩, .string ⟨t.toArray⟩] w fun e w' => e = .returned (.int .i64 (rnPE s t xs st)) ∧ RnQ P w w' base f q (stR s t xs st) xs us s t j (rnPE s t xs st) := by
  have CB : Hid (∀ w, Calls Try.prog 62 #[.string ⟨t.toArray⟩] w fun e w' => e = .returned (.bool (nmOk t)) ∧ w' = w) := fun w => canBe_any t w hlt
  have g1 := World.grownBy_alloc w (.cells #[.string ⟨s.toArray⟩] 9) none
  have g2 := World.grownBy_alloc (w.alloc (.cells #[.string ⟨s.toArray⟩] 9)) (.cells #[.string ⟨t.toArray⟩] 9) none
  have D0 : Hid (Dsk P ((w.alloc (.cells #[.string ⟨s.toArray⟩] 9)).alloc (.cells #[.string ⟨t.toArray⟩] 9)) base f q st mo xs us) := (d.kept g1).kept g2
  have C0 : Hid (Chg P w ((w.alloc (.cells #[.string ⟨s.toArray⟩] 9)).alloc (.cells #[.string ⟨t.toArray⟩] 9))) := (Chg.of_alloc _ _ _).trans (Chg.of_alloc _ _ _)
  have hs0 : ((w.alloc (.cells #[.string ⟨s.toArray⟩] 9)).alloc (.cells #[.string ⟨t.toArray⟩] 9)).heap[w.heap.size]? = some (.cells #[.string ⟨s.toArray⟩] 9 (0, 0)) := hAlloc (heap_alloc_new _ _) _
  have ht0 : ((w.alloc (.cells #[.string ⟨s.toArray⟩] 9)).alloc (.cells #[.string ⟨t.toArray⟩] 9)).heap[w.heap.size + 1]? = some (.cells #[.string ⟨t.toArray⟩] 9 (0, 0)) := new2 _ _ _ _
  have sz0 : w.heap.size + 2 ≤ ((w.alloc (.cells #[.string ⟨s.toArray⟩] 9)).alloc (.cells #[.string ⟨t.toArray⟩] 9)).heap.size := by simp
  have NM : Hid (Calls Try.prog 58 #[.pointer (some ⟨f, 0, none⟩), .string ⟨s.toArray⟩] ((w.alloc (.cells #[.string ⟨s.toArray⟩] 9)).alloc (.cells #[.string ⟨t.toArray⟩] 9)) fun e w' => e = .returned (.tuple #[nmV s xs, .int .i64 (nmE s xs)]) ∧ w' = ((w.alloc (.cells #[.string ⟨s.toArray⟩] 9)).alloc (.cells #[.string ⟨t.toArray⟩] 9))) := named_any base f q st mo xs us s _ hls D0.out
  have RF := mkHid (refuses_any base f q st mo xs us _ D0.out hr)
  have hbs := d.bs
  have hpb := mkHid d.pb
  have pf := d.pf
  have hfl := (d.pb f d.pf).2
  have D := mkHid d
  have SO := mkHid so
  have hcs : ((w.alloc (.cells #[.string ⟨s.toArray⟩] 9)).alloc (.cells #[.string ⟨t.toArray⟩] 9)).cell? ⟨w.heap.size, 0, none⟩ = some (.string ⟨s.toArray⟩) := (cell_of_block hs0 0).trans rfl
  have hct : ((w.alloc (.cells #[.string ⟨s.toArray⟩] 9)).alloc (.cells #[.string ⟨t.toArray⟩] 9)).cell? ⟨w.heap.size + 1, 0, none⟩ = some (.string ⟨t.toArray⟩) := (cell_of_block ht0 0).trans rfl
  have es1 := toListE s
  have et1 := toListE t
  clear d g1 g2 so hls hlt
  cases hok : nmOk t with
  | false =>
    rw [hok] at CB
    have EE : rnPE s t xs st = 6 := by unfold rnPE; rw [hok]; rfl
    have ES : stR s t xs st = st := by unfold stR; rw [hok]; rfl
    rw [EE, ES]
    clear EE ES RF NM
    go_enter Try.func36, Try.ntmps36
    go_wp2_with fail
    generalize (w.alloc (.cells #[.string ⟨s.toArray⟩] 9)).alloc (.cells #[.string ⟨t.toArray⟩] 9) = w1 at *
    refine (CB.out _).mono ?_
    rintro e wx ⟨rfl, hwx⟩; have hwx2 := hwx.symm; subst hwx2; clear hwx
    go_wp2_with fail
    go_ret
    exact ⟨rfl, RnQ.no (fun h => by simp at h) (D.out.same2 D0.out C0.out (fun _ e => e))⟩
  | true =>
    rw [hok] at CB
    rcases nm_cases s xs with ⟨e1, e2, e3⟩ | ⟨e1, e2, e3, e4⟩ | ⟨X, e1, e2, e3, e4⟩
    · rw [e1, e2] at NM
      have EE : rnPE s t xs st = 6 := by unfold rnPE; rw [hok, e1]; rfl
      have ES : stR s t xs st = st := by unfold stR; rw [hok, e1]; rfl
      rw [EE, ES]
      clear EE ES RF
      go_enter Try.func36, Try.ntmps36
      go_wp2_with fail
      generalize (w.alloc (.cells #[.string ⟨s.toArray⟩] 9)).alloc (.cells #[.string ⟨t.toArray⟩] 9) = w1 at *
      refine (CB.out _).mono ?_
      rintro e wx ⟨rfl, hwx⟩; have hwx2 := hwx.symm; subst hwx2; clear hwx
      go_wp2_with fail
      refine NM.out.mono ?_
      rintro e wx ⟨rfl, hwx⟩; have hwx2 := hwx.symm; subst hwx2; clear hwx
      go_wp2_with fail
      go_ret
      exact ⟨rfl, RnQ.no (fun h => by simp at h) (D.out.same2 D0.out C0.out (fun _ e => e))⟩
    · rw [e1, e2] at NM
      have EE : rnPE s t xs st = 40 := by unfold rnPE; rw [hok, e1]; rfl
      have ES : stR s t xs st = st := by unfold stR; rw [hok, e1]; rfl
      rw [EE, ES]
      clear EE ES RF
      go_enter Try.func36, Try.ntmps36
      go_wp2_with fail
      generalize (w.alloc (.cells #[.string ⟨s.toArray⟩] 9)).alloc (.cells #[.string ⟨t.toArray⟩] 9) = w1 at *
      refine (CB.out _).mono ?_
      rintro e wx ⟨rfl, hwx⟩; have hwx2 := hwx.symm; subst hwx2; clear hwx
      go_wp2_with fail
      refine NM.out.mono ?_
      rintro e wx ⟨rfl, hwx⟩; have hwx2 := hwx.symm; subst hwx2; clear hwx
      go_wp2_with fail
      go_ret
      exact ⟨rfl, RnQ.no (fun h => by simp at h) (D.out.same2 D0.out C0.out (fun _ e => e))⟩
    · rw [e1, e2] at NM
      have EE : rnPE s t xs st = if rfB st = true then 44 else 0 := by unfold rnPE; rw [hok, e1]; rfl
      have ES : stR s t xs st = rfS st := by unfold stR; rw [hok, e1]; rfl
      rw [EE, ES]
      clear EE ES e2
      have hmo : ∃ m, mo = some m := by
        cases mo with
        | none => have := (D.out.mn rfl).1; rw [this] at e4; cases e4
        | some m => exact ⟨m, rfl⟩
      obtain ⟨m, rfl⟩ := hmo
      have hsl : s.length ≤ maxLen := by have := nm_len e3; unfold maxLen; omega
      have htl : t.length ≤ maxLen := by have := nm_len hok; unfold maxLen; omega
      cases hB : rfB st with
      | true =>
        rw [hB] at RF
        rw [if_pos rfl]
        go_enter Try.func36, Try.ntmps36
        go_wp2_with fail
        generalize (w.alloc (.cells #[.string ⟨s.toArray⟩] 9)).alloc (.cells #[.string ⟨t.toArray⟩] 9) = w1 at *
        refine (CB.out _).mono ?_
        rintro e wx ⟨rfl, hwx⟩; have hwx2 := hwx.symm; subst hwx2; clear hwx
        go_wp2_with fail
        refine NM.out.mono ?_
        rintro e wx ⟨rfl, hwx⟩; have hwx2 := hwx.symm; subst hwx2; clear hwx
        go_wp2_with fail
        refine RF.out.mono ?_
        rintro e w4 ⟨rfl, d4, c4, s4⟩
        have C4 : Hid (Chg P w w4) := C0.out.trans (c4.mono (fun i _ e => by subst e; exact pf))
        go_wp2_with fail
        go_ret
        exact ⟨rfl, RnQ.no (fun h => by simp at h) (D.out.same2 d4 C4.out (fun _ e => e))⟩
      | false =>
        rw [hB] at RF
        rw [if_neg (by simp)]
        by_cases hst : s = t
        · subst hst
          have est : (s == s) = true := beq_self_eq_true s
          clear et1
          go_enter Try.func36, Try.ntmps36
          go_wp2_with fail
          generalize (w.alloc (.cells #[.string ⟨s.toArray⟩] 9)).alloc (.cells #[.string ⟨s.toArray⟩] 9) = w1 at *
          refine (CB.out _).mono ?_
          rintro e wx ⟨rfl, hwx⟩; have hwx2 := hwx.symm; subst hwx2; clear hwx
          go_wp2_with fail
          refine NM.out.mono ?_
          rintro e wx ⟨rfl, hwx⟩; have hwx2 := hwx.symm; subst hwx2; clear hwx
          go_wp2_with fail
          refine RF.out.mono ?_
          rintro e w4 ⟨rfl, d4, c4, s4⟩
          have C4 : Hid (Chg P w w4) := C0.out.trans (c4.mono (fun i _ e => by subst e; exact pf))
          have hs4 := c4.at_ hs0 (fun e => by have e : w.heap.size = f := e; omega)
          have ht4 := c4.at_ ht0 (fun e => by have e : w.heap.size + 1 = f := e; omega)
          have cs4 : w4.cell? ⟨w.heap.size, 0, none⟩ = some (.string ⟨s.toArray⟩) := (cell_of_block hs4 0).trans rfl
          have ct4 : w4.cell? ⟨w.heap.size + 1, 0, none⟩ = some (.string ⟨s.toArray⟩) := (cell_of_block ht4 0).trans rfl
          go_wp2_with fail
          go_ret
          exact ⟨rfl, RnQ.no (fun h => h.2 rfl) (D.out.same2 d4 C4.out (fun _ e => e))⟩
        · have est : (s == t) = false := by rw [beq_eq_false_iff_ne]; exact hst
          go_enter Try.func36, Try.ntmps36
          go_wp2_with fail
          generalize (w.alloc (.cells #[.string ⟨s.toArray⟩] 9)).alloc (.cells #[.string ⟨t.toArray⟩] 9) = w1 at *
          refine (CB.out _).mono ?_
          rintro e wx ⟨rfl, hwx⟩; have hwx2 := hwx.symm; subst hwx2; clear hwx
          go_wp2_with fail
          refine NM.out.mono ?_
          rintro e wx ⟨rfl, hwx⟩; have hwx2 := hwx.symm; subst hwx2; clear hwx
          go_wp2_with fail
          refine RF.out.mono ?_
          rintro e w4 ⟨rfl, d4, c4, s4⟩
          have C4 : Hid (Chg P w w4) := C0.out.trans (c4.mono (fun i _ e => by subst e; exact pf))
          have hs4 := c4.at_ hs0 (fun e => by have e : w.heap.size = f := e; omega)
          have ht4 := c4.at_ ht0 (fun e => by have e : w.heap.size + 1 = f := e; omega)
          have cs4 : w4.cell? ⟨w.heap.size, 0, none⟩ = some (.string ⟨s.toArray⟩) := (cell_of_block hs4 0).trans rfl
          have ct4 : w4.cell? ⟨w.heap.size + 1, 0, none⟩ = some (.string ⟨t.toArray⟩) := (cell_of_block ht4 0).trans rfl
          obtain ⟨ov, dp4⟩ := Dp.start d4 C4.out hbs hpb.out
          have sz4 : w.heap.size + 2 ≤ w4.heap.size := by omega
          obtain ⟨c0, c1, c2, c3, cf⟩ := dp4.fs.c
          have lk : ∀ w' : World, w'.heap[m]? = w4.heap[m]? → (Instr.lookup 64 (.map (some m)) (.string ⟨t.toArray⟩) false).run Try.prog w' = .ok (lookV (lookN t xs)) w' := fun w' hw => by
            have hm' : Mp w' m xs := by
              obtain ⟨es, clock, hb, F, hs, hD⟩ := dp4.mp
              exact ⟨es, clock, hw.trans hb, F, hs, hD⟩
            exact lookM hm' t htl
          obtain ⟨LV, hLV⟩ : ∃ LV, LV = lookV (lookN t xs) := ⟨_, rfl⟩
          obtain ⟨LP, hLP⟩ : ∃ LP, LV = .pointer LP := by rw [hLV]; cases lookN t xs <;> exact ⟨_, rfl⟩
          have hlost : Hid (lostV ((lookN t xs).map fun Y => (Y, j)) = .pointer LP) := by show _ = _; rw [lostV_look, ← hLV, hLP]
          rw [← hLV, hLP] at lk
          have gA : ∀ u : Value, w4.grownBy (w4.alloc (.cells #[u] 68)).drew none := fun u => by
            have h := World.grownBy_alloc w4 (.cells #[u] 68) none
            exact ⟨h.os, h.tape, h.output, h.size, h.block⟩
          have hmlt := World.ownsMap.lt dp4.mp
          have hS : ∀ u : Value, (fun w' : World => w'.cell? ⟨f, 1, none⟩ = some (.map (some m)) ∧ w'.cell? ⟨w.heap.size + 1, 0, none⟩ = some (.string ⟨t.toArray⟩) ∧ w'.heap[m]? = w4.heap[m]?) (w4.alloc (.cells #[u] 68)).drew := fun u => ⟨(gA u).cell c1 (by simp), (gA u).cell ct4 (by simp), (gA u).block m hmlt (by simp)⟩
          have hl5 : (w4.alloc (.cells #[.pointer LP] 68)).drew.heap[w4.heap.size]? = some (.cells #[.pointer LP] 68 (0, 0)) := heap_alloc_new _ _
          have dp5 := mkHid (dp4.grow (gA (.pointer LP)))
          have hs5 := (((gA (.pointer LP)).block _ (lt_of_heap hs4) (by simp)).trans hs4)
          have ht5 := (((gA (.pointer LP)).block _ (lt_of_heap ht4) (by simp)).trans ht4)
          have HS := mkHid hS
          have HL5 := mkHid hl5
          have HS5 := mkHid hs5
          have HT5 := mkHid ht5
          clear hS hl5 hs5 ht5 gA
          clear hLV hLP d4 c4 C4 c0 c2 c3 cf RF NM CB D0 C0 hs0 ht0 hcs hct sz0 s4 dp4 hs4 ht4 hmlt
          go_wp2_with fail
          refine wp_region_noPanic ?_
          refine wp_region_held_drew (S := fun w' => w'.cell? ⟨f, 1, none⟩ = some (.map (some m)) ∧ w'.cell? ⟨w.heap.size + 1, 0, none⟩ = some (.string ⟨t.toArray⟩) ∧ w'.heap[m]? = w4.heap[m]?) (by kernel_rfl) (⟨c1, ct4, rfl⟩) (fun hH => ?_)
          refine take_at (i := 0) (v := .pointer (some ⟨f, 0, none⟩)) rfl rfl (by kernel_rfl) (by kernel_rfl) (by kernel_rfl) (fun _ _ _ h => h) (Or.inl ⟨by rfl, ?_⟩) hH ?_
          · intro w5 hSw; obtain ⟨hv1, hv2, hv3⟩ := hSw; go_simp
          simp only [List.setIfInBounds_toArray, List.set_cons_zero, List.set_cons_succ]
          refine take_at (i := 1) (v := .pointer (some ⟨f, 0, none⟩)) rfl rfl (by kernel_rfl) (by kernel_rfl) (by kernel_rfl) (fun _ _ _ h => h) (Or.inl ⟨by rfl, ?_⟩) hH ?_
          · intro w5 hSw; obtain ⟨hv1, hv2, hv3⟩ := hSw; go_simp
          simp only [List.setIfInBounds_toArray, List.set_cons_zero, List.set_cons_succ]
          refine take_at (i := 2) (v := .pointer (some ⟨f, 1, none⟩)) rfl rfl (by kernel_rfl) (by kernel_rfl) (by kernel_rfl) (fun _ _ _ h => h) (Or.inl ⟨by rfl, ?_⟩) hH ?_
          · intro w5 hSw; obtain ⟨hv1, hv2, hv3⟩ := hSw; go_simp
          simp only [List.setIfInBounds_toArray, List.set_cons_zero, List.set_cons_succ]
          refine take_at (i := 3) (v := .map (some m)) rfl rfl (by kernel_rfl) (by kernel_rfl) (by kernel_rfl) (fun _ _ _ h => h) (Or.inl ⟨by rfl, ?_⟩) hH ?_
          · intro w5 hSw; obtain ⟨hv1, hv2, hv3⟩ := hSw; go_simp
          simp only [List.setIfInBounds_toArray, List.set_cons_zero, List.set_cons_succ]
          refine take_at (i := 4) (v := .string ⟨t.toArray⟩) rfl rfl (by kernel_rfl) (by kernel_rfl) (by kernel_rfl) (fun _ _ _ h => h) (Or.inl ⟨by rfl, ?_⟩) hH ?_
          · intro w5 hSw; obtain ⟨hv1, hv2, hv3⟩ := hSw; go_simp
          simp only [List.setIfInBounds_toArray, List.set_cons_zero, List.set_cons_succ]
          refine take_at (i := 5) (v := .pointer LP) rfl rfl (by kernel_rfl) (by kernel_rfl) (by kernel_rfl) (fun _ _ _ h => h) (Or.inl ⟨by rfl, ?_⟩) hH ?_
          · intro w5 hSw; obtain ⟨hv1, hv2, hv3⟩ := hSw; have lk5 := lk w5 hv3; go_simp
          simp only [List.setIfInBounds_toArray, List.set_cons_zero, List.set_cons_succ]
          refine wpAnyH_ready (rs := [6]) (by kernel_rfl) (by simp) ?_
          refine AllReadyH.cons rfl (fun K hK => ?_) AllReadyH.nil
          go_simp
          refine hK.out _ _ (HS.out _) (fun _ => ?_)
          clear hK K hH
          refine wpAnyH_ready (rs := [7]) (by kernel_rfl) (by simp) ?_
          refine AllReadyH.cons rfl (fun K hK => ?_) AllReadyH.nil
          go_simp
          refine hK.out _ _ (HS.out _) (fun _ => ?_)
          clear hK K
          refine wpAnyH_done (by kernel_rfl) ?_ _
          refine NoPanic.normal ?_
          have hs5 := HS5.out
          have ht5 := HT5.out
          have hl5 := HL5.out
          clear HS HS5 HT5 HL5 lk c1 ct4 cs4
          generalize (w4.alloc (.cells #[.pointer LP] 68)).drew = w5 at *
          obtain ⟨B, hB5⟩ : ∃ B, B = w4.heap.size := ⟨_, rfl⟩
          rw [← hB5] at hl5 sz4 ⊢
          clear hB5
          obtain ⟨w6, hrun6, dp6, c6⟩ := (dp5.out.grow (b := w5.drew) ⟨rfl, rfl, rfl, Nat.le_refl _, fun _ _ _ => rfl⟩).drop s hsl
          obtain ⟨es, ck, hmk⟩ := dp5.out.mp.kind
          have nm : ∀ {b : Nat} {cs : Array Value} {t : TypeId} {fr : Nat × Nat}, w5.heap[b]? = some (.cells cs t fr) → ¬ b = m := fun h e => by rw [e, hmk] at h; cases h
          have hs6 := c6.at_ (b := w.heap.size) hs5 (nm hs5)
          have ht6 := c6.at_ (b := w.heap.size + 1) ht5 (nm ht5)
          have hl6 := c6.at_ (b := B) hl5 (nm hl5)
          obtain ⟨w7, hrun7, dp7, c7⟩ := (dp6.grow (b := w6.drew) ⟨rfl, rfl, rfl, Nat.le_refl _, fun _ _ _ => rfl⟩).store t X htl (Nat.le_trans (len_del s xs) (by omega))
          obtain ⟨es6, ck6, hmk6⟩ := dp6.mp.kind
          have nm6 : ∀ {b : Nat} {cs : Array Value} {t : TypeId} {fr : Nat × Nat}, w6.heap[b]? = some (.cells cs t fr) → ¬ b = m := fun h e => by rw [e, hmk6] at h; cases h
          have hs7 := c7.at_ (b := w.heap.size) hs6 (nm6 hs6)
          have ht7 := c7.at_ (b := w.heap.size + 1) ht6 (nm6 ht6)
          have hl7 := c7.at_ (b := B) hl6 (nm6 hl6)
          obtain ⟨P8, C8, w8, hrun8, F8, dp8⟩ := dp7.push (.rn (w.heap.size + 1) w.heap.size B t s ((lookN t xs).map fun Y => (Y, j))) (.func (.func 71) #[] #[.pointer (some ⟨w.heap.size + 1, 0, none⟩), .pointer (some ⟨w.heap.size, 0, none⟩), .pointer (some ⟨B, 0, none⟩)]) rfl ⟨Or.inr (Nat.le_succ _), ht7, (fun y hy => by cases hy; exact ⟨Or.inr (Nat.le_refl _), hs7⟩), (fun z hz => by cases hz; exact ⟨Or.inr (by omega), by rw [hlost.out]; exact hl7⟩)⟩ (by omega) rfl
          obtain ⟨a0, a1, a2, a3, af⟩ := dp5.out.fs.c
          obtain ⟨b0, b1, b2, b3, bf⟩ := dp6.fs.c
          obtain ⟨d0, d1, d2, d3, df⟩ := dp7.fs.c
          obtain ⟨k0, k1, k2, k3, kf⟩ := F8.c
          have kf2 := kf 2
          have hw8 := lt_of_heap F8
          have xs5 : w5.cell? ⟨w.heap.size, 0, none⟩ = some (.string ⟨s.toArray⟩) := (cell_of_block hs5 0).trans rfl
          have xs6 : w6.cell? ⟨w.heap.size, 0, none⟩ = some (.string ⟨s.toArray⟩) := (cell_of_block hs6 0).trans rfl
          have xt6 : w6.cell? ⟨w.heap.size + 1, 0, none⟩ = some (.string ⟨t.toArray⟩) := (cell_of_block ht6 0).trans rfl
          have xt7 : w7.cell? ⟨w.heap.size + 1, 0, none⟩ = some (.string ⟨t.toArray⟩) := (cell_of_block ht7 0).trans rfl
          have fin := mkHid (dp8.done (List.Sublist.refl _) (rn_perm SO.out e4 hst))
          clear dp5 dp6 dp7 dp8 c6 c7 hs5 ht5 hl5 hs6 ht6 hl6 hs7 ht7 hl7 hmk hmk6 nm nm6 hlost F8 kf af bf df a0 a2 a3 b0 b2 b3 d0 d3 k0 k1 k3 sz4
          go_wp2_with fail
          refine wp_region_noPanic ?_
          refine wp_region_held_drew (S := fun w' => w'.cell? ⟨f, 1, none⟩ = some (.map (some m)) ∧ w'.cell? ⟨w.heap.size, 0, none⟩ = some (.string ⟨s.toArray⟩)) (by kernel_rfl) (⟨a1, xs5⟩) (fun hH => ?_)
          refine take_at (i := 0) (v := .pointer (some ⟨f, 0, none⟩)) rfl rfl (by kernel_rfl) (by kernel_rfl) (by kernel_rfl) (fun _ _ _ h => h) (Or.inl ⟨by rfl, ?_⟩) hH ?_
          · intro w5 hSw; obtain ⟨hv1, hv2⟩ := hSw; go_simp
          simp only [List.setIfInBounds_toArray, List.set_cons_zero, List.set_cons_succ]
          refine take_at (i := 1) (v := .pointer (some ⟨f, 0, none⟩)) rfl rfl (by kernel_rfl) (by kernel_rfl) (by kernel_rfl) (fun _ _ _ h => h) (Or.inl ⟨by rfl, ?_⟩) hH ?_
          · intro w5 hSw; obtain ⟨hv1, hv2⟩ := hSw; go_simp
          simp only [List.setIfInBounds_toArray, List.set_cons_zero, List.set_cons_succ]
          refine take_at (i := 2) (v := .pointer (some ⟨f, 1, none⟩)) rfl rfl (by kernel_rfl) (by kernel_rfl) (by kernel_rfl) (fun _ _ _ h => h) (Or.inl ⟨by rfl, ?_⟩) hH ?_
          · intro w5 hSw; obtain ⟨hv1, hv2⟩ := hSw; go_simp
          simp only [List.setIfInBounds_toArray, List.set_cons_zero, List.set_cons_succ]
          refine take_at (i := 3) (v := .map (some m)) rfl rfl (by kernel_rfl) (by kernel_rfl) (by kernel_rfl) (fun _ _ _ h => h) (Or.inl ⟨by rfl, ?_⟩) hH ?_
          · intro w5 hSw; obtain ⟨hv1, hv2⟩ := hSw; go_simp
          simp only [List.setIfInBounds_toArray, List.set_cons_zero, List.set_cons_succ]
          refine take_at (i := 4) (v := .string ⟨s.toArray⟩) rfl rfl (by kernel_rfl) (by kernel_rfl) (by kernel_rfl) (fun _ _ _ h => h) (Or.inl ⟨by rfl, ?_⟩) hH ?_
          · intro w5 hSw; obtain ⟨hv1, hv2⟩ := hSw; go_simp
          simp only [List.setIfInBounds_toArray, List.set_cons_zero, List.set_cons_succ]
          refine wpAnyH_ready (rs := [5]) (by kernel_rfl) (by simp) ?_
          refine AllReadyH.cons rfl (fun K hK => ?_) AllReadyH.nil
          go_simp
          refine hK.out _ _ ⟨b1, xs6⟩ (fun _ => ?_)
          clear hK K hH
          refine wpAnyH_done (by kernel_rfl) ?_ _
          refine NoPanic.normal ?_
          clear hrun6 a1 xs5
          go_wp2_with fail
          refine wp_region_noPanic ?_
          refine wp_region_held_drew (S := fun w' => w'.cell? ⟨f, 1, none⟩ = some (.map (some m)) ∧ w'.cell? ⟨w.heap.size + 1, 0, none⟩ = some (.string ⟨t.toArray⟩)) (by kernel_rfl) (⟨b1, xt6⟩) (fun hH => ?_)
          refine take_at (i := 0) (v := .pointer (some ⟨f, 0, none⟩)) rfl rfl (by kernel_rfl) (by kernel_rfl) (by kernel_rfl) (fun _ _ _ h => h) (Or.inl ⟨by rfl, ?_⟩) hH ?_
          · intro w5 hSw; obtain ⟨hv1, hv2⟩ := hSw; go_simp
          simp only [List.setIfInBounds_toArray, List.set_cons_zero, List.set_cons_succ]
          refine take_at (i := 1) (v := .pointer (some ⟨f, 0, none⟩)) rfl rfl (by kernel_rfl) (by kernel_rfl) (by kernel_rfl) (fun _ _ _ h => h) (Or.inl ⟨by rfl, ?_⟩) hH ?_
          · intro w5 hSw; obtain ⟨hv1, hv2⟩ := hSw; go_simp
          simp only [List.setIfInBounds_toArray, List.set_cons_zero, List.set_cons_succ]
          refine take_at (i := 2) (v := .pointer (some ⟨f, 1, none⟩)) rfl rfl (by kernel_rfl) (by kernel_rfl) (by kernel_rfl) (fun _ _ _ h => h) (Or.inl ⟨by rfl, ?_⟩) hH ?_
          · intro w5 hSw; obtain ⟨hv1, hv2⟩ := hSw; go_simp
          simp only [List.setIfInBounds_toArray, List.set_cons_zero, List.set_cons_succ]
          refine take_at (i := 3) (v := .map (some m)) rfl rfl (by kernel_rfl) (by kernel_rfl) (by kernel_rfl) (fun _ _ _ h => h) (Or.inl ⟨by rfl, ?_⟩) hH ?_
          · intro w5 hSw; obtain ⟨hv1, hv2⟩ := hSw; go_simp
          simp only [List.setIfInBounds_toArray, List.set_cons_zero, List.set_cons_succ]
          refine take_at (i := 4) (v := .string ⟨t.toArray⟩) rfl rfl (by kernel_rfl) (by kernel_rfl) (by kernel_rfl) (fun _ _ _ h => h) (Or.inl ⟨by rfl, ?_⟩) hH ?_
          · intro w5 hSw; obtain ⟨hv1, hv2⟩ := hSw; go_simp
          simp only [List.setIfInBounds_toArray, List.set_cons_zero, List.set_cons_succ]
          refine take_at (i := 5) (v := .pointer (some ⟨X.b, 0, none⟩)) rfl rfl (by kernel_rfl) (by kernel_rfl) (by kernel_rfl) (fun _ _ _ h => h) (Or.inl ⟨by rfl, ?_⟩) hH ?_
          · intro w5 hSw; obtain ⟨hv1, hv2⟩ := hSw; go_simp
          simp only [List.setIfInBounds_toArray, List.set_cons_zero, List.set_cons_succ]
          refine wpAnyH_ready (rs := [6]) (by kernel_rfl) (by simp) ?_
          refine AllReadyH.cons rfl (fun K hK => ?_) AllReadyH.nil
          go_simp
          refine hK.out _ _ ⟨d1, xt7⟩ (fun _ => ?_)
          clear hK K hH
          refine wpAnyH_done (by kernel_rfl) ?_ _
          refine NoPanic.normal ?_
          clear hrun7 b1 xt6
          go_wp2_with (at_builtin; refine list_app 65 rfl (.tmp 48) (.tmp 50) rfl rfl rfl hrun8 ?_)
          go_ret
          exact ⟨rfl, (show RnQ _ _ _ _ _ _ _ _ _ _ _ _ _ from ⟨some m, putN t X (delN s xs), us ++ [.rn (w.heap.size + 1) w.heap.size B t s ((lookN t xs).map fun Y => (Y, j))], by rw [if_pos ⟨rfl, hst⟩]; exact ⟨w.heap.size + 1, w.heap.size, B, X, e4, rfl, rfl⟩, fin.out⟩)⟩
end Go.Proofs.Ytdiehlioemmakaa
namespace Go.Proofs.Ytdiehlioemmakaa
open Go.RowKit Go.Maps Go.Joins Go.Sort

set_option maxHeartbeats 2000000 in
theorem List_any {P : Nat → Prop} (base f : Nat) (q st : Int) (mo : Option Nat) (xs : List (List UInt8 × Fl)) (us : List Ux) (w : World) (so : SrtN xs) (hl : xs.length ≤ 1000) (d : Dsk P w base f q st mo xs us) :
    Calls Try.prog 21 #[.pointer (some ⟨f, 0, none⟩)] w fun e w' => ∃ v, e = .returned v ∧ w'.ownsRow w.heap.size 9 1 v xs.length ((xs.map (·.1)).map encStr) ∧ w.grownBy w' none := by
  obtain ⟨ov, h1, h2, _⟩ := d.fs
  obtain ⟨c0, c1, c2, c3, cf⟩ := h1.c
  cases mo with
  | none =>
    obtain ⟨rfl, _⟩ := d.mn rfl
    clear h1 h2 c0 c2 c3 d so hl
    refine (callsIn_wide (n := 6)).1 ?_
    have hfK : Fence.wide.fn 57 := trivial
    have hfS : Fence.wide.fn 56 := trivial
    refine callsIn_of_wp Try.func21 rfl trivial ?_ rfl
    simp only [Try.ntmps21, List.size_toArray, List.length_cons, List.length_nil, Nat.reduceAdd, Nat.reduceSub, Array.replicate_succ, Array.replicate_zero, List.push_toArray, List.append_toArray, List.nil_append, List.cons_append]
    gi_wp2_with (first
      | (gi_at_call 57; refine (Try.maps_Keys_57 _ _).mono ?_; rintro e w' ⟨rfl, rfl⟩)
      | (gi_at_call 56; refine (Try.slices_Sorted_keys_nil_56_57 w).mono ?_; rintro e w' ⟨v, ss, rfl, hS, hrow, hnil, hb⟩))
    go_ret
    have hb2 : Below w.heap.size w w' := ((Below.refl _ w).alloc (Nat.le_refl _) _).trans (hb.mono (by simp))
    subst hS
    have e0 : ([] : List (List UInt8)).mergeSort (fun x y => decide (x ≤ y)) = [] := by simp
    rw [e0] at hrow
    exact ⟨v, rfl, ownsRow_base_a (base' := w.heap.size) (k := 0) (xs := []) hrow (by simp), ⟨hb2.os, hb2.tape, hb2.output, hb2.size, fun k hk _ => hb2.block k hk⟩⟩
  | some m =>
    have hm := (d.mp m rfl).2
    have hsz : Maps.size (DataW.map (xs.map ent)) = xs.length := by rw [Maps.size_eq, List.length_map]
    clear h1 h2 c0 c2 c3 d
    refine (callsIn_wide (n := 6)).1 ?_
    have hfK : Fence.wide.fn 57 := trivial
    have hfS : Fence.wide.fn 56 := trivial
    refine callsIn_of_wp Try.func21 rfl trivial ?_ rfl
    simp only [Try.ntmps21, List.size_toArray, List.length_cons, List.length_nil, Nat.reduceAdd, Nat.reduceSub, Array.replicate_succ, Array.replicate_zero, List.push_toArray, List.append_toArray, List.nil_append, List.cons_append]
    gi_wp2_with (first
      | (gi_at_call 57; refine (Try.maps_Keys_57 _ _).mono ?_; rintro e w' ⟨rfl, rfl⟩)
      | (gi_at_call 56; refine (Try.slices_Sorted_keys_56_57 m xs.length _ ptrR w hm (by rw [hsz]; unfold maxLen; omega) (by rw [hsz]; omega)).mono ?_; rintro e w' ⟨v, ss, rfl, hS, hrow, hnil, hb⟩))
    go_ret
    have hb2 : Below w.heap.size w w' := ((Below.refl _ w).alloc (Nat.le_refl _) _).trans (hb.mono (by simp))
    have hS2 : ss.Perm (xs.map (·.1)) := by
      have e : strKeys (DataW.map (xs.map ent)) = xs.map (·.1) := by
        show (xs.map ent).map (fun p => strOf p.1) = _
        rw [List.map_map]; rfl
      rw [← e]; exact hS
    have hlen : ss.length = xs.length := by rw [hS2.length_eq, List.length_map]
    rw [srt_sort so ss hS2, hlen] at hrow
    exact ⟨v, rfl, ownsRow_base_a hrow (by simp), ⟨hb2.os, hb2.tape, hb2.output, hb2.size, fun k hk _ => hb2.block k hk⟩⟩
theorem Chg.drewN {P : Nat → Prop} {a b : World} (h : Chg P a b) (n : Nat) : Chg P a (b.drewN n) := ⟨h.os, h.tape, h.output, h.size, h.block⟩
theorem Dp.files {P : Nat → Prop} {w a : World} {base f m : Nat} {q st : Int} {ov : Value} {ys : List (List UInt8 × Fl)} {us : List Ux} {Ls : List Fl} {Ms Ns : List Fl} (d : Dp P w a base f q st m ov ys us Ls) (hs : Ms.Sublist Ls) (hp : Ms.Perm Ns) : Dp P w a base f q st m ov ys us Ns :=
  ⟨d.bs, d.pb, d.ch, d.pf, d.fs, d.row, d.po, d.pm, d.mp, (d.fl.sub hs).perm hp, fun x hx => d.pl x (hs.subset (hp.mem_iff.2 hx)), d.un⟩
set_option maxHeartbeats 8000000 in
set_option maxRecDepth 1000000 in
theorem gives {P : Nat → Prop} {w a : World} {base f m : Nat} {q st : Int} {ov : Value} {ys : List (List UInt8 × Fl)} {us : List Ux} {Ls : List Fl} (d : Dp P w a base f q st m ov ys us Ls) (n : List UInt8) (X : Fl) (hn : n.length ≤ maxLen) (hy : ys.length ≤ 1000000) (okX : FlOk a base X) :
    Calls Try.prog 72 #[.map (some m), .string ⟨n.toArray⟩, .pointer (some ⟨X.b, 0, none⟩)] a fun e b => e = .returned (.tuple #[]) ∧ (∃ Y, Y.l = X.l ∧ Y.k = X.k ∧ Dp P w b base f q st m ov (putN n Y ys) us (Y :: Ls)) ∧ Chg (fun i => i = m) a b := by
  have hab : base ≤ a.heap.size := Nat.le_trans d.bs d.ch.size
  have CO : Hid (Calls Try.prog 27 #[.pointer (some ⟨X.b, 0, none⟩)] a fun e w' => ∃ b v, e = .returned (.pointer (some ⟨b, 0, none⟩)) ∧ a.heap.size ≤ b ∧ FlOk w' base ⟨b, v, X.l, X.k⟩ ∧ (∀ g, v.ownBlock = some g → a.heap.size ≤ g) ∧ a.grownBy w' none) := copied_ok base X a okX hab
  have D := mkHid d
  clear okX d
  go_enter Try.func72, Try.ntmps72
  go_wp2_with fail
  refine CO.out.mono ?_
  rintro e w2 ⟨b, v, rfl, hbb, okY, hv, hg2⟩
  have hsz := D.out.ch.size
  have d2 := (D.out.grow hg2).addf (Y := ⟨b, v, X.l, X.k⟩) okY (Or.inr (by show w.heap.size ≤ b; omega)) (fun g hg => Or.inr (by have := hv g hg; omega)) (fun x hx e => by
    have := lt_of_heap (D.out.fl.ok x hx).at_
    have e : x.b = b := e
    omega) (fun x hx g hg e => by
    obtain ⟨cs, hk⟩ := own_kind (D.out.fl.ok x hx).row g hg
    have := lt_of_heap hk
    have := hv g e
    omega)
  obtain ⟨w3, hrun, d3, c3⟩ := d2.store n ⟨b, v, X.l, X.k⟩ hn hy
  have c13 : Hid (Chg (fun i => i = m) a w3) := (Chg.of_none hg2 _).trans c3
  have D3 := mkHid d3
  clear d2 d3 c3 okY hg2 hv
  go_wp2_with fail
  go_end0
  exact ⟨rfl, ⟨⟨b, v, X.l, X.k⟩, rfl, rfl, D3.out⟩, c13.out⟩
set_option maxHeartbeats 8000000 in
set_option maxRecDepth 1000000 in
theorem gives_no (m : Nat) (n : List UInt8) (a : World) :
    Calls Try.prog 72 #[.map (some m), .string ⟨n.toArray⟩, .pointer none] a fun e b => e = .returned (.tuple #[]) ∧ b = a := by
  go_enter Try.func72, Try.ntmps72
  go_wp2_with fail
  go_end0
  exact ⟨rfl, rfl⟩
set_option maxHeartbeats 8000000 in
set_option maxRecDepth 1000000 in
theorem undoCr {P : Nat → Prop} {w a : World} {base f m : Nat} {q st : Int} {ov : Value} {ys : List (List UInt8 × Fl)} {us : List Ux} {Ls : List Fl} (d : Dp P w a base f q st m ov ys us Ls) (c : Nat) (n : List UInt8) (hu : (Ux.cr c n).ok (newer P w) a) (hn : n.length ≤ maxLen) :
    Calls Try.prog 63 #[.map (some m), .pointer (some ⟨c, 0, none⟩)] a fun e b => e = .returned (.tuple #[]) ∧ Dp P w b base f q st m ov (delN n ys) us Ls ∧ Chg (fun i => i = m) a b := by
  have cn : a.cell? ⟨c, 0, none⟩ = some (.string ⟨n.toArray⟩) := (cell_of_block hu.c 0).trans rfl
  obtain ⟨b, hrun, d2, c2⟩ := d.drop n hn
  have E := mkHid (And.intro d2 c2)
  clear d d2 c2 hu
  go_enter Try.func63, Try.ntmps63
  go_wp2_with fail
  go_end0
  exact ⟨rfl, E.out⟩
set_option maxHeartbeats 8000000 in
set_option maxRecDepth 1000000 in
theorem undoRm {P : Nat → Prop} {w a : World} {base f m : Nat} {q st : Int} {ov : Value} {ys : List (List UInt8 × Fl)} {us : List Ux} {Ls : List Fl} (d : Dp P w a base f q st m ov ys us Ls) (c cl : Nat) (n : List UInt8) (X : Fl) (j : Nat) (hu : (Ux.rm c cl n (X, j)).ok (newer P w) a) (hn : n.length ≤ maxLen) (hy : ys.length ≤ 1000000) (okX : FlOk a base X) :
    Calls Try.prog 73 #[.map (some m), .pointer (some ⟨c, 0, none⟩), .pointer (some ⟨cl, 0, none⟩)] a fun e b => e = .returned (.tuple #[]) ∧ (∃ Y, Y.l = X.l ∧ Y.k = X.k ∧ Dp P w b base f q st m ov (putN n Y ys) us (Y :: Ls)) ∧ Chg (fun i => i = m) a b := by
  have cn : a.cell? ⟨c, 0, none⟩ = some (.string ⟨n.toArray⟩) := (cell_of_block hu.c 0).trans rfl
  have cl0 : a.cell? ⟨cl, 0, none⟩ = some (.pointer (some ⟨X.b, 0, none⟩)) := (cell_of_block (hu.l _ rfl).2 0).trans rfl
  have GB := mkHid (gives d n X hn hy okX)
  clear d okX hu
  go_enter Try.func73, Try.ntmps73
  go_wp2_with fail
  refine GB.out.mono ?_
  rintro e b ⟨rfl, h1, h2⟩
  go_wp2_with fail
  go_end0
  exact ⟨rfl, h1, h2⟩
/-- behind a Rename that is taken back -/
def rnD (P : Nat → Prop) (w b : World) (base f : Nat) (q st : Int) (m : Nat) (ov : Value) (ys : List (List UInt8 × Fl)) (us : List Ux) (Ls : List Fl) (t s : List UInt8) (Z : Fl) : Option (Fl × Nat) → Prop
  | none => Dp P w b base f q st m ov (delN t (putN s Z ys)) us Ls
  | some X => ∃ Y, Y.l = X.1.l ∧ Y.k = X.1.k ∧ Dp P w b base f q st m ov (putN t Y (delN t (putN s Z ys))) us (Y :: Ls)
set_option maxHeartbeats 8000000 in
set_option maxRecDepth 1000000 in
theorem undoRn {P : Nat → Prop} {w a : World} {base f m : Nat} {q st : Int} {ov : Value} {ys : List (List UInt8 × Fl)} {us : List Ux} {Ls : List Fl} (d : Dp P w a base f q st m ov ys us Ls) (ct cf cl : Nat) (t s : List UInt8) (x : Option (Fl × Nat)) (Z : Fl) (hu : (Ux.rn ct cf cl t s x).ok (newer P w) a) (ht : t.length ≤ maxLen) (hs : s.length ≤ maxLen) (hy : ys.length ≤ 100000) (okX : ∀ X, x = some X → FlOk a base X.1) (hZ : lookN t ys = some Z) :
    Calls Try.prog 71 #[.map (some m), .pointer (some ⟨ct, 0, none⟩), .pointer (some ⟨cf, 0, none⟩), .pointer (some ⟨cl, 0, none⟩)] a fun e b => e = .returned (.tuple #[]) ∧ rnD P w b base f q st m ov ys us Ls t s Z x ∧ Chg (fun i => i = m) a b := by
  have c1 : a.cell? ⟨ct, 0, none⟩ = some (.string ⟨t.toArray⟩) := (cell_of_block hu.c 0).trans rfl
  have c2 : a.cell? ⟨cf, 0, none⟩ = some (.string ⟨s.toArray⟩) := (cell_of_block (hu.r _ rfl).2 0).trans rfl
  have bt : a.heap[ct]? = some (.cells #[.string ⟨t.toArray⟩] 9 (0, 0)) := hu.c
  have bl : a.heap[cl]? = some (.cells #[lostV x] 68 (0, 0)) := (hu.l _ rfl).2
  have lk := d.look t ht
  rw [hZ] at lk
  unfold lookV at lk
  obtain ⟨es, ck, hmk⟩ := d.mp.kind
  have nm : ∀ {b : Nat} {cs : Array Value} {t : TypeId} {fr : Nat × Nat}, a.heap[b]? = some (.cells cs t fr) → ¬ b = m := fun h e => by rw [e, hmk] at h; cases h
  obtain ⟨w1, hrun1, d1, ch1⟩ := d.store s Z hs (by omega)
  obtain ⟨w2, hrun2, d2, ch2⟩ := d1.drop t ht
  have ch12 := ch1.trans ch2
  have x1 : w1.cell? ⟨ct, 0, none⟩ = some (.string ⟨t.toArray⟩) := (cell_of_block (ch1.at_ bt (nm bt)) 0).trans rfl
  have x2 : w2.cell? ⟨ct, 0, none⟩ = some (.string ⟨t.toArray⟩) := (cell_of_block (ch12.at_ bt (nm bt)) 0).trans rfl
  have l2 : w2.cell? ⟨cl, 0, none⟩ = some (lostV x) := (cell_of_block (ch12.at_ bl (nm bl)) 0).trans rfl
  have ylen : (delN t (putN s Z ys)).length ≤ 1000000 := by
    have h1 := len_del t (putN s Z ys)
    have h2 := (put_perm s Z ys).length_eq
    have h3 := len_del s ys
    simp at h2
    omega
  have okX2 : ∀ X, x = some X → FlOk w2 base X.1 := fun X hX => ch12.file (okX X hX) (nm (okX X hX).at_) (fun g hg => by obtain ⟨cs, hk⟩ := own_kind (okX X hX).row g hg; exact nm hk)
  have CH := mkHid ch12
  have D2 := mkHid d2
  have OK := mkHid okX2
  clear d d1 d2 ch1 ch2 ch12 hu bt bl nm hmk okX okX2 hZ hy
  cases x with
  | none =>
    have GB := mkHid (gives_no m t w2)
    have l2 : w2.cell? ⟨cl, 0, none⟩ = some (.pointer none) := l2
    go_enter Try.func71, Try.ntmps71
    go_wp2_with fail
    refine GB.out.mono ?_
    rintro e b ⟨rfl, hb⟩; have hb2 := hb.symm; subst hb2; clear hb
    go_wp2_with fail
    go_end0
    exact ⟨rfl, D2.out, CH.out⟩
  | some X =>
    have GB := mkHid (gives D2.out t X.1 ht ylen (OK.out X rfl))
    have l2 : w2.cell? ⟨cl, 0, none⟩ = some (.pointer (some ⟨X.1.b, 0, none⟩)) := l2
    go_enter Try.func71, Try.ntmps71
    go_wp2_with fail
    refine GB.out.mono ?_
    rintro e b ⟨rfl, h1, h2⟩
    have H1 := mkHid h1
    have H2 := mkHid (CH.out.trans h2)
    clear h1 h2
    go_wp2_with fail
    go_end0
    exact ⟨rfl, H1.out, H2.out⟩
end Go.Proofs.Ytdiehlioemmakaa
namespace Go.Proofs.Ytdiehlioemmakaa
open Go.RowKit Go.Maps Go.Joins Go.Sort

/-- what stood ahead of a change of names, out of what stands behind it -/
def UnA (u : Ux) (b a : List (List UInt8 × (List UInt8 × Nat))) : Prop :=
  (∃ c n, u = .cr c n ∧ n.length ≤ 64 ∧ a = delN n b) ∨
  (∃ c cl n X j, u = .rm c cl n (X, j) ∧ n.length ≤ 64 ∧ a = putN n (X.l, X.k) b) ∨
  (∃ ct cf cl t s x z, u = .rn ct cf cl t s x ∧ t.length ≤ 64 ∧ s.length ≤ 64 ∧ s ≠ t ∧ lookN t b = some z ∧ a = (match x with | none => delN t (putN s z b) | some X => putN t (X.1.l, X.1.k) (delN t (putN s z b))))
/-- the disk under way, its files being those of its map -/
structure Lp (P : Nat → Prop) (w a : World) (base f : Nat) (q st : Int) (m : Nat) (ov : Value) (ys : List (List UInt8 × Fl)) (us : List Ux) : Prop where
  d : Dp P w a base f q st m ov ys us (ys.map (·.2))
  l : ∀ u ∈ us, ∀ X ∈ u.lost, FlOk a base X
theorem Lp.grow {P : Nat → Prop} {w a b : World} {base f m : Nat} {q st : Int} {ov : Value} {ys : List (List UInt8 × Fl)} {us : List Ux} (h : Lp P w a base f q st m ov ys us) (hg : a.grownBy b none) : Lp P w b base f q st m ov ys us := by
  refine ⟨h.d.grow hg, fun u hu X hX => ?_⟩
  exact (Chg.of_none hg (fun _ => False)).file (h.l u hu X hX) id (fun _ _ e => e)
theorem lost_kept {P : Nat → Prop} {w a b : World} {base f m : Nat} {q st : Int} {ov : Value} {ys : List (List UInt8 × Fl)} {us : List Ux} (h : Lp P w a base f q st m ov ys us) (hc : Chg (fun i => i = m) a b) : ∀ u ∈ us, ∀ X ∈ u.lost, FlOk b base X := by
  obtain ⟨es, ck, hmk⟩ := h.d.mp.kind
  have nm : ∀ {b : Nat} {cs : Array Value} {t : TypeId} {fr : Nat × Nat}, a.heap[b]? = some (.cells cs t fr) → ¬ b = m := fun h e => by rw [e, hmk] at h; cases h
  intro u hu X hX
  have ok := h.l u hu X hX
  exact hc.file ok (nm ok.at_) (fun g hg => by obtain ⟨cs, hk⟩ := own_kind ok.row g hg; exact nm hk)
theorem abs_len (xs : List (List UInt8 × Fl)) : (absX xs).length = xs.length := List.length_map _
theorem abs_srt {xs : List (List UInt8 × Fl)} : SrtN (absX xs) ↔ SrtN xs := srt_map (fun X : Fl => (X.l, X.k))
theorem del_put_ne {α : Type} {s t : List UInt8} {Z : α} {ys : List (List UInt8 × α)} (hst : s ≠ t) : (delN t (putN s Z ys)).Perm ((s, Z) :: delN t (delN s ys)) := by
  have h := (put_perm s Z ys).filter (fun p => !(p.1 == t))
  have e : ((s, Z) :: delN s ys).filter (fun p => !(p.1 == t)) = (s, Z) :: delN t (delN s ys) := by
    rw [List.filter_cons, if_pos (by simp [hst])]; rfl
  rw [e] at h
  exact h
/-- the files behind a Rename that is taken back -/
theorem rn_files {s t : List UInt8} {Z : Fl} {ys : List (List UInt8 × Fl)} (so : SrtN ys) (hst : s ≠ t) (hZ : lookN t ys = some Z) : ∃ Ls Ms : List Fl, (ys.map (·.2)).Perm Ls ∧ Ms.Sublist Ls ∧ Ms.Perm ((delN t (putN s Z ys)).map (·.2)) := by
  refine ⟨((t, Z) :: delN t ys).map (·.2), ((s, Z) :: delN t (delN s ys)).map (·.2), (del_perm so hZ).map _, ?_, ((del_put_ne hst).map _).symm⟩
  simp only [List.map_cons]
  refine List.Sublist.cons_cons _ (List.Sublist.map _ ?_)
  have e : delN t (delN s ys) = delN s (delN t ys) := by unfold delN; rw [List.filter_filter, List.filter_filter]; congr 1; funext p; rw [Bool.and_comm]
  rw [e]
  exact List.filter_sublist
/-- the call of a closure that takes a change back -/
def callUx (m : Nat) (w : World) (R : Ending → World → Prop) (u : Ux) : Prop :=
  match u.r, u.l with
  | none, some z => Calls Try.prog 73 #[.map (some m), .pointer (some ⟨u.c, 0, none⟩), .pointer (some ⟨z.1, 0, none⟩)] w R
  | some y, some z => Calls Try.prog 71 #[.map (some m), .pointer (some ⟨u.c, 0, none⟩), .pointer (some ⟨y.1, 0, none⟩), .pointer (some ⟨z.1, 0, none⟩)] w R
  | _, none => Calls Try.prog 63 #[.map (some m), .pointer (some ⟨u.c, 0, none⟩)] w R
theorem undo_step {P : Nat → Prop} {w a : World} {base f m : Nat} {q st : Int} {ov : Value} {ys : List (List UInt8 × Fl)} {us : List Ux} (h : Lp P w a base f q st m ov ys us) {u : Ux} {A : List (List UInt8 × (List UInt8 × Nat))} (hu : u ∈ us) (hU : UnA u (absX ys) A) (so : SrtN ys) (hy : ys.length ≤ 1000) :
    callUx m a (fun e b => e = .returned (.tuple #[]) ∧ (∃ ys', absX ys' = A ∧ Lp P w b base f q st m ov ys' us) ∧ Chg (fun i => i = m) a b) u := by
  have huk := h.d.un u hu
  have hl := h.l u hu
  rcases hU with ⟨c, n, rfl, hn, rfl⟩ | ⟨c, cl, n, X, j, rfl, hn, rfl⟩ | ⟨ct, cf, cl, t, s, x, z, rfl, ht, hs, hst, hz, hA⟩
  · refine (undoCr h.d c n huk (by unfold maxLen; omega)).mono ?_
    rintro e b ⟨rfl, d2, c2⟩
    refine ⟨rfl, ⟨delN n ys, abs_del n ys, d2.files (Ms := (delN n ys).map (·.2)) (List.Sublist.map _ List.filter_sublist) (List.Perm.refl _), lost_kept h c2⟩, c2⟩
  · have okX : FlOk a base X := hl X (by simp [Ux.lost, Ux.rm, lostF])
    refine (undoRm h.d c cl n X j huk (by unfold maxLen; omega) (by omega) okX).mono ?_
    rintro e b ⟨rfl, ⟨Y, e1, e2, d2⟩, c2⟩
    refine ⟨rfl, ⟨putN n Y ys, by rw [abs_put, e1, e2], d2.files (Ms := Y :: (delN n ys).map (·.2)) (List.Sublist.cons_cons _ (List.Sublist.map _ List.filter_sublist)) ?_, lost_kept h c2⟩, c2⟩
    exact ((put_perm n Y ys).map (·.2)).symm
  · rw [abs_look] at hz
    cases hZ : lookN t ys with
    | none => rw [hZ] at hz; cases hz
    | some Z =>
      rw [hZ] at hz
      simp only [Option.map_some, Option.some.injEq] at hz
      subst hz
      have okX : ∀ X, x = some X → FlOk a base X.1 := fun X hX => hl X.1 (by rw [hX]; simp [Ux.lost, Ux.rn, lostF])
      refine (undoRn h.d ct cf cl t s x Z huk (by unfold maxLen; omega) (by unfold maxLen; omega) (by omega) okX hZ).mono ?_
      rintro e b ⟨rfl, h2, c2⟩
      obtain ⟨Ls, Ms, p1, p2, p3⟩ := rn_files so hst hZ
      cases x with
      | none =>
        have d2 : Dp P w b base f q st m ov (delN t (putN s Z ys)) us (ys.map (·.2)) := h2
        refine ⟨rfl, ⟨delN t (putN s Z ys), by rw [abs_del, abs_put]; exact hA.symm, (d2.files (List.Sublist.refl _) p1).files p2 p3, lost_kept h c2⟩, c2⟩
      | some X =>
        obtain ⟨Y, e1, e2, d2⟩ := h2
        refine ⟨rfl, ⟨putN t Y (delN t (putN s Z ys)), by rw [abs_put, abs_del, abs_put, e1, e2]; exact hA.symm, ((d2.files (List.Sublist.refl _) (p1.cons Y)).files (p2.cons_cons Y) (p3.cons Y)).files (List.Sublist.refl _) ?_, lost_kept h c2⟩, c2⟩
        have h3 := ((put_perm t Y (delN t (putN s Z ys))).map (·.2)).symm
        rw [del_del] at h3
        exact h3
/-- the open changes are forgotten -/
theorem Lp.clear {P : Nat → Prop} {w a : World} {base f m : Nat} {q st : Int} {ov : Value} {ys : List (List UInt8 × Fl)} {us : List Ux} (h : Lp P w a base f q st m ov ys us) : Dsk (ext P w (a.setCell ⟨f, 2, none⟩ (.slice none 0 0))) (a.setCell ⟨f, 2, none⟩ (.slice none 0 0)) base f q st (some m) ys [] ∧ Chg P w (a.setCell ⟨f, 2, none⟩ (.slice none 0 0)) := by
  have d := h.d
  have c5 : Chg (fun i => i = f) a (a.setCell ⟨f, 2, none⟩ (.slice none 0 0)) := Keep.set a f 2 _
  have h1 := d.fs
  have kf : ∀ i, i = f → ∃ cs, a.heap[i]? = some (.cells cs 67 (0, 0)) := fun i e => by subst e; exact ⟨_, h1⟩
  have d2 : Dp P w (a.setCell ⟨f, 2, none⟩ (.slice none 0 0)) base f q st m (.slice none 0 0) ys [] (ys.map (·.2)) := by
    refine ⟨d.bs, d.pb, d.ch.step c5 (fun i e => by subst e; exact Or.inl d.pf), d.pf, (block_setCell h1 _).trans rfl, World.ownsRow_nil _ _ _ _, (fun g hg => by cases hg), d.pm, c5.map d.mp (fun e => ?_), c5.files d.fl (fun r e => ?_), d.pl, fun u hu => by simp at hu⟩
    · obtain ⟨cs, hk⟩ := kf _ e
      obtain ⟨es, c, hk'⟩ := d.mp.kind
      rw [hk'] at hk; cases hk
    · obtain ⟨cs, hk⟩ := kf _ e
      exact other_cells hk (by decide) (by decide)
  exact d2.done (List.Sublist.refl _) (by simp)
set_option maxHeartbeats 8000000 in
set_option maxRecDepth 1000000 in
theorem loseNames_any {P : Nat → Prop} (base f : Nat) (q st : Int) (mo : Option Nat) (xs : List (List UInt8 × Fl)) (us : List Ux) (names : Int) (W : Nat → List (List UInt8 × (List UInt8 × Nat))) (w : World) (hn : -9223372036854775808 ≤ names ∧ names ≤ 9223372036854775807) (hus : us.length ≤ 9000000) (hW0 : absX xs = W us.length) (hW : ∀ j u, us[j]? = some u → UnA u (W (j + 1)) (W j)) (hWs : ∀ j, j ≤ us.length → SrtN (W j) ∧ (W j).length ≤ 1000) (d : Dsk P w base f q st mo xs us) :
    Calls Try.prog 54 #[.pointer (some ⟨f, 0, none⟩), .int .i64 names] w fun e w' => e = .returned (.tuple #[]) ∧ ∃ xs', absX xs' = W (kp names us.length) ∧ Dsk (ext P w w') w' base f q st mo xs' [] ∧ Chg P w w' := by
  obtain ⟨k, hk⟩ : ∃ k, k = kp names us.length := ⟨_, rfl⟩
  have hkl : k ≤ us.length := by rw [hk]; unfold kp; have := Nat.mod_lt (max 0 names).toNat (show 0 < us.length + 1 by omega); omega
  have KP : Hid (∀ w, Calls Try.prog 74 #[.int .i64 names, .int .i64 (us.length : Int)] w fun e w' => e = .returned (.int .i64 (k : Int)) ∧ w' = w) := fun w => hk ▸ kept_any names us.length w hn (by omega)
  rw [← hk]
  clear hk hn
  cases mo with
  | none =>
    obtain ⟨rfl, rfl⟩ := d.mn rfl
    obtain rfl : k = 0 := by simp at hkl; exact hkl
    obtain ⟨ov, h1, h2, h3⟩ := d.fs
    obtain ⟨Po, Co, rfl⟩ := row_form h2
    obtain ⟨c0, c1, c2, c3, cf⟩ := h1.c
    have hc5 : Chg (fun i => i = f) w (w.setCell ⟨f, 2, none⟩ (.slice none 0 0)) := Keep.set w f 2 _
    have E := mkHid (d.same2 (d.own (us' := []) hc5 ((block_setCell h1 _).trans rfl) (World.ownsRow_nil _ _ _ _) (fun g hg => by cases hg) (List.nil_sublist _)) hc5 (fun i e => by subst e; exact d.pf))
    have HW0 := mkHid hW0
    clear d h1 h2 h3 hc5 hW hWs hW0 c0 c1 c3 hkl hus
    simp only [List.length_nil] at KP c2
    go_enter Try.func54, Try.ntmps54
    go_wp2_with fail
    go_loopw [4] (fun s4 wr => s4 = .int .i64 (-1) ∧ wr = w) (fun _ _ => 0)
    case atStart => exact ⟨rfl, rfl⟩
    case round =>
      obtain ⟨rfl, hwr⟩ := hrel
      have hwr2 := hwr.symm; subst hwr2; clear hwr
      go_wp2_with fail
      refine (KP.out _).mono ?_
      rintro e wx ⟨rfl, hwx⟩; have hwx2 := hwx.symm; subst hwx2; clear hwx
      go_wp2_with fail
      go_end0
      exact ⟨rfl, [], HW0.out, E.out⟩
  | some m =>
    obtain ⟨ov, dp⟩ := Dp.start d (Chg.refl P w) d.bs d.pb
    have LP : Hid (Lp P w w base f q st m ov xs us) := ⟨dp.files (List.sublist_append_left _ _) (List.Perm.refl _), fun u hu X hX => dp.fl.ok X (by rw [List.mem_append, List.mem_flatMap]; exact Or.inr ⟨u, hu, hX⟩)⟩
    have HW0 := mkHid hW0
    have HW := mkHid hW
    have HWS := mkHid hWs
    have h2 := dp.row
    obtain ⟨Po, Co, rfl⟩ := row_form h2
    obtain ⟨c0, c1, c2, c3, cf⟩ := dp.fs.c
    have hrow : Hid (∀ i u, us[i]? = some u → ∃ g, Po = some ⟨g, 0, none⟩) := fun i u hu => by
      rcases h2.2 with ⟨e, h0⟩ | ⟨g, cap, cur, e, _⟩
      · have := (List.getElem?_eq_some_iff.1 hu).1; exfalso; omega
      · cases e; exact ⟨g, rfl⟩
    clear d dp h2 hW hWs hW0 c0 c1 c3
    go_enter Try.func54, Try.ntmps54
    go_wp2_with fail
    go_loopw [4] (fun s4 wr => ∃ (j : Nat) (ys : List (List UInt8 × Fl)), s4 = .int .i64 ((j : Int) - 1) ∧ j ≤ us.length ∧ k ≤ j ∧ Hid (absX ys = W j) ∧ Hid (Lp P w wr base f q st m (.slice Po us.length Co) ys us)) (fun s4 _ => (intOf s4 + 1).toNat)
    case atStart => exact ⟨us.length, xs, by first | rfl | (congr 1; omega), Nat.le_refl _, hkl, HW0, LP⟩
    case round =>
      obtain ⟨j, ys, rfl, hj, hkj, AJ, LJ⟩ := hrel
      have h1 := LJ.out.d.fs
      have h2 := LJ.out.d.row
      obtain ⟨c0, c1, c2, c3, cf⟩ := h1.c
      by_cases hgo : k < j
      · obtain ⟨i, rfl⟩ : ∃ i, j = i + 1 := ⟨j - 1, by omega⟩
        have ei : ((i + 1 : Nat) : Int) - 1 = (i : Int) := by omega
        rw [ei]
        have hki : (k : Int) ≤ (i : Int) := by omega
        obtain ⟨u, hu⟩ : ∃ u, us[i]? = some u := ⟨us[i], List.getElem?_eq_getElem (by omega)⟩
        have hil : (i : Int) < (us.length : Int) := by omega
        obtain ⟨g, hg⟩ := hrow.out i u hu
        subst hg
        have cu : wr.cell? ⟨g, i, none⟩ = some u.val := by
          rw [World.ownsRow.cellAt h2 i (by omega), List.getElem?_map, hu]; rfl
        have hUA := HW.out i u hu
        rw [← AJ.out] at hUA
        have hso := HWS.out (i + 1) hj
        rw [← AJ.out, abs_srt, abs_len] at hso
        have CU := undo_step (LJ.out.grow (b := wr.drew) ⟨rfl, rfl, rfl, Nat.le_refl _, fun _ _ _ => rfl⟩) (List.mem_of_getElem? hu) hUA hso.1 hso.2
        obtain ⟨es, ck, hmk⟩ := LJ.out.d.mp.kind
        have nmc : ∀ {b o : Nat} {x : Value}, wr.cell? ⟨b, o, none⟩ = some x → ¬ b = m := fun {b o x} h e => by subst e; unfold World.cell? at h; simp only at h; rw [hmk] at h; cases h
        clear h1 h2 c0 c3 hso LJ AJ
        go_wp2_with fail
        refine (KP.out _).mono ?_
        rintro e wx ⟨rfl, hwx⟩; have hwx2 := hwx.symm; subst hwx2; clear hwx
        go_wp2_with fail
        refine wp_region_noPanic ?_
        rcases hUA with ⟨c, n, rfl, _, _⟩ | ⟨c, cl, n, X, jj, rfl, _, _⟩ | ⟨ct, cf', cl, t, s, x, z, rfl, _, _, _, _, _⟩
        · replace cu : wr.cell? ⟨g, i, none⟩ = some (.func (.func 63) #[] #[.pointer (some ⟨c, 0, none⟩)]) := cu
          have CU2 : Hid (Calls Try.prog 63 #[.map (some m), .pointer (some ⟨c, 0, none⟩)] wr.drew (fun e b => e = .returned (.tuple #[]) ∧ (∃ ys', absX ys' = W i ∧ Lp P w b base f q st m (.slice (some ⟨g, 0, none⟩) us.length Co) ys' us) ∧ Chg (fun i => i = m) wr.drew b)) := CU
          clear CU
          refine wp_region_held_drew (S := fun w' => w'.cell? ⟨f, 2, none⟩ = some (.slice (some ⟨g, 0, none⟩) us.length Co) ∧ w'.cell? ⟨g, i, none⟩ = some (.func (.func 63) #[] #[.pointer (some ⟨c, 0, none⟩)]) ∧ w'.cell? ⟨f, 1, none⟩ = some (.map (some m))) (by kernel_rfl) ⟨c2, cu, c1⟩ (fun hH => ?_)
          refine take_at (i := 0) (v := .pointer (some ⟨f, 0, none⟩)) rfl rfl (by kernel_rfl) (by kernel_rfl) (by kernel_rfl) (fun _ _ _ h => h) (Or.inl ⟨by rfl, ?_⟩) hH ?_
          · intro w5 hSw; obtain ⟨hv1, hv2, hv3⟩ := hSw; go_simp
          simp only [List.setIfInBounds_toArray, List.set_cons_zero, List.set_cons_succ]
          refine take_at (i := 1) (v := .pointer (some ⟨f, 0, none⟩)) rfl rfl (by kernel_rfl) (by kernel_rfl) (by kernel_rfl) (fun _ _ _ h => h) (Or.inl ⟨by rfl, ?_⟩) hH ?_
          · intro w5 hSw; obtain ⟨hv1, hv2, hv3⟩ := hSw; go_simp
          simp only [List.setIfInBounds_toArray, List.set_cons_zero, List.set_cons_succ]
          refine take_at (i := 2) (v := .pointer (some ⟨f, 2, none⟩)) rfl rfl (by kernel_rfl) (by kernel_rfl) (by kernel_rfl) (fun _ _ _ h => h) (Or.inl ⟨by rfl, ?_⟩) hH ?_
          · intro w5 hSw; obtain ⟨hv1, hv2, hv3⟩ := hSw; go_simp
          simp only [List.setIfInBounds_toArray, List.set_cons_zero, List.set_cons_succ]
          refine take_at (i := 3) (v := .slice (some ⟨g, 0, none⟩) us.length Co) rfl rfl (by kernel_rfl) (by kernel_rfl) (by kernel_rfl) (fun _ _ _ h => h) (Or.inl ⟨by rfl, ?_⟩) hH ?_
          · intro w5 hSw; obtain ⟨hv1, hv2, hv3⟩ := hSw; go_simp
          simp only [List.setIfInBounds_toArray, List.set_cons_zero, List.set_cons_succ]
          refine take_at (i := 4) (v := .int .i64 (i : Int)) rfl rfl (by kernel_rfl) (by kernel_rfl) (by kernel_rfl) (fun _ _ _ h => h) (Or.inl ⟨by rfl, ?_⟩) hH ?_
          · intro w5 hSw; obtain ⟨hv1, hv2, hv3⟩ := hSw; go_simp
          simp only [List.setIfInBounds_toArray, List.set_cons_zero, List.set_cons_succ]
          refine take_at (i := 5) (v := .pointer (some ⟨g, i, none⟩)) rfl rfl (by kernel_rfl) (by kernel_rfl) (by kernel_rfl) (fun _ _ _ h => h) (Or.inl ⟨by rfl, ?_⟩) hH ?_
          · intro w5 hSw; obtain ⟨hv1, hv2, hv3⟩ := hSw; go_simp
          simp only [List.setIfInBounds_toArray, List.set_cons_zero, List.set_cons_succ]
          refine take_at (i := 6) (v := .func (.func 63) #[] #[.pointer (some ⟨c, 0, none⟩)]) rfl rfl (by kernel_rfl) (by kernel_rfl) (by kernel_rfl) (fun _ _ _ h => h) (Or.inl ⟨by rfl, ?_⟩) hH ?_
          · intro w5 hSw; obtain ⟨hv1, hv2, hv3⟩ := hSw; go_simp
          simp only [List.setIfInBounds_toArray, List.set_cons_zero, List.set_cons_succ]
          refine take_at (i := 7) (v := .pointer (some ⟨f, 0, none⟩)) rfl rfl (by kernel_rfl) (by kernel_rfl) (by kernel_rfl) (fun _ _ _ h => h) (Or.inl ⟨by rfl, ?_⟩) hH ?_
          · intro w5 hSw; obtain ⟨hv1, hv2, hv3⟩ := hSw; go_simp
          simp only [List.setIfInBounds_toArray, List.set_cons_zero, List.set_cons_succ]
          refine take_at (i := 8) (v := .pointer (some ⟨f, 0, none⟩)) rfl rfl (by kernel_rfl) (by kernel_rfl) (by kernel_rfl) (fun _ _ _ h => h) (Or.inl ⟨by rfl, ?_⟩) hH ?_
          · intro w5 hSw; obtain ⟨hv1, hv2, hv3⟩ := hSw; go_simp
          simp only [List.setIfInBounds_toArray, List.set_cons_zero, List.set_cons_succ]
          refine take_at (i := 9) (v := .pointer (some ⟨f, 1, none⟩)) rfl rfl (by kernel_rfl) (by kernel_rfl) (by kernel_rfl) (fun _ _ _ h => h) (Or.inl ⟨by rfl, ?_⟩) hH ?_
          · intro w5 hSw; obtain ⟨hv1, hv2, hv3⟩ := hSw; go_simp
          simp only [List.setIfInBounds_toArray, List.set_cons_zero, List.set_cons_succ]
          refine take_at (i := 10) (v := .map (some m)) rfl rfl (by kernel_rfl) (by kernel_rfl) (by kernel_rfl) (fun _ _ _ h => h) (Or.inl ⟨by rfl, ?_⟩) hH ?_
          · intro w5 hSw; obtain ⟨hv1, hv2, hv3⟩ := hSw; go_simp
          simp only [List.setIfInBounds_toArray, List.set_cons_zero, List.set_cons_succ]
          refine wpAnyH_ready (rs := [11]) (by kernel_rfl) (by simp) ?_
          refine AllReadyH.cons rfl (fun K hK => ?_) AllReadyH.nil
          go_simp
          go_at_call 63
          refine CU2.out.mono ?_
          rintro e w2 ⟨rfl, ⟨zs, AZ, LZ⟩, CZ⟩
          go_wp2_with fail
          refine hK.out _ _ ⟨cellC CZ c2 (nmc c2), cellC CZ cu (nmc cu), cellC CZ c1 (nmc c1)⟩ (fun _ => ?_)
          clear hK K hH
          refine wpAnyH_done (by kernel_rfl) ?_ _
          refine NoPanic.normal ?_
          have AZ' := mkHid AZ
          have LZ' := mkHid LZ
          clear CZ AZ LZ
          go_wp2_with fail
          go_roundw
          case rel => exact ⟨i, zs, by first | rfl | (congr 1; omega), by omega, by omega, AZ', LZ'⟩
          case measure => first | (simp [intOf]; done) | (simp [intOf]; omega)
        · replace cu : wr.cell? ⟨g, i, none⟩ = some (.func (.func 73) #[] #[.pointer (some ⟨c, 0, none⟩), .pointer (some ⟨cl, 0, none⟩)]) := cu
          have CU2 : Hid (Calls Try.prog 73 #[.map (some m), .pointer (some ⟨c, 0, none⟩), .pointer (some ⟨cl, 0, none⟩)] wr.drew (fun e b => e = .returned (.tuple #[]) ∧ (∃ ys', absX ys' = W i ∧ Lp P w b base f q st m (.slice (some ⟨g, 0, none⟩) us.length Co) ys' us) ∧ Chg (fun i => i = m) wr.drew b)) := CU
          clear CU
          refine wp_region_held_drew (S := fun w' => w'.cell? ⟨f, 2, none⟩ = some (.slice (some ⟨g, 0, none⟩) us.length Co) ∧ w'.cell? ⟨g, i, none⟩ = some (.func (.func 73) #[] #[.pointer (some ⟨c, 0, none⟩), .pointer (some ⟨cl, 0, none⟩)]) ∧ w'.cell? ⟨f, 1, none⟩ = some (.map (some m))) (by kernel_rfl) ⟨c2, cu, c1⟩ (fun hH => ?_)
          refine take_at (i := 0) (v := .pointer (some ⟨f, 0, none⟩)) rfl rfl (by kernel_rfl) (by kernel_rfl) (by kernel_rfl) (fun _ _ _ h => h) (Or.inl ⟨by rfl, ?_⟩) hH ?_
          · intro w5 hSw; obtain ⟨hv1, hv2, hv3⟩ := hSw; go_simp
          simp only [List.setIfInBounds_toArray, List.set_cons_zero, List.set_cons_succ]
          refine take_at (i := 1) (v := .pointer (some ⟨f, 0, none⟩)) rfl rfl (by kernel_rfl) (by kernel_rfl) (by kernel_rfl) (fun _ _ _ h => h) (Or.inl ⟨by rfl, ?_⟩) hH ?_
          · intro w5 hSw; obtain ⟨hv1, hv2, hv3⟩ := hSw; go_simp
          simp only [List.setIfInBounds_toArray, List.set_cons_zero, List.set_cons_succ]
          refine take_at (i := 2) (v := .pointer (some ⟨f, 2, none⟩)) rfl rfl (by kernel_rfl) (by kernel_rfl) (by kernel_rfl) (fun _ _ _ h => h) (Or.inl ⟨by rfl, ?_⟩) hH ?_
          · intro w5 hSw; obtain ⟨hv1, hv2, hv3⟩ := hSw; go_simp
          simp only [List.setIfInBounds_toArray, List.set_cons_zero, List.set_cons_succ]
          refine take_at (i := 3) (v := .slice (some ⟨g, 0, none⟩) us.length Co) rfl rfl (by kernel_rfl) (by kernel_rfl) (by kernel_rfl) (fun _ _ _ h => h) (Or.inl ⟨by rfl, ?_⟩) hH ?_
          · intro w5 hSw; obtain ⟨hv1, hv2, hv3⟩ := hSw; go_simp
          simp only [List.setIfInBounds_toArray, List.set_cons_zero, List.set_cons_succ]
          refine take_at (i := 4) (v := .int .i64 (i : Int)) rfl rfl (by kernel_rfl) (by kernel_rfl) (by kernel_rfl) (fun _ _ _ h => h) (Or.inl ⟨by rfl, ?_⟩) hH ?_
          · intro w5 hSw; obtain ⟨hv1, hv2, hv3⟩ := hSw; go_simp
          simp only [List.setIfInBounds_toArray, List.set_cons_zero, List.set_cons_succ]
          refine take_at (i := 5) (v := .pointer (some ⟨g, i, none⟩)) rfl rfl (by kernel_rfl) (by kernel_rfl) (by kernel_rfl) (fun _ _ _ h => h) (Or.inl ⟨by rfl, ?_⟩) hH ?_
          · intro w5 hSw; obtain ⟨hv1, hv2, hv3⟩ := hSw; go_simp
          simp only [List.setIfInBounds_toArray, List.set_cons_zero, List.set_cons_succ]
          refine take_at (i := 6) (v := .func (.func 73) #[] #[.pointer (some ⟨c, 0, none⟩), .pointer (some ⟨cl, 0, none⟩)]) rfl rfl (by kernel_rfl) (by kernel_rfl) (by kernel_rfl) (fun _ _ _ h => h) (Or.inl ⟨by rfl, ?_⟩) hH ?_
          · intro w5 hSw; obtain ⟨hv1, hv2, hv3⟩ := hSw; go_simp
          simp only [List.setIfInBounds_toArray, List.set_cons_zero, List.set_cons_succ]
          refine take_at (i := 7) (v := .pointer (some ⟨f, 0, none⟩)) rfl rfl (by kernel_rfl) (by kernel_rfl) (by kernel_rfl) (fun _ _ _ h => h) (Or.inl ⟨by rfl, ?_⟩) hH ?_
          · intro w5 hSw; obtain ⟨hv1, hv2, hv3⟩ := hSw; go_simp
          simp only [List.setIfInBounds_toArray, List.set_cons_zero, List.set_cons_succ]
          refine take_at (i := 8) (v := .pointer (some ⟨f, 0, none⟩)) rfl rfl (by kernel_rfl) (by kernel_rfl) (by kernel_rfl) (fun _ _ _ h => h) (Or.inl ⟨by rfl, ?_⟩) hH ?_
          · intro w5 hSw; obtain ⟨hv1, hv2, hv3⟩ := hSw; go_simp
          simp only [List.setIfInBounds_toArray, List.set_cons_zero, List.set_cons_succ]
          refine take_at (i := 9) (v := .pointer (some ⟨f, 1, none⟩)) rfl rfl (by kernel_rfl) (by kernel_rfl) (by kernel_rfl) (fun _ _ _ h => h) (Or.inl ⟨by rfl, ?_⟩) hH ?_
          · intro w5 hSw; obtain ⟨hv1, hv2, hv3⟩ := hSw; go_simp
          simp only [List.setIfInBounds_toArray, List.set_cons_zero, List.set_cons_succ]
          refine take_at (i := 10) (v := .map (some m)) rfl rfl (by kernel_rfl) (by kernel_rfl) (by kernel_rfl) (fun _ _ _ h => h) (Or.inl ⟨by rfl, ?_⟩) hH ?_
          · intro w5 hSw; obtain ⟨hv1, hv2, hv3⟩ := hSw; go_simp
          simp only [List.setIfInBounds_toArray, List.set_cons_zero, List.set_cons_succ]
          refine wpAnyH_ready (rs := [11]) (by kernel_rfl) (by simp) ?_
          refine AllReadyH.cons rfl (fun K hK => ?_) AllReadyH.nil
          go_simp
          go_at_call 73
          refine CU2.out.mono ?_
          rintro e w2 ⟨rfl, ⟨zs, AZ, LZ⟩, CZ⟩
          go_wp2_with fail
          refine hK.out _ _ ⟨cellC CZ c2 (nmc c2), cellC CZ cu (nmc cu), cellC CZ c1 (nmc c1)⟩ (fun _ => ?_)
          clear hK K hH
          refine wpAnyH_done (by kernel_rfl) ?_ _
          refine NoPanic.normal ?_
          have AZ' := mkHid AZ
          have LZ' := mkHid LZ
          clear CZ AZ LZ
          go_wp2_with fail
          go_roundw
          case rel => exact ⟨i, zs, by first | rfl | (congr 1; omega), by omega, by omega, AZ', LZ'⟩
          case measure => first | (simp [intOf]; done) | (simp [intOf]; omega)
        · replace cu : wr.cell? ⟨g, i, none⟩ = some (.func (.func 71) #[] #[.pointer (some ⟨ct, 0, none⟩), .pointer (some ⟨cf', 0, none⟩), .pointer (some ⟨cl, 0, none⟩)]) := cu
          have CU2 : Hid (Calls Try.prog 71 #[.map (some m), .pointer (some ⟨ct, 0, none⟩), .pointer (some ⟨cf', 0, none⟩), .pointer (some ⟨cl, 0, none⟩)] wr.drew (fun e b => e = .returned (.tuple #[]) ∧ (∃ ys', absX ys' = W i ∧ Lp P w b base f q st m (.slice (some ⟨g, 0, none⟩) us.length Co) ys' us) ∧ Chg (fun i => i = m) wr.drew b)) := CU
          clear CU
          refine wp_region_held_drew (S := fun w' => w'.cell? ⟨f, 2, none⟩ = some (.slice (some ⟨g, 0, none⟩) us.length Co) ∧ w'.cell? ⟨g, i, none⟩ = some (.func (.func 71) #[] #[.pointer (some ⟨ct, 0, none⟩), .pointer (some ⟨cf', 0, none⟩), .pointer (some ⟨cl, 0, none⟩)]) ∧ w'.cell? ⟨f, 1, none⟩ = some (.map (some m))) (by kernel_rfl) ⟨c2, cu, c1⟩ (fun hH => ?_)
          refine take_at (i := 0) (v := .pointer (some ⟨f, 0, none⟩)) rfl rfl (by kernel_rfl) (by kernel_rfl) (by kernel_rfl) (fun _ _ _ h => h) (Or.inl ⟨by rfl, ?_⟩) hH ?_
          · intro w5 hSw; obtain ⟨hv1, hv2, hv3⟩ := hSw; go_simp
          simp only [List.setIfInBounds_toArray, List.set_cons_zero, List.set_cons_succ]
          refine take_at (i := 1) (v := .pointer (some ⟨f, 0, none⟩)) rfl rfl (by kernel_rfl) (by kernel_rfl) (by kernel_rfl) (fun _ _ _ h => h) (Or.inl ⟨by rfl, ?_⟩) hH ?_
          · intro w5 hSw; obtain ⟨hv1, hv2, hv3⟩ := hSw; go_simp
          simp only [List.setIfInBounds_toArray, List.set_cons_zero, List.set_cons_succ]
          refine take_at (i := 2) (v := .pointer (some ⟨f, 2, none⟩)) rfl rfl (by kernel_rfl) (by kernel_rfl) (by kernel_rfl) (fun _ _ _ h => h) (Or.inl ⟨by rfl, ?_⟩) hH ?_
          · intro w5 hSw; obtain ⟨hv1, hv2, hv3⟩ := hSw; go_simp
          simp only [List.setIfInBounds_toArray, List.set_cons_zero, List.set_cons_succ]
          refine take_at (i := 3) (v := .slice (some ⟨g, 0, none⟩) us.length Co) rfl rfl (by kernel_rfl) (by kernel_rfl) (by kernel_rfl) (fun _ _ _ h => h) (Or.inl ⟨by rfl, ?_⟩) hH ?_
          · intro w5 hSw; obtain ⟨hv1, hv2, hv3⟩ := hSw; go_simp
          simp only [List.setIfInBounds_toArray, List.set_cons_zero, List.set_cons_succ]
          refine take_at (i := 4) (v := .int .i64 (i : Int)) rfl rfl (by kernel_rfl) (by kernel_rfl) (by kernel_rfl) (fun _ _ _ h => h) (Or.inl ⟨by rfl, ?_⟩) hH ?_
          · intro w5 hSw; obtain ⟨hv1, hv2, hv3⟩ := hSw; go_simp
          simp only [List.setIfInBounds_toArray, List.set_cons_zero, List.set_cons_succ]
          refine take_at (i := 5) (v := .pointer (some ⟨g, i, none⟩)) rfl rfl (by kernel_rfl) (by kernel_rfl) (by kernel_rfl) (fun _ _ _ h => h) (Or.inl ⟨by rfl, ?_⟩) hH ?_
          · intro w5 hSw; obtain ⟨hv1, hv2, hv3⟩ := hSw; go_simp
          simp only [List.setIfInBounds_toArray, List.set_cons_zero, List.set_cons_succ]
          refine take_at (i := 6) (v := .func (.func 71) #[] #[.pointer (some ⟨ct, 0, none⟩), .pointer (some ⟨cf', 0, none⟩), .pointer (some ⟨cl, 0, none⟩)]) rfl rfl (by kernel_rfl) (by kernel_rfl) (by kernel_rfl) (fun _ _ _ h => h) (Or.inl ⟨by rfl, ?_⟩) hH ?_
          · intro w5 hSw; obtain ⟨hv1, hv2, hv3⟩ := hSw; go_simp
          simp only [List.setIfInBounds_toArray, List.set_cons_zero, List.set_cons_succ]
          refine take_at (i := 7) (v := .pointer (some ⟨f, 0, none⟩)) rfl rfl (by kernel_rfl) (by kernel_rfl) (by kernel_rfl) (fun _ _ _ h => h) (Or.inl ⟨by rfl, ?_⟩) hH ?_
          · intro w5 hSw; obtain ⟨hv1, hv2, hv3⟩ := hSw; go_simp
          simp only [List.setIfInBounds_toArray, List.set_cons_zero, List.set_cons_succ]
          refine take_at (i := 8) (v := .pointer (some ⟨f, 0, none⟩)) rfl rfl (by kernel_rfl) (by kernel_rfl) (by kernel_rfl) (fun _ _ _ h => h) (Or.inl ⟨by rfl, ?_⟩) hH ?_
          · intro w5 hSw; obtain ⟨hv1, hv2, hv3⟩ := hSw; go_simp
          simp only [List.setIfInBounds_toArray, List.set_cons_zero, List.set_cons_succ]
          refine take_at (i := 9) (v := .pointer (some ⟨f, 1, none⟩)) rfl rfl (by kernel_rfl) (by kernel_rfl) (by kernel_rfl) (fun _ _ _ h => h) (Or.inl ⟨by rfl, ?_⟩) hH ?_
          · intro w5 hSw; obtain ⟨hv1, hv2, hv3⟩ := hSw; go_simp
          simp only [List.setIfInBounds_toArray, List.set_cons_zero, List.set_cons_succ]
          refine take_at (i := 10) (v := .map (some m)) rfl rfl (by kernel_rfl) (by kernel_rfl) (by kernel_rfl) (fun _ _ _ h => h) (Or.inl ⟨by rfl, ?_⟩) hH ?_
          · intro w5 hSw; obtain ⟨hv1, hv2, hv3⟩ := hSw; go_simp
          simp only [List.setIfInBounds_toArray, List.set_cons_zero, List.set_cons_succ]
          refine wpAnyH_ready (rs := [11]) (by kernel_rfl) (by simp) ?_
          refine AllReadyH.cons rfl (fun K hK => ?_) AllReadyH.nil
          go_simp
          go_at_call 71
          refine CU2.out.mono ?_
          rintro e w2 ⟨rfl, ⟨zs, AZ, LZ⟩, CZ⟩
          go_wp2_with fail
          refine hK.out _ _ ⟨cellC CZ c2 (nmc c2), cellC CZ cu (nmc cu), cellC CZ c1 (nmc c1)⟩ (fun _ => ?_)
          clear hK K hH
          refine wpAnyH_done (by kernel_rfl) ?_ _
          refine NoPanic.normal ?_
          have AZ' := mkHid AZ
          have LZ' := mkHid LZ
          clear CZ AZ LZ
          go_wp2_with fail
          go_roundw
          case rel => exact ⟨i, zs, by first | rfl | (congr 1; omega), by omega, by omega, AZ', LZ'⟩
          case measure => first | (simp [intOf]; done) | (simp [intOf]; omega)
      · obtain rfl : k = j := by omega
        have hkn : ¬ (k : Int) ≤ (k : Int) - 1 := by omega
        have L := mkHid LJ.out.clear
        have f2 := cf 2
        have hlt := lt_of_heap h1
        clear h1 h2 LJ c0 c1 c3 cf
        go_wp2_with fail
        refine (KP.out _).mono ?_
        rintro e wx ⟨rfl, hwx⟩; have hwx2 := hwx.symm; subst hwx2; clear hwx
        go_wp2_with fail
        go_end0
        exact ⟨rfl, ys, AJ.out, L.out⟩
end Go.Proofs.Ytdiehlioemmakaa
