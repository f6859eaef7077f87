/-
  The walk of simfs's Remove on any disk.
-/
import Derived.Test.YtdiehlioemmakaaGdHpx
namespace Go.Proofs.Ytdiehlioemmakaa
open Go.RowKit Go.Maps Go.Joins

def RmQ (P : Nat → Prop) (w w' : World) (base f : Nat) (q st' : Int) (xs : List (List UInt8 × Fl)) (us : List Ux) (n : List UInt8) (j : Nat) (E : Int) : Prop := ∃ mo' us', (if E = 0 then ∃ c cl X, lookN n xs = some X ∧ us' = us ++ [Ux.rm c cl n (X, j)] else us' = us) ∧ Dsk (ext P w w') w' base f q st' mo' (if E = 0 then delN n xs else xs) us' ∧ Chg P w w'
theorem RmQ.no {P : Nat → Prop} {w w' : World} {base f j : Nat} {q st' : Int} {mo : Option Nat} {xs : List (List UInt8 × Fl)} {us : List Ux} {n : List UInt8} {E : Int} (hE : E ≠ 0) (h : Dsk (ext P w w') w' base f q st' mo xs us ∧ Chg P w w') : RmQ P w w' base f q st' xs us n j E := by
  refine ⟨mo, us, by rw [if_neg hE], ?_⟩
  rw [if_neg hE]; exact h
theorem del_del {α : Type} (n : List UInt8) (l : List (List UInt8 × α)) : delN n (delN n l) = delN n l := del_none (fun _ hp => (mem_del.1 hp).2)
theorem del_perm {α : Type} {n : List UInt8} {X : α} {xs : List (List UInt8 × α)} (so : SrtN xs) (h : lookN n xs = some X) : xs.Perm ((n, X) :: delN n xs) := by
  have h1 := put_perm n X (delN n xs)
  rw [undo_rm so h, del_del] at h1
  exact h1
theorem rm_perm {n : List UInt8} {X : Fl} {xs : List (List UInt8 × Fl)} {us : List Ux} {c cl j : Nat} (so : SrtN xs) (hl : lookN n xs = some X) : (xs.map (·.2) ++ us.flatMap Ux.lost).Perm ((delN n xs).map (·.2) ++ (us ++ [Ux.rm c cl n (X, j)]).flatMap Ux.lost) := by
  have e1 : (us ++ [Ux.rm c cl n (X, j)]).flatMap Ux.lost = us.flatMap Ux.lost ++ [X] := by rw [List.flatMap_append]; simp [Ux.lost, Ux.rm, lostF]
  rw [e1]
  have h := (del_perm so hl).map (·.2)
  refine (h.append_right _).trans ?_
  rw [← List.append_assoc]
  exact (List.perm_append_comm (l₁ := [X]) (l₂ := (delN n xs).map (·.2) ++ us.flatMap Ux.lost))
set_option maxHeartbeats 8000000 in
set_option maxRecDepth 1000000 in
theorem Remove_any {P : Nat → Prop} (base f : Nat) (q st : Int) (mo : Option Nat) (xs : List (List UInt8 × Fl)) (us : List Ux) (n : List UInt8) (j : Nat) (w : World) (hll : n.length ≤ 1000000000) (hr : -9223372036854775808 ≤ st ∧ st ≤ 9223372036854775807) (so : SrtN xs) (hul : us.length ≤ 9000000) (d : Dsk P w base f q st mo xs us) :
    Calls Try.prog 38 #[.pointer (some ⟨f, 0, none⟩), .string ⟨n.toArray⟩] w fun e w' => e = .returned (.int .i64 (snPE n (absX xs) st)) ∧ RmQ P w w' base f q (stF n (absX xs) st) xs us n j (snPE n (absX xs) st) := by
  have g0 := World.grownBy_alloc w (.cells #[.string ⟨n.toArray⟩] 9) none
  have D0 : Hid (Dsk P (w.alloc (.cells #[.string ⟨n.toArray⟩] 9)) base f q st mo xs us) := d.kept g0
  have hc0 : (w.alloc (.cells #[.string ⟨n.toArray⟩] 9)).heap[w.heap.size]? = some (.cells #[.string ⟨n.toArray⟩] 9 (0, 0)) := heap_alloc_new _ _
  have C0 : Hid (Chg P w (w.alloc (.cells #[.string ⟨n.toArray⟩] 9))) := Chg.of_alloc _ _ _
  have cn : (w.alloc (.cells #[.string ⟨n.toArray⟩] 9)).cell? ⟨w.heap.size, 0, none⟩ = some (.string ⟨n.toArray⟩) := (cell_of_block hc0 0).trans rfl
  have s0 : (w.alloc (.cells #[.string ⟨n.toArray⟩] 9)).heap.size = w.heap.size + 1 := by simp
  have NM : Hid (Calls Try.prog 58 #[.pointer (some ⟨f, 0, none⟩), .string ⟨n.toArray⟩] (w.alloc (.cells #[.string ⟨n.toArray⟩] 9)) fun e w' => e = .returned (.tuple #[nmV n xs, .int .i64 (nmE n xs)]) ∧ w' = w.alloc (.cells #[.string ⟨n.toArray⟩] 9)) := named_any base f q st mo xs us n _ hll D0.out
  have hbs := d.bs
  have hpb := mkHid d.pb
  have pf := d.pf
  have hfl := (d.pb f d.pf).2
  have D := mkHid d
  have SO := mkHid so
  clear d g0 so hll
  rcases nm_cases n xs with ⟨e1, e2, e3⟩ | ⟨e1, e2, e3, e4⟩ | ⟨X, e1, e2, e3, e4⟩
  · rw [e1, e2] at NM
    have EE : snPE n (absX xs) st = 6 := by unfold snPE; rw [abs_nmE, e1]; rfl
    have ES : stF n (absX xs) st = st := by unfold stF; rw [abs_nmE, e1]; rfl
    rw [EE, ES]
    have E := mkHid (D.out.same2 (D0.out.kept (World.grownBy_alloc _ (.cells #[.pointer none] 68) none)) (C0.out.trans (Chg.of_alloc _ (.cells #[.pointer none] 68) _)) (fun _ e => e))
    clear EE ES D0 C0 D
    go_enter Try.func38, Try.ntmps38
    go_wp2_with fail
    refine NM.out.mono ?_
    rintro e wx ⟨rfl, hwx⟩; have hwx2 := hwx.symm; subst hwx2; clear hwx
    go_wp2_with fail
    go_ret
    exact ⟨rfl, RmQ.no (by decide) E.out⟩
  · rw [e1, e2] at NM
    have EE : snPE n (absX xs) st = 40 := by unfold snPE; rw [abs_nmE, e1]; rfl
    have ES : stF n (absX xs) st = st := by unfold stF; rw [abs_nmE, e1]; rfl
    rw [EE, ES]
    have E := mkHid (D.out.same2 (D0.out.kept (World.grownBy_alloc _ (.cells #[.pointer none] 68) none)) (C0.out.trans (Chg.of_alloc _ (.cells #[.pointer none] 68) _)) (fun _ e => e))
    clear EE ES D0 C0 D
    go_enter Try.func38, Try.ntmps38
    go_wp2_with fail
    refine NM.out.mono ?_
    rintro e wx ⟨rfl, hwx⟩; have hwx2 := hwx.symm; subst hwx2; clear hwx
    go_wp2_with fail
    go_ret
    exact ⟨rfl, RmQ.no (by decide) E.out⟩
  · rw [e1, e2] at NM
    have EE : snPE n (absX xs) st = if rfB st = true then 44 else 0 := by unfold snPE; rw [abs_nmE, e1]; rfl
    have ES : stF n (absX xs) st = rfS st := by unfold stF; rw [abs_nmE, e1]; rfl
    rw [EE, ES]
    have hmo : ∃ m, mo = some m := by
      cases mo with
      | none => have := (D.out.mn rfl).1; rw [this] at e4; cases e4
      | some m => exact ⟨m, rfl⟩
    obtain ⟨m, rfl⟩ := hmo
    have hnl : n.length ≤ maxLen := by have := nm_len e3; unfold maxLen; omega
    have D1 : Hid (Dsk P ((w.alloc (.cells #[.string ⟨n.toArray⟩] 9)).alloc (.cells #[.pointer (some ⟨X.b, 0, none⟩)] 68)) base f q st (some m) xs us) := D0.out.kept (World.grownBy_alloc _ (.cells #[.pointer (some ⟨X.b, 0, none⟩)] 68) none)
    have C1 : Hid (Chg P w ((w.alloc (.cells #[.string ⟨n.toArray⟩] 9)).alloc (.cells #[.pointer (some ⟨X.b, 0, none⟩)] 68))) := C0.out.trans (Chg.of_alloc _ (.cells #[.pointer (some ⟨X.b, 0, none⟩)] 68) _)
    have hn1 : ((w.alloc (.cells #[.string ⟨n.toArray⟩] 9)).alloc (.cells #[.pointer (some ⟨X.b, 0, none⟩)] 68)).heap[w.heap.size]? = some (.cells #[.string ⟨n.toArray⟩] 9 (0, 0)) := hAlloc hc0 _
    have hl1 : ((w.alloc (.cells #[.string ⟨n.toArray⟩] 9)).alloc (.cells #[.pointer (some ⟨X.b, 0, none⟩)] 68)).heap[w.heap.size + 1]? = some (.cells #[.pointer (some ⟨X.b, 0, none⟩)] 68 (0, 0)) := new2 _ _ _ _
    have RF := mkHid (refuses_any base f q st (some m) xs us _ D1.out hr)
    clear EE ES D0 C0 hc0 s0
    cases hB : rfB st with
    | true =>
      rw [hB] at RF
      rw [if_pos rfl]
      go_enter Try.func38, Try.ntmps38
      go_wp2_with fail
      refine NM.out.mono ?_
      rintro e wx ⟨rfl, hwx⟩; have hwx2 := hwx.symm; subst hwx2; clear hwx
      go_wp2_with fail
      generalize (w.alloc (.cells #[.string ⟨n.toArray⟩] 9)).alloc (.cells #[.pointer (some ⟨X.b, 0, none⟩)] 68) = w1 at *
      refine RF.out.mono ?_
      rintro e w4 ⟨rfl, d4, c4, s4⟩
      have C4 : Hid (Chg P w w4) := C1.out.trans (c4.mono (fun i _ e => by subst e; exact pf))
      go_wp2_with fail
      go_ret
      exact ⟨rfl, RmQ.no (by decide) (D.out.same2 d4 C4.out (fun _ e => e))⟩
    | false =>
      rw [hB] at RF
      rw [if_neg (by simp)]
      go_enter Try.func38, Try.ntmps38
      go_wp2_with fail
      refine NM.out.mono ?_
      rintro e wx ⟨rfl, hwx⟩; have hwx2 := hwx.symm; subst hwx2; clear hwx
      go_wp2_with fail
      generalize (w.alloc (.cells #[.string ⟨n.toArray⟩] 9)).alloc (.cells #[.pointer (some ⟨X.b, 0, none⟩)] 68) = w1 at *
      refine RF.out.mono ?_
      rintro e w4 ⟨rfl, d4, c4, s4⟩
      have C4 : Hid (Chg P w w4) := C1.out.trans (c4.mono (fun i _ e => by subst e; exact pf))
      have hn4 := c4.at_ hn1 (fun e => by have e : w.heap.size = f := e; omega)
      have hl4 := c4.at_ hl1 (fun e => by have e : w.heap.size + 1 = f := e; omega)
      obtain ⟨ov, dp⟩ := Dp.start d4 C4.out hbs hpb.out
      obtain ⟨c0, c1, c2, c3, cf⟩ := dp.fs.c
      have cn4 : w4.cell? ⟨w.heap.size, 0, none⟩ = some (.string ⟨n.toArray⟩) := (cell_of_block hn4 0).trans rfl
      obtain ⟨es, ck, hmk⟩ := dp.mp.kind
      obtain ⟨w5, hrun5, dp5, c5⟩ := (dp.grow (b := w4.drew) ⟨rfl, rfl, rfl, Nat.le_refl _, fun _ _ _ => rfl⟩).drop n hnl
      have hn5 := c5.at_ (b := w.heap.size) hn4 (fun e => by have e : w.heap.size = m := e; rw [e, hmk] at hn4; cases hn4)
      have hl5 := c5.at_ (b := w.heap.size + 1) hl4 (fun e => by have e : w.heap.size + 1 = m := e; rw [e, hmk] at hl4; cases hl4)
      obtain ⟨f0, f1, f2, f3, ff⟩ := dp5.fs.c
      have cn5 : w5.cell? ⟨w.heap.size, 0, none⟩ = some (.string ⟨n.toArray⟩) := (cell_of_block hn5 0).trans rfl
      obtain ⟨P4, C4', w6, hrun6, F6, dp6⟩ := dp5.push (.rm w.heap.size (w.heap.size + 1) n (X, j)) (.func (.func 73) #[] #[.pointer (some ⟨w.heap.size, 0, none⟩), .pointer (some ⟨w.heap.size + 1, 0, none⟩)]) rfl ⟨Or.inr (Nat.le_refl _), hn5, (fun y hy => by cases hy), (fun z hz => by cases hz; exact ⟨Or.inr (Nat.le_succ _), hl5⟩)⟩ (by omega) rfl
      obtain ⟨k0, k1, k2, k3, kf⟩ := F6.c
      have kf2 := kf 2
      have hw6 := lt_of_heap F6
      have fin := mkHid (dp6.done (List.Sublist.refl _) (rm_perm SO.out e4))
      clear d4 dp dp5 dp6 hn4 hl4 hn5 hl5 hmk c4 c5 F6 kf ff k0 k1 k3 cf c0 c2 c3 f0 f3 NM RF hn1 hl1 C1 D1 C4 cn s4 e2
      go_wp2_with fail
      refine wp_region_noPanic ?_
      refine wp_region_held_drew (S := fun w' => w'.cell? ⟨f, 1, none⟩ = some (.map (some m)) ∧ w'.cell? ⟨w.heap.size, 0, none⟩ = some (.string ⟨n.toArray⟩)) (by kernel_rfl) (⟨c1, cn4⟩) (fun hH => ?_)
      refine tKx (i := 0) (v := .pointer (some ⟨f, 0, none⟩)) rfl rfl (by kernel_rfl) (fun _ _ _ h => h) ?_ hH ?_
      · intro w5 hSw; obtain ⟨hv1, hv2⟩ := hSw; go_simp
      simp only [zA9, zB9, zC9]
      refine tKx (i := 1) (v := .pointer (some ⟨f, 0, none⟩)) rfl rfl (by kernel_rfl) (fun _ _ _ h => h) ?_ hH ?_
      · intro w5 hSw; obtain ⟨hv1, hv2⟩ := hSw; go_simp
      simp only [zA9, zB9, zC9]
      refine tKx (i := 2) (v := .pointer (some ⟨f, 1, none⟩)) rfl rfl (by kernel_rfl) (fun _ _ _ h => h) ?_ hH ?_
      · intro w5 hSw; obtain ⟨hv1, hv2⟩ := hSw; go_simp
      simp only [zA9, zB9, zC9]
      refine tKx (i := 3) (v := .map (some m)) rfl rfl (by kernel_rfl) (fun _ _ _ h => h) ?_ hH ?_
      · intro w5 hSw; obtain ⟨hv1, hv2⟩ := hSw; go_simp
      simp only [zA9, zB9, zC9]
      refine tKx (i := 4) (v := .string ⟨n.toArray⟩) rfl rfl (by kernel_rfl) (fun _ _ _ h => h) ?_ hH ?_
      · intro w5 hSw; obtain ⟨hv1, hv2⟩ := hSw; go_simp
      simp only [zA9, zB9, zC9]
      refine wpAnyH_ready (rs := [5]) (by kernel_rfl) (by simp) ?_
      refine AllReadyH.cons rfl (fun K hK => ?_) AllReadyH.nil
      go_simp
      refine hK.out _ _ ⟨f1, cn5⟩ (fun _ => ?_)
      clear hK K
      refine wpAnyH_done (by kernel_rfl) ?_ _
      refine NoPanic.normal ?_
      clear hH c1 cn4 hrun5
      go_wp2_with (at_builtin; refine list_app 65 rfl (.tmp 27) (.tmp 29) rfl rfl rfl hrun6 ?_)
      go_ret
      exact ⟨rfl, (show RmQ _ _ _ _ _ _ _ _ _ _ _ _ from ⟨some m, us ++ [.rm w.heap.size (w.heap.size + 1) n (X, j)], by rw [if_pos rfl]; exact ⟨w.heap.size, w.heap.size + 1, X, e4, rfl⟩, by rw [if_pos rfl]; exact fin.out⟩)⟩
end Go.Proofs.Ytdiehlioemmakaa

