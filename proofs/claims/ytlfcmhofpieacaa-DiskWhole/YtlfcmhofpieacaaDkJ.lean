/-
  The walks of simfs's copied, giveBack and of the closure that takes a Create back.
-/
import Derived.Test.YtlfcmhofpieacaaDkI
namespace Go.Proofs.Ytlfcmhofpieacaa
open Go.RowKit Go.Maps Go.Joins

set_option maxHeartbeats 4000000 in
set_option maxRecDepth 1000000 in
theorem copied_ok (base : Nat) (X : Fl) (w : World) (okX : FlOk w base X) (hb : base ≤ w.heap.size) :
    Calls Try.prog 24 #[.pointer (some ⟨X.b, 0, none⟩)] w fun e w' => ∃ b v, e = .returned (.pointer (some ⟨b, 0, none⟩)) ∧ w.heap.size ≤ b ∧ FlOk w' base ⟨b, v, X.l, X.k⟩ ∧ (∀ g, v.ownBlock = some g → w.heap.size ≤ g) ∧ w.grownBy w' none := by
  obtain ⟨P, C, hP⟩ := okX.form
  obtain ⟨c0, c1, cf⟩ := okX.c
  have CL : Hid (Calls Try.prog 23 #[X.v] w.drew fun e w' => ∃ v', e = .returned v' ∧ ownsB w' w.heap.size v' X.l ∧ w.grownBy w' none) := by
    refine (Clone_any base X.v X.l w.drew okX.row okX.ll).mono ?_
    rintro e w' ⟨v', rfl, ho, hg⟩
    exact ⟨v', rfl, ho, ⟨hg.os, hg.tape, hg.output, hg.size, hg.block⟩⟩
  rw [hP] at c0 CL
  have kl := okX.kl
  have ll := okX.ll
  clear okX hP cf
  go_enter Try.func24, Try.ntmps24
  go_wp2_with fail
  refine wp_region_noPanic ?_
  refine wp_region_held_drew (S := fun w' => w'.cell? ⟨X.b, 0, none⟩ = some (.slice P X.l.length C) ∧ w'.cell? ⟨X.b, 1, none⟩ = some (.int .i64 (X.k : Int))) (by kernel_rfl) ⟨c0, c1⟩ (fun hH => ?_)
  refine take_at (i := 0) (v := .pointer (some ⟨X.b, 0, none⟩)) rfl rfl (by kernel_rfl) (by kernel_rfl) (by kernel_rfl) (fun _ _ _ h => h) (Or.inl ⟨by rfl, ?_⟩) hH ?_
  · intro v hv; obtain ⟨hv1, hv2⟩ := hv; go_simp
  simp only [List.setIfInBounds_toArray, List.set_cons_zero, List.set_cons_succ]
  refine take_at (i := 1) (v := .pointer (some ⟨X.b, 0, none⟩)) rfl rfl (by kernel_rfl) (by kernel_rfl) (by kernel_rfl) (fun _ _ _ h => h) (Or.inl ⟨by rfl, ?_⟩) hH ?_
  · intro v hv; obtain ⟨hv1, hv2⟩ := hv; go_simp
  simp only [List.setIfInBounds_toArray, List.set_cons_zero, List.set_cons_succ]
  refine take_at (i := 2) (v := .pointer (some ⟨X.b, 0, none⟩)) rfl rfl (by kernel_rfl) (by kernel_rfl) (by kernel_rfl) (fun _ _ _ h => h) (Or.inl ⟨by rfl, ?_⟩) hH ?_
  · intro v hv; obtain ⟨hv1, hv2⟩ := hv; go_simp
  simp only [List.setIfInBounds_toArray, List.set_cons_zero, List.set_cons_succ]
  refine take_at (i := 3) (v := .slice P X.l.length C) rfl rfl (by kernel_rfl) (by kernel_rfl) (by kernel_rfl) (fun _ _ _ h => h) (Or.inl ⟨by rfl, ?_⟩) hH ?_
  · intro v hv; obtain ⟨hv1, hv2⟩ := hv; go_simp
  simp only [List.setIfInBounds_toArray, List.set_cons_zero, List.set_cons_succ]
  refine take_at (i := 5) (v := .pointer (some ⟨X.b, 0, none⟩)) rfl rfl (by kernel_rfl) (by kernel_rfl) (by kernel_rfl) (fun _ _ _ h => h) (Or.inl ⟨by rfl, ?_⟩) hH ?_
  · intro v hv; obtain ⟨hv1, hv2⟩ := hv; go_simp
  simp only [List.setIfInBounds_toArray, List.set_cons_zero, List.set_cons_succ]
  refine take_at (i := 6) (v := .pointer (some ⟨X.b, 0, none⟩)) rfl rfl (by kernel_rfl) (by kernel_rfl) (by kernel_rfl) (fun _ _ _ h => h) (Or.inl ⟨by rfl, ?_⟩) hH ?_
  · intro v hv; obtain ⟨hv1, hv2⟩ := hv; go_simp
  simp only [List.setIfInBounds_toArray, List.set_cons_zero, List.set_cons_succ]
  refine take_at (i := 7) (v := .pointer (some ⟨X.b, 1, none⟩)) rfl rfl (by kernel_rfl) (by kernel_rfl) (by kernel_rfl) (fun _ _ _ h => h) (Or.inl ⟨by rfl, ?_⟩) hH ?_
  · intro v hv; obtain ⟨hv1, hv2⟩ := hv; go_simp
  simp only [List.setIfInBounds_toArray, List.set_cons_zero, List.set_cons_succ]
  refine take_at (i := 8) (v := .int .i64 (X.k : Int)) rfl rfl (by kernel_rfl) (by kernel_rfl) (by kernel_rfl) (fun _ _ _ h => h) (Or.inl ⟨by rfl, ?_⟩) hH ?_
  · intro v hv; obtain ⟨hv1, hv2⟩ := hv; go_simp
  simp only [List.setIfInBounds_toArray, List.set_cons_zero, List.set_cons_succ]
  refine wpAnyH_ready (rs := [4]) (by kernel_rfl) (by simp) ?_
  refine AllReadyH.cons rfl (fun K hK => ?_) AllReadyH.nil
  go_simp
  go_at_call 23
  refine CL.out.mono ?_
  rintro e w2 ⟨v2, rfl, ho2, hg2⟩
  obtain ⟨P2, C2, rfl⟩ := own_form ho2
  go_wp2_with fail
  have hH2 : (fun w' : World => w'.cell? ⟨X.b, 0, none⟩ = some (.slice P X.l.length C) ∧ w'.cell? ⟨X.b, 1, none⟩ = some (.int .i64 (X.k : Int))) w2 := ⟨hg2.cell c0 (by simp), hg2.cell c1 (by simp)⟩
  refine hK.out _ _ hH2 (fun _ => ?_)
  clear hK K hH
  have hH := hH2
  refine take_at (i := 9) (v := .agg #[.slice P2 X.l.length C2, .int .i64 (X.k : Int)]) rfl rfl (by kernel_rfl) (by kernel_rfl) (by kernel_rfl) (fun _ _ _ h => h) (Or.inl ⟨by rfl, ?_⟩) hH ?_
  · intro v hv; obtain ⟨hv1, hv2⟩ := hv; go_simp
  simp only [List.setIfInBounds_toArray, List.set_cons_zero, List.set_cons_succ]
  refine wpAnyH_ready (rs := [10]) (by kernel_rfl) (by simp) ?_
  refine AllReadyH.cons rfl (fun K hK => ?_) AllReadyH.nil
  go_simp
  have hH3 : (fun w' : World => w'.cell? ⟨X.b, 0, none⟩ = some (.slice P X.l.length C) ∧ w'.cell? ⟨X.b, 1, none⟩ = some (.int .i64 (X.k : Int))) (w2.alloc (.cells #[.slice P2 X.l.length C2, .int .i64 (X.k : Int)] 44)) := ⟨(World.grownBy_alloc w2 _ none).cell hH2.1 (by simp), (World.grownBy_alloc w2 _ none).cell hH2.2 (by simp)⟩
  refine hK.out _ _ hH3 (fun _ => ?_)
  clear hK K hH hH2
  have hH := hH3
  refine take_at (i := 11) (v := .pointer (some ⟨w2.heap.size, 0, none⟩)) rfl rfl (by kernel_rfl) (by kernel_rfl) (by kernel_rfl) (fun _ _ _ h => h) (Or.inl ⟨by rfl, ?_⟩) hH ?_
  · intro v hv; obtain ⟨hv1, hv2⟩ := hv; go_simp
  simp only [List.setIfInBounds_toArray, List.set_cons_zero, List.set_cons_succ]
  refine wpAnyH_done (by kernel_rfl) ?_ _
  refine NoPanic.normal ?_
  go_wp2_with fail
  go_ret
  have g3 := World.grownBy_alloc w2 (.cells #[.slice P2 X.l.length C2, .int .i64 (X.k : Int)] 44) none
  refine ⟨w2.heap.size, rfl, hg2.size, .slice P2 X.l.length C2, ⟨Nat.le_trans hb hg2.size, heap_alloc_new _ _, ?_, kl, ll⟩, own_ge ho2, hg2.trans g3⟩
  exact ownsRow_le (World.ownsRow.kept ho2 g3 (by cases h : (Value.slice P2 X.l.length C2).ownBlock <;> simp)) hb

set_option maxHeartbeats 4000000 in
set_option maxRecDepth 1000000 in
theorem giveBack_ok (base m n : Nat) (s : ByteArray) (X : Fl) (D : DataW Unit) (w : World) (hs : okN s) (hm : w.ownsMap Try.prog 9 ptrR m n D) (hn : n ≤ 1000) (mge : base ≤ m) (okX : FlOk w base X) (hb : base ≤ w.heap.size) :
    Calls Try.prog 19 #[.map (some m), .string s, .pointer (some ⟨X.b, 0, none⟩)] w fun e w' => ∃ (b : Nat) (v : Value), e = .returned (.tuple #[]) ∧ w.heap.size ≤ b ∧ FlOk w' base ⟨b, v, X.l, X.k⟩ ∧ (∀ g, v.ownBlock = some g → w.heap.size ≤ g) ∧ w'.ownsMap Try.prog 9 ptrR m (n + 1) (D.put (.string s.data.toList) (.lit (.int .i64 (b : Int)))) ∧ Chg (fun i => i = m) w w' := by
  have hsz : s.size ≤ maxLen := by have := hs.2.1; unfold maxLen; omega
  have CO : Hid (Calls Try.prog 24 #[.pointer (some ⟨X.b, 0, none⟩)] w fun e w' => ∃ b v, e = .returned (.pointer (some ⟨b, 0, none⟩)) ∧ w.heap.size ≤ b ∧ FlOk w' base ⟨b, v, X.l, X.k⟩ ∧ (∀ g, v.ownBlock = some g → w.heap.size ≤ g) ∧ w.grownBy w' none) := copied_ok base X w okX hb
  have HM : Hid (w.ownsMap Try.prog 9 ptrR m n D) := hm
  clear okX hm
  go_enter Try.func19, Try.ntmps19
  go_wp2_with fail
  refine CO.out.mono ?_
  rintro e w2 ⟨b, v, rfl, hbb, okY, hv, hg2⟩
  have hm2 := HM.out.kept hg2 (by simp)
  obtain ⟨es, ck, hmk, _⟩ := id hm2
  obtain ⟨w3, hrun, hown3, hturn⟩ := World.ownsMap.store (key := .string s) (val := .pointer (some ⟨b, 0, none⟩)) hm2 keyS mapT (by unfold maxLen; omega) (WideMaps.keyOf_string_mk strT hsz) (ptrR_mk b)
  have g3 := hturn.grown
  have c3 := Chg.of_grown g3
  have okZ : FlOk w3 base ⟨b, v, X.l, X.k⟩ := c3.file okY (fun e => by cases e; rw [okY.at_] at hmk; cases hmk) (fun g hg e => by
    obtain ⟨cs, hk⟩ := own_kind okY.row g hg
    cases e; rw [hk] at hmk; cases hmk)
  have c13 : Chg (fun i => i = m) w w3 := (Chg.of_none hg2 _).trans (c3.mono (fun i _ e => by cases e; rfl))
  clear hturn okY hmk hm2 g3 c3 hg2
  go_wp2_with fail
  go_end0
  exact ⟨b, v, rfl, hbb, okZ, hv, hown3, c13⟩

/-- files fewer -/
theorem Fls.sub {w : World} {base : Nat} {xs ys : List Fl} (h : Fls w base xs) (hs : ys.Sublist xs) : Fls w base ys := ⟨fun x hx => h.ok x (hs.subset hx), h.nb.sublist hs, h.nv.sublist hs⟩

set_option maxHeartbeats 4000000 in
set_option maxRecDepth 1000000 in
theorem undoC (base f m c : Nat) (q : Int) (s : ByteArray) (X : Fl) (A B : List (List UInt8 × Fl)) (us : List Un) (w : World) (d : Disk w base f q m (A ++ (s.data.toList, X) :: B) us) (hs : okN s) (hu : Un.cr c s ∈ us) (hdel : (DataW.map ((A ++ (s.data.toList, X) :: B).map ent)).del (.string s.data.toList) = .map ((A ++ B).map ent)) :
    Calls Try.prog 15 #[.map (some m), .pointer (some ⟨c, 0, none⟩)] w fun e w' => e = .returned (.tuple #[]) ∧ Disk w' base f q m (A ++ B) us ∧ Chg (fun i => i = m) w w' := by
  have hsz : s.size ≤ maxLen := by have := hs.2.1; unfold maxLen; omega
  have cn : w.cell? ⟨c, 0, none⟩ = some (.string s) := (cell_of_block (d.un _ hu).2 0).trans rfl
  have hm := d.mp
  obtain ⟨w1, hrun, hown, hturn⟩ := World.ownsMap.drop (key := .string s) hm keyS mapT (WideMaps.keyOf_string_mk strT hsz) 0
  have hrun2 : ∀ ty, (Builtin.delete_ #[37, 9] ty #[.map (some m), .string s]).run Try.prog w = .ok (.tuple #[]) w1 := fun ty => hrun
  rw [hdel] at hown
  obtain ⟨es, ck, hmk⟩ := hm.kind
  have c1 : Chg (fun i => i = m) w w1 := (Chg.of_grown hturn.grown).mono (fun i _ e => by cases e; rfl)
  have nm : ∀ {b : Nat} {cs : Array Value} {t : TypeId} {fr : Nat × Nat}, w.heap[b]? = some (.cells cs t fr) → ¬ b = m := fun h e => by rw [e, hmk] at h; cases h
  obtain ⟨ov, h1, h2⟩ := d.fs
  have E : Hid (Disk w1 base f q m (A ++ B) us ∧ Chg (fun i => i = m) w w1) := by
    refine ⟨⟨Nat.le_trans d.bs c1.size, d.fge, d.mge, ⟨ov, c1.at_ h1 (nm h1), c1.row h2 (fun g hg e => by obtain ⟨cs, hk⟩ := own_kind h2 g hg; exact nm hk e)⟩, ?_, ?_, fun u hu => c1.un (d.un u hu) (fun r e => by subst e; exact plainB_map hmk)⟩, c1⟩
    · have := own_tight hown
      unfold Mp
      rw [List.length_map] at this
      exact this
    · refine (c1.files d.fl (fun r e => by subst e; exact other_map hmk)).sub ?_
      refine List.Sublist.append ?_ (List.Sublist.refl _)
      simp only [List.map_append, List.map_cons]
      exact List.Sublist.append (List.Sublist.refl _) (List.sublist_cons_self _ _)
  clear hrun hown hturn c1 hmk nm h1 h2 d hm
  go_enter Try.func15, Try.ntmps15
  go_wp2_with fail
  go_end0
  exact ⟨rfl, E.out⟩
end Go.Proofs.Ytlfcmhofpieacaa
