/-
  The walks of simfs's List, giveBack and of the closures that take changes of names back, on any disk.
-/
import Derived.Test.YtdiehlioemmakaaGdJpx
import Derived.Test.YtdiehlioemmakaaUC
namespace Go.Proofs.Ytdiehlioemmakaa
open Go.RowKit Go.Maps Go.Joins Go.Sort

set_option maxHeartbeats 2000000 in
theorem List_any {P : Nat → Prop} (base f : Nat) (q st : Int) (mo : Option Nat) (xs : List (List UInt8 × Fl)) (us : List Ux) (w : World) (so : SrtN xs) (hl : xs.length ≤ 1000) (d : Dsk P w base f q st mo xs us) :
    Calls Try.prog 21 #[.pointer (some ⟨f, 0, none⟩)] w fun e w' => ∃ v, e = .returned v ∧ w'.ownsRow w.heap.size 9 1 v xs.length ((xs.map (·.1)).map encStr) ∧ w.grownBy w' none := by
  obtain ⟨ov, h1, h2, _⟩ := d.fs
  obtain ⟨c0, c1, c2, c3, cf⟩ := h1.c
  cases mo with
  | none =>
    obtain ⟨rfl, _⟩ := d.mn rfl
    clear h1 h2 c0 c2 c3 d so hl
    refine (callsIn_wide (n := 6)).1 ?_
    have hfK : Fence.wide.fn 57 := trivial
    have hfS : Fence.wide.fn 56 := trivial
    refine callsIn_of_wp Try.func21 rfl trivial ?_ rfl
    simp only [Try.ntmps21, List.size_toArray, List.length_cons, List.length_nil, Nat.reduceAdd, Nat.reduceSub, Array.replicate_succ, Array.replicate_zero, List.push_toArray, List.append_toArray, List.nil_append, List.cons_append]
    gi_wp2_with (first
      | (gi_at_call 57; refine (Try.maps_Keys_57 _ _).mono ?_; rintro e w' ⟨rfl, rfl⟩)
      | (gi_at_call 56; refine (Try.slices_Sorted_keys_nil_56_57 w).mono ?_; rintro e w' ⟨v, ss, rfl, hS, hrow, hnil, hb⟩))
    go_ret
    have hb2 : Below w.heap.size w w' := ((Below.refl _ w).alloc (Nat.le_refl _) _).trans (hb.mono (by simp))
    subst hS
    have e0 : ([] : List (List UInt8)).mergeSort (fun x y => decide (x ≤ y)) = [] := by simp
    rw [e0] at hrow
    exact ⟨v, rfl, ownsRow_base_a (base' := w.heap.size) (k := 0) (xs := []) hrow (by simp), ⟨hb2.os, hb2.tape, hb2.output, hb2.size, fun k hk _ => hb2.block k hk⟩⟩
  | some m =>
    have hm := (d.mp m rfl).2
    have hsz : Maps.size (DataW.map (xs.map ent)) = xs.length := by rw [Maps.size_eq, List.length_map]
    clear h1 h2 c0 c2 c3 d
    refine (callsIn_wide (n := 6)).1 ?_
    have hfK : Fence.wide.fn 57 := trivial
    have hfS : Fence.wide.fn 56 := trivial
    refine callsIn_of_wp Try.func21 rfl trivial ?_ rfl
    simp only [Try.ntmps21, List.size_toArray, List.length_cons, List.length_nil, Nat.reduceAdd, Nat.reduceSub, Array.replicate_succ, Array.replicate_zero, List.push_toArray, List.append_toArray, List.nil_append, List.cons_append]
    gi_wp2_with (first
      | (gi_at_call 57; refine (Try.maps_Keys_57 _ _).mono ?_; rintro e w' ⟨rfl, rfl⟩)
      | (gi_at_call 56; refine (Try.slices_Sorted_keys_56_57 m xs.length _ ptrR w hm (by rw [hsz]; unfold maxLen; omega) (by rw [hsz]; omega)).mono ?_; rintro e w' ⟨v, ss, rfl, hS, hrow, hnil, hb⟩))
    go_ret
    have hb2 : Below w.heap.size w w' := ((Below.refl _ w).alloc (Nat.le_refl _) _).trans (hb.mono (by simp))
    have hS2 : ss.Perm (xs.map (·.1)) := by
      have e : strKeys (DataW.map (xs.map ent)) = xs.map (·.1) := by
        show (xs.map ent).map (fun p => strOf p.1) = _
        rw [List.map_map]; rfl
      rw [← e]; exact hS
    have hlen : ss.length = xs.length := by rw [hS2.length_eq, List.length_map]
    rw [srt_sort so ss hS2, hlen] at hrow
    exact ⟨v, rfl, ownsRow_base_a hrow (by simp), ⟨hb2.os, hb2.tape, hb2.output, hb2.size, fun k hk _ => hb2.block k hk⟩⟩
theorem Chg.drewN {P : Nat → Prop} {a b : World} (h : Chg P a b) (n : Nat) : Chg P a (b.drewN n) := ⟨h.os, h.tape, h.output, h.size, h.block⟩
theorem Dp.files {P : Nat → Prop} {w a : World} {base f m : Nat} {q st : Int} {ov : Value} {ys : List (List UInt8 × Fl)} {us : List Ux} {Ls : List Fl} {Ms Ns : List Fl} (d : Dp P w a base f q st m ov ys us Ls) (hs : Ms.Sublist Ls) (hp : Ms.Perm Ns) : Dp P w a base f q st m ov ys us Ns :=
  ⟨d.bs, d.pb, d.ch, d.pf, d.fs, d.row, d.po, d.pm, d.mp, (d.fl.sub hs).perm hp, fun x hx => d.pl x (hs.subset (hp.mem_iff.2 hx)), d.un⟩
set_option maxHeartbeats 8000000 in
set_option maxRecDepth 1000000 in
theorem gives {P : Nat → Prop} {w a : World} {base f m : Nat} {q st : Int} {ov : Value} {ys : List (List UInt8 × Fl)} {us : List Ux} {Ls : List Fl} (d : Dp P w a base f q st m ov ys us Ls) (n : List UInt8) (X : Fl) (hn : n.length ≤ maxLen) (hy : ys.length ≤ 1000000) (okX : FlOk a base X) :
    Calls Try.prog 72 #[.map (some m), .string ⟨n.toArray⟩, .pointer (some ⟨X.b, 0, none⟩)] a fun e b => e = .returned (.tuple #[]) ∧ (∃ Y, Y.l = X.l ∧ Y.k = X.k ∧ Dp P w b base f q st m ov (putN n Y ys) us (Y :: Ls)) ∧ Chg (fun i => i = m) a b := by
  have hab : base ≤ a.heap.size := Nat.le_trans d.bs d.ch.size
  have CO : Hid (Calls Try.prog 27 #[.pointer (some ⟨X.b, 0, none⟩)] a fun e w' => ∃ b v, e = .returned (.pointer (some ⟨b, 0, none⟩)) ∧ a.heap.size ≤ b ∧ FlOk w' base ⟨b, v, X.l, X.k⟩ ∧ (∀ g, v.ownBlock = some g → a.heap.size ≤ g) ∧ a.grownBy w' none) := copied_ok base X a okX hab
  have D := mkHid d
  clear okX d
  go_enter Try.func72, Try.ntmps72
  go_wp2_with fail
  refine CO.out.mono ?_
  rintro e w2 ⟨b, v, rfl, hbb, okY, hv, hg2⟩
  have hsz := D.out.ch.size
  have d2 := (D.out.grow hg2).addf (Y := ⟨b, v, X.l, X.k⟩) okY (Or.inr (by show w.heap.size ≤ b; omega)) (fun g hg => Or.inr (by have := hv g hg; omega)) (fun x hx e => by
    have := lt_of_heap (D.out.fl.ok x hx).at_
    have e : x.b = b := e
    omega) (fun x hx g hg e => by
    obtain ⟨cs, hk⟩ := own_kind (D.out.fl.ok x hx).row g hg
    have := lt_of_heap hk
    have := hv g e
    omega)
  obtain ⟨w3, hrun, d3, c3⟩ := d2.store n ⟨b, v, X.l, X.k⟩ hn hy
  have c13 : Hid (Chg (fun i => i = m) a w3) := (Chg.of_none hg2 _).trans c3
  have D3 := mkHid d3
  clear d2 d3 c3 okY hg2 hv
  go_wp2_with fail
  go_end0
  exact ⟨rfl, ⟨⟨b, v, X.l, X.k⟩, rfl, rfl, D3.out⟩, c13.out⟩
set_option maxHeartbeats 8000000 in
set_option maxRecDepth 1000000 in
theorem gives_no (m : Nat) (n : List UInt8) (a : World) :
    Calls Try.prog 72 #[.map (some m), .string ⟨n.toArray⟩, .pointer none] a fun e b => e = .returned (.tuple #[]) ∧ b = a := by
  go_enter Try.func72, Try.ntmps72
  go_wp2_with fail
  go_end0
  exact ⟨rfl, rfl⟩
set_option maxHeartbeats 8000000 in
set_option maxRecDepth 1000000 in
theorem undoCr {P : Nat → Prop} {w a : World} {base f m : Nat} {q st : Int} {ov : Value} {ys : List (List UInt8 × Fl)} {us : List Ux} {Ls : List Fl} (d : Dp P w a base f q st m ov ys us Ls) (c : Nat) (n : List UInt8) (hu : (Ux.cr c n).ok (newer P w) a) (hn : n.length ≤ maxLen) :
    Calls Try.prog 63 #[.map (some m), .pointer (some ⟨c, 0, none⟩)] a fun e b => e = .returned (.tuple #[]) ∧ Dp P w b base f q st m ov (delN n ys) us Ls ∧ Chg (fun i => i = m) a b := by
  have cn : a.cell? ⟨c, 0, none⟩ = some (.string ⟨n.toArray⟩) := (cell_of_block hu.c 0).trans rfl
  obtain ⟨b, hrun, d2, c2⟩ := d.drop n hn
  have E := mkHid (And.intro d2 c2)
  clear d d2 c2 hu
  go_enter Try.func63, Try.ntmps63
  go_wp2_with fail
  go_end0
  exact ⟨rfl, E.out⟩
set_option maxHeartbeats 8000000 in
set_option maxRecDepth 1000000 in
theorem undoRm {P : Nat → Prop} {w a : World} {base f m : Nat} {q st : Int} {ov : Value} {ys : List (List UInt8 × Fl)} {us : List Ux} {Ls : List Fl} (d : Dp P w a base f q st m ov ys us Ls) (c cl : Nat) (n : List UInt8) (X : Fl) (j : Nat) (hu : (Ux.rm c cl n (X, j)).ok (newer P w) a) (hn : n.length ≤ maxLen) (hy : ys.length ≤ 1000000) (okX : FlOk a base X) :
    Calls Try.prog 73 #[.map (some m), .pointer (some ⟨c, 0, none⟩), .pointer (some ⟨cl, 0, none⟩)] a fun e b => e = .returned (.tuple #[]) ∧ (∃ Y, Y.l = X.l ∧ Y.k = X.k ∧ Dp P w b base f q st m ov (putN n Y ys) us (Y :: Ls)) ∧ Chg (fun i => i = m) a b := by
  have cn : a.cell? ⟨c, 0, none⟩ = some (.string ⟨n.toArray⟩) := (cell_of_block hu.c 0).trans rfl
  have cl0 : a.cell? ⟨cl, 0, none⟩ = some (.pointer (some ⟨X.b, 0, none⟩)) := (cell_of_block (hu.l _ rfl).2 0).trans rfl
  have GB := mkHid (gives d n X hn hy okX)
  clear d okX hu
  go_enter Try.func73, Try.ntmps73
  go_wp2_with fail
  refine GB.out.mono ?_
  rintro e b ⟨rfl, h1, h2⟩
  go_wp2_with fail
  go_end0
  exact ⟨rfl, h1, h2⟩
/-- behind a Rename that is taken back -/
def rnD (P : Nat → Prop) (w b : World) (base f : Nat) (q st : Int) (m : Nat) (ov : Value) (ys : List (List UInt8 × Fl)) (us : List Ux) (Ls : List Fl) (t s : List UInt8) (Z : Fl) : Option (Fl × Nat) → Prop
  | none => Dp P w b base f q st m ov (delN t (putN s Z ys)) us Ls
  | some X => ∃ Y, Y.l = X.1.l ∧ Y.k = X.1.k ∧ Dp P w b base f q st m ov (putN t Y (delN t (putN s Z ys))) us (Y :: Ls)
set_option maxHeartbeats 8000000 in
set_option maxRecDepth 1000000 in
theorem undoRn {P : Nat → Prop} {w a : World} {base f m : Nat} {q st : Int} {ov : Value} {ys : List (List UInt8 × Fl)} {us : List Ux} {Ls : List Fl} (d : Dp P w a base f q st m ov ys us Ls) (ct cf cl : Nat) (t s : List UInt8) (x : Option (Fl × Nat)) (Z : Fl) (hu : (Ux.rn ct cf cl t s x).ok (newer P w) a) (ht : t.length ≤ maxLen) (hs : s.length ≤ maxLen) (hy : ys.length ≤ 100000) (okX : ∀ X, x = some X → FlOk a base X.1) (hZ : lookN t ys = some Z) :
    Calls Try.prog 71 #[.map (some m), .pointer (some ⟨ct, 0, none⟩), .pointer (some ⟨cf, 0, none⟩), .pointer (some ⟨cl, 0, none⟩)] a fun e b => e = .returned (.tuple #[]) ∧ rnD P w b base f q st m ov ys us Ls t s Z x ∧ Chg (fun i => i = m) a b := by
  have c1 : a.cell? ⟨ct, 0, none⟩ = some (.string ⟨t.toArray⟩) := (cell_of_block hu.c 0).trans rfl
  have c2 : a.cell? ⟨cf, 0, none⟩ = some (.string ⟨s.toArray⟩) := (cell_of_block (hu.r _ rfl).2 0).trans rfl
  have bt : a.heap[ct]? = some (.cells #[.string ⟨t.toArray⟩] 9 (0, 0)) := hu.c
  have bl : a.heap[cl]? = some (.cells #[lostV x] 68 (0, 0)) := (hu.l _ rfl).2
  have lk := d.look t ht
  rw [hZ] at lk
  unfold lookV at lk
  obtain ⟨es, ck, hmk⟩ := d.mp.kind
  have nm : ∀ {b : Nat} {cs : Array Value} {t : TypeId} {fr : Nat × Nat}, a.heap[b]? = some (.cells cs t fr) → ¬ b = m := fun h e => by rw [e, hmk] at h; cases h
  obtain ⟨w1, hrun1, d1, ch1⟩ := d.store s Z hs (by omega)
  obtain ⟨w2, hrun2, d2, ch2⟩ := d1.drop t ht
  have ch12 := ch1.trans ch2
  have x1 : w1.cell? ⟨ct, 0, none⟩ = some (.string ⟨t.toArray⟩) := (cell_of_block (ch1.at_ bt (nm bt)) 0).trans rfl
  have x2 : w2.cell? ⟨ct, 0, none⟩ = some (.string ⟨t.toArray⟩) := (cell_of_block (ch12.at_ bt (nm bt)) 0).trans rfl
  have l2 : w2.cell? ⟨cl, 0, none⟩ = some (lostV x) := (cell_of_block (ch12.at_ bl (nm bl)) 0).trans rfl
  have ylen : (delN t (putN s Z ys)).length ≤ 1000000 := by
    have h1 := len_del t (putN s Z ys)
    have h2 := (put_perm s Z ys).length_eq
    have h3 := len_del s ys
    simp at h2
    omega
  have okX2 : ∀ X, x = some X → FlOk w2 base X.1 := fun X hX => ch12.file (okX X hX) (nm (okX X hX).at_) (fun g hg => by obtain ⟨cs, hk⟩ := own_kind (okX X hX).row g hg; exact nm hk)
  have CH := mkHid ch12
  have D2 := mkHid d2
  have OK := mkHid okX2
  clear d d1 d2 ch1 ch2 ch12 hu bt bl nm hmk okX okX2 hZ hy
  cases x with
  | none =>
    have GB := mkHid (gives_no m t w2)
    have l2 : w2.cell? ⟨cl, 0, none⟩ = some (.pointer none) := l2
    go_enter Try.func71, Try.ntmps71
    go_wp2_with fail
    refine GB.out.mono ?_
    rintro e b ⟨rfl, hb⟩; have hb2 := hb.symm; subst hb2; clear hb
    go_wp2_with fail
    go_end0
    exact ⟨rfl, D2.out, CH.out⟩
  | some X =>
    have GB := mkHid (gives D2.out t X.1 ht ylen (OK.out X rfl))
    have l2 : w2.cell? ⟨cl, 0, none⟩ = some (.pointer (some ⟨X.1.b, 0, none⟩)) := l2
    go_enter Try.func71, Try.ntmps71
    go_wp2_with fail
    refine GB.out.mono ?_
    rintro e b ⟨rfl, h1, h2⟩
    have H1 := mkHid h1
    have H2 := mkHid (CH.out.trans h2)
    clear h1 h2
    go_wp2_with fail
    go_end0
    exact ⟨rfl, H1.out, H2.out⟩
end Go.Proofs.Ytdiehlioemmakaa

