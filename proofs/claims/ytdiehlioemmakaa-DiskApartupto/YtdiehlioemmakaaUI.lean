/-
  The walk of simfs's Cut on any disk.
-/
import Derived.Test.YtdiehlioemmakaaGdEpx
namespace Go.Proofs.Ytdiehlioemmakaa
open Go.RowKit Go.Maps Go.Joins

def lenA (n : List UInt8) (xs : List (List UInt8 × (List UInt8 × Nat))) : Nat := match lookN n xs with | some x => x.1.length | none => 0
def cuPE (n : List UInt8) (k : Int) (xs : List (List UInt8 × (List UInt8 × Nat))) (st : Int) : Int := if nmE n xs ≠ 0 then nmE n xs else if k < 0 ∨ (lenA n xs : Int) < k then 1 else if rfB st = true then 44 else 0
def cuPX (n : List UInt8) (k : Int) (xs : List (List UInt8 × (List UInt8 × Nat))) (st : Int) : List (List UInt8 × (List UInt8 × Nat)) :=
  match lookN n xs with
  | none => xs
  | some x => if cuPE n k xs st = 0 then putN n (x.1.take k.toNat, min x.2 k.toNat) xs else xs
def stC (n : List UInt8) (k : Int) (xs : List (List UInt8 × (List UInt8 × Nat))) (st : Int) : Int := if nmE n xs ≠ 0 then st else if k < 0 ∨ (lenA n xs : Int) < k then st else rfS st
set_option maxHeartbeats 8000000 in
set_option maxRecDepth 1000000 in
theorem Cut_any {P : Nat → Prop} (base f : Nat) (q st : Int) (mo : Option Nat) (xs : List (List UInt8 × Fl)) (us : List Ux) (n : List UInt8) (k : Int) (w : World) (hll : n.length ≤ 1000000000) (hr : -9223372036854775808 ≤ st ∧ st ≤ 9223372036854775807) (so : SrtN xs) (d : Dsk P w base f q st mo xs us) :
    Calls Try.prog 34 #[.pointer (some ⟨f, 0, none⟩), .string ⟨n.toArray⟩, .int .i64 k] w fun e w' => e = .returned (.int .i64 (cuPE n k (absX xs) st)) ∧ ∃ xs', absX xs' = cuPX n k (absX xs) st ∧ Dsk (ext P w w') w' base f q (stC n k (absX xs) st) mo xs' us ∧ Chg P w w' := by
  have E0 : cuPX n k (absX xs) st = match lookN n xs with | none => absX xs | some X => if cuPE n k (absX xs) st = 0 then putN n (X.l.take k.toNat, min X.k k.toNat) (absX xs) else absX xs := by
    unfold cuPX; rw [abs_look]; cases lookN n xs <;> rfl
  rw [E0]
  clear E0
  have NM := mkHid (named_any base f q st mo xs us n w hll d)
  rcases nm_cases n xs with ⟨e1, e2, e3⟩ | ⟨e1, e2, e3, e4⟩ | ⟨X, e1, e2, e3, e4⟩
  · rw [e1, e2] at NM
    have eE : cuPE n k (absX xs) st = nmE n xs := by unfold cuPE; rw [abs_nmE, e1, if_pos (by decide)]
    have eS : stC n k (absX xs) st = st := by unfold stC; rw [abs_nmE, e1, if_pos (by decide)]
    have eX : (match lookN n xs with | none => absX xs | some X => if cuPE n k (absX xs) st = 0 then putN n (X.l.take k.toNat, min X.k k.toNat) (absX xs) else absX xs) = absX xs := by
      rw [eE, e1]; cases lookN n xs <;> simp
    rw [eX, eE, eS, e1]
    have D := mkHid d
    clear d hll so eX eE eS
    go_enter Try.func34, Try.ntmps34
    go_wp2_with fail
    refine NM.out.mono ?_
    rintro e wx ⟨rfl, hwx⟩; have hwx2 := hwx.symm; subst hwx2; clear hwx
    go_wp2_with fail
    go_ret
    exact ⟨rfl, xs, rfl, D.out.same⟩
  · rw [e1, e2] at NM
    have eE : cuPE n k (absX xs) st = nmE n xs := by unfold cuPE; rw [abs_nmE, e1, if_pos (by decide)]
    have eS : stC n k (absX xs) st = st := by unfold stC; rw [abs_nmE, e1, if_pos (by decide)]
    have eX : (match lookN n xs with | none => absX xs | some X => if cuPE n k (absX xs) st = 0 then putN n (X.l.take k.toNat, min X.k k.toNat) (absX xs) else absX xs) = absX xs := by
      rw [eE, e1]; cases lookN n xs <;> simp
    rw [eX, eE, eS, e1]
    have D := mkHid d
    clear d hll so eX eE eS
    go_enter Try.func34, Try.ntmps34
    go_wp2_with fail
    refine NM.out.mono ?_
    rintro e wx ⟨rfl, hwx⟩; have hwx2 := hwx.symm; subst hwx2; clear hwx
    go_wp2_with fail
    go_ret
    exact ⟨rfl, xs, rfl, D.out.same⟩
  · rw [e1, e2] at NM
    rw [e4]
    show Calls _ _ _ _ fun e w' => e = .returned (.int .i64 (cuPE n k (absX xs) st)) ∧ ∃ xs', absX xs' = (if cuPE n k (absX xs) st = 0 then putN n (X.l.take k.toNat, min X.k k.toNat) (absX xs) else absX xs) ∧ Dsk (ext P w w') w' base f q (stC n k (absX xs) st) mo xs' us ∧ Chg P w w'
    have hLA : lenA n (absX xs) = X.l.length := by unfold lenA; rw [abs_look, e4]; rfl
    have EE : cuPE n k (absX xs) st = if k < 0 ∨ (X.l.length : Int) < k then 1 else if rfB st = true then 44 else 0 := by unfold cuPE; rw [abs_nmE, e1, if_neg (by decide), hLA]
    have ES : stC n k (absX xs) st = if k < 0 ∨ (X.l.length : Int) < k then st else rfS st := by unfold stC; rw [abs_nmE, e1, if_neg (by decide), hLA]
    rw [EE, ES]
    obtain ⟨okX, pX, pv⟩ := d.okX e4
    obtain ⟨x0, x1, xf⟩ := okX.c
    obtain ⟨PX, CX, hPX⟩ := okX.form
    have hcp := okX.cap hPX
    have ll := okX.ll
    have kl := okX.kl
    rw [hPX] at x0
    have D := mkHid d
    have pf := d.pf
    have SO := mkHid so
    have hpb := mkHid d.pb
    have hbs := d.bs
    have RF := mkHid (refuses_any base f q st mo xs us w d hr)
    have HPX := mkHid hPX
    clear d so EE ES hLA okX hPX x1 xf hll
    by_cases hk : k < 0 ∨ (X.l.length : Int) < k
    · rw [if_pos hk, if_neg (by decide)]
      rw [if_pos hk]
      by_cases hk0 : k < 0
      · clear hk
        go_enter Try.func34, Try.ntmps34
        go_wp2_with fail
        refine NM.out.mono ?_
        rintro e wx ⟨rfl, hwx⟩; have hwx2 := hwx.symm; subst hwx2; clear hwx
        go_wp2_with fail
        go_ret
        exact ⟨rfl, xs, rfl, D.out.same⟩
      · have hk1 : (X.l.length : Int) < k := by omega
        clear hk
        go_enter Try.func34, Try.ntmps34
        go_wp2_with fail
        refine NM.out.mono ?_
        rintro e wx ⟨rfl, hwx⟩; have hwx2 := hwx.symm; subst hwx2; clear hwx
        go_wp2_with fail
        go_ret
        exact ⟨rfl, xs, rfl, D.out.same⟩
    rw [if_neg hk, if_neg hk]
    have hk0 : ¬ k < 0 := fun h => hk (Or.inl h)
    have hk1 : ¬ (X.l.length : Int) < k := fun h => hk (Or.inr h)
    obtain ⟨K, rfl⟩ : ∃ K : Nat, k = (K : Int) := ⟨k.toNat, by omega⟩
    clear hk
    have hKl : K ≤ X.l.length := by omega
    have hKT : ((K : Int)).toNat = K := by omega
    cases hB : rfB st with
    | true =>
      rw [hB] at RF
      rw [if_pos rfl, if_neg (by decide)]
      go_enter Try.func34, Try.ntmps34
      go_wp2_with fail
      refine NM.out.mono ?_
      rintro e wx ⟨rfl, hwx⟩; have hwx2 := hwx.symm; subst hwx2; clear hwx
      go_wp2_with fail
      refine RF.out.mono ?_
      rintro e w4 ⟨rfl, d4, c4, s4⟩
      go_wp2_with fail
      go_ret
      exact ⟨rfl, xs, rfl, D.out.same2 d4 c4 (fun i e => by subst e; exact pf)⟩
    | false =>
      rw [hB] at RF
      rw [if_neg (by simp), if_pos rfl, hKT]
      have hKC : ¬ CX < K := by omega
      have hwr : IntKind.i64.wrap (K : Int) = (K : Int) := by rw [IntKind.wrap_i64]; omega
      have hz0 : (if CX = 0 then PX else Option.map (fun x => x.add 0) PX) = PX := by
        cases PX with
        | none => simp
        | some a => simp [Addr.add]
      have hmn : min (X.k : Int) (K : Int) = ((min X.k K : Nat) : Int) := by omega
      go_enter Try.func34, Try.ntmps34
      go_wp2_with fail
      refine NM.out.mono ?_
      rintro e wx ⟨rfl, hwx⟩; have hwx2 := hwx.symm; subst hwx2; clear hwx
      go_wp2_with fail
      refine RF.out.mono ?_
      rintro e w4 ⟨rfl, d4, c4, s4⟩
      obtain ⟨okX, pX4, pv4⟩ := d4.okX e4
      obtain ⟨z0, z1, zf⟩ := okX.c
      have hPX := HPX.out
      have own := okX.cut hPX hKl
      have etl : (X.l.take K).length = K := by rw [List.length_take]; omega
      have at4 := okX.at_
      have at5 : (w4.setCell ⟨X.b, 0, none⟩ (.slice PX K CX)).heap[X.b]? = some (.cells #[.slice PX K CX, .int .i64 (X.k : Int)] 86 (0, 0)) := (block_setCell at4 _).trans rfl
      have at6 : ((w4.setCell ⟨X.b, 0, none⟩ (.slice PX K CX)).setCell ⟨X.b, 1, none⟩ (.int .i64 ((min X.k K : Nat) : Int))).heap[X.b]? = some (.cells #[.slice PX K CX, .int .i64 ((min X.k K : Nat) : Int)] 86 (0, 0)) := (block_setCell at5 _).trans rfl
      have hc6 : Chg (fun i => i = X.b) w4 ((w4.setCell ⟨X.b, 0, none⟩ (.slice PX K CX)).setCell ⟨X.b, 1, none⟩ (.int .i64 ((min X.k K : Nat) : Int))) := (Keep.set w4 X.b 0 _).trans (Keep.set _ X.b 1 _)
      have E : Hid (Dsk (ext P w4 ((w4.setCell ⟨X.b, 0, none⟩ (.slice PX K CX)).setCell ⟨X.b, 1, none⟩ (.int .i64 ((min X.k K : Nat) : Int)))) ((w4.setCell ⟨X.b, 0, none⟩ (.slice PX K CX)).setCell ⟨X.b, 1, none⟩ (.int .i64 ((min X.k K : Nat) : Int))) base f q (rfS st) mo (putN n ⟨X.b, .slice PX K CX, X.l.take K, min X.k K⟩ xs) us ∧ Chg P w4 ((w4.setCell ⟨X.b, 0, none⟩ (.slice PX K CX)).setCell ⟨X.b, 1, none⟩ (.int .i64 ((min X.k K : Nat) : Int)))) := by
        refine d4.file2 SO.out e4 (hc6.mono (fun i _ e => Or.inl e)) ⟨okX.ge, at6, hc6.row own (fun g hg e => ?_), by show min X.k K ≤ (X.l.take K).length; omega, by show (X.l.take K).length ≤ _; omega⟩ rfl (fun g hg => Or.inl ?_)
        · obtain ⟨cs, hk⟩ := own_kind own g hg
          have e : g = X.b := e
          rw [e, okX.at_] at hk; simp at hk
        · rw [hPX]; cases PX with
          | none => cases hg
          | some a => exact hg
      rw [hPX] at z0
      have k0 := (cell_of_block at5 0).trans rfl
      have k1 := (cell_of_block at5 1).trans rfl
      have kf := unfrozen_of_block at5 1
      have hlt := lt_of_heap at4
      have C4 : Hid (Chg P w w4) := c4.mono (fun i _ e => by subst e; exact pf)
      have S4 := c4.size
      have zf0 := zf 0
      clear okX hPX own at4 at5 at6 hc6 d4 c4 zf
      go_wp2_with fail
      go_ret
      exact ⟨rfl, _, abs_put n ⟨X.b, .slice PX K CX, X.l.take K, min X.k K⟩ xs, ext_chg (fun i hi => (hpb.out i hi).2) S4 E.out.1 E.out.2.size hbs (fun i hi => (hpb.out i hi).1), C4.out.trans E.out.2⟩
end Go.Proofs.Ytdiehlioemmakaa

namespace Go.Proofs.Ytdiehlioemmakaa
open Go.RowKit Go.Maps Go.Joins

/-- the disk's blocks, and whatever is new since w -/
def newer (P : Nat → Prop) (w : World) : Nat → Prop := fun i => P i ∨ w.heap.size ≤ i
/-- a disk under way from w, in the world a: its map holds ys, its files are among Ls -/
structure Dp (P : Nat → Prop) (w a : World) (base f : Nat) (q st : Int) (m : Nat) (ov : Value) (ys : List (List UInt8 × Fl)) (us : List Ux) (Ls : List Fl) : Prop where
  bs : base ≤ w.heap.size
  pb : ∀ i, P i → base ≤ i ∧ i < w.heap.size
  ch : Chg P w a
  pf : P f
  fs : FsAt a f q (some m) ov st
  row : a.ownsRow base 72 1 ov us.length (us.map Ux.val)
  po : ∀ g, ov.ownBlock = some g → newer P w g
  pm : newer P w m
  mp : Mp a m ys
  fl : Fls a base Ls
  pl : ∀ x ∈ Ls, newer P w x.b ∧ ∀ g, x.v.ownBlock = some g → newer P w g
  un : ∀ u ∈ us, u.ok (newer P w) a
theorem Chg.step {P S : Nat → Prop} {w a b : World} (h : Chg P w a) (k : Chg S a b) (hs : ∀ i, S i → newer P w i) : Chg P w b :=
  ⟨k.os.trans h.os, k.tape.trans h.tape, k.output.trans h.output, Nat.le_trans h.size k.size, fun i hi hn => (k.block i (Nat.lt_of_lt_of_le hi h.size) (fun e => by rcases hs i e with e | e; exact hn e; omega)).trans (h.block i hi hn)⟩
theorem Dp.start {P : Nat → Prop} {w a : World} {base f m : Nat} {q st : Int} {xs : List (List UInt8 × Fl)} {us : List Ux} (d : Dsk P a base f q st (some m) xs us) (hc : Chg P w a) (bs : base ≤ w.heap.size) (pb : ∀ i, P i → base ≤ i ∧ i < w.heap.size) : ∃ ov, Dp P w a base f q st m ov xs us (xs.map (·.2) ++ us.flatMap Ux.lost) := by
  obtain ⟨ov, h1, h2, h3⟩ := d.fs
  exact ⟨ov, bs, pb, hc, d.pf, h1, h2, fun g hg => Or.inl (h3 g hg), Or.inl (d.mp m rfl).1, (d.mp m rfl).2, d.fl, fun x hx => ⟨Or.inl (d.pl x hx).1, fun g hg => Or.inl ((d.pl x hx).2 g hg)⟩, fun u hu => (d.un u hu).more (fun _ => Or.inl)⟩
theorem Dp.grow {P : Nat → Prop} {w a b : World} {base f m : Nat} {q st : Int} {ov : Value} {ys : List (List UInt8 × Fl)} {us : List Ux} {Ls : List Fl} (d : Dp P w a base f q st m ov ys us Ls) (hg : a.grownBy b none) : Dp P w b base f q st m ov ys us Ls := by
  have hc : Chg (fun _ => False) a b := Chg.of_none hg _
  exact ⟨d.bs, d.pb, d.ch.step hc (fun _ e => e.elim), d.pf, hc.at_ d.fs id, hc.row d.row (fun _ _ e => e), d.po, d.pm, hc.map d.mp id, hc.files d.fl (fun _ e => e.elim), d.pl, fun u hu => hc.ux (d.un u hu) (fun _ e => e.elim)⟩
theorem Dp.mapped {P : Nat → Prop} {w a b : World} {base f m : Nat} {q st : Int} {ov : Value} {ys ys' : List (List UInt8 × Fl)} {us : List Ux} {Ls : List Fl} (d : Dp P w a base f q st m ov ys us Ls) (hc : Chg (fun i => i = m) a b) (hm : Mp b m ys') : Dp P w b base f q st m ov ys' us Ls := by
  obtain ⟨es, ck, hmk⟩ := d.mp.kind
  have nm : ∀ {b : Nat} {cs : Array Value} {t : TypeId} {fr : Nat × Nat}, a.heap[b]? = some (.cells cs t fr) → ¬ b = m := fun h e => by rw [e, hmk] at h; cases h
  refine ⟨d.bs, d.pb, d.ch.step hc (fun i e => by subst e; exact d.pm), d.pf, hc.at_ d.fs (nm d.fs), hc.row d.row (fun g hg e => ?_), d.po, d.pm, hm, hc.files d.fl (fun r e => by subst e; exact other_map hmk), d.pl, fun u hu => hc.ux (d.un u hu) (fun r e => by subst e; exact plainB_map hmk)⟩
  obtain ⟨cs, hk⟩ := own_kind d.row g hg
  exact nm hk e
theorem mk_size (n : List UInt8) : (⟨n.toArray⟩ : ByteArray).size = n.length := by simp [ByteArray.size]
theorem Dp.look {P : Nat → Prop} {w a : World} {base f m : Nat} {q st : Int} {ov : Value} {ys : List (List UInt8 × Fl)} {us : List Ux} {Ls : List Fl} (d : Dp P w a base f q st m ov ys us Ls) (n : List UInt8) (hn : n.length ≤ maxLen) : (Instr.lookup 64 (.map (some m)) (.string ⟨n.toArray⟩) false).run Try.prog a = .ok (lookV (lookN n ys)) a := by
  have hn2 : (⟨n.toArray⟩ : ByteArray).size ≤ maxLen := by rw [mk_size]; exact hn
  obtain ⟨v, ps, hrun, hR⟩ := World.ownsMap.lookup (key := .string ⟨n.toArray⟩) d.mp keyS mapT (zeroP a) (zd := .nil) (zp := []) rfl (WideMaps.keyOf_string_mk strT hn2)
  rw [show (⟨n.toArray⟩ : ByteArray).data.toList = n from rfl, at_ent] at hR
  cases hl : lookN n ys with
  | none =>
    rw [hl] at hR
    rcases ptrR_inv hR with ⟨rfl, _⟩ | ⟨b', _, e⟩
    · exact hrun
    · cases e
  | some X =>
    rw [hl] at hR
    rcases ptrR_inv hR with ⟨_, e⟩ | ⟨b', rfl, e⟩
    · cases e
    · cases e; exact hrun
/-- a name is put -/
theorem Dp.store {P : Nat → Prop} {w a : World} {base f m : Nat} {q st : Int} {ov : Value} {ys : List (List UInt8 × Fl)} {us : List Ux} {Ls : List Fl} (d : Dp P w a base f q st m ov ys us Ls) (n : List UInt8) (X : Fl) (hn : n.length ≤ maxLen) (hy : ys.length ≤ 1000000) :
    ∃ b, (Instr.mapUpdate 64 (.map (some m)) (.string ⟨n.toArray⟩) (.pointer (some ⟨X.b, 0, none⟩))).run Try.prog a = .ok () b ∧ Dp P w b base f q st m ov (putN n X ys) us Ls ∧ Chg (fun i => i = m) a b := by
  have hn2 : (⟨n.toArray⟩ : ByteArray).size ≤ maxLen := by rw [mk_size]; exact hn
  obtain ⟨b, hrun, hown, hturn⟩ := World.ownsMap.store (key := .string ⟨n.toArray⟩) (val := .pointer (some ⟨X.b, 0, none⟩)) d.mp keyS mapT (by unfold maxLen; omega) (WideMaps.keyOf_string_mk strT hn2) (ptrR_mk X.b)
  rw [show (⟨n.toArray⟩ : ByteArray).data.toList = n from rfl, put_ent] at hown
  have hc : Chg (fun i => i = m) a b := (Chg.of_grown hturn.grown).mono (fun i _ e => by cases e; rfl)
  have hm : Mp b m (putN n X ys) := by
    have := own_tight hown
    unfold Mp
    rw [List.length_map] at this
    exact this
  exact ⟨b, hrun, d.mapped hc hm, hc⟩
/-- a name is taken away -/
theorem Dp.drop {P : Nat → Prop} {w a : World} {base f m : Nat} {q st : Int} {ov : Value} {ys : List (List UInt8 × Fl)} {us : List Ux} {Ls : List Fl} (d : Dp P w a base f q st m ov ys us Ls) (n : List UInt8) (hn : n.length ≤ maxLen) :
    ∃ b, (∀ ty, (Builtin.delete_ #[64, 9] ty #[.map (some m), .string ⟨n.toArray⟩]).run Try.prog a = .ok (.tuple #[]) b) ∧ Dp P w b base f q st m ov (delN n ys) us Ls ∧ Chg (fun i => i = m) a b := by
  have hn2 : (⟨n.toArray⟩ : ByteArray).size ≤ maxLen := by rw [mk_size]; exact hn
  obtain ⟨b, hrun, hown, hturn⟩ := World.ownsMap.drop (key := .string ⟨n.toArray⟩) d.mp keyS mapT (WideMaps.keyOf_string_mk strT hn2) 0
  rw [show (⟨n.toArray⟩ : ByteArray).data.toList = n from rfl, del_ent] at hown
  have hc : Chg (fun i => i = m) a b := (Chg.of_grown hturn.grown).mono (fun i _ e => by cases e; rfl)
  have hm : Mp b m (delN n ys) := by
    have := own_tight hown
    unfold Mp
    rw [List.length_map] at this
    exact this
  exact ⟨b, fun ty => hrun, d.mapped hc hm, hc⟩
/-- a file more -/
theorem Dp.addf {P : Nat → Prop} {w a : World} {base f m : Nat} {q st : Int} {ov : Value} {ys : List (List UInt8 × Fl)} {us : List Ux} {Ls : List Fl} {Y : Fl} (d : Dp P w a base f q st m ov ys us Ls) (hY : FlOk a base Y) (hb : newer P w Y.b) (hv : ∀ g, Y.v.ownBlock = some g → newer P w g) (nb : ∀ x ∈ Ls, x.b ≠ Y.b) (nv : ∀ x ∈ Ls, ∀ g, x.v.ownBlock = some g → Y.v.ownBlock ≠ some g) : Dp P w a base f q st m ov ys us (Y :: Ls) :=
  ⟨d.bs, d.pb, d.ch, d.pf, d.fs, d.row, d.po, d.pm, d.mp, Fls.add (w := a) (A := []) (B := Ls) d.fl hY nb nv rfl, fun x hx => by
    rcases List.mem_cons.1 hx with rfl | hx
    · exact ⟨hb, hv⟩
    · exact d.pl x hx, d.un⟩
/-- one more change of names is open -/
theorem Dp.push {P : Nat → Prop} {w a : World} {base f m : Nat} {q st : Int} {ov : Value} {ys : List (List UInt8 × Fl)} {us : List Ux} {Ls : List Fl} (d : Dp P w a base f q st m ov ys us Ls) (u : Ux) (uv : Value) (huv : u.val = uv) (hu : u.ok (newer P w) a) (hl : us.length ≤ 9000000) (h1 : u.val.oneCell' = true) :
    ∃ P4 C4 b, (∀ ty, (Builtin.append_ #[65, 65] ty #[ov, .slice (some ⟨a.heap.size, 0, none⟩) 1 1]).run Try.prog (a.alloc (.cells #[uv] 72)) = .ok (.slice P4 (us.length + 1) C4) b) ∧ FsAt b f q (some m) ov st ∧ Dp P w (b.setCell ⟨f, 2, none⟩ (.slice P4 (us.length + 1) C4)) base f q st m (.slice P4 (us.length + 1) C4) ys (us ++ [u]) Ls := by
  subst huv
  obtain ⟨i0, hi, hz0, hz1, hz2⟩ := info_parts fnInfo
  have key : ∀ ty, ∃ v' w', (Builtin.append_ #[65, 65] ty #[ov, .slice (some ⟨a.heap.size, 0, none⟩) 1 1]).run Try.prog (a.alloc (.cells #[u.val] 72)) = .ok v' w' ∧ w'.ownsRow base 72 1 v' (us.length + 1) (us.map Ux.val ++ [u.val]) ∧ (a.alloc (.cells #[u.val] 72)).grownBy w' ov.ownBlock ∧ (v' = .slice none 0 0 ↔ ov = .slice none 0 0 ∧ 1 = 0) ∧ (v'.ownBlock = ov.ownBlock ∨ v'.ownBlock = some (a.alloc (.cells #[u.val] 72)).heap.size) := fun ty =>
    run_append_own_at (P := Try.prog) _ base 65 ty 72 i0 .nilFunc 1 8 fnSlice hi hz0 hz1 hz2 rfl (by decide) ov us.length (us.map Ux.val) (d.row.alloc _) ⟨a.heap.size, 0, none⟩ 1 1 [u.val] rfl (cell_one_new _ _ _) (by intro y hy; simp at hy; subst hy; exact h1) (by unfold maxLen; omega) (by omega) (by have := d.bs; have := d.ch.size; simp; omega)
  obtain ⟨v', b, hrun, hrow, hg, _, h5⟩ := key 0
  obtain ⟨P4, C4, rfl⟩ := row_form hrow
  have hc : Chg (fun i => ov.ownBlock = some i) a b := (Chg.of_alloc a _ _).trans (Chg.of_grown hg)
  have kind : ∀ i, ov.ownBlock = some i → ∃ cs, a.heap[i]? = some (.cells cs 72 (0, 0)) := fun i e => own_kind d.row i e
  have h1f := d.fs
  have nf : ¬ ov.ownBlock = some f := fun e => by obtain ⟨cs, hk⟩ := kind _ e; unfold FsAt at h1f; rw [h1f] at hk; simp at hk
  have F4 : FsAt b f q (some m) ov st := hc.at_ h1f nf
  have c5 : Chg (fun i => i = f) b (b.setCell ⟨f, 2, none⟩ (.slice P4 (us.length + 1) C4)) := Keep.set b f 2 _
  have c35 : Chg (fun i => i = f ∨ ov.ownBlock = some i) a (b.setCell ⟨f, 2, none⟩ (.slice P4 (us.length + 1) C4)) := (hc.mono (fun i _ e => Or.inr e)).trans (c5.mono (fun i _ e => Or.inl e))
  have kindS : ∀ i, (i = f ∨ ov.ownBlock = some i) → ∃ cs t, a.heap[i]? = some (.cells cs t (0, 0)) ∧ (t = 67 ∨ t = 72) := by
    rintro i (rfl | e)
    · exact ⟨_, _, h1f, Or.inl rfl⟩
    · obtain ⟨cs, hk⟩ := kind _ e
      exact ⟨_, _, hk, Or.inr rfl⟩
  refine ⟨P4, C4, b, fun ty => hrun, F4, ⟨d.bs, d.pb, d.ch.step c35 (fun i e => ?_), d.pf, (block_setCell F4 _).trans rfl, ?_, fun g hg => ?_, d.pm, c35.map d.mp (fun e => ?_), c35.files d.fl (fun r e => ?_), d.pl, fun u' hu' => c35.ux ?_ (fun r e => ?_)⟩⟩
  · rcases e with rfl | e
    · exact Or.inl d.pf
    · exact d.po i e
  · have e : (us ++ [u]).length = us.length + 1 := by simp
    have e2 : (us ++ [u]).map Ux.val = us.map Ux.val ++ [u.val] := by simp
    rw [e, e2]
    refine c5.row hrow (fun g hg e => ?_)
    obtain ⟨cs, hk⟩ := own_kind hrow g hg
    have e : g = f := e
    unfold FsAt at F4
    rw [e, F4] at hk; simp at hk
  · rcases h5 with h5 | h5
    · exact d.po g (h5.symm.trans hg)
    · rw [h5] at hg
      have : (a.alloc (.cells #[u.val] 72)).heap.size = g := by simpa using hg
      simp at this
      have := d.ch.size
      exact Or.inr (by omega)
  · obtain ⟨cs, t, hk, _⟩ := kindS _ e
    obtain ⟨es, c, hk'⟩ := d.mp.kind
    rw [hk'] at hk; simp at hk
  · obtain ⟨cs, t, hk, ht⟩ := kindS _ e
    refine other_cells hk ?_ ?_ <;> rcases ht with rfl | rfl <;> decide
  · rw [List.mem_append] at hu'
    rcases hu' with hu' | hu'
    · exact d.un u' hu'
    · rw [List.mem_singleton] at hu'; subst hu'; exact hu
  · obtain ⟨cs, t, hk, ht⟩ := kindS _ e
    refine plainB_cells hk ?_ ?_ <;> rcases ht with rfl | rfl <;> decide
/-- the change is made -/
theorem Dp.done {P : Nat → Prop} {w a : World} {base f m : Nat} {q st : Int} {ov : Value} {ys : List (List UInt8 × Fl)} {us : List Ux} {Ls Ms : List Fl} (d : Dp P w a base f q st m ov ys us Ls) (hs : Ms.Sublist Ls) (hp : Ms.Perm (ys.map (·.2) ++ us.flatMap Ux.lost)) : Dsk (ext P w a) a base f q st (some m) ys us ∧ Chg P w a := by
  have up : ∀ i, newer P w i → i < a.heap.size → ext P w a i := fun i h hi => by
    rcases h with h | h
    · exact Or.inl h
    · exact Or.inr ⟨h, hi⟩
  have hmem : ∀ x, x ∈ ys.map (·.2) ++ us.flatMap Ux.lost → x ∈ Ls := fun x hx => hs.subset (hp.mem_iff.2 hx)
  obtain ⟨es, ck, hmk⟩ := d.mp.kind
  refine ⟨⟨Nat.le_trans d.bs d.ch.size, ext_bd d.bs d.ch.size d.pb, Or.inl d.pf, ⟨ov, d.fs, d.row, fun g hg => up g (d.po g hg) ?_⟩, fun m' e => ?_, (fun e => by cases e), (d.fl.sub hs).perm hp, fun x hx => ⟨up _ (d.pl x (hmem x hx)).1 (lt_of_heap (d.fl.ok x (hmem x hx)).at_), fun g hg => up g ((d.pl x (hmem x hx)).2 g hg) ?_⟩, fun u hu => ?_⟩, d.ch⟩
  · obtain ⟨cs, hk⟩ := own_kind d.row g hg
    exact lt_of_heap hk
  · cases e
    exact ⟨up _ d.pm (lt_of_heap hmk), d.mp⟩
  · obtain ⟨cs, hk⟩ := own_kind (d.fl.ok x (hmem x hx)).row g hg
    exact lt_of_heap hk
  · have k := d.un u hu
    exact ⟨up _ k.pc (lt_of_heap k.c), k.c, fun y hy => ⟨up _ (k.r y hy).1 (lt_of_heap (k.r y hy).2), (k.r y hy).2⟩, fun z hz => ⟨up _ (k.l z hz).1 (lt_of_heap (k.l z hz).2), (k.l z hz).2⟩⟩
/-- a map is made where there was none -/
theorem Dp.fresh {P : Nat → Prop} {w a : World} {base f : Nat} {q st : Int} {xs : List (List UInt8 × Fl)} {us : List Ux} (d : Dsk P a base f q st none xs us) (hc : Chg P w a) (bs : base ≤ w.heap.size) (pb : ∀ i, P i → base ≤ i ∧ i < w.heap.size) : xs = [] ∧ us = [] ∧ ∃ ov, Dp P w ((a.setCell ⟨f, 1, none⟩ (.map (some a.heap.size))).alloc (.map #[] 0)) base f q st a.heap.size ov [] [] [] := by
  obtain ⟨rfl, rfl⟩ := d.mn rfl
  obtain ⟨ov, h1, h2, h3⟩ := d.fs
  refine ⟨rfl, rfl, ov, ?_⟩
  have c1 : Chg (fun i => i = f) a (a.setCell ⟨f, 1, none⟩ (.map (some a.heap.size))) := Keep.set a f 1 _
  have hf1 : FsAt (a.setCell ⟨f, 1, none⟩ (.map (some a.heap.size))) f q (some a.heap.size) ov st := (block_setCell h1 _).trans rfl
  have g2 := World.grownBy_alloc (a.setCell ⟨f, 1, none⟩ (.map (some a.heap.size))) (.map #[] 0) none
  have c2 : Chg (fun _ => False) (a.setCell ⟨f, 1, none⟩ (.map (some a.heap.size))) _ := Chg.of_none g2 _
  have hs : (a.setCell ⟨f, 1, none⟩ (.map (some a.heap.size))).heap.size = a.heap.size := by simp
  refine ⟨bs, pb, (hc.step c1 (fun i e => by subst e; exact Or.inl d.pf)).step c2 (fun _ e => e.elim), d.pf, c2.at_ hf1 id, c2.row (c1.row h2 (fun g hg e => ?_)) (fun _ _ e => e), fun g hg => Or.inl (h3 g hg), Or.inr hc.size, ?_, ⟨fun x hx => by simp at hx, List.Pairwise.nil, List.Pairwise.nil⟩, fun x hx => by simp at hx, fun u hu => by simp at hu⟩
  · obtain ⟨cs, hk⟩ := own_kind h2 g hg
    have e : g = f := e
    unfold FsAt at h1
    rw [e, h1] at hk; simp at hk
  · have := World.ownsMap_made (a.setCell ⟨f, 1, none⟩ (.map (some a.heap.size))) Try.prog 9 ptrR
    rw [hs] at this
    exact this
end Go.Proofs.Ytdiehlioemmakaa

