/-
 The walks of First and Last.
-/
import Derived.Test.YtclcajnodoifjaaGreatDoorIAQ
import Derived.Test.YtclcajnodoifjaaGreatDoorIAJ
import Derived.Test.YtclcajnodoifjaaGreatDoorIAO
namespace Go.Proofs.YtclcajnodoifjaaGreatDoor
open Go.RowKit Go.Shelf Go.Joins Go.Maps
attribute [local go_sem] Oper.semAt_some
set_option maxRecDepth 100000

theorem bxT3 (w : World) (a b c : Obj) : (((w.alloc a).alloc b).alloc c).heap[w.heap.size]? = some a ∧ (((w.alloc a).alloc b).alloc c).heap[w.heap.size + 1]? = some b ∧ (((w.alloc a).alloc b).alloc c).heap[w.heap.size + 1 + 1]? = some c ∧ Below w.heap.size w (((w.alloc a).alloc b).alloc c) ∧ (((w.alloc a).alloc b).alloc c).heap.size = w.heap.size + 1 + 1 + 1 := by
 obtain ⟨a0, a1, ab, as_⟩ := bx2 w a b
 obtain ⟨w2, h2⟩ : ∃ w2, w2 = (w.alloc a).alloc b := ⟨_, rfl⟩
 rw [← h2] at a0 a1 ab as_ ⊢
 have eb := (Below.refl _ w2).alloc (Nat.le_refl _) c
 have e0 := heap_alloc_new w2 c
 rw [as_] at e0
 exact ⟨(eb.block _ (lt_of_heap a0)).trans a0, (eb.block _ (lt_of_heap a1)).trans a1, e0, ab.trans (eb.mono ab.size), by rw [World.size_alloc, as_]⟩
theorem hd_first {L : List Em} {e : En} {rest : List En} (h : L.map (fun x => x.e) = e :: rest) : ∃ q r, L = q :: r ∧ q.e = e := by
 cases L with
 | nil => cases h
 | cons q r => exact ⟨q, r, rfl, (List.cons.inj h).1⟩
theorem btw_all (L : List Em) : btw [] [] false false L = L := by
 have h1 : (fun q : Em => loB [] false q.e) = fun _ => true := by funext q; simp [loB]
 have h2 : (fun q : Em => hiB [] false q.e) = fun _ => true := by funext q; simp [hiB]
 unfold btw
 rw [h1, h2]
 simp [within]
/-- the three result cells -/
structure FsI (w : World) (a b c : Value) (A : World) : Prop where
 x : A.heap[w.heap.size]? = some (.cells #[a] 30 (0, 0))
 y : A.heap[w.heap.size + 1]? = some (.cells #[b] 31 (0, 0))
 z : A.heap[w.heap.size + 1 + 1]? = some (.cells #[c] 4 (0, 0))
 bl : Below w.heap.size w A
theorem FsI.own {w : World} {a b c : Value} {B : Nat} (hB : w.heap.size ≤ B) : OwnFrom B (fun (_ : Unit) A => FsI w a b c A) := fun s X Z row hs hg hr =>
 ⟨cells_own hg (fun r e => (hr r e).2) hs.x, cells_own hg (fun r e => (hr r e).2) hs.y, cells_own hg (fun r e => (hr r e).2) hs.z, ownFrom_below (β := Unit) (Nat.le_refl _) hB s X Z row hs.bl hg hr⟩
theorem FsI.set {w A : World} {a b c a' b' c' : Value} (hi : FsI w a b c A) : FsI w a' b' c' (((A.setCell ⟨w.heap.size, 0, none⟩ a').setCell ⟨w.heap.size + 1, 0, none⟩ b').setCell ⟨w.heap.size + 1 + 1, 0, none⟩ c') := by
 have ne1 : w.heap.size ≠ w.heap.size + 1 := by omega
 have ne2 : w.heap.size ≠ w.heap.size + 1 + 1 := by omega
 have ne3 : w.heap.size + 1 ≠ w.heap.size + 1 + 1 := by omega
 have ge1 : w.heap.size ≤ w.heap.size + 1 := by omega
 have ge2 : w.heap.size ≤ w.heap.size + 1 + 1 := by omega
 refine ⟨?_, ?_, ?_, below_set (below_set (below_set hi.bl _ _ (Nat.le_refl _)) _ _ ge1) _ _ ge2⟩
 ·exact ((heap_setCell_other _ _ _ _ ne2).trans (heap_setCell_other _ _ _ _ ne1)).trans (heap_set_in (o := 0) hi.x)
 ·exact (heap_setCell_other _ _ _ _ ne3).trans (heap_set_in (o := 0) ((heap_setCell_other _ _ _ _ ne1.symm).trans hi.y))
 ·exact heap_set_in (o := 0) ((heap_setCell_other _ _ _ _ ne3.symm).trans ((heap_setCell_other _ _ _ _ ne2.symm).trans hi.z))
theorem ko_set3 (A : World) (x y z : Addr) (a b c : Value) : KeepsOthers A (((A.setCell x a).setCell y b).setCell z c) := ((KeepsOthers.setCell _ _ _).trans (KeepsOthers.setCell _ _ _)).trans (KeepsOthers.setCell _ _ _)
/-- the cells behind the loop's end -/
theorem FsI.end_ {w A : World} {a b c : Value} {D : Nat} {o : Obj} (hi : FsI w a b c A) (hK : A.heap[D]? = some o) (ho : o.isCells = false) (o' : Obj) (hD : w.heap.size ≤ D) : (A.putObj D o').cell? ⟨w.heap.size, 0, none⟩ = some a ∧ (A.putObj D o').cell? ⟨w.heap.size + 1, 0, none⟩ = some b ∧ (A.putObj D o').cell? ⟨w.heap.size + 1 + 1, 0, none⟩ = some c ∧ Below w.heap.size w (A.putObj D o') := by
 have hr : ∀ r, some D = some r → ∃ o : Obj, A.heap[r]? = some o ∧ o.isCells = false := fun r e => by cases e; exact ⟨_, hK, ho⟩
 exact ⟨(cell_of_block (cells_own (grownBy_putObj' A D o') hr hi.x) 0).trans rfl, (cell_of_block (cells_own (grownBy_putObj' A D o') hr hi.y) 0).trans rfl, (cell_of_block (cells_own (grownBy_putObj' A D o') hr hi.z) 0).trans rfl, hi.bl.grown (grownBy_putObj' A D o') hi.bl.size (fun k e => by cases e; exact hD)⟩
def FsX (w : World) (Tot : List Em) (c : Code) (pre : List (Hd Tot)) (A : World) : Prop := c = .ret ∧ ∃ x, pre = [x] ∧ FsI w (.slice (some ⟨x.1.g, 0, none⟩) x.1.e.key.length x.1.c) (.int .u64 x.1.e.id) (.bool true) A ∧ KeyOk (fun b => w.heap.size + 1 + 1 < b) A x.1
theorem FsX.own {w : World} {Tot : List Em} {B : Nat} (hB : w.heap.size ≤ B) (c : Code) : OwnFrom B (FsX w Tot c) := fun _ X Z row hs hg hr => by
 obtain ⟨h1, x, h2, h3, h4⟩ := hs
 exact ⟨h1, x, h2, FsI.own hB () X Z row h3 hg hr, h4.keeps ((keeps_own hg (fun r e => (hr r e).2)).mono (fun _ _ => trivial))⟩
/-- what First and Last answer of the entries in their order -/
def FsQ (w : World) (Tot : List Em) (e : Ending) (w' : World) : Prop := Below w.heap.size w w' ∧ ((Tot = [] ∧ e = .returned (.tuple #[.slice none 0 0, .int .u64 0, .bool false])) ∨ ∃ q c rest, Tot = q :: rest ∧ ∃ g, e = .returned (.tuple #[.slice (some ⟨g, 0, none⟩) q.e.key.length c, .int .u64 q.e.id, .bool true]) ∧ valsAt w' g q.e.key ∧ 0 < q.e.key.length ∧ q.e.key.length ≤ 4 ∧ ∀ v ∈ q.e.key, fit v.n)
set_option maxHeartbeats 8000000 in
set_option maxRecDepth 1000000 in
theorem First_any (T : Nat → Prop) (d l bt : Nat) (n : Nd Em) (p1 : Option Addr) (n1 c1 : Nat) (p2 : Option Addr) (n2 c2 : Nat) (w : World) (hn : RtIn T w d l n (.slice p1 n1 c1) (.slice p2 n2 c2)) (k1 : w.cell? ⟨bt, 1, none⟩ = some (.slice p1 n1 c1)) (k2 : w.cell? ⟨bt, 2, none⟩ = some (.slice p2 n2 c2)) :
  Calls Tryz.prog 32 #[.pointer (some ⟨bt, 0, none⟩)] w fun e w' => FsQ w n.fl e w' := by
 refine callsIn_wide (n := 3) |>.1 ?_
 obtain ⟨w0, hw0⟩ : ∃ w0, w0 = ((w.alloc (.cells #[.slice none 0 0] 30)).alloc (.cells #[.int .u64 0] 31)).alloc (.cells #[.bool false] 4) := ⟨_, rfl⟩
 obtain ⟨d0, d1, d2, bb, bs⟩ := bxT3 w (.cells #[.slice none 0 0] 30) (.cells #[.int .u64 0] 31) (.cells #[.bool false] 4)
 rw [← hw0] at d0 d1 d2 bb bs
 obtain ⟨Tot, hTot⟩ : ∃ Tot, Tot = n.fl := ⟨_, rfl⟩
 have hTot' : Tot = within (fun q : Em => loB [] false q.e) (fun q : Em => hiB [] false q.e) n.fl := by rw [hTot]; exact (btw_all n.fl).symm
 rw [← hTot]
 have RG : Hid (Calls Tryz.prog 17 #[.pointer (some ⟨bt, 0, none⟩), .agg #[.slice none 0 0, .slice none 0 0, .bool false, .bool false]] w0 fun e w' => RngQ 40 w0 bt [] [] false false e w') := Range_any bt none none 0 0 [] [] false false w0 (Or.inl rfl) (Or.inl rfl) (fun _ => rfl) (fun _ => rfl) (by simp) (by simp)
 have SE : Hid (∀ (w2 : World) (B1 B2 : Nat) (f1 f2 : Value), Below w0.heap.size w0 w2 → BoxAt w0 w2 B1 (.cells #[.pointer (some ⟨bt, 0, none⟩)] 23 (0, 0)) → BoxAt w0 w2 B2 (.cells #[f1, f2] 72 (0, 0)) → SpnAt w0 w2 [] [] false false f1 f2 → SeqX Tryz.prog 40 #[.pointer (some ⟨B1, 0, none⟩), .pointer (some ⟨B2, 0, none⟩)] hdV (hdK (fun b => w.heap.size ≤ b ∧ b < w0.heap.size)) hdP hdS (hdSp (Tot := Tot)) Tot.length w2) := fun w2 B1 B2 f1 f2 hb x1 x2 sp => by
  have kp : Keeps (fun b => ¬ (w.heap.size ≤ b ∧ b < w0.heap.size)) w w2 := (Keeps.of_below bb).trans (Keeps.of_below hb)
  have r1 : RtIn (fun b => ¬ (w.heap.size ≤ b ∧ b < w0.heap.size)) w2 d l n (.slice p1 n1 c1) (.slice p2 n2 c2) := (hn.mono (fun b hb _ h => by omega)).keeps kp
  obtain ⟨fl_, fh, ll, lh, rfl, rfl, so⟩ := sp.ok (T := fun b => ¬ (w.heap.size ≤ b ∧ b < w0.heap.size)) (fun b h1 _ h => by omega) (by simp) (by simp) (by simp) (by simp)
  exact range1_x (fun b => ¬ (w.heap.size ≤ b ∧ b < w0.heap.size)) (fun b => w.heap.size ≤ b ∧ b < w0.heap.size) fl_ fh ll lh (loB [] false) (hiB [] false) d l bt B1 B2 n p1 n1 c1 p2 n2 c2 Tot w2 hTot' r1 so (fun b h => by have := hb.size; omega) (fun b h k => k h) (((Keeps.of_below bb).trans (Keeps.of_below hb) : Keeps (fun _ => True) w w2).cell trivial k1) (((Keeps.of_below bb).trans (Keeps.of_below hb) : Keeps (fun _ => True) w w2).cell trivial k2) x1.2 x2.2
 have i0 : FsI w (.slice none 0 0) (.int .u64 0) (.bool false) w0 := ⟨d0, d1, d2, bb⟩
 clear hn k1 k2 hTot hTot' d0 d1 d2
 refine callsIn_of_wp_marks Tryz.func32 rfl trivial ?_ rfl
 simp only [Tryz.ntmps32, List.size_toArray, List.length_cons, List.length_nil, Nat.reduceAdd, Nat.reduceSub, Array.replicate_succ, Array.replicate_zero, List.push_toArray, List.append_toArray, List.nil_append, List.cons_append]
 gi_wp2_with fail
 rw [← hw0]
 clear hw0
 refine ⟨trivial, (callsIn_wide.2 RG.out).mono ?_⟩
 rintro en w2 ⟨B1, B2, g1, g2, rfl, x1, x2, sp, b2⟩
 have SQ := mkHid (SE.out w2 B1 B2 g1 g2 b2 x1 x2 sp)
 have i2 : FsI w (.slice none 0 0) (.int .u64 0) (.bool false) w2 := ⟨(b2.block _ (lt_of_heap i0.x)).trans i0.x, (b2.block _ (lt_of_heap i0.y)).trans i0.y, (b2.block _ (lt_of_heap i0.z)).trans i0.z, bb.trans (b2.mono bb.size)⟩
 have bw2 : w.heap.size ≤ w2.heap.size := i2.bl.size
 have lt2 : w.heap.size + 1 + 1 < w2.heap.size := lt_of_heap i2.z
 clear SE x1 x2 sp RG i0
 gi_wp2_with fail
 refine loop_x (gf := 40) (lb := #[.pointer (some ⟨B1, 0, none⟩), .pointer (some ⟨B2, 0, none⟩)]) rfl (enters_of Tryz.func40 (by kernel_rfl) rfl) SQ.out (fun x _ _ _ h k => Keeps.trans h k) (fun x W l o o' _ h1 h2 _ => keepsK_b h1 h2) (Below.refl _ _) (fun _ => rfl) (fun x => hdP_own x)
  (fun pre A => pre = [] ∧ FsI w (.slice none 0 0) (.int .u64 0) (.bool false) A) (FsX w Tot) (fun s X Z row hs hg hr => ⟨hs.1, FsI.own bw2 () X Z row hs.2 hg hr⟩) (FsX.own bw2) ⟨rfl, i2⟩ ?acts ?assign ?body ?done ?stop
 case assign =>
  intro lr x A K hK
  have e : hdV x = #[.slice (some ⟨x.1.g, 0, none⟩) x.1.e.key.length x.1.c, .int .u64 x.1.e.id] := rfl
  rw [e]
  gi_wp2_with fail
  go_simp
  exact hK
 case body =>
  rintro lr pre x A ⟨rfl, hi⟩ hp hlt
  have q0 : A.cell? ⟨w.heap.size, 0, none⟩ = some (.slice none 0 0) := (cell_of_block hi.x 0).trans rfl
  have q1 : A.cell? ⟨w.heap.size + 1, 0, none⟩ = some (.int .u64 0) := (cell_of_block hi.y 0).trans rfl
  have q2 : A.cell? ⟨w.heap.size + 1 + 1, 0, none⟩ = some (.bool false) := (cell_of_block hi.z 0).trans rfl
  have y0 : A.frozen? ⟨w.heap.size, 0, none⟩ = false := unfrozen_of_block hi.x 0
  have y1 : A.frozen? ⟨w.heap.size + 1, 0, none⟩ = false := unfrozen_of_block hi.y 0
  have y2 : A.frozen? ⟨w.heap.size + 1 + 1, 0, none⟩ = false := unfrozen_of_block hi.z 0
  have FN : Hid (KeepsFrom w2.heap.size A (((A.setCell ⟨w.heap.size, 0, none⟩ (.slice (some ⟨x.1.g, 0, none⟩) x.1.e.key.length x.1.c)).setCell ⟨w.heap.size + 1, 0, none⟩ (.int .u64 x.1.e.id)).setCell ⟨w.heap.size + 1 + 1, 0, none⟩ (.bool true)) ∧ FsX w Tot .ret ([] ++ [x]) (((A.setCell ⟨w.heap.size, 0, none⟩ (.slice (some ⟨x.1.g, 0, none⟩) x.1.e.key.length x.1.c)).setCell ⟨w.heap.size + 1, 0, none⟩ (.int .u64 x.1.e.id)).setCell ⟨w.heap.size + 1 + 1, 0, none⟩ (.bool true))) := by
   refine ⟨(ko_set3 _ _ _ _ _ _ _).from _, rfl, x, rfl, hi.set, ?_⟩
   ·refine (hp.1.mono (U := fun b => w.heap.size + 1 + 1 < b) (fun b _ h => by omega)).keeps ?_
    refine ⟨by simp, fun b cs t z hb hc => ?_⟩
    exact ((heap_setCell_other _ _ _ _ (by show b ≠ w.heap.size + 1 + 1; omega)).trans ((heap_setCell_other _ _ _ _ (by show b ≠ w.heap.size + 1; omega)).trans (heap_setCell_other _ _ _ _ (by show b ≠ w.heap.size; omega)))).trans hc
  clear hi hp i2 hlt
  gi_wp2_with fail
  exact FN.out
 case done =>
  rintro D9 ys A hD9 hS ⟨rfl, hi⟩ hK
  have hT : Hid (Tot = []) := by
   have : Tot.map (fun x => x.e) = [] := hS.symm
   exact List.map_eq_nil_iff.1 this
  have q0 : A.cell? ⟨w.heap.size, 0, none⟩ = some (.slice none 0 0) := (cell_of_block hi.x 0).trans rfl
  have q1 : A.cell? ⟨w.heap.size + 1, 0, none⟩ = some (.int .u64 0) := (cell_of_block hi.y 0).trans rfl
  have q2 : A.cell? ⟨w.heap.size + 1 + 1, 0, none⟩ = some (.bool false) := (cell_of_block hi.z 0).trans rfl
  have y0 : A.frozen? ⟨w.heap.size, 0, none⟩ = false := unfrozen_of_block hi.x 0
  have y1 : A.frozen? ⟨w.heap.size + 1, 0, none⟩ = false := unfrozen_of_block hi.y 0
  have y2 : A.frozen? ⟨w.heap.size + 1 + 1, 0, none⟩ = false := unfrozen_of_block hi.z 0
  have HI := mkHid hi
  clear hi i2 hS
  gi_wp2_with fail
  have hF := HI.out.set (a' := .slice none 0 0) (b' := .int .u64 0) (c' := .bool false)
  have hK' := (ko_set3 A ⟨w.heap.size, 0, none⟩ ⟨w.heap.size + 1, 0, none⟩ ⟨w.heap.size + 1 + 1, 0, none⟩ (.slice none 0 0) (.int .u64 0) (.bool false)).same D9 _ hK rfl
  refine ⟨by simp, .inl ⟨_, _, rfl, run_takeDeferred hK', ?_⟩⟩
  obtain ⟨v0, v1, v2, v3⟩ := hF.end_ hK' rfl (.deferred none) (Nat.le_trans bw2 hD9)
  refine ⟨.tuple #[.slice none 0 0, .int .u64 0, .bool false], ?_, v3, Or.inl ⟨hT.out, rfl⟩⟩
  simp [results, Tryz.f32, go_sem, v0, v1, v2]
 case stop =>
  rintro D9 c pre A hD9 ⟨rest, hpre⟩ ⟨rfl, x, rfl, hi, hx⟩ hK
  have hT : Hid (∃ q rest', Tot = q :: rest' ∧ q.e = x.1.e) := hd_first (rest := rest) hpre
  have HI := mkHid hi
  have HX := mkHid hx
  clear hi hx i2 hpre
  gi_wp2_with fail
  refine ⟨by simp, .inl ⟨_, _, rfl, run_takeDeferred hK, ?_⟩⟩
  obtain ⟨v0, v1, v2, v3⟩ := HI.out.end_ hK rfl (.deferred none) (Nat.le_trans bw2 hD9)
  obtain ⟨q, r, hq, hqe⟩ := hT.out
  have hx' := HX.out.keeps (show Keeps (fun b => w.heap.size + 1 + 1 < b) A (A.putObj D9 (.deferred none)) from keepsK_b hK rfl)
  refine ⟨.tuple #[.slice (some ⟨x.1.g, 0, none⟩) x.1.e.key.length x.1.c, .int .u64 x.1.e.id, .bool true], ?_, v3, Or.inr ⟨q, x.1.c, r, hq, x.1.g, by rw [hqe], by rw [hqe]; exact hx'.vals, by rw [hqe]; exact hx'.pos, by rw [hqe]; exact hx'.few, by rw [hqe]; exact hx'.fits⟩⟩
  simp [results, Tryz.f32, go_sem, v0, v1, v2]
set_option maxHeartbeats 8000000 in
set_option maxRecDepth 1000000 in
theorem Last_any (T : Nat → Prop) (d l bt : Nat) (n : Nd Em) (p1 : Option Addr) (n1 c1 : Nat) (p2 : Option Addr) (n2 c2 : Nat) (w : World) (hn : RtIn T w d l n (.slice p1 n1 c1) (.slice p2 n2 c2)) (k1 : w.cell? ⟨bt, 1, none⟩ = some (.slice p1 n1 c1)) (k2 : w.cell? ⟨bt, 2, none⟩ = some (.slice p2 n2 c2)) :
  Calls Tryz.prog 33 #[.pointer (some ⟨bt, 0, none⟩)] w fun e w' => FsQ w n.fl.reverse e w' := by
 refine callsIn_wide (n := 3) |>.1 ?_
 obtain ⟨w0, hw0⟩ : ∃ w0, w0 = ((w.alloc (.cells #[.slice none 0 0] 30)).alloc (.cells #[.int .u64 0] 31)).alloc (.cells #[.bool false] 4) := ⟨_, rfl⟩
 obtain ⟨d0, d1, d2, bb, bs⟩ := bxT3 w (.cells #[.slice none 0 0] 30) (.cells #[.int .u64 0] 31) (.cells #[.bool false] 4)
 rw [← hw0] at d0 d1 d2 bb bs
 obtain ⟨Tot, hTot⟩ : ∃ Tot, Tot = n.fl.reverse := ⟨_, rfl⟩
 have hTot' : Tot = (within (fun q : Em => loB [] false q.e) (fun q : Em => hiB [] false q.e) n.fl).reverse := by rw [hTot]; exact (congrArg List.reverse (btw_all n.fl)).symm
 rw [← hTot]
 have RG : Hid (Calls Tryz.prog 37 #[.pointer (some ⟨bt, 0, none⟩), .agg #[.slice none 0 0, .slice none 0 0, .bool false, .bool false]] w0 fun e w' => RngQ 61 w0 bt [] [] false false e w') := Back_any bt none none 0 0 [] [] false false w0 (Or.inl rfl) (Or.inl rfl) (fun _ => rfl) (fun _ => rfl) (by simp) (by simp)
 have SE : Hid (∀ (w2 : World) (B1 B2 : Nat) (f1 f2 : Value), Below w0.heap.size w0 w2 → BoxAt w0 w2 B1 (.cells #[.pointer (some ⟨bt, 0, none⟩)] 23 (0, 0)) → BoxAt w0 w2 B2 (.cells #[f1, f2] 72 (0, 0)) → SpnAt w0 w2 [] [] false false f1 f2 → SeqX Tryz.prog 61 #[.pointer (some ⟨B1, 0, none⟩), .pointer (some ⟨B2, 0, none⟩)] hdV (hdK (fun b => w.heap.size ≤ b ∧ b < w0.heap.size)) hdP hdS (hdSp (Tot := Tot)) Tot.length w2) := fun w2 B1 B2 f1 f2 hb x1 x2 sp => by
  have kp : Keeps (fun b => ¬ (w.heap.size ≤ b ∧ b < w0.heap.size)) w w2 := (Keeps.of_below bb).trans (Keeps.of_below hb)
  have r1 : RtIn (fun b => ¬ (w.heap.size ≤ b ∧ b < w0.heap.size)) w2 d l n (.slice p1 n1 c1) (.slice p2 n2 c2) := (hn.mono (fun b hb _ h => by omega)).keeps kp
  obtain ⟨fl_, fh, ll, lh, rfl, rfl, so⟩ := sp.ok (T := fun b => ¬ (w.heap.size ≤ b ∧ b < w0.heap.size)) (fun b h1 _ h => by omega) (by simp) (by simp) (by simp) (by simp)
  exact back1_x (fun b => ¬ (w.heap.size ≤ b ∧ b < w0.heap.size)) (fun b => w.heap.size ≤ b ∧ b < w0.heap.size) fl_ fh ll lh (loB [] false) (hiB [] false) d l bt B1 B2 n p1 n1 c1 p2 n2 c2 Tot w2 hTot' r1 so (fun b h => by have := hb.size; omega) (fun b h k => k h) (((Keeps.of_below bb).trans (Keeps.of_below hb) : Keeps (fun _ => True) w w2).cell trivial k1) (((Keeps.of_below bb).trans (Keeps.of_below hb) : Keeps (fun _ => True) w w2).cell trivial k2) x1.2 x2.2
 have i0 : FsI w (.slice none 0 0) (.int .u64 0) (.bool false) w0 := ⟨d0, d1, d2, bb⟩
 clear hn k1 k2 hTot hTot' d0 d1 d2
 refine callsIn_of_wp_marks Tryz.func33 rfl trivial ?_ rfl
 simp only [Tryz.ntmps33, List.size_toArray, List.length_cons, List.length_nil, Nat.reduceAdd, Nat.reduceSub, Array.replicate_succ, Array.replicate_zero, List.push_toArray, List.append_toArray, List.nil_append, List.cons_append]
 gi_wp2_with fail
 rw [← hw0]
 clear hw0
 refine ⟨trivial, (callsIn_wide.2 RG.out).mono ?_⟩
 rintro en w2 ⟨B1, B2, g1, g2, rfl, x1, x2, sp, b2⟩
 have SQ := mkHid (SE.out w2 B1 B2 g1 g2 b2 x1 x2 sp)
 have i2 : FsI w (.slice none 0 0) (.int .u64 0) (.bool false) w2 := ⟨(b2.block _ (lt_of_heap i0.x)).trans i0.x, (b2.block _ (lt_of_heap i0.y)).trans i0.y, (b2.block _ (lt_of_heap i0.z)).trans i0.z, bb.trans (b2.mono bb.size)⟩
 have bw2 : w.heap.size ≤ w2.heap.size := i2.bl.size
 have lt2 : w.heap.size + 1 + 1 < w2.heap.size := lt_of_heap i2.z
 clear SE x1 x2 sp RG i0
 gi_wp2_with fail
 refine loop_x (gf := 61) (lb := #[.pointer (some ⟨B1, 0, none⟩), .pointer (some ⟨B2, 0, none⟩)]) rfl (enters_of Tryz.func61 (by kernel_rfl) rfl) SQ.out (fun x _ _ _ h k => Keeps.trans h k) (fun x W l o o' _ h1 h2 _ => keepsK_b h1 h2) (Below.refl _ _) (fun _ => rfl) (fun x => hdP_own x)
  (fun pre A => pre = [] ∧ FsI w (.slice none 0 0) (.int .u64 0) (.bool false) A) (FsX w Tot) (fun s X Z row hs hg hr => ⟨hs.1, FsI.own bw2 () X Z row hs.2 hg hr⟩) (FsX.own bw2) ⟨rfl, i2⟩ ?acts ?assign ?body ?done ?stop
 case assign =>
  intro lr x A K hK
  have e : hdV x = #[.slice (some ⟨x.1.g, 0, none⟩) x.1.e.key.length x.1.c, .int .u64 x.1.e.id] := rfl
  rw [e]
  gi_wp2_with fail
  go_simp
  exact hK
 case body =>
  rintro lr pre x A ⟨rfl, hi⟩ hp hlt
  have q0 : A.cell? ⟨w.heap.size, 0, none⟩ = some (.slice none 0 0) := (cell_of_block hi.x 0).trans rfl
  have q1 : A.cell? ⟨w.heap.size + 1, 0, none⟩ = some (.int .u64 0) := (cell_of_block hi.y 0).trans rfl
  have q2 : A.cell? ⟨w.heap.size + 1 + 1, 0, none⟩ = some (.bool false) := (cell_of_block hi.z 0).trans rfl
  have y0 : A.frozen? ⟨w.heap.size, 0, none⟩ = false := unfrozen_of_block hi.x 0
  have y1 : A.frozen? ⟨w.heap.size + 1, 0, none⟩ = false := unfrozen_of_block hi.y 0
  have y2 : A.frozen? ⟨w.heap.size + 1 + 1, 0, none⟩ = false := unfrozen_of_block hi.z 0
  have FN : Hid (KeepsFrom w2.heap.size A (((A.setCell ⟨w.heap.size, 0, none⟩ (.slice (some ⟨x.1.g, 0, none⟩) x.1.e.key.length x.1.c)).setCell ⟨w.heap.size + 1, 0, none⟩ (.int .u64 x.1.e.id)).setCell ⟨w.heap.size + 1 + 1, 0, none⟩ (.bool true)) ∧ FsX w Tot .ret ([] ++ [x]) (((A.setCell ⟨w.heap.size, 0, none⟩ (.slice (some ⟨x.1.g, 0, none⟩) x.1.e.key.length x.1.c)).setCell ⟨w.heap.size + 1, 0, none⟩ (.int .u64 x.1.e.id)).setCell ⟨w.heap.size + 1 + 1, 0, none⟩ (.bool true))) := by
   refine ⟨(ko_set3 _ _ _ _ _ _ _).from _, rfl, x, rfl, hi.set, ?_⟩
   ·refine (hp.1.mono (U := fun b => w.heap.size + 1 + 1 < b) (fun b _ h => by omega)).keeps ?_
    refine ⟨by simp, fun b cs t z hb hc => ?_⟩
    exact ((heap_setCell_other _ _ _ _ (by show b ≠ w.heap.size + 1 + 1; omega)).trans ((heap_setCell_other _ _ _ _ (by show b ≠ w.heap.size + 1; omega)).trans (heap_setCell_other _ _ _ _ (by show b ≠ w.heap.size; omega)))).trans hc
  clear hi hp i2 hlt
  gi_wp2_with fail
  exact FN.out
 case done =>
  rintro D9 ys A hD9 hS ⟨rfl, hi⟩ hK
  have hT : Hid (Tot = []) := by
   have : Tot.map (fun x => x.e) = [] := hS.symm
   exact List.map_eq_nil_iff.1 this
  have q0 : A.cell? ⟨w.heap.size, 0, none⟩ = some (.slice none 0 0) := (cell_of_block hi.x 0).trans rfl
  have q1 : A.cell? ⟨w.heap.size + 1, 0, none⟩ = some (.int .u64 0) := (cell_of_block hi.y 0).trans rfl
  have q2 : A.cell? ⟨w.heap.size + 1 + 1, 0, none⟩ = some (.bool false) := (cell_of_block hi.z 0).trans rfl
  have y0 : A.frozen? ⟨w.heap.size, 0, none⟩ = false := unfrozen_of_block hi.x 0
  have y1 : A.frozen? ⟨w.heap.size + 1, 0, none⟩ = false := unfrozen_of_block hi.y 0
  have y2 : A.frozen? ⟨w.heap.size + 1 + 1, 0, none⟩ = false := unfrozen_of_block hi.z 0
  have HI := mkHid hi
  clear hi i2 hS
  gi_wp2_with fail
  have hF := HI.out.set (a' := .slice none 0 0) (b' := .int .u64 0) (c' := .bool false)
  have hK' := (ko_set3 A ⟨w.heap.size, 0, none⟩ ⟨w.heap.size + 1, 0, none⟩ ⟨w.heap.size + 1 + 1, 0, none⟩ (.slice none 0 0) (.int .u64 0) (.bool false)).same D9 _ hK rfl
  refine ⟨by simp, .inl ⟨_, _, rfl, run_takeDeferred hK', ?_⟩⟩
  obtain ⟨v0, v1, v2, v3⟩ := hF.end_ hK' rfl (.deferred none) (Nat.le_trans bw2 hD9)
  refine ⟨.tuple #[.slice none 0 0, .int .u64 0, .bool false], ?_, v3, Or.inl ⟨hT.out, rfl⟩⟩
  simp [results, Tryz.f33, go_sem, v0, v1, v2]
 case stop =>
  rintro D9 c pre A hD9 ⟨rest, hpre⟩ ⟨rfl, x, rfl, hi, hx⟩ hK
  have hT : Hid (∃ q rest', Tot = q :: rest' ∧ q.e = x.1.e) := hd_first (rest := rest) hpre
  have HI := mkHid hi
  have HX := mkHid hx
  clear hi hx i2 hpre
  gi_wp2_with fail
  refine ⟨by simp, .inl ⟨_, _, rfl, run_takeDeferred hK, ?_⟩⟩
  obtain ⟨v0, v1, v2, v3⟩ := HI.out.end_ hK rfl (.deferred none) (Nat.le_trans bw2 hD9)
  obtain ⟨q, r, hq, hqe⟩ := hT.out
  have hx' := HX.out.keeps (show Keeps (fun b => w.heap.size + 1 + 1 < b) A (A.putObj D9 (.deferred none)) from keepsK_b hK rfl)
  refine ⟨.tuple #[.slice (some ⟨x.1.g, 0, none⟩) x.1.e.key.length x.1.c, .int .u64 x.1.e.id, .bool true], ?_, v3, Or.inr ⟨q, x.1.c, r, hq, x.1.g, by rw [hqe], by rw [hqe]; exact hx'.vals, by rw [hqe]; exact hx'.pos, by rw [hqe]; exact hx'.few, by rw [hqe]; exact hx'.fits⟩⟩
  simp [results, Tryz.f33, go_sem, v0, v1, v2]
end Go.Proofs.YtclcajnodoifjaaGreatDoor

namespace Go.Proofs.YtclcajnodoifjaaGreatDoor
open Go.RowKit Go.Shelf Go.Joins Go.Maps
set_option maxRecDepth 100000

/-- the document's tree: a box, and its entries in a row -/
structure DocIn (T : Nat → Prop) (w : World) (d : Nat) (u : Bool) (l : List Em) (v : Value) : Prop where
 box : w.heap[d]? = some (.cells #[.bool u, v] 28 (0, 0))
 row : rowT T w 54 2 v l.length (fl emE l)
 keys : ∀ q ∈ l, KeyOk T w q
theorem DocIn.below {T : Nat → Prop} {w w' : World} {d : Nat} {u : Bool} {l : List Em} {v : Value} (h : DocIn T w d u l v) (hb : Below w.heap.size w w') : DocIn T w' d u l v := ⟨(hb.block _ (lt_of_heap h.box)).trans h.box, h.row.keeps (Keeps.of_below hb), fun q hq => (h.keys q hq).keeps (Keeps.of_below hb)⟩
/-- an entry of it -/
theorem DocIn.entry {T : Nat → Prop} {w : World} {d i : Nat} {u : Bool} {l : List Em} {m : Em} {gx ox N c : Nat} (h : DocIn T w d u l (.slice (some ⟨gx, ox, none⟩) N c)) (hm : l[i]? = some m) : w.cell? ⟨gx, ox + i * 2, none⟩ = some (.slice (some ⟨m.g, 0, none⟩) m.e.key.length m.c) ∧ w.cell? ⟨gx, ox + i * 2 + 1, none⟩ = some (.int .u64 m.e.id) ∧ KeyOk T w m ∧ gx < w.heap.size := by
 obtain ⟨p, cc, e1, _, _, hc⟩ := h.row.form
 cases e1
 obtain ⟨g', o', e2, hg, hc⟩ := hc _ rfl
 cases e2
 have q0 := hc _ _ ((fl_get emE_len l i m 0 hm (by omega)).trans rfl)
 have q1 := hc _ _ ((fl_get emE_len l i m 1 hm (by omega)).trans rfl)
 exact ⟨q0, by rw [Nat.add_assoc]; exact q1, h.keys m (List.mem_of_getElem? hm), hg⟩
end Go.Proofs.YtclcajnodoifjaaGreatDoor

namespace Go.Proofs.YtclcajnodoifjaaGreatDoor
open Go.RowKit Go.Shelf Go.Joins Go.Maps
set_option maxRecDepth 100000

theorem trO_cells {w : World} {bt : Nat} {u : Bool} {p1 p2 : Option Addr} {n1 c1 n2 c2 : Nat} {sz : Int} (h : w.heap[bt]? = some (trO u (.slice p1 n1 c1) (.slice p2 n2 c2) sz)) : w.cell? ⟨bt, 1, none⟩ = some (.slice p1 n1 c1) ∧ w.cell? ⟨bt, 2, none⟩ = some (.slice p2 n2 c2) := ⟨(cell_of_block h 1).trans rfl, (cell_of_block h 2).trans rfl⟩
set_option maxHeartbeats 8000000 in
set_option maxRecDepth 1000000 in
theorem ends_any (T : Nat → Prop) (d l bt : Nat) (n : Nd Em) (p1 : Option Addr) (n1 c1 : Nat) (p2 : Option Addr) (n2 c2 : Nat) (u ud : Bool) (sz : Int) (dd : Nat) (D : List Em) (PD : Option Addr) (ND CD : Nat) (w : World) (hn : RtIn T w d l n (.slice p1 n1 c1) (.slice p2 n2 c2)) (ht : w.heap[bt]? = some (trO u (.slice p1 n1 c1) (.slice p2 n2 c2) sz)) (hsz : sz = (n.fl.length : Int)) (hd : DocIn T w dd ud D (.slice PD ND CD)) (hND : ND = D.length) (zD : D.length ≤ 1000000) (ag : AgL n.fl D) :
  Calls Tryz.prog 11 #[.pointer (some ⟨bt, 0, none⟩), .pointer (some ⟨dd, 0, none⟩)] w fun e w' => e = .returned (.bool true) ∧ Below w.heap.size w w' := by
 have LE : Hid (∀ W, Below w.heap.size w W → Calls Tryz.prog 16 #[.pointer (some ⟨bt, 0, none⟩)] W fun e w' => e = .returned (.int .i64 (ND : Int)) ∧ w' = W) := fun W hW => by
  have := Len_any bt u _ _ sz W ((hW.block _ (lt_of_heap ht)).trans ht)
  rw [hsz, ag.1, ← hND] at this
  exact this
 have LD : Hid (∀ W, Below w.heap.size w W → W.cell? ⟨dd, 1, none⟩ = some (.slice PD ND CD)) := fun W hW => (cell_of_block (hd.below hW).box 1).trans rfl
 have F0 := First_any T d l bt n p1 n1 c1 p2 n2 c2 w hn (trO_cells ht).1 (trO_cells ht).2
 have F1 : Hid (∀ W, Below w.heap.size w W → Calls Tryz.prog 33 #[.pointer (some ⟨bt, 0, none⟩)] W fun e w' => FsQ W n.fl.reverse e w') := fun W hW => by
  have h' := (hW.block _ (lt_of_heap ht)).trans ht
  exact Last_any T d l bt n p1 n1 c1 p2 n2 c2 W (hn.keeps (Keeps.of_below hW)) (trO_cells h').1 (trO_cells h').2
 cases D with
 | nil =>
  have hl : n.fl = [] := List.eq_nil_of_length_eq_zero ag.1
  have z : ND = 0 := hND
  subst z
  rw [hl] at F0 F1
  have F0' : Hid (Calls Tryz.prog 32 #[.pointer (some ⟨bt, 0, none⟩)] w fun e w' => e = .returned (.tuple #[.slice none 0 0, .int .u64 0, .bool false]) ∧ Below w.heap.size w w') := F0.mono (fun e w' h => by
   obtain ⟨h1, h2 | ⟨q, c, r, h3, _⟩⟩ := h
   ·exact ⟨h2.2, h1⟩
   ·cases h3)
  have F1' : Hid (∀ W, Below w.heap.size w W → Calls Tryz.prog 33 #[.pointer (some ⟨bt, 0, none⟩)] W fun e w' => e = .returned (.tuple #[.slice none 0 0, .int .u64 0, .bool false]) ∧ Below W.heap.size W w') := fun W hW => (F1.out W hW).mono (fun e w' h => by
   obtain ⟨h1, h2 | ⟨q, c, r, h3, _⟩⟩ := h
   ·exact ⟨h2.2, h1⟩
   ·simp at h3)
  clear F0 F1 hn ht hd ag hsz hl zD hND
  go_enter Tryz.func11, Tryz.ntmps11
  go_wp2_with (first | (go_at_call 32; refine F0'.out.mono ?_; rintro e w1 ⟨rfl, b1⟩) | (go_at_call 33; refine (F1'.out w1 b1).mono ?_; rintro e w2 ⟨rfl, b2⟩; have bw := b1.trans (b2.mono b1.size); have lc := LD.out w2 bw) | (go_at_call 16; refine (LE.out w2 bw).mono ?_; rintro e w3 ⟨rfl, rfl⟩))
  go_ret
  exact ⟨rfl, bw⟩
 | cons d0 D =>
  obtain ⟨q, r, hq⟩ : ∃ q r, n.fl = q :: r := by
   cases h : n.fl with
   | nil => have := ag.1; rw [h] at this; cases this
   | cons q r => exact ⟨q, r, rfl⟩
  obtain ⟨ql, rl, hql⟩ : ∃ ql rl, n.fl.reverse = ql :: rl := by
   cases h : n.fl.reverse with
   | nil => have := congrArg List.length h; rw [List.length_reverse, hq] at this; cases this
   | cons q r => exact ⟨q, r, rfl⟩
  obtain ⟨j, hj⟩ : ∃ j, j = ND - 1 := ⟨_, rfl⟩
  have hlen : n.fl.length = ND := ag.1.trans hND.symm
  have h1 : 1 ≤ ND := by rw [hND]; simp
  obtain ⟨dl, hdl⟩ : ∃ dl, (d0 :: D)[j]? = some dl := ⟨_, List.getElem?_eq_getElem (by rw [hj, ← hND]; omega)⟩
  have A0 : Agr q.e d0.e := ag.2 0 q d0 (by rw [hq]; rfl) rfl
  have A1 : Agr ql.e dl.e := ag.2 j ql dl (by
   have h3 : n.fl.reverse[0]? = some ql := by rw [hql]; rfl
   rw [List.getElem?_reverse (by omega), hlen, Nat.sub_zero, ← hj] at h3
   exact h3) hdl
  obtain ⟨gx, ox, rfl⟩ : ∃ gx ox, PD = some ⟨gx, ox, none⟩ := by
   obtain ⟨p', c', e1, _, e3, hc⟩ := hd.row.form
   cases e1
   cases PD with
   | none => have := (e3 rfl).1; simp at this
   | some ad => obtain ⟨gx, ox, rfl, _⟩ := hc ad rfl; exact ⟨gx, ox, rfl⟩
  have EC : Hid (∀ W, Below w.heap.size w W → W.cell? ⟨dd, 1, none⟩ = some (.slice (some ⟨gx, ox, none⟩) ND CD) ∧ W.cell? ⟨gx, ox, none⟩ = some (.slice (some ⟨d0.g, 0, none⟩) d0.e.key.length d0.c) ∧ W.cell? ⟨gx, ox + 1, none⟩ = some (.int .u64 d0.e.id) ∧ W.cell? ⟨gx, ox + j * 2, none⟩ = some (.slice (some ⟨dl.g, 0, none⟩) dl.e.key.length dl.c) ∧ W.cell? ⟨gx, ox + j * 2 + 1, none⟩ = some (.int .u64 dl.e.id)) := fun W hW => by
   obtain ⟨a1, a2, _, _⟩ := (hd.below hW).entry (i := 0) (m := d0) rfl
   obtain ⟨b1, b2, _, _⟩ := (hd.below hW).entry hdl
   rw [Nat.zero_mul, Nat.add_zero] at a1 a2
   exact ⟨LD.out W hW, a1, a2, b1, b2⟩
  have F0' : Hid (Calls Tryz.prog 32 #[.pointer (some ⟨bt, 0, none⟩)] w fun e w' => ∃ g c, e = .returned (.tuple #[.slice (some ⟨g, 0, none⟩) q.e.key.length c, .int .u64 d0.e.id, .bool true]) ∧ (valsAt w' g q.e.key ∧ 0 < q.e.key.length ∧ q.e.key.length ≤ 4 ∧ ∀ v ∈ q.e.key, fit v.n) ∧ Below w.heap.size w w') := F0.mono (fun e w' h => by
   obtain ⟨h1, h2 | ⟨q', c, r', h3, g, h4, h5⟩⟩ := h
   ·rw [hq] at h2; cases h2.1
   ·rw [hq] at h3; cases h3; exact ⟨g, c, by rw [h4, A0.1], h5, h1⟩)
  have F1' : Hid (∀ W, Below w.heap.size w W → Calls Tryz.prog 33 #[.pointer (some ⟨bt, 0, none⟩)] W fun e w' => ∃ g c, e = .returned (.tuple #[.slice (some ⟨g, 0, none⟩) ql.e.key.length c, .int .u64 dl.e.id, .bool true]) ∧ (valsAt w' g ql.e.key ∧ 0 < ql.e.key.length ∧ ql.e.key.length ≤ 4 ∧ ∀ v ∈ ql.e.key, fit v.n) ∧ Below W.heap.size W w') := fun W hW => (F1.out W hW).mono (fun e w' h => by
   obtain ⟨h1, h2 | ⟨q', c, r', h3, g, h4, h5⟩⟩ := h
   ·rw [hql] at h2; cases h2.1
   ·rw [hql] at h3; cases h3; exact ⟨g, c, by rw [h4, A1.1], h5, h1⟩)
  have RW0 : Hid (∀ W g c, Below w.heap.size w W → (valsAt W g q.e.key ∧ 0 < q.e.key.length ∧ q.e.key.length ≤ 4 ∧ ∀ v ∈ q.e.key, fit v.n) → Calls Tryz.prog 18 #[.slice (some ⟨g, 0, none⟩) q.e.key.length c, .slice (some ⟨d0.g, 0, none⟩) d0.e.key.length d0.c] W fun e w' => e = .returned (.int .i64 0) ∧ Below W.heap.size W w') := fun W g c hW h => by
   obtain ⟨_, _, kd, _⟩ := (hd.below hW).entry (i := 0) (m := d0) rfl
   have := refRows_any (some ⟨g, 0, none⟩) (some ⟨d0.g, 0, none⟩) c d0.c q.e.key d0.e.key W (by omega) (Or.inr ⟨g, rfl, h.1⟩) (Or.inr ⟨_, rfl, kd.vals⟩) h.2.2.2 kd.fits
   rwa [A0.2.1] at this
  have RW1 : Hid (∀ W g c, Below w.heap.size w W → (valsAt W g ql.e.key ∧ 0 < ql.e.key.length ∧ ql.e.key.length ≤ 4 ∧ ∀ v ∈ ql.e.key, fit v.n) → Calls Tryz.prog 18 #[.slice (some ⟨g, 0, none⟩) ql.e.key.length c, .slice (some ⟨dl.g, 0, none⟩) dl.e.key.length dl.c] W fun e w' => e = .returned (.int .i64 0) ∧ Below W.heap.size W w') := fun W g c hW h => by
   obtain ⟨_, _, kd, _⟩ := (hd.below hW).entry hdl
   have := refRows_any (some ⟨g, 0, none⟩) (some ⟨dl.g, 0, none⟩) c dl.c ql.e.key dl.e.key W (by omega) (Or.inr ⟨g, rfl, h.1⟩) (Or.inr ⟨_, rfl, kd.vals⟩) h.2.2.2 kd.fits
   rwa [A1.2.1] at this
  have wj : IntKind.i64.wrap ((ND : Int) - 1) = (j : Int) := by rw [IntKind.wrap_i64]; rw [← hND] at zD; omega
  have ij : (j : Int) < (ND : Int) := by omega
  have ij0 : (0 : Int) ≤ (j : Int) := by omega
  have in0 : (0 : Int) < (ND : Int) := by omega
  have nz : ((ND : Int) == 0) = false := by rw [beq_eq_false_iff_ne]; omega
  clear F0 F1 hn ht hd ag hsz hq hql hj hlen h1 hdl A0 A1 zD hND
  go_enter Tryz.func11, Tryz.ntmps11
  go_wp2_with (first | (go_at_call 32; refine F0'.out.mono ?_; rintro e w1 ⟨ga, ca, rfl, va, b1⟩; have VA := mkHid va; clear va) | (go_at_call 33; refine (F1'.out w1 b1).mono ?_; rintro e w2 ⟨gb, cb, rfl, vb, b2⟩; have VB := mkHid vb; clear vb; have bw := b1.trans (b2.mono b1.size); obtain ⟨lc, x0, x1, x2, x3⟩ := EC.out w2 bw))
  have VA2 : Hid (valsAt w2 ga q.e.key ∧ 0 < q.e.key.length ∧ q.e.key.length ≤ 4 ∧ ∀ v ∈ q.e.key, fit v.n) := ⟨VA.out.1.below b2, VA.out.2⟩
  refine (RW0.out w2 ga ca bw VA2.out).mono ?_
  rintro e w3 ⟨rfl, b3⟩
  have bw3 := bw.trans (b3.mono bw.size)
  obtain ⟨lc3, y0, y1, y2, y3⟩ := EC.out w3 bw3
  go_wp2_with fail
  refine (RW1.out w3 gb cb bw3 ⟨VB.out.1.below b3, VB.out.2⟩).mono ?_
  rintro e w4 ⟨rfl, b4⟩
  have bw4 := bw3.trans (b4.mono bw3.size)
  obtain ⟨lc4, z0, z1, z2, z3⟩ := EC.out w4 bw4
  go_wp2_with (go_at_call 16; refine (LE.out w4 bw4).mono ?_; rintro e w5 ⟨rfl, rfl⟩)
  go_ret
  exact ⟨rfl, bw4⟩
end Go.Proofs.YtclcajnodoifjaaGreatDoor

namespace Go.Proofs.YtclcajnodoifjaaGreatDoor
open Go.RowKit Go.Shelf Go.Joins Go.Maps
set_option maxRecDepth 100000

theorem rwDE : Rw 26 54 (.agg #[.slice none 0 0, .int .u64 0]) 2 32 := ⟨by kernel_rfl, by kernel_rfl, rfl, by decide, by decide⟩
/-- its block is new -/
def fresh (v : Value) (B : Nat) : Prop := ∀ g, v.ownBlock = some g → B ≤ g
theorem Rw.app_none {t e : TypeId} {z : Value} {sz by' : Nat} (R : Rw t e z sz by') (w : World) (p : Option Addr) (n cap : Nat) (P : Option Addr) (c : Nat) (hn : n ≤ cap) (hp : p = none → n = 0 ∧ cap = 0) (hP : P = none → c = 0) (ty : TypeId) : (Builtin.append_ #[t, t] ty #[.slice p n cap, .slice P 0 c]).run Tryz.prog w = .ok (.slice p n cap) w := by
 obtain ⟨i, hi, hz, hs, hb⟩ := info_parts R.inf
 cases p with
 | none =>
  obtain ⟨rfl, rfl⟩ := hp rfl
  cases P <;> simp [Builtin.append_, run_underlying R.sl, sizeOf, typeInfo, hi, Builtin.lenOf, Builtin.firstCells, loadCells, loadCellsFrom]
 | some a =>
  cases P <;> simp [Builtin.append_, run_underlying R.sl, sizeOf, typeInfo, hi, Builtin.lenOf, Builtin.firstCells, loadCells, loadCellsFrom, storeCells, hn]
theorem Rw.appA {t e : TypeId} {z : Value} {sz by' : Nat} (R : Rw t e z sz by') {w : World} {v : Value} {n m c B : Nat} {xs news : List Value} {P : Option Addr} (h : shr w e sz v n xs) (hf : fresh v B) (hB : B ≤ w.heap.size)
  (hm : news.length = m * sz) (hP : P = none → m = 0 ∧ c = 0) (hnews : ∀ ad, P = some ad → ∀ j u, news[j]? = some u → w.cell? (ad.add j) = some u) (h1 : ∀ u ∈ news, u.oneCell' = true) (hl : n + m ≤ 1000000000) :
  ∃ p' c' w', (∀ ty, (Builtin.append_ #[t, t] ty #[v, .slice P m c]).run Tryz.prog w = .ok (.slice p' (n + m) c') w') ∧ shr w' e sz (.slice p' (n + m) c') (n + m) (xs ++ news) ∧ fresh (.slice p' (n + m) c') B ∧ Below B w w' := by
 rcases Nat.eq_zero_or_pos m with rfl | h0
 ·obtain ⟨p, cap, rfl, e2, e3, e4, e5⟩ := h.form
  have hn : news = [] := List.eq_nil_of_length_eq_zero (by simpa using hm)
  subst hn
  exact ⟨p, cap, w, fun ty => R.app_none w p n cap P c e2 e4 (fun e => (hP e).2) ty, by rw [List.append_nil]; exact h, hf, Below.refl _ _⟩
 ·cases P with
  | none => have := (hP rfl).1; omega
  | some ad =>
   obtain ⟨v', w', r, s, g, o⟩ := R.app (ad := ad) (c := c) h hm (hnews ad rfl) h1 hl h0
   obtain ⟨p, cap, rfl, e2, e3, e4, e5⟩ := s.form
   refine ⟨p, cap, w', r, s, fun b hb => ?_, (Below.refl B w).grown g hB (fun k e => hf k e)⟩
   rcases o with o | ⟨g2, o1, o2, _⟩
   ·exact hf b (o ▸ hb)
   ·rw [o1] at hb; cases hb; omega
end Go.Proofs.YtclcajnodoifjaaGreatDoor

