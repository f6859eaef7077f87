/-
 The tree's Get: the numbers under a key.
-/
import Derived.Test.YtclcajnodoifjaaGreatDoorIAN
import Derived.Test.YtclcajnodoifjaaGreatDoorIAM
import Derived.Test.YtclcajnodoifjaaGreatDoorIAT
import Derived.Test.YtclcajnodoifjaaGreatDoorIAR
import Derived.Test.YtclcajnodoifjaaGreatDoorBxZSx
import Derived.BigQuiet
namespace Go.Proofs.YtclcajnodoifjaaGreatDoor
open Go.RowKit Go.Shelf Go.Joins Go.Maps
attribute [local go_sem] Oper.semAt_some
set_option maxRecDepth 100000

theorem rwU : Rw 74 31 (.int .u64 0) 1 8 := ⟨by kernel_rfl, by kernel_rfl, rfl, by decide, by decide⟩
def idV (q : Em) : Value := .int .u64 q.e.id
/-- the numbers that were gathered lie in a row of one's own, its slice in the box ib -/
def GtI (w : World) (ib B : Nat) (n : Nat) (xs : List Value) (W : World) : Prop := (∃ v, W.heap[ib]? = some (.cells #[v] 74 (0, 0)) ∧ W.ownsRow B 31 1 v n xs) ∧ Below w.heap.size w W
theorem owns_own {X Y : World} {row : Option Nat} {B n : Nat} {e : TypeId} {s : Nat} {v : Value} {xs : List Value} (hg : X.grownBy Y row) (hr : ∀ r, row = some r → ∃ o : Obj, X.heap[r]? = some o ∧ o.isCells = false) (h : X.ownsRow B e s v n xs) : Y.ownsRow B e s v n xs := by
 refine ⟨h.1, ?_⟩
 rcases h.2 with h2 | ⟨g, cap, cur, h1, h2, h3, h4⟩
 ·exact Or.inl h2
 ·exact Or.inr ⟨g, cap, cur, h1, h2, cells_own hg hr h3, h4⟩
theorem GtI.own {w : World} {ib B n C : Nat} {xs : List Value} (hB : w.heap.size ≤ C) : OwnFrom C (fun (_ : Unit) W => GtI w ib B n xs W) := fun s X Y row hs hg hr => by
 obtain ⟨⟨v, h1, h2⟩, h3⟩ := hs
 exact ⟨⟨v, cells_own hg (fun r e => (hr r e).2) h1, owns_own hg (fun r e => (hr r e).2) h2⟩, ownFrom_below (β := Unit) (Nat.le_refl _) hB s X Y row h3 hg hr⟩
theorem gt_next {w A w' : World} {ib B n : Nat} {xs : List Value} {v v' u : Value} {o : Obj} (hv : A.heap[ib]? = some (.cells #[v] 74 (0, 0))) (hown : A.ownsRow B 31 1 v n xs) (hB : Below w.heap.size w A) (hi : w.heap.size ≤ ib) (hib : ib < B) (ho : w'.ownsRow B 31 1 v' (n + 1) (xs ++ [u])) (hg : (A.alloc o).grownBy w' v.ownBlock) :
  w'.heap[ib]? = some (.cells #[v] 74 (0, 0)) ∧ KeepsFrom B A (w'.setCell ⟨ib, 0, none⟩ v') ∧ KeepU (fun b t => b = ib ∨ (B ≤ b ∧ t = 31)) A (w'.setCell ⟨ib, 0, none⟩ v') ∧ GtI w ib B (n + 1) (xs ++ [u]) (w'.setCell ⟨ib, 0, none⟩ v') := by
 have own : ∀ b, some b = v.ownBlock → B ≤ b ∧ ∃ cs, A.heap[b]? = some (.cells cs 31 (0, 0)) := fun b hb => by
  rcases hown.2 with ⟨rfl, _⟩ | ⟨g, cap, cur, rfl, h2, h3, _⟩
  ·cases hb
  ·cases hb
   exact ⟨h2, cur, h3⟩
 have keep : ∀ b ob, A.heap[b]? = some ob → some b ≠ v.ownBlock → w'.heap[b]? = some ob := fun b ob hb hn => by
  have hlt := lt_of_heap hb
  exact (hg.block b (by rw [World.size_alloc]; omega) hn).trans ((heap_alloc_old A o hlt).trans hb)
 have kib : some ib ≠ v.ownBlock := fun e => by have := (own ib e).1; omega
 have hv' := keep ib _ hv kib
 have sz : A.heap.size ≤ w'.heap.size := by have := hg.size; rw [World.size_alloc] at this; omega
 have s2 : A.heap.size ≤ (w'.setCell ⟨ib, 0, none⟩ v').heap.size := by rw [World.size_setCell]; exact sz
 have hb' : Below w.heap.size w w' := by
  refine ⟨hg.os.trans hB.os, hg.tape.trans hB.tape, hg.output.trans hB.output, Nat.le_trans hB.size sz, fun b hb => ?_⟩
  have hlt : b < A.heap.size := Nat.lt_of_lt_of_le hb hB.size
  exact ((hg.block b (by rw [World.size_alloc]; omega) (fun e => by have := (own b e).1; omega)).trans (heap_alloc_old A o hlt)).trans (hB.block b hb)
 refine ⟨hv', ⟨s2, fun b ob hb h1 h2 => ?_⟩, ⟨s2, fun b cs t z hx hb => ?_⟩, ⟨⟨v', ?_, ?_⟩, below_set hb' ⟨ib, 0, none⟩ v' hi⟩⟩
 ·have hne : b ≠ ib := fun e => by subst e; rw [hv] at h1; cases h1; cases h2
  exact (heap_setCell_other w' ⟨ib, 0, none⟩ b v' hne).trans (keep b ob h1 (fun e => by obtain ⟨_, cs, hc⟩ := own b e; rw [hc] at h1; cases h1; cases h2))
 ·have hne : b ≠ ib := fun e => hx (Or.inl e)
  exact (heap_setCell_other w' ⟨ib, 0, none⟩ b v' hne).trans (keep b _ hb (fun e => by
   obtain ⟨h5, cs', hc⟩ := own b e
   rw [hc] at hb
   cases hb
   exact hx (Or.inr ⟨h5, rfl⟩)))
 ·rw [heap_set_in (o := 0) (v := v') hv']
  rfl
 ·refine ⟨ho.1, ?_⟩
  rcases ho.2 with ⟨h1, h2⟩ | ⟨g, cap, cur, h1, h2, h3, h4⟩
  ·omega
  ·exact Or.inr ⟨g, cap, cur, h1, h2, (heap_setCell_other w' ⟨ib, 0, none⟩ g v' (by show g ≠ ib; omega)).trans h3, h4⟩
set_option maxHeartbeats 8000000 in
set_option maxRecDepth 1000000 in
theorem Get_any (T : Nat → Prop) (d l bt : Nat) (n : Nd Em) (p1 : Option Addr) (n1 c1 : Nat) (p2 : Option Addr) (n2 c2 : Nat) (k : List Va) (q : Option Addr) (cq : Nat) (w : World) (hn : RtIn T w d l n (.slice p1 n1 c1) (.slice p2 n2 c2)) (k1 : w.cell? ⟨bt, 1, none⟩ = some (.slice p1 n1 c1)) (k2 : w.cell? ⟨bt, 2, none⟩ = some (.slice p2 n2 c2)) (hk : rowAt w q k) (hq : ∀ g, q = some ⟨g, 0, none⟩ → g < w.heap.size) (fk : ∀ v ∈ k, fit v.n) (zT : (ofKey k n.fl).length ≤ 1000000) :
  Calls Tryz.prog 28 #[.pointer (some ⟨bt, 0, none⟩), .slice q k.length cq] w fun e w' => (∃ v, e = .returned v ∧ w'.ownsRow w.heap.size 31 1 v (ofKey k n.fl).length ((ofKey k n.fl).map idV)) ∧ Below w.heap.size w w' := by
 refine callsIn_wide (n := 3) |>.1 ?_
 obtain ⟨N, hN⟩ : ∃ N, N = k.length := ⟨_, rfl⟩
 obtain ⟨w0, hw0⟩ : ∃ w0, w0 = w.alloc (.cells #[.slice none 0 0] 74) := ⟨_, rfl⟩
 have d0 : w0.heap[w.heap.size]? = some (.cells #[.slice none 0 0] 74 (0, 0)) := by rw [hw0]; exact heap_alloc_new _ _
 have bb : Below w.heap.size w w0 := by rw [hw0]; exact (Below.refl _ w).alloc (Nat.le_refl _) _
 have bs : w0.heap.size = w.heap.size + 1 := by rw [hw0, World.size_alloc]
 have KS : Hid (∀ W, Below w0.heap.size w0 W → (fun w' : World => w'.cell? ⟨bt, 1, none⟩ = some (.slice p1 n1 c1) ∧ w'.cell? ⟨bt, 2, none⟩ = some (.slice p2 n2 c2)) W) := fun W hW => by
  have kp : Keeps (fun _ => True) w W := (Keeps.of_below bb).trans (Keeps.of_below hW)
  exact ⟨kp.cell trivial k1, kp.cell trivial k2⟩
 obtain ⟨Tot, hTot⟩ : ∃ Tot, Tot = ofKey k n.fl := ⟨_, rfl⟩
 rw [← hTot] at zT ⊢
 have RS : Hid (∀ w3 B, Below w0.heap.size w0 w3 → w3.heap[w0.heap.size]? = some (.cells #[.slice q k.length cq] 30 (0, 0)) → w3.heap[B]? = some (.cells #[.slice p1 n1 c1, .slice p2 n2 c2] 60 (0, 0)) → w3.heap[B + 1]? = some (.cells #[.func (.func 73) #[] #[.pointer (some ⟨w0.heap.size, 0, none⟩)], .func (.func 75) #[] #[.pointer (some ⟨w0.heap.size, 0, none⟩)]] 72 (0, 0)) →
   SeqStopsK Fence.wide (3 - 1) Tryz.prog 63 #[.pointer (some ⟨B, 0, none⟩), .pointer (some ⟨B + 1, 0, none⟩)] (fun x : { q : Em // q ∈ Tot } => #[emV x.1]) (KeepU (fun b t => b = w.heap.size ∨ (w3.heap.size ≤ b ∧ t = 31))) (fun xs => xs.map (fun x => x.1) = Tot) (fun pre => ∃ rest, Tot = pre.map (fun x => x.1) ++ rest) Tot.length w3) := fun w3 B hb g1 g2 g3 => by
  have hb3 : Below w.heap.size w w3 := bb.trans (hb.mono bb.size)
  have s3 := lt_of_heap g1
  have hn3 : RtIn (fun b => b ≠ w.heap.size ∧ b < w3.heap.size) w3 d l n (.slice p1 n1 c1) (.slice p2 n2 c2) := ((hn.all).mono (U := fun b => b ≠ w.heap.size ∧ b < w3.heap.size) (fun b hb _ => ⟨by omega, by omega⟩)).keeps (Keeps.of_below hb3)
  have tq : ∀ g, q = some ⟨g, 0, none⟩ → g ≠ w.heap.size ∧ g < w3.heap.size := fun g hg => by have := hq g hg; exact ⟨by omega, by omega⟩
  have tb : w0.heap.size ≠ w.heap.size ∧ w0.heap.size < w3.heap.size := ⟨by omega, s3⟩
  exact rising1_stops_u (fun b => b ≠ w.heap.size ∧ b < w3.heap.size) (fun b t => b = w.heap.size ∨ (w3.heap.size ≤ b ∧ t = 31)) _ _ _ _ (fun e => decide (0 ≤ rowsV e.key k)) (fun e => decide (rowsV e.key k ≤ 0)) _ d l _ _ n p1 n1 c1 p2 n2 c2 Tot w3 hTot hn3.nd hn3.wf hn3.ne hn3.up (end_key1 g1 tb (hk.below hb3) tq fk) (end_key2 g1 tb (hk.below hb3) tq fk) ⟨fun {a b} h1 h2 => (span_key k).1 h1 h2, fun {a b} h1 h2 => (span_key k).2 h1 h2⟩ (fun b t h => by
   rcases h with h | ⟨_, h⟩
   ·exact Or.inl (by omega)
   ·exact Or.inr h) (fun b t h k => by
   rcases k with k | ⟨k, _⟩
   ·exact h.1 k
   ·omega) g2 g3
 have D0 := mkHid d0
 have BB := mkHid bb
 have BS := mkHid bs
 have HW0 := mkHid hw0
 rw [← hN] at RS ⊢
 clear hn k1 k2 hk hq fk d0 bb bs hw0 hN hTot
 refine callsIn_of_wp_marks Tryz.func28 rfl trivial ?_ rfl
 simp only [Tryz.ntmps28, List.size_toArray, List.length_cons, List.length_nil, Nat.reduceAdd, Nat.reduceSub, Array.replicate_succ, Array.replicate_zero, List.push_toArray, List.append_toArray, List.nil_append, List.cons_append]
 refine wpIn_wide.2 ?_
 go_wp2_with fail
 rw [← HW0.out]
 clear HW0
 refine wp_region_noPanic ?_
 refine wp_region_held_drew (S := fun w' : World => w'.cell? ⟨bt, 1, none⟩ = some (.slice p1 n1 c1) ∧ w'.cell? ⟨bt, 2, none⟩ = some (.slice p2 n2 c2)) (by kernel_rfl) (KS.out _ (Below.refl _ _).drew) (fun hH => ?_)
 refine tKx (i := 0) (v := .pointer (some ⟨bt, 0, none⟩)) rfl rfl (by kernel_rfl) (fun _ _ _ h => h) ?_ hH ?_
 ·intro w5 hSw; obtain ⟨s0, s1⟩ := hSw; go_simp
 simp only [zA9, zB9, zC9]
 refine tKx (i := 1) (v := .pointer (some ⟨bt, 0, none⟩)) rfl rfl (by kernel_rfl) (fun _ _ _ h => h) ?_ hH ?_
 ·intro w5 hSw; obtain ⟨s0, s1⟩ := hSw; go_simp
 simp only [zA9, zB9, zC9]
 refine tKx (i := 2) (v := .pointer (some ⟨bt, 1, none⟩)) rfl rfl (by kernel_rfl) (fun _ _ _ h => h) ?_ hH ?_
 ·intro w5 hSw; obtain ⟨s0, s1⟩ := hSw; go_simp
 simp only [zA9, zB9, zC9]
 refine tKx (i := 3) (v := .agg #[.slice p1 n1 c1, .slice p2 n2 c2]) rfl rfl (by kernel_rfl) (fun _ _ _ h => h) ?_ hH ?_
 ·intro w5 hSw; obtain ⟨s0, s1⟩ := hSw; go_simp
 simp only [zA9, zB9, zC9]
 refine tKx (i := 4) (v := .slice q N cq) rfl rfl (by kernel_rfl) (fun _ _ _ h => h) ?_ hH ?_
 ·intro w5 hSw; obtain ⟨s0, s1⟩ := hSw; go_simp
 simp only [zA9, zB9, zC9]
 refine wpAnyH_ready (rs := [5]) (by kernel_rfl) (by simp) ?_
 refine AllReadyH.cons rfl (fun K hK => ?_) AllReadyH.nil
 go_simp
 go_at_call 48
 refine (onlyKey_any q N cq w0.drew).mono ?_
 rintro e w1 ⟨rfl, g1, b1⟩
 replace b1 : Below w0.heap.size w0 w1 := (Below.refl _ w0).drew.trans b1
 have G1 := mkHid g1
 have B1 := mkHid b1
 clear g1 b1
 go_wp2_with fail
 refine hK.out _ _ (KS.out _ B1.out) (fun hH => ?_)
 clear hK K
 refine wpAnyH_ready (rs := [6]) (by kernel_rfl) (by simp) ?_
 refine AllReadyH.cons rfl (fun K hK => ?_) AllReadyH.nil
 go_simp
 go_at_call 38
 refine (rising_any _ _ _ _ p1 n1 c1 p2 n2 c2 _ _ _ _ rfl rfl rfl rfl w1).mono ?_
 rintro e w3 ⟨rfl, r1, r2, r3⟩
 have B3 : Hid (Below w0.heap.size w0 w3) := B1.out.trans (r3.mono B1.out.size)
 have R1 := mkHid r1
 have R2 := mkHid r2
 have R3 := mkHid r3
 clear r1 r2 r3
 go_wp2_with fail
 refine hK.out _ _ (KS.out _ B3.out) (fun hH => ?_)
 clear hK K
 refine wpAnyH_done (by kernel_rfl) ?_ _
 refine NoPanic.normal ?_
 clear hH KS
 have RSS := mkHid (RS.out w3 w1.heap.size B3.out ((R3.out.block _ (lt_of_heap G1.out)).trans G1.out) R1.out R2.out)
 have bB : Below w.heap.size w w3 := BB.out.trans (B3.out.mono BB.out.size)
 have m1 : w3.heap[w.heap.size]? = some (.cells #[.slice none 0 0] 74 (0, 0)) := (B3.out.block _ (lt_of_heap D0.out)).trans D0.out
 have i0 : GtI w w.heap.size w3.heap.size 0 [] w3 := ⟨⟨_, m1, ⟨rfl, Or.inl ⟨rfl, rfl⟩⟩⟩, bB⟩
 have lt3 : w.heap.size < w3.heap.size := lt_of_heap m1
 clear RS R1 R2 R3 G1 B1 D0 BS m1
 go_wp2_with fail
 refine wpIn_wide (n := 3) |>.1 ?_
 refine wpIn_rangeFunc_ownH rfl (by decide) (gf := 63) (lb := #[.pointer (some ⟨w1.heap.size, 0, none⟩), .pointer (some ⟨w1.heap.size + 1, 0, none⟩)]) rfl trivial (enters_of Tryz.func63 (by kernel_rfl) rfl) RSS.out (fun h k => KeepU.trans h k) (fun W l o o' _ h1 h2 _ => keepU_b h1 h2) (Below.refl _ _) (fun _ => rfl)
  (fun (pre : List { q : Em // q ∈ Tot }) W => GtI w w.heap.size w3.heap.size pre.length (pre.map (fun x => idV x.1)) W) (fun _ _ _ => False) (fun s X Y row hs hg hr => GtI.own (n := s.length) (xs := s.map (fun x => idV x.1)) bB.size () X Y row hs hg hr) (fun _ _ _ _ _ hs _ _ => hs) i0
  (fun x a' A => ∃ Bx, (w.heap.size < Bx ∧ A.heap[Bx]? = some (.cells #[.slice (some ⟨x.1.g, 0, none⟩) x.1.e.key.length x.1.c, .int .u64 x.1.e.id] 65 (0, 0))) ∧ a' = { tmps := #[.pointer (some ⟨bt, 0, none⟩), .slice q N cq, undef, undef, .slice none 0 0, .pointer (some ⟨w.heap.size, 0, none⟩), .pointer (some ⟨Bx, 0, none⟩), .pointer (some ⟨bt, 0, none⟩), .pointer (some ⟨bt, 0, none⟩), .pointer (some ⟨bt, 1, none⟩), .agg #[.slice p1 n1 c1, .slice p2 n2 c2], .slice q N cq, .agg #[.func (.func 73) #[] #[.pointer (some ⟨w0.heap.size, 0, none⟩)], .func (.func 75) #[] #[.pointer (some ⟨w0.heap.size, 0, none⟩)]], .func (.func 63) #[] #[.pointer (some ⟨w1.heap.size, 0, none⟩), .pointer (some ⟨w1.heap.size + 1, 0, none⟩)], emV x.1, undef, undef, undef, undef, undef, undef], defers := [] })
  (fun x a' _ X Y' row hs hg hr => by obtain ⟨Bx, ⟨h1, h2⟩, h3⟩ := hs; exact ⟨Bx, ⟨h1, cells_own hg (fun r e => (hr r e).2) h2⟩, h3⟩) ?assign ?body ?done ?stop
 case assign =>
  rintro l2 pre x A K hi hK
  have HI := mkHid hi
  have HKK := mkHid hK
  clear hi hK
  gi_wp2_with fail
  have bA := (Below.refl _ A).alloc (Nat.le_refl _) (.cells #[.slice (some ⟨x.1.g, 0, none⟩) x.1.e.key.length x.1.c, .int .u64 x.1.e.id] 65)
  exact HKK.out _ _ (below_keepsFrom bA) (KeepU.of_below bA) (own_below (GtI.own bB.size (n := pre.length) (xs := pre.map (fun x => idV x.1))) (s := ()) HI.out bA) ⟨_, ⟨by obtain ⟨⟨v, hv, _⟩, _⟩ := HI.out; exact lt_of_heap hv, heap_alloc_new _ _⟩, rfl⟩
 case body =>
  rintro l2 pre x a' A hl ⟨r, hr⟩ ⟨⟨v, hv, hown⟩, hB⟩ ⟨Bx, ⟨hBx, bX⟩, rfl⟩ hlt
  have f1 : A.cell? ⟨Bx, 1, none⟩ = some (.int .u64 x.1.e.id) := (cell_of_block bX 1).trans rfl
  have f2 : A.cell? ⟨w.heap.size, 0, none⟩ = some v := (cell_of_block hv 0).trans rfl
  have szA : w3.heap.size ≤ A.heap.size := by have := lt_of_heap hr; omega
  have OW : Hid (∀ o, (A.alloc o).ownsRow w3.heap.size 31 1 v pre.length (pre.map (fun x => idV x.1))) := fun o => owns_own (World.grownBy_alloc A o none) (fun r e => by cases e) hown
  have NC : Hid (∀ j u, [idV x.1][j]? = some u → (A.alloc (.cells #[.int .u64 x.1.e.id] 31)).cell? ((⟨A.heap.size, 0, none⟩ : Addr).add j) = some u) := fun j u hj => by
   rw [add_plain, Nat.zero_add]
   refine (cell_of_block (heap_alloc_new A _) j).trans ?_
   rw [← hj]
   simp [idV]
  have ONE : Hid (∀ u ∈ [idV x.1], u.oneCell' = true) := fun u hu => by simp at hu; subst hu; rfl
  have LB : Hid (pre.length + 1 ≤ 1000000) := by show _ ≤ _; omega
  have SZB : Hid (w3.heap.size ≤ (A.alloc (.cells #[.int .u64 x.1.e.id] 31)).heap.size) := by rw [World.size_alloc]; show _ ≤ _; omega
  have NX : Hid (∀ v' w', w'.ownsRow w3.heap.size 31 1 v' (pre.length + 1) (pre.map (fun x => idV x.1) ++ [idV x.1]) → (A.alloc (.cells #[.int .u64 x.1.e.id] 31)).grownBy w' v.ownBlock → _) := fun v' w' h1 h2 => gt_next (o := .cells #[.int .u64 x.1.e.id] 31) hv hown hB (Nat.le_refl _) lt3 h1 h2
  have LEN : Hid ((pre ++ [x]).length = pre.length + 1 ∧ (pre ++ [x]).map (fun x => idV x.1) = pre.map (fun x => idV x.1) ++ [idV x.1]) := ⟨by simp, by simp⟩
  obtain ⟨UI, u1, u2, u3, u4⟩ := info_parts rwU.inf
  have UU : Hid (Tryz.prog.info? 31 = some UI ∧ UI.zero = some (.int .u64 0) ∧ UI.size = 1 ∧ UI.bytes = 8) := ⟨u1, u2, u3, u4⟩
  clear hv hown hB bX hlt szA u1 u2 u3 u4 hl hr i0 bB RSS
  gi_wp2_with (gi_at_builtin; refine wpListIn_append_own _ rfl (.tmp 15) (.tmp 18) 74 rfl w3.heap.size 31 UI (.int .u64 0) 1 8 rwU.sl UU.out.1 UU.out.2.1 UU.out.2.2.1 UU.out.2.2.2 rfl (by decide) v pre.length _ rfl (OW.out _) ⟨A.heap.size, 0, none⟩ 1 1 [idV x.1] rfl rfl NC.out ONE.out (by unfold maxLen; have := LB.out; omega) (by have := LB.out; omega) SZB.out ?_; intro v' w' ho hg _; obtain ⟨gv, cv, rfl⟩ := ownsRow_succ ho; obtain ⟨y1, y2, y3, y4⟩ := NX.out _ w' ho hg; have y5 : w'.cell? ⟨w.heap.size, 0, none⟩ = some v := (cell_of_block y1 0).trans rfl; have y6 := unfrozen_of_block y1 0; replace y2 := mkHid y2; replace y3 := mkHid y3; replace y4 := mkHid y4; clear y1 ho hg)
  refine ⟨y2.out, y3.out, ?_⟩
  show GtI w w.heap.size w3.heap.size (pre ++ [x]).length ((pre ++ [x]).map (fun x => idV x.1)) _
  rw [LEN.out.1, LEN.out.2]
  exact y4.out
 case done =>
  rintro D ys W hD hS ⟨⟨v, hv, hown⟩, hB⟩ hK
  have hl : ys.length = Tot.length := by have := congrArg List.length hS; rwa [List.length_map] at this
  have hm : ys.map (fun x => idV x.1) = Tot.map idV := by have := congrArg (List.map idV) hS; rw [List.map_map] at this; exact this
  rw [hl, hm] at hown
  have f2 : W.cell? ⟨w.heap.size, 0, none⟩ = some v := (cell_of_block hv 0).trans rfl
  have FB := mkHid (hB.trans (belowK_b (w := w) (Nat.le_refl _) W D _ (.deferred none) (by omega) hK rfl rfl))
  have FO : Hid ((W.putObj D (.deferred none)).ownsRow w.heap.size 31 1 v Tot.length (Tot.map idV)) := by
   have h1 := owns_own (grownBy_putObj' W D (.deferred none)) (fun r e => by cases e; exact ⟨_, hK, rfl⟩) hown
   refine ⟨h1.1, ?_⟩
   rcases h1.2 with h | ⟨g, cap, cur, e1, e2, e3⟩
   ·exact Or.inl h
   ·exact Or.inr ⟨g, cap, cur, e1, by have := bB.size; omega, e3⟩
  clear hv hown hB hl hm hS RSS i0
  go_wp2_with fail
  refine ⟨by simp, .inl ⟨_, _, rfl, run_takeDeferred hK, ?_⟩⟩
  exact ⟨_, results_tmp rfl _ _ _, ⟨v, rfl, FO.out⟩, FB.out⟩
 case stop =>
  rintro D c pre W hD _ h _
  exact h.elim
end Go.Proofs.YtclcajnodoifjaaGreatDoor

namespace Go.Proofs.YtclcajnodoifjaaGreatDoor
open Go.RowKit Go.Shelf Go.Joins Go.Maps
set_option maxRecDepth 100000

set_option maxHeartbeats 2000000 in
theorem Hollow_off (q : Option Addr) (c : Nat) (k : List Va) (w : World) (hk : rowOff w q k) (hl : k.length ≤ 1000000000) :
  Calls Tryz.prog 35 #[.slice q k.length c] w fun e w' => e = .returned (.bool (k.any isN)) ∧ w' = w := by
 have ST : Hid (∀ i v, k[i]? = some v → (k.take i).any isN = false → (isN v = true → k.any isN = true) ∧ (isN v = false → (k.take (i + 1)).any isN = false)) := fun i v hi h => by
  constructor
  ·intro hv
   rw [List.any_eq_true]
   exact ⟨v, List.mem_of_getElem? hi, hv⟩
  ·intro hv
   rw [List.take_add_one, hi, List.any_append, h]
   simp [hv]
 have AL : Hid ((k.take k.length).any isN = false → k.any isN = false) := fun h => by rwa [List.take_length] at h
 have G : Hid (∀ i v, k[i]? = some v → ∃ g off, q = some ⟨g, off, none⟩ ∧ w.cell? ⟨g, off + i * 3, none⟩ = some (.int .i64 v.ty)) := fun i v hi => by
  obtain ⟨g, off, e, _, h1, _⟩ := hk.get hi
  exact ⟨g, off, e, h1⟩
 obtain ⟨E, hE⟩ : ∃ E, E = k.any isN := ⟨_, rfl⟩
 obtain ⟨N, hN⟩ : ∃ N, N = k.length := ⟨_, rfl⟩
 rw [← hE, ← hN]
 have HE := mkHid hE
 have HN := mkHid hN
 rw [← hN] at hl
 clear hk hE hN
 go_enter Tryz.func35, Tryz.ntmps35
 go_wp2_with fail
 go_loopw [3] (fun s3 wr => ∃ i : Nat, s3 = .int .i64 i ∧ i ≤ N ∧ Hid ((k.take i).any isN = false) ∧ wr = w) (fun s3 _ => N - (intOf s3).toNat)
 case atStart => exact ⟨0, rfl, Nat.zero_le _, rfl, rfl⟩
 case round =>
  obtain ⟨i, rfl, hi, hd, rfl⟩ := hrel
  by_cases hlt : i < N
  ·obtain ⟨v, hv⟩ : ∃ v, k[i]? = some v := ⟨_, List.getElem?_eq_getElem (by have := HN.out; omega)⟩
   obtain ⟨g, off, rfl, c0⟩ := G.out i v hv
   have i1 : (i : Int) < (N : Int) := by omega
   have i2 : (0 : Int) ≤ (i : Int) := by omega
   obtain ⟨s1, s2⟩ := ST.out i v hv hd.out
   by_cases h0 : v.ty = 0
   ·have hE1 : E = true := HE.out.trans (s1 (by unfold isN; rw [h0]; rfl))
    rw [h0] at c0
    clear s1 s2 hd hv h0
    subst hE1
    go_wp2_with fail
    go_ret
    exact ⟨rfl, rfl⟩
   ·have hz : (v.ty == 0) = false := by rw [beq_eq_false_iff_ne]; exact h0
    have hd2 := mkHid (s2 hz)
    clear s1 s2 hd hv h0
    go_wp2_with fail
    go_roundw
    case rel => exact ⟨i + 1, by go_num, hlt, hd2, by first | rfl | trivial⟩
    case measure => simp [intOf]; omega
  ·obtain rfl : N = i := by omega
   have hE1 : E = false := HE.out.trans (AL.out (by have := hd.out; rwa [HN.out] at this))
   clear hd
   subst hE1
   go_wp2_with fail
   go_ret
   exact ⟨rfl, rfl⟩
set_option maxHeartbeats 2000000 in
theorem head_any (g : Nat) (k : Nat) (c : Nat) (p : Option Addr) (n d : Nat) (w : World) (hc : k ≤ c) :
  Calls Tryz.prog 83 #[.slice (some ⟨g, 0, none⟩) k c, .slice p n d] w fun e w' => e = .returned (.slice (some ⟨g, 0, none⟩) (min n k) c) ∧ w' = w := by
 by_cases h : n < k
 ·have e : min n k = n := by omega
  rw [e]
  have h1 : (k : Int) > (n : Int) := by omega
  have h2 : (0 : Int) ≤ (n : Int) := by omega
  have h3 : (n : Int) ≤ (c : Int) := by omega
  clear e h
  go_enter Tryz.func83, Tryz.ntmps83
  go_wp2_with fail
  go_ret
  exact ⟨rfl, rfl⟩
 ·have e : min n k = k := by omega
  rw [e]
  have h1 : ¬ (k : Int) > (n : Int) := by omega
  clear e h
  go_enter Tryz.func83, Tryz.ntmps83
  go_wp2_with fail
  go_ret
  exact ⟨rfl, rfl⟩
/-- the numbers, the entries gathered so far -/
def GrU (w wr : World) (p : Option Addr) (n c : Nat) (L : List Em) : Prop := n = L.length ∧ shr wr 31 1 (.slice p n c) n (L.map idV) ∧ fresh (.slice p n c) w.heap.size ∧ Below w.heap.size w wr
def GrE (w wr : World) (p : Option Addr) (n c : Nat) (L : List Em) : Prop := n = L.length ∧ shr wr 54 2 (.slice p n c) n (fl emE L) ∧ fresh (.slice p n c) w.heap.size ∧ Below w.heap.size w wr
theorem shr_below {w w' : World} {e : TypeId} {sz n : Nat} {v : Value} {xs : List Value} (h : shr w e sz v n xs) (hb : Below w.heap.size w w') : shr w' e sz v n xs := h.kept (S := fun _ => False) (chg_bl hb) (fun _ _ e => e.elim)
theorem filter_step {α : Type} {P : α → Bool} {D : List α} {i : Nat} {m : α} (hm : D[i]? = some m) : (D.take (i + 1)).filter P = (D.take i).filter P ++ (if P m then [m] else []) := by
 rw [List.take_add_one, hm, List.filter_append]
 congr 1
 show [m].filter P = _
 rw [List.filter_cons, List.filter_nil]
theorem GrU.step {w wr w2 : World} {p : Option Addr} {n c : Nat} {L : List Em} (h : GrU w wr p n c L) (hb : Below wr.heap.size wr w2) (m : Em) (hl : n ≤ 100000) :
  ∃ p' c' w3, (∀ ty, (Builtin.append_ #[74, 74] ty #[.slice p n c, .slice (some ⟨w2.heap.size, 0, none⟩) 1 1]).run Tryz.prog (w2.alloc (.cells #[.int .u64 m.e.id] 31)) = .ok (.slice p' (n + 1) c') w3) ∧ GrU w w3 p' (n + 1) c' (L ++ [m]) := by
 obtain ⟨h1, h2, h3, h4⟩ := h
 have bA : Below w2.heap.size w2 (w2.alloc (.cells #[.int .u64 m.e.id] 31)) := (Below.refl _ _).alloc (Nat.le_refl _) _
 have b5 := h4.trans ((hb.trans (bA.mono hb.size)).mono h4.size)
 obtain ⟨p', c', w3, r1, r2, r3, r4⟩ := rwU.appA (P := some ⟨w2.heap.size, 0, none⟩) (c := 1) (B := w.heap.size) (m := 1) (news := [idV m]) (shr_below (shr_below h2 hb) bA) h3 b5.size rfl (fun e => by cases e) (fun ad had j u hj => by
  cases had
  rw [add_plain, Nat.zero_add]
  refine (cell_of_block (heap_alloc_new w2 _) j).trans ?_
  rw [← hj]
  simp [idV]) (fun u hu => by simp at hu; subst hu; rfl) (by omega)
 exact ⟨p', c', w3, r1, by simp [h1], by rw [List.map_append]; exact r2, r3, b5.trans r4⟩
theorem GrE.step {w wr w2 : World} {p : Option Addr} {n c : Nat} {L : List Em} (h : GrE w wr p n c L) (hb : Below wr.heap.size wr w2) (m : Em) (hl : n ≤ 100000) :
  ∃ p' c' w3, (∀ ty, (Builtin.append_ #[26, 26] ty #[.slice p n c, .slice (some ⟨w2.heap.size, 0, none⟩) 1 1]).run Tryz.prog (w2.alloc (.cells #[.slice (some ⟨m.g, 0, none⟩) m.e.key.length m.c, .int .u64 m.e.id] 54)) = .ok (.slice p' (n + 1) c') w3) ∧ GrE w w3 p' (n + 1) c' (L ++ [m]) := by
 obtain ⟨h1, h2, h3, h4⟩ := h
 have bA : Below w2.heap.size w2 (w2.alloc (.cells #[.slice (some ⟨m.g, 0, none⟩) m.e.key.length m.c, .int .u64 m.e.id] 54)) := (Below.refl _ _).alloc (Nat.le_refl _) _
 have b5 := h4.trans ((hb.trans (bA.mono hb.size)).mono h4.size)
 obtain ⟨p', c', w3, r1, r2, r3, r4⟩ := rwDE.appA (P := some ⟨w2.heap.size, 0, none⟩) (c := 1) (B := w.heap.size) (m := 1) (news := emE m) (shr_below (shr_below h2 hb) bA) h3 b5.size rfl (fun e => by cases e) (fun ad had j u hj => by
  cases had
  rw [add_plain, Nat.zero_add]
  refine (cell_of_block (heap_alloc_new w2 _) j).trans ?_
  rw [← hj]
  simp [emE]) (emE_one m) (by omega)
 exact ⟨p', c', w3, r1, by simp [h1], by rw [fl_app]; simpa [fl] using r2, r3, b5.trans r4⟩
theorem GrU.below {w wr w2 : World} {p : Option Addr} {n c : Nat} {L : List Em} (h : GrU w wr p n c L) (hb : Below wr.heap.size wr w2) : GrU w w2 p n c L := ⟨h.1, shr_below h.2.1 hb, h.2.2.1, h.2.2.2.trans (hb.mono h.2.2.2.size)⟩
theorem GrE.below {w wr w2 : World} {p : Option Addr} {n c : Nat} {L : List Em} (h : GrE w wr p n c L) (hb : Below wr.heap.size wr w2) : GrE w w2 p n c L := ⟨h.1, shr_below h.2.1 hb, h.2.2.1, h.2.2.2.trans (hb.mono h.2.2.2.size)⟩
/-- which entries have a key -/
def keyB (k : List Va) (m : Em) : Bool := decide (rowsV m.e.key k = 0)
set_option maxHeartbeats 4000000 in
set_option maxRecDepth 1000000 in
theorem docGet_any (T : Nat → Prop) (u : Bool) (dd : Nat) (D : List Em) (PD : Option Addr) (ND CD : Nat) (k : List Va) (q : Option Addr) (cq : Nat) (w : World) (hd : DocIn T w dd u D (.slice PD ND CD)) (hk : rowOff w q k) (fk : ∀ v ∈ k, fit v.n) (zD : ND ≤ 100000) :
  Calls Tryz.prog 29 #[.pointer (some ⟨dd, 0, none⟩), .slice q k.length cq] w fun e w' => ∃ p n c, e = .returned (.slice p n c) ∧ GrU w w' p n c (D.filter (keyB k)) := by
 obtain ⟨hND, hNC, hP0, hPs⟩ := doc_row hd
 have RW : Hid (∀ (i : Nat) (m : Em) W, D[i]? = some m → Below w.heap.size w W → Calls Tryz.prog 18 #[.slice (some ⟨m.g, 0, none⟩) m.e.key.length m.c, .slice q k.length cq] W fun e w' => e = .returned (.int .i64 (rowsV m.e.key k)) ∧ Below W.heap.size W w') := fun i m W hi hW => by
  have km := (hd.keys m (List.mem_of_getElem? hi)).keeps (Keeps.of_below hW)
  exact refRows_off _ _ m.c cq m.e.key k W (by have := km.few; omega) (Or.inr ⟨_, rfl, km.vals⟩) (hk.below hW) km.fits fk
 have EN : Hid (∀ (i : Nat) W, i < ND → Below w.heap.size w W → ∃ m gx ox, D[i]? = some m ∧ PD = some ⟨gx, ox, none⟩ ∧ W.cell? ⟨gx, ox + i * 2, none⟩ = some (.slice (some ⟨m.g, 0, none⟩) m.e.key.length m.c) ∧ W.cell? ⟨gx, ox + i * 2 + 1, none⟩ = some (.int .u64 m.e.id)) := fun i W hi hW => by
  obtain ⟨m, hm⟩ : ∃ m, D[i]? = some m := ⟨_, List.getElem?_eq_getElem (by omega)⟩
  cases hP : PD with
  | none => have := (hP0 hP).1; omega
  | some ad =>
   obtain ⟨gx, ox, rfl, _, _⟩ := hPs ad hP
   rw [hP] at hd
   obtain ⟨a1, a2, _, _⟩ := (hd.below hW).entry hm
   exact ⟨m, gx, ox, hm, rfl, a1, a2⟩
 have TB : Hid (∀ W, Below w.heap.size w W → W.cell? ⟨dd, 1, none⟩ = some (.slice PD ND CD)) := fun W hW => (cell_of_block (hd.below hW).box 1).trans rfl
 have HND := mkHid hND
 obtain ⟨N, hN⟩ : ∃ N, N = k.length := ⟨_, rfl⟩
 rw [← hN] at RW ⊢
 have b0 : ∀ o, Below w.heap.size w (w.alloc o) := fun o => (Below.refl _ w).alloc (Nat.le_refl _) o
 have G0 : Hid (GrU w (w.alloc (.cells #[] 31)) (some ⟨w.heap.size, 0, none⟩) 0 0 ((D.take 0).filter (keyB k))) := ⟨rfl, ⟨rfl, Or.inr ⟨w.heap.size, 0, 0, #[], rfl, heap_alloc_new _ _, Nat.le_refl _, Nat.zero_le _, Or.inl rfl, fun j u hj => by simp at hj⟩⟩, fun g hg => by cases hg; exact Nat.le_refl _, b0 _⟩
 have FL : Hid (∀ i, ((D.take i).filter (keyB k)).length ≤ i) := fun i => Nat.le_trans (List.length_filter_le _ _) (by rw [List.length_take]; omega)
 clear hd hk fk hND hNC hP0 hPs hN b0
 go_enter Tryz.func29, Tryz.ntmps29
 go_wp2_with fail
 go_loopw [5, 6] (fun s5 s6 wr => ∃ (i : Nat) (p : Option Addr) (n c : Nat), s6 = .int .i64 i ∧ s5 = .slice p n c ∧ i ≤ ND ∧ Hid (GrU w wr p n c ((D.take i).filter (keyB k)))) (fun _ s6 _ => ND - (intOf s6).toNat)
 case atStart => exact ⟨0, _, _, _, rfl, rfl, Nat.zero_le _, G0⟩
 case round =>
  obtain ⟨i, p, n, c, rfl, rfl, hi, hG⟩ := hrel
  clear G0
  have hB := mkHid hG.out.2.2.2
  have t1 := TB.out wr hB.out
  by_cases hlt : i < ND
  ·obtain ⟨m, gx, ox, hm, rfl, c0, c1⟩ := EN.out i wr hlt hB.out
   have i1 : (i : Int) < (ND : Int) := by omega
   have i2 : (0 : Int) ≤ (i : Int) := by omega
   have HM := mkHid hm
   have RWm := mkHid (RW.out i m wr hm hB.out)
   have KP : Hid (∀ w2, Below wr.heap.size wr w2 → w2.cell? ⟨gx, ox + i * 2 + 1, none⟩ = some (.int .u64 m.e.id) ∧ w2.cell? ⟨dd, 1, none⟩ = some (.slice (some ⟨gx, ox, none⟩) ND CD)) := fun w2 h2 => ⟨(h2.cell (World.block_lt_of_cell? _ _ c1)).trans c1, (h2.cell (World.block_lt_of_cell? _ _ t1)).trans t1⟩
   have hn : n ≤ 100000 := by have := FL.out i; have := hG.out.1; omega
   clear hm
   by_cases h1 : rowsV m.e.key k = 0
   ·rw [h1] at RWm
    have AP : Hid (∀ w2, Below wr.heap.size wr w2 → ∃ p' c' w3, (∀ ty, (Builtin.append_ #[74, 74] ty #[.slice p n c, .slice (some ⟨w2.heap.size, 0, none⟩) 1 1]).run Tryz.prog (w2.alloc (.cells #[.int .u64 m.e.id] 31)) = .ok (.slice p' (n + 1) c') w3) ∧ Hid (GrU w w3 p' (n + 1) c' ((D.take (i + 1)).filter (keyB k)))) := fun w2 h2 => by
     obtain ⟨p', c', w3, r1, r2⟩ := hG.out.step h2 m hn
     exact ⟨p', c', w3, r1, by rw [filter_step HM.out, if_pos (by unfold keyB; rw [decide_eq_true h1])]; exact r2⟩
    clear h1 hG
    go_wp2_with (first | (go_at_call 18; refine RWm.out.mono ?_; rintro e w2 ⟨rfl, b2⟩; obtain ⟨u1, u2⟩ := KP.out w2 b2; obtain ⟨p', c', w3, hr, hG3⟩ := AP.out w2 b2; clear AP KP RWm) | (at_builtin; refine wp_app 74 rfl (.tmp 28) (.tmp 37) rfl rfl rfl hr ?_))
    go_roundw
    case rel => exact ⟨i + 1, _, _, _, by go_num, rfl, hlt, hG3⟩
    case measure => simp [intOf]; omega
   ·have he : (rowsV m.e.key k == 0) = false := by rw [beq_eq_false_iff_ne]; exact h1
    have SM : Hid ((D.take (i + 1)).filter (keyB k) = (D.take i).filter (keyB k)) := by
     show _ = _
     rw [filter_step HM.out, if_neg (by unfold keyB; rw [decide_eq_false h1]; simp), List.append_nil]
    clear h1
    go_wp2_with (go_at_call 18; refine RWm.out.mono ?_; rintro e w2 ⟨rfl, b2⟩)
    go_roundw
    case rel => exact ⟨i + 1, p, n, c, by go_num, rfl, hlt, by rw [SM.out]; exact hG.out.below b2⟩
    case measure => simp [intOf]; omega
  ·obtain rfl : ND = i := by omega
   have HG2 : Hid (GrU w wr p n c (D.filter (keyB k))) := by
    have := hG.out
    rwa [HND.out, List.take_length] at this
   clear hG
   go_wp2_with fail
   go_ret
   exact ⟨_, _, _, rfl, HG2.out⟩
end Go.Proofs.YtclcajnodoifjaaGreatDoor

