/-
  Two disks begin; calls one after another.
-/
import Derived.Test.YtdiehlioemmakaaGdZx
import Derived.Test.YtdiehlioemmakaaHA
import Derived.Great.BuildSlice
namespace Go.Proofs.Ytdiehlioemmakaa
open Go.RowKit Go.Maps Go.Joins

def st0 (q : Int) : St := ⟨q, [], [[]], 0, false⟩
theorem Jn.begin (q : Int) (h0 : 0 ≤ q) (h1 : q ≤ 16777216) : Jn (st0 q) 0 [] [] where
  ab := rfl
  st := by unfold stR' st0; simp
  lf := by show -9223372036854775808 ≤ (0 : Int) ∧ (0 : Int) ≤ 9223372036854775807; omega
  ul := rfl
  wk := fun W hW => by
    have e : W = [] := List.mem_singleton.1 hW
    subst e
    exact ⟨List.Pairwise.nil, fun p hp => by simp at hp, List.Pairwise.nil, by simp⟩
  un := fun j u hu => by simp at hu
  ln := fun u hu => by simp at hu
  fl := fun x hx => by simp [st0] at hx
  q := ⟨h0, h1⟩
theorem Dsk.begin {w : World} {base f : Nat} {q : Int} (hb : base ≤ f) (h : FsAt w f q none (.slice none 0 0) 0) : Dsk (fun i => i = f) w base f q 0 none [] [] := by
  have hl : f < w.heap.size := lt_of_heap h
  exact ⟨by omega, fun i hi => by subst hi; omega, rfl, ⟨_, h, ⟨rfl, Or.inl ⟨rfl, rfl⟩⟩, fun g hg => (by cases hg)⟩, fun m e => (by cases e), fun _ => ⟨rfl, rfl⟩, ⟨fun x hx => by simp at hx, List.Pairwise.nil, List.Pairwise.nil⟩, fun x hx => by simp at hx, fun u hu => by simp at hu⟩
theorem gr_below {w w1 : World} (h : Below w.heap.size w w1) : w.grownBy w1 none := ⟨h.os, h.tape, h.output, h.size, fun k hk _ => h.block k hk⟩
def BegQ (w : World) (q : Int) (e : Ending) (w' : World) : Prop := ∃ fp fr pr, e = .returned (.tuple #[.pointer (some ⟨pr, 0, none⟩), .bool true]) ∧ Both (fun i => i = fp) w' w.heap.size fp fr pr (st0 q) 0 ∧ Below w.heap.size w w'
set_option maxHeartbeats 8000000 in
set_option maxRecDepth 1000000 in
theorem Begins_bad (q : Int) (w : World) (h : q < 0 ∨ 16777216 < q) : Calls Try.prog 7 #[.int .i64 q] w fun e w' => e = .returned (.tuple #[.pointer none, .bool true]) ∧ w' = w := by
  have N1 := mkHid (New_bad q w h)
  have N2 := mkHid (refNew_bad q w h)
  clear h
  go_enter Try.func7, Try.ntmps7
  go_wp2_with fail
  refine N1.out.mono ?_
  rintro e wx ⟨rfl, hwx⟩; have hwx2 := hwx.symm; subst hwx2; clear hwx
  go_wp2_with fail
  refine N2.out.mono ?_
  rintro e wx ⟨rfl, hwx⟩; have hwx2 := hwx.symm; subst hwx2; clear hwx
  go_wp2_with fail
  go_ret2
  exact ⟨rfl, rfl⟩
set_option maxHeartbeats 8000000 in
set_option maxRecDepth 1000000 in
theorem Begins_ok (q : Int) (w : World) (h0 : 0 ≤ q) (h1 : q ≤ 16777216) : Calls Try.prog 7 #[.int .i64 q] w fun e w' => BegQ w q e w' := by
  have N1 := mkHid (New_ok q w h0 h1)
  obtain ⟨F, hF⟩ : ∃ F, F = w.heap.size := ⟨_, rfl⟩
  rw [← hF] at N1
  have HF := mkHid hF
  clear hF
  go_enter Try.func7, Try.ntmps7
  go_wp2_with fail
  refine N1.out.mono ?_
  rintro e w1 ⟨rfl, F1, B1, s1⟩
  have N2 := mkHid (refNew_ok (F := fun i => i = F) q w1 (fun i hi => by rw [hi]; omega) h0 h1)
  have HF1 := mkHid F1
  have HB1 := mkHid B1
  have hs1 : F < w1.heap.size := by omega
  clear F1 B1 s1
  go_wp2_with fail
  refine N2.out.mono ?_
  rintro e w2 ⟨rfl, R2, g2, s2⟩
  obtain ⟨r, hr⟩ : ∃ r, r = w1.heap.size + 1 := ⟨_, rfl⟩
  rw [← hr] at R2
  have hsz : r < w2.heap.size := by omega
  have g3 := World.grownBy_alloc w2 (.cells #[.pointer (some ⟨F, 0, none⟩), .pointer (some ⟨r, 0, none⟩)] 34 (0, 0)) none
  have BB : Hid (Both (fun i => i = F) (w2.alloc (.cells #[.pointer (some ⟨F, 0, none⟩), .pointer (some ⟨r, 0, none⟩)] 34)) w.heap.size F r w2.heap.size (st0 q) 0 ∧ Below w.heap.size w (w2.alloc (.cells #[.pointer (some ⟨F, 0, none⟩), .pointer (some ⟨r, 0, none⟩)] 34))) := by
    have hF : F = w.heap.size := HF.out
    rw [← hF]
    have D2 : Dsk (fun i => i = F) w1 F F q 0 none [] [] := Dsk.begin (Nat.le_refl _) HF1.out
    refine ⟨⟨⟨_, _, _, _, (D2.kept g2).kept g3, Jn.begin q h0 h1⟩, R2.grown g3, ⟨fun e => ?_, ?_⟩, heap_alloc_new _ _, ⟨fun e => ?_, ?_⟩, ⟨Nat.le_refl _, Nat.le_refl _, by omega⟩⟩, ?_⟩
    · have e : r = F := e; omega
    · omega
    · have e : w2.heap.size = F := e; omega
    · omega
    · refine HB1.out.trans ⟨g3.os.trans g2.os, g3.tape.trans g2.tape, g3.output.trans g2.output, Nat.le_trans g2.size g3.size, fun k hk => ?_⟩
      exact (g3.block k (by omega) (by simp)).trans (g2.block k (by omega) (by simp))
  have hr2 := mkHid hr
  clear R2 g2 s2 g3
  rw [← hr]
  clear hr
  go_wp2_with fail
  go_ret2
  exact ⟨F, r, w2.heap.size, rfl, BB.out.1, BB.out.2⟩
end Go.Proofs.Ytdiehlioemmakaa
namespace Go.Proofs.Ytdiehlioemmakaa
open Go.RowKit Go.Maps Go.Joins

theorem chgBl {base : Nat} {w w' : World} (hb : Below base w w') : Chg (fun i => base ≤ i) w w' := ⟨hb.os, hb.tape, hb.output, hb.size, fun k _ hn => hb.block k (by omega)⟩
theorem AcV.ok.below {a : AcV} {w w' : World} {base : Nat} (h : a.ok w base) (hb : Below base w w') : a.ok w' base :=
  ⟨h.m, h.n, h.t, h.b.chg0 (chgBl hb) (fun ne x e hx => by have := h.bb ne x e; omega), h.bb, h.bc, h.bl, h.bm, h.k.chg (chgBl hb) (fun ne x e hx => by have := h.kb ne x e; omega), h.kb, h.kc, h.kr, h.kl⟩
/-- the six cells of a call -/
def acAt (w : World) (g o : Nat) (a : AcV) : Prop := w.cell? ⟨g, o, none⟩ = some (.int .i64 a.k) ∧ w.cell? ⟨g, o + 1, none⟩ = some (.string ⟨a.n.toArray⟩) ∧ w.cell? ⟨g, o + 2, none⟩ = some (.string ⟨a.t.toArray⟩) ∧ w.cell? ⟨g, o + 3, none⟩ = some (.slice a.pb a.b.length a.cb) ∧ w.cell? ⟨g, o + 4, none⟩ = some (.int .i64 a.m) ∧ w.cell? ⟨g, o + 5, none⟩ = some (.slice a.pk a.ks.length a.ck)
theorem acAt.chg {S : Nat → Prop} {w w' : World} {g o : Nat} {a : AcV} (h : acAt w g o a) (hc : Chg S w w') (hn : ¬ S g) : acAt w' g o a := ⟨cellC hc h.1 hn, cellC hc h.2.1 hn, cellC hc h.2.2.1 hn, cellC hc h.2.2.2.1 hn, cellC hc h.2.2.2.2.1 hn, cellC hc h.2.2.2.2.2 hn⟩
/-- calls in memory, below base -/
structure acsIn (w : World) (base : Nat) (P : Option Addr) (l : List AcV) : Prop where
  ok : ∀ a ∈ l, a.ok w base
  at_ : l = [] ∨ ∃ g o, P = some ⟨g, o, none⟩ ∧ g < base ∧ ∀ i a, l[i]? = some a → acAt w g (o + i * 6) a
def PlQ (w : World) (L : Nat) (e : Ending) (w' : World) : Prop := ∃ fp fr pr P s, e = .returned (.tuple #[.pointer (some ⟨fp, 0, none⟩), .bool true]) ∧ Both P w' w.heap.size fp fr pr s L ∧ Below w.heap.size w w'
def LpQ (w wr : World) (fp fr pr i : Nat) : Prop := ∃ P s, Both P wr w.heap.size fp fr pr s i ∧ Below w.heap.size w wr
set_option maxHeartbeats 8000000 in
set_option maxRecDepth 1000000 in
theorem played_bad (q : Int) (v : Value) (w : World) (h : q < 0 ∨ 16777216 < q) : Calls Try.prog 13 #[.int .i64 q, v] w fun e w' => e = .returned (.tuple #[.pointer none, .bool true]) ∧ w' = w := by
  have N1 := mkHid (Begins_bad q w h)
  clear h
  go_enter Try.func13, Try.ntmps13
  go_wp2_with fail
  refine N1.out.mono ?_
  rintro e wx ⟨rfl, hwx⟩; have hwx2 := hwx.symm; subst hwx2; clear hwx
  go_wp2_with fail
  go_ret2
  exact ⟨rfl, rfl⟩
set_option maxHeartbeats 8000000 in
set_option maxRecDepth 1000000 in
theorem played_ok (q : Int) (l : List AcV) (Pa : Option Addr) (Ca : Nat) (w : World) (h0 : 0 ≤ q) (h1 : q ≤ 16777216) (hl : l.length ≤ 1900000) (ha : acsIn w w.heap.size Pa l) : Calls Try.prog 13 #[.int .i64 q, .slice Pa l.length Ca] w fun e w' => PlQ w l.length e w' := by
  have N1 := mkHid (Begins_ok q w h0 h1)
  have HA := mkHid ha
  clear ha h0 h1
  obtain ⟨L, hL⟩ : ∃ L, L = l.length := ⟨_, rfl⟩
  have HL := mkHid hL
  rw [← hL] at hl ⊢
  clear hL
  go_enter Try.func13, Try.ntmps13
  go_wp2_with fail
  refine N1.out.mono ?_
  rintro e w1 ⟨fp, fr, pr, rfl, B1, L1⟩
  have I0 : Hid (LpQ w w1 fp fr pr 0) := ⟨_, _, B1, L1⟩
  clear B1 L1
  go_wp2_with fail
  go_loopw [8] (fun s8 wr => ∃ (i : Nat), s8 = .int .i64 (i : Int) ∧ i ≤ L ∧ Hid (LpQ w wr fp fr pr i)) (fun s8 _ => L - (intOf s8).toNat)
  case atStart => exact ⟨0, rfl, Nat.zero_le _, I0⟩
  case round =>
    obtain ⟨i, rfl, hi, HI⟩ := hrel
    by_cases hlt : i < L
    · have hlti : (i : Int) < (L : Int) := by omega
      obtain ⟨a, hga⟩ : ∃ a, l[i]? = some a := ⟨l[i]'(by have : L = l.length := HL.out; omega), List.getElem?_eq_getElem _⟩
      obtain ⟨g, o, rfl, hgb, hcs⟩ : ∃ g o, Pa = some ⟨g, o, none⟩ ∧ g < w.heap.size ∧ ∀ i a, l[i]? = some a → acAt w g (o + i * 6) a := by
        rcases HA.out.at_ with e | e
        · rw [e] at hga; simp at hga
        · exact e
      obtain ⟨P, s, BB, BL⟩ := HI.out
      have cs := (hcs i a hga).chg (chgBl BL) (by omega)
      obtain ⟨c0, c1, c2, c3, c4, c5⟩ := cs
      have hok := (HA.out.ok a (List.mem_of_getElem? hga)).below BL
      have DO := mkHid (Does_any BB (by omega) a hok)
      have HBL := mkHid BL
      have hwl := World.block_lt_of_cell? wr _ c0
      clear hcs BB BL hok hga
      unfold AcV.val at DO
      go_wp2_with fail
      refine DO.out.mono ?_
      rintro e w2 ⟨rfl, P2, s2, B2, L2⟩
      have J2 : Hid (LpQ w w2 fp fr pr (i + 1)) := ⟨P2, s2, B2, HBL.out.trans L2⟩
      clear B2 L2 DO
      go_wp2_with fail
      go_roundw
      case rel => exact ⟨i + 1, by go_num, hlt, J2⟩
      case measure => simp [intOf]; omega
    · have hlti : ¬ (i : Int) < (L : Int) := by omega
      have e : i = L := by omega
      subst e
      obtain ⟨P, s, BB, BL⟩ := HI.out
      have f0 : wr.cell? ⟨pr, 0, none⟩ = some (.pointer (some ⟨fp, 0, none⟩)) := (cell_of_block BB.p 0).trans rfl
      have hwl := World.block_lt_of_cell? wr _ f0
      have RR : Hid (Both P wr w.heap.size fp fr pr s i ∧ Below w.heap.size w wr) := ⟨BB, BL⟩
      clear BB BL
      go_wp2_with fail
      go_ret2
      exact ⟨fp, fr, pr, P, s, rfl, RR.out.1, RR.out.2⟩
end Go.Proofs.Ytdiehlioemmakaa
namespace Go.Proofs.Ytdiehlioemmakaa
open Go.RowKit Go.Maps Go.Joins

theorem entInfo : (Try.prog.info? 50).map (fun i => (i.zero, i.size, i.bytes)) = some (some (.agg #[.string ⟨#[]⟩, .slice none 0 0, .int .i64 0]), 3, 48) := by kernel_rfl
theorem entSlice : Try.prog.underlying 45 = some (.slice 50) := by kernel_rfl
/-- the cells of an image -/
def entsV (zs : List (List UInt8 × Fl)) : List Value := zs.flatMap fun z => [.string ⟨z.1.toArray⟩, z.2.v, .int .i64 (z.2.k : Int)]
theorem entsV_app (a : List (List UInt8 × Fl)) (z : List UInt8 × Fl) : entsV (a ++ [z]) = entsV a ++ [.string ⟨z.1.toArray⟩, z.2.v, .int .i64 (z.2.k : Int)] := by simp [entsV]
structure imgIn (w : World) (base : Nat) (v : Value) (zs : List (List UInt8 × Fl)) : Prop where
  row : w.ownsRow base 50 3 v zs.length (entsV zs)
  by_ : ∀ z ∈ zs, ownsB w base z.2.v z.2.l
theorem row_formS {w : World} {base size n : Nat} {e : TypeId} {v : Value} {xs : List Value} (h : w.ownsRow base e size v n xs) : ∃ P C, v = .slice P n C := by
  rcases h.2 with ⟨e, h0⟩ | ⟨g, cap, cur, e, _⟩
  · exact ⟨none, 0, by rw [e, h0]⟩
  · exact ⟨_, _, e⟩
theorem rebase {w : World} {base base' size n : Nat} {e : TypeId} {v : Value} {xs : List Value} (h : w.ownsRow base e size v n xs) (hb : ∀ g, v.ownBlock = some g → base' ≤ g) : w.ownsRow base' e size v n xs := by
  refine ⟨h.1, ?_⟩
  rcases h.2 with h2 | ⟨g, cap, cur, rfl, _, r⟩
  · exact Or.inl h2
  · exact Or.inr ⟨g, cap, cur, rfl, hb g rfl, r⟩
theorem row_other {w w' : World} {b e s n b2 e2 s2 n2 : Nat} {v v2 : Value} {xs ys : List Value} (h : w.ownsRow b e s v n xs) (h2 : w.ownsRow b2 e2 s2 v2 n2 ys) (hne : e ≠ e2) (hg : w.grownBy w' v2.ownBlock) : w'.ownsRow b e s v n xs := by
  refine World.ownsRow.kept h hg ?_
  cases hv : v.ownBlock with
  | none => exact Or.inl rfl
  | some g =>
    refine Or.inr (fun e => ?_)
    obtain ⟨c1, k1⟩ := own_kind h g hv
    obtain ⟨c2, k2⟩ := own_kind h2 g e.symm
    rw [k1] at k2
    simp at k2
    exact hne k2.2
theorem imgIn.grow {w w' : World} {base : Nat} {v : Value} {zs : List (List UInt8 × Fl)} (h : imgIn w base v zs) (hg : w.grownBy w' none) : imgIn w' base v zs :=
  ⟨World.ownsRow.kept h.row hg (by cases v.ownBlock <;> simp), fun z hz => ownG (h.by_ z hz) hg⟩
theorem lit3_run (w : World) (n : List UInt8) (P : Option Addr) (N C : Nat) (k : Int) : (Instr.buildSlice 45 1 #[(0, .agg #[.string ⟨n.toArray⟩, .slice P N C, .int .i64 k])]).run Try.prog w = .ok (.slice (some ⟨w.heap.size, 0, none⟩) 1 1) (w.alloc (.cells #[.string ⟨n.toArray⟩, .slice P N C, .int .i64 k] 50)) := by
  obtain ⟨i0, hi, hz0, hz1, hz2⟩ := info_parts entInfo
  refine run_buildSlice w 45 50 1 _ _ i0 _ entSlice hi hz0 (by rw [hz1]; omega) (by rw [hz1]; omega) ?_
  rw [hz1]
  first | kernel_rfl | (simp [Instr.fill, Value.cells]; done) | (simp [Instr.fill, Value.cells]; rfl) | go_simp
theorem step_lit3 {ops : Array Oper} {o : Oper} {a : Act} {w : World} {K : Act → World → Prop} {Q : Exit → Act → World → Prop} {E : Prop} {n : List UInt8} {P : Option Addr} {N C : Nat} {k : Int} (hgd : o.guard = none) (x : Operand) (ho : o.op = .buildSlice 45 1 #[(0, x)]) (hx : a.eval x = .agg #[.string ⟨n.toArray⟩, .slice P N C, .int .i64 k])
    (h : K (a.put o.dst (.slice (some ⟨w.heap.size, 0, none⟩) 1 1)) (w.alloc (.cells #[.string ⟨n.toArray⟩, .slice P N C, .int .i64 k] 50))) :
    if Region.wanted o (yielded ops a.tmps) = true then Oper.wp Try.prog o a w K Q else E := by
  have hwd : Region.wanted o (yielded ops a.tmps) = true := by simp [Region.wanted, hgd]
  rw [if_pos hwd]
  unfold Oper.wp execOp
  simp only [ho, Sem.run_bind, Sem.run_pure, Result.andThen_ok, List.map_toArray, List.map_cons, List.map_nil, hx, lit3_run]
  exact h
/-- an entry more -/
theorem img_app {w : World} {base : Nat} {v : Value} {zs : List (List UInt8 × Fl)} (h : imgIn w base v zs) {n : List UInt8} {Pz : Option Addr} {Cz : Nat} {Z : Fl} (hv : Z.v = .slice Pz Z.l.length Cz) (hZ : ownsB w base Z.v Z.l) (hl : zs.length ≤ 1000) (hb : base ≤ w.heap.size) {W : World} (hW : W = w.alloc (.cells #[.string ⟨n.toArray⟩, .slice Pz Z.l.length Cz, .int .i64 (Z.k : Int)] 50)) :
    ∃ v' w', (∀ ty, (Builtin.append_ #[45, 45] ty #[v, .slice (some ⟨w.heap.size, 0, none⟩) 1 1]).run Try.prog W = .ok v' w') ∧ imgIn w' base v' (zs ++ [(n, Z)]) ∧ W.grownBy w' v.ownBlock := by
  obtain ⟨i0, hi, hz0, hz1, hz2⟩ := info_parts entInfo
  have g0 : w.grownBy W none := by rw [hW]; exact World.grownBy_alloc w _ none
  have h1 := h.grow g0
  have hblk : W.heap[w.heap.size]? = some (.cells #[.string ⟨n.toArray⟩, .slice Pz Z.l.length Cz, .int .i64 (Z.k : Int)] 50 (0, 0)) := by rw [hW]; exact heap_alloc_new _ _
  have key : ∀ ty, ∃ v' w', (Builtin.append_ #[45, 45] ty #[v, .slice (some ⟨w.heap.size, 0, none⟩) 1 1]).run Try.prog W = .ok v' w' ∧ w'.ownsRow base 50 3 v' (zs.length + 1) (entsV zs ++ [.string ⟨n.toArray⟩, .slice Pz Z.l.length Cz, .int .i64 (Z.k : Int)]) ∧ W.grownBy w' v.ownBlock ∧ (v' = .slice none 0 0 ↔ v = .slice none 0 0 ∧ 1 = 0) ∧ (v'.ownBlock = v.ownBlock ∨ v'.ownBlock = some W.heap.size) := fun ty =>
    run_append_own_at (P := Try.prog) W base 45 ty 50 i0 _ 3 48 entSlice hi hz0 hz1 hz2 rfl (by decide) v zs.length (entsV zs) h1.row ⟨w.heap.size, 0, none⟩ 1 1 [.string ⟨n.toArray⟩, .slice Pz Z.l.length Cz, .int .i64 (Z.k : Int)] rfl (fun j u hj => by
      rw [add_plain, Nat.zero_add]
      rcases j with _ | _ | _ | j
      · simp at hj; subst hj; exact (cell_of_block hblk 0).trans rfl
      · simp at hj; subst hj; exact (cell_of_block hblk 1).trans rfl
      · simp at hj; subst hj; exact (cell_of_block hblk 2).trans rfl
      · simp at hj) (by intro u hu; simp at hu; rcases hu with rfl | rfl | rfl <;> rfl) (by unfold maxLen; omega) (by omega) (Nat.le_trans hb g0.size)
  obtain ⟨v', w', h2, h3, h4, _, _⟩ := key 0
  refine ⟨v', w', fun ty => h2, ⟨?_, fun z hz => ?_⟩, h4⟩
  · rw [entsV_app, List.length_append, hv]; exact h3
  · rw [List.mem_append, List.mem_singleton] at hz
    rcases hz with hz | rfl
    · exact row_other (h1.by_ z hz) h1.row (by decide) h4
    · exact row_other (ownG hZ g0) h1.row (by decide) h4
theorem abs_app (a : List (List UInt8 × Fl)) (n : List UInt8) (Z : Fl) : absX (a ++ [(n, Z)]) = absX a ++ [(n, (Z.l, Z.k))] := by simp [absX]
def ImQ (w : World) (xs : List (List UInt8 × Fl)) (e : Ending) (w' : World) : Prop := ∃ v zs, e = .returned v ∧ imgIn w' w.heap.size v zs ∧ absX zs = absX xs ∧ w.grownBy w' none
set_option maxHeartbeats 8000000 in
set_option maxRecDepth 1000000 in
theorem Image_any {P : Nat → Prop} (base f : Nat) (q st : Int) (mo : Option Nat) (xs : List (List UInt8 × Fl)) (us : List Ux) (w : World) (so : SrtN xs) (hl : xs.length ≤ 1000) (hn : ∀ p ∈ xs, p.1.length ≤ 1000000000) (d : Dsk P w base f q st mo xs us) :
    Calls Try.prog 16 #[.pointer (some ⟨f, 0, none⟩)] w fun e w' => ImQ w xs e w' := by
  have LI := mkHid (List_any base f q st mo xs us w so hl d)
  have D := mkHid d
  have SO := mkHid so
  have HN := mkHid hn
  obtain ⟨L, hL⟩ : ∃ L, L = xs.length := ⟨_, rfl⟩
  have HL := mkHid hL
  rw [← hL] at hl LI
  clear d so hn hL
  go_enter Try.func16, Try.ntmps16
  go_wp2_with fail
  refine LI.out.mono ?_
  rintro e w1 ⟨v1, rfl, o1, g1⟩
  obtain ⟨P1, C1, rfl⟩ := row_form o1
  have O1 := mkHid o1
  have G1 := mkHid g1
  have I0 : Hid (imgIn w1 w.heap.size (.slice none 0 0) []) := ⟨⟨rfl, Or.inl ⟨rfl, rfl⟩⟩, fun z hz => by simp at hz⟩
  clear o1 g1 LI
  go_wp2_with fail
  go_loopw [3, 5, 6, 10] (fun s3 _ _ s10 wr => ∃ (i : Nat) (P3 : Option Addr) (C3 : Nat) (zs : List (List UInt8 × Fl)), s3 = .slice P3 i C3 ∧ s10 = .int .i64 (i : Int) ∧ i ≤ L ∧ Hid (imgIn wr w.heap.size (.slice P3 i C3) zs ∧ zs.length = i ∧ absX zs = absX (xs.take i)) ∧ Hid (wr.ownsRow w.heap.size 9 1 (.slice P1 L C1) L ((xs.map (·.1)).map encStr)) ∧ Hid (w.grownBy wr none)) (fun _ _ _ s10 _ => L - (intOf s10).toNat)
  case atStart => exact ⟨0, none, 0, [], rfl, rfl, Nat.zero_le _, ⟨I0, rfl, rfl⟩, O1, G1⟩
  case round =>
    obtain ⟨i, P3, C3, zs, rfl, rfl, hi, HI, OR, GR⟩ := hrel
    by_cases hlt : i < L
    · have hlti : (i : Int) < (L : Int) := by omega
      obtain ⟨⟨n, X⟩, hx⟩ : ∃ p, xs[i]? = some p := ⟨xs[i]'(by have : L = xs.length := HL.out; omega), List.getElem?_eq_getElem _⟩
      have hmem := List.mem_of_getElem? hx
      have hnl : n.length ≤ 1000000000 := HN.out (n, X) hmem
      have hlook := look_in SO.out hmem
      obtain ⟨g1, hg1e⟩ : ∃ g, P1 = some ⟨g, 0, none⟩ := by
        rcases OR.out.2 with ⟨e, h0⟩ | ⟨g, cap, cur, e, _⟩
        · exfalso; omega
        · cases e; exact ⟨g, rfl⟩
      subst hg1e
      have cnm : wr.cell? ⟨g1, i, none⟩ = some (.string ⟨n.toArray⟩) := by
        rw [World.ownsRow.cellAt OR.out i (by omega), List.getElem?_map, List.getElem?_map, hx]; rfl
      have DR := D.out.kept GR.out
      obtain ⟨ov, h1, h2, _⟩ := DR.fs
      obtain ⟨c0, c1, c2, c3, cf⟩ := h1.c
      have okX : FlOk wr base X := DR.fl.ok X (List.mem_append_left _ (List.mem_map.2 ⟨(n, X), hmem, rfl⟩))
      have lk := DR.look n (by unfold maxLen; omega)
      rw [hlook] at lk
      unfold lookV at lk
      have CP := mkHid (copied_ok base X wr okX DR.bs)
      have hw1 := World.block_lt_of_cell? wr _ cnm
      have hbw := GR.out.size
      have kl := okX.kl
      have ll := okX.ll
      clear h1 h2 c0 c2 c3 cf DR okX hmem hlook
      go_wp2_with fail
      refine CP.out.mono ?_
      rintro e w2 ⟨b, v2, rfl, hb2, ok2, hf2, g2⟩
      obtain ⟨P2, C2, hP2⟩ := ok2.form
      have hP2' : v2 = .slice P2 X.l.length C2 := hP2
      subst hP2'
      obtain ⟨x0, x1, xf⟩ := ok2.c
      have gd2 : wr.grownBy w2.drew none := grTrans g2 ⟨rfl, rfl, rfl, Nat.le_refl _, fun _ _ _ => rfl⟩
      obtain ⟨W, hW⟩ : ∃ W, W = w2.drew.alloc (.cells #[.string ⟨n.toArray⟩, .slice P2 X.l.length C2, .int .i64 (X.k : Int)] 50) := ⟨_, rfl⟩
      have hsz : w.heap.size ≤ w2.drew.heap.size := Nat.le_trans hbw gd2.size
      have gW : w2.drew.grownBy W none := by rw [hW]; exact World.grownBy_alloc _ _ none
      have im2 := HI.out.1.grow gd2
      obtain ⟨v5, w5, run5, im5, g5⟩ := img_app im2 (n := n) (Z := ⟨b, .slice P2 X.l.length C2, X.l, X.k⟩) rfl (ownG (rebase ok2.row (fun g hg => Nat.le_trans hbw (hf2 g hg))) ⟨rfl, rfl, rfl, Nat.le_refl _, fun _ _ _ => rfl⟩) (by have : zs.length = i := HI.out.2.1; omega) hsz hW
      have hzl : zs.length = i := HI.out.2.1
      have row5 := im5.row
      rw [List.length_append, hzl] at row5
      obtain ⟨P5, C5, hv5⟩ := row_formS row5
      have hv5' : v5 = .slice P5 (i + 1) C5 := hv5
      subst hv5'
      have imW := im2.grow gW
      have og : ∀ g, (Value.slice P3 i C3).ownBlock = some g → w.heap.size ≤ g := fun g hg => by
        rcases im2.row.2 with ⟨e, _⟩ | ⟨g', cap, cur, e, hge, _⟩
        · rw [e] at hg; cases hg
        · rw [e] at hg; cases hg; exact hge
      have g05 : w.grownBy w5 none := by
        have gw := grTrans (grTrans GR.out gd2) gW
        exact ⟨g5.os.trans gw.os, g5.tape.trans gw.tape, g5.output.trans gw.output, Nat.le_trans gw.size g5.size, fun k hk _ => (g5.block k (Nat.lt_of_lt_of_le hk gw.size) (fun e => by have := og k e.symm; omega)).trans (gw.block k hk (by simp))⟩
      have xc : w5.cell? ⟨b, 0, none⟩ = some (.slice P2 X.l.length C2) ∧ w5.cell? ⟨b, 1, none⟩ = some (.int .i64 (X.k : Int)) := by
        have hbk : W.heap[b]? = some (.cells #[.slice P2 X.l.length C2, .int .i64 (X.k : Int)] 86 (0, 0)) := (gW.block b (lt_of_heap ok2.at_) (by simp)).trans ok2.at_
        have hb5 := (g5.block b (lt_of_heap hbk) (fun e => by
          obtain ⟨cs, hk⟩ := own_kind imW.row b e.symm
          rw [hbk] at hk; simp at hk)).trans hbk
        exact ⟨(cell_of_block hb5 0).trans rfl, (cell_of_block hb5 1).trans rfl⟩
      have xW : W.cell? ⟨b, 0, none⟩ = some (.slice P2 X.l.length C2) ∧ W.cell? ⟨b, 1, none⟩ = some (.int .i64 (X.k : Int)) := ⟨gW.cell x0 (by simp), gW.cell x1 (by simp)⟩
      have OR5 : Hid (w5.ownsRow w.heap.size 9 1 (.slice (some ⟨g1, 0, none⟩) L C1) L ((xs.map (·.1)).map encStr)) := row_other (World.ownsRow.kept OR.out (grTrans gd2 gW) (by right; simp [Value.ownBlock])) imW.row (by decide) g5
      have HI5 : Hid (imgIn w5 w.heap.size (.slice P5 (i + 1) C5) (zs ++ [(n, ⟨b, .slice P2 X.l.length C2, X.l, X.k⟩)]) ∧ (zs ++ [(n, (⟨b, .slice P2 X.l.length C2, X.l, X.k⟩ : Fl))]).length = i + 1 ∧ absX (zs ++ [(n, ⟨b, .slice P2 X.l.length C2, X.l, X.k⟩)]) = absX (xs.take (i + 1))) := by
        refine ⟨im5, by rw [List.length_append, hzl]; rfl, ?_⟩
        have h5 : absX zs = absX (xs.take i) := HI.out.2.2
        rw [abs_app, h5, List.take_add_one, hx]
        simp [absX]
      have G5 := mkHid g05
      have HX5 := mkHid xc
      have HXW := mkHid xW
      have hbl := lt_of_heap ok2.at_
      clear im2 im5 imW row5 og g05 xc xW hzl gW ok2 hf2 hP2 xf CP hx hv5
      go_wp2_with fail
      refine wp_region_noPanic ?_
      refine wp_region_held_drew (S := fun w' : World => w'.cell? ⟨b, 0, none⟩ = some (.slice P2 X.l.length C2) ∧ w'.cell? ⟨b, 1, none⟩ = some (.int .i64 (X.k : Int))) (by kernel_rfl) (⟨x0, x1⟩) (fun hH => ?_)
      refine take_at (i := 0) (v := .slice P3 i C3) rfl rfl (by kernel_rfl) (by kernel_rfl) (by kernel_rfl) (fun _ _ _ h => h) (Or.inl ⟨by rfl, ?_⟩) hH ?_
      · intro w5 hSw; obtain ⟨hv0, hv1⟩ := hSw; go_simp
      simp only [List.setIfInBounds_toArray, List.set_cons_zero, List.set_cons_succ]
      refine take_at (i := 1) (v := .string ⟨n.toArray⟩) rfl rfl (by kernel_rfl) (by kernel_rfl) (by kernel_rfl) (fun _ _ _ h => h) (Or.inl ⟨by rfl, ?_⟩) hH ?_
      · intro w5 hSw; obtain ⟨hv0, hv1⟩ := hSw; go_simp
      simp only [List.setIfInBounds_toArray, List.set_cons_zero, List.set_cons_succ]
      refine take_at (i := 2) (v := .pointer (some ⟨b, 0, none⟩)) rfl rfl (by kernel_rfl) (by kernel_rfl) (by kernel_rfl) (fun _ _ _ h => h) (Or.inl ⟨by rfl, ?_⟩) hH ?_
      · intro w5 hSw; obtain ⟨hv0, hv1⟩ := hSw; go_simp
      simp only [List.setIfInBounds_toArray, List.set_cons_zero, List.set_cons_succ]
      refine take_at (i := 3) (v := .pointer (some ⟨b, 0, none⟩)) rfl rfl (by kernel_rfl) (by kernel_rfl) (by kernel_rfl) (fun _ _ _ h => h) (Or.inl ⟨by rfl, ?_⟩) hH ?_
      · intro w5 hSw; obtain ⟨hv0, hv1⟩ := hSw; go_simp
      simp only [List.setIfInBounds_toArray, List.set_cons_zero, List.set_cons_succ]
      refine take_at (i := 4) (v := .pointer (some ⟨b, 0, none⟩)) rfl rfl (by kernel_rfl) (by kernel_rfl) (by kernel_rfl) (fun _ _ _ h => h) (Or.inl ⟨by rfl, ?_⟩) hH ?_
      · intro w5 hSw; obtain ⟨hv0, hv1⟩ := hSw; go_simp
      simp only [List.setIfInBounds_toArray, List.set_cons_zero, List.set_cons_succ]
      refine take_at (i := 5) (v := .slice P2 X.l.length C2) rfl rfl (by kernel_rfl) (by kernel_rfl) (by kernel_rfl) (fun _ _ _ h => h) (Or.inl ⟨by rfl, ?_⟩) hH ?_
      · intro w5 hSw; obtain ⟨hv0, hv1⟩ := hSw; go_simp
      simp only [List.setIfInBounds_toArray, List.set_cons_zero, List.set_cons_succ]
      refine take_at (i := 6) (v := .pointer (some ⟨b, 0, none⟩)) rfl rfl (by kernel_rfl) (by kernel_rfl) (by kernel_rfl) (fun _ _ _ h => h) (Or.inl ⟨by rfl, ?_⟩) hH ?_
      · intro w5 hSw; obtain ⟨hv0, hv1⟩ := hSw; go_simp
      simp only [List.setIfInBounds_toArray, List.set_cons_zero, List.set_cons_succ]
      refine take_at (i := 7) (v := .pointer (some ⟨b, 0, none⟩)) rfl rfl (by kernel_rfl) (by kernel_rfl) (by kernel_rfl) (fun _ _ _ h => h) (Or.inl ⟨by rfl, ?_⟩) hH ?_
      · intro w5 hSw; obtain ⟨hv0, hv1⟩ := hSw; go_simp
      simp only [List.setIfInBounds_toArray, List.set_cons_zero, List.set_cons_succ]
      refine take_at (i := 8) (v := .pointer (some ⟨b, 1, none⟩)) rfl rfl (by kernel_rfl) (by kernel_rfl) (by kernel_rfl) (fun _ _ _ h => h) (Or.inl ⟨by rfl, ?_⟩) hH ?_
      · intro w5 hSw; obtain ⟨hv0, hv1⟩ := hSw; go_simp
      simp only [List.setIfInBounds_toArray, List.set_cons_zero, List.set_cons_succ]
      refine take_at (i := 9) (v := .int .i64 (X.k : Int)) rfl rfl (by kernel_rfl) (by kernel_rfl) (by kernel_rfl) (fun _ _ _ h => h) (Or.inl ⟨by rfl, ?_⟩) hH ?_
      · intro w5 hSw; obtain ⟨hv0, hv1⟩ := hSw; go_simp
      simp only [List.setIfInBounds_toArray, List.set_cons_zero, List.set_cons_succ]
      refine take_at (i := 10) (v := .agg #[.string ⟨n.toArray⟩, .slice P2 X.l.length C2, .int .i64 (X.k : Int)]) rfl rfl (by kernel_rfl) (by kernel_rfl) (by kernel_rfl) (fun _ _ _ h => h) (Or.inl ⟨by rfl, ?_⟩) hH ?_
      · intro w5 hSw; obtain ⟨hv0, hv1⟩ := hSw; go_simp
      simp only [List.setIfInBounds_toArray, List.set_cons_zero, List.set_cons_succ]
      refine wpAnyH_ready (rs := [11]) (by kernel_rfl) (by simp) ?_
      refine AllReadyH.cons rfl (fun K hK => ?_) AllReadyH.nil
      refine step_lit3 rfl (.tmp 31) rfl rfl ?_
      rw [← hW]
      refine hK.out _ _ HXW.out (fun hH => ?_)
      clear hK K
      simp only [Act.put, List.setIfInBounds_toArray]
      refine wpAnyH_ready (rs := [12]) (by kernel_rfl) (by simp) ?_
      refine AllReadyH.cons rfl (fun K hK => ?_) AllReadyH.nil
      refine step_app 45 rfl (.tmp 21) (.tmp 32) rfl rfl rfl run5 ?_
      refine hK.out _ _ HX5.out (fun hH => ?_)
      clear hK K
      simp only [Act.put]
      refine wpAnyH_ready (rs := [13]) (by kernel_rfl) (by simp) ?_
      refine AllReadyH.cons rfl (fun K hK => ?_) AllReadyH.nil
      go_simp
      refine hK.out _ _ HX5.out (fun hH => ?_)
      clear hK K
      refine wpAnyH_done (by kernel_rfl) ?_ _
      refine NoPanic.normal ?_
      clear hH hW run5
      go_wp2_with fail
      go_roundw
      case rel => exact ⟨i + 1, P5, C5, _, rfl, by go_num, hlt, HI5, OR5, G5⟩
      case measure => simp [intOf]; omega
    · have hlti : ¬ (i : Int) < (L : Int) := by omega
      have e : i = L := by omega
      subst e
      have HE : Hid (absX zs = absX xs) := by
        have h5 : absX zs = absX (xs.take i) := HI.out.2.2
        have h6 : i = xs.length := HL.out
        rw [List.take_of_length_le (by omega)] at h5
        exact h5
      go_wp2_with fail
      go_ret
      exact ⟨_, zs, rfl, HI.out.1, HE.out, GR.out⟩
end Go.Proofs.Ytdiehlioemmakaa
namespace Go.Proofs.Ytdiehlioemmakaa
open Go.RowKit Go.Maps Go.Joins

set_option maxHeartbeats 8000000 in
set_option maxRecDepth 1000000 in
theorem starts_some (a : List UInt8) (Pa : Option Addr) (Ca : Nat) (w : World) (b : List UInt8) (g B Cb : Nat) (hB : B = b.length) (hb : byIn w (some ⟨g, 0, none⟩) b) (hbC : B ≤ Cb) (hCp : 0 < Cb) (hCm : Cb ≤ 9223372036854775807) (hle : a.length ≤ B) (hp : b.take a.length = a) (ha : byIn w Pa a) (hCa : Pa = none → Ca = 0) : Calls Try.prog 19 #[.slice (some ⟨g, 0, none⟩) B Cb, .slice Pa a.length Ca] w fun e w' => e = .returned (.bool true) ∧ w.grownBy w' none := by
  have C0 : (convert 27 9 (.slice (some ⟨g, 0, none⟩) a.length Cb)).run Try.prog w.drew = .ok (.string ⟨a.toArray⟩) w.drew := by
    have h1 := (hb.kept (gr_drew w)).take a.length
    rw [hp] at h1
    exact conv_by h1 (fun e => by cases e)
  have hlei : (a.length : Int) ≤ (B : Int) := by omega
  have hleC : (a.length : Int) ≤ (Cb : Int) := by omega
  have hC0 : ¬ Cb = 0 := by omega
  have hnl : ¬ Cb < a.length := by omega
  clear hb hp hB
  have S0 : (convert 27 9 (.slice (some ⟨g, 0, none⟩) a.length Cb)).run Try.prog w.drew = .ok (.string ⟨a.toArray⟩) w.drew ∧ (convert 27 9 (.slice Pa a.length Ca)).run Try.prog w.drew = .ok (.string ⟨a.toArray⟩) w.drew := ⟨C0, conv_by (ha.kept (gr_drew w)) hCa⟩
  obtain ⟨A, hA⟩ : ∃ A, A = a.length := ⟨_, rfl⟩
  clear C0 ha hCa
  rw [← hA] at hle hlei hleC hnl S0 ⊢
  clear hA
  go_enter Try.func19, Try.ntmps19
  go_wp2_with fail
  refine wp_region_noPanic ?_
  refine wp_region_held_drew (S := fun w' : World => (convert 27 9 (.slice (some ⟨g, 0, none⟩) A Cb)).run Try.prog w' = .ok (.string ⟨a.toArray⟩) w' ∧ (convert 27 9 (.slice Pa A Ca)).run Try.prog w' = .ok (.string ⟨a.toArray⟩) w') (by kernel_rfl) (S0) (fun hH => ?_)
  refine take_at (i := 0) (v := .slice Pa A Ca) rfl rfl (by kernel_rfl) (by kernel_rfl) (by kernel_rfl) (fun _ _ _ h => h) (Or.inl ⟨by rfl, ?_⟩) hH ?_
  · intro w5 hSw; obtain ⟨hv0, hv1⟩ := hSw; go_simp
  simp only [List.setIfInBounds_toArray, List.set_cons_zero, List.set_cons_succ]
  refine take_at (i := 1) (v := .int .i64 (A : Int)) rfl rfl (by kernel_rfl) (by kernel_rfl) (by kernel_rfl) (fun _ _ _ h => h) (Or.inl ⟨by rfl, ?_⟩) hH ?_
  · intro w5 hSw; obtain ⟨hv0, hv1⟩ := hSw; go_simp
  simp only [List.setIfInBounds_toArray, List.set_cons_zero, List.set_cons_succ]
  refine take_at (i := 2) (v := .slice (some ⟨g, 0, none⟩) B Cb) rfl rfl (by kernel_rfl) (by kernel_rfl) (by kernel_rfl) (fun _ _ _ h => h) (Or.inl ⟨by rfl, ?_⟩) hH ?_
  · intro w5 hSw; obtain ⟨hv0, hv1⟩ := hSw; go_simp
  simp only [List.setIfInBounds_toArray, List.set_cons_zero, List.set_cons_succ]
  refine take_at (i := 3) (v := .int .i64 (B : Int)) rfl rfl (by kernel_rfl) (by kernel_rfl) (by kernel_rfl) (fun _ _ _ h => h) (Or.inl ⟨by rfl, ?_⟩) hH ?_
  · intro w5 hSw; obtain ⟨hv0, hv1⟩ := hSw; go_simp
  simp only [List.setIfInBounds_toArray, List.set_cons_zero, List.set_cons_succ]
  refine take_at (i := 4) (v := .bool true) rfl rfl (by kernel_rfl) (by kernel_rfl) (by kernel_rfl) (fun _ _ _ h => h) (Or.inl ⟨by rfl, ?_⟩) hH ?_
  · intro w5 hSw; obtain ⟨hv0, hv1⟩ := hSw; go_simp
  simp only [List.setIfInBounds_toArray, List.set_cons_zero, List.set_cons_succ]
  refine take_at (i := 5) (v := .bool true) rfl rfl (by kernel_rfl) (by kernel_rfl) (by kernel_rfl) (fun _ _ _ h => h) (Or.inl ⟨by rfl, ?_⟩) hH ?_
  · intro w5 hSw; obtain ⟨hv0, hv1⟩ := hSw; go_simp
  simp only [List.setIfInBounds_toArray, List.set_cons_zero, List.set_cons_succ]
  refine take_at (i := 6) (v := .slice (some ⟨g, 0, none⟩) B Cb) rfl rfl (by kernel_rfl) (by kernel_rfl) (by kernel_rfl) (fun _ _ _ h => h) (Or.inl ⟨by rfl, ?_⟩) hH ?_
  · intro w5 hSw; obtain ⟨hv0, hv1⟩ := hSw; go_simp
  simp only [List.setIfInBounds_toArray, List.set_cons_zero, List.set_cons_succ]
  refine take_at (i := 7) (v := .slice Pa A Ca) rfl rfl (by kernel_rfl) (by kernel_rfl) (by kernel_rfl) (fun _ _ _ h => h) (Or.inl ⟨by rfl, ?_⟩) hH ?_
  · intro w5 hSw; obtain ⟨hv0, hv1⟩ := hSw; go_simp
  simp only [List.setIfInBounds_toArray, List.set_cons_zero, List.set_cons_succ]
  refine take_at (i := 8) (v := .int .i64 (A : Int)) rfl rfl (by kernel_rfl) (by kernel_rfl) (by kernel_rfl) (fun _ _ _ h => h) (Or.inl ⟨by rfl, ?_⟩) hH ?_
  · intro w5 hSw; obtain ⟨hv0, hv1⟩ := hSw; go_simp
  simp only [List.setIfInBounds_toArray, List.set_cons_zero, List.set_cons_succ]
  refine take_at (i := 9) (v := .slice (some ⟨g, 0, none⟩) A Cb) rfl rfl (by kernel_rfl) (by kernel_rfl) (by kernel_rfl) (fun _ _ _ h => h) (Or.inl ⟨by rfl, ?_⟩) hH ?_
  · intro w5 hSw; obtain ⟨hv0, hv1⟩ := hSw; go_simp
  simp only [List.setIfInBounds_toArray, List.set_cons_zero, List.set_cons_succ]
  refine take_at (i := 10) (v := .string ⟨a.toArray⟩) rfl rfl (by kernel_rfl) (by kernel_rfl) (by kernel_rfl) (fun _ _ _ h => h) (Or.inl ⟨by rfl, ?_⟩) hH ?_
  · intro w5 hSw; obtain ⟨hv0, hv1⟩ := hSw; go_simp
  simp only [List.setIfInBounds_toArray, List.set_cons_zero, List.set_cons_succ]
  refine take_at (i := 11) (v := .slice Pa A Ca) rfl rfl (by kernel_rfl) (by kernel_rfl) (by kernel_rfl) (fun _ _ _ h => h) (Or.inl ⟨by rfl, ?_⟩) hH ?_
  · intro w5 hSw; obtain ⟨hv0, hv1⟩ := hSw; go_simp
  simp only [List.setIfInBounds_toArray, List.set_cons_zero, List.set_cons_succ]
  refine take_at (i := 12) (v := .string ⟨a.toArray⟩) rfl rfl (by kernel_rfl) (by kernel_rfl) (by kernel_rfl) (fun _ _ _ h => h) (Or.inl ⟨by rfl, ?_⟩) hH ?_
  · intro w5 hSw; obtain ⟨hv0, hv1⟩ := hSw; go_simp
  simp only [List.setIfInBounds_toArray, List.set_cons_zero, List.set_cons_succ]
  refine take_at (i := 13) (v := .bool true) rfl rfl (by kernel_rfl) (by kernel_rfl) (by kernel_rfl) (fun _ _ _ h => h) (Or.inl ⟨by rfl, ?_⟩) hH ?_
  · intro w5 hSw; obtain ⟨hv0, hv1⟩ := hSw; go_simp
  simp only [List.setIfInBounds_toArray, List.set_cons_zero, List.set_cons_succ]
  refine take_at (i := 14) (v := .bool true) rfl rfl (by kernel_rfl) (by kernel_rfl) (by kernel_rfl) (fun _ _ _ h => h) (Or.inl ⟨by rfl, ?_⟩) hH ?_
  · intro w5 hSw; obtain ⟨hv0, hv1⟩ := hSw; go_simp
  simp only [List.setIfInBounds_toArray, List.set_cons_zero, List.set_cons_succ]
  refine take_at (i := 15) (v := .bool true) rfl rfl (by kernel_rfl) (by kernel_rfl) (by kernel_rfl) (fun _ _ _ h => h) (Or.inl ⟨by rfl, ?_⟩) hH ?_
  · intro w5 hSw; obtain ⟨hv0, hv1⟩ := hSw; go_simp
  simp only [List.setIfInBounds_toArray, List.set_cons_zero, List.set_cons_succ]
  refine wpAnyH_done (by kernel_rfl) ?_ _
  refine NoPanic.normal ?_
  go_wp2_with fail
  go_ret
  exact ⟨rfl, gr_drew w⟩
set_option maxHeartbeats 8000000 in
set_option maxRecDepth 1000000 in
theorem starts_none (Pa : Option Addr) (Ca : Nat) (w : World) (ha : byIn w Pa []) (hCa : Pa = none → Ca = 0) : Calls Try.prog 19 #[.slice none 0 0, .slice Pa 0 Ca] w fun e w' => e = .returned (.bool true) ∧ w.grownBy w' none := by
  have S0 : (convert 27 9 (.slice none 0 0)).run Try.prog w.drew = .ok (.string ⟨#[]⟩) w.drew ∧ (convert 27 9 (.slice Pa 0 Ca)).run Try.prog w.drew = .ok (.string ⟨#[]⟩) w.drew := ⟨conv_by (w := w.drew) (P := none) (l := []) (C := 0) (Or.inl ⟨rfl, rfl⟩) (fun _ => rfl), conv_by (ha.kept (gr_drew w)) hCa⟩
  clear ha hCa
  go_enter Try.func19, Try.ntmps19
  go_wp2_with fail
  refine wp_region_noPanic ?_
  refine wp_region_held_drew (S := fun w' : World => (convert 27 9 (.slice none 0 0)).run Try.prog w' = .ok (.string ⟨#[]⟩) w' ∧ (convert 27 9 (.slice Pa 0 Ca)).run Try.prog w' = .ok (.string ⟨#[]⟩) w') (by kernel_rfl) (S0) (fun hH => ?_)
  refine take_at (i := 0) (v := .slice Pa 0 Ca) rfl rfl (by kernel_rfl) (by kernel_rfl) (by kernel_rfl) (fun _ _ _ h => h) (Or.inl ⟨by rfl, ?_⟩) hH ?_
  · intro w5 hSw; obtain ⟨hv0, hv1⟩ := hSw; go_simp
  simp only [List.setIfInBounds_toArray, List.set_cons_zero, List.set_cons_succ]
  refine take_at (i := 1) (v := .int .i64 0) rfl rfl (by kernel_rfl) (by kernel_rfl) (by kernel_rfl) (fun _ _ _ h => h) (Or.inl ⟨by rfl, ?_⟩) hH ?_
  · intro w5 hSw; obtain ⟨hv0, hv1⟩ := hSw; go_simp
  simp only [List.setIfInBounds_toArray, List.set_cons_zero, List.set_cons_succ]
  refine take_at (i := 2) (v := .slice none 0 0) rfl rfl (by kernel_rfl) (by kernel_rfl) (by kernel_rfl) (fun _ _ _ h => h) (Or.inl ⟨by rfl, ?_⟩) hH ?_
  · intro w5 hSw; obtain ⟨hv0, hv1⟩ := hSw; go_simp
  simp only [List.setIfInBounds_toArray, List.set_cons_zero, List.set_cons_succ]
  refine take_at (i := 3) (v := .int .i64 0) rfl rfl (by kernel_rfl) (by kernel_rfl) (by kernel_rfl) (fun _ _ _ h => h) (Or.inl ⟨by rfl, ?_⟩) hH ?_
  · intro w5 hSw; obtain ⟨hv0, hv1⟩ := hSw; go_simp
  simp only [List.setIfInBounds_toArray, List.set_cons_zero, List.set_cons_succ]
  refine take_at (i := 4) (v := .bool true) rfl rfl (by kernel_rfl) (by kernel_rfl) (by kernel_rfl) (fun _ _ _ h => h) (Or.inl ⟨by rfl, ?_⟩) hH ?_
  · intro w5 hSw; obtain ⟨hv0, hv1⟩ := hSw; go_simp
  simp only [List.setIfInBounds_toArray, List.set_cons_zero, List.set_cons_succ]
  refine take_at (i := 5) (v := .bool true) rfl rfl (by kernel_rfl) (by kernel_rfl) (by kernel_rfl) (fun _ _ _ h => h) (Or.inl ⟨by rfl, ?_⟩) hH ?_
  · intro w5 hSw; obtain ⟨hv0, hv1⟩ := hSw; go_simp
  simp only [List.setIfInBounds_toArray, List.set_cons_zero, List.set_cons_succ]
  refine take_at (i := 6) (v := .slice none 0 0) rfl rfl (by kernel_rfl) (by kernel_rfl) (by kernel_rfl) (fun _ _ _ h => h) (Or.inl ⟨by rfl, ?_⟩) hH ?_
  · intro w5 hSw; obtain ⟨hv0, hv1⟩ := hSw; go_simp
  simp only [List.setIfInBounds_toArray, List.set_cons_zero, List.set_cons_succ]
  refine take_at (i := 7) (v := .slice Pa 0 Ca) rfl rfl (by kernel_rfl) (by kernel_rfl) (by kernel_rfl) (fun _ _ _ h => h) (Or.inl ⟨by rfl, ?_⟩) hH ?_
  · intro w5 hSw; obtain ⟨hv0, hv1⟩ := hSw; go_simp
  simp only [List.setIfInBounds_toArray, List.set_cons_zero, List.set_cons_succ]
  refine take_at (i := 8) (v := .int .i64 0) rfl rfl (by kernel_rfl) (by kernel_rfl) (by kernel_rfl) (fun _ _ _ h => h) (Or.inl ⟨by rfl, ?_⟩) hH ?_
  · intro w5 hSw; obtain ⟨hv0, hv1⟩ := hSw; go_simp
  simp only [List.setIfInBounds_toArray, List.set_cons_zero, List.set_cons_succ]
  refine take_at (i := 9) (v := .slice none 0 0) rfl rfl (by kernel_rfl) (by kernel_rfl) (by kernel_rfl) (fun _ _ _ h => h) (Or.inl ⟨by rfl, ?_⟩) hH ?_
  · intro w5 hSw; obtain ⟨hv0, hv1⟩ := hSw; go_simp
  simp only [List.setIfInBounds_toArray, List.set_cons_zero, List.set_cons_succ]
  refine take_at (i := 10) (v := .string ⟨#[]⟩) rfl rfl (by kernel_rfl) (by kernel_rfl) (by kernel_rfl) (fun _ _ _ h => h) (Or.inl ⟨by rfl, ?_⟩) hH ?_
  · intro w5 hSw; obtain ⟨hv0, hv1⟩ := hSw; go_simp
  simp only [List.setIfInBounds_toArray, List.set_cons_zero, List.set_cons_succ]
  refine take_at (i := 11) (v := .slice Pa 0 Ca) rfl rfl (by kernel_rfl) (by kernel_rfl) (by kernel_rfl) (fun _ _ _ h => h) (Or.inl ⟨by rfl, ?_⟩) hH ?_
  · intro w5 hSw; obtain ⟨hv0, hv1⟩ := hSw; go_simp
  simp only [List.setIfInBounds_toArray, List.set_cons_zero, List.set_cons_succ]
  refine take_at (i := 12) (v := .string ⟨#[]⟩) rfl rfl (by kernel_rfl) (by kernel_rfl) (by kernel_rfl) (fun _ _ _ h => h) (Or.inl ⟨by rfl, ?_⟩) hH ?_
  · intro w5 hSw; obtain ⟨hv0, hv1⟩ := hSw; go_simp
  simp only [List.setIfInBounds_toArray, List.set_cons_zero, List.set_cons_succ]
  refine take_at (i := 13) (v := .bool true) rfl rfl (by kernel_rfl) (by kernel_rfl) (by kernel_rfl) (fun _ _ _ h => h) (Or.inl ⟨by rfl, ?_⟩) hH ?_
  · intro w5 hSw; obtain ⟨hv0, hv1⟩ := hSw; go_simp
  simp only [List.setIfInBounds_toArray, List.set_cons_zero, List.set_cons_succ]
  refine take_at (i := 14) (v := .bool true) rfl rfl (by kernel_rfl) (by kernel_rfl) (by kernel_rfl) (fun _ _ _ h => h) (Or.inl ⟨by rfl, ?_⟩) hH ?_
  · intro w5 hSw; obtain ⟨hv0, hv1⟩ := hSw; go_simp
  simp only [List.setIfInBounds_toArray, List.set_cons_zero, List.set_cons_succ]
  refine take_at (i := 15) (v := .bool true) rfl rfl (by kernel_rfl) (by kernel_rfl) (by kernel_rfl) (fun _ _ _ h => h) (Or.inl ⟨by rfl, ?_⟩) hH ?_
  · intro w5 hSw; obtain ⟨hv0, hv1⟩ := hSw; go_simp
  simp only [List.setIfInBounds_toArray, List.set_cons_zero, List.set_cons_succ]
  refine wpAnyH_done (by kernel_rfl) ?_ _
  refine NoPanic.normal ?_
  go_wp2_with fail
  go_ret
  exact ⟨rfl, gr_drew w⟩
set_option maxHeartbeats 8000000 in
set_option maxRecDepth 1000000 in
theorem starts_zero (g : Nat) (Pa : Option Addr) (Ca : Nat) (w : World) (ha : byIn w Pa []) (hCa : Pa = none → Ca = 0) : Calls Try.prog 19 #[.slice (some ⟨g, 0, none⟩) 0 0, .slice Pa 0 Ca] w fun e w' => e = .returned (.bool true) ∧ w.grownBy w' none := by
  have S0 : (convert 27 9 (.slice (some ⟨g, 0, none⟩) 0 0)).run Try.prog w.drew = .ok (.string ⟨#[]⟩) w.drew ∧ (convert 27 9 (.slice Pa 0 Ca)).run Try.prog w.drew = .ok (.string ⟨#[]⟩) w.drew := ⟨conv_by (w := w.drew) (P := some ⟨g, 0, none⟩) (l := []) (C := 0) (Or.inr ⟨_, rfl, fun i x hx => by simp at hx⟩) (fun _ => rfl), conv_by (ha.kept (gr_drew w)) hCa⟩
  clear ha hCa
  go_enter Try.func19, Try.ntmps19
  go_wp2_with fail
  refine wp_region_noPanic ?_
  refine wp_region_held_drew (S := fun w' : World => (convert 27 9 (.slice (some ⟨g, 0, none⟩) 0 0)).run Try.prog w' = .ok (.string ⟨#[]⟩) w' ∧ (convert 27 9 (.slice Pa 0 Ca)).run Try.prog w' = .ok (.string ⟨#[]⟩) w') (by kernel_rfl) (S0) (fun hH => ?_)
  refine take_at (i := 0) (v := .slice Pa 0 Ca) rfl rfl (by kernel_rfl) (by kernel_rfl) (by kernel_rfl) (fun _ _ _ h => h) (Or.inl ⟨by rfl, ?_⟩) hH ?_
  · intro w5 hSw; obtain ⟨hv0, hv1⟩ := hSw; go_simp
  simp only [List.setIfInBounds_toArray, List.set_cons_zero, List.set_cons_succ]
  refine take_at (i := 1) (v := .int .i64 0) rfl rfl (by kernel_rfl) (by kernel_rfl) (by kernel_rfl) (fun _ _ _ h => h) (Or.inl ⟨by rfl, ?_⟩) hH ?_
  · intro w5 hSw; obtain ⟨hv0, hv1⟩ := hSw; go_simp
  simp only [List.setIfInBounds_toArray, List.set_cons_zero, List.set_cons_succ]
  refine take_at (i := 2) (v := .slice (some ⟨g, 0, none⟩) 0 0) rfl rfl (by kernel_rfl) (by kernel_rfl) (by kernel_rfl) (fun _ _ _ h => h) (Or.inl ⟨by rfl, ?_⟩) hH ?_
  · intro w5 hSw; obtain ⟨hv0, hv1⟩ := hSw; go_simp
  simp only [List.setIfInBounds_toArray, List.set_cons_zero, List.set_cons_succ]
  refine take_at (i := 3) (v := .int .i64 0) rfl rfl (by kernel_rfl) (by kernel_rfl) (by kernel_rfl) (fun _ _ _ h => h) (Or.inl ⟨by rfl, ?_⟩) hH ?_
  · intro w5 hSw; obtain ⟨hv0, hv1⟩ := hSw; go_simp
  simp only [List.setIfInBounds_toArray, List.set_cons_zero, List.set_cons_succ]
  refine take_at (i := 4) (v := .bool true) rfl rfl (by kernel_rfl) (by kernel_rfl) (by kernel_rfl) (fun _ _ _ h => h) (Or.inl ⟨by rfl, ?_⟩) hH ?_
  · intro w5 hSw; obtain ⟨hv0, hv1⟩ := hSw; go_simp
  simp only [List.setIfInBounds_toArray, List.set_cons_zero, List.set_cons_succ]
  refine take_at (i := 5) (v := .bool true) rfl rfl (by kernel_rfl) (by kernel_rfl) (by kernel_rfl) (fun _ _ _ h => h) (Or.inl ⟨by rfl, ?_⟩) hH ?_
  · intro w5 hSw; obtain ⟨hv0, hv1⟩ := hSw; go_simp
  simp only [List.setIfInBounds_toArray, List.set_cons_zero, List.set_cons_succ]
  refine take_at (i := 6) (v := .slice (some ⟨g, 0, none⟩) 0 0) rfl rfl (by kernel_rfl) (by kernel_rfl) (by kernel_rfl) (fun _ _ _ h => h) (Or.inl ⟨by rfl, ?_⟩) hH ?_
  · intro w5 hSw; obtain ⟨hv0, hv1⟩ := hSw; go_simp
  simp only [List.setIfInBounds_toArray, List.set_cons_zero, List.set_cons_succ]
  refine take_at (i := 7) (v := .slice Pa 0 Ca) rfl rfl (by kernel_rfl) (by kernel_rfl) (by kernel_rfl) (fun _ _ _ h => h) (Or.inl ⟨by rfl, ?_⟩) hH ?_
  · intro w5 hSw; obtain ⟨hv0, hv1⟩ := hSw; go_simp
  simp only [List.setIfInBounds_toArray, List.set_cons_zero, List.set_cons_succ]
  refine take_at (i := 8) (v := .int .i64 0) rfl rfl (by kernel_rfl) (by kernel_rfl) (by kernel_rfl) (fun _ _ _ h => h) (Or.inl ⟨by rfl, ?_⟩) hH ?_
  · intro w5 hSw; obtain ⟨hv0, hv1⟩ := hSw; go_simp
  simp only [List.setIfInBounds_toArray, List.set_cons_zero, List.set_cons_succ]
  refine take_at (i := 9) (v := .slice (some ⟨g, 0, none⟩) 0 0) rfl rfl (by kernel_rfl) (by kernel_rfl) (by kernel_rfl) (fun _ _ _ h => h) (Or.inl ⟨by rfl, ?_⟩) hH ?_
  · intro w5 hSw; obtain ⟨hv0, hv1⟩ := hSw; go_simp
  simp only [List.setIfInBounds_toArray, List.set_cons_zero, List.set_cons_succ]
  refine take_at (i := 10) (v := .string ⟨#[]⟩) rfl rfl (by kernel_rfl) (by kernel_rfl) (by kernel_rfl) (fun _ _ _ h => h) (Or.inl ⟨by rfl, ?_⟩) hH ?_
  · intro w5 hSw; obtain ⟨hv0, hv1⟩ := hSw; go_simp
  simp only [List.setIfInBounds_toArray, List.set_cons_zero, List.set_cons_succ]
  refine take_at (i := 11) (v := .slice Pa 0 Ca) rfl rfl (by kernel_rfl) (by kernel_rfl) (by kernel_rfl) (fun _ _ _ h => h) (Or.inl ⟨by rfl, ?_⟩) hH ?_
  · intro w5 hSw; obtain ⟨hv0, hv1⟩ := hSw; go_simp
  simp only [List.setIfInBounds_toArray, List.set_cons_zero, List.set_cons_succ]
  refine take_at (i := 12) (v := .string ⟨#[]⟩) rfl rfl (by kernel_rfl) (by kernel_rfl) (by kernel_rfl) (fun _ _ _ h => h) (Or.inl ⟨by rfl, ?_⟩) hH ?_
  · intro w5 hSw; obtain ⟨hv0, hv1⟩ := hSw; go_simp
  simp only [List.setIfInBounds_toArray, List.set_cons_zero, List.set_cons_succ]
  refine take_at (i := 13) (v := .bool true) rfl rfl (by kernel_rfl) (by kernel_rfl) (by kernel_rfl) (fun _ _ _ h => h) (Or.inl ⟨by rfl, ?_⟩) hH ?_
  · intro w5 hSw; obtain ⟨hv0, hv1⟩ := hSw; go_simp
  simp only [List.setIfInBounds_toArray, List.set_cons_zero, List.set_cons_succ]
  refine take_at (i := 14) (v := .bool true) rfl rfl (by kernel_rfl) (by kernel_rfl) (by kernel_rfl) (fun _ _ _ h => h) (Or.inl ⟨by rfl, ?_⟩) hH ?_
  · intro w5 hSw; obtain ⟨hv0, hv1⟩ := hSw; go_simp
  simp only [List.setIfInBounds_toArray, List.set_cons_zero, List.set_cons_succ]
  refine take_at (i := 15) (v := .bool true) rfl rfl (by kernel_rfl) (by kernel_rfl) (by kernel_rfl) (fun _ _ _ h => h) (Or.inl ⟨by rfl, ?_⟩) hH ?_
  · intro w5 hSw; obtain ⟨hv0, hv1⟩ := hSw; go_simp
  simp only [List.setIfInBounds_toArray, List.set_cons_zero, List.set_cons_succ]
  refine wpAnyH_done (by kernel_rfl) ?_ _
  refine NoPanic.normal ?_
  go_wp2_with fail
  go_ret
  exact ⟨rfl, gr_drew w⟩
/-- bytes of an image begin with those of a later one -/
theorem starts_any (base base2 : Nat) (b a : List UInt8) (Pb Pa : Option Addr) (Cb Ca : Nat) (w : World) (hb : ownsB w base (.slice Pb b.length Cb) b) (ha : ownsB w base2 (.slice Pa a.length Ca) a) (hp : b.take a.length = a) : Calls Try.prog 19 #[.slice Pb b.length Cb, .slice Pa a.length Ca] w fun e w' => e = .returned (.bool true) ∧ w.grownBy w' none := by
  have hle : a.length ≤ b.length := by
    have := congrArg List.length hp
    rw [List.length_take] at this; omega
  have oa := own_by ha
  have ob := own_by hb
  rcases hb.2 with ⟨e, h0⟩ | ⟨g, cap, cur, e, _, _, h5, h6, _⟩
  · injection e with e1 e2 e3
    subst e1; subst e3
    have ha0 : a = [] := List.eq_nil_of_length_eq_zero (by omega)
    subst ha0
    rw [h0]
    exact starts_none Pa Ca w oa.1 oa.2.1
  · injection e with e1 e2 e3
    subst e1; subst e3
    by_cases hc : 0 < Cb
    · exact starts_some a Pa Ca w b g b.length Cb rfl ob.1 (by omega) hc (by unfold maxLen at h6; omega) hle hp oa.1 oa.2.1
    · obtain rfl : Cb = 0 := by omega
      have ha0 : a = [] := List.eq_nil_of_length_eq_zero (by omega)
      have hb0 : b = [] := List.eq_nil_of_length_eq_zero (by omega)
      subst ha0; subst hb0
      exact starts_zero g Pa Ca w oa.1 oa.2.1
end Go.Proofs.Ytdiehlioemmakaa
namespace Go.Proofs.Ytdiehlioemmakaa
open Go.RowKit Go.Maps Go.Joins

theorem cutA_le {keeps : List Int} {t : Nat} {x : List UInt8 × Nat} (h : x.2 ≤ x.1.length) : x.2 ≤ cutA keeps t x ∧ cutA keeps t x ≤ x.1.length := by
  unfold cutA
  split
  · omega
  · unfold kp
    have := Nat.mod_lt (max 0 (keeps.getD (t % keeps.length) 0)).toNat (show 0 < x.1.length - x.2 + 1 by omega)
    omega
/-- a file behind a crash -/
def cutOf (p q : List UInt8 × (List UInt8 × Nat)) : Prop := q.1 = p.1 ∧ p.2.1.take q.2.1.length = q.2.1 ∧ p.2.2 ≤ q.2.1.length ∧ q.2.2 = q.2.1.length
theorem cuts_of (keeps : List Int) : ∀ (t : Nat) (xs : List (List UInt8 × (List UInt8 × Nat))), (∀ p ∈ xs, p.2.2 ≤ p.2.1.length) → (cutsA keeps t xs).length = xs.length ∧ ∀ (i : Nat) (p q : List UInt8 × (List UInt8 × Nat)), xs[i]? = some p → (cutsA keeps t xs)[i]? = some q → cutOf p q
  | _, [], _ => ⟨rfl, fun i p q h => by simp at h⟩
  | t, x :: r, h => by
    have hx := h x (List.mem_cons_self ..)
    have hr := fun p hp => h p (List.mem_cons_of_mem _ hp)
    unfold cutsA
    split
    · rename_i e
      obtain ⟨h1, h2⟩ := cuts_of keeps t r hr
      refine ⟨by simp [h1], fun i p q hp hq => ?_⟩
      cases i with
      | zero =>
        simp at hp hq
        subst hp; subst hq
        exact ⟨rfl, List.take_length, hx, e⟩
      | succ i => exact h2 i p q (by simpa using hp) (by simpa using hq)
    · obtain ⟨h1, h2⟩ := cuts_of keeps (t + 1) r hr
      refine ⟨by simp [h1], fun i p q hp hq => ?_⟩
      cases i with
      | zero =>
        simp at hp hq
        subst hp; subst hq
        have hc := cutA_le (keeps := keeps) (t := t) hx
        have hl : (x.2.1.take (cutA keeps t x.2)).length = cutA keeps t x.2 := by rw [List.length_take]; omega
        refine ⟨rfl, ?_, ?_, ?_⟩
        · show x.2.1.take (x.2.1.take (cutA keeps t x.2)).length = _
          rw [hl]
        · show x.2.2 ≤ (x.2.1.take (cutA keeps t x.2)).length
          rw [hl]; exact hc.1
        · show cutA keeps t x.2 = (x.2.1.take (cutA keeps t x.2)).length
          rw [hl]
      | succ i => exact h2 i p q (by simpa using hp) (by simpa using hq)
theorem cuts_once (keeps : List Int) : ∀ (t : Nat) (xs : List (List UInt8 × (List UInt8 × Nat))), (∀ p ∈ xs, p.2.2 = p.2.1.length) → cutsA keeps t xs = xs
  | _, [], _ => rfl
  | t, x :: r, h => by
    unfold cutsA
    rw [if_pos (h x (List.mem_cons_self ..)), cuts_once keeps t r (fun p hp => h p (List.mem_cons_of_mem _ hp))]
theorem cuts_fast (keeps : List Int) (t : Nat) (xs : List (List UInt8 × (List UInt8 × Nat))) (h : ∀ p ∈ xs, p.2.2 ≤ p.2.1.length) : ∀ p ∈ cutsA keeps t xs, p.2.2 = p.2.1.length := fun p hp => by
  obtain ⟨i, hi⟩ := List.getElem?_of_mem hp
  obtain ⟨h1, h2⟩ := cuts_of keeps t xs h
  have hl := (List.getElem?_eq_some_iff.1 hi).1
  obtain ⟨x, hx⟩ : ∃ x, xs[i]? = some x := ⟨xs[i]'(by omega), List.getElem?_eq_getElem _⟩
  exact (h2 i x p hx hi).2.2.2
end Go.Proofs.Ytdiehlioemmakaa
