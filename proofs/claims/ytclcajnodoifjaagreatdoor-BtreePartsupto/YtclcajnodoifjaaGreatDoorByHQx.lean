/-
  The walk of the law of the three parts, rows at any place.
-/
import Derived.Test.YtclcajnodoifjaaGreatDoorGAS
namespace Go.Proofs.YtclcajnodoifjaaGreatDoor
open Go.RowKit Go.Shelf Go.Joins Go.Maps
set_option maxRecDepth 100000

set_option maxHeartbeats 8000000 in
set_option maxRecDepth 1000000 in
theorem Parts_off (acts : List Ac) (PA : Option Addr) (CA : Nat) (key : List Va) (qk : Option Addr) (ck : Nat) (w : World) (hA : actsAt w PA acts) (hok : ∀ a ∈ acts, a.came w) (hk : rowOff w qk key) (fk : ∀ v ∈ key, fit v.n) (zk : key.length ≤ 1000000000) (hTb : Tabs w) (zA : acts.length ≤ 1000000000) :
    Calls Tryz.prog 4 #[.slice PA acts.length CA, .slice qk key.length ck] w fun e w' => e = .returned (.bool true) ∧ Below w.heap.size w w' := by
  obtain ⟨NA, hNA⟩ : ∃ N, N = acts.length := ⟨_, rfl⟩
  obtain ⟨NK, hNK⟩ : ∃ N, N = key.length := ⟨_, rfl⟩
  have NW := mkHid (New_any false w)
  have M0 : Hid (∀ w1, w1.heap[w.heap.size]? = some (trO false (.slice none 0 0) (.slice none 0 0) 0) → Below w.heap.size w w1 → Mid w w.heap.size w1.heap.size (w1.alloc (.cells #[.bool false, .slice none 0 0] 28))) := fun w1 h1 b1 => by
    have l1 := lt_of_heap h1
    have bb : Below w1.heap.size w1 (w1.alloc (.cells #[.bool false, .slice none 0 0] 28)) := (Below.refl _ w1).alloc (Nat.le_refl _) _
    exact ⟨b1.trans (bb.mono b1.size), ⟨[], [], PrIn.empty ((bb.block _ l1).trans h1) (heap_alloc_new _ _) (by omega)⟩, Nat.le_refl _, b1.size⟩
  have AT : Hid (∀ i wr, i < NA → Below w.heap.size w wr → ∃ a gA oA, acts[i]? = some a ∧ PA = some ⟨gA, oA, none⟩ ∧ a.came w ∧ ∀ j u, a.en[j]? = some u → wr.cell? ⟨gA, oA + i * 8 + j, none⟩ = some u) := fun i wr hi hb => by
    obtain ⟨a, ha⟩ : ∃ a, acts[i]? = some a := ⟨_, List.getElem?_eq_getElem (by omega)⟩
    rcases hA with h | ⟨g, o, e, hg, hc⟩
    · rw [h] at ha; cases ha
    · exact ⟨a, g, o, ha, e, hok a (List.mem_of_getElem? ha), fun j u hu => (hb.cell (p := ⟨g, o + i * 8 + j, none⟩) hg).trans (hc i a ha j u hu)⟩
  have DO : Hid (∀ bt dd wr (a : Ac), Mid w bt dd wr → a.came w → a.kd ≤ 1 → Calls Tryz.prog 10 #[.pointer (some ⟨bt, 0, none⟩), .pointer (some ⟨dd, 0, none⟩), .agg #[.int .i64 a.kd, .int .i64 a.stop, .slice a.q a.k.length a.c, .int .u64 a.id, .slice a.P1 a.n1 a.C1, .slice a.P2 a.n2 a.C2, .bool a.li, .bool a.hi]] wr fun e w' => e = .returned (.bool true) ∧ Mid w bt dd w') := fun bt dd wr a h1 h2 h3 => does_le_off h1 a h2 h3 hTb
  have HTB := mkHid hTb
  have HK : Hid (rowOff w qk key ∧ (∀ v ∈ key, fit v.n) ∧ key.length ≤ 1000000000) := ⟨hk, fk, zk⟩
  have HNK := mkHid hNK
  rw [← hNA] at zA
  rw [← hNA, ← hNK]
  clear hA hok hk fk zk hTb hNA hNK
  go_enter Tryz.func4, Tryz.ntmps4
  go_wp2_with (go_at_call 6; refine NW.out.mono ?_; rintro e w1 ⟨rfl, hbt, b1⟩)
  replace M0 := mkHid (M0.out w1 hbt b1)
  clear NW hbt b1
  obtain ⟨bt, hbt⟩ : ∃ b, b = w.heap.size := ⟨_, rfl⟩
  obtain ⟨dd, hdd⟩ : ∃ b, b = w1.heap.size := ⟨_, rfl⟩
  obtain ⟨w2, hw2⟩ : ∃ w2, w2 = w1.alloc (.cells #[.bool false, .slice none 0 0] 28) := ⟨_, rfl⟩
  have BS : Hid (bt = w.heap.size) := hbt
  rw [← hw2, ← hdd] at M0 ⊢
  have M1 : Hid (Mid w bt dd w2) := by rw [hbt]; exact M0.out
  clear M0
  have hbt' : w.heap.size = bt := hbt.symm
  clear hw2
  rw [← hbt]
  clear hbt hbt' hdd
  go_loopw [7] (fun s7 wr => ∃ i : Nat, s7 = .int .i64 i ∧ i ≤ NA ∧ Hid (Mid w bt dd wr)) (fun s7 _ => NA - (intOf s7).toNat)
  case atStart => exact ⟨0, rfl, Nat.zero_le _, M1⟩
  case round =>
    obtain ⟨i, rfl, hi, hM⟩ := hrel
    clear M1
    by_cases hlt : i < NA
    · obtain ⟨a, gA, oA, ha, rfl, hok, hc⟩ := AT.out i wr hlt hM.out.bl
      have i1 : (i : Int) < (NA : Int) := by omega
      have i2 : (0 : Int) ≤ (i : Int) := by omega
      obtain ⟨kd, stop, k, q, c, id, P1, n1, C1, P2, n2, C2, li, hi'⟩ := a
      have DA := mkHid (fun h => DO.out bt dd wr _ hM.out hok h)
      simp only at DA
      have e0 := hc 0 _ rfl
      have e1 := hc 1 _ rfl
      have e2 := hc 2 _ rfl
      have e3 := hc 3 _ rfl
      have e4 := hc 4 _ rfl
      have e5 := hc 5 _ rfl
      have e6 := hc 6 _ rfl
      have e7 := hc 7 _ rfl
      rw [Nat.add_zero] at e0
      simp only at e0 e1 e2 e3 e4 e5 e6 e7
      generalize k.length = lk at *
      clear hc hok ha
      by_cases hkd : kd ≤ 1
      · have DB := mkHid (DA.out hkd)
        clear DA
        go_wp2_with (go_at_call 10; refine DB.out.mono ?_; rintro e w5 ⟨rfl, hm⟩)
        go_roundw
        case rel => exact ⟨i + 1, by go_num, hlt, hm⟩
        case measure => simp [intOf]; omega
      · clear DA
        go_wp2_with fail
        go_roundw
        case rel => exact ⟨i + 1, by go_num, hlt, hM⟩
        case measure => simp [intOf]; omega
    · obtain rfl : NA = i := by omega
      clear AT DO
      obtain ⟨L, D, hp⟩ := hM.out.pr
      obtain ⟨PD, CD, hd⟩ := hp.dc
      obtain ⟨ND, hND⟩ : ∃ N, N = D.length := ⟨_, rfl⟩
      have HND := mkHid hND
      have hHP := mkHid hp
      have hHD := mkHid hd
      have UD : Hid (∀ W, Below wr.heap.size wr W → W.cell? ⟨dd, 1, none⟩ = some (.slice PD ND CD)) := fun W hW => by
        rw [HND.out]
        exact (cell_of_block (hHD.out.below hW).box 1).trans rfl
      have BW : Hid (∀ W, Below wr.heap.size wr W → Below w.heap.size w W) := fun W hW => hM.out.bl.trans (hW.mono hM.out.bl.size)
      have u0 := UD.out wr (Below.refl _ _)
      have LO : Hid (w.heap.size ≤ bt ∧ w.heap.size ≤ dd ∧ bt < wr.heap.size ∧ dd < wr.heap.size ∧ Below w.heap.size w wr) := ⟨hM.out.lo.1, hM.out.lo.2, hM.out.lt.1, hM.out.lt.2, hM.out.bl⟩
      have few : ND ≤ 4096 := by rw [hND, ← hp.ag.1]; exact hp.few
      clear hp hd hND hM
      by_cases hk0 : NK = 0
      · subst hk0
        have GB : Hid (Calls Tryz.prog 13 #[.pointer (some ⟨bt, 0, none⟩), .agg #[.slice none 0 0, .slice none 0 0, .bool false, .bool false], .bool true, .slice PD ND CD, .int .i64 0] wr fun e w' => e = .returned (.bool true) ∧ Below wr.heap.size wr w') := by
          have := pr_goes_off hHP.out true none none 0 0 [] [] false false D PD CD 0 (Or.inl rfl) (Or.inl rfl) (by simp) (by simp) (by simp) (by simp) hHD.out.row (fun q h => h) (Nat.le_refl _) (by rw [btw_nil]; exact hHP.out.ag)
          rw [← HND.out] at this
          exact this
        have EN : Hid (∀ W, Below wr.heap.size wr W → Calls Tryz.prog 11 #[.pointer (some ⟨bt, 0, none⟩), .pointer (some ⟨dd, 0, none⟩)] W fun e w' => e = .returned (.bool true) ∧ Below W.heap.size W w') := fun W hW => pr_ends (hHP.out.below hW)
        clear HK HNK hHP hHD
        go_wp2_with fail
        refine GB.out.mono ?_
        rintro e w5 ⟨rfl, b5⟩
        go_wp2_with fail
        refine (EN.out _ b5).mono ?_
        rintro e w6 ⟨rfl, b6⟩
        go_wp2_with fail
        go_ret
        exact ⟨rfl, BW.out _ (b5.trans (b6.mono b5.size))⟩
      · have hkn : 0 < NK := by omega
        obtain ⟨gk, ok, rfl⟩ : ∃ gk ok, qk = some ⟨gk, ok, none⟩ := by
          rcases HK.out.1 with h | ⟨g, o, e, _⟩
          · have := HNK.out; rw [h] at this; exact absurd this hk0
          · exact ⟨g, o, e⟩
        obtain ⟨a, b, c, ea, eb, ec, habc, ag1, ag2, ag3⟩ := btw_parts (k := key) (by rw [← HNK.out]; exact hkn) hHP.out.riseL hHP.out.ag
        rw [← HND.out] at habc
        have HABC := mkHid habc
        have EA : Hid (a = (btw [] key false false L).length ∧ b = (btw key key true true L).length ∧ c = (btw key [] false false L).length) := ⟨ea, eb, ec⟩
        have AG : Hid (AgL (btw [] key false false L) (D.take a) ∧ AgL (btw key key true true L) ((D.drop a).take b) ∧ AgL (btw key [] false false L) (D.drop (a + b))) := ⟨ag1, ag2, ag3⟩
        clear ea eb ec ag1 ag2 ag3
        have KW : Hid (∀ W, Below wr.heap.size wr W → rowOff W (some ⟨gk, ok, none⟩) key) := fun W hW => HK.out.1.below (BW.out W hW)
        obtain ⟨AB, hAB⟩ : ∃ x, x = a + b := ⟨_, rfl⟩
        have HAB := mkHid hAB
        have GO : Hid (∀ W back low high P1 C1 P2 C2 f1 f2 E PE CE, Below wr.heap.size wr W → rowOff W P1 low → rowOff W P2 high → (low = [] ∨ low = key) → (high = [] ∨ high = key) → rowT (fun b => w.heap.size ≤ b ∧ b ≠ bt ∧ b ≠ dd) W 54 2 (.slice PE E.length CE) E.length (fl emE E) → (∀ q ∈ E, q ∈ D) → E.length ≤ D.length → AgL (btw low high f1 f2 L) E → Calls Tryz.prog 13 #[.pointer (some ⟨bt, 0, none⟩), .agg #[.slice P1 low.length C1, .slice P2 high.length C2, .bool f1, .bool f2], .bool back, .slice PE E.length CE, .int .i64 0] W fun e w' => e = .returned (.bool true) ∧ Below W.heap.size W w') := fun W back low high P1 C1 P2 C2 f1 f2 E PE CE hW hr1 hr2 hl1 hl2 hE hS zE ag => by
          have z : ∀ l : List Va, l = [] ∨ l = key → l.length ≤ 1000000000 ∧ ∀ v ∈ l, fit v.n := fun l h => by
            rcases h with rfl | rfl
            · simp
            · exact ⟨HK.out.2.2, HK.out.2.1⟩
          exact pr_goes_off (hHP.out.below hW) back P1 P2 C1 C2 low high f1 f2 E PE CE 0 hr1 hr2 (z low hl1).1 (z high hl2).1 (z low hl1).2 (z high hl2).2 hE hS zE ag
        have PU : Hid (∀ W, Below wr.heap.size wr W → Calls Tryz.prog 8 #[.pointer (some ⟨bt, 0, none⟩), .slice (some ⟨W.heap.size, 0, none⟩) 1 1, .int .u64 0] (W.alloc (.cells #[.int .i64 0, .int .i64 0, .string ⟨#[]⟩] 40)) fun e W1 => ∃ x, e = .returned (.int .i64 x) ∧ Calls Tryz.prog 12 #[.pointer (some ⟨dd, 0, none⟩), .slice (some ⟨W1.heap.size, 0, none⟩) 1 1, .int .u64 0] (W1.alloc (.cells #[.int .i64 0, .int .i64 0, .string ⟨#[]⟩] 40)) fun e2 W2 => e2 = .returned (.int .i64 x) ∧ Below w.heap.size w W2) := fun W hW => by
          have row : ∀ V : World, rowAt (V.alloc (.cells #[.int .i64 0, .int .i64 0, .string ⟨#[]⟩] 40)) (some ⟨V.heap.size, 0, none⟩) [zeV] := fun V => Or.inr ⟨_, rfl, valsAt.mk (by simp) (fun j u hj => (cell_of_block (heap_alloc_new _ _) j).trans (by rw [← hj]; simp [fl, vaE, zeV]))⟩
          have bA : ∀ V : World, Below V.heap.size V (V.alloc (.cells #[.int .i64 0, .int .i64 0, .string ⟨#[]⟩] 40)) := fun V => (Below.refl _ V).alloc (Nat.le_refl _) _
          have hWA := hW.trans ((bA W).mono hW.size)
          have lo := LO.out
          have bw := lo.2.2.2.2.trans (hWA.mono lo.2.2.2.2.size)
          have := both_put2 (fun b => w.heap.size ≤ b ∧ b ≠ bt ∧ b ≠ dd) bt dd L D [zeV] 0 (some ⟨W.heap.size, 0, none⟩) 1 _ (hHP.out.below hWA) (fun b hb => ⟨Nat.le_trans bw.size hb, by have := hWA.size; omega, by have := hWA.size; omega⟩) (fun e => e.2.1 rfl) (fun e => e.2.2 rfl) (row W) (fun v hv => by simp at hv; subst hv; exact (⟨by decide, by decide⟩ : fit 0)) (fun v hv => by simp at hv; subst hv; decide) (by simp) (HTB.out.below bw)
          refine this.mono (fun e W1 hq => ?_)
          obtain ⟨x, hx1, hx2, hx3⟩ := hq
          have bw1 : Below w.heap.size w W1 := bw.trans (hx2.below bw.size (fun i hi => by rw [hi]; exact lo.1))
          refine ⟨x, hx1, (hx3 _ (some ⟨W1.heap.size, 0, none⟩) 1 (bA W1) (row W1)).mono (fun e2 W2 hq2 => ⟨hq2.1, ?_⟩)⟩
          have bw2 := bw1.trans ((bA W1).mono bw1.size)
          exact bw2.trans (hq2.2.below bw2.size (fun i hi => by rw [hi]; exact lo.2.1))
        have SUB : Hid (∀ W g off lo m V, Below wr.heap.size wr W → PD = some ⟨g, off, none⟩ → lo + m ≤ D.length → (V = if CD = lo then some ⟨g, off, none⟩ else some ⟨g, off + lo * 2, none⟩) → rowT (fun b => w.heap.size ≤ b ∧ b ≠ bt ∧ b ≠ dd) W 54 2 (.slice V m (CD - lo)) m (fl emE ((D.drop lo).take m))) := fun W g off lo m V hW hP hlm hV => by
          have := hHD.out.below hW
          rw [hP] at this
          exact doc_sub this hlm hV
        have GS : Hid (∀ W back low high P1 C1 P2 C2 f1 f2 lo m g off V, Below wr.heap.size wr W → rowOff W P1 low → rowOff W P2 high → (low = [] ∨ low = key) → (high = [] ∨ high = key) → PD = some ⟨g, off, none⟩ → lo + m ≤ D.length → (V = if CD = lo then some ⟨g, off, none⟩ else some ⟨g, off + lo * 2, none⟩) → AgL (btw low high f1 f2 L) ((D.drop lo).take m) → Calls Tryz.prog 13 #[.pointer (some ⟨bt, 0, none⟩), .agg #[.slice P1 low.length C1, .slice P2 high.length C2, .bool f1, .bool f2], .bool back, .slice V m (CD - lo), .int .i64 0] W fun e w' => e = .returned (.bool true) ∧ Below W.heap.size W w') := fun W back low high P1 C1 P2 C2 f1 f2 lo m g off V hW hr1 hr2 hl1 hl2 hP hlm hV ag => by
          have hlen : ((D.drop lo).take m).length = m := by rw [List.length_take, List.length_drop]; omega
          have := GO.out W back low high P1 C1 P2 C2 f1 f2 ((D.drop lo).take m) V (CD - lo) hW hr1 hr2 hl1 hl2 (by rw [hlen]; exact SUB.out W g off lo m V hW hP hlm hV) (fun q hq => List.mem_of_mem_drop (List.mem_of_mem_take hq)) (by rw [hlen]; omega) ag
          rwa [hlen] at this
        have ROW : Hid (ND ≤ CD ∧ (PD = none → ND = 0 ∧ CD = 0) ∧ ∀ ad, PD = some ad → ∃ g off, ad = ⟨g, off, none⟩) := by
          have h := doc_row hHD.out
          rw [← HND.out] at h
          exact ⟨h.2.1, h.2.2.1, fun ad e => by obtain ⟨g, o, e1, _⟩ := h.2.2.2 ad e; exact ⟨g, o, e1⟩⟩
        have CPk : Hid (∀ W, Below wr.heap.size wr W → Calls Tryz.prog 15 #[.slice (some ⟨gk, ok, none⟩) NK ck] W fun e w' => ∃ g d, e = .returned (.slice (some ⟨g, 0, none⟩) NK d) ∧ rowAt w' (some ⟨g, 0, none⟩) key ∧ Below W.heap.size W w') := fun W hW => by
          have := copied_off (some ⟨gk, ok, none⟩) ck key W (KW.out W hW) HK.out.2.2
          rw [← HNK.out] at this
          exact this.mono (fun e w' h => by obtain ⟨g, d, h1, _, h2, _, h3⟩ := h; exact ⟨g, d, h1, h2, h3⟩)
        have CN1 : Hid (∀ W g d, Below wr.heap.size wr W → rowAt W (some ⟨g, 0, none⟩) key → Calls Tryz.prog 14 #[.pointer (some ⟨bt, 0, none⟩), .agg #[.slice none 0 0, .slice (some ⟨g, 0, none⟩) NK d, .bool false, .bool false]] W fun e w' => e = .returned (.int .i64 (a : Int)) ∧ Below W.heap.size W w') := fun W g d hW hr => by
          have := pr_count (hHP.out.below hW) none (some ⟨g, 0, none⟩) 0 d [] key false false (Or.inl rfl) hr (fun _ => rfl) (fun h => by cases h) (by simp) HK.out.2.2 (by simp) HK.out.2.1
          rw [← HNK.out, ← EA.out.1] at this
          exact this
        have CN2 : Hid (∀ W g d g' d', Below wr.heap.size wr W → rowAt W (some ⟨g, 0, none⟩) key → rowAt W (some ⟨g', 0, none⟩) key → Calls Tryz.prog 14 #[.pointer (some ⟨bt, 0, none⟩), .agg #[.slice (some ⟨g, 0, none⟩) NK d, .slice (some ⟨g', 0, none⟩) NK d', .bool true, .bool true]] W fun e w' => e = .returned (.int .i64 (b : Int)) ∧ Below W.heap.size W w') := fun W g d g' d' hW hr hr' => by
          have := pr_count (hHP.out.below hW) (some ⟨g, 0, none⟩) (some ⟨g', 0, none⟩) d d' key key true true hr hr' (fun h => by cases h) (fun h => by cases h) HK.out.2.2 HK.out.2.2 HK.out.2.1 HK.out.2.1
          rw [← HNK.out, ← EA.out.2.1] at this
          exact this
        have CN3 : Hid (∀ W g d, Below wr.heap.size wr W → rowAt W (some ⟨g, 0, none⟩) key → Calls Tryz.prog 14 #[.pointer (some ⟨bt, 0, none⟩), .agg #[.slice (some ⟨g, 0, none⟩) NK d, .slice none 0 0, .bool false, .bool false]] W fun e w' => e = .returned (.int .i64 (c : Int)) ∧ Below W.heap.size W w') := fun W g d hW hr => by
          have := pr_count (hHP.out.below hW) (some ⟨g, 0, none⟩) none d 0 key [] false false hr (Or.inl rfl) (fun h => by cases h) (fun _ => rfl) HK.out.2.2 (by simp) HK.out.2.1 (by simp)
          rw [← HNK.out, ← EA.out.2.2] at this
          exact this
        have LN : Hid (∀ W, Below wr.heap.size wr W → Calls Tryz.prog 16 #[.pointer (some ⟨bt, 0, none⟩)] W fun e w' => e = .returned (.int .i64 (ND : Int)) ∧ w' = W) := fun W hW => by
          rw [HND.out]
          exact pr_len (hHP.out.below hW)
        have wr1 : IntKind.i64.wrap ((a : Int) + (b : Int)) = (a : Int) + (b : Int) := wrap_small (by omega) (by omega)
        have wr2 : IntKind.i64.wrap ((a : Int) + (b : Int) + (c : Int)) = (a : Int) + (b : Int) + (c : Int) := wrap_small (by omega) (by omega)
        have hsum : ((a : Int) + (b : Int) + (c : Int) != (ND : Int)) = false := by rw [bne_eq_false_iff_eq]; omega
        have hsum2 : ((ND : Int) != (ND : Int)) = false := by rw [bne_eq_false_iff_eq]
        go_wp2_with fail
        refine (CPk.out _ (Below.refl _ _)).mono ?_
        rintro e w3 ⟨g3, d3, rfl, r3, b3⟩
        have K3 : Hid (Below wr.heap.size wr w3) := b3
        go_wp2_with fail
        refine (CN1.out _ _ _ K3.out r3).mono ?_
        rintro e w4 ⟨rfl, b4⟩
        have K4 : Hid (Below wr.heap.size wr w4) := K3.out.trans (b4.mono K3.out.size)
        clear b3 r3 b4
        go_wp2_with fail
        refine (CPk.out _ K4.out).mono ?_
        rintro e w5 ⟨g5, d5, rfl, r5, b5⟩
        have K5 : Hid (Below wr.heap.size wr w5) := K4.out.trans (b5.mono K4.out.size)
        clear b5
        go_wp2_with fail
        refine (CPk.out _ K5.out).mono ?_
        rintro e w6 ⟨g6, d6, rfl, r6, b6⟩
        have K6 : Hid (Below wr.heap.size wr w6) := K5.out.trans (b6.mono K5.out.size)
        have r5' := r5.below b6
        clear b6 r5
        go_wp2_with fail
        refine (CN2.out _ _ _ _ _ K6.out r5' r6).mono ?_
        rintro e w7 ⟨rfl, b7⟩
        have K7 : Hid (Below wr.heap.size wr w7) := K6.out.trans (b7.mono K6.out.size)
        clear b7 r5' r6
        go_wp2_with fail
        refine (CPk.out _ K7.out).mono ?_
        rintro e w9 ⟨g9, d9, rfl, r9, b9⟩
        have K9 : Hid (Below wr.heap.size wr w9) := K7.out.trans (b9.mono K7.out.size)
        clear b9
        go_wp2_with fail
        refine (CN3.out _ _ _ K9.out r9).mono ?_
        rintro e w8 ⟨rfl, b8⟩
        have K8 : Hid (Below wr.heap.size wr w8) := K9.out.trans (b8.mono K9.out.size)
        clear b8 r9 K3 K4 K5 K6 K7 K9 CPk CN1 CN2 CN3 u0
        have u8 := UD.out _ K8.out
        go_wp2_with fail
        clear u8
        refine wp_region_noPanic ?_
        refine wp_region_held_drew (S := fun w' : World => w'.cell? ⟨dd, 1, none⟩ = some (.slice PD ND CD)) (by kernel_rfl) (UD.out _ (K8.out.drew)) (fun hH => ?_)
        refine tKx (i := 0) (v := .int .i64 (a : Int)) rfl rfl (by kernel_rfl) (fun _ _ _ h => h) ?_ hH ?_
        · intro w5 hSw; have s0 : World.cell? w5 ⟨dd, 1, none⟩ = _ := hSw; go_simp
        simp only [zA9, zB9, zC9]
        refine tKx (i := 1) (v := .int .i64 (b : Int)) rfl rfl (by kernel_rfl) (fun _ _ _ h => h) ?_ hH ?_
        · intro w5 hSw; have s0 : World.cell? w5 ⟨dd, 1, none⟩ = _ := hSw; go_simp
        simp only [zA9, zB9, zC9]
        refine tKx (i := 2) (v := .int .i64 ((a : Int) + (b : Int))) rfl rfl (by kernel_rfl) (fun _ _ _ h => h) ?_ hH ?_
        · intro w5 hSw; have s0 : World.cell? w5 ⟨dd, 1, none⟩ = _ := hSw; go_simp
        simp only [zA9, zB9, zC9]
        refine tKx (i := 3) (v := .int .i64 (c : Int)) rfl rfl (by kernel_rfl) (fun _ _ _ h => h) ?_ hH ?_
        · intro w5 hSw; have s0 : World.cell? w5 ⟨dd, 1, none⟩ = _ := hSw; go_simp
        simp only [zA9, zB9, zC9]
        refine tKx (i := 4) (v := .int .i64 ((a : Int) + (b : Int) + (c : Int))) rfl rfl (by kernel_rfl) (fun _ _ _ h => h) ?_ hH ?_
        · intro w5 hSw; have s0 : World.cell? w5 ⟨dd, 1, none⟩ = _ := hSw; go_simp
        simp only [zA9, zB9, zC9]
        refine tKx (i := 5) (v := .pointer (some ⟨dd, 0, none⟩)) rfl rfl (by kernel_rfl) (fun _ _ _ h => h) ?_ hH ?_
        · intro w5 hSw; have s0 : World.cell? w5 ⟨dd, 1, none⟩ = _ := hSw; go_simp
        simp only [zA9, zB9, zC9]
        refine tKx (i := 6) (v := .pointer (some ⟨dd, 0, none⟩)) rfl rfl (by kernel_rfl) (fun _ _ _ h => h) ?_ hH ?_
        · intro w5 hSw; have s0 : World.cell? w5 ⟨dd, 1, none⟩ = _ := hSw; go_simp
        simp only [zA9, zB9, zC9]
        refine tKx (i := 7) (v := .pointer (some ⟨dd, 1, none⟩)) rfl rfl (by kernel_rfl) (fun _ _ _ h => h) ?_ hH ?_
        · intro w5 hSw; have s0 : World.cell? w5 ⟨dd, 1, none⟩ = _ := hSw; go_simp
        simp only [zA9, zB9, zC9]
        refine tKx (i := 8) (v := .slice PD ND CD) rfl rfl (by kernel_rfl) (fun _ _ _ h => h) ?_ hH ?_
        · intro w5 hSw; have s0 : World.cell? w5 ⟨dd, 1, none⟩ = _ := hSw; go_simp
        simp only [zA9, zB9, zC9]
        refine tKx (i := 9) (v := .int .i64 (ND : Int)) rfl rfl (by kernel_rfl) (fun _ _ _ h => h) ?_ hH ?_
        · intro w5 hSw; have s0 : World.cell? w5 ⟨dd, 1, none⟩ = _ := hSw; go_simp
        simp only [zA9, zB9, zC9]
        refine tKx (i := 10) (v := .bool false) rfl rfl (by kernel_rfl) (fun _ _ _ h => h) ?_ hH ?_
        · intro w5 hSw; have s0 : World.cell? w5 ⟨dd, 1, none⟩ = _ := hSw; go_simp
        simp only [zA9, zB9, zC9]
        refine tKx (i := 11) (v := .bool false) rfl rfl (by kernel_rfl) (fun _ _ _ h => h) ?_ hH ?_
        · intro w5 hSw; have s0 : World.cell? w5 ⟨dd, 1, none⟩ = _ := hSw; go_simp
        simp only [zA9, zB9, zC9]
        refine tKx (i := 12) (v := .pointer (some ⟨bt, 0, none⟩)) rfl rfl (by kernel_rfl) (fun _ _ _ h => h) ?_ hH ?_
        · intro w5 hSw; have s0 : World.cell? w5 ⟨dd, 1, none⟩ = _ := hSw; go_simp
        simp only [zA9, zB9, zC9]
        refine tKx (i := 14) (v := .pointer (some ⟨dd, 0, none⟩)) rfl rfl (by kernel_rfl) (fun _ _ _ h => h) ?_ hH ?_
        · intro w5 hSw; have s0 : World.cell? w5 ⟨dd, 1, none⟩ = _ := hSw; go_simp
        simp only [zA9, zB9, zC9]
        refine tKx (i := 15) (v := .pointer (some ⟨dd, 0, none⟩)) rfl rfl (by kernel_rfl) (fun _ _ _ h => h) ?_ hH ?_
        · intro w5 hSw; have s0 : World.cell? w5 ⟨dd, 1, none⟩ = _ := hSw; go_simp
        simp only [zA9, zB9, zC9]
        refine tKx (i := 16) (v := .pointer (some ⟨dd, 1, none⟩)) rfl rfl (by kernel_rfl) (fun _ _ _ h => h) ?_ hH ?_
        · intro w5 hSw; have s0 : World.cell? w5 ⟨dd, 1, none⟩ = _ := hSw; go_simp
        simp only [zA9, zB9, zC9]
        refine tKx (i := 17) (v := .slice PD ND CD) rfl rfl (by kernel_rfl) (fun _ _ _ h => h) ?_ hH ?_
        · intro w5 hSw; have s0 : World.cell? w5 ⟨dd, 1, none⟩ = _ := hSw; go_simp
        simp only [zA9, zB9, zC9]
        refine tKx (i := 18) (v := .int .i64 (ND : Int)) rfl rfl (by kernel_rfl) (fun _ _ _ h => h) ?_ hH ?_
        · intro w5 hSw; have s0 : World.cell? w5 ⟨dd, 1, none⟩ = _ := hSw; go_simp
        simp only [zA9, zB9, zC9]
        refine wpAnyH_ready (rs := [13]) (by kernel_rfl) (by simp) ?_
        refine AllReadyH.cons rfl (fun K hK => ?_) AllReadyH.nil
        go_simp
        go_at_call 16
        refine (LN.out _ K8.out.drew).mono ?_
        rintro e W1 ⟨rfl, rfl⟩
        go_wp2_with fail
        refine hK.out _ _ (UD.out _ K8.out.drew) (fun hH => ?_)
        clear hK K
        refine tKx (i := 19) (v := .bool false) rfl rfl (by kernel_rfl) (fun _ _ _ h => h) ?_ hH ?_
        · intro w5 hSw; have s0 : World.cell? w5 ⟨dd, 1, none⟩ = _ := hSw; go_simp
        simp only [zA9, zB9, zC9]
        refine tKx (i := 20) (v := .bool false) rfl rfl (by kernel_rfl) (fun _ _ _ h => h) ?_ hH ?_
        · intro w5 hSw; have s0 : World.cell? w5 ⟨dd, 1, none⟩ = _ := hSw; go_simp
        simp only [zA9, zB9, zC9]
        refine wpAnyH_done (by kernel_rfl) ?_ _
        refine NoPanic.normal ?_
        have K10 : Hid (Below wr.heap.size wr w8.drew) := K8.out.drew
        have NN : NK = key.length := HNK.out
        have nl : ∀ W : World, rowOff W (none : Option Addr) ([] : List Va) := fun W => Or.inl rfl
        clear hH K8 LN wr1 wr2 hsum hsum2 EA HTB LO BS
        have wr3 : IntKind.i64.wrap ((a : Int) + (b : Int)) = (AB : Int) := by rw [wrap_small (by omega) (by omega)]; omega
        generalize w8.drew = wd at K10 ⊢
        have t0 := UD.out _ K10.out
        cases hPD : PD with
        | none =>
          obtain ⟨rfl, rfl⟩ := ROW.out.2.1 hPD
          subst hPD
          obtain rfl : a = 0 := by omega
          obtain rfl : b = 0 := by omega
          have hc0 : AB = 0 := by omega
          subst hc0
          have hD : D = [] := List.eq_nil_of_length_eq_zero HND.out.symm
          have r0 : ∀ W, rowT (fun b => w.heap.size ≤ b ∧ b ≠ bt ∧ b ≠ dd) W 54 2 (.slice none 0 0) 0 (fl emE []) := fun W => ⟨shr_nil _ _ _, fun g h => by cases h⟩
          have G1 : Hid (∀ W, Below wr.heap.size wr W → Calls Tryz.prog 13 #[.pointer (some ⟨bt, 0, none⟩), .agg #[.slice none 0 0, .slice (some ⟨gk, ok, none⟩) NK ck, .bool false, .bool false], .bool false, .slice none 0 0, .int .i64 0] W fun e w' => e = .returned (.bool true) ∧ Below W.heap.size W w') := fun W hW => by
            rw [NN]
            exact GO.out W false [] key none 0 (some ⟨gk, ok, none⟩) ck false false [] none 0 hW (nl W) (KW.out W hW) (Or.inl rfl) (Or.inr rfl) (r0 W) (fun q h => by cases h) (Nat.zero_le _) (by have := AG.out.1; rwa [hD] at this)
          have G2 : Hid (∀ W, Below wr.heap.size wr W → Calls Tryz.prog 13 #[.pointer (some ⟨bt, 0, none⟩), .agg #[.slice (some ⟨gk, ok, none⟩) NK ck, .slice (some ⟨gk, ok, none⟩) NK ck, .bool true, .bool true], .bool true, .slice none 0 0, .int .i64 0] W fun e w' => e = .returned (.bool true) ∧ Below W.heap.size W w') := fun W hW => by
            rw [NN]
            exact GO.out W true key key (some ⟨gk, ok, none⟩) ck (some ⟨gk, ok, none⟩) ck true true [] none 0 hW (KW.out W hW) (KW.out W hW) (Or.inr rfl) (Or.inr rfl) (r0 W) (fun q h => by cases h) (Nat.zero_le _) (by have := AG.out.2.1; rwa [hD] at this)
          have G3 : Hid (∀ W, Below wr.heap.size wr W → Calls Tryz.prog 13 #[.pointer (some ⟨bt, 0, none⟩), .agg #[.slice (some ⟨gk, ok, none⟩) NK ck, .slice none 0 0, .bool false, .bool false], .bool false, .slice none 0 0, .int .i64 0] W fun e w' => e = .returned (.bool true) ∧ Below W.heap.size W w') := fun W hW => by
            rw [NN]
            exact GO.out W false key [] (some ⟨gk, ok, none⟩) ck none 0 false false [] none 0 hW (KW.out W hW) (nl W) (Or.inr rfl) (Or.inl rfl) (r0 W) (fun q h => by cases h) (Nat.zero_le _) (by have := AG.out.2.2; rwa [hD] at this)
          clear GO GS SUB ROW KW AG HK HNK hHP hHD HND r0 nl NN hD
          go_wp2_with fail
          refine (G1.out _ K10.out).mono ?_
          rintro e v1 ⟨rfl, c1⟩
          have Q1 : Hid (Below wr.heap.size wr v1) := K10.out.trans (c1.mono K10.out.size)
          have t1 := UD.out _ Q1.out
          clear c1 K10 G1 t0
          go_wp2_with fail
          refine (G2.out _ Q1.out).mono ?_
          rintro e v2 ⟨rfl, c2⟩
          have Q2 : Hid (Below wr.heap.size wr v2) := Q1.out.trans (c2.mono Q1.out.size)
          have t2 := UD.out _ Q2.out
          clear c2 Q1 G2 t1
          go_wp2_with fail
          refine (G3.out _ Q2.out).mono ?_
          rintro e v3 ⟨rfl, c3⟩
          have Q3 : Hid (Below wr.heap.size wr v3) := Q2.out.trans (c3.mono Q2.out.size)
          clear c3 Q2 G3 t2 UD
          go_wp2_with fail
          refine (PU.out _ Q3.out).mono ?_
          rintro e v4 ⟨x, rfl, DP⟩
          replace DP := mkHid DP
          clear PU Q3
          go_wp2_with fail
          refine DP.out.mono ?_
          rintro e v5 ⟨rfl, b5⟩
          replace b5 := mkHid b5
          clear DP
          go_wp2_with fail
          go_ret
          exact ⟨rfl, b5.out⟩
        | some ad =>
          obtain ⟨g, off, rfl⟩ := ROW.out.2.2 ad hPD
          have hNC := ROW.out.1
          have nd := HND.out
          obtain ⟨V1, hV1⟩ : ∃ V, V = if CD = a then some (⟨g, off, none⟩ : Addr) else some ⟨g, off + a * 2, none⟩ := ⟨_, rfl⟩
          obtain ⟨V2, hV2⟩ : ∃ V, V = if CD = AB then some (⟨g, off, none⟩ : Addr) else some ⟨g, off + AB * 2, none⟩ := ⟨_, rfl⟩
          have G1 : Hid (∀ W, Below wr.heap.size wr W → Calls Tryz.prog 13 #[.pointer (some ⟨bt, 0, none⟩), .agg #[.slice none 0 0, .slice (some ⟨gk, ok, none⟩) NK ck, .bool false, .bool false], .bool false, .slice (some ⟨g, off, none⟩) a CD, .int .i64 0] W fun e w' => e = .returned (.bool true) ∧ Below W.heap.size W w') := fun W hW => by
            rw [NN]
            exact GS.out W false [] key none 0 (some ⟨gk, ok, none⟩) ck false false 0 a g off (some ⟨g, off, none⟩) hW (nl W) (KW.out W hW) (Or.inl rfl) (Or.inr rfl) hPD (by omega) (by split <;> simp) (by rw [List.drop_zero]; exact AG.out.1)
          have G2 : Hid (∀ W, Below wr.heap.size wr W → Calls Tryz.prog 13 #[.pointer (some ⟨bt, 0, none⟩), .agg #[.slice (some ⟨gk, ok, none⟩) NK ck, .slice (some ⟨gk, ok, none⟩) NK ck, .bool true, .bool true], .bool true, .slice V1 (AB - a) (CD - a), .int .i64 0] W fun e w' => e = .returned (.bool true) ∧ Below W.heap.size W w') := fun W hW => by
            have e : AB - a = b := by omega
            rw [NN, e]
            exact GS.out W true key key (some ⟨gk, ok, none⟩) ck (some ⟨gk, ok, none⟩) ck true true a b g off V1 hW (KW.out W hW) (KW.out W hW) (Or.inr rfl) (Or.inr rfl) hPD (by omega) hV1 AG.out.2.1
          have G3 : Hid (∀ W, Below wr.heap.size wr W → Calls Tryz.prog 13 #[.pointer (some ⟨bt, 0, none⟩), .agg #[.slice (some ⟨gk, ok, none⟩) NK ck, .slice none 0 0, .bool false, .bool false], .bool false, .slice V2 (ND - AB) (CD - AB), .int .i64 0] W fun e w' => e = .returned (.bool true) ∧ Below W.heap.size W w') := fun W hW => by
            rw [NN]
            refine GS.out W false key [] (some ⟨gk, ok, none⟩) ck none 0 false false AB (ND - AB) g off V2 hW (KW.out W hW) (nl W) (Or.inr rfl) (Or.inl rfl) hPD (by omega) hV2 ?_
            rw [List.take_of_length_le (by rw [List.length_drop]; omega), hAB]
            exact AG.out.2.2
          have j1 : (0 : Int) ≤ (a : Int) := by omega
          have j2 : (a : Int) ≤ (CD : Int) := by omega
          have j3 : (a : Int) ≤ (AB : Int) := by omega
          have j4 : (AB : Int) ≤ (CD : Int) := by omega
          have j5 : (AB : Int) ≤ (ND : Int) := by omega
          have j6 : (0 : Int) ≤ (AB : Int) := by omega
          have j7 : (ND : Int) ≤ (CD : Int) := by omega
          subst hPD
          have j8 : a ≤ AB ∧ AB ≤ CD := by omega
          clear GO GS SUB ROW KW AG HK HNK hHP hHD HND nl NN nd hAB HAB habc HABC
          by_cases q1 : CD = a
          · have q2 : AB = a := by omega
            have q3 : ND = a := by omega
            rw [if_pos q1] at hV1
            rw [if_pos (by omega)] at hV2
            subst hV1 hV2
            subst q1 q2 q3
            simp only [Nat.sub_self] at G2 G3
            clear j8
            go_wp2_with fail
            refine (G1.out _ K10.out).mono ?_
            rintro e v1 ⟨rfl, c1⟩
            have Q1 : Hid (Below wr.heap.size wr v1) := K10.out.trans (c1.mono K10.out.size)
            have t1 := UD.out _ Q1.out
            clear c1 K10 G1 t0
            go_wp2_with fail
            refine (G2.out _ Q1.out).mono ?_
            rintro e v2 ⟨rfl, c2⟩
            have Q2 : Hid (Below wr.heap.size wr v2) := Q1.out.trans (c2.mono Q1.out.size)
            have t2 := UD.out _ Q2.out
            clear c2 Q1 G2 t1
            go_wp2_with fail
            refine (G3.out _ Q2.out).mono ?_
            rintro e v3 ⟨rfl, c3⟩
            have Q3 : Hid (Below wr.heap.size wr v3) := Q2.out.trans (c3.mono Q2.out.size)
            clear c3 Q2 G3 t2 UD
            go_wp2_with fail
            refine (PU.out _ Q3.out).mono ?_
            rintro e v4 ⟨x, rfl, DP⟩
            replace DP := mkHid DP
            clear PU Q3
            go_wp2_with fail
            refine DP.out.mono ?_
            rintro e v5 ⟨rfl, b5⟩
            replace b5 := mkHid b5
            clear DP
            go_wp2_with fail
            go_ret
            exact ⟨rfl, b5.out⟩
          · rw [if_neg q1] at hV1
            by_cases q2 : CD = AB
            · have q3 : ND = AB := by omega
              rw [if_pos q2] at hV2
              subst hV1 hV2
              have q4 : AB = CD := q2.symm
              subst q4
              subst q3
              simp only [Nat.sub_self] at G3
              clear j8
              go_wp2_with fail
              refine (G1.out _ K10.out).mono ?_
              rintro e v1 ⟨rfl, c1⟩
              have Q1 : Hid (Below wr.heap.size wr v1) := K10.out.trans (c1.mono K10.out.size)
              have t1 := UD.out _ Q1.out
              clear c1 K10 G1 t0
              go_wp2_with fail
              refine (G2.out _ Q1.out).mono ?_
              rintro e v2 ⟨rfl, c2⟩
              have Q2 : Hid (Below wr.heap.size wr v2) := Q1.out.trans (c2.mono Q1.out.size)
              have t2 := UD.out _ Q2.out
              clear c2 Q1 G2 t1
              go_wp2_with fail
              refine (G3.out _ Q2.out).mono ?_
              rintro e v3 ⟨rfl, c3⟩
              have Q3 : Hid (Below wr.heap.size wr v3) := Q2.out.trans (c3.mono Q2.out.size)
              clear c3 Q2 G3 t2 UD
              go_wp2_with fail
              refine (PU.out _ Q3.out).mono ?_
              rintro e v4 ⟨x, rfl, DP⟩
              replace DP := mkHid DP
              clear PU Q3
              go_wp2_with fail
              refine DP.out.mono ?_
              rintro e v5 ⟨rfl, b5⟩
              replace b5 := mkHid b5
              clear DP
              go_wp2_with fail
              go_ret
              exact ⟨rfl, b5.out⟩
            · rw [if_neg q2] at hV2
              subst hV1 hV2
              clear j8
              go_wp2_with fail
              refine (G1.out _ K10.out).mono ?_
              rintro e v1 ⟨rfl, c1⟩
              have Q1 : Hid (Below wr.heap.size wr v1) := K10.out.trans (c1.mono K10.out.size)
              have t1 := UD.out _ Q1.out
              clear c1 K10 G1 t0
              go_wp2_with fail
              refine (G2.out _ Q1.out).mono ?_
              rintro e v2 ⟨rfl, c2⟩
              have Q2 : Hid (Below wr.heap.size wr v2) := Q1.out.trans (c2.mono Q1.out.size)
              have t2 := UD.out _ Q2.out
              clear c2 Q1 G2 t1
              go_wp2_with fail
              refine (G3.out _ Q2.out).mono ?_
              rintro e v3 ⟨rfl, c3⟩
              have Q3 : Hid (Below wr.heap.size wr v3) := Q2.out.trans (c3.mono Q2.out.size)
              clear c3 Q2 G3 t2 UD
              go_wp2_with fail
              refine (PU.out _ Q3.out).mono ?_
              rintro e v4 ⟨x, rfl, DP⟩
              replace DP := mkHid DP
              clear PU Q3
              go_wp2_with fail
              refine DP.out.mono ?_
              rintro e v5 ⟨rfl, b5⟩
              replace b5 := mkHid b5
              clear DP
              go_wp2_with fail
              go_ret
              exact ⟨rfl, b5.out⟩
end Go.Proofs.YtclcajnodoifjaaGreatDoor

