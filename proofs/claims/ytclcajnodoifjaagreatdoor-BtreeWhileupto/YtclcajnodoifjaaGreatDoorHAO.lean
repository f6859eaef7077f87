/-
  The document's tree in memory; the walk of its at.
-/
import Derived.Test.YtclcajnodoifjaaGreatDoorHAH
import Derived.Test.YtclcajnodoifjaaGreatDoorBxMRx
import Derived.Test.YtclcajnodoifjaaGreatDoorHAL
namespace Go.Proofs.YtclcajnodoifjaaGreatDoor
open Go.RowKit Go.Shelf Go.Joins Go.Maps
set_option maxRecDepth 100000

/-- the document's tree: a box, and its entries in a row -/
structure DocIn (T : Nat → Prop) (w : World) (d : Nat) (u : Bool) (l : List Em) (v : Value) : Prop where
  box : w.heap[d]? = some (.cells #[.bool u, v] 28 (0, 0))
  row : rowT T w 54 2 v l.length (fl emE l)
  keys : ∀ q ∈ l, KeyOk T w q
theorem DocIn.below {T : Nat → Prop} {w w' : World} {d : Nat} {u : Bool} {l : List Em} {v : Value} (h : DocIn T w d u l v) (hb : Below w.heap.size w w') : DocIn T w' d u l v := ⟨(hb.block _ (lt_of_heap h.box)).trans h.box, h.row.keeps (Keeps.of_below hb), fun q hq => (h.keys q hq).keeps (Keeps.of_below hb)⟩
/-- an entry of it -/
theorem DocIn.entry {T : Nat → Prop} {w : World} {d i : Nat} {u : Bool} {l : List Em} {m : Em} {gx ox N c : Nat} (h : DocIn T w d u l (.slice (some ⟨gx, ox, none⟩) N c)) (hm : l[i]? = some m) : w.cell? ⟨gx, ox + i * 2, none⟩ = some (.slice (some ⟨m.g, 0, none⟩) m.e.key.length m.c) ∧ w.cell? ⟨gx, ox + i * 2 + 1, none⟩ = some (.int .u64 m.e.id) ∧ KeyOk T w m ∧ gx < w.heap.size := by
  obtain ⟨p, cc, e1, _, _, hc⟩ := h.row.form
  cases e1
  obtain ⟨g', o', e2, hg, hc⟩ := hc _ rfl
  cases e2
  have q0 := hc _ _ ((fl_get emE_len l i m 0 hm (by omega)).trans rfl)
  have q1 := hc _ _ ((fl_get emE_len l i m 1 hm (by omega)).trans rfl)
  exact ⟨q0, by rw [Nat.add_assoc]; exact q1, h.keys m (List.mem_of_getElem? hm), hg⟩
set_option maxHeartbeats 8000000 in
set_option maxRecDepth 1000000 in
theorem at_any (T : Nat → Prop) (d : Nat) (u : Bool) (l : List Em) (p : Option Addr) (N c : Nat) (x : En) (px : Option Addr) (cx : Nat) (w : World) (h : DocIn T w d u l (.slice p N c)) (hN : N = l.length) (hl : N ≤ 1000000) (hx : EnAt w px x) :
    Calls Tryz.prog 36 #[.pointer (some ⟨d, 0, none⟩), enV px cx x] w fun e w' => e = .returned (.int .i64 (place ltM (tgt x) l : Int)) ∧ Below w.heap.size w w' := by
  obtain ⟨w0, hw0⟩ : ∃ w0, w0 = w.alloc (.cells #[.slice px x.key.length cx, .int .u64 x.id] 54) := ⟨_, rfl⟩
  have bb : Below w.heap.size w w0 := by rw [hw0]; exact (Below.refl _ w).alloc (Nat.le_refl _) _
  have bx : w0.heap[w.heap.size]? = some (.cells #[.slice px x.key.length cx, .int .u64 x.id] 54 (0, 0)) := by rw [hw0]; exact heap_alloc_new _ _
  have CO : Hid (∀ (k : Nat) W, k < N → Below w0.heap.size w0 W → ∃ y gx ox, l[k]? = some y ∧ p = some ⟨gx, ox, none⟩ ∧ W.cell? ⟨gx, ox + k * 2, none⟩ = some (.slice (some ⟨y.g, 0, none⟩) y.e.key.length y.c) ∧ W.cell? ⟨gx, ox + k * 2 + 1, none⟩ = some (.int .u64 y.e.id) ∧ gx < W.heap.size ∧ ∀ W', Below w0.heap.size w0 W' → Calls Tryz.prog 44 #[.agg #[.slice (some ⟨y.g, 0, none⟩) y.e.key.length y.c, .int .u64 y.e.id], .agg #[.slice px x.key.length cx, .int .u64 x.id]] W' fun en w' => en = .returned (.int .i64 (ordE y.e x)) ∧ Below W'.heap.size W' w') := fun k W hk hW => by
    obtain ⟨y, hy⟩ : ∃ y, l[k]? = some y := ⟨_, List.getElem?_eq_getElem (by omega)⟩
    obtain ⟨p', c', e1, _, _, hc⟩ := h.row.form
    cases e1
    obtain ⟨gx, ox, rfl⟩ : ∃ gx ox, p = some ⟨gx, ox, none⟩ := by
      cases p with
      | none =>
        rcases h.row.1.2 with ⟨_, h0⟩ | ⟨_, _, _, _, e, _⟩
        · omega
        · cases e
      | some ad => obtain ⟨g, o, e, _⟩ := hc ad rfl; exact ⟨g, o, by rw [e]⟩
    have bW : Below w.heap.size w W := bb.trans (hW.mono bb.size)
    obtain ⟨u0, u1, u2, u3⟩ := (hN ▸ h.below bW).entry hy
    exact ⟨y, gx, ox, hy, rfl, u0, u1, u3, fun W' hW' => by
      have bW' : Below w.heap.size w W' := bb.trans (hW'.mono bb.size)
      have ky := (h.keys y (List.mem_of_getElem? hy)).keeps (Keeps.of_below bW')
      exact docOrder_any _ _ y.c cx y.e x W' (by have := ky.few; omega) ky.at_ (hx.below bW')⟩
  have BX : Hid (∀ W, Below w0.heap.size w0 W → W.cell? ⟨w.heap.size, 0, none⟩ = some (.slice px x.key.length cx) ∧ W.cell? ⟨w.heap.size, 1, none⟩ = some (.int .u64 x.id) ∧ W.cell? ⟨d, 1, none⟩ = some (.slice p N c) ∧ d < W.heap.size ∧ w.heap.size < W.heap.size) := fun W hW => by
    have hb := (hW.block _ (lt_of_heap bx)).trans bx
    have hd := ((bb.trans (hW.mono bb.size)).block _ (lt_of_heap h.box)).trans h.box
    exact ⟨(cell_of_block hb 0).trans rfl, (cell_of_block hb 1).trans rfl, (cell_of_block hd 1).trans rfl, lt_of_heap hd, lt_of_heap hb⟩
  have BB := mkHid bb
  have HW0 := mkHid hw0
  have HN := mkHid hN
  obtain ⟨PL, hPL⟩ : ∃ PL, PL = place ltM (tgt x) l := ⟨_, rfl⟩
  rw [← hPL]
  have HPL := mkHid hPL
  unfold enV
  clear h hx hN bb bx hw0 hPL
  generalize x.key.length = lx at *
  generalize x.id = ix at *
  go_enter Tryz.func36, Tryz.ntmps36
  go_wp2_with fail
  rw [← HW0.out]
  clear HW0
  go_loopw [5] (fun s5 wr => ∃ k : Nat, s5 = .int .i64 k ∧ k ≤ N ∧ Hid (∀ j y, j < k → l[j]? = some y → ltM y (tgt x) = true) ∧ Hid (Below w0.heap.size w0 wr)) (fun s5 _ => N - (intOf s5).toNat)
  case atStart => exact ⟨0, rfl, Nat.zero_le _, fun j y h => by omega, Below.refl _ _⟩
  case round =>
    obtain ⟨k, rfl, hk, hI, hb⟩ := hrel
    obtain ⟨b0, b1, b2, b3, b4⟩ := BX.out wr hb.out
    by_cases hlt : k < N
    · obtain ⟨y, gx, ox, hy, rfl, c0, c1, lg, cm⟩ := CO.out k wr hlt hb.out
      have CM := mkHid cm
      have KS : Hid (∀ w', Below wr.heap.size wr w' → w'.cell? ⟨d, 1, none⟩ = some (.slice (some ⟨gx, ox, none⟩) N c) ∧ w'.cell? ⟨gx, ox + k * 2, none⟩ = some (.slice (some ⟨y.g, 0, none⟩) y.e.key.length y.c) ∧ w'.cell? ⟨gx, ox + k * 2 + 1, none⟩ = some (.int .u64 y.e.id) ∧ w'.cell? ⟨w.heap.size, 0, none⟩ = some (.slice px lx cx) ∧ w'.cell? ⟨w.heap.size, 1, none⟩ = some (.int .u64 ix)) := fun w' hb2 => ⟨(hb2.cell (p := ⟨d, 1, none⟩) b3).trans b2, (hb2.cell (p := ⟨gx, ox + k * 2, none⟩) lg).trans c0, (hb2.cell (p := ⟨gx, ox + k * 2 + 1, none⟩) lg).trans c1, (hb2.cell (p := ⟨w.heap.size, 0, none⟩) b4).trans b0, (hb2.cell (p := ⟨w.heap.size, 1, none⟩) b4).trans b1⟩
      obtain ⟨R, hR⟩ : ∃ R, R = ordE y.e x := ⟨_, rfl⟩
      rw [← hR] at CM
      have i1 : (k : Int) < (N : Int) := by omega
      have i2 : (0 : Int) ≤ (k : Int) := by omega
      by_cases hl0 : R < 0
      · have NX : Hid (∀ j z, j < k + 1 → l[j]? = some z → ltM z (tgt x) = true) := fun j z hj hz => by
          by_cases hjk : j = k
          · subst hjk
            rw [hy] at hz
            cases hz
            show ltE y.e x = true
            rw [ltE_iff, ← hR]; exact hl0
          · exact hI.out j z (by omega) hz
        clear cm hy hR hI CO BX HPL HN b0 b1 b2 c0 c1
        go_wp2_with fail
        refine wp_region_noPanic ?_
        refine wp_region_held_drew (S := fun w' : World => w'.cell? ⟨d, 1, none⟩ = some (.slice (some ⟨gx, ox, none⟩) N c) ∧ w'.cell? ⟨gx, ox + k * 2, none⟩ = some (.slice (some ⟨y.g, 0, none⟩) y.e.key.length y.c) ∧ w'.cell? ⟨gx, ox + k * 2 + 1, none⟩ = some (.int .u64 y.e.id) ∧ w'.cell? ⟨w.heap.size, 0, none⟩ = some (.slice px lx cx) ∧ w'.cell? ⟨w.heap.size, 1, none⟩ = some (.int .u64 ix)) (by kernel_rfl) (KS.out _ (Below.refl _ _).drew) (fun hH => ?_)
        refine tKx (i := 0) (v := .int .i64 ((k : Int))) rfl rfl (by kernel_rfl) (fun _ _ _ h => h) ?_ hH ?_
        · intro w5 hSw; obtain ⟨s0, s1, s2, s3, s4⟩ := hSw; go_simp
        simp only [zA9, zB9, zC9]
        refine tKx (i := 1) (v := .pointer (some ⟨d, 0, none⟩)) rfl rfl (by kernel_rfl) (fun _ _ _ h => h) ?_ hH ?_
        · intro w5 hSw; obtain ⟨s0, s1, s2, s3, s4⟩ := hSw; go_simp
        simp only [zA9, zB9, zC9]
        refine tKx (i := 2) (v := .pointer (some ⟨d, 0, none⟩)) rfl rfl (by kernel_rfl) (fun _ _ _ h => h) ?_ hH ?_
        · intro w5 hSw; obtain ⟨s0, s1, s2, s3, s4⟩ := hSw; go_simp
        simp only [zA9, zB9, zC9]
        refine tKx (i := 3) (v := .pointer (some ⟨d, 1, none⟩)) rfl rfl (by kernel_rfl) (fun _ _ _ h => h) ?_ hH ?_
        · intro w5 hSw; obtain ⟨s0, s1, s2, s3, s4⟩ := hSw; go_simp
        simp only [zA9, zB9, zC9]
        refine tKx (i := 4) (v := .slice (some ⟨gx, ox, none⟩) N c) rfl rfl (by kernel_rfl) (fun _ _ _ h => h) ?_ hH ?_
        · intro w5 hSw; obtain ⟨s0, s1, s2, s3, s4⟩ := hSw; go_simp
        simp only [zA9, zB9, zC9]
        refine tKx (i := 5) (v := .int .i64 ((N : Int))) rfl rfl (by kernel_rfl) (fun _ _ _ h => h) ?_ hH ?_
        · intro w5 hSw; obtain ⟨s0, s1, s2, s3, s4⟩ := hSw; go_simp
        simp only [zA9, zB9, zC9]
        refine tKx (i := 6) (v := .bool true) rfl rfl (by kernel_rfl) (fun _ _ _ h => h) ?_ hH ?_
        · intro w5 hSw; obtain ⟨s0, s1, s2, s3, s4⟩ := hSw; go_simp
        simp only [zA9, zB9, zC9]
        refine tKx (i := 7) (v := .bool true) rfl rfl (by kernel_rfl) (fun _ _ _ h => h) ?_ hH ?_
        · intro w5 hSw; obtain ⟨s0, s1, s2, s3, s4⟩ := hSw; go_simp
        simp only [zA9, zB9, zC9]
        refine tKx (i := 8) (v := .pointer (some ⟨d, 0, none⟩)) rfl rfl (by kernel_rfl) (fun _ _ _ h => h) ?_ hH ?_
        · intro w5 hSw; obtain ⟨s0, s1, s2, s3, s4⟩ := hSw; go_simp
        simp only [zA9, zB9, zC9]
        refine tKx (i := 9) (v := .pointer (some ⟨d, 0, none⟩)) rfl rfl (by kernel_rfl) (fun _ _ _ h => h) ?_ hH ?_
        · intro w5 hSw; obtain ⟨s0, s1, s2, s3, s4⟩ := hSw; go_simp
        simp only [zA9, zB9, zC9]
        refine tKx (i := 10) (v := .pointer (some ⟨d, 1, none⟩)) rfl rfl (by kernel_rfl) (fun _ _ _ h => h) ?_ hH ?_
        · intro w5 hSw; obtain ⟨s0, s1, s2, s3, s4⟩ := hSw; go_simp
        simp only [zA9, zB9, zC9]
        refine tKx (i := 11) (v := .slice (some ⟨gx, ox, none⟩) N c) rfl rfl (by kernel_rfl) (fun _ _ _ h => h) ?_ hH ?_
        · intro w5 hSw; obtain ⟨s0, s1, s2, s3, s4⟩ := hSw; go_simp
        simp only [zA9, zB9, zC9]
        refine tKx (i := 12) (v := .int .i64 ((k : Int))) rfl rfl (by kernel_rfl) (fun _ _ _ h => h) ?_ hH ?_
        · intro w5 hSw; obtain ⟨s0, s1, s2, s3, s4⟩ := hSw; go_simp
        simp only [zA9, zB9, zC9]
        refine tKx (i := 13) (v := .pointer (some ⟨gx, ox + k * 2, none⟩)) rfl rfl (by kernel_rfl) (fun _ _ _ h => h) ?_ hH ?_
        · intro w5 hSw; obtain ⟨s0, s1, s2, s3, s4⟩ := hSw; go_simp
        simp only [zA9, zB9, zC9]
        refine tKx (i := 14) (v := .agg #[.slice (some ⟨y.g, 0, none⟩) y.e.key.length y.c, .int .u64 y.e.id]) rfl rfl (by kernel_rfl) (fun _ _ _ h => h) ?_ hH ?_
        · intro w5 hSw; obtain ⟨s0, s1, s2, s3, s4⟩ := hSw; go_simp
        simp only [zA9, zB9, zC9]
        refine tKx (i := 15) (v := .agg #[.slice px lx cx, .int .u64 ix]) rfl rfl (by kernel_rfl) (fun _ _ _ h => h) ?_ hH ?_
        · intro w5 hSw; obtain ⟨s0, s1, s2, s3, s4⟩ := hSw; go_simp
        simp only [zA9, zB9, zC9]
        have KB := mkHid ((Below.refl wr.heap.size wr).drew)
        generalize hW0 : wr.drew = W0 at KB hH ⊢
        refine wpAnyH_ready (rs := [16]) (by kernel_rfl) (by simp) ?_
        refine AllReadyH.cons rfl (fun K hK => ?_) AllReadyH.nil
        · go_simp
          go_at_call 44
          refine (CM.out _ (hb.out.trans (KB.out.mono hb.out.size))).mono ?_
          rintro e V1 ⟨rfl, hb2⟩
          go_wp2_with fail
          refine hK.out _ _ (KS.out _ (KB.out.trans (hb2.mono KB.out.size))) (fun hH => ?_)
          clear hK K
          replace KB := mkHid (KB.out.trans (hb2.mono KB.out.size))
          clear hb2
          refine tKx (i := 17) (v := .bool true) rfl rfl (by kernel_rfl) (fun _ _ _ h => h) ?_ hH ?_
          · intro w5 hSw; obtain ⟨s0, s1, s2, s3, s4⟩ := hSw; go_simp
          simp only [zA9, zB9, zC9]
          refine tKx (i := 18) (v := .bool true) rfl rfl (by kernel_rfl) (fun _ _ _ h => h) ?_ hH ?_
          · intro w5 hSw; obtain ⟨s0, s1, s2, s3, s4⟩ := hSw; go_simp
          simp only [zA9, zB9, zC9]
          refine wpAnyH_done (by kernel_rfl) ?_ _
          refine NoPanic.normal ?_
          have FN := mkHid (hb.out.trans (KB.out.mono hb.out.size))
          clear KB KS hH
          go_wp2_with fail
          go_roundw
          case rel => exact ⟨k + 1, by go_num, hlt, NX, FN⟩
          case measure => simp [intOf]; omega
      · have FE : Hid (PL = k) := by
          show PL = k
          rw [HPL.out]
          exact place_is (by have := HN.out; omega) (fun j z hj hz => hI.out j z hj hz) (fun z hz => by rw [hy] at hz; cases hz; show ltE y.e x = false; rw [ltE_not, ← hR]; omega)
        clear cm hy hR hI CO BX HPL HN b0 b1 b2 c0 c1
        go_wp2_with fail
        refine wp_region_noPanic ?_
        refine wp_region_held_drew (S := fun w' : World => w'.cell? ⟨d, 1, none⟩ = some (.slice (some ⟨gx, ox, none⟩) N c) ∧ w'.cell? ⟨gx, ox + k * 2, none⟩ = some (.slice (some ⟨y.g, 0, none⟩) y.e.key.length y.c) ∧ w'.cell? ⟨gx, ox + k * 2 + 1, none⟩ = some (.int .u64 y.e.id) ∧ w'.cell? ⟨w.heap.size, 0, none⟩ = some (.slice px lx cx) ∧ w'.cell? ⟨w.heap.size, 1, none⟩ = some (.int .u64 ix)) (by kernel_rfl) (KS.out _ (Below.refl _ _).drew) (fun hH => ?_)
        refine tKx (i := 0) (v := .int .i64 ((k : Int))) rfl rfl (by kernel_rfl) (fun _ _ _ h => h) ?_ hH ?_
        · intro w5 hSw; obtain ⟨s0, s1, s2, s3, s4⟩ := hSw; go_simp
        simp only [zA9, zB9, zC9]
        refine tKx (i := 1) (v := .pointer (some ⟨d, 0, none⟩)) rfl rfl (by kernel_rfl) (fun _ _ _ h => h) ?_ hH ?_
        · intro w5 hSw; obtain ⟨s0, s1, s2, s3, s4⟩ := hSw; go_simp
        simp only [zA9, zB9, zC9]
        refine tKx (i := 2) (v := .pointer (some ⟨d, 0, none⟩)) rfl rfl (by kernel_rfl) (fun _ _ _ h => h) ?_ hH ?_
        · intro w5 hSw; obtain ⟨s0, s1, s2, s3, s4⟩ := hSw; go_simp
        simp only [zA9, zB9, zC9]
        refine tKx (i := 3) (v := .pointer (some ⟨d, 1, none⟩)) rfl rfl (by kernel_rfl) (fun _ _ _ h => h) ?_ hH ?_
        · intro w5 hSw; obtain ⟨s0, s1, s2, s3, s4⟩ := hSw; go_simp
        simp only [zA9, zB9, zC9]
        refine tKx (i := 4) (v := .slice (some ⟨gx, ox, none⟩) N c) rfl rfl (by kernel_rfl) (fun _ _ _ h => h) ?_ hH ?_
        · intro w5 hSw; obtain ⟨s0, s1, s2, s3, s4⟩ := hSw; go_simp
        simp only [zA9, zB9, zC9]
        refine tKx (i := 5) (v := .int .i64 ((N : Int))) rfl rfl (by kernel_rfl) (fun _ _ _ h => h) ?_ hH ?_
        · intro w5 hSw; obtain ⟨s0, s1, s2, s3, s4⟩ := hSw; go_simp
        simp only [zA9, zB9, zC9]
        refine tKx (i := 6) (v := .bool true) rfl rfl (by kernel_rfl) (fun _ _ _ h => h) ?_ hH ?_
        · intro w5 hSw; obtain ⟨s0, s1, s2, s3, s4⟩ := hSw; go_simp
        simp only [zA9, zB9, zC9]
        refine tKx (i := 7) (v := .bool true) rfl rfl (by kernel_rfl) (fun _ _ _ h => h) ?_ hH ?_
        · intro w5 hSw; obtain ⟨s0, s1, s2, s3, s4⟩ := hSw; go_simp
        simp only [zA9, zB9, zC9]
        refine tKx (i := 8) (v := .pointer (some ⟨d, 0, none⟩)) rfl rfl (by kernel_rfl) (fun _ _ _ h => h) ?_ hH ?_
        · intro w5 hSw; obtain ⟨s0, s1, s2, s3, s4⟩ := hSw; go_simp
        simp only [zA9, zB9, zC9]
        refine tKx (i := 9) (v := .pointer (some ⟨d, 0, none⟩)) rfl rfl (by kernel_rfl) (fun _ _ _ h => h) ?_ hH ?_
        · intro w5 hSw; obtain ⟨s0, s1, s2, s3, s4⟩ := hSw; go_simp
        simp only [zA9, zB9, zC9]
        refine tKx (i := 10) (v := .pointer (some ⟨d, 1, none⟩)) rfl rfl (by kernel_rfl) (fun _ _ _ h => h) ?_ hH ?_
        · intro w5 hSw; obtain ⟨s0, s1, s2, s3, s4⟩ := hSw; go_simp
        simp only [zA9, zB9, zC9]
        refine tKx (i := 11) (v := .slice (some ⟨gx, ox, none⟩) N c) rfl rfl (by kernel_rfl) (fun _ _ _ h => h) ?_ hH ?_
        · intro w5 hSw; obtain ⟨s0, s1, s2, s3, s4⟩ := hSw; go_simp
        simp only [zA9, zB9, zC9]
        refine tKx (i := 12) (v := .int .i64 ((k : Int))) rfl rfl (by kernel_rfl) (fun _ _ _ h => h) ?_ hH ?_
        · intro w5 hSw; obtain ⟨s0, s1, s2, s3, s4⟩ := hSw; go_simp
        simp only [zA9, zB9, zC9]
        refine tKx (i := 13) (v := .pointer (some ⟨gx, ox + k * 2, none⟩)) rfl rfl (by kernel_rfl) (fun _ _ _ h => h) ?_ hH ?_
        · intro w5 hSw; obtain ⟨s0, s1, s2, s3, s4⟩ := hSw; go_simp
        simp only [zA9, zB9, zC9]
        refine tKx (i := 14) (v := .agg #[.slice (some ⟨y.g, 0, none⟩) y.e.key.length y.c, .int .u64 y.e.id]) rfl rfl (by kernel_rfl) (fun _ _ _ h => h) ?_ hH ?_
        · intro w5 hSw; obtain ⟨s0, s1, s2, s3, s4⟩ := hSw; go_simp
        simp only [zA9, zB9, zC9]
        refine tKx (i := 15) (v := .agg #[.slice px lx cx, .int .u64 ix]) rfl rfl (by kernel_rfl) (fun _ _ _ h => h) ?_ hH ?_
        · intro w5 hSw; obtain ⟨s0, s1, s2, s3, s4⟩ := hSw; go_simp
        simp only [zA9, zB9, zC9]
        have KB := mkHid ((Below.refl wr.heap.size wr).drew)
        generalize hW0 : wr.drew = W0 at KB hH ⊢
        refine wpAnyH_ready (rs := [16]) (by kernel_rfl) (by simp) ?_
        refine AllReadyH.cons rfl (fun K hK => ?_) AllReadyH.nil
        · go_simp
          go_at_call 44
          refine (CM.out _ (hb.out.trans (KB.out.mono hb.out.size))).mono ?_
          rintro e V1 ⟨rfl, hb2⟩
          go_wp2_with fail
          refine hK.out _ _ (KS.out _ (KB.out.trans (hb2.mono KB.out.size))) (fun hH => ?_)
          clear hK K
          replace KB := mkHid (KB.out.trans (hb2.mono KB.out.size))
          clear hb2
          refine tKx (i := 17) (v := .bool false) rfl rfl (by kernel_rfl) (fun _ _ _ h => h) ?_ hH ?_
          · intro w5 hSw; obtain ⟨s0, s1, s2, s3, s4⟩ := hSw; go_simp
          simp only [zA9, zB9, zC9]
          refine tKx (i := 18) (v := .bool false) rfl rfl (by kernel_rfl) (fun _ _ _ h => h) ?_ hH ?_
          · intro w5 hSw; obtain ⟨s0, s1, s2, s3, s4⟩ := hSw; go_simp
          simp only [zA9, zB9, zC9]
          refine wpAnyH_done (by kernel_rfl) ?_ _
          refine NoPanic.normal ?_
          have FN := BB.out.trans ((hb.out.trans (KB.out.mono hb.out.size)).mono BB.out.size)
          clear KB KS hH
          go_wp2_with fail
          go_ret
          exact ⟨by rw [FE.out]; rfl, FN⟩
    · obtain rfl : k = N := by omega
      have FE : Hid (PL = k) := by
        show PL = k
        rw [HPL.out]
        exact place_is (by have := HN.out; omega) (fun j z hj hz => hI.out j z hj hz) (fun z hz => by have := (List.getElem?_eq_some_iff.1 hz).1; have := HN.out; omega)
      have KS : Hid (∀ w', Below wr.heap.size wr w' → w'.cell? ⟨d, 1, none⟩ = some (.slice p k c)) := fun w' hb2 => (hb2.cell (p := ⟨d, 1, none⟩) b3).trans b2
      clear hI CO BX HPL HN b0 b1 b2
      go_wp2_with fail
      refine wp_region_noPanic ?_
      refine wp_region_held_drew (S := fun w' : World => w'.cell? ⟨d, 1, none⟩ = some (.slice p k c)) (by kernel_rfl) (KS.out _ (Below.refl _ _).drew) (fun hH => ?_)
      refine tKx (i := 0) (v := .int .i64 ((k : Int))) rfl rfl (by kernel_rfl) (fun _ _ _ h => h) ?_ hH ?_
      · intro w5 hSw; go_simp
      simp only [zA9, zB9, zC9]
      refine tKx (i := 1) (v := .pointer (some ⟨d, 0, none⟩)) rfl rfl (by kernel_rfl) (fun _ _ _ h => h) ?_ hH ?_
      · intro w5 hSw; go_simp
      simp only [zA9, zB9, zC9]
      refine tKx (i := 2) (v := .pointer (some ⟨d, 0, none⟩)) rfl rfl (by kernel_rfl) (fun _ _ _ h => h) ?_ hH ?_
      · intro w5 hSw; go_simp
      simp only [zA9, zB9, zC9]
      refine tKx (i := 3) (v := .pointer (some ⟨d, 1, none⟩)) rfl rfl (by kernel_rfl) (fun _ _ _ h => h) ?_ hH ?_
      · intro w5 hSw; go_simp
      simp only [zA9, zB9, zC9]
      refine tKx (i := 4) (v := .slice p k c) rfl rfl (by kernel_rfl) (fun _ _ _ h => h) ?_ hH ?_
      · intro w5 hSw; go_simp
      simp only [zA9, zB9, zC9]
      refine tKx (i := 5) (v := .int .i64 ((k : Int))) rfl rfl (by kernel_rfl) (fun _ _ _ h => h) ?_ hH ?_
      · intro w5 hSw; go_simp
      simp only [zA9, zB9, zC9]
      refine tKx (i := 6) (v := .bool false) rfl rfl (by kernel_rfl) (fun _ _ _ h => h) ?_ hH ?_
      · intro w5 hSw; go_simp
      simp only [zA9, zB9, zC9]
      refine tKx (i := 7) (v := .bool false) rfl rfl (by kernel_rfl) (fun _ _ _ h => h) ?_ hH ?_
      · intro w5 hSw; go_simp
      simp only [zA9, zB9, zC9]
      refine take_at (i := 8) (v := undef) rfl rfl (by kernel_rfl) (by kernel_rfl) (by kernel_rfl) (fun _ _ _ h => h) (Or.inr ⟨by rfl, rfl⟩) hH ?_
      simp only [zA9, zB9, zC9]
      refine take_at (i := 9) (v := undef) rfl rfl (by kernel_rfl) (by kernel_rfl) (by kernel_rfl) (fun _ _ _ h => h) (Or.inr ⟨by rfl, rfl⟩) hH ?_
      simp only [zA9, zB9, zC9]
      refine take_at (i := 10) (v := undef) rfl rfl (by kernel_rfl) (by kernel_rfl) (by kernel_rfl) (fun _ _ _ h => h) (Or.inr ⟨by rfl, rfl⟩) hH ?_
      simp only [zA9, zB9, zC9]
      refine take_at (i := 11) (v := undef) rfl rfl (by kernel_rfl) (by kernel_rfl) (by kernel_rfl) (fun _ _ _ h => h) (Or.inr ⟨by rfl, rfl⟩) hH ?_
      simp only [zA9, zB9, zC9]
      refine take_at (i := 12) (v := undef) rfl rfl (by kernel_rfl) (by kernel_rfl) (by kernel_rfl) (fun _ _ _ h => h) (Or.inr ⟨by rfl, rfl⟩) hH ?_
      simp only [zA9, zB9, zC9]
      refine take_at (i := 13) (v := undef) rfl rfl (by kernel_rfl) (by kernel_rfl) (by kernel_rfl) (fun _ _ _ h => h) (Or.inr ⟨by rfl, rfl⟩) hH ?_
      simp only [zA9, zB9, zC9]
      refine take_at (i := 14) (v := undef) rfl rfl (by kernel_rfl) (by kernel_rfl) (by kernel_rfl) (fun _ _ _ h => h) (Or.inr ⟨by rfl, rfl⟩) hH ?_
      simp only [zA9, zB9, zC9]
      refine take_at (i := 15) (v := undef) rfl rfl (by kernel_rfl) (by kernel_rfl) (by kernel_rfl) (fun _ _ _ h => h) (Or.inr ⟨by rfl, rfl⟩) hH ?_
      simp only [zA9, zB9, zC9]
      refine take_at (i := 16) (v := undef) rfl rfl (by kernel_rfl) (by kernel_rfl) (by kernel_rfl) (fun _ _ _ h => h) (Or.inr ⟨by rfl, rfl⟩) hH ?_
      simp only [zA9, zB9, zC9]
      refine take_at (i := 17) (v := undef) rfl rfl (by kernel_rfl) (by kernel_rfl) (by kernel_rfl) (fun _ _ _ h => h) (Or.inr ⟨by rfl, rfl⟩) hH ?_
      simp only [zA9, zB9, zC9]
      refine tKx (i := 18) (v := .bool false) rfl rfl (by kernel_rfl) (fun _ _ _ h => h) ?_ hH ?_
      · intro w5 hSw; go_simp
      simp only [zA9, zB9, zC9]
      have KB := mkHid ((Below.refl wr.heap.size wr).drew)
      generalize hW0 : wr.drew = W0 at KB hH ⊢
      refine wpAnyH_done (by kernel_rfl) ?_ _
      refine NoPanic.normal ?_
      have FN := BB.out.trans ((hb.out.trans (KB.out.mono hb.out.size)).mono BB.out.size)
      clear KB KS hH
      go_wp2_with fail
      go_ret
      exact ⟨by rw [FE.out]; rfl, FN⟩
end Go.Proofs.YtclcajnodoifjaaGreatDoor

namespace Go.Proofs.YtclcajnodoifjaaGreatDoor
open Go.RowKit Go.Shelf Go.Joins Go.Maps
set_option maxRecDepth 100000

theorem trO_cells {w : World} {bt : Nat} {u : Bool} {p1 p2 : Option Addr} {n1 c1 n2 c2 : Nat} {sz : Int} (h : w.heap[bt]? = some (trO u (.slice p1 n1 c1) (.slice p2 n2 c2) sz)) : w.cell? ⟨bt, 1, none⟩ = some (.slice p1 n1 c1) ∧ w.cell? ⟨bt, 2, none⟩ = some (.slice p2 n2 c2) := ⟨(cell_of_block h 1).trans rfl, (cell_of_block h 2).trans rfl⟩
set_option maxHeartbeats 8000000 in
set_option maxRecDepth 1000000 in
theorem ends_any (T : Nat → Prop) (d l bt : Nat) (n : Nd Em) (p1 : Option Addr) (n1 c1 : Nat) (p2 : Option Addr) (n2 c2 : Nat) (u ud : Bool) (sz : Int) (dd : Nat) (D : List Em) (PD : Option Addr) (ND CD : Nat) (w : World) (hn : RtIn T w d l n (.slice p1 n1 c1) (.slice p2 n2 c2)) (ht : w.heap[bt]? = some (trO u (.slice p1 n1 c1) (.slice p2 n2 c2) sz)) (hsz : sz = (n.fl.length : Int)) (hd : DocIn T w dd ud D (.slice PD ND CD)) (hND : ND = D.length) (zD : D.length ≤ 1000000) (ag : AgL n.fl D) :
    Calls Tryz.prog 11 #[.pointer (some ⟨bt, 0, none⟩), .pointer (some ⟨dd, 0, none⟩)] w fun e w' => e = .returned (.bool true) ∧ Below w.heap.size w w' := by
  have LE : Hid (∀ W, Below w.heap.size w W → Calls Tryz.prog 16 #[.pointer (some ⟨bt, 0, none⟩)] W fun e w' => e = .returned (.int .i64 (ND : Int)) ∧ w' = W) := fun W hW => by
    have := Len_any bt u _ _ sz W ((hW.block _ (lt_of_heap ht)).trans ht)
    rw [hsz, ag.1, ← hND] at this
    exact this
  have LD : Hid (∀ W, Below w.heap.size w W → W.cell? ⟨dd, 1, none⟩ = some (.slice PD ND CD)) := fun W hW => (cell_of_block (hd.below hW).box 1).trans rfl
  have F0 := First_any T d l bt n p1 n1 c1 p2 n2 c2 w hn (trO_cells ht).1 (trO_cells ht).2
  have F1 : Hid (∀ W, Below w.heap.size w W → Calls Tryz.prog 33 #[.pointer (some ⟨bt, 0, none⟩)] W fun e w' => FsQ W n.fl.reverse e w') := fun W hW => by
    have h' := (hW.block _ (lt_of_heap ht)).trans ht
    exact Last_any T d l bt n p1 n1 c1 p2 n2 c2 W (hn.keeps (Keeps.of_below hW)) (trO_cells h').1 (trO_cells h').2
  cases D with
  | nil =>
    have hl : n.fl = [] := List.eq_nil_of_length_eq_zero ag.1
    have z : ND = 0 := hND
    subst z
    rw [hl] at F0 F1
    have F0' : Hid (Calls Tryz.prog 32 #[.pointer (some ⟨bt, 0, none⟩)] w fun e w' => e = .returned (.tuple #[.slice none 0 0, .int .u64 0, .bool false]) ∧ Below w.heap.size w w') := F0.mono (fun e w' h => by
      obtain ⟨h1, h2 | ⟨q, c, r, h3, _⟩⟩ := h
      · exact ⟨h2.2, h1⟩
      · cases h3)
    have F1' : Hid (∀ W, Below w.heap.size w W → Calls Tryz.prog 33 #[.pointer (some ⟨bt, 0, none⟩)] W fun e w' => e = .returned (.tuple #[.slice none 0 0, .int .u64 0, .bool false]) ∧ Below W.heap.size W w') := fun W hW => (F1.out W hW).mono (fun e w' h => by
      obtain ⟨h1, h2 | ⟨q, c, r, h3, _⟩⟩ := h
      · exact ⟨h2.2, h1⟩
      · simp at h3)
    clear F0 F1 hn ht hd ag hsz hl zD hND
    go_enter Tryz.func11, Tryz.ntmps11
    go_wp2_with (first | (go_at_call 32; refine F0'.out.mono ?_; rintro e w1 ⟨rfl, b1⟩) | (go_at_call 33; refine (F1'.out w1 b1).mono ?_; rintro e w2 ⟨rfl, b2⟩; have bw := b1.trans (b2.mono b1.size); have lc := LD.out w2 bw) | (go_at_call 16; refine (LE.out w2 bw).mono ?_; rintro e w3 ⟨rfl, rfl⟩))
    go_ret
    exact ⟨rfl, bw⟩
  | cons d0 D =>
    obtain ⟨q, r, hq⟩ : ∃ q r, n.fl = q :: r := by
      cases h : n.fl with
      | nil => have := ag.1; rw [h] at this; cases this
      | cons q r => exact ⟨q, r, rfl⟩
    obtain ⟨ql, rl, hql⟩ : ∃ ql rl, n.fl.reverse = ql :: rl := by
      cases h : n.fl.reverse with
      | nil => have := congrArg List.length h; rw [List.length_reverse, hq] at this; cases this
      | cons q r => exact ⟨q, r, rfl⟩
    obtain ⟨j, hj⟩ : ∃ j, j = ND - 1 := ⟨_, rfl⟩
    have hlen : n.fl.length = ND := ag.1.trans hND.symm
    have h1 : 1 ≤ ND := by rw [hND]; simp
    obtain ⟨dl, hdl⟩ : ∃ dl, (d0 :: D)[j]? = some dl := ⟨_, List.getElem?_eq_getElem (by rw [hj, ← hND]; omega)⟩
    have A0 : Agr q.e d0.e := ag.2 0 q d0 (by rw [hq]; rfl) rfl
    have A1 : Agr ql.e dl.e := ag.2 j ql dl (by
      have h3 : n.fl.reverse[0]? = some ql := by rw [hql]; rfl
      rw [List.getElem?_reverse (by omega), hlen, Nat.sub_zero, ← hj] at h3
      exact h3) hdl
    obtain ⟨gx, ox, rfl⟩ : ∃ gx ox, PD = some ⟨gx, ox, none⟩ := by
      obtain ⟨p', c', e1, _, e3, hc⟩ := hd.row.form
      cases e1
      cases PD with
      | none => have := (e3 rfl).1; simp at this
      | some ad => obtain ⟨gx, ox, rfl, _⟩ := hc ad rfl; exact ⟨gx, ox, rfl⟩
    have EC : Hid (∀ W, Below w.heap.size w W → W.cell? ⟨dd, 1, none⟩ = some (.slice (some ⟨gx, ox, none⟩) ND CD) ∧ W.cell? ⟨gx, ox, none⟩ = some (.slice (some ⟨d0.g, 0, none⟩) d0.e.key.length d0.c) ∧ W.cell? ⟨gx, ox + 1, none⟩ = some (.int .u64 d0.e.id) ∧ W.cell? ⟨gx, ox + j * 2, none⟩ = some (.slice (some ⟨dl.g, 0, none⟩) dl.e.key.length dl.c) ∧ W.cell? ⟨gx, ox + j * 2 + 1, none⟩ = some (.int .u64 dl.e.id)) := fun W hW => by
      obtain ⟨a1, a2, _, _⟩ := (hd.below hW).entry (i := 0) (m := d0) rfl
      obtain ⟨b1, b2, _, _⟩ := (hd.below hW).entry hdl
      rw [Nat.zero_mul, Nat.add_zero] at a1 a2
      exact ⟨LD.out W hW, a1, a2, b1, b2⟩
    have F0' : Hid (Calls Tryz.prog 32 #[.pointer (some ⟨bt, 0, none⟩)] w fun e w' => ∃ g c, e = .returned (.tuple #[.slice (some ⟨g, 0, none⟩) q.e.key.length c, .int .u64 d0.e.id, .bool true]) ∧ (valsAt w' g q.e.key ∧ 0 < q.e.key.length ∧ q.e.key.length ≤ 4 ∧ ∀ v ∈ q.e.key, fit v.n) ∧ Below w.heap.size w w') := F0.mono (fun e w' h => by
      obtain ⟨h1, h2 | ⟨q', c, r', h3, g, h4, h5⟩⟩ := h
      · rw [hq] at h2; cases h2.1
      · rw [hq] at h3; cases h3; exact ⟨g, c, by rw [h4, A0.1], h5, h1⟩)
    have F1' : Hid (∀ W, Below w.heap.size w W → Calls Tryz.prog 33 #[.pointer (some ⟨bt, 0, none⟩)] W fun e w' => ∃ g c, e = .returned (.tuple #[.slice (some ⟨g, 0, none⟩) ql.e.key.length c, .int .u64 dl.e.id, .bool true]) ∧ (valsAt w' g ql.e.key ∧ 0 < ql.e.key.length ∧ ql.e.key.length ≤ 4 ∧ ∀ v ∈ ql.e.key, fit v.n) ∧ Below W.heap.size W w') := fun W hW => (F1.out W hW).mono (fun e w' h => by
      obtain ⟨h1, h2 | ⟨q', c, r', h3, g, h4, h5⟩⟩ := h
      · rw [hql] at h2; cases h2.1
      · rw [hql] at h3; cases h3; exact ⟨g, c, by rw [h4, A1.1], h5, h1⟩)
    have RW0 : Hid (∀ W g c, Below w.heap.size w W → (valsAt W g q.e.key ∧ 0 < q.e.key.length ∧ q.e.key.length ≤ 4 ∧ ∀ v ∈ q.e.key, fit v.n) → Calls Tryz.prog 18 #[.slice (some ⟨g, 0, none⟩) q.e.key.length c, .slice (some ⟨d0.g, 0, none⟩) d0.e.key.length d0.c] W fun e w' => e = .returned (.int .i64 0) ∧ Below W.heap.size W w') := fun W g c hW h => by
      obtain ⟨_, _, kd, _⟩ := (hd.below hW).entry (i := 0) (m := d0) rfl
      have := refRows_any (some ⟨g, 0, none⟩) (some ⟨d0.g, 0, none⟩) c d0.c q.e.key d0.e.key W (by omega) (Or.inr ⟨g, rfl, h.1⟩) (Or.inr ⟨_, rfl, kd.vals⟩) h.2.2.2 kd.fits
      rwa [A0.2.1] at this
    have RW1 : Hid (∀ W g c, Below w.heap.size w W → (valsAt W g ql.e.key ∧ 0 < ql.e.key.length ∧ ql.e.key.length ≤ 4 ∧ ∀ v ∈ ql.e.key, fit v.n) → Calls Tryz.prog 18 #[.slice (some ⟨g, 0, none⟩) ql.e.key.length c, .slice (some ⟨dl.g, 0, none⟩) dl.e.key.length dl.c] W fun e w' => e = .returned (.int .i64 0) ∧ Below W.heap.size W w') := fun W g c hW h => by
      obtain ⟨_, _, kd, _⟩ := (hd.below hW).entry hdl
      have := refRows_any (some ⟨g, 0, none⟩) (some ⟨dl.g, 0, none⟩) c dl.c ql.e.key dl.e.key W (by omega) (Or.inr ⟨g, rfl, h.1⟩) (Or.inr ⟨_, rfl, kd.vals⟩) h.2.2.2 kd.fits
      rwa [A1.2.1] at this
    have wj : IntKind.i64.wrap ((ND : Int) - 1) = (j : Int) := by rw [IntKind.wrap_i64]; rw [← hND] at zD; omega
    have ij : (j : Int) < (ND : Int) := by omega
    have ij0 : (0 : Int) ≤ (j : Int) := by omega
    have in0 : (0 : Int) < (ND : Int) := by omega
    have nz : ((ND : Int) == 0) = false := by rw [beq_eq_false_iff_ne]; omega
    clear F0 F1 hn ht hd ag hsz hq hql hj hlen h1 hdl A0 A1 zD hND
    go_enter Tryz.func11, Tryz.ntmps11
    go_wp2_with (first | (go_at_call 32; refine F0'.out.mono ?_; rintro e w1 ⟨ga, ca, rfl, va, b1⟩; have VA := mkHid va; clear va) | (go_at_call 33; refine (F1'.out w1 b1).mono ?_; rintro e w2 ⟨gb, cb, rfl, vb, b2⟩; have VB := mkHid vb; clear vb; have bw := b1.trans (b2.mono b1.size); obtain ⟨lc, x0, x1, x2, x3⟩ := EC.out w2 bw))
    have VA2 : Hid (valsAt w2 ga q.e.key ∧ 0 < q.e.key.length ∧ q.e.key.length ≤ 4 ∧ ∀ v ∈ q.e.key, fit v.n) := ⟨VA.out.1.below b2, VA.out.2⟩
    refine (RW0.out w2 ga ca bw VA2.out).mono ?_
    rintro e w3 ⟨rfl, b3⟩
    have bw3 := bw.trans (b3.mono bw.size)
    obtain ⟨lc3, y0, y1, y2, y3⟩ := EC.out w3 bw3
    go_wp2_with fail
    refine (RW1.out w3 gb cb bw3 ⟨VB.out.1.below b3, VB.out.2⟩).mono ?_
    rintro e w4 ⟨rfl, b4⟩
    have bw4 := bw3.trans (b4.mono bw3.size)
    obtain ⟨lc4, z0, z1, z2, z3⟩ := EC.out w4 bw4
    go_wp2_with (go_at_call 16; refine (LE.out w4 bw4).mono ?_; rintro e w5 ⟨rfl, rfl⟩)
    go_ret
    exact ⟨rfl, bw4⟩
end Go.Proofs.YtclcajnodoifjaaGreatDoor

namespace Go.Proofs.YtclcajnodoifjaaGreatDoor
open Go.RowKit Go.Shelf Go.Joins Go.Maps
set_option maxRecDepth 100000

theorem rwDE : Rw 26 54 (.agg #[.slice none 0 0, .int .u64 0]) 2 32 := ⟨by kernel_rfl, by kernel_rfl, rfl, by decide, by decide⟩
/-- its block is new -/
def fresh (v : Value) (B : Nat) : Prop := ∀ g, v.ownBlock = some g → B ≤ g
theorem Rw.app_none {t e : TypeId} {z : Value} {sz by' : Nat} (R : Rw t e z sz by') (w : World) (p : Option Addr) (n cap : Nat) (P : Option Addr) (c : Nat) (hn : n ≤ cap) (hp : p = none → n = 0 ∧ cap = 0) (hP : P = none → c = 0) (ty : TypeId) : (Builtin.append_ #[t, t] ty #[.slice p n cap, .slice P 0 c]).run Tryz.prog w = .ok (.slice p n cap) w := by
  obtain ⟨i, hi, hz, hs, hb⟩ := info_parts R.inf
  cases p with
  | none =>
    obtain ⟨rfl, rfl⟩ := hp rfl
    cases P <;> simp [Builtin.append_, run_underlying R.sl, sizeOf, typeInfo, hi, Builtin.lenOf, Builtin.firstCells, loadCells, loadCellsFrom]
  | some a =>
    cases P <;> simp [Builtin.append_, run_underlying R.sl, sizeOf, typeInfo, hi, Builtin.lenOf, Builtin.firstCells, loadCells, loadCellsFrom, storeCells, hn]
theorem Rw.appA {t e : TypeId} {z : Value} {sz by' : Nat} (R : Rw t e z sz by') {w : World} {v : Value} {n m c B : Nat} {xs news : List Value} {P : Option Addr} (h : shr w e sz v n xs) (hf : fresh v B) (hB : B ≤ w.heap.size)
    (hm : news.length = m * sz) (hP : P = none → m = 0 ∧ c = 0) (hnews : ∀ ad, P = some ad → ∀ j u, news[j]? = some u → w.cell? (ad.add j) = some u) (h1 : ∀ u ∈ news, u.oneCell' = true) (hl : n + m ≤ 1000000000) :
    ∃ p' c' w', (∀ ty, (Builtin.append_ #[t, t] ty #[v, .slice P m c]).run Tryz.prog w = .ok (.slice p' (n + m) c') w') ∧ shr w' e sz (.slice p' (n + m) c') (n + m) (xs ++ news) ∧ fresh (.slice p' (n + m) c') B ∧ Below B w w' := by
  rcases Nat.eq_zero_or_pos m with rfl | h0
  · obtain ⟨p, cap, rfl, e2, e3, e4, e5⟩ := h.form
    have hn : news = [] := List.eq_nil_of_length_eq_zero (by simpa using hm)
    subst hn
    exact ⟨p, cap, w, fun ty => R.app_none w p n cap P c e2 e4 (fun e => (hP e).2) ty, by rw [List.append_nil]; exact h, hf, Below.refl _ _⟩
  · cases P with
    | none => have := (hP rfl).1; omega
    | some ad =>
      obtain ⟨v', w', r, s, g, o⟩ := R.app (ad := ad) (c := c) h hm (hnews ad rfl) h1 hl h0
      obtain ⟨p, cap, rfl, e2, e3, e4, e5⟩ := s.form
      refine ⟨p, cap, w', r, s, fun b hb => ?_, (Below.refl B w).grown g hB (fun k e => hf k e)⟩
      rcases o with o | ⟨g2, o1, o2, _⟩
      · exact hf b (o ▸ hb)
      · rw [o1] at hb; cases hb; omega
end Go.Proofs.YtclcajnodoifjaaGreatDoor

namespace Go.Proofs.YtclcajnodoifjaaGreatDoor
open Go.RowKit Go.Shelf Go.Joins Go.Maps
set_option maxRecDepth 100000

/-- an entry that is there already -/
def dupB (k : List Va) (id : Int) (D : List Em) : Bool := D.any (fun q => decide (rowsV q.e.key k = 0) && decide (q.e.id = id))
theorem dup_no {m : Em} {k : List Va} {id : Int} (h : ¬ (rowsV m.e.key k = 0 ∧ m.e.id = id)) : (decide (rowsV m.e.key k = 0) && decide (m.e.id = id)) = false := by
  rw [Bool.and_eq_false_iff, decide_eq_false_iff_not, decide_eq_false_iff_not]
  by_cases h1 : rowsV m.e.key k = 0
  · exact Or.inr (fun h2 => h ⟨h1, h2⟩)
  · exact Or.inl h1
/-- what the document's Put leaves -/
def DuQ (T : Nat → Prop) (w : World) (dd : Nat) (D : List Em) (k : List Va) (id : Int) (e : Ending) (w' : World) : Prop :=
  (dupB k id D = true ∧ e = .returned (.int .i64 50) ∧ Below w.heap.size w w') ∨ (dupB k id D = false ∧ 4096 ≤ D.length ∧ e = .returned (.int .i64 2) ∧ Below w.heap.size w w') ∨ (dupB k id D = false ∧ D.length < 4096 ∧ e = .returned (.int .i64 0) ∧ ∃ m p' c', m.e = ⟨k, id⟩ ∧ DocIn T w' dd false (ins ltM m D) (.slice p' (D.length + 1) c') ∧ Chg (fun b => b = dd) w w')
theorem doc_row {T : Nat → Prop} {w : World} {dd : Nat} {u : Bool} {D : List Em} {PD : Option Addr} {ND CD : Nat} (h : DocIn T w dd u D (.slice PD ND CD)) : ND = D.length ∧ ND ≤ CD ∧ (PD = none → ND = 0 ∧ CD = 0) ∧ ∀ ad, PD = some ad → ∃ gx ox, ad = ⟨gx, ox, none⟩ ∧ gx < w.heap.size ∧ ∀ j u, (fl emE D)[j]? = some u → w.cell? ⟨gx, ox + j, none⟩ = some u := by
  obtain ⟨p, c, e1, e2, e3, e4⟩ := h.row.form
  cases e1
  exact ⟨rfl, e2, e3, e4⟩
theorem empty_row (w : World) : shr (w.alloc (.cells #[] 54)) 54 2 (.slice (some ⟨w.heap.size, 0, none⟩) 0 0) 0 [] := ⟨by simp, Or.inr ⟨w.heap.size, 0, 0, #[], rfl, heap_alloc_new _ _, Nat.le_refl _, Nat.zero_le _, Or.inl rfl, fun j u hj => by simp at hj⟩⟩
/-- a list with an entry put in, built of its two parts -/
theorem ins_rows (w4 : World) (D : List Em) (m : Em) (A ND C1 C2 : Nat) (P1 P2 : Option Addr) (hND : ND = D.length) (hA : A ≤ ND) (hz : ND ≤ 100000) (hP1 : P1 = none → A = 0 ∧ C1 = 0) (hP2 : P2 = none → ND - A = 0 ∧ C2 = 0)
    (h1 : ∀ W, Below w4.heap.size w4 W → ∀ ad, P1 = some ad → ∀ j u, (fl emE (D.take A))[j]? = some u → W.cell? (ad.add j) = some u) (h2 : ∀ W, Below w4.heap.size w4 W → ∀ ad, P2 = some ad → ∀ j u, (fl emE (D.drop A))[j]? = some u → W.cell? (ad.add j) = some u) :
    ∃ p6 c6 w6 p8 c8 w8 p9 c9 w9 n9, n9 = D.length + 1 ∧ (∀ ty, (Builtin.append_ #[26, 26] ty #[.slice (some ⟨w4.heap.size, 0, none⟩) 0 0, .slice P1 A C1]).run Tryz.prog (w4.alloc (.cells #[] 54)) = .ok (.slice p6 A c6) w6) ∧
      (∀ ty, (Builtin.append_ #[26, 26] ty #[.slice p6 A c6, .slice (some ⟨w6.heap.size, 0, none⟩) 1 1]).run Tryz.prog (w6.alloc (.cells #[.slice (some ⟨m.g, 0, none⟩) m.e.key.length m.c, .int .u64 m.e.id] 54)) = .ok (.slice p8 (A + 1) c8) w8) ∧
      (∀ ty, (Builtin.append_ #[26, 26] ty #[.slice p8 (A + 1) c8, .slice P2 (ND - A) C2]).run Tryz.prog w8 = .ok (.slice p9 n9 c9) w9) ∧ shr w9 54 2 (.slice p9 n9 c9) n9 (fl emE (D.take A ++ m :: D.drop A)) ∧ fresh (.slice p9 n9 c9) w4.heap.size ∧ Below w4.heap.size w4 w6 ∧ Below w4.heap.size w4 w8 ∧ Below w4.heap.size w4 w9 := by
  have b5 : Below w4.heap.size w4 (w4.alloc (.cells #[] 54)) := (Below.refl _ w4).alloc (Nat.le_refl _) _
  obtain ⟨p6, c6, w6, r6, s6, f6, b6⟩ := rwDE.appA (P := P1) (c := C1) (m := A) (B := w4.heap.size) (empty_row w4) (fun g h => by cases h; exact Nat.le_refl _) b5.size (fl_len (s := 2) emE_len _ |>.trans (by rw [List.length_take]; congr 1; omega)) hP1 (h1 _ b5) (fl_one emE_one _) (by omega)
  rw [Nat.zero_add] at r6 s6 f6
  rw [List.nil_append] at s6
  have b46 : Below w4.heap.size w4 w6 := b5.trans b6
  have b7 : Below w6.heap.size w6 (w6.alloc (.cells #[.slice (some ⟨m.g, 0, none⟩) m.e.key.length m.c, .int .u64 m.e.id] 54)) := (Below.refl _ w6).alloc (Nat.le_refl _) _
  have b47 := b46.trans (b7.mono b46.size)
  have s7 : shr (w6.alloc (.cells #[.slice (some ⟨m.g, 0, none⟩) m.e.key.length m.c, .int .u64 m.e.id] 54)) 54 2 (.slice p6 A c6) A (fl emE (D.take A)) := s6.kept (chg_bl b7) (fun _ _ h => h)
  obtain ⟨p8, c8, w8, r8, s8, f8, b8⟩ := rwDE.appA (P := some ⟨w6.heap.size, 0, none⟩) (c := 1) (m := 1) (news := emE m) s7 f6 b47.size rfl (fun h => by cases h) (fun ad h j u hj => by cases h; rw [add_plain, Nat.zero_add]; exact (cell_of_block (heap_alloc_new _ _) j).trans (by rw [← hj]; simp [emE])) (emE_one m) (by omega)
  have b48 := b47.trans b8
  obtain ⟨p9, c9, w9, r9, s9, f9, b9⟩ := rwDE.appA (P := P2) (c := C2) (m := ND - A) s8 f8 b48.size (fl_len (s := 2) emE_len _ |>.trans (by rw [List.length_drop]; congr 1; omega)) hP2 (h2 _ b48) (fl_one emE_one _) (by omega)
  refine ⟨p6, c6, w6, p8, c8, w8, p9, c9, w9, A + 1 + (ND - A), by omega, r6, r8, r9, ?_, f9, b46, b48, b48.trans b9⟩
  have e : fl emE (D.take A ++ m :: D.drop A) = fl emE (D.take A) ++ emE m ++ fl emE (D.drop A) := by rw [fl_app, fl_cons, List.append_assoc]
  rw [e]
  exact s9
theorem clone_vals {w2 : World} {b n cap : Nat} {k : List Va} (s : shr w2 40 3 (.slice (some ⟨b, 0, none⟩) n cap) n (fl vaE k)) (hb : b < w2.heap.size) : valsAt w2 b k ∧ n ≤ cap := by
  obtain ⟨p, c', e1, e2, _⟩ := s.form
  cases e1
  obtain ⟨g', off, e3, e4⟩ := s.cell
  cases e3
  exact ⟨valsAt.mk hb (fun j u hj => by have := e4 j u hj; rwa [Nat.zero_add] at this), e2⟩
end Go.Proofs.YtclcajnodoifjaaGreatDoor

namespace Go.Proofs.YtclcajnodoifjaaGreatDoor
open Go.RowKit Go.Shelf Go.Joins Go.Maps
set_option maxRecDepth 100000

/-- an append by its run, in a region that draws -/
theorem step_appq (t : TypeId) {ops : Array Oper} {o : Oper} {a : Act} {w : World} {K : Act → World → Prop} {Q : Exit → Act → World → Prop} {E : Prop} (hgd : o.guard = none) (s x : Operand) (ho : o.op = .call { callee := .builtin .append, args := #[s, x], argTypes := #[t, t] })
    {v y v' : Value} {w' : World} (hs : a.eval s = v) (hx : a.eval x = y) (hr : ∀ ty, (Builtin.append_ #[t, t] ty #[v, y]).run Tryz.prog w = .ok v' w') (h : K (a.put o.dst v') w') :
    if Region.wanted o (yielded ops a.tmps) = true then Oper.wp Tryz.prog o a w K Q else E := by
  have hwd : Region.wanted o (yielded ops a.tmps) = true := by simp [Region.wanted, hgd]
  rw [if_pos hwd]
  unfold Oper.wp execOp
  simp only [ho, resolve, invoke, builtin, Sem.run_bind, Sem.run_pure, Result.andThen_ok, List.map_toArray, List.map_cons, List.map_nil, hs, hx, hr]
  exact h
/-- is this very entry there -/
def atB (x : En) (D : List Em) : Bool := match D[place ltM (tgt x) D]? with | some y => decide (ordE y.e x = 0) | none => false
/-- what the document's Drop leaves -/
def DdQ (T : Nat → Prop) (w : World) (dd : Nat) (u : Bool) (D : List Em) (x : En) (e : Ending) (w' : World) : Prop :=
  (atB x D = false ∧ e = .returned (.bool false) ∧ Below w.heap.size w w') ∨ (atB x D = true ∧ e = .returned (.bool true) ∧ ∃ p' c', DocIn T w' dd u (D.take (place ltM (tgt x) D) ++ D.drop (place ltM (tgt x) D + 1)) (.slice p' (D.length - 1) c') ∧ Chg (fun b => b = dd) w w')
/-- a list with an entry left out, built of its two parts -/
theorem drop_rows (w4 : World) (D : List Em) (A ND C1 C2 : Nat) (P1 P2 : Option Addr) (hND : ND = D.length) (hA : A + 1 ≤ ND) (hz : ND ≤ 100000) (hP1 : P1 = none → A = 0 ∧ C1 = 0) (hP2 : P2 = none → ND - (A + 1) = 0 ∧ C2 = 0)
    (h1 : ∀ W, Below w4.heap.size w4 W → ∀ ad, P1 = some ad → ∀ j u, (fl emE (D.take A))[j]? = some u → W.cell? (ad.add j) = some u) (h2 : ∀ W, Below w4.heap.size w4 W → ∀ ad, P2 = some ad → ∀ j u, (fl emE (D.drop (A + 1)))[j]? = some u → W.cell? (ad.add j) = some u) :
    ∃ p6 c6 w6 p9 c9 w9 n9, n9 = D.length - 1 ∧ (∀ ty, (Builtin.append_ #[26, 26] ty #[.slice (some ⟨w4.heap.size, 0, none⟩) 0 0, .slice P1 A C1]).run Tryz.prog (w4.alloc (.cells #[] 54)) = .ok (.slice p6 A c6) w6) ∧
      (∀ ty, (Builtin.append_ #[26, 26] ty #[.slice p6 A c6, .slice P2 (ND - (A + 1)) C2]).run Tryz.prog w6 = .ok (.slice p9 n9 c9) w9) ∧ shr w9 54 2 (.slice p9 n9 c9) n9 (fl emE (D.take A ++ D.drop (A + 1))) ∧ fresh (.slice p9 n9 c9) w4.heap.size ∧ Below w4.heap.size w4 w6 ∧ Below w4.heap.size w4 w9 := by
  have b5 : Below w4.heap.size w4 (w4.alloc (.cells #[] 54)) := (Below.refl _ w4).alloc (Nat.le_refl _) _
  obtain ⟨p6, c6, w6, r6, s6, f6, b6⟩ := rwDE.appA (P := P1) (c := C1) (m := A) (B := w4.heap.size) (empty_row w4) (fun g h => by cases h; exact Nat.le_refl _) b5.size (fl_len (s := 2) emE_len _ |>.trans (by rw [List.length_take]; congr 1; omega)) hP1 (h1 _ b5) (fl_one emE_one _) (by omega)
  rw [Nat.zero_add] at r6 s6 f6
  rw [List.nil_append] at s6
  have b46 : Below w4.heap.size w4 w6 := b5.trans b6
  obtain ⟨p9, c9, w9, r9, s9, f9, b9⟩ := rwDE.appA (P := P2) (c := C2) (m := ND - (A + 1)) s6 f6 b46.size (fl_len (s := 2) emE_len _ |>.trans (by rw [List.length_drop]; congr 1; omega)) hP2 (h2 _ b46) (fl_one emE_one _) (by omega)
  refine ⟨p6, c6, w6, p9, c9, w9, A + (ND - (A + 1)), by omega, r6, r9, ?_, f9, b46, b46.trans b9⟩
  rw [fl_app]
  exact s9
end Go.Proofs.YtclcajnodoifjaaGreatDoor

