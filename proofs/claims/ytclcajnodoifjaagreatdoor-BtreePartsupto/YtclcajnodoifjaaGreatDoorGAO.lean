/-
  The document's tree in memory; the walk of its at.
-/
import Derived.Test.YtclcajnodoifjaaGreatDoorGAH
import Derived.Test.YtclcajnodoifjaaGreatDoorBxMQx
import Derived.Test.YtclcajnodoifjaaGreatDoorGAL
namespace Go.Proofs.YtclcajnodoifjaaGreatDoor
open Go.RowKit Go.Shelf Go.Joins Go.Maps
set_option maxRecDepth 100000

/-- the document's tree: a box, and its entries in a row -/
structure DocIn (T : Nat → Prop) (w : World) (d : Nat) (u : Bool) (l : List Em) (v : Value) : Prop where
  box : w.heap[d]? = some (.cells #[.bool u, v] 28 (0, 0))
  row : rowT T w 54 2 v l.length (fl emE l)
  keys : ∀ q ∈ l, KeyOk T w q
theorem DocIn.below {T : Nat → Prop} {w w' : World} {d : Nat} {u : Bool} {l : List Em} {v : Value} (h : DocIn T w d u l v) (hb : Below w.heap.size w w') : DocIn T w' d u l v := ⟨(hb.block _ (lt_of_heap h.box)).trans h.box, h.row.keeps (Keeps.of_below hb), fun q hq => (h.keys q hq).keeps (Keeps.of_below hb)⟩
/-- an entry of it -/
theorem DocIn.entry {T : Nat → Prop} {w : World} {d i : Nat} {u : Bool} {l : List Em} {m : Em} {gx ox N c : Nat} (h : DocIn T w d u l (.slice (some ⟨gx, ox, none⟩) N c)) (hm : l[i]? = some m) : w.cell? ⟨gx, ox + i * 2, none⟩ = some (.slice (some ⟨m.g, 0, none⟩) m.e.key.length m.c) ∧ w.cell? ⟨gx, ox + i * 2 + 1, none⟩ = some (.int .u64 m.e.id) ∧ KeyOk T w m ∧ gx < w.heap.size := by
  obtain ⟨p, cc, e1, _, _, hc⟩ := h.row.form
  cases e1
  obtain ⟨g', o', e2, hg, hc⟩ := hc _ rfl
  cases e2
  have q0 := hc _ _ ((fl_get emE_len l i m 0 hm (by omega)).trans rfl)
  have q1 := hc _ _ ((fl_get emE_len l i m 1 hm (by omega)).trans rfl)
  exact ⟨q0, by rw [Nat.add_assoc]; exact q1, h.keys m (List.mem_of_getElem? hm), hg⟩
set_option maxHeartbeats 8000000 in
set_option maxRecDepth 1000000 in
theorem at_any (T : Nat → Prop) (d : Nat) (u : Bool) (l : List Em) (p : Option Addr) (N c : Nat) (x : En) (px : Option Addr) (cx : Nat) (w : World) (h : DocIn T w d u l (.slice p N c)) (hN : N = l.length) (hl : N ≤ 1000000) (hx : EnAt w px x) :
    Calls Tryz.prog 36 #[.pointer (some ⟨d, 0, none⟩), enV px cx x] w fun e w' => e = .returned (.int .i64 (place ltM (tgt x) l : Int)) ∧ Below w.heap.size w w' := by
  obtain ⟨w0, hw0⟩ : ∃ w0, w0 = w.alloc (.cells #[.slice px x.key.length cx, .int .u64 x.id] 54) := ⟨_, rfl⟩
  have bb : Below w.heap.size w w0 := by rw [hw0]; exact (Below.refl _ w).alloc (Nat.le_refl _) _
  have bx : w0.heap[w.heap.size]? = some (.cells #[.slice px x.key.length cx, .int .u64 x.id] 54 (0, 0)) := by rw [hw0]; exact heap_alloc_new _ _
  have CO : Hid (∀ (k : Nat) W, k < N → Below w0.heap.size w0 W → ∃ y gx ox, l[k]? = some y ∧ p = some ⟨gx, ox, none⟩ ∧ W.cell? ⟨gx, ox + k * 2, none⟩ = some (.slice (some ⟨y.g, 0, none⟩) y.e.key.length y.c) ∧ W.cell? ⟨gx, ox + k * 2 + 1, none⟩ = some (.int .u64 y.e.id) ∧ gx < W.heap.size ∧ ∀ W', Below w0.heap.size w0 W' → Calls Tryz.prog 44 #[.agg #[.slice (some ⟨y.g, 0, none⟩) y.e.key.length y.c, .int .u64 y.e.id], .agg #[.slice px x.key.length cx, .int .u64 x.id]] W' fun en w' => en = .returned (.int .i64 (ordE y.e x)) ∧ Below W'.heap.size W' w') := fun k W hk hW => by
    obtain ⟨y, hy⟩ : ∃ y, l[k]? = some y := ⟨_, List.getElem?_eq_getElem (by omega)⟩
    obtain ⟨p', c', e1, _, _, hc⟩ := h.row.form
    cases e1
    obtain ⟨gx, ox, rfl⟩ : ∃ gx ox, p = some ⟨gx, ox, none⟩ := by
      cases p with
      | none =>
        rcases h.row.1.2 with ⟨_, h0⟩ | ⟨_, _, _, _, e, _⟩
        · omega
        · cases e
      | some ad => obtain ⟨g, o, e, _⟩ := hc ad rfl; exact ⟨g, o, by rw [e]⟩
    have bW : Below w.heap.size w W := bb.trans (hW.mono bb.size)
    obtain ⟨u0, u1, u2, u3⟩ := (hN ▸ h.below bW).entry hy
    exact ⟨y, gx, ox, hy, rfl, u0, u1, u3, fun W' hW' => by
      have bW' : Below w.heap.size w W' := bb.trans (hW'.mono bb.size)
      have ky := (h.keys y (List.mem_of_getElem? hy)).keeps (Keeps.of_below bW')
      exact docOrder_any _ _ y.c cx y.e x W' (by have := ky.few; omega) ky.at_ (hx.below bW')⟩
  have BX : Hid (∀ W, Below w0.heap.size w0 W → W.cell? ⟨w.heap.size, 0, none⟩ = some (.slice px x.key.length cx) ∧ W.cell? ⟨w.heap.size, 1, none⟩ = some (.int .u64 x.id) ∧ W.cell? ⟨d, 1, none⟩ = some (.slice p N c) ∧ d < W.heap.size ∧ w.heap.size < W.heap.size) := fun W hW => by
    have hb := (hW.block _ (lt_of_heap bx)).trans bx
    have hd := ((bb.trans (hW.mono bb.size)).block _ (lt_of_heap h.box)).trans h.box
    exact ⟨(cell_of_block hb 0).trans rfl, (cell_of_block hb 1).trans rfl, (cell_of_block hd 1).trans rfl, lt_of_heap hd, lt_of_heap hb⟩
  have BB := mkHid bb
  have HW0 := mkHid hw0
  have HN := mkHid hN
  obtain ⟨PL, hPL⟩ : ∃ PL, PL = place ltM (tgt x) l := ⟨_, rfl⟩
  rw [← hPL]
  have HPL := mkHid hPL
  unfold enV
  clear h hx hN bb bx hw0 hPL
  generalize x.key.length = lx at *
  generalize x.id = ix at *
  go_enter Tryz.func36, Tryz.ntmps36
  go_wp2_with fail
  rw [← HW0.out]
  clear HW0
  go_loopw [5] (fun s5 wr => ∃ k : Nat, s5 = .int .i64 k ∧ k ≤ N ∧ Hid (∀ j y, j < k → l[j]? = some y → ltM y (tgt x) = true) ∧ Hid (Below w0.heap.size w0 wr)) (fun s5 _ => N - (intOf s5).toNat)
  case atStart => exact ⟨0, rfl, Nat.zero_le _, fun j y h => by omega, Below.refl _ _⟩
  case round =>
    obtain ⟨k, rfl, hk, hI, hb⟩ := hrel
    obtain ⟨b0, b1, b2, b3, b4⟩ := BX.out wr hb.out
    by_cases hlt : k < N
    · obtain ⟨y, gx, ox, hy, rfl, c0, c1, lg, cm⟩ := CO.out k wr hlt hb.out
      have CM := mkHid cm
      have KS : Hid (∀ w', Below wr.heap.size wr w' → w'.cell? ⟨d, 1, none⟩ = some (.slice (some ⟨gx, ox, none⟩) N c) ∧ w'.cell? ⟨gx, ox + k * 2, none⟩ = some (.slice (some ⟨y.g, 0, none⟩) y.e.key.length y.c) ∧ w'.cell? ⟨gx, ox + k * 2 + 1, none⟩ = some (.int .u64 y.e.id) ∧ w'.cell? ⟨w.heap.size, 0, none⟩ = some (.slice px lx cx) ∧ w'.cell? ⟨w.heap.size, 1, none⟩ = some (.int .u64 ix)) := fun w' hb2 => ⟨(hb2.cell (p := ⟨d, 1, none⟩) b3).trans b2, (hb2.cell (p := ⟨gx, ox + k * 2, none⟩) lg).trans c0, (hb2.cell (p := ⟨gx, ox + k * 2 + 1, none⟩) lg).trans c1, (hb2.cell (p := ⟨w.heap.size, 0, none⟩) b4).trans b0, (hb2.cell (p := ⟨w.heap.size, 1, none⟩) b4).trans b1⟩
      obtain ⟨R, hR⟩ : ∃ R, R = ordE y.e x := ⟨_, rfl⟩
      rw [← hR] at CM
      have i1 : (k : Int) < (N : Int) := by omega
      have i2 : (0 : Int) ≤ (k : Int) := by omega
      by_cases hl0 : R < 0
      · have NX : Hid (∀ j z, j < k + 1 → l[j]? = some z → ltM z (tgt x) = true) := fun j z hj hz => by
          by_cases hjk : j = k
          · subst hjk
            rw [hy] at hz
            cases hz
            show ltE y.e x = true
            rw [ltE_iff, ← hR]; exact hl0
          · exact hI.out j z (by omega) hz
        clear cm hy hR hI CO BX HPL HN b0 b1 b2 c0 c1
        go_wp2_with fail
        refine wp_region_noPanic ?_
        refine wp_region_held_drew (S := fun w' : World => w'.cell? ⟨d, 1, none⟩ = some (.slice (some ⟨gx, ox, none⟩) N c) ∧ w'.cell? ⟨gx, ox + k * 2, none⟩ = some (.slice (some ⟨y.g, 0, none⟩) y.e.key.length y.c) ∧ w'.cell? ⟨gx, ox + k * 2 + 1, none⟩ = some (.int .u64 y.e.id) ∧ w'.cell? ⟨w.heap.size, 0, none⟩ = some (.slice px lx cx) ∧ w'.cell? ⟨w.heap.size, 1, none⟩ = some (.int .u64 ix)) (by kernel_rfl) (KS.out _ (Below.refl _ _).drew) (fun hH => ?_)
        refine tKx (i := 0) (v := .int .i64 ((k : Int))) rfl rfl (by kernel_rfl) (fun _ _ _ h => h) ?_ hH ?_
        · intro w5 hSw; obtain ⟨s0, s1, s2, s3, s4⟩ := hSw; go_simp
        simp only [zA9, zB9, zC9]
        refine tKx (i := 1) (v := .pointer (some ⟨d, 0, none⟩)) rfl rfl (by kernel_rfl) (fun _ _ _ h => h) ?_ hH ?_
        · intro w5 hSw; obtain ⟨s0, s1, s2, s3, s4⟩ := hSw; go_simp
        simp only [zA9, zB9, zC9]
        refine tKx (i := 2) (v := .pointer (some ⟨d, 0, none⟩)) rfl rfl (by kernel_rfl) (fun _ _ _ h => h) ?_ hH ?_
        · intro w5 hSw; obtain ⟨s0, s1, s2, s3, s4⟩ := hSw; go_simp
        simp only [zA9, zB9, zC9]
        refine tKx (i := 3) (v := .pointer (some ⟨d, 1, none⟩)) rfl rfl (by kernel_rfl) (fun _ _ _ h => h) ?_ hH ?_
        · intro w5 hSw; obtain ⟨s0, s1, s2, s3, s4⟩ := hSw; go_simp
        simp only [zA9, zB9, zC9]
        refine tKx (i := 4) (v := .slice (some ⟨gx, ox, none⟩) N c) rfl rfl (by kernel_rfl) (fun _ _ _ h => h) ?_ hH ?_
        · intro w5 hSw; obtain ⟨s0, s1, s2, s3, s4⟩ := hSw; go_simp
        simp only [zA9, zB9, zC9]
        refine tKx (i := 5) (v := .int .i64 ((N : Int))) rfl rfl (by kernel_rfl) (fun _ _ _ h => h) ?_ hH ?_
        · intro w5 hSw; obtain ⟨s0, s1, s2, s3, s4⟩ := hSw; go_simp
        simp only [zA9, zB9, zC9]
        refine tKx (i := 6) (v := .bool true) rfl rfl (by kernel_rfl) (fun _ _ _ h => h) ?_ hH ?_
        · intro w5 hSw; obtain ⟨s0, s1, s2, s3, s4⟩ := hSw; go_simp
        simp only [zA9, zB9, zC9]
        refine tKx (i := 7) (v := .bool true) rfl rfl (by kernel_rfl) (fun _ _ _ h => h) ?_ hH ?_
        · intro w5 hSw; obtain ⟨s0, s1, s2, s3, s4⟩ := hSw; go_simp
        simp only [zA9, zB9, zC9]
        refine tKx (i := 8) (v := .pointer (some ⟨d, 0, none⟩)) rfl rfl (by kernel_rfl) (fun _ _ _ h => h) ?_ hH ?_
        · intro w5 hSw; obtain ⟨s0, s1, s2, s3, s4⟩ := hSw; go_simp
        simp only [zA9, zB9, zC9]
        refine tKx (i := 9) (v := .pointer (some ⟨d, 0, none⟩)) rfl rfl (by kernel_rfl) (fun _ _ _ h => h) ?_ hH ?_
        · intro w5 hSw; obtain ⟨s0, s1, s2, s3, s4⟩ := hSw; go_simp
        simp only [zA9, zB9, zC9]
        refine tKx (i := 10) (v := .pointer (some ⟨d, 1, none⟩)) rfl rfl (by kernel_rfl) (fun _ _ _ h => h) ?_ hH ?_
        · intro w5 hSw; obtain ⟨s0, s1, s2, s3, s4⟩ := hSw; go_simp
        simp only [zA9, zB9, zC9]
        refine tKx (i := 11) (v := .slice (some ⟨gx, ox, none⟩) N c) rfl rfl (by kernel_rfl) (fun _ _ _ h => h) ?_ hH ?_
        · intro w5 hSw; obtain ⟨s0, s1, s2, s3, s4⟩ := hSw; go_simp
        simp only [zA9, zB9, zC9]
        refine tKx (i := 12) (v := .int .i64 ((k : Int))) rfl rfl (by kernel_rfl) (fun _ _ _ h => h) ?_ hH ?_
        · intro w5 hSw; obtain ⟨s0, s1, s2, s3, s4⟩ := hSw; go_simp
        simp only [zA9, zB9, zC9]
        refine tKx (i := 13) (v := .pointer (some ⟨gx, ox + k * 2, none⟩)) rfl rfl (by kernel_rfl) (fun _ _ _ h => h) ?_ hH ?_
        · intro w5 hSw; obtain ⟨s0, s1, s2, s3, s4⟩ := hSw; go_simp
        simp only [zA9, zB9, zC9]
        refine tKx (i := 14) (v := .agg #[.slice (some ⟨y.g, 0, none⟩) y.e.key.length y.c, .int .u64 y.e.id]) rfl rfl (by kernel_rfl) (fun _ _ _ h => h) ?_ hH ?_
        · intro w5 hSw; obtain ⟨s0, s1, s2, s3, s4⟩ := hSw; go_simp
        simp only [zA9, zB9, zC9]
        refine tKx (i := 15) (v := .agg #[.slice px lx cx, .int .u64 ix]) rfl rfl (by kernel_rfl) (fun _ _ _ h => h) ?_ hH ?_
        · intro w5 hSw; obtain ⟨s0, s1, s2, s3, s4⟩ := hSw; go_simp
        simp only [zA9, zB9, zC9]
        have KB := mkHid ((Below.refl wr.heap.size wr).drew)
        generalize hW0 : wr.drew = W0 at KB hH ⊢
        refine wpAnyH_ready (rs := [16]) (by kernel_rfl) (by simp) ?_
        refine AllReadyH.cons rfl (fun K hK => ?_) AllReadyH.nil
        · go_simp
          go_at_call 44
          refine (CM.out _ (hb.out.trans (KB.out.mono hb.out.size))).mono ?_
          rintro e V1 ⟨rfl, hb2⟩
          go_wp2_with fail
          refine hK.out _ _ (KS.out _ (KB.out.trans (hb2.mono KB.out.size))) (fun hH => ?_)
          clear hK K
          replace KB := mkHid (KB.out.trans (hb2.mono KB.out.size))
          clear hb2
          refine tKx (i := 17) (v := .bool true) rfl rfl (by kernel_rfl) (fun _ _ _ h => h) ?_ hH ?_
          · intro w5 hSw; obtain ⟨s0, s1, s2, s3, s4⟩ := hSw; go_simp
          simp only [zA9, zB9, zC9]
          refine tKx (i := 18) (v := .bool true) rfl rfl (by kernel_rfl) (fun _ _ _ h => h) ?_ hH ?_
          · intro w5 hSw; obtain ⟨s0, s1, s2, s3, s4⟩ := hSw; go_simp
          simp only [zA9, zB9, zC9]
          refine wpAnyH_done (by kernel_rfl) ?_ _
          refine NoPanic.normal ?_
          have FN := mkHid (hb.out.trans (KB.out.mono hb.out.size))
          clear KB KS hH
          go_wp2_with fail
          go_roundw
          case rel => exact ⟨k + 1, by go_num, hlt, NX, FN⟩
          case measure => simp [intOf]; omega
      · have FE : Hid (PL = k) := by
          show PL = k
          rw [HPL.out]
          exact place_is (by have := HN.out; omega) (fun j z hj hz => hI.out j z hj hz) (fun z hz => by rw [hy] at hz; cases hz; show ltE y.e x = false; rw [ltE_not, ← hR]; omega)
        clear cm hy hR hI CO BX HPL HN b0 b1 b2 c0 c1
        go_wp2_with fail
        refine wp_region_noPanic ?_
        refine wp_region_held_drew (S := fun w' : World => w'.cell? ⟨d, 1, none⟩ = some (.slice (some ⟨gx, ox, none⟩) N c) ∧ w'.cell? ⟨gx, ox + k * 2, none⟩ = some (.slice (some ⟨y.g, 0, none⟩) y.e.key.length y.c) ∧ w'.cell? ⟨gx, ox + k * 2 + 1, none⟩ = some (.int .u64 y.e.id) ∧ w'.cell? ⟨w.heap.size, 0, none⟩ = some (.slice px lx cx) ∧ w'.cell? ⟨w.heap.size, 1, none⟩ = some (.int .u64 ix)) (by kernel_rfl) (KS.out _ (Below.refl _ _).drew) (fun hH => ?_)
        refine tKx (i := 0) (v := .int .i64 ((k : Int))) rfl rfl (by kernel_rfl) (fun _ _ _ h => h) ?_ hH ?_
        · intro w5 hSw; obtain ⟨s0, s1, s2, s3, s4⟩ := hSw; go_simp
        simp only [zA9, zB9, zC9]
        refine tKx (i := 1) (v := .pointer (some ⟨d, 0, none⟩)) rfl rfl (by kernel_rfl) (fun _ _ _ h => h) ?_ hH ?_
        · intro w5 hSw; obtain ⟨s0, s1, s2, s3, s4⟩ := hSw; go_simp
        simp only [zA9, zB9, zC9]
        refine tKx (i := 2) (v := .pointer (some ⟨d, 0, none⟩)) rfl rfl (by kernel_rfl) (fun _ _ _ h => h) ?_ hH ?_
        · intro w5 hSw; obtain ⟨s0, s1, s2, s3, s4⟩ := hSw; go_simp
        simp only [zA9, zB9, zC9]
        refine tKx (i := 3) (v := .pointer (some ⟨d, 1, none⟩)) rfl rfl (by kernel_rfl) (fun _ _ _ h => h) ?_ hH ?_
        · intro w5 hSw; obtain ⟨s0, s1, s2, s3, s4⟩ := hSw; go_simp
        simp only [zA9, zB9, zC9]
        refine tKx (i := 4) (v := .slice (some ⟨gx, ox, none⟩) N c) rfl rfl (by kernel_rfl) (fun _ _ _ h => h) ?_ hH ?_
        · intro w5 hSw; obtain ⟨s0, s1, s2, s3, s4⟩ := hSw; go_simp
        simp only [zA9, zB9, zC9]
        refine tKx (i := 5) (v := .int .i64 ((N : Int))) rfl rfl (by kernel_rfl) (fun _ _ _ h => h) ?_ hH ?_
        · intro w5 hSw; obtain ⟨s0, s1, s2, s3, s4⟩ := hSw; go_simp
        simp only [zA9, zB9, zC9]
        refine tKx (i := 6) (v := .bool true) rfl rfl (by kernel_rfl) (fun _ _ _ h => h) ?_ hH ?_
        · intro w5 hSw; obtain ⟨s0, s1, s2, s3, s4⟩ := hSw; go_simp
        simp only [zA9, zB9, zC9]
        refine tKx (i := 7) (v := .bool true) rfl rfl (by kernel_rfl) (fun _ _ _ h => h) ?_ hH ?_
        · intro w5 hSw; obtain ⟨s0, s1, s2, s3, s4⟩ := hSw; go_simp
        simp only [zA9, zB9, zC9]
        refine tKx (i := 8) (v := .pointer (some ⟨d, 0, none⟩)) rfl rfl (by kernel_rfl) (fun _ _ _ h => h) ?_ hH ?_
        · intro w5 hSw; obtain ⟨s0, s1, s2, s3, s4⟩ := hSw; go_simp
        simp only [zA9, zB9, zC9]
        refine tKx (i := 9) (v := .pointer (some ⟨d, 0, none⟩)) rfl rfl (by kernel_rfl) (fun _ _ _ h => h) ?_ hH ?_
        · intro w5 hSw; obtain ⟨s0, s1, s2, s3, s4⟩ := hSw; go_simp
        simp only [zA9, zB9, zC9]
        refine tKx (i := 10) (v := .pointer (some ⟨d, 1, none⟩)) rfl rfl (by kernel_rfl) (fun _ _ _ h => h) ?_ hH ?_
        · intro w5 hSw; obtain ⟨s0, s1, s2, s3, s4⟩ := hSw; go_simp
        simp only [zA9, zB9, zC9]
        refine tKx (i := 11) (v := .slice (some ⟨gx, ox, none⟩) N c) rfl rfl (by kernel_rfl) (fun _ _ _ h => h) ?_ hH ?_
        · intro w5 hSw; obtain ⟨s0, s1, s2, s3, s4⟩ := hSw; go_simp
        simp only [zA9, zB9, zC9]
        refine tKx (i := 12) (v := .int .i64 ((k : Int))) rfl rfl (by kernel_rfl) (fun _ _ _ h => h) ?_ hH ?_
        · intro w5 hSw; obtain ⟨s0, s1, s2, s3, s4⟩ := hSw; go_simp
        simp only [zA9, zB9, zC9]
        refine tKx (i := 13) (v := .pointer (some ⟨gx, ox + k * 2, none⟩)) rfl rfl (by kernel_rfl) (fun _ _ _ h => h) ?_ hH ?_
        · intro w5 hSw; obtain ⟨s0, s1, s2, s3, s4⟩ := hSw; go_simp
        simp only [zA9, zB9, zC9]
        refine tKx (i := 14) (v := .agg #[.slice (some ⟨y.g, 0, none⟩) y.e.key.length y.c, .int .u64 y.e.id]) rfl rfl (by kernel_rfl) (fun _ _ _ h => h) ?_ hH ?_
        · intro w5 hSw; obtain ⟨s0, s1, s2, s3, s4⟩ := hSw; go_simp
        simp only [zA9, zB9, zC9]
        refine tKx (i := 15) (v := .agg #[.slice px lx cx, .int .u64 ix]) rfl rfl (by kernel_rfl) (fun _ _ _ h => h) ?_ hH ?_
        · intro w5 hSw; obtain ⟨s0, s1, s2, s3, s4⟩ := hSw; go_simp
        simp only [zA9, zB9, zC9]
        have KB := mkHid ((Below.refl wr.heap.size wr).drew)
        generalize hW0 : wr.drew = W0 at KB hH ⊢
        refine wpAnyH_ready (rs := [16]) (by kernel_rfl) (by simp) ?_
        refine AllReadyH.cons rfl (fun K hK => ?_) AllReadyH.nil
        · go_simp
          go_at_call 44
          refine (CM.out _ (hb.out.trans (KB.out.mono hb.out.size))).mono ?_
          rintro e V1 ⟨rfl, hb2⟩
          go_wp2_with fail
          refine hK.out _ _ (KS.out _ (KB.out.trans (hb2.mono KB.out.size))) (fun hH => ?_)
          clear hK K
          replace KB := mkHid (KB.out.trans (hb2.mono KB.out.size))
          clear hb2
          refine tKx (i := 17) (v := .bool false) rfl rfl (by kernel_rfl) (fun _ _ _ h => h) ?_ hH ?_
          · intro w5 hSw; obtain ⟨s0, s1, s2, s3, s4⟩ := hSw; go_simp
          simp only [zA9, zB9, zC9]
          refine tKx (i := 18) (v := .bool false) rfl rfl (by kernel_rfl) (fun _ _ _ h => h) ?_ hH ?_
          · intro w5 hSw; obtain ⟨s0, s1, s2, s3, s4⟩ := hSw; go_simp
          simp only [zA9, zB9, zC9]
          refine wpAnyH_done (by kernel_rfl) ?_ _
          refine NoPanic.normal ?_
          have FN := BB.out.trans ((hb.out.trans (KB.out.mono hb.out.size)).mono BB.out.size)
          clear KB KS hH
          go_wp2_with fail
          go_ret
          exact ⟨by rw [FE.out]; rfl, FN⟩
    · obtain rfl : k = N := by omega
      have FE : Hid (PL = k) := by
        show PL = k
        rw [HPL.out]
        exact place_is (by have := HN.out; omega) (fun j z hj hz => hI.out j z hj hz) (fun z hz => by have := (List.getElem?_eq_some_iff.1 hz).1; have := HN.out; omega)
      have KS : Hid (∀ w', Below wr.heap.size wr w' → w'.cell? ⟨d, 1, none⟩ = some (.slice p k c)) := fun w' hb2 => (hb2.cell (p := ⟨d, 1, none⟩) b3).trans b2
      clear hI CO BX HPL HN b0 b1 b2
      go_wp2_with fail
      refine wp_region_noPanic ?_
      refine wp_region_held_drew (S := fun w' : World => w'.cell? ⟨d, 1, none⟩ = some (.slice p k c)) (by kernel_rfl) (KS.out _ (Below.refl _ _).drew) (fun hH => ?_)
      refine tKx (i := 0) (v := .int .i64 ((k : Int))) rfl rfl (by kernel_rfl) (fun _ _ _ h => h) ?_ hH ?_
      · intro w5 hSw; go_simp
      simp only [zA9, zB9, zC9]
      refine tKx (i := 1) (v := .pointer (some ⟨d, 0, none⟩)) rfl rfl (by kernel_rfl) (fun _ _ _ h => h) ?_ hH ?_
      · intro w5 hSw; go_simp
      simp only [zA9, zB9, zC9]
      refine tKx (i := 2) (v := .pointer (some ⟨d, 0, none⟩)) rfl rfl (by kernel_rfl) (fun _ _ _ h => h) ?_ hH ?_
      · intro w5 hSw; go_simp
      simp only [zA9, zB9, zC9]
      refine tKx (i := 3) (v := .pointer (some ⟨d, 1, none⟩)) rfl rfl (by kernel_rfl) (fun _ _ _ h => h) ?_ hH ?_
      · intro w5 hSw; go_simp
      simp only [zA9, zB9, zC9]
      refine tKx (i := 4) (v := .slice p k c) rfl rfl (by kernel_rfl) (fun _ _ _ h => h) ?_ hH ?_
      · intro w5 hSw; go_simp
      simp only [zA9, zB9, zC9]
      refine tKx (i := 5) (v := .int .i64 ((k : Int))) rfl rfl (by kernel_rfl) (fun _ _ _ h => h) ?_ hH ?_
      · intro w5 hSw; go_simp
      simp only [zA9, zB9, zC9]
      refine tKx (i := 6) (v := .bool false) rfl rfl (by kernel_rfl) (fun _ _ _ h => h) ?_ hH ?_
      · intro w5 hSw; go_simp
      simp only [zA9, zB9, zC9]
      refine tKx (i := 7) (v := .bool false) rfl rfl (by kernel_rfl) (fun _ _ _ h => h) ?_ hH ?_
      · intro w5 hSw; go_simp
      simp only [zA9, zB9, zC9]
      refine take_at (i := 8) (v := undef) rfl rfl (by kernel_rfl) (by kernel_rfl) (by kernel_rfl) (fun _ _ _ h => h) (Or.inr ⟨by rfl, rfl⟩) hH ?_
      simp only [zA9, zB9, zC9]
      refine take_at (i := 9) (v := undef) rfl rfl (by kernel_rfl) (by kernel_rfl) (by kernel_rfl) (fun _ _ _ h => h) (Or.inr ⟨by rfl, rfl⟩) hH ?_
      simp only [zA9, zB9, zC9]
      refine take_at (i := 10) (v := undef) rfl rfl (by kernel_rfl) (by kernel_rfl) (by kernel_rfl) (fun _ _ _ h => h) (Or.inr ⟨by rfl, rfl⟩) hH ?_
      simp only [zA9, zB9, zC9]
      refine take_at (i := 11) (v := undef) rfl rfl (by kernel_rfl) (by kernel_rfl) (by kernel_rfl) (fun _ _ _ h => h) (Or.inr ⟨by rfl, rfl⟩) hH ?_
      simp only [zA9, zB9, zC9]
      refine take_at (i := 12) (v := undef) rfl rfl (by kernel_rfl) (by kernel_rfl) (by kernel_rfl) (fun _ _ _ h => h) (Or.inr ⟨by rfl, rfl⟩) hH ?_
      simp only [zA9, zB9, zC9]
      refine take_at (i := 13) (v := undef) rfl rfl (by kernel_rfl) (by kernel_rfl) (by kernel_rfl) (fun _ _ _ h => h) (Or.inr ⟨by rfl, rfl⟩) hH ?_
      simp only [zA9, zB9, zC9]
      refine take_at (i := 14) (v := undef) rfl rfl (by kernel_rfl) (by kernel_rfl) (by kernel_rfl) (fun _ _ _ h => h) (Or.inr ⟨by rfl, rfl⟩) hH ?_
      simp only [zA9, zB9, zC9]
      refine take_at (i := 15) (v := undef) rfl rfl (by kernel_rfl) (by kernel_rfl) (by kernel_rfl) (fun _ _ _ h => h) (Or.inr ⟨by rfl, rfl⟩) hH ?_
      simp only [zA9, zB9, zC9]
      refine take_at (i := 16) (v := undef) rfl rfl (by kernel_rfl) (by kernel_rfl) (by kernel_rfl) (fun _ _ _ h => h) (Or.inr ⟨by rfl, rfl⟩) hH ?_
      simp only [zA9, zB9, zC9]
      refine take_at (i := 17) (v := undef) rfl rfl (by kernel_rfl) (by kernel_rfl) (by kernel_rfl) (fun _ _ _ h => h) (Or.inr ⟨by rfl, rfl⟩) hH ?_
      simp only [zA9, zB9, zC9]
      refine tKx (i := 18) (v := .bool false) rfl rfl (by kernel_rfl) (fun _ _ _ h => h) ?_ hH ?_
      · intro w5 hSw; go_simp
      simp only [zA9, zB9, zC9]
      have KB := mkHid ((Below.refl wr.heap.size wr).drew)
      generalize hW0 : wr.drew = W0 at KB hH ⊢
      refine wpAnyH_done (by kernel_rfl) ?_ _
      refine NoPanic.normal ?_
      have FN := BB.out.trans ((hb.out.trans (KB.out.mono hb.out.size)).mono BB.out.size)
      clear KB KS hH
      go_wp2_with fail
      go_ret
      exact ⟨by rw [FE.out]; rfl, FN⟩
end Go.Proofs.YtclcajnodoifjaaGreatDoor

namespace Go.Proofs.YtclcajnodoifjaaGreatDoor
open Go.RowKit Go.Shelf Go.Joins Go.Maps
set_option maxRecDepth 100000

theorem trO_cells {w : World} {bt : Nat} {u : Bool} {p1 p2 : Option Addr} {n1 c1 n2 c2 : Nat} {sz : Int} (h : w.heap[bt]? = some (trO u (.slice p1 n1 c1) (.slice p2 n2 c2) sz)) : w.cell? ⟨bt, 1, none⟩ = some (.slice p1 n1 c1) ∧ w.cell? ⟨bt, 2, none⟩ = some (.slice p2 n2 c2) := ⟨(cell_of_block h 1).trans rfl, (cell_of_block h 2).trans rfl⟩
set_option maxHeartbeats 8000000 in
set_option maxRecDepth 1000000 in
theorem ends_any (T : Nat → Prop) (d l bt : Nat) (n : Nd Em) (p1 : Option Addr) (n1 c1 : Nat) (p2 : Option Addr) (n2 c2 : Nat) (u ud : Bool) (sz : Int) (dd : Nat) (D : List Em) (PD : Option Addr) (ND CD : Nat) (w : World) (hn : RtIn T w d l n (.slice p1 n1 c1) (.slice p2 n2 c2)) (ht : w.heap[bt]? = some (trO u (.slice p1 n1 c1) (.slice p2 n2 c2) sz)) (hsz : sz = (n.fl.length : Int)) (hd : DocIn T w dd ud D (.slice PD ND CD)) (hND : ND = D.length) (zD : D.length ≤ 1000000) (ag : AgL n.fl D) :
    Calls Tryz.prog 11 #[.pointer (some ⟨bt, 0, none⟩), .pointer (some ⟨dd, 0, none⟩)] w fun e w' => e = .returned (.bool true) ∧ Below w.heap.size w w' := by
  have LE : Hid (∀ W, Below w.heap.size w W → Calls Tryz.prog 16 #[.pointer (some ⟨bt, 0, none⟩)] W fun e w' => e = .returned (.int .i64 (ND : Int)) ∧ w' = W) := fun W hW => by
    have := Len_any bt u _ _ sz W ((hW.block _ (lt_of_heap ht)).trans ht)
    rw [hsz, ag.1, ← hND] at this
    exact this
  have LD : Hid (∀ W, Below w.heap.size w W → W.cell? ⟨dd, 1, none⟩ = some (.slice PD ND CD)) := fun W hW => (cell_of_block (hd.below hW).box 1).trans rfl
  have F0 := First_any T d l bt n p1 n1 c1 p2 n2 c2 w hn (trO_cells ht).1 (trO_cells ht).2
  have F1 : Hid (∀ W, Below w.heap.size w W → Calls Tryz.prog 33 #[.pointer (some ⟨bt, 0, none⟩)] W fun e w' => FsQ W n.fl.reverse e w') := fun W hW => by
    have h' := (hW.block _ (lt_of_heap ht)).trans ht
    exact Last_any T d l bt n p1 n1 c1 p2 n2 c2 W (hn.keeps (Keeps.of_below hW)) (trO_cells h').1 (trO_cells h').2
  cases D with
  | nil =>
    have hl : n.fl = [] := List.eq_nil_of_length_eq_zero ag.1
    have z : ND = 0 := hND
    subst z
    rw [hl] at F0 F1
    have F0' : Hid (Calls Tryz.prog 32 #[.pointer (some ⟨bt, 0, none⟩)] w fun e w' => e = .returned (.tuple #[.slice none 0 0, .int .u64 0, .bool false]) ∧ Below w.heap.size w w') := F0.mono (fun e w' h => by
      obtain ⟨h1, h2 | ⟨q, c, r, h3, _⟩⟩ := h
      · exact ⟨h2.2, h1⟩
      · cases h3)
    have F1' : Hid (∀ W, Below w.heap.size w W → Calls Tryz.prog 33 #[.pointer (some ⟨bt, 0, none⟩)] W fun e w' => e = .returned (.tuple #[.slice none 0 0, .int .u64 0, .bool false]) ∧ Below W.heap.size W w') := fun W hW => (F1.out W hW).mono (fun e w' h => by
      obtain ⟨h1, h2 | ⟨q, c, r, h3, _⟩⟩ := h
      · exact ⟨h2.2, h1⟩
      · simp at h3)
    clear F0 F1 hn ht hd ag hsz hl zD hND
    go_enter Tryz.func11, Tryz.ntmps11
    go_wp2_with (first | (go_at_call 32; refine F0'.out.mono ?_; rintro e w1 ⟨rfl, b1⟩) | (go_at_call 33; refine (F1'.out w1 b1).mono ?_; rintro e w2 ⟨rfl, b2⟩; have bw := b1.trans (b2.mono b1.size); have lc := LD.out w2 bw) | (go_at_call 16; refine (LE.out w2 bw).mono ?_; rintro e w3 ⟨rfl, rfl⟩))
    go_ret
    exact ⟨rfl, bw⟩
  | cons d0 D =>
    obtain ⟨q, r, hq⟩ : ∃ q r, n.fl = q :: r := by
      cases h : n.fl with
      | nil => have := ag.1; rw [h] at this; cases this
      | cons q r => exact ⟨q, r, rfl⟩
    obtain ⟨ql, rl, hql⟩ : ∃ ql rl, n.fl.reverse = ql :: rl := by
      cases h : n.fl.reverse with
      | nil => have := congrArg List.length h; rw [List.length_reverse, hq] at this; cases this
      | cons q r => exact ⟨q, r, rfl⟩
    obtain ⟨j, hj⟩ : ∃ j, j = ND - 1 := ⟨_, rfl⟩
    have hlen : n.fl.length = ND := ag.1.trans hND.symm
    have h1 : 1 ≤ ND := by rw [hND]; simp
    obtain ⟨dl, hdl⟩ : ∃ dl, (d0 :: D)[j]? = some dl := ⟨_, List.getElem?_eq_getElem (by rw [hj, ← hND]; omega)⟩
    have A0 : Agr q.e d0.e := ag.2 0 q d0 (by rw [hq]; rfl) rfl
    have A1 : Agr ql.e dl.e := ag.2 j ql dl (by
      have h3 : n.fl.reverse[0]? = some ql := by rw [hql]; rfl
      rw [List.getElem?_reverse (by omega), hlen, Nat.sub_zero, ← hj] at h3
      exact h3) hdl
    obtain ⟨gx, ox, rfl⟩ : ∃ gx ox, PD = some ⟨gx, ox, none⟩ := by
      obtain ⟨p', c', e1, _, e3, hc⟩ := hd.row.form
      cases e1
      cases PD with
      | none => have := (e3 rfl).1; simp at this
      | some ad => obtain ⟨gx, ox, rfl, _⟩ := hc ad rfl; exact ⟨gx, ox, rfl⟩
    have EC : Hid (∀ W, Below w.heap.size w W → W.cell? ⟨dd, 1, none⟩ = some (.slice (some ⟨gx, ox, none⟩) ND CD) ∧ W.cell? ⟨gx, ox, none⟩ = some (.slice (some ⟨d0.g, 0, none⟩) d0.e.key.length d0.c) ∧ W.cell? ⟨gx, ox + 1, none⟩ = some (.int .u64 d0.e.id) ∧ W.cell? ⟨gx, ox + j * 2, none⟩ = some (.slice (some ⟨dl.g, 0, none⟩) dl.e.key.length dl.c) ∧ W.cell? ⟨gx, ox + j * 2 + 1, none⟩ = some (.int .u64 dl.e.id)) := fun W hW => by
      obtain ⟨a1, a2, _, _⟩ := (hd.below hW).entry (i := 0) (m := d0) rfl
      obtain ⟨b1, b2, _, _⟩ := (hd.below hW).entry hdl
      rw [Nat.zero_mul, Nat.add_zero] at a1 a2
      exact ⟨LD.out W hW, a1, a2, b1, b2⟩
    have F0' : Hid (Calls Tryz.prog 32 #[.pointer (some ⟨bt, 0, none⟩)] w fun e w' => ∃ g c, e = .returned (.tuple #[.slice (some ⟨g, 0, none⟩) q.e.key.length c, .int .u64 d0.e.id, .bool true]) ∧ (valsAt w' g q.e.key ∧ 0 < q.e.key.length ∧ q.e.key.length ≤ 4 ∧ ∀ v ∈ q.e.key, fit v.n) ∧ Below w.heap.size w w') := F0.mono (fun e w' h => by
      obtain ⟨h1, h2 | ⟨q', c, r', h3, g, h4, h5⟩⟩ := h
      · rw [hq] at h2; cases h2.1
      · rw [hq] at h3; cases h3; exact ⟨g, c, by rw [h4, A0.1], h5, h1⟩)
    have F1' : Hid (∀ W, Below w.heap.size w W → Calls Tryz.prog 33 #[.pointer (some ⟨bt, 0, none⟩)] W fun e w' => ∃ g c, e = .returned (.tuple #[.slice (some ⟨g, 0, none⟩) ql.e.key.length c, .int .u64 dl.e.id, .bool true]) ∧ (valsAt w' g ql.e.key ∧ 0 < ql.e.key.length ∧ ql.e.key.length ≤ 4 ∧ ∀ v ∈ ql.e.key, fit v.n) ∧ Below W.heap.size W w') := fun W hW => (F1.out W hW).mono (fun e w' h => by
      obtain ⟨h1, h2 | ⟨q', c, r', h3, g, h4, h5⟩⟩ := h
      · rw [hql] at h2; cases h2.1
      · rw [hql] at h3; cases h3; exact ⟨g, c, by rw [h4, A1.1], h5, h1⟩)
    have RW0 : Hid (∀ W g c, Below w.heap.size w W → (valsAt W g q.e.key ∧ 0 < q.e.key.length ∧ q.e.key.length ≤ 4 ∧ ∀ v ∈ q.e.key, fit v.n) → Calls Tryz.prog 18 #[.slice (some ⟨g, 0, none⟩) q.e.key.length c, .slice (some ⟨d0.g, 0, none⟩) d0.e.key.length d0.c] W fun e w' => e = .returned (.int .i64 0) ∧ Below W.heap.size W w') := fun W g c hW h => by
      obtain ⟨_, _, kd, _⟩ := (hd.below hW).entry (i := 0) (m := d0) rfl
      have := refRows_any (some ⟨g, 0, none⟩) (some ⟨d0.g, 0, none⟩) c d0.c q.e.key d0.e.key W (by omega) (Or.inr ⟨g, rfl, h.1⟩) (Or.inr ⟨_, rfl, kd.vals⟩) h.2.2.2 kd.fits
      rwa [A0.2.1] at this
    have RW1 : Hid (∀ W g c, Below w.heap.size w W → (valsAt W g ql.e.key ∧ 0 < ql.e.key.length ∧ ql.e.key.length ≤ 4 ∧ ∀ v ∈ ql.e.key, fit v.n) → Calls Tryz.prog 18 #[.slice (some ⟨g, 0, none⟩) ql.e.key.length c, .slice (some ⟨dl.g, 0, none⟩) dl.e.key.length dl.c] W fun e w' => e = .returned (.int .i64 0) ∧ Below W.heap.size W w') := fun W g c hW h => by
      obtain ⟨_, _, kd, _⟩ := (hd.below hW).entry hdl
      have := refRows_any (some ⟨g, 0, none⟩) (some ⟨dl.g, 0, none⟩) c dl.c ql.e.key dl.e.key W (by omega) (Or.inr ⟨g, rfl, h.1⟩) (Or.inr ⟨_, rfl, kd.vals⟩) h.2.2.2 kd.fits
      rwa [A1.2.1] at this
    have wj : IntKind.i64.wrap ((ND : Int) - 1) = (j : Int) := by rw [IntKind.wrap_i64]; rw [← hND] at zD; omega
    have ij : (j : Int) < (ND : Int) := by omega
    have ij0 : (0 : Int) ≤ (j : Int) := by omega
    have in0 : (0 : Int) < (ND : Int) := by omega
    have nz : ((ND : Int) == 0) = false := by rw [beq_eq_false_iff_ne]; omega
    clear F0 F1 hn ht hd ag hsz hq hql hj hlen h1 hdl A0 A1 zD hND
    go_enter Tryz.func11, Tryz.ntmps11
    go_wp2_with (first | (go_at_call 32; refine F0'.out.mono ?_; rintro e w1 ⟨ga, ca, rfl, va, b1⟩; have VA := mkHid va; clear va) | (go_at_call 33; refine (F1'.out w1 b1).mono ?_; rintro e w2 ⟨gb, cb, rfl, vb, b2⟩; have VB := mkHid vb; clear vb; have bw := b1.trans (b2.mono b1.size); obtain ⟨lc, x0, x1, x2, x3⟩ := EC.out w2 bw))
    have VA2 : Hid (valsAt w2 ga q.e.key ∧ 0 < q.e.key.length ∧ q.e.key.length ≤ 4 ∧ ∀ v ∈ q.e.key, fit v.n) := ⟨VA.out.1.below b2, VA.out.2⟩
    refine (RW0.out w2 ga ca bw VA2.out).mono ?_
    rintro e w3 ⟨rfl, b3⟩
    have bw3 := bw.trans (b3.mono bw.size)
    obtain ⟨lc3, y0, y1, y2, y3⟩ := EC.out w3 bw3
    go_wp2_with fail
    refine (RW1.out w3 gb cb bw3 ⟨VB.out.1.below b3, VB.out.2⟩).mono ?_
    rintro e w4 ⟨rfl, b4⟩
    have bw4 := bw3.trans (b4.mono bw3.size)
    obtain ⟨lc4, z0, z1, z2, z3⟩ := EC.out w4 bw4
    go_wp2_with (go_at_call 16; refine (LE.out w4 bw4).mono ?_; rintro e w5 ⟨rfl, rfl⟩)
    go_ret
    exact ⟨rfl, bw4⟩
end Go.Proofs.YtclcajnodoifjaaGreatDoor

namespace Go.Proofs.YtclcajnodoifjaaGreatDoor
open Go.RowKit Go.Shelf Go.Joins Go.Maps
set_option maxRecDepth 100000

theorem rwDE : Rw 26 54 (.agg #[.slice none 0 0, .int .u64 0]) 2 32 := ⟨by kernel_rfl, by kernel_rfl, rfl, by decide, by decide⟩
/-- its block is new -/
def fresh (v : Value) (B : Nat) : Prop := ∀ g, v.ownBlock = some g → B ≤ g
theorem Rw.app_none {t e : TypeId} {z : Value} {sz by' : Nat} (R : Rw t e z sz by') (w : World) (p : Option Addr) (n cap : Nat) (P : Option Addr) (c : Nat) (hn : n ≤ cap) (hp : p = none → n = 0 ∧ cap = 0) (hP : P = none → c = 0) (ty : TypeId) : (Builtin.append_ #[t, t] ty #[.slice p n cap, .slice P 0 c]).run Tryz.prog w = .ok (.slice p n cap) w := by
  obtain ⟨i, hi, hz, hs, hb⟩ := info_parts R.inf
  cases p with
  | none =>
    obtain ⟨rfl, rfl⟩ := hp rfl
    cases P <;> simp [Builtin.append_, run_underlying R.sl, sizeOf, typeInfo, hi, Builtin.lenOf, Builtin.firstCells, loadCells, loadCellsFrom]
  | some a =>
    cases P <;> simp [Builtin.append_, run_underlying R.sl, sizeOf, typeInfo, hi, Builtin.lenOf, Builtin.firstCells, loadCells, loadCellsFrom, storeCells, hn]
theorem Rw.appA {t e : TypeId} {z : Value} {sz by' : Nat} (R : Rw t e z sz by') {w : World} {v : Value} {n m c B : Nat} {xs news : List Value} {P : Option Addr} (h : shr w e sz v n xs) (hf : fresh v B) (hB : B ≤ w.heap.size)
    (hm : news.length = m * sz) (hP : P = none → m = 0 ∧ c = 0) (hnews : ∀ ad, P = some ad → ∀ j u, news[j]? = some u → w.cell? (ad.add j) = some u) (h1 : ∀ u ∈ news, u.oneCell' = true) (hl : n + m ≤ 1000000000) :
    ∃ p' c' w', (∀ ty, (Builtin.append_ #[t, t] ty #[v, .slice P m c]).run Tryz.prog w = .ok (.slice p' (n + m) c') w') ∧ shr w' e sz (.slice p' (n + m) c') (n + m) (xs ++ news) ∧ fresh (.slice p' (n + m) c') B ∧ Below B w w' := by
  rcases Nat.eq_zero_or_pos m with rfl | h0
  · obtain ⟨p, cap, rfl, e2, e3, e4, e5⟩ := h.form
    have hn : news = [] := List.eq_nil_of_length_eq_zero (by simpa using hm)
    subst hn
    exact ⟨p, cap, w, fun ty => R.app_none w p n cap P c e2 e4 (fun e => (hP e).2) ty, by rw [List.append_nil]; exact h, hf, Below.refl _ _⟩
  · cases P with
    | none => have := (hP rfl).1; omega
    | some ad =>
      obtain ⟨v', w', r, s, g, o⟩ := R.app (ad := ad) (c := c) h hm (hnews ad rfl) h1 hl h0
      obtain ⟨p, cap, rfl, e2, e3, e4, e5⟩ := s.form
      refine ⟨p, cap, w', r, s, fun b hb => ?_, (Below.refl B w).grown g hB (fun k e => hf k e)⟩
      rcases o with o | ⟨g2, o1, o2, _⟩
      · exact hf b (o ▸ hb)
      · rw [o1] at hb; cases hb; omega
set_option maxHeartbeats 4000000 in
set_option maxRecDepth 1000000 in
theorem docPut_bad (k : List Va) (id : Int) (q : Option Addr) (cq dd : Nat) (w : World) (hl : k.length ≤ 1000000000) (hv : rowAt w q k) (hE : keyE k ≠ 0) :
    Calls Tryz.prog 12 #[.pointer (some ⟨dd, 0, none⟩), .slice q k.length cq, .int .u64 id] w fun e w' => e = .returned (.int .i64 (keyE k)) ∧ Below w.heap.size w w' := by
  unfold keyE at hE ⊢
  by_cases h0 : k.length = 0
  · rw [if_pos (Or.inl h0), h0]
    go_enter Tryz.func12, Tryz.ntmps12
    go_wp2_with fail
    go_ret
    exact ⟨rfl, Below.refl _ _⟩
  by_cases h4 : 4 < k.length
  · rw [if_pos (Or.inr h4)]
    have nz : ((k.length : Int) == 0) = false := by rw [beq_eq_false_iff_ne]; omega
    have n4 : (k.length : Int) > 4 := by omega
    clear hv hE h0
    generalize k.length = N at *
    go_enter Tryz.func12, Tryz.ntmps12
    go_wp2_with fail
    go_ret
    exact ⟨rfl, Below.refl _ _⟩
  rw [if_neg (by omega)] at hE ⊢
  obtain ⟨g, rfl, hvs⟩ : ∃ g, q = some ⟨g, 0, none⟩ ∧ valsAt w g k := by
    rcases hv with h | h
    · rw [h] at h0; simp at h0
    · exact h
  have nz : ((k.length : Int) == 0) = false := by rw [beq_eq_false_iff_ne]; omega
  have n4 : ¬ ((k.length : Int) > 4) := by omega
  obtain ⟨E, hEE⟩ : ∃ E, E = errs k := ⟨_, rfl⟩
  rw [← hEE] at hE ⊢
  have HE : Hid (E = errs k) := hEE
  have hE0 := mkHid hE
  obtain ⟨N, hN⟩ : ∃ N, N = k.length := ⟨_, rfl⟩
  rw [← hN] at nz n4 h0 h4 hl ⊢
  have HN := mkHid hN
  have HV := mkHid hvs
  clear hN hEE hE hv hvs
  go_enter Tryz.func12, Tryz.ntmps12
  go_wp2_with fail
  go_loopw [7, 8] (fun s7 _ wr => ∃ i : Nat, s7 = .int .i64 i ∧ i ≤ N ∧ Hid (E = errs (k.drop i)) ∧ Below w.heap.size w wr) (fun s7 _ _ => N - (intOf s7).toNat)
  case atStart => exact ⟨0, rfl, Nat.zero_le _, HE, Below.refl _ _⟩
  case round =>
    obtain ⟨i, rfl, hi, hd, hb⟩ := hrel
    clear HE
    by_cases hlt : i < N
    · obtain ⟨v, hvk⟩ : ∃ v, k[i]? = some v := ⟨_, List.getElem?_eq_getElem (by have := HN.out; omega)⟩
      obtain ⟨c1, c2, c3⟩ := (HV.out.below hb).2 i v hvk
      rw [drop_at hvk] at hd
      have CK : Hid (∀ w, Calls Tryz.prog 34 #[.agg #[.int .i64 v.ty, .int .i64 v.n, .string v.s]] w fun e w' => e = .returned (.int .i64 v.chk) ∧ Below w.heap.size w w') := fun w => refCheck_any v.ty v.n v.s w
      have i1 : (i : Int) < (N : Int) := by omega
      clear hvk
      by_cases h0 : v.chk = 0
      · have hd2 : Hid (E = errs (k.drop (i + 1))) := hd.out.trans (errs_pass h0)
        rw [h0] at CK
        clear hd
        go_wp2_with (go_at_call 34; refine (CK.out _).mono ?_; rintro e w1 ⟨rfl, hb2⟩)
        go_roundw
        case rel => exact ⟨i + 1, by go_num, hlt, hd2, hb.trans (hb2.mono hb.size)⟩
        case measure => simp [intOf]; omega
      · have hd2 : Hid (E = v.chk) := hd.out.trans (errs_stop h0)
        have hne : (v.chk != 0) = true := by rw [bne_iff_ne]; exact h0
        clear hd
        obtain rfl := hd2.out
        go_wp2_with (go_at_call 34; refine (CK.out _).mono ?_; rintro e w1 ⟨rfl, hb2⟩)
        go_ret
        exact ⟨rfl, hb.trans (hb2.mono hb.size)⟩
    · obtain rfl : i = N := by omega
      have he : E = 0 := by
        have := hd.out
        rw [List.drop_eq_nil_of_le (by rw [HN.out]; exact Nat.le_refl _)] at this
        exact this
      exact absurd he hE0.out
end Go.Proofs.YtclcajnodoifjaaGreatDoor

