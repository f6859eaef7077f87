/-
  Eval of a + 2, and lives.
-/
import Derived.Test.YtokppkinhlcafaaGreatDoorEyC
namespace Go.Proofs.YtokppkinhlcafaaGreatDoor
open Go.RowKit Go.Joins
set_option maxRecDepth 100000

/-- what is handed to Eval lies in memory -/
structure ArW (w : World) (gP gC gR : Nat) : Prop where
  a0 : w.cell? ⟨gP, 0, none⟩ = some (.string ⟨#[99, 111, 108, 117, 109, 110]⟩)
  a1 : w.cell? ⟨gP, 1, none⟩ = some (.slice none 0 0)
  a2 : w.cell? ⟨gP, 2, none⟩ = some (.int .i64 0)
  a3 : w.cell? ⟨gP, 3, none⟩ = some (.int .i64 0)
  a4 : w.cell? ⟨gP, 4, none⟩ = some (.string ⟨#[]⟩)
  a5 : w.cell? ⟨gP, 5, none⟩ = some (.string ⟨#[97]⟩)
  a6 : w.cell? ⟨gP, 6, none⟩ = some (.string ⟨#[]⟩)
  a7 : w.cell? ⟨gP, 7, none⟩ = some (.int .i64 0)
  a8 : w.cell? ⟨gP, 8, none⟩ = some (.int .i64 0)
  v0 : w.cell? ⟨gP, 9, none⟩ = some (.string ⟨#[118, 97, 108, 117, 101]⟩)
  v1 : w.cell? ⟨gP, 10, none⟩ = some (.slice none 0 0)
  v2 : w.cell? ⟨gP, 11, none⟩ = some (.int .i64 1)
  v3 : w.cell? ⟨gP, 12, none⟩ = some (.int .i64 2)
  v4 : w.cell? ⟨gP, 13, none⟩ = some (.string ⟨#[]⟩)
  v5 : w.cell? ⟨gP, 14, none⟩ = some (.string ⟨#[]⟩)
  v6 : w.cell? ⟨gP, 15, none⟩ = some (.string ⟨#[]⟩)
  v7 : w.cell? ⟨gP, 16, none⟩ = some (.int .i64 0)
  v8 : w.cell? ⟨gP, 17, none⟩ = some (.int .i64 0)
  k0 : w.cell? ⟨gC, 0, none⟩ = some (.string ⟨#[116]⟩)
  k1 : w.cell? ⟨gC, 1, none⟩ = some (.string ⟨#[97]⟩)
  k2 : w.cell? ⟨gC, 2, none⟩ = some (.int .i64 1)
  r0 : w.cell? ⟨gR, 0, none⟩ = some (.int .i64 1)
  r1 : w.cell? ⟨gR, 1, none⟩ = some (.int .i64 5)
  r2 : w.cell? ⟨gR, 2, none⟩ = some (.string ⟨#[]⟩)
set_option maxHeartbeats 4000000 in
set_option maxRecDepth 1000000 in
theorem Eval_P (gP gC gR : Nat) (w : World) (h : ArW w gP gC gR) : Calls Tryz.prog 18 #[.agg #[.string ⟨#[43]⟩, .slice (some ⟨gP, 0, none⟩) 2 2, .int .i64 0, .int .i64 0, .string ⟨#[]⟩, .string ⟨#[]⟩, .string ⟨#[]⟩, .int .i64 0, .int .i64 0], .agg #[.slice (some ⟨gC, 0, none⟩) 1 1, .slice none 0 0], .slice (some ⟨gR, 0, none⟩) 1 1, .slice none 0 0] w fun e w' => e = .returned (.tuple #[.agg #[.int .i64 1, .int .i64 7, .string ⟨#[]⟩], .int .i64 0]) ∧ Below w.heap.size w w' := by
  have hmf : ∀ (fn : Fn) (first cap : Array Value) (w : World), (Instr.makeFunc fn first cap).run Tryz.prog w = .ok (.func fn first cap) w := fun _ _ _ _ => rfl
  obtain ⟨W, hW⟩ : ∃ W, W = (((((w.alloc (.cells #[.string ⟨#[43]⟩, .slice (some ⟨gP, 0, none⟩) 2 2, .int .i64 0, .int .i64 0, .string ⟨#[]⟩, .string ⟨#[]⟩, .string ⟨#[]⟩, .int .i64 0, .int .i64 0] 26)).alloc (.cells #[.slice (some ⟨gC, 0, none⟩) 1 1, .slice none 0 0] 43)).alloc (.cells #[.slice (some ⟨gR, 0, none⟩) 1 1] 48)).alloc (.cells #[.slice none 0 0] 48)).alloc (.cells #[.int .i64 0, .int .i64 0, .string ⟨#[]⟩] 24)).alloc (.cells #[.int .i64 0, .int .i64 0, .string ⟨#[]⟩] 24) := ⟨_, rfl⟩
  have e0 : (w.alloc (.cells #[.string ⟨#[43]⟩, .slice (some ⟨gP, 0, none⟩) 2 2, .int .i64 0, .int .i64 0, .string ⟨#[]⟩, .string ⟨#[]⟩, .string ⟨#[]⟩, .int .i64 0, .int .i64 0] 26)).heap[w.heap.size]? = some (.cells #[.string ⟨#[43]⟩, .slice (some ⟨gP, 0, none⟩) 2 2, .int .i64 0, .int .i64 0, .string ⟨#[]⟩, .string ⟨#[]⟩, .string ⟨#[]⟩, .int .i64 0, .int .i64 0] 26 (0, 0)) := by
    have e := heap_alloc_new (w) (.cells #[.string ⟨#[43]⟩, .slice (some ⟨gP, 0, none⟩) 2 2, .int .i64 0, .int .i64 0, .string ⟨#[]⟩, .string ⟨#[]⟩, .string ⟨#[]⟩, .int .i64 0, .int .i64 0] 26)
    exact e
  have e1 : ((w.alloc (.cells #[.string ⟨#[43]⟩, .slice (some ⟨gP, 0, none⟩) 2 2, .int .i64 0, .int .i64 0, .string ⟨#[]⟩, .string ⟨#[]⟩, .string ⟨#[]⟩, .int .i64 0, .int .i64 0] 26)).alloc (.cells #[.slice (some ⟨gC, 0, none⟩) 1 1, .slice none 0 0] 43)).heap[w.heap.size + 1]? = some (.cells #[.slice (some ⟨gC, 0, none⟩) 1 1, .slice none 0 0] 43 (0, 0)) := by
    have e := heap_alloc_new ((w.alloc (.cells #[.string ⟨#[43]⟩, .slice (some ⟨gP, 0, none⟩) 2 2, .int .i64 0, .int .i64 0, .string ⟨#[]⟩, .string ⟨#[]⟩, .string ⟨#[]⟩, .int .i64 0, .int .i64 0] 26))) (.cells #[.slice (some ⟨gC, 0, none⟩) 1 1, .slice none 0 0] 43)
    rw [World.size_alloc] at e
    exact e
  have e2 : (((w.alloc (.cells #[.string ⟨#[43]⟩, .slice (some ⟨gP, 0, none⟩) 2 2, .int .i64 0, .int .i64 0, .string ⟨#[]⟩, .string ⟨#[]⟩, .string ⟨#[]⟩, .int .i64 0, .int .i64 0] 26)).alloc (.cells #[.slice (some ⟨gC, 0, none⟩) 1 1, .slice none 0 0] 43)).alloc (.cells #[.slice (some ⟨gR, 0, none⟩) 1 1] 48)).heap[w.heap.size + 1 + 1]? = some (.cells #[.slice (some ⟨gR, 0, none⟩) 1 1] 48 (0, 0)) := by
    have e := heap_alloc_new (((w.alloc (.cells #[.string ⟨#[43]⟩, .slice (some ⟨gP, 0, none⟩) 2 2, .int .i64 0, .int .i64 0, .string ⟨#[]⟩, .string ⟨#[]⟩, .string ⟨#[]⟩, .int .i64 0, .int .i64 0] 26)).alloc (.cells #[.slice (some ⟨gC, 0, none⟩) 1 1, .slice none 0 0] 43))) (.cells #[.slice (some ⟨gR, 0, none⟩) 1 1] 48)
    rw [World.size_alloc, World.size_alloc] at e
    exact e
  have e3 : ((((w.alloc (.cells #[.string ⟨#[43]⟩, .slice (some ⟨gP, 0, none⟩) 2 2, .int .i64 0, .int .i64 0, .string ⟨#[]⟩, .string ⟨#[]⟩, .string ⟨#[]⟩, .int .i64 0, .int .i64 0] 26)).alloc (.cells #[.slice (some ⟨gC, 0, none⟩) 1 1, .slice none 0 0] 43)).alloc (.cells #[.slice (some ⟨gR, 0, none⟩) 1 1] 48)).alloc (.cells #[.slice none 0 0] 48)).heap[w.heap.size + 1 + 1 + 1]? = some (.cells #[.slice none 0 0] 48 (0, 0)) := by
    have e := heap_alloc_new ((((w.alloc (.cells #[.string ⟨#[43]⟩, .slice (some ⟨gP, 0, none⟩) 2 2, .int .i64 0, .int .i64 0, .string ⟨#[]⟩, .string ⟨#[]⟩, .string ⟨#[]⟩, .int .i64 0, .int .i64 0] 26)).alloc (.cells #[.slice (some ⟨gC, 0, none⟩) 1 1, .slice none 0 0] 43)).alloc (.cells #[.slice (some ⟨gR, 0, none⟩) 1 1] 48))) (.cells #[.slice none 0 0] 48)
    rw [World.size_alloc, World.size_alloc, World.size_alloc] at e
    exact e
  have e4 : (((((w.alloc (.cells #[.string ⟨#[43]⟩, .slice (some ⟨gP, 0, none⟩) 2 2, .int .i64 0, .int .i64 0, .string ⟨#[]⟩, .string ⟨#[]⟩, .string ⟨#[]⟩, .int .i64 0, .int .i64 0] 26)).alloc (.cells #[.slice (some ⟨gC, 0, none⟩) 1 1, .slice none 0 0] 43)).alloc (.cells #[.slice (some ⟨gR, 0, none⟩) 1 1] 48)).alloc (.cells #[.slice none 0 0] 48)).alloc (.cells #[.int .i64 0, .int .i64 0, .string ⟨#[]⟩] 24)).heap[w.heap.size + 1 + 1 + 1 + 1]? = some (.cells #[.int .i64 0, .int .i64 0, .string ⟨#[]⟩] 24 (0, 0)) := by
    have e := heap_alloc_new (((((w.alloc (.cells #[.string ⟨#[43]⟩, .slice (some ⟨gP, 0, none⟩) 2 2, .int .i64 0, .int .i64 0, .string ⟨#[]⟩, .string ⟨#[]⟩, .string ⟨#[]⟩, .int .i64 0, .int .i64 0] 26)).alloc (.cells #[.slice (some ⟨gC, 0, none⟩) 1 1, .slice none 0 0] 43)).alloc (.cells #[.slice (some ⟨gR, 0, none⟩) 1 1] 48)).alloc (.cells #[.slice none 0 0] 48))) (.cells #[.int .i64 0, .int .i64 0, .string ⟨#[]⟩] 24)
    rw [World.size_alloc, World.size_alloc, World.size_alloc, World.size_alloc] at e
    exact e
  have e5 : ((((((w.alloc (.cells #[.string ⟨#[43]⟩, .slice (some ⟨gP, 0, none⟩) 2 2, .int .i64 0, .int .i64 0, .string ⟨#[]⟩, .string ⟨#[]⟩, .string ⟨#[]⟩, .int .i64 0, .int .i64 0] 26)).alloc (.cells #[.slice (some ⟨gC, 0, none⟩) 1 1, .slice none 0 0] 43)).alloc (.cells #[.slice (some ⟨gR, 0, none⟩) 1 1] 48)).alloc (.cells #[.slice none 0 0] 48)).alloc (.cells #[.int .i64 0, .int .i64 0, .string ⟨#[]⟩] 24)).alloc (.cells #[.int .i64 0, .int .i64 0, .string ⟨#[]⟩] 24)).heap[w.heap.size + 1 + 1 + 1 + 1 + 1]? = some (.cells #[.int .i64 0, .int .i64 0, .string ⟨#[]⟩] 24 (0, 0)) := by
    have e := heap_alloc_new ((((((w.alloc (.cells #[.string ⟨#[43]⟩, .slice (some ⟨gP, 0, none⟩) 2 2, .int .i64 0, .int .i64 0, .string ⟨#[]⟩, .string ⟨#[]⟩, .string ⟨#[]⟩, .int .i64 0, .int .i64 0] 26)).alloc (.cells #[.slice (some ⟨gC, 0, none⟩) 1 1, .slice none 0 0] 43)).alloc (.cells #[.slice (some ⟨gR, 0, none⟩) 1 1] 48)).alloc (.cells #[.slice none 0 0] 48)).alloc (.cells #[.int .i64 0, .int .i64 0, .string ⟨#[]⟩] 24))) (.cells #[.int .i64 0, .int .i64 0, .string ⟨#[]⟩] 24)
    rw [World.size_alloc, World.size_alloc, World.size_alloc, World.size_alloc, World.size_alloc] at e
    exact e
  have bW : Below w.heap.size w W := by rw [hW]; exact ((((((Below.refl _ w).alloc (Nat.le_refl _) _).alloc (by simp only [World.size_alloc]; omega) _).alloc (by simp only [World.size_alloc]; omega) _).alloc (by simp only [World.size_alloc]; omega) _).alloc (by simp only [World.size_alloc]; omega) _).alloc (by simp only [World.size_alloc]; omega) _
  have k0' : W.heap[w.heap.size]? = some (.cells #[.string ⟨#[43]⟩, .slice (some ⟨gP, 0, none⟩) 2 2, .int .i64 0, .int .i64 0, .string ⟨#[]⟩, .string ⟨#[]⟩, .string ⟨#[]⟩, .int .i64 0, .int .i64 0] 26 (0, 0)) := by rw [hW]; exact (heap_alloc_at (heap_alloc_at (heap_alloc_at (heap_alloc_at (heap_alloc_at e0)))))
  have k1' : W.heap[w.heap.size + 1]? = some (.cells #[.slice (some ⟨gC, 0, none⟩) 1 1, .slice none 0 0] 43 (0, 0)) := by rw [hW]; exact (heap_alloc_at (heap_alloc_at (heap_alloc_at (heap_alloc_at e1))))
  have k2' : W.heap[w.heap.size + 1 + 1]? = some (.cells #[.slice (some ⟨gR, 0, none⟩) 1 1] 48 (0, 0)) := by rw [hW]; exact (heap_alloc_at (heap_alloc_at (heap_alloc_at e2)))
  have k3' : W.heap[w.heap.size + 1 + 1 + 1]? = some (.cells #[.slice none 0 0] 48 (0, 0)) := by rw [hW]; exact (heap_alloc_at (heap_alloc_at e3))
  have k4' : W.heap[w.heap.size + 1 + 1 + 1 + 1]? = some (.cells #[.int .i64 0, .int .i64 0, .string ⟨#[]⟩] 24 (0, 0)) := by rw [hW]; exact (heap_alloc_at e4)
  have k5' : W.heap[w.heap.size + 1 + 1 + 1 + 1 + 1]? = some (.cells #[.int .i64 0, .int .i64 0, .string ⟨#[]⟩] 24 (0, 0)) := by rw [hW]; exact e5
  have LW : LvW W (w.heap.size) gP gC gR (w.heap.size + 1) := ⟨(cell_of_block k0' 0).trans rfl, (cell_of_block k0' 1).trans rfl, (cell_of_block k0' 2).trans rfl, (cell_of_block k0' 3).trans rfl, (cell_of_block k0' 4).trans rfl, (cell_of_block k0' 5).trans rfl, (cell_of_block k0' 6).trans rfl, (cell_of_block k0' 7).trans rfl, (cell_of_block k0' 8).trans rfl, cellNext bW h.a0, cellNext bW h.a1, cellNext bW h.a2, cellNext bW h.a3, cellNext bW h.a4, cellNext bW h.a5, cellNext bW h.a6, cellNext bW h.a7, cellNext bW h.a8, cellNext bW h.v0, cellNext bW h.v1, cellNext bW h.v2, cellNext bW h.v3, cellNext bW h.v4, cellNext bW h.v5, cellNext bW h.v6, cellNext bW h.v7, cellNext bW h.v8, (cell_of_block k1' 0).trans rfl, (cell_of_block k1' 1).trans rfl, cellNext bW h.k0, cellNext bW h.k1, cellNext bW h.k2, cellNext bW h.r0, cellNext bW h.r1, cellNext bW h.r2⟩
  have AT := mkHid (attempt_P (w.heap.size) gP gC gR (w.heap.size + 1) (w.heap.size + 1 + 1) (w.heap.size + 1 + 1 + 1) (w.heap.size + 1 + 1 + 1 + 1 + 1) W LW ((cell_of_block k2' 0).trans rfl) ((cell_of_block k3' 0).trans rfl) k5')
  have HZ := mkHid k4'
  have BW := mkHid bW
  have HW := mkHid hW
  have sW : W.heap.size = w.heap.size + 1 + 1 + 1 + 1 + 1 + 1 := by rw [hW]; simp
  have SW := mkHid sW
  clear h hW bW sW LW e0 e1 e2 e3 e4 e5 k0' k1' k2' k3' k4' k5'
  go_enter Tryz.func18, Tryz.ntmps18
  go_wp2_with (go_at_call 22; rw [← HW.out]; refine AT.out.mono ?_; rintro e w1 ⟨rfl, st, hv⟩; have ST := mkHid st; have HV := mkHid hv; have HZ1 := mkHid ((st.block _ (by have := SW.out; omega) (by omega)).trans HZ.out); clear st hv)
  obtain ⟨W2, hW2⟩ : ∃ W, W = w1.alloc (.cells #[.int .i64 0, .int .i64 0] 52) := ⟨_, rfl⟩
  have hF : W2.heap[w1.heap.size]? = some (.cells #[.int .i64 0, .int .i64 0] 52 (0, 0)) := by rw [hW2]; exact heap_alloc_new _ _
  have b2 : Below w1.heap.size w1 W2 := by rw [hW2]; exact (Below.refl _ _).alloc (Nat.le_refl _) _
  have hV2 := (b2.block _ (lt_of_some HV.out)).trans HV.out
  have hZ2 := (b2.block _ (lt_of_some HZ1.out)).trans HZ1.out
  rw [← hW2]
  obtain ⟨bf, hbf⟩ : ∃ b, b = w1.heap.size := ⟨_, rfl⟩
  obtain ⟨bv, hbv⟩ : ∃ b, b = w.heap.size + 1 + 1 + 1 + 1 + 1 := ⟨_, rfl⟩
  obtain ⟨bz, hbz⟩ : ∃ b, b = w.heap.size + 1 + 1 + 1 + 1 := ⟨_, rfl⟩
  have n1 : bz ≠ bv := by omega
  have n2 : bz ≠ bf := by have := lt_of_some HZ1.out; omega
  have n3 : bv ≠ bz := by omega
  have n4 : bf ≠ bz := by omega
  have nz : w.heap.size ≤ bz := by omega
  have SB : Hid (Below w.heap.size w W2) := by
    have s1 := ST.out.size
    have s2 := b2.size
    have s3 := BW.out.size
    have s4 := SW.out
    exact mkHid ⟨b2.os.trans (ST.out.os.trans BW.out.os), b2.tape.trans (ST.out.tape.trans BW.out.tape), b2.output.trans (ST.out.output.trans BW.out.output), by omega, fun k hk => (b2.block k (by omega)).trans ((ST.out.block k (by omega) (by omega)).trans (BW.out.block k hk))⟩
  rw [← hbf] at hF
  rw [← hbv] at hV2
  rw [← hbz] at hZ2
  rw [← hbf, ← hbv, ← hbz]
  have y0 : W2.cell? ⟨bv, 0, none⟩ = some (.int .i64 1) := (cell_of_block hV2 0).trans rfl
  have y1 : W2.cell? ⟨bv, 1, none⟩ = some (.int .i64 7) := (cell_of_block hV2 1).trans rfl
  have y2 : W2.cell? ⟨bv, 2, none⟩ = some (.string ⟨#[]⟩) := (cell_of_block hV2 2).trans rfl
  have x1 : W2.cell? ⟨bf, 1, none⟩ = some (.int .i64 0) := (cell_of_block hF 1).trans rfl
  have z0 : W2.cell? ⟨bz, 0, none⟩ = some (.int .i64 0) := (cell_of_block hZ2 0).trans rfl
  have z1 : W2.cell? ⟨bz, 1, none⟩ = some (.int .i64 0) := (cell_of_block hZ2 1).trans rfl
  have z2 : W2.cell? ⟨bz, 2, none⟩ = some (.string ⟨#[]⟩) := (cell_of_block hZ2 2).trans rfl
  have f0 := unfrozen_of_block hZ2 0
  have f1 := unfrozen_of_block hZ2 1
  have f2 := unfrozen_of_block hZ2 2
  clear hW2 hF b2 hV2 hZ2 hbf hbv hbz ST HV HZ1 BW HW SW HZ AT
  go_region
  go_wp2_with fail
  refine bodyPost_ret (v := .tuple #[.agg #[.int .i64 1, .int .i64 7, .string ⟨#[]⟩], .int .i64 0]) (by simp [results, Tryz.results18, go_sem, z0, z1, z2]) rfl ⟨rfl, ?_⟩
  exact (SB.out.trans (((((Off.refl bz bz W2).set (a := ⟨bz, 0, none⟩) (Or.inl rfl) (.int .i64 1)).set (a := ⟨bz, 1, none⟩) (Or.inl rfl) (.int .i64 7)).set (a := ⟨bz, 2, none⟩) (Or.inl rfl) (.string ⟨#[]⟩)).below nz nz)).drew
set_option maxHeartbeats 4000000 in
set_option maxRecDepth 1000000 in
theorem lives_any (w : World) : Calls Tryz.prog 11 #[] w fun e w' => e = .returned (.bool true) ∧ Below w.heap.size w w' := by
  obtain ⟨W, hW⟩ : ∃ W, W = ((((w.alloc (.cells #[.string ⟨#[116]⟩, .string ⟨#[97]⟩, .int .i64 1] 40)).alloc (.cells #[.slice (some ⟨w.heap.size, 0, none⟩) 1 1, .slice none 0 0] 43)).alloc (.cells #[.string ⟨#[99, 111, 108, 117, 109, 110]⟩, .slice none 0 0, .int .i64 0, .int .i64 0, .string ⟨#[]⟩, .string ⟨#[97]⟩, .string ⟨#[]⟩, .int .i64 0, .int .i64 0, .string ⟨#[118, 97, 108, 117, 101]⟩, .slice none 0 0, .int .i64 1, .int .i64 2, .string ⟨#[]⟩, .string ⟨#[]⟩, .string ⟨#[]⟩, .int .i64 0, .int .i64 0] 26)).alloc (.cells #[.string ⟨#[43]⟩, .slice (some ⟨w.heap.size + 1 + 1, 0, none⟩) 2 2, .int .i64 0, .int .i64 0, .string ⟨#[]⟩, .string ⟨#[]⟩, .string ⟨#[]⟩, .int .i64 0, .int .i64 0] 26)).alloc (.cells #[.int .i64 1, .int .i64 5, .string ⟨#[]⟩] 24) := ⟨_, rfl⟩
  have k0' : W.heap[w.heap.size]? = some (.cells #[.string ⟨#[116]⟩, .string ⟨#[97]⟩, .int .i64 1] 40 (0, 0)) := by rw [hW]; exact (heap_alloc_at (heap_alloc_at (heap_alloc_at (heap_alloc_at (by have e := heap_alloc_new (w) (.cells #[.string ⟨#[116]⟩, .string ⟨#[97]⟩, .int .i64 1] 40); exact e)))))
  have k1' : W.heap[w.heap.size + 1]? = some (.cells #[.slice (some ⟨w.heap.size, 0, none⟩) 1 1, .slice none 0 0] 43 (0, 0)) := by rw [hW]; exact (heap_alloc_at (heap_alloc_at (heap_alloc_at (by have e := heap_alloc_new ((w.alloc (.cells #[.string ⟨#[116]⟩, .string ⟨#[97]⟩, .int .i64 1] 40))) (.cells #[.slice (some ⟨w.heap.size, 0, none⟩) 1 1, .slice none 0 0] 43); rw [World.size_alloc] at e; exact e))))
  have k2' : W.heap[w.heap.size + 1 + 1]? = some (.cells #[.string ⟨#[99, 111, 108, 117, 109, 110]⟩, .slice none 0 0, .int .i64 0, .int .i64 0, .string ⟨#[]⟩, .string ⟨#[97]⟩, .string ⟨#[]⟩, .int .i64 0, .int .i64 0, .string ⟨#[118, 97, 108, 117, 101]⟩, .slice none 0 0, .int .i64 1, .int .i64 2, .string ⟨#[]⟩, .string ⟨#[]⟩, .string ⟨#[]⟩, .int .i64 0, .int .i64 0] 26 (0, 0)) := by rw [hW]; exact (heap_alloc_at (heap_alloc_at (by have e := heap_alloc_new (((w.alloc (.cells #[.string ⟨#[116]⟩, .string ⟨#[97]⟩, .int .i64 1] 40)).alloc (.cells #[.slice (some ⟨w.heap.size, 0, none⟩) 1 1, .slice none 0 0] 43))) (.cells #[.string ⟨#[99, 111, 108, 117, 109, 110]⟩, .slice none 0 0, .int .i64 0, .int .i64 0, .string ⟨#[]⟩, .string ⟨#[97]⟩, .string ⟨#[]⟩, .int .i64 0, .int .i64 0, .string ⟨#[118, 97, 108, 117, 101]⟩, .slice none 0 0, .int .i64 1, .int .i64 2, .string ⟨#[]⟩, .string ⟨#[]⟩, .string ⟨#[]⟩, .int .i64 0, .int .i64 0] 26); rw [World.size_alloc, World.size_alloc] at e; exact e)))
  have k3' : W.heap[w.heap.size + 1 + 1 + 1]? = some (.cells #[.string ⟨#[43]⟩, .slice (some ⟨w.heap.size + 1 + 1, 0, none⟩) 2 2, .int .i64 0, .int .i64 0, .string ⟨#[]⟩, .string ⟨#[]⟩, .string ⟨#[]⟩, .int .i64 0, .int .i64 0] 26 (0, 0)) := by rw [hW]; exact (heap_alloc_at (by have e := heap_alloc_new ((((w.alloc (.cells #[.string ⟨#[116]⟩, .string ⟨#[97]⟩, .int .i64 1] 40)).alloc (.cells #[.slice (some ⟨w.heap.size, 0, none⟩) 1 1, .slice none 0 0] 43)).alloc (.cells #[.string ⟨#[99, 111, 108, 117, 109, 110]⟩, .slice none 0 0, .int .i64 0, .int .i64 0, .string ⟨#[]⟩, .string ⟨#[97]⟩, .string ⟨#[]⟩, .int .i64 0, .int .i64 0, .string ⟨#[118, 97, 108, 117, 101]⟩, .slice none 0 0, .int .i64 1, .int .i64 2, .string ⟨#[]⟩, .string ⟨#[]⟩, .string ⟨#[]⟩, .int .i64 0, .int .i64 0] 26))) (.cells #[.string ⟨#[43]⟩, .slice (some ⟨w.heap.size + 1 + 1, 0, none⟩) 2 2, .int .i64 0, .int .i64 0, .string ⟨#[]⟩, .string ⟨#[]⟩, .string ⟨#[]⟩, .int .i64 0, .int .i64 0] 26); rw [World.size_alloc, World.size_alloc, World.size_alloc] at e; exact e))
  have k4' : W.heap[w.heap.size + 1 + 1 + 1 + 1]? = some (.cells #[.int .i64 1, .int .i64 5, .string ⟨#[]⟩] 24 (0, 0)) := by rw [hW]; exact (by have e := heap_alloc_new (((((w.alloc (.cells #[.string ⟨#[116]⟩, .string ⟨#[97]⟩, .int .i64 1] 40)).alloc (.cells #[.slice (some ⟨w.heap.size, 0, none⟩) 1 1, .slice none 0 0] 43)).alloc (.cells #[.string ⟨#[99, 111, 108, 117, 109, 110]⟩, .slice none 0 0, .int .i64 0, .int .i64 0, .string ⟨#[]⟩, .string ⟨#[97]⟩, .string ⟨#[]⟩, .int .i64 0, .int .i64 0, .string ⟨#[118, 97, 108, 117, 101]⟩, .slice none 0 0, .int .i64 1, .int .i64 2, .string ⟨#[]⟩, .string ⟨#[]⟩, .string ⟨#[]⟩, .int .i64 0, .int .i64 0] 26)).alloc (.cells #[.string ⟨#[43]⟩, .slice (some ⟨w.heap.size + 1 + 1, 0, none⟩) 2 2, .int .i64 0, .int .i64 0, .string ⟨#[]⟩, .string ⟨#[]⟩, .string ⟨#[]⟩, .int .i64 0, .int .i64 0] 26))) (.cells #[.int .i64 1, .int .i64 5, .string ⟨#[]⟩] 24); rw [World.size_alloc, World.size_alloc, World.size_alloc, World.size_alloc] at e; exact e)
  have bW : Below w.heap.size w W := by rw [hW]; exact (((((Below.refl _ w).alloc (Nat.le_refl _) _).alloc (by simp only [World.size_alloc]; omega) _).alloc (by simp only [World.size_alloc]; omega) _).alloc (by simp only [World.size_alloc]; omega) _).alloc (by simp only [World.size_alloc]; omega) _
  have AW : ArW W (w.heap.size + 1 + 1) (w.heap.size) (w.heap.size + 1 + 1 + 1 + 1) := ⟨(cell_of_block k2' 0).trans rfl, (cell_of_block k2' 1).trans rfl, (cell_of_block k2' 2).trans rfl, (cell_of_block k2' 3).trans rfl, (cell_of_block k2' 4).trans rfl, (cell_of_block k2' 5).trans rfl, (cell_of_block k2' 6).trans rfl, (cell_of_block k2' 7).trans rfl, (cell_of_block k2' 8).trans rfl, (cell_of_block k2' 9).trans rfl, (cell_of_block k2' 10).trans rfl, (cell_of_block k2' 11).trans rfl, (cell_of_block k2' 12).trans rfl, (cell_of_block k2' 13).trans rfl, (cell_of_block k2' 14).trans rfl, (cell_of_block k2' 15).trans rfl, (cell_of_block k2' 16).trans rfl, (cell_of_block k2' 17).trans rfl, (cell_of_block k0' 0).trans rfl, (cell_of_block k0' 1).trans rfl, (cell_of_block k0' 2).trans rfl, (cell_of_block k4' 0).trans rfl, (cell_of_block k4' 1).trans rfl, (cell_of_block k4' 2).trans rfl⟩
  have EV := mkHid (Eval_P _ _ _ W AW)
  have BW := mkHid bW
  have HW := mkHid hW
  clear AW bW hW k0' k1' k2' k3' k4'
  go_enter Tryz.func11, Tryz.ntmps11
  go_wp2_with (go_at_call 18; rw [← HW.out]; refine EV.out.mono ?_; rintro e w1 ⟨rfl, hb1⟩; have B1 := mkHid hb1; clear hb1)
  go_ret
  exact ⟨rfl, (BW.out.trans (B1.out.mono BW.out.size)).alloc (by have := BW.out.size; have := B1.out.size; omega) _⟩
end Go.Proofs.YtokppkinhlcafaaGreatDoor
