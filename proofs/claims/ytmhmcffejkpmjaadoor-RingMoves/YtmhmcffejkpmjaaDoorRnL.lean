/-
  With more partitions values only go to the new ones, and with fewer only those of the ones that are gone go: the law RingMoves, walked whole.
-/
import Derived.Test.YtmhmcffejkpmjaaDoorRnG
namespace Go.Proofs.YtmhmcffejkpmjaaDoor
open Go.RowKit Go.Shelf Go.Joins
set_option maxRecDepth 1000000

theorem bst_more (s n : Nat) : ∀ k, bst s (n + k) = bst s n ∨ n < (bst s (n + k)).1
  | 0 => Or.inl rfl
  | k + 1 => by
    by_cases h : (bst s (n + k)).2 < byN s (n + k + 1)
    · right
      rw [show n + (k + 1) = n + k + 1 from rfl, bst_yes h]
      show n < n + k + 1
      omega
    · rw [show n + (k + 1) = n + k + 1 from rfl, bst_no h]
      exact bst_more s n k
theorem amV_more {a b : Nat} (x : Va) (ha : 0 < a) (h : a ≤ b) : amV b x = amV a x ∨ a ≤ amV b x := by
  unfold amV amN
  split
  · exact Or.inl rfl
  · obtain ⟨k, rfl⟩ : ∃ k, b = a + k := ⟨b - a, by omega⟩
    rcases bst_more (sdV x) (a - 1) k with e | e
    · left; rw [show a + k - 1 = a - 1 + k by omega, e]
    · right; rw [show a + k - 1 = a - 1 + k by omega]; omega
theorem mvF_mem (a b : Nat) : ∀ (l : List Va) (s : Nat) (m : Nat × Nat × Nat), m ∈ mvF a b s l → s ≤ m.1 ∧ m.1 < s + l.length ∧ ∃ x, m.2.1 = amV a x ∧ m.2.2 = amV b x ∧ ¬ amV a x = amV b x
  | [], s, m, h => by cases h
  | x :: l, s, m, h => by
    simp only [mvF, List.mem_append] at h
    rcases h with h | h
    · split at h
      · cases h
      · rename_i hne
        have hm : m = (s, amV a x, amV b x) := by simpa using h
        subst hm
        exact ⟨Nat.le_refl _, by simp, x, rfl, rfl, hne⟩
    · obtain ⟨h1, h2, h3⟩ := mvF_mem a b l (s + 1) m h
      exact ⟨by omega, by rw [List.length_cons]; omega, h3⟩
theorem mvF_sorted (a b : Nat) : ∀ (l : List Va) (s : Nat), (mvF a b s l).Pairwise fun m m' => m.1 < m'.1
  | [], s => List.Pairwise.nil
  | x :: l, s => by
    simp only [mvF]
    refine List.pairwise_append.2 ⟨?_, mvF_sorted a b l (s + 1), fun m hm m' hm' => ?_⟩
    · split
      · exact List.Pairwise.nil
      · exact List.pairwise_singleton _ _
    · split at hm
      · cases hm
      · have e : m = (s, amV a x, amV b x) := by simpa using hm
        have := (mvF_mem a b l (s + 1) m' hm').1
        rw [e]; show s < m'.1; omega
theorem mvF_next {a b : Nat} {l : List Va} {k : Nat} {m m' : Nat × Nat × Nat} (h1 : (mvF a b 0 l)[k]? = some m) (h2 : (mvF a b 0 l)[k + 1]? = some m') : m.1 < m'.1 := by
  obtain ⟨q1, e1⟩ := List.getElem?_eq_some_iff.1 h1
  obtain ⟨q2, e2⟩ := List.getElem?_eq_some_iff.1 h2
  have := List.pairwise_iff_getElem.1 (mvF_sorted a b l 0) k (k + 1) q1 q2 (Nat.lt_succ_self _)
  rw [e1, e2] at this; exact this

theorem take_at {P : Program} {ops : Array Oper} {Q : Exit → Act → World → Prop} {md : Region.Mode} {S : World → Prop} {i d : Nat} {oi : Oper} {v : Value} {fuel : Nat} {listed : Array Bool} {ts : Array Value} {df : List Deferred} {w : World} (hi : ops[i]? = some oi) (hd : oi.dst = some d)
    (hs : Region.noSelect ops = true) (hf : Region.free md ops listed i = true) (hr : (Region.ready md ops listed).contains i = true)
    (hQ : ∀ c a w, Q (.panic c) (a.put oi.dst v) w → Q (.panic c) a w) (hy : YieldsIf P ops S oi v ⟨ts, df⟩) (hS : S w)
    (h : wpAnyH P md ops Q S fuel (listed.setIfInBounds i true) ⟨ts.setIfInBounds d v, df⟩ w) : wpAnyH P md ops Q S (fuel + 1) listed ⟨ts, df⟩ w :=
  wpAnyH_take hi hs hf hr hQ hy hS (by rw [hd]; exact h)

set_option maxHeartbeats 8000000 in
theorem RingMoves_any (p : Option Addr) (c : Nat) (la : List Va) (f t : Nat) (hf : f < 256) (ht : t < 256) (w : World) (hp : rowIn w p la) (hl : la.length ≤ 9223372036854775807) (fa : ∀ v ∈ la, fit v.n) (sa : ∀ v ∈ la, v.s.size ≤ 9223372036854775807) (hT : Tabs w) :
    Calls Tryd.prog 4 #[.slice p la.length c, .int .u8 (f : Int), .int .u8 (t : Int)] w fun e w' => e = .returned (.bool true) ∧ Below w.heap.size w w' := by
  have LV := mkH (lives_any w hT)
  have MV : Hid (∀ w1, Below w.heap.size w w1 → Calls Tryd.prog 12 #[.slice p la.length c, .int .i64 (1 + (f : Int) % 64), .int .i64 (1 + (t : Int) % 64)] w1 fun e w' => MvQ w1 la (1 + f % 64) (1 + t % 64) e w') := fun w1 hb => by
    have := Moves_any p c la (1 + f % 64) (1 + t % 64) (by omega) (by omega) w1 (hp.below hb) hl fa sa (hT.below hb)
    rw [show ((1 + f % 64 : Nat) : Int) = 1 + (f : Int) % 64 by omega, show ((1 + t % 64 : Nat) : Int) = 1 + (t : Int) % 64 by omega] at this
    exact this
  have hA : Hid (0 < 1 + f % 64 ∧ ((1 + f % 64 : Nat) : Int) = 1 + (f : Int) % 64) := ⟨by omega, by omega⟩
  have hB : Hid (0 < 1 + t % 64 ∧ ((1 + t % 64 : Nat) : Int) = 1 + (t : Int) % 64) := ⟨by omega, by omega⟩
  clear hp fa sa hT
  go_enter Tryd.func4, Tryd.ntmps4
  go_wp2_with fail
  refine LV.out.mono ?_
  rintro e w1 ⟨rfl, hb1⟩
  have HB1 := mkH hb1
  clear hb1 LV
  go_wp2_with fail
  refine (MV.out _ HB1.out).mono ?_
  rintro e w2 ⟨hb2, hor⟩
  have HB2 := mkH (HB1.out.trans (hb2.mono HB1.out.size))
  clear hb2 MV HB1
  generalize 1 + f % 64 = a at *
  generalize 1 + t % 64 = b at *
  have haI : (a : Int) = 1 + (f : Int) % 64 := hA.out.2
  have hbI : (b : Int) = 1 + (t : Int) % 64 := hB.out.2
  generalize 1 + (f : Int) % 64 = AI at *
  generalize 1 + (t : Int) % 64 = BI at *
  rcases hor with ⟨he, rfl⟩ | ⟨he, v, rfl, _, hr⟩
  · have h1 : (wE la != 0) = true := by rw [bne_iff_ne]; exact he
    clear he hA hB
    generalize wE la = C at *
    go_wp2_with fail
    go_ret
    exact ⟨rfl, HB2.out⟩
  · have HR := mkH hr
    have hll := mkH (wE_len he)
    have hml := mkH (Nat.le_trans (mvF_len a b la 0) (wE_len he))
    obtain ⟨p', c', rfl, _, _, hpn, _⟩ := hr.form
    clear he hr
    obtain ⟨L, hL⟩ : ∃ L, L = mvF a b 0 la := ⟨_, rfl⟩
    rw [← hL] at HR hml ⊢
    have HL := mkH hL
    clear hL hpn
    have hmi : (L.length : Int) ≤ 65536 := by have := hml.out; omega
    go_wp2_with fail
    go_loopw [11] (fun si wr => ∃ k : Nat, si = .int .i64 k ∧ k ≤ L.length ∧ Hid (Below w2.heap.size w2 wr)) (fun si _ => L.length - (intOf si).toNat)
    case atStart => exact ⟨0, rfl, Nat.zero_le _, Below.refl _ _⟩
    case round =>
      obtain ⟨k, rfl, hk, hbr⟩ := hrel
      by_cases hlt : k < L.length
      · obtain ⟨m, hmk⟩ : ∃ m, L[k]? = some m := ⟨L[k], List.getElem?_eq_getElem hlt⟩
        have hmem : m ∈ mvF a b 0 la := by rw [← HL.out]; exact List.mem_of_getElem? hmk
        obtain ⟨_, q1, x, q2, q3, q4⟩ := mvF_mem a b la 0 m hmem
        have HS := mkH (HR.out.kept (chgBl hbr.out) (fun g hg => by have := (HR.out.kd g hg).2; omega))
        rcases p' with _ | ad
        · exfalso
          have := HR.out.2
          rcases this with ⟨h, h0⟩ | ⟨g, off, cap, cur, h, _⟩
          · omega
          · cases h
        obtain ⟨g, off, rfl, hcs⟩ := HS.out.cell
        have HC := mkH hcs
        have hgl := (HS.out.kd g rfl).2
        have k0 := hcs (k * 3 + 0) _ ((fl_get mvC_len L k m 0 hmk (by decide)).trans rfl)
        have k1 := hcs (k * 3 + 1) _ ((fl_get mvC_len L k m 1 hmk (by decide)).trans rfl)
        have k2 := hcs (k * 3 + 2) _ ((fl_get mvC_len L k m 2 hmk (by decide)).trans rfl)
        rw [Nat.add_zero] at k0
        rw [← Nat.add_assoc] at k1 k2
        clear hcs
        have r1 : ¬ (m.1 : Int) < 0 := by omega
        have r2 : ¬ (la.length : Int) ≤ (m.1 : Int) := by omega
        have r3 : ¬ (m.2.1 : Int) < 0 := by omega
        have r4 : ¬ AI ≤ (m.2.1 : Int) := by rw [← haI, q2]; have := amV_lt x hA.out.1; omega
        have r5 : ¬ (m.2.2 : Int) < 0 := by omega
        have r6 : ¬ BI ≤ (m.2.2 : Int) := by rw [← hbI, q3]; have := amV_lt x hB.out.1; omega
        have r7 : (AI < BI ∧ ¬ BI < AI ∧ ¬ AI = BI ∧ ¬ (m.2.2 : Int) < AI) ∨ (BI < AI ∧ ¬ AI < BI ∧ ¬ AI = BI ∧ ¬ (m.2.1 : Int) < BI) := by
          rw [← haI, ← hbI, q2, q3]
          rcases Nat.lt_trichotomy a b with h | h | h
          · left
            rcases amV_more x hA.out.1 (Nat.le_of_lt h) with e | e
            · exact absurd e.symm q4
            · exact ⟨by omega, by omega, by omega, by omega⟩
          · exact absurd (by rw [h]) q4
          · right
            rcases amV_more x hB.out.1 (Nat.le_of_lt h) with e | e
            · exact absurd e q4
            · exact ⟨by omega, by omega, by omega, by omega⟩
        have hpv : Hid (∀ j m', k = j + 1 → L[j]? = some m' → ¬ (m.1 : Int) ≤ (m'.1 : Int)) := fun j m' hj hm' => by
          have e1 := HL.out ▸ hm'
          have e2 := HL.out ▸ hmk
          rw [hj] at e2
          have := mvF_next e1 e2
          omega
        have HS2 : Hid (∀ o, Below w2.heap.size w2 (wr.alloc o)) := fun o => hbr.out.alloc hbr.out.size o
        clear q1 q2 q3 q4 hmem HR HS hA hB haI hbI hbr
        generalize (m.1 : Int) = I at *
        generalize (m.2.1 : Int) = F at *
        generalize (m.2.2 : Int) = T at *
        rcases k with _ | j
        · clear hpv HC
          simp only [Nat.zero_mul, Nat.add_zero] at k0 k1 k2
          go_wp2_with fail
          obtain ⟨w3, hw3⟩ : ∃ w3, w3 = wr.alloc (.cells #[.int .i64 I, .int .i64 F, .int .i64 T] 38) := ⟨_, rfl⟩
          have hbx := HS2.out (.cells #[.int .i64 I, .int .i64 F, .int .i64 T] 38)
          have x0 : w3.cell? ⟨wr.heap.size, 0, none⟩ = some (.int .i64 I) := by rw [hw3]; go_simp
          have x1 : w3.cell? ⟨wr.heap.size, 1, none⟩ = some (.int .i64 F) := by rw [hw3]; go_simp
          have x2 : w3.cell? ⟨wr.heap.size, 2, none⟩ = some (.int .i64 T) := by rw [hw3]; go_simp
          rw [← hw3] at hbx ⊢
          have HX := mkH hbx
          clear hw3 hbx k0 k1 k2 HS2
          refine wp_region_noPanic ?_
          refine wp_region_held_drew (S := fun w' : World => w'.cell? ⟨wr.heap.size, 0, none⟩ = some (.int .i64 I) ∧ w'.cell? ⟨wr.heap.size, 1, none⟩ = some (.int .i64 F) ∧ w'.cell? ⟨wr.heap.size, 2, none⟩ = some (.int .i64 T)) (by kernel_rfl) ⟨x0, x1, x2⟩ (fun hH => ?_)
          refine take_at (i := 0) (v := .pointer (some ⟨wr.heap.size, 0, none⟩)) rfl rfl (by kernel_rfl) (by kernel_rfl) (by kernel_rfl) (fun _ _ _ h => h) (Or.inl ⟨by rfl, ?_⟩) hH ?_
          · intro w5 hSw; obtain ⟨s0, s1, s2⟩ := hSw; go_simp
          simp only [List.setIfInBounds_toArray, List.set_cons_zero, List.set_cons_succ]
          refine take_at (i := 1) (v := .int .i64 (I)) rfl rfl (by kernel_rfl) (by kernel_rfl) (by kernel_rfl) (fun _ _ _ h => h) (Or.inl ⟨by rfl, ?_⟩) hH ?_
          · intro w5 hSw; obtain ⟨s0, s1, s2⟩ := hSw; go_simp
          simp only [List.setIfInBounds_toArray, List.set_cons_zero, List.set_cons_succ]
          refine take_at (i := 2) (v := .bool false) rfl rfl (by kernel_rfl) (by kernel_rfl) (by kernel_rfl) (fun _ _ _ h => h) (Or.inl ⟨by rfl, ?_⟩) hH ?_
          · intro w5 hSw; obtain ⟨s0, s1, s2⟩ := hSw; go_simp
          simp only [List.setIfInBounds_toArray, List.set_cons_zero, List.set_cons_succ]
          refine take_at (i := 3) (v := .bool false) rfl rfl (by kernel_rfl) (by kernel_rfl) (by kernel_rfl) (fun _ _ _ h => h) (Or.inl ⟨by rfl, ?_⟩) hH ?_
          · intro w5 hSw; obtain ⟨s0, s1, s2⟩ := hSw; go_simp
          simp only [List.setIfInBounds_toArray, List.set_cons_zero, List.set_cons_succ]
          refine take_at (i := 4) (v := .pointer (some ⟨wr.heap.size, 0, none⟩)) rfl rfl (by kernel_rfl) (by kernel_rfl) (by kernel_rfl) (fun _ _ _ h => h) (Or.inl ⟨by rfl, ?_⟩) hH ?_
          · intro w5 hSw; obtain ⟨s0, s1, s2⟩ := hSw; go_simp
          simp only [List.setIfInBounds_toArray, List.set_cons_zero, List.set_cons_succ]
          refine take_at (i := 5) (v := .int .i64 (I)) rfl rfl (by kernel_rfl) (by kernel_rfl) (by kernel_rfl) (fun _ _ _ h => h) (Or.inl ⟨by rfl, ?_⟩) hH ?_
          · intro w5 hSw; obtain ⟨s0, s1, s2⟩ := hSw; go_simp
          simp only [List.setIfInBounds_toArray, List.set_cons_zero, List.set_cons_succ]
          refine take_at (i := 6) (v := .slice p la.length c) rfl rfl (by kernel_rfl) (by kernel_rfl) (by kernel_rfl) (fun _ _ _ h => h) (Or.inl ⟨by rfl, ?_⟩) hH ?_
          · intro w5 hSw; obtain ⟨s0, s1, s2⟩ := hSw; go_simp
          simp only [List.setIfInBounds_toArray, List.set_cons_zero, List.set_cons_succ]
          refine take_at (i := 7) (v := .int .i64 ((la.length : Int))) rfl rfl (by kernel_rfl) (by kernel_rfl) (by kernel_rfl) (fun _ _ _ h => h) (Or.inl ⟨by rfl, ?_⟩) hH ?_
          · intro w5 hSw; obtain ⟨s0, s1, s2⟩ := hSw; go_simp
          simp only [List.setIfInBounds_toArray, List.set_cons_zero, List.set_cons_succ]
          refine take_at (i := 8) (v := .bool false) rfl rfl (by kernel_rfl) (by kernel_rfl) (by kernel_rfl) (fun _ _ _ h => h) (Or.inl ⟨by rfl, ?_⟩) hH ?_
          · intro w5 hSw; obtain ⟨s0, s1, s2⟩ := hSw; go_simp
          simp only [List.setIfInBounds_toArray, List.set_cons_zero, List.set_cons_succ]
          refine take_at (i := 9) (v := .bool false) rfl rfl (by kernel_rfl) (by kernel_rfl) (by kernel_rfl) (fun _ _ _ h => h) (Or.inl ⟨by rfl, ?_⟩) hH ?_
          · intro w5 hSw; obtain ⟨s0, s1, s2⟩ := hSw; go_simp
          simp only [List.setIfInBounds_toArray, List.set_cons_zero, List.set_cons_succ]
          refine take_at (i := 10) (v := .bool false) rfl rfl (by kernel_rfl) (by kernel_rfl) (by kernel_rfl) (fun _ _ _ h => h) (Or.inl ⟨by rfl, ?_⟩) hH ?_
          · intro w5 hSw; obtain ⟨s0, s1, s2⟩ := hSw; go_simp
          simp only [List.setIfInBounds_toArray, List.set_cons_zero, List.set_cons_succ]
          refine take_at (i := 11) (v := .pointer (some ⟨wr.heap.size, 1, none⟩)) rfl rfl (by kernel_rfl) (by kernel_rfl) (by kernel_rfl) (fun _ _ _ h => h) (Or.inl ⟨by rfl, ?_⟩) hH ?_
          · intro w5 hSw; obtain ⟨s0, s1, s2⟩ := hSw; go_simp
          simp only [List.setIfInBounds_toArray, List.set_cons_zero, List.set_cons_succ]
          refine take_at (i := 12) (v := .int .i64 (F)) rfl rfl (by kernel_rfl) (by kernel_rfl) (by kernel_rfl) (fun _ _ _ h => h) (Or.inl ⟨by rfl, ?_⟩) hH ?_
          · intro w5 hSw; obtain ⟨s0, s1, s2⟩ := hSw; go_simp
          simp only [List.setIfInBounds_toArray, List.set_cons_zero, List.set_cons_succ]
          refine take_at (i := 13) (v := .bool false) rfl rfl (by kernel_rfl) (by kernel_rfl) (by kernel_rfl) (fun _ _ _ h => h) (Or.inl ⟨by rfl, ?_⟩) hH ?_
          · intro w5 hSw; obtain ⟨s0, s1, s2⟩ := hSw; go_simp
          simp only [List.setIfInBounds_toArray, List.set_cons_zero, List.set_cons_succ]
          refine take_at (i := 14) (v := .bool false) rfl rfl (by kernel_rfl) (by kernel_rfl) (by kernel_rfl) (fun _ _ _ h => h) (Or.inl ⟨by rfl, ?_⟩) hH ?_
          · intro w5 hSw; obtain ⟨s0, s1, s2⟩ := hSw; go_simp
          simp only [List.setIfInBounds_toArray, List.set_cons_zero, List.set_cons_succ]
          refine take_at (i := 15) (v := .bool false) rfl rfl (by kernel_rfl) (by kernel_rfl) (by kernel_rfl) (fun _ _ _ h => h) (Or.inl ⟨by rfl, ?_⟩) hH ?_
          · intro w5 hSw; obtain ⟨s0, s1, s2⟩ := hSw; go_simp
          simp only [List.setIfInBounds_toArray, List.set_cons_zero, List.set_cons_succ]
          refine take_at (i := 16) (v := .pointer (some ⟨wr.heap.size, 1, none⟩)) rfl rfl (by kernel_rfl) (by kernel_rfl) (by kernel_rfl) (fun _ _ _ h => h) (Or.inl ⟨by rfl, ?_⟩) hH ?_
          · intro w5 hSw; obtain ⟨s0, s1, s2⟩ := hSw; go_simp
          simp only [List.setIfInBounds_toArray, List.set_cons_zero, List.set_cons_succ]
          refine take_at (i := 17) (v := .int .i64 (F)) rfl rfl (by kernel_rfl) (by kernel_rfl) (by kernel_rfl) (fun _ _ _ h => h) (Or.inl ⟨by rfl, ?_⟩) hH ?_
          · intro w5 hSw; obtain ⟨s0, s1, s2⟩ := hSw; go_simp
          simp only [List.setIfInBounds_toArray, List.set_cons_zero, List.set_cons_succ]
          refine take_at (i := 18) (v := .int .i64 (AI)) rfl rfl (by kernel_rfl) (by kernel_rfl) (by kernel_rfl) (fun _ _ _ h => h) (Or.inl ⟨by rfl, ?_⟩) hH ?_
          · intro w5 hSw; obtain ⟨s0, s1, s2⟩ := hSw; go_simp
          simp only [List.setIfInBounds_toArray, List.set_cons_zero, List.set_cons_succ]
          refine take_at (i := 19) (v := .bool false) rfl rfl (by kernel_rfl) (by kernel_rfl) (by kernel_rfl) (fun _ _ _ h => h) (Or.inl ⟨by rfl, ?_⟩) hH ?_
          · intro w5 hSw; obtain ⟨s0, s1, s2⟩ := hSw; go_simp
          simp only [List.setIfInBounds_toArray, List.set_cons_zero, List.set_cons_succ]
          refine take_at (i := 20) (v := .bool false) rfl rfl (by kernel_rfl) (by kernel_rfl) (by kernel_rfl) (fun _ _ _ h => h) (Or.inl ⟨by rfl, ?_⟩) hH ?_
          · intro w5 hSw; obtain ⟨s0, s1, s2⟩ := hSw; go_simp
          simp only [List.setIfInBounds_toArray, List.set_cons_zero, List.set_cons_succ]
          refine take_at (i := 21) (v := .bool false) rfl rfl (by kernel_rfl) (by kernel_rfl) (by kernel_rfl) (fun _ _ _ h => h) (Or.inl ⟨by rfl, ?_⟩) hH ?_
          · intro w5 hSw; obtain ⟨s0, s1, s2⟩ := hSw; go_simp
          simp only [List.setIfInBounds_toArray, List.set_cons_zero, List.set_cons_succ]
          refine take_at (i := 22) (v := .pointer (some ⟨wr.heap.size, 2, none⟩)) rfl rfl (by kernel_rfl) (by kernel_rfl) (by kernel_rfl) (fun _ _ _ h => h) (Or.inl ⟨by rfl, ?_⟩) hH ?_
          · intro w5 hSw; obtain ⟨s0, s1, s2⟩ := hSw; go_simp
          simp only [List.setIfInBounds_toArray, List.set_cons_zero, List.set_cons_succ]
          refine take_at (i := 23) (v := .int .i64 (T)) rfl rfl (by kernel_rfl) (by kernel_rfl) (by kernel_rfl) (fun _ _ _ h => h) (Or.inl ⟨by rfl, ?_⟩) hH ?_
          · intro w5 hSw; obtain ⟨s0, s1, s2⟩ := hSw; go_simp
          simp only [List.setIfInBounds_toArray, List.set_cons_zero, List.set_cons_succ]
          refine take_at (i := 24) (v := .bool false) rfl rfl (by kernel_rfl) (by kernel_rfl) (by kernel_rfl) (fun _ _ _ h => h) (Or.inl ⟨by rfl, ?_⟩) hH ?_
          · intro w5 hSw; obtain ⟨s0, s1, s2⟩ := hSw; go_simp
          simp only [List.setIfInBounds_toArray, List.set_cons_zero, List.set_cons_succ]
          refine take_at (i := 25) (v := .bool false) rfl rfl (by kernel_rfl) (by kernel_rfl) (by kernel_rfl) (fun _ _ _ h => h) (Or.inl ⟨by rfl, ?_⟩) hH ?_
          · intro w5 hSw; obtain ⟨s0, s1, s2⟩ := hSw; go_simp
          simp only [List.setIfInBounds_toArray, List.set_cons_zero, List.set_cons_succ]
          refine take_at (i := 26) (v := .bool false) rfl rfl (by kernel_rfl) (by kernel_rfl) (by kernel_rfl) (fun _ _ _ h => h) (Or.inl ⟨by rfl, ?_⟩) hH ?_
          · intro w5 hSw; obtain ⟨s0, s1, s2⟩ := hSw; go_simp
          simp only [List.setIfInBounds_toArray, List.set_cons_zero, List.set_cons_succ]
          refine take_at (i := 27) (v := .pointer (some ⟨wr.heap.size, 2, none⟩)) rfl rfl (by kernel_rfl) (by kernel_rfl) (by kernel_rfl) (fun _ _ _ h => h) (Or.inl ⟨by rfl, ?_⟩) hH ?_
          · intro w5 hSw; obtain ⟨s0, s1, s2⟩ := hSw; go_simp
          simp only [List.setIfInBounds_toArray, List.set_cons_zero, List.set_cons_succ]
          refine take_at (i := 28) (v := .int .i64 (T)) rfl rfl (by kernel_rfl) (by kernel_rfl) (by kernel_rfl) (fun _ _ _ h => h) (Or.inl ⟨by rfl, ?_⟩) hH ?_
          · intro w5 hSw; obtain ⟨s0, s1, s2⟩ := hSw; go_simp
          simp only [List.setIfInBounds_toArray, List.set_cons_zero, List.set_cons_succ]
          refine take_at (i := 29) (v := .int .i64 (BI)) rfl rfl (by kernel_rfl) (by kernel_rfl) (by kernel_rfl) (fun _ _ _ h => h) (Or.inl ⟨by rfl, ?_⟩) hH ?_
          · intro w5 hSw; obtain ⟨s0, s1, s2⟩ := hSw; go_simp
          simp only [List.setIfInBounds_toArray, List.set_cons_zero, List.set_cons_succ]
          refine take_at (i := 30) (v := .bool false) rfl rfl (by kernel_rfl) (by kernel_rfl) (by kernel_rfl) (fun _ _ _ h => h) (Or.inl ⟨by rfl, ?_⟩) hH ?_
          · intro w5 hSw; obtain ⟨s0, s1, s2⟩ := hSw; go_simp
          simp only [List.setIfInBounds_toArray, List.set_cons_zero, List.set_cons_succ]
          refine take_at (i := 31) (v := .bool false) rfl rfl (by kernel_rfl) (by kernel_rfl) (by kernel_rfl) (fun _ _ _ h => h) (Or.inl ⟨by rfl, ?_⟩) hH ?_
          · intro w5 hSw; obtain ⟨s0, s1, s2⟩ := hSw; go_simp
          simp only [List.setIfInBounds_toArray, List.set_cons_zero, List.set_cons_succ]
          refine take_at (i := 32) (v := .bool false) rfl rfl (by kernel_rfl) (by kernel_rfl) (by kernel_rfl) (fun _ _ _ h => h) (Or.inl ⟨by rfl, ?_⟩) hH ?_
          · intro w5 hSw; obtain ⟨s0, s1, s2⟩ := hSw; go_simp
          simp only [List.setIfInBounds_toArray, List.set_cons_zero, List.set_cons_succ]
          refine take_at (i := 33) (v := .int .i64 (0)) rfl rfl (by kernel_rfl) (by kernel_rfl) (by kernel_rfl) (fun _ _ _ h => h) (Or.inl ⟨by rfl, ?_⟩) hH ?_
          · intro w5 hSw; obtain ⟨s0, s1, s2⟩ := hSw; go_simp
          simp only [List.setIfInBounds_toArray, List.set_cons_zero, List.set_cons_succ]
          refine take_at (i := 34) (v := .bool false) rfl rfl (by kernel_rfl) (by kernel_rfl) (by kernel_rfl) (fun _ _ _ h => h) (Or.inl ⟨by rfl, ?_⟩) hH ?_
          · intro w5 hSw; obtain ⟨s0, s1, s2⟩ := hSw; go_simp
          simp only [List.setIfInBounds_toArray, List.set_cons_zero, List.set_cons_succ]
          refine take_at (i := 35) (v := .bool false) rfl rfl (by kernel_rfl) (by kernel_rfl) (by kernel_rfl) (fun _ _ _ h => h) (Or.inl ⟨by rfl, ?_⟩) hH ?_
          · intro w5 hSw; obtain ⟨s0, s1, s2⟩ := hSw; go_simp
          simp only [List.setIfInBounds_toArray, List.set_cons_zero, List.set_cons_succ]
          refine take_at (i := 36) (v := undef) rfl rfl (by kernel_rfl) (by kernel_rfl) (by kernel_rfl) (fun _ _ _ h => h) (Or.inr ⟨by rfl, rfl⟩) hH ?_
          simp only [List.setIfInBounds_toArray, List.set_cons_zero, List.set_cons_succ]
          refine take_at (i := 37) (v := undef) rfl rfl (by kernel_rfl) (by kernel_rfl) (by kernel_rfl) (fun _ _ _ h => h) (Or.inr ⟨by rfl, rfl⟩) hH ?_
          simp only [List.setIfInBounds_toArray, List.set_cons_zero, List.set_cons_succ]
          refine take_at (i := 38) (v := undef) rfl rfl (by kernel_rfl) (by kernel_rfl) (by kernel_rfl) (fun _ _ _ h => h) (Or.inr ⟨by rfl, rfl⟩) hH ?_
          simp only [List.setIfInBounds_toArray, List.set_cons_zero, List.set_cons_succ]
          refine take_at (i := 39) (v := undef) rfl rfl (by kernel_rfl) (by kernel_rfl) (by kernel_rfl) (fun _ _ _ h => h) (Or.inr ⟨by rfl, rfl⟩) hH ?_
          simp only [List.setIfInBounds_toArray, List.set_cons_zero, List.set_cons_succ]
          refine take_at (i := 40) (v := undef) rfl rfl (by kernel_rfl) (by kernel_rfl) (by kernel_rfl) (fun _ _ _ h => h) (Or.inr ⟨by rfl, rfl⟩) hH ?_
          simp only [List.setIfInBounds_toArray, List.set_cons_zero, List.set_cons_succ]
          refine take_at (i := 41) (v := undef) rfl rfl (by kernel_rfl) (by kernel_rfl) (by kernel_rfl) (fun _ _ _ h => h) (Or.inr ⟨by rfl, rfl⟩) hH ?_
          simp only [List.setIfInBounds_toArray, List.set_cons_zero, List.set_cons_succ]
          refine take_at (i := 42) (v := undef) rfl rfl (by kernel_rfl) (by kernel_rfl) (by kernel_rfl) (fun _ _ _ h => h) (Or.inr ⟨by rfl, rfl⟩) hH ?_
          simp only [List.setIfInBounds_toArray, List.set_cons_zero, List.set_cons_succ]
          refine take_at (i := 43) (v := undef) rfl rfl (by kernel_rfl) (by kernel_rfl) (by kernel_rfl) (fun _ _ _ h => h) (Or.inr ⟨by rfl, rfl⟩) hH ?_
          simp only [List.setIfInBounds_toArray, List.set_cons_zero, List.set_cons_succ]
          refine take_at (i := 44) (v := undef) rfl rfl (by kernel_rfl) (by kernel_rfl) (by kernel_rfl) (fun _ _ _ h => h) (Or.inr ⟨by rfl, rfl⟩) hH ?_
          simp only [List.setIfInBounds_toArray, List.set_cons_zero, List.set_cons_succ]
          refine take_at (i := 45) (v := .bool false) rfl rfl (by kernel_rfl) (by kernel_rfl) (by kernel_rfl) (fun _ _ _ h => h) (Or.inl ⟨by rfl, ?_⟩) hH ?_
          · intro w5 hSw; obtain ⟨s0, s1, s2⟩ := hSw; go_simp
          simp only [List.setIfInBounds_toArray, List.set_cons_zero, List.set_cons_succ]
          refine take_at (i := 46) (v := .bool false) rfl rfl (by kernel_rfl) (by kernel_rfl) (by kernel_rfl) (fun _ _ _ h => h) (Or.inl ⟨by rfl, ?_⟩) hH ?_
          · intro w5 hSw; obtain ⟨s0, s1, s2⟩ := hSw; go_simp
          simp only [List.setIfInBounds_toArray, List.set_cons_zero, List.set_cons_succ]
          refine wpAnyH_done (by kernel_rfl) ?_ _
          refine NoPanic.normal ?_
          clear r1 r2 r3 r4 r5 r6
          replace x0 : w3.drew.cell? ⟨wr.heap.size, 0, none⟩ = some (.int .i64 I) := x0
          replace x1 : w3.drew.cell? ⟨wr.heap.size, 1, none⟩ = some (.int .i64 F) := x1
          replace x2 : w3.drew.cell? ⟨wr.heap.size, 2, none⟩ = some (.int .i64 T) := x2
          replace HX : Hid (Below w2.heap.size w2 w3.drew) := HX.out.drew
          generalize w3.drew = w4 at *
          rcases r7 with ⟨t1, t2, t3, t4⟩ | ⟨t1, t2, t3, t4⟩
          · go_wp2_with fail
            · exfalso
              first
              | (rename_i hq _; rcases hq with hq | hq <;> first | omega | (have := beq_iff_eq.1 hq; omega))
              | (rename_i hq; rcases hq with hq | hq <;> first | omega | (have := beq_iff_eq.1 hq; omega))
            · exact ⟨⟨1, by go_num, hlt, HX.out⟩, by simp [intOf]; omega⟩
          · go_wp2_with fail
            · exfalso
              first
              | (rename_i hq _; rcases hq with hq | hq <;> first | omega | (have := beq_iff_eq.1 hq; omega))
              | (rename_i hq; rcases hq with hq | hq <;> first | omega | (have := beq_iff_eq.1 hq; omega))
            · exact ⟨⟨1, by go_num, hlt, HX.out⟩, by simp [intOf]; omega⟩
        · obtain ⟨m', hm'⟩ : ∃ m', L[j]? = some m' := ⟨L[j], List.getElem?_eq_getElem (by omega)⟩
          have r8 := hpv.out j m' rfl hm'
          have hJ := HC.out (j * 3 + 0) _ ((fl_get mvC_len L j m' 0 hm' (by decide)).trans rfl)
          rw [Nat.add_zero] at hJ
          generalize (m'.1 : Int) = J at *
          have hgw : g < wr.heap.size := hgl
          have hjl : ¬ L.length ≤ j := by omega
          have hjw : IntKind.i64.wrap (j : Int) = (j : Int) := by rw [IntKind.wrap_i64]; omega
          clear hpv HC hm'
          go_wp2_with fail
          obtain ⟨w3, hw3⟩ : ∃ w3, w3 = wr.alloc (.cells #[.int .i64 I, .int .i64 F, .int .i64 T] 38) := ⟨_, rfl⟩
          have hbx := HS2.out (.cells #[.int .i64 I, .int .i64 F, .int .i64 T] 38)
          have x0 : w3.cell? ⟨wr.heap.size, 0, none⟩ = some (.int .i64 I) := by rw [hw3]; go_simp
          have x1 : w3.cell? ⟨wr.heap.size, 1, none⟩ = some (.int .i64 F) := by rw [hw3]; go_simp
          have x2 : w3.cell? ⟨wr.heap.size, 2, none⟩ = some (.int .i64 T) := by rw [hw3]; go_simp
          have y0 : w3.cell? ⟨g, off + j * 3, none⟩ = some (.int .i64 J) := ((Below.refl _ wr).alloc (Nat.le_refl _) _ |>.cell (p := ⟨g, off + j * 3, none⟩) hgw).trans hJ |> fun e => hw3 ▸ e
          rw [← hw3] at hbx ⊢
          have HX := mkH hbx
          clear hw3 hbx k0 k1 k2 HS2 hJ hgw
          refine wp_region_noPanic ?_
          refine wp_region_held_drew (S := fun w' : World => w'.cell? ⟨wr.heap.size, 0, none⟩ = some (.int .i64 I) ∧ w'.cell? ⟨wr.heap.size, 1, none⟩ = some (.int .i64 F) ∧ w'.cell? ⟨wr.heap.size, 2, none⟩ = some (.int .i64 T) ∧ w'.cell? ⟨g, off + j * 3, none⟩ = some (.int .i64 J)) (by kernel_rfl) ⟨x0, x1, x2, y0⟩ (fun hH => ?_)
          refine take_at (i := 0) (v := .pointer (some ⟨wr.heap.size, 0, none⟩)) rfl rfl (by kernel_rfl) (by kernel_rfl) (by kernel_rfl) (fun _ _ _ h => h) (Or.inl ⟨by rfl, ?_⟩) hH ?_
          · intro w5 hSw; obtain ⟨s0, s1, s2, s3⟩ := hSw; go_simp
          simp only [List.setIfInBounds_toArray, List.set_cons_zero, List.set_cons_succ]
          refine take_at (i := 1) (v := .int .i64 (I)) rfl rfl (by kernel_rfl) (by kernel_rfl) (by kernel_rfl) (fun _ _ _ h => h) (Or.inl ⟨by rfl, ?_⟩) hH ?_
          · intro w5 hSw; obtain ⟨s0, s1, s2, s3⟩ := hSw; go_simp
          simp only [List.setIfInBounds_toArray, List.set_cons_zero, List.set_cons_succ]
          refine take_at (i := 2) (v := .bool false) rfl rfl (by kernel_rfl) (by kernel_rfl) (by kernel_rfl) (fun _ _ _ h => h) (Or.inl ⟨by rfl, ?_⟩) hH ?_
          · intro w5 hSw; obtain ⟨s0, s1, s2, s3⟩ := hSw; go_simp
          simp only [List.setIfInBounds_toArray, List.set_cons_zero, List.set_cons_succ]
          refine take_at (i := 3) (v := .bool false) rfl rfl (by kernel_rfl) (by kernel_rfl) (by kernel_rfl) (fun _ _ _ h => h) (Or.inl ⟨by rfl, ?_⟩) hH ?_
          · intro w5 hSw; obtain ⟨s0, s1, s2, s3⟩ := hSw; go_simp
          simp only [List.setIfInBounds_toArray, List.set_cons_zero, List.set_cons_succ]
          refine take_at (i := 4) (v := .pointer (some ⟨wr.heap.size, 0, none⟩)) rfl rfl (by kernel_rfl) (by kernel_rfl) (by kernel_rfl) (fun _ _ _ h => h) (Or.inl ⟨by rfl, ?_⟩) hH ?_
          · intro w5 hSw; obtain ⟨s0, s1, s2, s3⟩ := hSw; go_simp
          simp only [List.setIfInBounds_toArray, List.set_cons_zero, List.set_cons_succ]
          refine take_at (i := 5) (v := .int .i64 (I)) rfl rfl (by kernel_rfl) (by kernel_rfl) (by kernel_rfl) (fun _ _ _ h => h) (Or.inl ⟨by rfl, ?_⟩) hH ?_
          · intro w5 hSw; obtain ⟨s0, s1, s2, s3⟩ := hSw; go_simp
          simp only [List.setIfInBounds_toArray, List.set_cons_zero, List.set_cons_succ]
          refine take_at (i := 6) (v := .slice p la.length c) rfl rfl (by kernel_rfl) (by kernel_rfl) (by kernel_rfl) (fun _ _ _ h => h) (Or.inl ⟨by rfl, ?_⟩) hH ?_
          · intro w5 hSw; obtain ⟨s0, s1, s2, s3⟩ := hSw; go_simp
          simp only [List.setIfInBounds_toArray, List.set_cons_zero, List.set_cons_succ]
          refine take_at (i := 7) (v := .int .i64 ((la.length : Int))) rfl rfl (by kernel_rfl) (by kernel_rfl) (by kernel_rfl) (fun _ _ _ h => h) (Or.inl ⟨by rfl, ?_⟩) hH ?_
          · intro w5 hSw; obtain ⟨s0, s1, s2, s3⟩ := hSw; go_simp
          simp only [List.setIfInBounds_toArray, List.set_cons_zero, List.set_cons_succ]
          refine take_at (i := 8) (v := .bool false) rfl rfl (by kernel_rfl) (by kernel_rfl) (by kernel_rfl) (fun _ _ _ h => h) (Or.inl ⟨by rfl, ?_⟩) hH ?_
          · intro w5 hSw; obtain ⟨s0, s1, s2, s3⟩ := hSw; go_simp
          simp only [List.setIfInBounds_toArray, List.set_cons_zero, List.set_cons_succ]
          refine take_at (i := 9) (v := .bool false) rfl rfl (by kernel_rfl) (by kernel_rfl) (by kernel_rfl) (fun _ _ _ h => h) (Or.inl ⟨by rfl, ?_⟩) hH ?_
          · intro w5 hSw; obtain ⟨s0, s1, s2, s3⟩ := hSw; go_simp
          simp only [List.setIfInBounds_toArray, List.set_cons_zero, List.set_cons_succ]
          refine take_at (i := 10) (v := .bool false) rfl rfl (by kernel_rfl) (by kernel_rfl) (by kernel_rfl) (fun _ _ _ h => h) (Or.inl ⟨by rfl, ?_⟩) hH ?_
          · intro w5 hSw; obtain ⟨s0, s1, s2, s3⟩ := hSw; go_simp
          simp only [List.setIfInBounds_toArray, List.set_cons_zero, List.set_cons_succ]
          refine take_at (i := 11) (v := .pointer (some ⟨wr.heap.size, 1, none⟩)) rfl rfl (by kernel_rfl) (by kernel_rfl) (by kernel_rfl) (fun _ _ _ h => h) (Or.inl ⟨by rfl, ?_⟩) hH ?_
          · intro w5 hSw; obtain ⟨s0, s1, s2, s3⟩ := hSw; go_simp
          simp only [List.setIfInBounds_toArray, List.set_cons_zero, List.set_cons_succ]
          refine take_at (i := 12) (v := .int .i64 (F)) rfl rfl (by kernel_rfl) (by kernel_rfl) (by kernel_rfl) (fun _ _ _ h => h) (Or.inl ⟨by rfl, ?_⟩) hH ?_
          · intro w5 hSw; obtain ⟨s0, s1, s2, s3⟩ := hSw; go_simp
          simp only [List.setIfInBounds_toArray, List.set_cons_zero, List.set_cons_succ]
          refine take_at (i := 13) (v := .bool false) rfl rfl (by kernel_rfl) (by kernel_rfl) (by kernel_rfl) (fun _ _ _ h => h) (Or.inl ⟨by rfl, ?_⟩) hH ?_
          · intro w5 hSw; obtain ⟨s0, s1, s2, s3⟩ := hSw; go_simp
          simp only [List.setIfInBounds_toArray, List.set_cons_zero, List.set_cons_succ]
          refine take_at (i := 14) (v := .bool false) rfl rfl (by kernel_rfl) (by kernel_rfl) (by kernel_rfl) (fun _ _ _ h => h) (Or.inl ⟨by rfl, ?_⟩) hH ?_
          · intro w5 hSw; obtain ⟨s0, s1, s2, s3⟩ := hSw; go_simp
          simp only [List.setIfInBounds_toArray, List.set_cons_zero, List.set_cons_succ]
          refine take_at (i := 15) (v := .bool false) rfl rfl (by kernel_rfl) (by kernel_rfl) (by kernel_rfl) (fun _ _ _ h => h) (Or.inl ⟨by rfl, ?_⟩) hH ?_
          · intro w5 hSw; obtain ⟨s0, s1, s2, s3⟩ := hSw; go_simp
          simp only [List.setIfInBounds_toArray, List.set_cons_zero, List.set_cons_succ]
          refine take_at (i := 16) (v := .pointer (some ⟨wr.heap.size, 1, none⟩)) rfl rfl (by kernel_rfl) (by kernel_rfl) (by kernel_rfl) (fun _ _ _ h => h) (Or.inl ⟨by rfl, ?_⟩) hH ?_
          · intro w5 hSw; obtain ⟨s0, s1, s2, s3⟩ := hSw; go_simp
          simp only [List.setIfInBounds_toArray, List.set_cons_zero, List.set_cons_succ]
          refine take_at (i := 17) (v := .int .i64 (F)) rfl rfl (by kernel_rfl) (by kernel_rfl) (by kernel_rfl) (fun _ _ _ h => h) (Or.inl ⟨by rfl, ?_⟩) hH ?_
          · intro w5 hSw; obtain ⟨s0, s1, s2, s3⟩ := hSw; go_simp
          simp only [List.setIfInBounds_toArray, List.set_cons_zero, List.set_cons_succ]
          refine take_at (i := 18) (v := .int .i64 (AI)) rfl rfl (by kernel_rfl) (by kernel_rfl) (by kernel_rfl) (fun _ _ _ h => h) (Or.inl ⟨by rfl, ?_⟩) hH ?_
          · intro w5 hSw; obtain ⟨s0, s1, s2, s3⟩ := hSw; go_simp
          simp only [List.setIfInBounds_toArray, List.set_cons_zero, List.set_cons_succ]
          refine take_at (i := 19) (v := .bool false) rfl rfl (by kernel_rfl) (by kernel_rfl) (by kernel_rfl) (fun _ _ _ h => h) (Or.inl ⟨by rfl, ?_⟩) hH ?_
          · intro w5 hSw; obtain ⟨s0, s1, s2, s3⟩ := hSw; go_simp
          simp only [List.setIfInBounds_toArray, List.set_cons_zero, List.set_cons_succ]
          refine take_at (i := 20) (v := .bool false) rfl rfl (by kernel_rfl) (by kernel_rfl) (by kernel_rfl) (fun _ _ _ h => h) (Or.inl ⟨by rfl, ?_⟩) hH ?_
          · intro w5 hSw; obtain ⟨s0, s1, s2, s3⟩ := hSw; go_simp
          simp only [List.setIfInBounds_toArray, List.set_cons_zero, List.set_cons_succ]
          refine take_at (i := 21) (v := .bool false) rfl rfl (by kernel_rfl) (by kernel_rfl) (by kernel_rfl) (fun _ _ _ h => h) (Or.inl ⟨by rfl, ?_⟩) hH ?_
          · intro w5 hSw; obtain ⟨s0, s1, s2, s3⟩ := hSw; go_simp
          simp only [List.setIfInBounds_toArray, List.set_cons_zero, List.set_cons_succ]
          refine take_at (i := 22) (v := .pointer (some ⟨wr.heap.size, 2, none⟩)) rfl rfl (by kernel_rfl) (by kernel_rfl) (by kernel_rfl) (fun _ _ _ h => h) (Or.inl ⟨by rfl, ?_⟩) hH ?_
          · intro w5 hSw; obtain ⟨s0, s1, s2, s3⟩ := hSw; go_simp
          simp only [List.setIfInBounds_toArray, List.set_cons_zero, List.set_cons_succ]
          refine take_at (i := 23) (v := .int .i64 (T)) rfl rfl (by kernel_rfl) (by kernel_rfl) (by kernel_rfl) (fun _ _ _ h => h) (Or.inl ⟨by rfl, ?_⟩) hH ?_
          · intro w5 hSw; obtain ⟨s0, s1, s2, s3⟩ := hSw; go_simp
          simp only [List.setIfInBounds_toArray, List.set_cons_zero, List.set_cons_succ]
          refine take_at (i := 24) (v := .bool false) rfl rfl (by kernel_rfl) (by kernel_rfl) (by kernel_rfl) (fun _ _ _ h => h) (Or.inl ⟨by rfl, ?_⟩) hH ?_
          · intro w5 hSw; obtain ⟨s0, s1, s2, s3⟩ := hSw; go_simp
          simp only [List.setIfInBounds_toArray, List.set_cons_zero, List.set_cons_succ]
          refine take_at (i := 25) (v := .bool false) rfl rfl (by kernel_rfl) (by kernel_rfl) (by kernel_rfl) (fun _ _ _ h => h) (Or.inl ⟨by rfl, ?_⟩) hH ?_
          · intro w5 hSw; obtain ⟨s0, s1, s2, s3⟩ := hSw; go_simp
          simp only [List.setIfInBounds_toArray, List.set_cons_zero, List.set_cons_succ]
          refine take_at (i := 26) (v := .bool false) rfl rfl (by kernel_rfl) (by kernel_rfl) (by kernel_rfl) (fun _ _ _ h => h) (Or.inl ⟨by rfl, ?_⟩) hH ?_
          · intro w5 hSw; obtain ⟨s0, s1, s2, s3⟩ := hSw; go_simp
          simp only [List.setIfInBounds_toArray, List.set_cons_zero, List.set_cons_succ]
          refine take_at (i := 27) (v := .pointer (some ⟨wr.heap.size, 2, none⟩)) rfl rfl (by kernel_rfl) (by kernel_rfl) (by kernel_rfl) (fun _ _ _ h => h) (Or.inl ⟨by rfl, ?_⟩) hH ?_
          · intro w5 hSw; obtain ⟨s0, s1, s2, s3⟩ := hSw; go_simp
          simp only [List.setIfInBounds_toArray, List.set_cons_zero, List.set_cons_succ]
          refine take_at (i := 28) (v := .int .i64 (T)) rfl rfl (by kernel_rfl) (by kernel_rfl) (by kernel_rfl) (fun _ _ _ h => h) (Or.inl ⟨by rfl, ?_⟩) hH ?_
          · intro w5 hSw; obtain ⟨s0, s1, s2, s3⟩ := hSw; go_simp
          simp only [List.setIfInBounds_toArray, List.set_cons_zero, List.set_cons_succ]
          refine take_at (i := 29) (v := .int .i64 (BI)) rfl rfl (by kernel_rfl) (by kernel_rfl) (by kernel_rfl) (fun _ _ _ h => h) (Or.inl ⟨by rfl, ?_⟩) hH ?_
          · intro w5 hSw; obtain ⟨s0, s1, s2, s3⟩ := hSw; go_simp
          simp only [List.setIfInBounds_toArray, List.set_cons_zero, List.set_cons_succ]
          refine take_at (i := 30) (v := .bool false) rfl rfl (by kernel_rfl) (by kernel_rfl) (by kernel_rfl) (fun _ _ _ h => h) (Or.inl ⟨by rfl, ?_⟩) hH ?_
          · intro w5 hSw; obtain ⟨s0, s1, s2, s3⟩ := hSw; go_simp
          simp only [List.setIfInBounds_toArray, List.set_cons_zero, List.set_cons_succ]
          refine take_at (i := 31) (v := .bool false) rfl rfl (by kernel_rfl) (by kernel_rfl) (by kernel_rfl) (fun _ _ _ h => h) (Or.inl ⟨by rfl, ?_⟩) hH ?_
          · intro w5 hSw; obtain ⟨s0, s1, s2, s3⟩ := hSw; go_simp
          simp only [List.setIfInBounds_toArray, List.set_cons_zero, List.set_cons_succ]
          refine take_at (i := 32) (v := .bool false) rfl rfl (by kernel_rfl) (by kernel_rfl) (by kernel_rfl) (fun _ _ _ h => h) (Or.inl ⟨by rfl, ?_⟩) hH ?_
          · intro w5 hSw; obtain ⟨s0, s1, s2, s3⟩ := hSw; go_simp
          simp only [List.setIfInBounds_toArray, List.set_cons_zero, List.set_cons_succ]
          refine take_at (i := 33) (v := .int .i64 (((j : Nat) : Int) + 1)) rfl rfl (by kernel_rfl) (by kernel_rfl) (by kernel_rfl) (fun _ _ _ h => h) (Or.inl ⟨by rfl, ?_⟩) hH ?_
          · intro w5 hSw; obtain ⟨s0, s1, s2, s3⟩ := hSw; go_simp
          simp only [List.setIfInBounds_toArray, List.set_cons_zero, List.set_cons_succ]
          refine take_at (i := 34) (v := .bool true) rfl rfl (by kernel_rfl) (by kernel_rfl) (by kernel_rfl) (fun _ _ _ h => h) (Or.inl ⟨by rfl, ?_⟩) hH ?_
          · intro w5 hSw; obtain ⟨s0, s1, s2, s3⟩ := hSw; go_simp
          simp only [List.setIfInBounds_toArray, List.set_cons_zero, List.set_cons_succ]
          refine take_at (i := 35) (v := .bool true) rfl rfl (by kernel_rfl) (by kernel_rfl) (by kernel_rfl) (fun _ _ _ h => h) (Or.inl ⟨by rfl, ?_⟩) hH ?_
          · intro w5 hSw; obtain ⟨s0, s1, s2, s3⟩ := hSw; go_simp
          simp only [List.setIfInBounds_toArray, List.set_cons_zero, List.set_cons_succ]
          refine take_at (i := 36) (v := (.slice (some ⟨g, off, none⟩) L.length c')) rfl rfl (by kernel_rfl) (by kernel_rfl) (by kernel_rfl) (fun _ _ _ h => h) (Or.inl ⟨by rfl, ?_⟩) hH ?_
          · intro w5 hSw; obtain ⟨s0, s1, s2, s3⟩ := hSw; go_simp
          simp only [List.setIfInBounds_toArray, List.set_cons_zero, List.set_cons_succ]
          refine take_at (i := 37) (v := .int .i64 (((j : Nat) : Int) + 1)) rfl rfl (by kernel_rfl) (by kernel_rfl) (by kernel_rfl) (fun _ _ _ h => h) (Or.inl ⟨by rfl, ?_⟩) hH ?_
          · intro w5 hSw; obtain ⟨s0, s1, s2, s3⟩ := hSw; go_simp
          simp only [List.setIfInBounds_toArray, List.set_cons_zero, List.set_cons_succ]
          refine take_at (i := 38) (v := .int .i64 ((j : Int))) rfl rfl (by kernel_rfl) (by kernel_rfl) (by kernel_rfl) (fun _ _ _ h => h) (Or.inl ⟨by rfl, ?_⟩) hH ?_
          · intro w5 hSw; obtain ⟨s0, s1, s2, s3⟩ := hSw; go_simp
          simp only [List.setIfInBounds_toArray, List.set_cons_zero, List.set_cons_succ]
          refine take_at (i := 39) (v := .pointer (some ⟨g, off + j * 3, none⟩)) rfl rfl (by kernel_rfl) (by kernel_rfl) (by kernel_rfl) (fun _ _ _ h => h) (Or.inl ⟨by rfl, ?_⟩) hH ?_
          · intro w5 hSw; obtain ⟨s0, s1, s2, s3⟩ := hSw; go_simp
          simp only [List.setIfInBounds_toArray, List.set_cons_zero, List.set_cons_succ]
          refine take_at (i := 40) (v := .pointer (some ⟨g, off + j * 3, none⟩)) rfl rfl (by kernel_rfl) (by kernel_rfl) (by kernel_rfl) (fun _ _ _ h => h) (Or.inl ⟨by rfl, ?_⟩) hH ?_
          · intro w5 hSw; obtain ⟨s0, s1, s2, s3⟩ := hSw; go_simp
          simp only [List.setIfInBounds_toArray, List.set_cons_zero, List.set_cons_succ]
          refine take_at (i := 41) (v := .int .i64 (J)) rfl rfl (by kernel_rfl) (by kernel_rfl) (by kernel_rfl) (fun _ _ _ h => h) (Or.inl ⟨by rfl, ?_⟩) hH ?_
          · intro w5 hSw; obtain ⟨s0, s1, s2, s3⟩ := hSw; go_simp
          simp only [List.setIfInBounds_toArray, List.set_cons_zero, List.set_cons_succ]
          refine take_at (i := 42) (v := .pointer (some ⟨wr.heap.size, 0, none⟩)) rfl rfl (by kernel_rfl) (by kernel_rfl) (by kernel_rfl) (fun _ _ _ h => h) (Or.inl ⟨by rfl, ?_⟩) hH ?_
          · intro w5 hSw; obtain ⟨s0, s1, s2, s3⟩ := hSw; go_simp
          simp only [List.setIfInBounds_toArray, List.set_cons_zero, List.set_cons_succ]
          refine take_at (i := 43) (v := .int .i64 (I)) rfl rfl (by kernel_rfl) (by kernel_rfl) (by kernel_rfl) (fun _ _ _ h => h) (Or.inl ⟨by rfl, ?_⟩) hH ?_
          · intro w5 hSw; obtain ⟨s0, s1, s2, s3⟩ := hSw; go_simp
          simp only [List.setIfInBounds_toArray, List.set_cons_zero, List.set_cons_succ]
          refine take_at (i := 44) (v := .bool false) rfl rfl (by kernel_rfl) (by kernel_rfl) (by kernel_rfl) (fun _ _ _ h => h) (Or.inl ⟨by rfl, ?_⟩) hH ?_
          · intro w5 hSw; obtain ⟨s0, s1, s2, s3⟩ := hSw; go_simp
          simp only [List.setIfInBounds_toArray, List.set_cons_zero, List.set_cons_succ]
          refine take_at (i := 45) (v := .bool false) rfl rfl (by kernel_rfl) (by kernel_rfl) (by kernel_rfl) (fun _ _ _ h => h) (Or.inl ⟨by rfl, ?_⟩) hH ?_
          · intro w5 hSw; obtain ⟨s0, s1, s2, s3⟩ := hSw; go_simp
          simp only [List.setIfInBounds_toArray, List.set_cons_zero, List.set_cons_succ]
          refine take_at (i := 46) (v := .bool false) rfl rfl (by kernel_rfl) (by kernel_rfl) (by kernel_rfl) (fun _ _ _ h => h) (Or.inl ⟨by rfl, ?_⟩) hH ?_
          · intro w5 hSw; obtain ⟨s0, s1, s2, s3⟩ := hSw; go_simp
          simp only [List.setIfInBounds_toArray, List.set_cons_zero, List.set_cons_succ]
          refine wpAnyH_done (by kernel_rfl) ?_ _
          refine NoPanic.normal ?_
          clear r8 y0
          clear r1 r2 r3 r4 r5 r6
          replace x0 : w3.drew.cell? ⟨wr.heap.size, 0, none⟩ = some (.int .i64 I) := x0
          replace x1 : w3.drew.cell? ⟨wr.heap.size, 1, none⟩ = some (.int .i64 F) := x1
          replace x2 : w3.drew.cell? ⟨wr.heap.size, 2, none⟩ = some (.int .i64 T) := x2
          replace HX : Hid (Below w2.heap.size w2 w3.drew) := HX.out.drew
          generalize w3.drew = w4 at *
          rcases r7 with ⟨t1, t2, t3, t4⟩ | ⟨t1, t2, t3, t4⟩
          · go_wp2_with fail
            · exfalso
              first
              | (rename_i hq _; rcases hq with hq | hq <;> first | omega | (have := beq_iff_eq.1 hq; omega))
              | (rename_i hq; rcases hq with hq | hq <;> first | omega | (have := beq_iff_eq.1 hq; omega))
            · exact ⟨⟨j + 1 + 1, by go_num, hlt, HX.out⟩, by simp [intOf]; omega⟩
          · go_wp2_with fail
            · exfalso
              first
              | (rename_i hq _; rcases hq with hq | hq <;> first | omega | (have := beq_iff_eq.1 hq; omega))
              | (rename_i hq; rcases hq with hq | hq <;> first | omega | (have := beq_iff_eq.1 hq; omega))
            · exact ⟨⟨j + 1 + 1, by go_num, hlt, HX.out⟩, by simp [intOf]; omega⟩
      · clear hA hB HR
        go_wp2_with fail
        go_ret
        exact ⟨rfl, HB2.out.trans (hbr.out.mono HB2.out.size)⟩
end Go.Proofs.YtmhmcffejkpmjaaDoor
