/-
  The document's Weight and Of.
-/
import Derived.Test.YtmhmcffejkpmjaaDoorRnU
import Derived.Test.YtmhmcffejkpmjaaDoorRnG
import Derived.BigQuiet
import Derived.Deep.QuietTactic
namespace Go.Proofs.YtmhmcffejkpmjaaDoor
open Go.RowKit Go.Shelf Go.Joins
set_option maxRecDepth 1000000

theorem hashN_one (l : List UInt8) (x : UInt8) : hashN (l ++ [x]) = hashS (hashN l) x := by
  unfold hashN; rw [List.foldl_append, List.foldl_cons, List.foldl_nil]

set_option maxHeartbeats 2000000 in
theorem refWeight_any (x : Va) (p : Nat) (hp : p < 64) (w : World) (hf : fit x.n) (h0 : x.chk = 0) :
    Calls Tryd.prog 9 #[.agg #[.int .i64 x.ty, .int .i64 x.n, .string x.s], .int .i64 (p : Int)] w fun e w' => e = .returned (.tuple #[.int .u64 (byN (sdV x) p : Int), .int .i64 0]) ∧ Below w.heap.size w w' := by
  have hp0 : ¬ (p : Int) < 0 := by omega
  have hp1 : ¬ (64 : Int) ≤ (p : Int) := by omega
  have VA : Hid (∀ w1, Calls Tryd.prog 22 #[.agg #[.int .i64 x.ty, .int .i64 x.n, .string x.s]] w1 fun e w' => ∃ v', e = .returned (.tuple #[v', .int .i64 0]) ∧ Below w1.heap.size w1 w' ∧ ownsB w' w1.heap.size v' (valB x)) := fun w1 => refValue_any x w1 hf h0
  have hB1 : Hid (∀ o, Below w.heap.size w (w.alloc o)) := fun o => (Below.refl _ w).alloc (Nat.le_refl _) o
  have hvl : (valB x).length ≤ 8195 := valB_len h0
  have hpm : ((p : Int) : Int) % 256 = (p : Int) := by omega
  have hc1 : Hid ((#[Value.int .u8 (p : Int)] : Array Value).toList = by8 [UInt8.ofNat p]) := by
    show _ = _
    simp only [by8, List.map_cons, List.map_nil, UInt8.toNat_ofNat']
    rw [Nat.mod_eq_of_lt (by omega)]
  have HA : Hid (∀ base v w1, ownsB w1 base v (valB x ++ [UInt8.ofNat p]) → Calls Tryd.prog 23 #[v] w1 fun e w' => e = .returned (.int .u64 ((hashS (sdV x) (UInt8.ofNat p) : Nat) : Int)) ∧ w' = w1) := fun base v w1 h => by
    obtain ⟨P, C, rfl, hb⟩ := h.byIn
    have := refHash_any P C _ w1 hb (by rw [List.length_append]; simp; omega)
    rw [hashN_one] at this
    exact this
  have e1 := fun h (hh : h < 18446744073709551616) => xorN h (h / 8589934592) hh (by omega)
  have e3 := fun h (hh : h < 18446744073709551616) => xorN h (h / 536870912) hh (by omega)
  have e5 := fun h (hh : h < 18446744073709551616) => xorN h (h / 4294967296) hh (by omega)
  have m1 : ∀ h : Nat, IntKind.u64.wrap (((h ^^^ (h / 8589934592) : Nat) : Int) * 11400714819323198485) = ((mixA h : Nat) : Int) := fun h => by
    rw [IntKind.wrap_u64]; unfold mixA; omega
  have m2 : ∀ h : Nat, IntKind.u64.wrap (((h ^^^ (h / 536870912) : Nat) : Int) * 11400714819323198485) = ((mixB h : Nat) : Int) := fun h => by
    rw [IntKind.wrap_u64]; unfold mixB; omega
  rw [byN_eq]
  have hS := hashS_lt (sdV x) (UInt8.ofNat p)
  generalize hashS (sdV x) (UInt8.ofNat p) = h at *
  rw [show mixN h = mixB (mixA h) ^^^ (mixB (mixA h) / 4294967296) from rfl]
  have a1 := mixA_lt h
  have f1 : bits .xor .u64 (h : Int) ((h : Int) / 8589934592) = ((h ^^^ (h / 8589934592) : Nat) : Int) := by simpa using e1 h hS
  have f2 := m1 h
  generalize mixA h = a at *
  have a2 := mixB_lt a
  have f3 : bits .xor .u64 (a : Int) ((a : Int) / 536870912) = ((a ^^^ (a / 536870912) : Nat) : Int) := by simpa using e3 a a1
  have f4 := m2 a
  generalize mixB a = b at *
  have f5 : bits .xor .u64 (b : Int) ((b : Int) / 4294967296) = ((b ^^^ (b / 4294967296) : Nat) : Int) := by simpa using e5 b a2
  clear e1 e3 e5 m1 m2
  generalize h ^^^ (h / 8589934592) = X at *
  generalize a ^^^ (a / 536870912) = Y at *
  generalize b ^^^ (b / 4294967296) = Z at *
  generalize hVB : valB x = VB at *
  clear hp hf h0 hVB
  go_enter Tryd.func9, Tryd.ntmps9
  go_wp2_with fail
  refine (VA.out _).mono ?_
  rintro e w1 ⟨v1, rfl, hb1, ho1⟩
  have HO : Hid (ownsB w1 w.heap.size v1 VB) := ho1.low (by simp)
  have b1 := mkH ((hB1.out _).trans (hb1.mono (hB1.out _).size))
  clear hb1 hB1 VA ho1
  go_wp2_with (at_builtin; refine app_b rfl (.tmp 23) (.tmp 26) rfl w.heap.size v1 VB [UInt8.ofNat p] _ rfl HO.out hc1.out rfl (by simp only [List.length_cons, List.length_nil]; omega) b1.out.size ?_; intro v2 w2 ho2 hb2 hs2)
  refine (HA.out _ _ _ ho2).mono ?_
  rintro e w3 ⟨rfl, hw3⟩
  subst hw3
  have b2 := mkH (b1.out.trans hb2)
  clear HA HO ho2 hb2 b1 hs2
  go_wp2_with fail
  refine bodyPost_ret (v := .tuple #[.int .u64 (Z : Int), .int .i64 0]) (by simp [results, Tryd.results9, go_sem]) rfl ⟨rfl, b2.out⟩

set_option maxHeartbeats 2000000 in
theorem refWeight_bad (x : Va) (p : Int) (hp : p < 0 ∨ 64 ≤ p) (w : World) :
    Calls Tryd.prog 9 #[.agg #[.int .i64 x.ty, .int .i64 x.n, .string x.s], .int .i64 p] w fun e w' => e = .returned (.tuple #[.int .u64 0, .int .i64 1]) ∧ Below w.heap.size w w' := by
  have hB : Hid (∀ o, Below w.heap.size w (w.alloc o)) := fun o => (Below.refl _ _).alloc (Nat.le_refl _) o
  by_cases h : p < 0
  · clear hp
    go_enter Tryd.func9, Tryd.ntmps9
    go_wp2_with fail
    refine bodyPost_ret (v := .tuple #[.int .u64 0, .int .i64 1]) (by simp [results, Tryd.results9, go_sem]) rfl ⟨rfl, hB.out _⟩
  · have h2 : 64 ≤ p := by rcases hp with hp | hp; exact absurd hp h; exact hp
    clear hp
    go_enter Tryd.func9, Tryd.ntmps9
    go_wp2_with fail
    refine bodyPost_ret (v := .tuple #[.int .u64 0, .int .i64 1]) (by simp [results, Tryd.results9, go_sem]) rfl ⟨rfl, hB.out _⟩

set_option maxHeartbeats 2000000 in
theorem refWeight_chk (x : Va) (p : Nat) (hp : p < 64) (w : World) (h0 : ¬ x.chk = 0) :
    Calls Tryd.prog 9 #[.agg #[.int .i64 x.ty, .int .i64 x.n, .string x.s], .int .i64 (p : Int)] w fun e w' => e = .returned (.tuple #[.int .u64 0, .int .i64 x.chk]) ∧ Below w.heap.size w w' := by
  have hp0 : ¬ (p : Int) < 0 := by omega
  have hp1 : ¬ (64 : Int) ≤ (p : Int) := by omega
  have VA : Hid (∀ w1, Calls Tryd.prog 22 #[.agg #[.int .i64 x.ty, .int .i64 x.n, .string x.s]] w1 fun e w' => e = .returned (.tuple #[.slice none 0 0, .int .i64 x.chk]) ∧ Below w1.heap.size w1 w') := fun w1 => refValue_bad x w1 h0
  have hB1 : Hid (∀ o, Below w.heap.size w (w.alloc o)) := fun o => (Below.refl _ w).alloc (Nat.le_refl _) o
  have h1 : (x.chk != 0) = true := by rw [bne_iff_ne]; exact h0
  generalize x.chk = C at *
  clear hp h0
  go_enter Tryd.func9, Tryd.ntmps9
  go_wp2_with fail
  refine (VA.out _).mono ?_
  rintro e w1 ⟨rfl, hb1⟩
  have b1 := mkH ((hB1.out _).trans (hb1.mono (hB1.out _).size))
  clear hb1 hB1 VA
  go_wp2_with fail
  refine bodyPost_ret (v := .tuple #[.int .u64 0, .int .i64 C]) (by simp [results, Tryd.results9, go_sem]) rfl ⟨rfl, b1.out⟩

theorem parts_yes (n : Nat) (h : 0 < n ∧ n ≤ 64) (w : World) : Calls Tryd.prog 19 #[.int .i64 (n : Int)] w fun e w' => e = .returned (.bool true) ∧ w' = w := by
  obtain ⟨h0, h1⟩ := h
  have a : (1 : Int) ≤ (n : Int) := by omega
  have b : (n : Int) ≤ 64 := by omega
  clear h0 h1
  generalize (n : Int) = N at *
  go_enter Tryd.func19, Tryd.ntmps19
  go_wp2_with fail
  go_ret
  exact ⟨by congr 2, rfl⟩
theorem parts_no (n : Int) (h : n < 1 ∨ 64 < n) (w : World) : Calls Tryd.prog 19 #[.int .i64 n] w fun e w' => e = .returned (.bool false) ∧ w' = w := by
  rcases h with h | h
  · go_enter Tryd.func19, Tryd.ntmps19
    go_wp2_with fail
    go_ret
    exact ⟨by congr 2, rfl⟩
  · go_enter Tryd.func19, Tryd.ntmps19
    go_wp2_with fail
    go_ret
    exact ⟨by congr 2; simp; omega, rfl⟩

/-- the greatest of what the first n partitions want, and whose it is, from nothing on -/
def rst (s : Nat) : Nat → Nat × Nat
  | 0 => (0, 0)
  | k + 1 => if (rst s k).2 < byN s k then (k, byN s k) else rst s k
theorem rst_yes {s k : Nat} (h : (rst s k).2 < byN s k) : rst s (k + 1) = (k, byN s k) := by rw [rst, if_pos h]
theorem rst_no {s k : Nat} (h : ¬ (rst s k).2 < byN s k) : rst s (k + 1) = rst s k := by rw [rst, if_neg h]
theorem rst_bst (s : Nat) : ∀ n, rst s (n + 1) = bst s n
  | 0 => by
    show (if 0 < byN s 0 then (0, byN s 0) else (0, 0)) = (0, byN s 0)
    split
    · rfl
    · rw [show byN s 0 = 0 by omega]
  | n + 1 => by
    have ih := rst_bst s n
    by_cases h : (rst s (n + 1)).2 < byN s (n + 1)
    · rw [rst_yes h, bst_yes (by rw [← ih]; exact h)]
    · rw [rst_no h, bst_no (by rw [← ih]; exact h), ih]

set_option maxHeartbeats 4000000 in
theorem refOf_any (x : Va) (n : Nat) (hn : 0 < n ∧ n ≤ 64) (w : World) (hf : fit x.n) (h0 : x.chk = 0) :
    Calls Tryd.prog 7 #[.agg #[.int .i64 x.ty, .int .i64 x.n, .string x.s], .int .i64 (n : Int)] w fun e w' => e = .returned (.tuple #[.int .i64 (amV n x : Int), .int .i64 0]) ∧ Below w.heap.size w w' := by
  have CB : Hid (∀ w1, Calls Tryd.prog 19 #[.int .i64 (n : Int)] w1 fun e w' => e = .returned (.bool true) ∧ w' = w1) := fun w1 => parts_yes n hn w1
  have CK : Hid (∀ w1, Calls Tryd.prog 20 #[.agg #[.int .i64 x.ty, .int .i64 x.n, .string x.s]] w1 fun e w' => e = .returned (.int .i64 0) ∧ Below w1.heap.size w1 w') := fun w1 => h0 ▸ refCheck_any x.ty x.n x.s w1
  have hR : Hid (Res (w.alloc (.cells #[.int .i64 x.ty, .int .i64 x.n, .string x.s] 23)) w.heap.size x.ty x.n x.s ∧ Below w.heap.size w (w.alloc (.cells #[.int .i64 x.ty, .int .i64 x.n, .string x.s] 23))) := ⟨Res.new w x.ty x.n x.s, (Below.refl _ w).alloc (Nat.le_refl _) _⟩
  have WG : Hid (∀ k : Nat, k < n → ∀ w1, Calls Tryd.prog 9 #[.agg #[.int .i64 x.ty, .int .i64 x.n, .string x.s], .int .i64 (k : Int)] w1 fun e w' => e = .returned (.tuple #[.int .u64 (byN (sdV x) k : Int), .int .i64 0]) ∧ Below w1.heap.size w1 w') := fun k hk w1 => refWeight_any x k (by omega) w1 hf h0
  obtain ⟨n0, n1⟩ := hn
  go_enter Tryd.func7, Tryd.ntmps7
  go_wp2_with fail
  refine (CB.out _).mono ?_
  rintro e w' ⟨rfl, rfl⟩
  obtain ⟨w0, hw0⟩ : ∃ w0, w0 = w.alloc (.cells #[.int .i64 x.ty, .int .i64 x.n, .string x.s] 23) := ⟨_, rfl⟩
  rw [← hw0] at hR ⊢
  clear hw0 CB
  obtain ⟨_, y0, y1, y2, _, _, _⟩ := hR.out.1
  go_wp2_with fail
  refine (CK.out _).mono ?_
  rintro e w1 ⟨rfl, hb1⟩
  have HR := mkH (hR.out.1.below hb1)
  have HB := mkH (hR.out.2.trans (hb1.mono hR.out.2.size))
  clear y0 y1 y2 hR hb1 CK
  obtain ⟨_, y0, y1, y2, _, _, _⟩ := HR.out
  by_cases ht : x.ty = 0
  · have hz : Hid (amV n x = 0) := by
      show _ = _
      unfold amV amN nulV; rw [decide_eq_true ht]; rfl
    rw [ht] at y0
    clear WG HR
    go_wp2_with fail
    refine bodyPost_ret (v := .tuple #[.int .i64 0, .int .i64 0]) (by simp [results, Tryd.results7, go_sem]) rfl ⟨by rw [hz.out]; rfl, HB.out⟩
  · have hz : Hid (amV n x = (rst (sdV x) n).1) := by
      show _ = _
      have hr := rst_bst (sdV x) (n - 1)
      rw [show n - 1 + 1 = n by omega] at hr
      unfold amV amN nulV; rw [decide_eq_false ht, hr]; rfl
    have htb : (x.ty == 0) = false := by rw [beq_eq_false_iff_ne]; exact ht
    go_wp2_with fail
    go_loopw [7, 8, 9] (fun sb sm si wr => ∃ k : Nat, si = .int .i64 k ∧ k ≤ n ∧ sb = .int .i64 ((rst (sdV x) k).1 : Int) ∧ sm = .int .u64 ((rst (sdV x) k).2 : Int) ∧ Hid (Below w1.heap.size w1 wr)) (fun _ _ si _ => n - (intOf si).toNat)
    case atStart => exact ⟨0, rfl, Nat.zero_le _, rfl, rfl, Below.refl _ _⟩
    case round =>
      obtain ⟨k, rfl, hk, rfl, rfl, hbr⟩ := hrel
      clear y0 y1 y2
      obtain ⟨_, y0, y1, y2, _, _, _⟩ := HR.out.below hbr.out
      rcases Nat.lt_or_ge k n with hkn | hkn
      · have WK := mkH (WG.out k hkn)
        have hy := mkH (@rst_yes (sdV x) k)
        have hno := mkH (@rst_no (sdV x) k)
        clear WG
        generalize byN (sdV x) k = B at *
        generalize rst (sdV x) k = X at *
        go_wp2_with fail
        refine (WK.out _).mono ?_
        rintro e w2 ⟨rfl, hb2⟩
        have hb3 := mkH (hbr.out.trans (hb2.mono hbr.out.size))
        clear hb2 hbr y0 y1 y2 WK
        by_cases hgt : X.2 < B
        · have hY := mkH (hy.out hgt)
          clear hy hno
          go_wp2_with fail
          exact ⟨⟨k + 1, by go_num, hkn, by rw [hY.out], by rw [hY.out], hb3⟩, by simp [intOf]; omega⟩
        · have hY := mkH (hno.out hgt)
          clear hy hno
          go_wp2_with fail
          exact ⟨⟨k + 1, by go_num, hkn, by rw [hY.out], by rw [hY.out], hb3⟩, by simp [intOf]; omega⟩
      · have hkn2 : k = n := by omega
        have hz2 : Hid ((rst (sdV x) k).1 = amV n x) := by
          show _ = _
          rw [hz.out, hkn2]
        have hb3 := mkH (HB.out.trans (hbr.out.mono HB.out.size))
        have hnk : ¬ (k : Int) < (n : Int) := by omega
        clear hkn2 WG HR hbr
        go_wp2_with fail
        refine bodyPost_ret (v := .tuple #[.int .i64 ((rst (sdV x) k).1 : Int), .int .i64 0]) (by simp [results, Tryd.results7, go_sem]) rfl ⟨by rw [hz2.out], hb3.out⟩
end Go.Proofs.YtmhmcffejkpmjaaDoor
