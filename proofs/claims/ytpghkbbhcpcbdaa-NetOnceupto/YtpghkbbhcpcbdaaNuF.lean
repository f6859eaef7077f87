/-
  Walks: a call of the program alone.
-/
import Derived.Test.YtpghkbbhcpcbdaaNuE
namespace Go.Proofs.Ytpghkbbhcpcbdaa
open Go.RowKit Go.Maps Go.Joins
variable {P : Nat → Prop} {w w' : World} {n c : Nat} {S : St} {L : Ly}

/-- an act, as it is handed over -/
structure Ac where
  k : Int
  a : Int
  t : Int
  i : Int
  p : Option Addr
  b : List UInt8
  q : Nat
  h : Bool
def Ac.cells (x : Ac) : Array Value := #[.int .i64 x.k, .int .i64 x.a, .int .i64 x.t, .int .i64 x.i, .slice x.p x.b.length x.q, .bool x.h]
def downT (S : St) (k : Int) : St := if isS S k = true then downS S k.toNat else S
def aloneS (S : St) (x : Ac) : St := if x.k = 2 then delivS S x.i else if x.k = 3 then loseS S x.i else if x.k = 4 then twiceS S x.i else if x.k = 5 then tickS S x.a else if x.k = 6 then downT S x.a else S
theorem Down_er (h : NetL P w n c S L) (k : Int) : Calls Try.prog 39 #[.pointer (some ⟨n, 0, none⟩), .int .i64 k] w (ErQ P w n c (downT S k) (isE S k)) := by
  refine (Down_any h k).mono ?_
  rintro e w1 ⟨rfl, hu⟩
  exact ⟨rfl, hu⟩
set_option maxHeartbeats 1000000 in
set_option maxRecDepth 100000 in
theorem alone_2 (h : NetL P w n c S L) (x : Ac) {B : Nat} (ok : OkS S B) (hc : c ≤ 900000000) (hk : x.k = 2) : Calls Try.prog 19 #[.agg #[.pointer (some ⟨n, 0, none⟩), .pointer none], .agg x.cells] w (CmQ P w n (c + 1) (aloneS S x)) := by
  have g0 := grown_al (grown_al (grown_refl w) (.cells #[.pointer (some ⟨n, 0, none⟩), .pointer none] 33)) (.cells x.cells 29)
  obtain ⟨L0, h0, C0⟩ := h.upn g0
  have hc : c ≤ 1000000000 := by omega
  have es : aloneS S x = delivS S x.i := by unfold aloneS; rw [hk]; rfl
  rw [es]
  have CL := mkHid (Deliver_any h0 x.i ok hc)
  have HC := mkHid C0
  unfold Ac.cells at CL HC ⊢
  rw [hk] at CL HC ⊢
  clear h h0 C0 g0 es ok hk
  go_enter Try.func19, Try.ntmps19
  go_wp2_with fail
  refine CL.out.mono ?_
  rintro e w2 ⟨rfl, hu⟩
  have FN := mkHid ((UpN.trans HC.out hu).le (c2 := c + 1) (by omega))
  clear hu
  go_wp2_with fail
  go_end0
  exact ⟨rfl, FN.out⟩
set_option maxHeartbeats 1000000 in
set_option maxRecDepth 100000 in
theorem alone_3 (h : NetL P w n c S L) (x : Ac) (hc : c ≤ 900000000) (hk : x.k = 3) : Calls Try.prog 19 #[.agg #[.pointer (some ⟨n, 0, none⟩), .pointer none], .agg x.cells] w (CmQ P w n (c + 1) (aloneS S x)) := by
  have g0 := grown_al (grown_al (grown_refl w) (.cells #[.pointer (some ⟨n, 0, none⟩), .pointer none] 33)) (.cells x.cells 29)
  obtain ⟨L0, h0, C0⟩ := h.upn g0
  have hc : c ≤ 1000000000 := by omega
  have es : aloneS S x = loseS S x.i := by unfold aloneS; rw [hk]; rfl
  rw [es]
  have CL := mkHid (Lose_any h0 x.i)
  have HC := mkHid C0
  unfold Ac.cells at CL HC ⊢
  rw [hk] at CL HC ⊢
  clear h h0 C0 g0 es hk
  go_enter Try.func19, Try.ntmps19
  go_wp2_with fail
  refine CL.out.mono ?_
  rintro e w2 ⟨rfl, hu⟩
  have FN := mkHid ((UpN.trans HC.out hu).le (c2 := c + 1) (by omega))
  clear hu
  go_wp2_with fail
  go_end0
  exact ⟨rfl, FN.out⟩
set_option maxHeartbeats 1000000 in
set_option maxRecDepth 100000 in
theorem alone_4 (h : NetL P w n c S L) (x : Ac) (hc : c ≤ 900000000) (hk : x.k = 4) : Calls Try.prog 19 #[.agg #[.pointer (some ⟨n, 0, none⟩), .pointer none], .agg x.cells] w (CmQ P w n (c + 1) (aloneS S x)) := by
  have g0 := grown_al (grown_al (grown_refl w) (.cells #[.pointer (some ⟨n, 0, none⟩), .pointer none] 33)) (.cells x.cells 29)
  obtain ⟨L0, h0, C0⟩ := h.upn g0
  have hc : c ≤ 1000000000 := by omega
  have es : aloneS S x = twiceS S x.i := by unfold aloneS; rw [hk]; rfl
  rw [es]
  have CL := mkHid (Twice_any h0 x.i)
  have HC := mkHid C0
  unfold Ac.cells at CL HC ⊢
  rw [hk] at CL HC ⊢
  clear h h0 C0 g0 es hk
  go_enter Try.func19, Try.ntmps19
  go_wp2_with fail
  refine CL.out.mono ?_
  rintro e w2 ⟨rfl, hu⟩
  have FN := mkHid ((UpN.trans HC.out hu).le (c2 := c + 1) (by omega))
  clear hu
  go_wp2_with fail
  go_end0
  exact ⟨rfl, FN.out⟩
set_option maxHeartbeats 1000000 in
set_option maxRecDepth 100000 in
theorem alone_5 (h : NetL P w n c S L) (x : Ac) {B : Nat} (ok : OkS S B) (hc : c ≤ 900000000) (hk : x.k = 5) : Calls Try.prog 19 #[.agg #[.pointer (some ⟨n, 0, none⟩), .pointer none], .agg x.cells] w (CmQ P w n (c + 1) (aloneS S x)) := by
  have g0 := grown_al (grown_al (grown_refl w) (.cells #[.pointer (some ⟨n, 0, none⟩), .pointer none] 33)) (.cells x.cells 29)
  obtain ⟨L0, h0, C0⟩ := h.upn g0
  have hc : c ≤ 1000000000 := by omega
  have es : aloneS S x = tickS S x.a := by unfold aloneS; rw [hk]; rfl
  rw [es]
  have CL := mkHid (Tick_any h0 x.a (fun a b => by have := ok.wb a b; have := ok.lt; omega) (fun a b => by have := ok.wt a b; have := ok.lt; omega) (fun a b => ok.wu a b))
  have HC := mkHid C0
  unfold Ac.cells at CL HC ⊢
  rw [hk] at CL HC ⊢
  clear h h0 C0 g0 es ok hk
  go_enter Try.func19, Try.ntmps19
  go_wp2_with fail
  refine CL.out.mono ?_
  rintro e w2 ⟨rfl, hu⟩
  have FN := mkHid ((UpN.trans HC.out hu).le (c2 := c + 1) (by omega))
  clear hu
  go_wp2_with fail
  go_end0
  exact ⟨rfl, FN.out⟩
set_option maxHeartbeats 1000000 in
set_option maxRecDepth 100000 in
theorem alone_6 (h : NetL P w n c S L) (x : Ac) (hc : c ≤ 900000000) (hk : x.k = 6) : Calls Try.prog 19 #[.agg #[.pointer (some ⟨n, 0, none⟩), .pointer none], .agg x.cells] w (CmQ P w n (c + 1) (aloneS S x)) := by
  have g0 := grown_al (grown_al (grown_refl w) (.cells #[.pointer (some ⟨n, 0, none⟩), .pointer none] 33)) (.cells x.cells 29)
  obtain ⟨L0, h0, C0⟩ := h.upn g0
  have hc : c ≤ 1000000000 := by omega
  have es : aloneS S x = downT S x.a := by unfold aloneS; rw [hk]; rfl
  rw [es]
  have CL := mkHid (Down_er h0 x.a)
  have HC := mkHid C0
  unfold Ac.cells at CL HC ⊢
  rw [hk] at CL HC ⊢
  clear h h0 C0 g0 es hk
  go_enter Try.func19, Try.ntmps19
  go_wp2_with fail
  refine CL.out.mono ?_
  rintro e w2 ⟨rfl, hu⟩
  have FN := mkHid ((UpN.trans HC.out hu).le (c2 := c + 1) (by omega))
  clear hu
  go_wp2_with fail
  go_end0
  exact ⟨rfl, FN.out⟩
set_option maxHeartbeats 1000000 in
set_option maxRecDepth 100000 in
theorem alone_no (h : NetL P w n c S L) (x : Ac) (h2 : x.k ≠ 2) (h3 : x.k ≠ 3) (h4 : x.k ≠ 4) (h5 : x.k ≠ 5) (h6 : x.k ≠ 6) : Calls Try.prog 19 #[.agg #[.pointer (some ⟨n, 0, none⟩), .pointer none], .agg x.cells] w (CmQ P w n (c + 1) (aloneS S x)) := by
  have es : aloneS S x = S := by unfold aloneS; rw [if_neg h2, if_neg h3, if_neg h4, if_neg h5, if_neg h6]
  rw [es]
  have g0 := mkHid (grown_al (grown_al (grown_refl w) (.cells #[.pointer (some ⟨n, 0, none⟩), .pointer none] 33)) (.cells x.cells 29))
  have FN := mkHid ((h.upn g0.out).le (c2 := c + 1) (by omega))
  have b2 : (x.k == 2) = false := by rw [beq_eq_false_iff_ne]; exact h2
  have b3 : (x.k == 3) = false := by rw [beq_eq_false_iff_ne]; exact h3
  have b4 : (x.k == 4) = false := by rw [beq_eq_false_iff_ne]; exact h4
  have b5 : (x.k == 5) = false := by rw [beq_eq_false_iff_ne]; exact h5
  have b6 : (x.k == 6) = false := by rw [beq_eq_false_iff_ne]; exact h6
  unfold Ac.cells at FN ⊢
  clear h es h2 h3 h4 h5 h6 g0
  go_enter Try.func19, Try.ntmps19
  go_wp2_with fail
  go_end0
  exact ⟨rfl, FN.out⟩
theorem alone_any (h : NetL P w n c S L) (x : Ac) {B : Nat} (ok : OkS S B) (hc : c ≤ 900000000) : Calls Try.prog 19 #[.agg #[.pointer (some ⟨n, 0, none⟩), .pointer none], .agg x.cells] w (CmQ P w n (c + 1) (aloneS S x)) := by
  by_cases h2 : x.k = 2
  · exact alone_2 h x ok hc h2
  by_cases h3 : x.k = 3
  · exact alone_3 h x hc h3
  by_cases h4 : x.k = 4
  · exact alone_4 h x hc h4
  by_cases h5 : x.k = 5
  · exact alone_5 h x ok hc h5
  by_cases h6 : x.k = 6
  · exact alone_6 h x hc h6
  exact alone_no h x h2 h3 h4 h5 h6
end Go.Proofs.Ytpghkbbhcpcbdaa
