/-
  The walk of simfs's Crash on any disk.
-/
import Derived.Test.YtdiehlioemmakaaGdMpx
import Derived.Test.YtdiehlioemmakaaUH
import Derived.Test.YtdiehlioemmakaaGdEpx
namespace Go.Proofs.Ytdiehlioemmakaa
open Go.RowKit Go.Maps Go.Joins Go.Sort

def cutA (keeps : List Int) (t : Nat) (x : List UInt8 × Nat) : Nat := x.2 + (if keeps = [] then 0 else kp (keeps.getD (t % keeps.length) 0) (x.1.length - x.2))
/-- what a crash leaves of the files -/
def cutsA (keeps : List Int) : Nat → List (List UInt8 × (List UInt8 × Nat)) → List (List UInt8 × (List UInt8 × Nat))
  | _, [] => []
  | t, p :: r => if p.2.2 = p.2.1.length then p :: cutsA keeps t r else (p.1, (p.2.1.take (cutA keeps t p.2), cutA keeps t p.2)) :: cutsA keeps (t + 1) r
theorem cuts_abs (keeps : List Int) : ∀ (t : Nat) (xs : List (List UInt8 × Fl)), cuts keeps t xs = cutsA keeps t (absX xs)
  | _, [] => rfl
  | t, p :: r => by
    show (if p.2.k = p.2.l.length then _ else _) = (if p.2.k = p.2.l.length then _ else _)
    rw [cuts_abs keeps t r, cuts_abs keeps (t + 1) r]; rfl
set_option maxHeartbeats 8000000 in
set_option maxRecDepth 1000000 in
theorem loseBytes_any {P : Nat → Prop} (base f : Nat) (q st : Int) (mo : Option Nat) (xs : List (List UInt8 × Fl)) (us : List Ux) (keeps : List Int) (Pk : Option Addr) (Ck : Nat) (w : World) (hl : xs.length ≤ 1000) (hnm : ∀ p ∈ xs, p.1.length ≤ 64) (so : SrtN xs) (hk : ∀ w', Chg P w w' → intIn w' Pk keeps) (hkr : ∀ x ∈ keeps, -9223372036854775808 ≤ x ∧ x ≤ 9223372036854775807) (hkl : keeps.length ≤ 9223372036854775807) (hus : us = []) (d : Dsk P w base f q st mo xs us) :
    Calls Try.prog 55 #[.pointer (some ⟨f, 0, none⟩), .slice Pk keeps.length Ck] w fun e w' => e = .returned (.tuple #[]) ∧ (∃ xs', absX xs' = cutsA keeps 0 (absX xs) ∧ Dsk P w' base f q st mo xs' []) ∧ Chg P w w' := by
  subst hus
  cases mo with
  | some m =>
    refine (loseBytes_go base f m q st keeps Pk Ck xs w d so hl hnm hk hkr hkl).mono ?_
    rintro e w' ⟨rfl, ⟨xs', d', e'⟩, c'⟩
    exact ⟨rfl, ⟨xs', by rw [← cuts_abs]; exact e', d'⟩, c'⟩
  | none =>
    obtain ⟨rfl, _⟩ := d.mn rfl
    have LS := mkHid (List_any base f q st none [] [] w so (by simp) d)
    have D := mkHid d
    clear d so hk hkr hnm hl
    go_enter Try.func55, Try.ntmps55
    go_wp2_with fail
    refine LS.out.mono ?_
    rintro e w1 ⟨v1, rfl, ho1, hg1⟩
    obtain ⟨P1, C1, rfl⟩ := row_form ho1
    have D1 := mkHid (D.out.kept hg1)
    have B1 := mkHid (Chg.of_none hg1 P)
    clear ho1 hg1
    simp only [List.length_nil]
    go_wp2_with fail
    go_loopw [4, 6, 7, 8, 12] (fun s4 _ _ _ s12 wr => s4 = .int .i64 0 ∧ s12 = .int .i64 0 ∧ wr = w1) (fun _ _ _ _ _ _ => 0)
    case atStart => exact ⟨rfl, rfl, rfl⟩
    case round =>
      obtain ⟨rfl, rfl, hwr⟩ := hrel
      have hwr2 := hwr.symm; subst hwr2; clear hwr
      go_wp2_with fail
      go_end0
      exact ⟨rfl, ⟨[], rfl, D1.out⟩, B1.out⟩
set_option maxHeartbeats 8000000 in
set_option maxRecDepth 1000000 in
theorem Crash_any {P : Nat → Prop} (base f : Nat) (q st : Int) (mo : Option Nat) (xs : List (List UInt8 × Fl)) (us : List Ux) (keeps : List Int) (Pk : Option Addr) (Ck : Nat) (names : Int) (W : Nat → List (List UInt8 × (List UInt8 × Nat))) (w : World) (hn : -9223372036854775808 ≤ names ∧ names ≤ 9223372036854775807) (hus : us.length ≤ 9000000) (hW0 : absX xs = W us.length) (hW : ∀ j u, us[j]? = some u → UnA u (W (j + 1)) (W j)) (hWs : ∀ j, j ≤ us.length → SrtN (W j) ∧ (W j).length ≤ 1000) (hWn : ∀ j, j ≤ us.length → ∀ p ∈ W j, p.1.length ≤ 64) (hk : ∀ w', Chg P w w' → intIn w' Pk keeps) (hkr : ∀ x ∈ keeps, -9223372036854775808 ≤ x ∧ x ≤ 9223372036854775807) (hkl : keeps.length ≤ 9223372036854775807) (d : Dsk P w base f q st mo xs us) :
    Calls Try.prog 17 #[.pointer (some ⟨f, 0, none⟩), .slice Pk keeps.length Ck, .int .i64 names] w fun e w' => e = .returned (.tuple #[]) ∧ ∃ xs', absX xs' = cutsA keeps 0 (W (kp names us.length)) ∧ Dsk (ext P w w') w' base f q 0 mo xs' [] ∧ Chg P w w' := by
  have LN := mkHid (loseNames_any base f q st mo xs us names W w hn hus hW0 hW hWs d)
  have hkl0 : kp names us.length ≤ us.length := by unfold kp; have := Nat.mod_lt (max 0 names).toNat (show 0 < us.length + 1 by omega); omega
  have hws := hWs _ hkl0
  have hwn := hWn _ hkl0
  generalize kp names us.length = k at *
  have HK := mkHid hk
  have HR := mkHid hkr
  have HS := mkHid hws
  have HN := mkHid hwn
  have hbs := d.bs
  have hpb := mkHid d.pb
  clear d hW hWs hWn hk hkr hW0 hws hwn hn hus
  go_enter Try.func17, Try.ntmps17
  go_wp2_with fail
  refine LN.out.mono ?_
  rintro e w1 ⟨rfl, ys, A1, D1, C1⟩
  have hso : SrtN ys ∧ ys.length ≤ 1000 := by have := HS.out; rw [← A1, abs_srt, abs_len] at this; exact this
  have hnm : ∀ p ∈ ys, p.1.length ≤ 64 := fun p hp => by
    have := HN.out (p.1, (p.2.l, p.2.k)) (by rw [← A1]; exact List.mem_map_of_mem hp)
    exact this
  have L2 := mkHid (loseBytes_any base f q st mo ys [] keeps Pk Ck w1 hso.2 hnm hso.1 (fun w' hb => HK.out w' (C1.xtrans hb)) HR.out hkl rfl D1)
  have C1' := mkHid C1
  have A1' := mkHid A1
  clear D1 C1 A1 hso hnm
  go_wp2_with fail
  refine L2.out.mono ?_
  rintro e w2 ⟨rfl, ⟨zs, A2, D2⟩, C2⟩
  have L3 := mkHid (Stop_any base f q st 0 mo zs [] w2 D2 (by omega))
  have E2 : Hid (Chg P w w2) := C1'.out.xtrans C2
  have S1 := C1'.out.size
  have S2 := C2.size
  have A2' := mkHid A2
  have pf := D2.pf
  clear D2 C2 A2
  go_wp2_with fail
  refine L3.out.mono ?_
  rintro e w3 ⟨rfl, D3, C3, S3⟩
  have E3 : Hid (Dsk (ext P w w3) w3 base f q 0 mo zs []) := by
    refine D3.more (fun i hi => ?_) (ext_bd hbs (by have := C3.size; omega) hpb.out)
    rcases hi with hi | hi
    · exact Or.inl hi
    · exact Or.inr ⟨hi.1, by have := C3.size; omega⟩
  have F3 : Hid (Chg P w w3) := E2.out.step C3 (fun i e => by
    subst e
    rcases pf with h | h
    · exact Or.inl h
    · exact Or.inr h.1)
  clear D3 C3
  go_wp2_with fail
  go_end0
  exact ⟨rfl, zs, by rw [A2'.out, A1'.out], E3.out, F3.out⟩
end Go.Proofs.Ytdiehlioemmakaa

namespace Go.Proofs.Ytdiehlioemmakaa
open Go.RowKit Go.Maps Go.Joins
variable {F : Nat → Prop}

/-- a file's variable, and the bytes made anew for it -/
theorem boxed {w w2 w3 : World} {f B : Nat} {v3 u0 u1 : Value} {l : List UInt8} (hB : w2.heap[B]? = some (.cells #[u0, u1] 98 (0, 0))) (hBw : w.heap.size ≤ B) (hf : f < w.heap.size) (k2 : Keep f w w2) (hg3 : (w2.alloc (.cells #[] 5)).grownBy w3 (some w2.heap.size)) :
    w3.heap[B]? = some (.cells #[u0, u1] 98 (0, 0)) ∧ Keep f w w3 ∧ w3.heap[f]? = w2.heap[f]? ∧ ∀ (A : World) (j : Nat) (u : Value), Keep f w A → ownsB A w2.heap.size v3 l → Keep f w (A.setCell ⟨B, j, none⟩ u) ∧ (A.setCell ⟨B, j, none⟩ u).heap[f]? = A.heap[f]? ∧ ownsB (A.setCell ⟨B, j, none⟩ u) w2.heap.size v3 l := by
  have hBl := lt_of_heap hB
  have s2 := k2.size
  refine ⟨(hg3.block B (by simp; omega) (by simp; omega)).trans ((Below.heap_alloc _ _ B hBl).trans hB), (k2.trans (Keep.alloc _)).more hg3 (fun j e => by simp at e; omega), (hg3.block f (by simp; omega) (by simp; omega)).trans (Below.heap_alloc _ _ f (by omega)), fun A j u kA oA => ?_⟩
  exact ⟨kA.more (grown_setCell A ⟨B, j, none⟩ u) (fun i e => by simp at e; omega), heap_setCell_other A ⟨B, j, none⟩ f u (by show f ≠ B; omega), (Chg.of_cell A ⟨B, j, none⟩ u).row oA (fun g hg hh => by have := own_ge oA g hg; simp only at hh; omega)⟩
theorem file_own {w w2 : World} {f n k : Nat} {v : Value} {l : List UInt8} (h : ownsB w n v l) (hf : f < n) (hF : ∀ i, F i → i < n) (_ : w2 = w2) : fileIn F w f (v, .int .i64 (k : Int)) (l, k) := ⟨rfl, rd1_own h hf hF⟩
theorem rd_in {w W : World} {f : Nat} {l : List UInt8} {p : Option Addr} {c L : Nat} (h : rd1 F w f (.slice p L c) (by8 l)) (hL : L = l.length) (hk : Keep f w W) (k : Nat) : byIn W p (l.take k) ∧ (p = none → c = 0) ∧ L ≤ c ∧ c ≤ 9223372036854775807 := by
  subst hL
  have := by_take h k hk
  exact ⟨this.1, fun e => (this.2.1 e).1, this.2.2⟩
theorem sl_none (c : Nat) (p : Option Addr) : (if c = 0 then p else Option.map (fun x => x.add 0) p) = p := by
  cases p with
  | none => simp
  | some a => simp [Addr.add]
set_option maxHeartbeats 8000000 in
set_option maxRecDepth 1000000 in
theorem refCut_ok (f : Nat) (s : St) (n : List UInt8) (K : Nat) (w : World) (h : Rf F w f s) (hl : -9223372036854775808 ≤ s.left ∧ s.left ≤ 9223372036854775807) (hb : s.ways.length ≤ 9000000) (hn : s.now.length ≤ 4000000) (hm : s.fs.length ≤ 9000000) (hok : StOk s) (h0 : atE n s.now = 0) (hK : K ≤ (getF s n).1.length) (hlen : (getF s n).1.length ≤ 100000000) :
    Calls Try.prog 35 #[.pointer (some ⟨f, 0, none⟩), .string ⟨n.toArray⟩, .int .i64 (K : Int)] w fun e w' => e = .returned (.int .i64 (cuE n K s)) ∧ Rf F w' f (cuS n K s) ∧ Keep f w w' := by
  have AT := at_any f s n w h hb (by omega)
  obtain ⟨i, x, hI, hx, hF⟩ := at_file hok h0
  have hgx : getF s n = x := by unfold getF; rw [hF, List.getD_eq_getElem?_getD, Int.toNat_natCast, hx]; rfl
  rw [h0, hI] at AT
  have AT2 := mkHid AT
  have hiu := (List.getElem?_eq_some_iff.1 hx).1
  rw [hgx] at hK
  have nb : ¬ ((K : Int) < 0 ∨ ((getF s n).1.length : Int) < (K : Int)) := by rw [hgx]; omega
  rw [hgx] at hlen
  obtain ⟨x1, x2⟩ := x
  simp only at hlen
  obtain ⟨L, hL⟩ : ∃ L, L = x1.length := ⟨_, rfl⟩
  have C : Hid (∀ w1, w.grownBy w1 none → ∃ g o c vW pB cB, RB w1 f s.q s.left (.slice (some ⟨g, o, none⟩) s.fs.length c) vW s.dead ∧ w1.cell? ⟨g, o + i * 2, none⟩ = some (.slice pB L cB) ∧ w1.cell? ⟨g, o + i * 2 + 1, none⟩ = some (.int .i64 (x2 : Int)) ∧ rd1 F w1 f (.slice pB L cB) (by8 x1)) := by rw [hL]; exact fun w1 g1 => file_at (h.grown g1) hx
  obtain ⟨vF, vW, h1, h2, h3⟩ := h.fs
  have hS : Hid (∀ w1, Keep f w w1 → RB w1 f s.q s.left vF vW s.dead → Calls Try.prog 67 #[.pointer (some ⟨f, 0, none⟩)] w1 fun e w' => e = .returned (.bool (stp s).2) ∧ RB w' f s.q (stp s).1.left vF vW (stp s).1.dead ∧ Keep f w1 w') := fun w1 k hB => by
    have := stops_any f s.q s.left vF vW s.dead w1 hl hB
    obtain ⟨e1, e2⟩ := stp_same s
    rw [e1, e2]; exact this
  have HLL : Hid (L = x1.length) := hL
  have HRB : Hid (RB w f s.q s.left vF vW s.dead) := h1
  have hfw := lt_of_heap h1
  have fbw := mkHid h.fb
  have u2 : (i : Int) < (s.fs.length : Int) := by omega
  have u3 : (s.fs.length : Int) ≤ 9000000 := by omega
  have hLL : L ≤ 100000000 := by omega
  have FIN : Hid (∀ W, Keep f w W → RB W f s.q (stp s).1.left vF vW (stp s).1.dead → Rf F W f (stp s).1) := fun W k hB => Rf.of h.fb h2 h3 h.ne k (by rw [(stp_ways s).2.2]; exact hB) (stp_ways s).2.1 (stp_ways s).1
  have HM : Hid ((stp s).1.fs.length ≤ 9000000) := by show _ ≤ _; rw [(stp_ways s).2.1]; exact hm
  have HI : Hid (i < (stp s).1.fs.length) := by show _ < _; rw [(stp_ways s).2.1]; exact hiu
  have hKL : K ≤ L := by simp only at hK; omega
  have hKi : ¬ (L : Int) < (K : Int) := by omega
  have hwr : IntKind.i64.wrap (K : Int) = (K : Int) := by rw [IntKind.wrap_i64]; omega
  cases hd : (stp s).2 with
  | true =>
    rw [hd] at hS
    have r1 : cuE n K s = 44 := by unfold cuE; rw [if_neg (by rw [h0]; simp), if_neg nb, if_pos hd]
    have r2 : cuS n K s = (stp s).1 := by unfold cuS; rw [if_neg (by rw [h0]; simp), if_neg nb, if_pos hd]
    rw [r1, r2]
    generalize s.fs.length = M at *
    clear AT h hl hb hn hm hok h0 hI hx hF hgx hL r1 r2 nb h1 h2 h3 hd hK hlen
    go_enter Try.func35, Try.ntmps35
    go_wp2_with fail
    refine AT2.out.mono ?_
    rintro e w1 ⟨rfl, g1⟩
    obtain ⟨g, o, c, vW', pB, cB, hR, y1, y2, hr⟩ := C.out w1 g1
    obtain ⟨_, z1, _, _, _, _⟩ := RB.c hR
    have HR := mkHid hr
    have G1 := mkHid g1
    have s1 := g1.size
    have K1 : Hid (∀ o, Keep f w (w1.alloc o)) := fun o => (Keep.grown g1).trans (Keep.alloc o)
    have R1 : Hid (∀ o, RB (w1.alloc o) f s.q s.left vF vW s.dead) := fun o => (Below.heap_alloc _ _ f (by omega)).trans ((g1.block f hfw (by simp)).trans HRB.out)
    clear hR hr g1
    go_wp2_with fail
    refine (hS.out _ (K1.out _) (R1.out _)).mono ?_
    rintro e w2 ⟨rfl, hB2, k2⟩
    have KK : Hid (Keep f w w2) := (K1.out _).trans k2
    have HB2 := mkHid hB2
    clear hB2 k2
    go_wp2_with fail
    go_ret
    exact ⟨rfl, FIN.out _ KK.out HB2.out, KK.out⟩
  | false =>
    rw [hd] at hS
    have r1 : cuE n K s = 0 := by unfold cuE; rw [if_neg (by rw [h0]; simp), if_neg nb, if_neg (by rw [hd]; simp)]
    have r2 : cuS n K s = { (stp s).1 with fs := (stp s).1.fs.set i (x1.take K, min x2 K) } := by unfold cuS; rw [if_neg (by rw [h0]; simp), if_neg nb, if_neg (by rw [hd]; simp), hgx, hF, Int.toNat_natCast, Int.toNat_natCast]
    rw [r1, r2]
    generalize s.fs.length = M at *
    generalize (stp s).1 = s' at *
    clear AT h hl hb hn hm hok h0 hI hx hF hgx hL r1 r2 nb h1 h2 h3 hd hK hlen
    go_enter Try.func35, Try.ntmps35
    go_wp2_with fail
    refine AT2.out.mono ?_
    rintro e w1 ⟨rfl, g1⟩
    obtain ⟨g, o, c, vW', pB, cB, hR, y1, y2, hr⟩ := C.out w1 g1
    obtain ⟨_, z1, _, _, _, _⟩ := RB.c hR
    have HR := mkHid hr
    have G1 := mkHid g1
    have s1 := g1.size
    have K1 : Hid (∀ o, Keep f w (w1.alloc o)) := fun o => (Keep.grown g1).trans (Keep.alloc o)
    have R1 : Hid (∀ o, RB (w1.alloc o) f s.q s.left vF vW s.dead) := fun o => (Below.heap_alloc _ _ f (by omega)).trans ((g1.block f hfw (by simp)).trans HRB.out)
    clear hR hr g1
    go_wp2_with fail
    refine (hS.out _ (K1.out _) (R1.out _)).mono ?_
    rintro e w2 ⟨rfl, hB2, k2⟩
    have k20 : Keep f w w2 := (K1.out _).trans k2
    have hbx : w2.heap[w1.heap.size]? = some (.cells #[.slice pB L cB, .int .i64 (x2 : Int)] 98 (0, 0)) := (k2.block _ (by simp) (by omega)).trans (heap_alloc_new _ _)
    obtain ⟨hin, hcn, hLc, hcm⟩ := rd_in HR.out HLL.out (show Keep f w1 (w2.alloc (.cells #[] 5)) from ((Keep.alloc _).trans k2).trans (Keep.alloc _)) K
    have htl : (x1.take K).length = K := by have : L = x1.length := HLL.out; rw [List.length_take]; omega
    obtain ⟨v3, w3, hrun3, ho3, hg3, _⟩ := app_run w2.heap.size (.slice (some ⟨w2.heap.size, 0, none⟩) 0 0) [] (x1.take K) pB K cB (w2.alloc (.cells #[] 5)) (World.ownsRow_made w2 #[] 0 (Nat.le_refl _) (by unfold maxLen; omega) rfl) hin htl.symm hcn (by rw [htl]; simp; omega) (by simp)
    rw [List.nil_append] at ho3
    obtain ⟨hb3, k3, f3, nxt⟩ := boxed (v3 := v3) (l := x1.take K) hbx s1 hfw k20 hg3
    obtain ⟨k4, f4, o4⟩ := nxt w3 0 v3 k3 ho3
    obtain ⟨k5, f5, o5⟩ := nxt _ 1 (.int .i64 (K : Int)) k4 o4
    have hb4 : (w3.setCell ⟨w1.heap.size, 0, none⟩ v3).heap[w1.heap.size]? = some (.cells #[v3, .int .i64 (x2 : Int)] 98 (0, 0)) := (heap_setCell_same w3 _ 0 _ _ _ hb3).trans rfl
    have hb5 : ((w3.setCell ⟨w1.heap.size, 0, none⟩ v3).setCell ⟨w1.heap.size, 1, none⟩ (.int .i64 (K : Int))).heap[w1.heap.size]? = some (.cells #[v3, .int .i64 (K : Int)] 98 (0, 0)) := (heap_setCell_same _ _ 1 _ _ _ hb4).trans rfl
    have s20 := k20.size
    have hf2 : f < w2.heap.size := by omega
    have hF2 : ∀ i, F i → i < w2.heap.size := fun i hi => by have := fbw.out i hi; omega
    have RB4 : RB (w3.setCell ⟨w1.heap.size, 0, none⟩ v3) f s.q s'.left vF vW s'.dead := f4.trans (f3.trans hB2)
    have CALL4 : Hid (Calls Try.prog 60 #[.pointer (some ⟨f, 0, none⟩), .int .i64 (i : Int), .agg #[v3, .int .i64 (x2 : Int)]] (w3.setCell ⟨w1.heap.size, 0, none⟩ v3) fun e w' => e = .returned (.tuple #[]) ∧ Rf F w' f { s' with fs := s'.fs.set i (x1.take K, x2) } ∧ Keep f (w3.setCell ⟨w1.heap.size, 0, none⟩ v3) w') := set_any f i s' _ _ _ _ (FIN.out _ k4 RB4) (file_own (w2 := w2) o4 hf2 hF2 rfl) HI.out HM.out
    have CALL5 : Hid (Calls Try.prog 60 #[.pointer (some ⟨f, 0, none⟩), .int .i64 (i : Int), .agg #[v3, .int .i64 (K : Int)]] ((w3.setCell ⟨w1.heap.size, 0, none⟩ v3).setCell ⟨w1.heap.size, 1, none⟩ (.int .i64 (K : Int))) fun e w' => e = .returned (.tuple #[]) ∧ Rf F w' f { s' with fs := s'.fs.set i (x1.take K, K) } ∧ Keep f ((w3.setCell ⟨w1.heap.size, 0, none⟩ v3).setCell ⟨w1.heap.size, 1, none⟩ (.int .i64 (K : Int))) w') := set_any f i s' _ _ _ _ (FIN.out _ k5 (f5.trans RB4)) (file_own (w2 := w2) o5 hf2 hF2 rfl) HI.out HM.out
    have KK4 := mkHid k4
    have KK5 := mkHid k5
    have bx0 : w2.cell? ⟨w1.heap.size, 0, none⟩ = some (.slice pB L cB) := (cell_of_block hbx 0).trans rfl
    have ax0 : (w2.alloc (.cells #[] 5)).cell? ⟨w1.heap.size, 0, none⟩ = some (.slice pB L cB) := (World.grownBy_alloc w2 _ none).cell bx0 (by simp)
    have b30 : w3.cell? ⟨w1.heap.size, 0, none⟩ = some (.slice pB L cB) := (cell_of_block hb3 0).trans rfl
    have b3f := unfrozen_of_block hb3 0
    have b40 : (w3.setCell ⟨w1.heap.size, 0, none⟩ v3).cell? ⟨w1.heap.size, 0, none⟩ = some v3 := (cell_of_block hb4 0).trans rfl
    have b41 : (w3.setCell ⟨w1.heap.size, 0, none⟩ v3).cell? ⟨w1.heap.size, 1, none⟩ = some (.int .i64 (x2 : Int)) := (cell_of_block hb4 1).trans rfl
    have b4f := unfrozen_of_block hb4 1
    have b50 : ((w3.setCell ⟨w1.heap.size, 0, none⟩ v3).setCell ⟨w1.heap.size, 1, none⟩ (.int .i64 (K : Int))).cell? ⟨w1.heap.size, 0, none⟩ = some v3 := (cell_of_block hb5 0).trans rfl
    have b51 : ((w3.setCell ⟨w1.heap.size, 0, none⟩ v3).setCell ⟨w1.heap.size, 1, none⟩ (.int .i64 (K : Int))).cell? ⟨w1.heap.size, 1, none⟩ = some (.int .i64 (K : Int)) := (cell_of_block hb5 1).trans rfl
    obtain ⟨P3, C3, N3, hv3⟩ := own_form3 ho3
    subst hv3
    have hKc : ¬ cB < K := by omega
    have hz0 := sl_none cB pB
    have hlt3 := lt_of_heap hb3
    clear hB2 k2 k20 hbx hin hg3 ho3 hb3 k3 f3 nxt k4 f4 o4 k5 f5 o5 hb4 hb5 RB4 hF2 s20 K1 R1 HR G1 hcn hLc hcm htl
    by_cases hx2 : K < x2
    · have hx2i : (K : Int) < (x2 : Int) := by omega
      have hmin : Hid (min x2 K = K) := Nat.min_eq_right (Nat.le_of_lt hx2)
      go_wp2_with (at_builtin; refine list_app 27 rfl (.tmp 37) (.tmp 41) rfl rfl rfl hrun3 ?_)
      refine CALL5.out.mono ?_
      rintro e w5 ⟨rfl, R5, k5⟩
      have R5' := mkHid R5
      clear R5
      go_wp2_with fail
      go_ret
      exact ⟨rfl, by rw [hmin.out]; exact R5'.out, KK5.out.trans k5⟩
    · have hx2i : ¬ (K : Int) < (x2 : Int) := by omega
      have hmin : Hid (min x2 K = x2) := Nat.min_eq_left (by omega)
      go_wp2_with (at_builtin; refine list_app 27 rfl (.tmp 37) (.tmp 41) rfl rfl rfl hrun3 ?_)
      refine CALL4.out.mono ?_
      rintro e w5 ⟨rfl, R5, k5⟩
      have R5' := mkHid R5
      clear R5
      go_wp2_with fail
      go_ret
      exact ⟨rfl, by rw [hmin.out]; exact R5'.out, KK4.out.trans k5⟩
end Go.Proofs.Ytdiehlioemmakaa

