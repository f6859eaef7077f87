/-
  Walks: what is on the way, told exactly, in memory to write on.
-/
import Derived.Test.YtbdlamlplfogjaaGI
import Derived.Test.YtbdlamlplfogjaaNxGx
import Derived.Deep.RegionHeld3
namespace Go.Proofs.Ytbdlamlplfogjaa
open Go.RowKit Go.Maps Go.Joins
variable {P : Nat → Prop} {w w' : World} {n c : Nat} {S : St} {L : Ly}

theorem byB.grown' {v : Value} {k : Nat} (h : byB w v k) (g : w.grownBy w' none) : byB w' v k := h.kept (Chg.of_none g (fun _ => False)) (fun _ _ e => e)
/-- the first k packets told, each with bytes of its own to write on -/
def FlI (w : World) (l : List Pk) (k : Nat) (v : Value) (wr : World) : Prop := w.grownBy wr none ∧ ∃ (gs cs : Nat → Nat) (xs : List Value), shr wr 97 6 v k xs ∧ (∀ g, v.ownBlock = some g → w.heap.size ≤ g) ∧ (∀ u ∈ xs, u.oneCell' = true) ∧ (∀ j, j < k → ∀ p, l[j]? = some p → (xs.drop (j * 6)).take 6 = rpL p (.slice (some ⟨gs j, 0, none⟩) p.x.data.toList.length (cs j)) ∧ byB wr (.slice (some ⟨gs j, 0, none⟩) p.x.data.toList.length (cs j)) p.x.data.toList.length ∧ bys wr (some ⟨gs j, 0, none⟩) p.x.data.toList ∧ w.heap.size ≤ gs j ∧ gs j < wr.heap.size) ∧ ∀ i j, i < j → j < k → gs i < gs j
theorem FlI_nil (w : World) (l : List Pk) : FlI w l 0 (.slice none 0 0) w := ⟨grown_refl w, fun _ => 0, fun _ => 0, [], shr_nil _ _ _, fun g hg => by simp [Value.ownBlock] at hg, fun u hu => by simp at hu, fun j hj => by omega, fun i j _ hj => by omega⟩
theorem FlI_push {l : List Pk} {k : Nat} {v v5 : Value} {wr w2 w3 w5 : World} {p : Pk} {cc : Nat} {news xs : List Value} {gs cs : Nat → Nat} (gr : w.grownBy wr none) (sx : shr wr 97 6 v k xs) (nx : ∀ g, v.ownBlock = some g → w.heap.size ≤ g) (ox : ∀ u ∈ xs, u.oneCell' = true) (cx : ∀ j, j < k → ∀ p, l[j]? = some p → (xs.drop (j * 6)).take 6 = rpL p (.slice (some ⟨gs j, 0, none⟩) p.x.data.toList.length (cs j)) ∧ byB wr (.slice (some ⟨gs j, 0, none⟩) p.x.data.toList.length (cs j)) p.x.data.toList.length ∧ bys wr (some ⟨gs j, 0, none⟩) p.x.data.toList ∧ w.heap.size ≤ gs j ∧ gs j < wr.heap.size) (dx : ∀ i j, i < j → j < k → gs i < gs j)
    (hp : l[k]? = some p) (g2 : wr.grownBy w2 none) (g3 : w2.grownBy w3 none) (hy : bys w3 (some ⟨w2.heap.size, 0, none⟩) p.x.data.toList) (hb : byB w3 (.slice (some ⟨w2.heap.size, 0, none⟩) p.x.data.toList.length cc) p.x.data.toList.length) (hn : news = rpL p (.slice (some ⟨w2.heap.size, 0, none⟩) p.x.data.toList.length cc)) {o : Obj} (s5 : shr w5 97 6 v5 (k + 1) (xs ++ news)) (g5 : (w3.alloc o).grownBy w5 v.ownBlock) (o5 : v5.ownBlock = v.ownBlock ∨ ∃ g, v5.ownBlock = some g ∧ (w3.alloc o).heap.size ≤ g ∧ g < w5.heap.size) : FlI w l (k + 1) v5 w5 := by
  have g34 : w3.grownBy (w3.alloc o) none := grown_al (grown_refl _) _
  have gA : wr.grownBy (w3.alloc o) none := grown_none_trans (grown_none_trans g2 g3) g34
  have C5 := Chg.of_grown g5
  have ne : ∀ g, kd (w3.alloc o) g = 5 + 2 → g < wr.heap.size ∨ g = w2.heap.size → v.ownBlock ≠ some g := fun g hk _ e => by
    have := ((sx.kept (Chg.of_none gA (fun _ => False)) (fun _ _ e => e)).kd g e).1
    rw [hk] at this; simp at this
  have hl : news.length = 6 := by rw [hn]; rfl
  refine ⟨grown_new (grown_none_trans gr gA) g5 nx, fun j => if j = k then w2.heap.size else gs j, fun j => if j = k then cc else cs j, xs ++ news, s5, fun g hg => ?_, fun u hu => ?_, fun j hj q hq => ?_, fun i j hij hj => ?_⟩
  · rcases o5 with e | ⟨g', e, h1, _⟩
    · exact nx g (by rw [← e]; exact hg)
    · rw [hg] at e; cases e
      exact Nat.le_trans (grown_none_trans gr gA).size h1
  · rcases List.mem_append.1 hu with e | e
    · exact ox u e
    · rw [hn] at e
      simp only [rpL, List.mem_cons, List.mem_nil_iff, or_false] at e
      rcases e with rfl | rfl | rfl | rfl | rfl | rfl <;> rfl
  · by_cases e : j = k
    · subst e
      rw [hp] at hq
      injection hq with hq
      subst hq
      simp only [if_pos]
      have hb4 := hb.grown' g34
      have hk4 := (hb4.kd w2.heap.size rfl)
      refine ⟨by rw [(take_at_app (k := 0) sx.1 hl).2]; exact hn, hb4.kept C5 (fun g hg e => by cases hg; exact ne _ hk4.1 (Or.inr rfl) e), (hy.chg (Chg.of_none g34 (fun _ => False)) (fun _ _ e => e)).chg C5 (fun a ha e => by cases ha; exact ne _ hk4.1 (Or.inr rfl) e), Nat.le_trans gr.size g2.size, ?_⟩
      have := C5.size
      have := hk4.2
      omega
    · have hj' : j < k := by omega
      obtain ⟨c1, c2, c3, c4, c5⟩ := cx j hj' q hq
      simp only [if_neg e]
      have hb4 := c2.grown' gA
      have hk4 := hb4.kd (gs j) rfl
      refine ⟨by rw [(take_at_app sx.1 hl).1 hj']; exact c1, hb4.kept C5 (fun g hg e => by cases hg; exact ne _ hk4.1 (Or.inl c5) e), (c3.chg (Chg.of_none gA (fun _ => False)) (fun _ _ e => e)).chg C5 (fun a ha e => by cases ha; exact ne _ hk4.1 (Or.inl c5) e), c4, ?_⟩
      have := C5.size
      have := gA.size
      omega
  · by_cases e : j = k
    · subst e
      have ei : i ≠ j := by omega
      simp only [if_pos, if_neg ei]
      cases hq : l[i]? with
      | none =>
        have h1 := (List.getElem?_eq_some_iff.1 hp).1
        have h2 := List.getElem?_eq_none_iff.1 hq
        omega
      | some q =>
        have := (cx i hij q hq).2.2.2.2
        have := g2.size
        omega
    · have ei : i ≠ k := by omega
      simp only [if_neg e, if_neg ei]
      exact dx i j hij (by omega)
/-- what Flights answers -/
def FlQ (w : World) (l : List Pk) (r : Ending) (w' : World) : Prop := ∃ v, r = .returned v ∧ FlI w l l.length v w'
set_option maxHeartbeats 2000000 in
set_option maxRecDepth 100000 in
theorem Flights_all (h : NetL P w n c S L) (hl : S.fl.length ≤ 100000) : Calls Try.prog 13 #[.pointer (some ⟨n, 0, none⟩)] w (FlQ w S.fl) := by
  obtain ⟨c0, c1, c2, _⟩ := h.cs
  obtain ⟨pf, cf, hfv, hfc, _⟩ := h.fly.form
  rw [hfv] at c2
  have hn := lt_of_heap h.net
  have H := mkHid h
  have HV := mkHid hfv
  obtain ⟨N, hN⟩ : ∃ N, N = S.fl.length := ⟨_, rfl⟩
  have HN := mkHid hN
  rw [← hN] at c2 hl
  clear h hfv hN hfc
  go_enter Try.func13, Try.ntmps13
  go_wp2_with fail
  go_loopw [3, 12] (fun s3 s12 wr => ∃ k : Nat, s12 = .int .i64 (k : Int) ∧ k ≤ N ∧ Hid (FlI w S.fl k s3 wr)) (fun _ s12 _ => N - (intOf s12).toNat)
  case atStart => exact ⟨0, rfl, Nat.zero_le _, mkHid (FlI_nil w S.fl)⟩
  case round =>
    rename_i s3 s12
    obtain ⟨k, rfl, hk, NR⟩ := hrel
    by_cases hlt : k < N
    · have hlti : (k : Int) < (N : Int) := by omega
      obtain ⟨p, hp⟩ : ∃ p, S.fl[k]? = some p := ⟨_, List.getElem?_eq_getElem (show k < S.fl.length by rw [← show N = S.fl.length from HN.out]; exact hlt)⟩
      obtain ⟨gr, gs, cs0, xs, sx, nx, ox, cx, dx⟩ := NR.out
      obtain ⟨g, off, cap, hv, hg, _, q0, q1, q2, q3, q4, q5⟩ := (H.out.kept gr).fly.pk hp
      have hv2 : pf = some ⟨g, off, none⟩ := by have := HV.out; rw [hv] at this; cases this; rfl
      subst hv2
      obtain ⟨ps, cs, rfl, _⟩ := sx.form
      have GO : Hid (∀ w, Calls Try.prog 46 #[.agg #[.int .i64 p.f, .int .i64 p.t, .bool p.ack, .int .u64 p.s, .int .u64 p.e, .string p.x]] w fun e w' => e = .returned (.agg #[.int .i64 ((if p.ack then p.t else p.f : Nat) : Int), .int .i64 ((if p.ack then p.f else p.t : Nat) : Int)]) ∧ w.grownBy w' none) := fun w => by
        have := goes_any p w
        unfold pkV ky at this
        exact this
      obtain ⟨A, hA⟩ : ∃ A : Nat, A = if p.ack then p.t else p.f := ⟨_, rfl⟩
      obtain ⟨D, hD⟩ : ∃ D : Nat, D = if p.ack then p.f else p.t := ⟨_, rfl⟩
      rw [← hA, ← hD] at GO
      have HAD : Hid (A = pkFr p ∧ D = pkTo p) := ⟨hA, hD⟩
      clear hA hD hv hg
      have SX := mkHid sx
      have GR := mkHid gr
      have NX := mkHid nx
      have OX := mkHid ox
      have CX := mkHid cx
      have DX := mkHid dx
      have B0 := mkHid (heap_alloc_new wr (.cells #[.int .i64 p.f, .int .i64 p.t, .bool p.ack, .int .u64 p.s, .int .u64 p.e, .string p.x] 79))
      clear sx gr nx ox cx dx
      go_wp2_with fail
      refine (GO.out _).mono ?_
      rintro e w2 ⟨rfl, g2⟩
      have X2 := box_keep B0.out g2 (by simp)
      obtain ⟨a0, a1, a2, a3, a4, a5, _⟩ := cells6 X2
      have lt2 := lt_of_heap X2
      have gw2 : wr.grownBy (w2.alloc (.cells #[.int .i64 A, .int .i64 D] 76)) none := grown_al (grown_none_trans (World.grownBy_alloc wr _ none) g2) _
      obtain ⟨cc, w3, cv, g3, sz3, by3, bb3⟩ := conv_strK (w2.alloc (.cells #[.int .i64 A, .int .i64 D] 76)) p.x
      have gw3 := grown_none_trans gw2 g3
      have gw4 := grown_al gw3 (.cells #[.int .i64 A, .int .i64 D, .bool p.ack, .int .u64 p.s, .int .u64 p.e, .slice (some ⟨w2.heap.size + 1, 0, none⟩) p.x.data.toList.length cc] 97)
      have s4 := SX.out.kept (Chg.of_none gw4 (fun _ => False)) (fun _ _ e => e)
      have n4 := heap_alloc_new w3 (.cells #[.int .i64 A, .int .i64 D, .bool p.ack, .int .u64 p.s, .int .u64 p.e, .slice (some ⟨w2.heap.size + 1, 0, none⟩) p.x.data.toList.length cc] 97)
      obtain ⟨v5, w5, hr, s5, g5, o5⟩ := rwA.app (c := 1) s4 (m := 1) (news := [.int .i64 A, .int .i64 D, .bool p.ack, .int .u64 p.s, .int .u64 p.e, .slice (some ⟨w2.heap.size + 1, 0, none⟩) p.x.data.toList.length cc]) rfl (one_of n4) (by intro u hu; simp only [List.mem_cons, List.mem_nil_iff, or_false] at hu; rcases hu with rfl | rfl | rfl | rfl | rfl | rfl <;> rfl) (by omega) (by omega)
      have sz2 : (w2.alloc (.cells #[.int .i64 A, .int .i64 D] 76)).heap.size = w2.heap.size + 1 := by simp
      rw [sz2] at by3 bb3
      have hp3 : S.fl[k]? = some p := hp
      have NN : Hid (FlI w S.fl (k + 1) v5 w5) := FlI_push GR.out SX.out NX.out OX.out CX.out DX.out hp3 gw2 g3 (by rw [sz2]; exact by3) (by rw [sz2]; exact bb3) (by rw [sz2, HAD.out.1, HAD.out.2]; rfl) s5 g5 o5
      rw [World.size_alloc] at cv
      clear s4 n4 s5 g5 o5 gw2 gw3 gw4 g3 g2 X2 sz3 by3 bb3 sz2 hp3
      go_wp2_with (first | (at_builtin; refine wp_app 44 rfl (.tmp 18) (.tmp 33) rfl rfl rfl hr ?_) | fail)
      go_roundw
      case rel => exact ⟨k + 1, by go_num, hlt, NN⟩
      case measure => simp [intOf]; omega
    · obtain rfl : k = N := by omega
      obtain ⟨gr, gs, cs0, xs, sx, _⟩ := NR.out
      obtain ⟨ps, cs, rfl, _⟩ := sx.form
      have FF := mkHid NR.out
      clear gr sx NR
      go_wp2_with fail
      go_ret
      exact ⟨_, rfl, by rw [← show k = S.fl.length from HN.out]; exact FF.out⟩
end Go.Proofs.Ytbdlamlplfogjaa
namespace Go.Proofs.Ytbdlamlplfogjaa
open Go.RowKit Go.Maps Go.Joins
variable {P : Nat → Prop} {w w' : World} {n c d : Nat} {S : St} {L : Ly}

set_option maxHeartbeats 2000000 in
set_option maxRecDepth 100000 in
theorem same_any (f t s e : Int) (a : Bool) (l : List UInt8) (p1 p2 : Option Addr) (c1 c2 : Nat) (h1 : bys w p1 l) (h2 : bys w p2 l) : Calls Try.prog 45 #[.agg #[.int .i64 f, .int .i64 t, .bool a, .int .u64 s, .int .u64 e, .slice p1 l.length c1], .agg #[.int .i64 f, .int .i64 t, .bool a, .int .u64 s, .int .u64 e, .slice p2 l.length c2]] w fun r w' => r = .returned (.bool true) ∧ w.grownBy w' none := by
  have cv : Hid (∀ W, w.grownBy W none → (convert 27 9 (.slice p1 l.length c1)).run Try.prog W = .ok (.string ⟨l.toArray⟩) W ∧ (convert 27 9 (.slice p2 l.length c2)).run Try.prog W = .ok (.string ⟨l.toArray⟩) W) := fun W g => ⟨(h1.grown g).conv' c1, (h2.grown g).conv' c2⟩
  have g2 := grown_al (grown_al (grown_refl w) (.cells #[.int .i64 f, .int .i64 t, .bool a, .int .u64 s, .int .u64 e, .slice p1 l.length c1] 97)) (.cells #[.int .i64 f, .int .i64 t, .bool a, .int .u64 s, .int .u64 e, .slice p2 l.length c2] 97)
  obtain ⟨v1, v2⟩ := cv.out _ g2
  have G := mkHid g2
  clear h1 h2 cv g2
  go_enter Try.func45, Try.ntmps45
  go_wp2_with fail
  go_ret
  exact ⟨rfl, G.out⟩
/-- what is on the way, as the document has it in memory -/
def AD (w : World) (d : Nat) (l : List Pk) : Prop := ∃ Q v, w.cell? ⟨d, 3, none⟩ = some v ∧ rwR w Q 97 6 v l.length (aiR w Q l) ∧ ∀ i, Q i → i < w.heap.size
theorem RL.ad {Q : Nat → Prop} {T : Nat → Nat → List ByteArray} {R : Lr} (h : RL Q w d S T R) : AD w d S.fl := ⟨Q, R.av, h.cs.2.2.2.1, h.ar, h.pb⟩
theorem AD.kept {l : List Pk} (h : AD w d l) (g : w.grownBy w' none) : AD w' d l := by
  obtain ⟨Q, v, h1, h2, h3⟩ := h
  exact ⟨Q, v, g.cell h1 (by simp), h2.mv (Chg.of_none g (fun _ => False)) (fun _ _ _ e => e) (fun _ e => e) (fun k ys _ hr m hm => by obtain ⟨bv, e, hv⟩ := hr m hm; exact ⟨bv, e, hv.kept h3 g (fun _ e => e)⟩), fun i hi => Nat.lt_of_lt_of_le (h3 i hi) g.size⟩
/-- a packet of it where it lies -/
theorem AD.at {l : List Pk} (h : AD w d l) {k : Nat} {p : Pk} (hp : l[k]? = some p) : ∃ g o c pb cb, w.cell? ⟨d, 3, none⟩ = some (.slice (some ⟨g, o, none⟩) l.length c) ∧ w.cell? ⟨g, o + k * 6, none⟩ = some (.int .i64 (pkFr p : Int)) ∧ w.cell? ⟨g, o + k * 6 + 1, none⟩ = some (.int .i64 (pkTo p : Int)) ∧ w.cell? ⟨g, o + k * 6 + 2, none⟩ = some (.bool p.ack) ∧ w.cell? ⟨g, o + k * 6 + 3, none⟩ = some (.int .u64 (p.s : Int)) ∧ w.cell? ⟨g, o + k * 6 + 4, none⟩ = some (.int .u64 (p.e : Int)) ∧ w.cell? ⟨g, o + k * 6 + 5, none⟩ = some (.slice pb p.x.data.toList.length cb) ∧ bys w pb p.x.data.toList := by
  obtain ⟨Q, v, h1, h2, _⟩ := h
  have hk := (List.getElem?_eq_some_iff.1 hp).1
  obtain ⟨g, o, c, ys, hv, _, hR, hc, _⟩ := h2.cells hk
  obtain ⟨bv, hy, hb⟩ := hR p hp
  subst hy
  obtain ⟨pb, cb, rfl, hby, _⟩ := hb
  rw [hv] at h1
  exact ⟨g, o, c, pb, cb, h1, hc 0 _ rfl, hc 1 _ rfl, hc 2 _ rfl, hc 3 _ rfl, hc 4 _ rfl, hc 5 _ rfl, hby⟩
/-- a packet told where it lies -/
theorem FlI.at {w1 : World} {l : List Pk} {v : Value} (h : FlI w l l.length v w1) {k : Nat} {p : Pk} (hp : l[k]? = some p) : ∃ g o c pb cb, v = .slice (some ⟨g, o, none⟩) l.length c ∧ w1.cell? ⟨g, o + k * 6, none⟩ = some (.int .i64 (pkFr p : Int)) ∧ w1.cell? ⟨g, o + k * 6 + 1, none⟩ = some (.int .i64 (pkTo p : Int)) ∧ w1.cell? ⟨g, o + k * 6 + 2, none⟩ = some (.bool p.ack) ∧ w1.cell? ⟨g, o + k * 6 + 3, none⟩ = some (.int .u64 (p.s : Int)) ∧ w1.cell? ⟨g, o + k * 6 + 4, none⟩ = some (.int .u64 (p.e : Int)) ∧ w1.cell? ⟨g, o + k * 6 + 5, none⟩ = some (.slice pb p.x.data.toList.length cb) ∧ bys w1 pb p.x.data.toList := by
  obtain ⟨_, gs, cs, xs, sx, nx, ox, cx, dx⟩ := h
  have hk := (List.getElem?_eq_some_iff.1 hp).1
  obtain ⟨e1, _, e3, _⟩ := cx k hk p hp
  obtain ⟨pv, cv, hv, _, _, e4, _⟩ := sx.form
  cases pv with
  | none => have := (e4 rfl).1; omega
  | some a =>
    rw [hv] at sx
    obtain ⟨g, o, ha, hc⟩ := sx.cell
    subst ha
    have cell : ∀ m u, (rpL p (.slice (some ⟨gs k, 0, none⟩) p.x.data.toList.length (cs k)))[m]? = some u → w1.cell? ⟨g, o + k * 6 + m, none⟩ = some u := fun m u hm => by
      rw [← e1, List.getElem?_take] at hm
      split at hm
      · rw [List.getElem?_drop] at hm
        rw [Nat.add_assoc]; exact hc _ u hm
      · cases hm
    exact ⟨g, o, cv, _, _, hv, cell 0 _ rfl, cell 1 _ rfl, cell 2 _ rfl, cell 3 _ rfl, cell 4 _ rfl, cell 5 _ rfl, e3⟩
/-- what is left to write over from the place j on -/
def FW (w : World) (l : List Pk) (g o : Nat) (gs cs : Nat → Nat) (j : Nat) (wr : World) : Prop := w.grownBy wr none ∧ w.heap.size ≤ g ∧ ∃ cur : Array Value, wr.heap[g]? = some (.cells cur 97 (0, 0)) ∧ o + l.length * 6 ≤ cur.size ∧ ∀ i, j ≤ i → ∀ p, l[i]? = some p → cur[o + i * 6 + 5]? = some (.slice (some ⟨gs i, 0, none⟩) p.x.data.toList.length (cs i)) ∧ byB wr (.slice (some ⟨gs i, 0, none⟩) p.x.data.toList.length (cs i)) p.x.data.toList.length ∧ w.heap.size ≤ gs i ∧ ∀ i', i < i' → i' < l.length → gs i < gs i'
theorem FlI.fw {w1 : World} {l : List Pk} {v : Value} (h : FlI w l l.length v w1) (h0 : 0 < l.length) : ∃ g o c gs cs, v = .slice (some ⟨g, o, none⟩) l.length c ∧ FW w l g o gs cs 0 w1 := by
  obtain ⟨gr, gs, cs, xs, sx, nx, ox, cx, dx⟩ := h
  have hx := sx.1
  rcases sx.2 with ⟨_, e⟩ | ⟨g, o, cap, cur, rfl, hb, h1, h2, h3, h4⟩
  · omega
  · refine ⟨g, o, cap, gs, cs, rfl, gr, nx g rfl, cur, hb, ?_, fun i _ p hp => ?_⟩
    · rcases h3 with e | e
      · omega
      · have : l.length * 6 ≤ cap * 6 := Nat.mul_le_mul_right _ h1
        omega
    · have hi := (List.getElem?_eq_some_iff.1 hp).1
      obtain ⟨c1, c2, c3, c4, c5⟩ := cx i hi p hp
      refine ⟨?_, c2, c4, fun i' e1 e2 => dx i i' e1 e2⟩
      have e5 : (rpL p (.slice (some ⟨gs i, 0, none⟩) p.x.data.toList.length (cs i)))[5]? = some (.slice (some ⟨gs i, 0, none⟩) p.x.data.toList.length (cs i)) := rfl
      rw [← c1, List.getElem?_take] at e5
      rw [if_pos (by omega), List.getElem?_drop] at e5
      rw [Nat.add_assoc]; exact h4 _ _ e5
/-- one packet's bytes are written over, then the packet -/
theorem FW.step {l : List Pk} {g o j : Nat} {gs cs : Nat → Nat} {wr w5 : World} (h : FW w l g o gs cs j wr) {p : Pk} (hp : l[j]? = some p) (hc : Chg (fun x => x = gs j) wr w5) (v0 v1 v2 v3 v4 v5 : Value) :
    (∀ m, m < 6 → (∃ u, w5.cell? ⟨g, o + j * 6 + m, none⟩ = some u) ∧ w5.frozen? ⟨g, o + j * 6 + m, none⟩ = false) ∧ FW w l g o gs cs (j + 1) ((((((w5.setCell ⟨g, o + j * 6, none⟩ v0).setCell ⟨g, o + j * 6 + 1, none⟩ v1).setCell ⟨g, o + j * 6 + 2, none⟩ v2).setCell ⟨g, o + j * 6 + 3, none⟩ v3).setCell ⟨g, o + j * 6 + 4, none⟩ v4).setCell ⟨g, o + j * 6 + 5, none⟩ v5) := by
  obtain ⟨gr, hg, cur, hb, hs, hi⟩ := h
  have hj := (List.getElem?_eq_some_iff.1 hp).1
  obtain ⟨_, b1, b2, b3⟩ := hi j (Nat.le_refl _) p hp
  have kg : g ≠ gs j := fun e => by
    have k1 := (b1.kd (gs j) rfl).1
    rw [← e, kd_cells hb] at k1; simp at k1
  have hb5 := hc.at_ hb (fun e => kg e)
  have hjs : j * 6 + 6 ≤ l.length * 6 := by
    have := Nat.mul_le_mul_right 6 hj
    omega
  refine ⟨fun m hm => ⟨⟨_, (cell_of_block hb5 _).trans (Array.getElem?_eq_getElem (show o + j * 6 + m < cur.size by omega))⟩, unfrozen_of_block hb5 _⟩, ?_⟩
  have CC : Chg (fun x => x = g) w5 ((((((w5.setCell ⟨g, o + j * 6, none⟩ v0).setCell ⟨g, o + j * 6 + 1, none⟩ v1).setCell ⟨g, o + j * 6 + 2, none⟩ v2).setCell ⟨g, o + j * 6 + 3, none⟩ v3).setCell ⟨g, o + j * 6 + 4, none⟩ v4).setCell ⟨g, o + j * 6 + 5, none⟩ v5) := (((((Chg.of_cell w5 ⟨g, o + j * 6, none⟩ v0).trans (Chg.of_cell _ ⟨g, o + j * 6 + 1, none⟩ v1)).trans (Chg.of_cell _ ⟨g, o + j * 6 + 2, none⟩ v2)).trans (Chg.of_cell _ ⟨g, o + j * 6 + 3, none⟩ v3)).trans (Chg.of_cell _ ⟨g, o + j * 6 + 4, none⟩ v4)).trans (Chg.of_cell _ ⟨g, o + j * 6 + 5, none⟩ v5)
  have gn : ∀ {a b : World} {C : Nat → Prop}, w.grownBy a none → Chg C a b → (∀ i, C i → w.heap.size ≤ i) → w.grownBy b none := fun {a b C} g hc hn => ⟨hc.os.trans g.os, hc.tape.trans g.tape, hc.output.trans g.output, Nat.le_trans g.size hc.size, fun k hk hne => (hc.block k (Nat.lt_of_lt_of_le hk g.size) (fun e => by have := hn k e; omega)).trans (g.block k hk hne)⟩
  refine ⟨gn (gn gr hc (fun i e => by have e : i = gs j := e; omega)) CC (fun i e => by have e : i = g := e; omega), hg, _, block_setCell (block_setCell (block_setCell (block_setCell (block_setCell (block_setCell hb5 _) _) _) _) _) _, by simpa using hs, fun i hij q hq => ?_⟩
  have hil := (List.getElem?_eq_some_iff.1 hq).1
  obtain ⟨c1, c2, c3, c4⟩ := hi i (by omega) q hq
  have hlt := b3 i (by omega) hil
  have ko : g ≠ gs i := fun e => by
    have k1 := (c2.kd (gs i) rfl).1
    rw [← e, kd_cells hb] at k1; simp at k1
  refine ⟨?_, (c2.kept hc (fun g' e e2 => by cases e; have e2 : gs i = gs j := e2; omega)).kept CC (fun g' e e2 => by cases e; exact ko (show gs i = g from e2).symm), c3, c4⟩
  simp only [Array.getElem?_setIfInBounds]
  rw [if_neg (by omega), if_neg (by omega), if_neg (by omega), if_neg (by omega), if_neg (by omega), if_neg (by omega)]
  exact c1
end Go.Proofs.Ytbdlamlplfogjaa
namespace Go.Proofs.Ytbdlamlplfogjaa
open Go.RowKit Go.Maps Go.Joins
variable {P : Nat → Prop} {w w' : World} {n c d : Nat} {S : St} {L : Ly}

set_option maxHeartbeats 4000000 in
set_option maxRecDepth 100000 in
theorem air_any (h : NetL P w n c S L) (ha : AD w d S.fl) {pr : Nat} (hpr : w.heap[pr]? = some (.cells #[.pointer (some ⟨n, 0, none⟩), .pointer (some ⟨d, 0, none⟩)] 33 (0, 0))) (hl : S.fl.length ≤ 4096) (hsz : ∀ p ∈ S.fl, p.x.data.toList.length ≤ 65536) : Calls Try.prog 10 #[.pointer (some ⟨pr, 0, none⟩)] w fun e w' => e = .returned (.bool true) ∧ w.grownBy w' none := by
  have FL := mkHid (Flights_all h (by omega))
  obtain ⟨N, hN⟩ : ∃ N, N = S.fl.length := ⟨_, rfl⟩
  have HN := mkHid hN
  have HA := mkHid ha
  have HP := mkHid hpr
  have HZ := mkHid hsz
  obtain ⟨p0, p1, _⟩ := cells2 hpr
  have lN : N ≤ 4096 := by omega
  obtain ⟨va, hva, d3⟩ : ∃ va, (∃ p c, va = .slice p N c) ∧ w.cell? ⟨d, 3, none⟩ = some va := by
    obtain ⟨Q, v, h1, h2, _⟩ := ha
    obtain ⟨p, c, e, _⟩ := h2.form
    exact ⟨v, ⟨p, c, by rw [hN]; exact e⟩, h1⟩
  obtain ⟨pq, cq, rfl⟩ := hva
  clear h ha hpr hl hN hsz
  go_enter Try.func10, Try.ntmps10
  go_wp2_with fail
  refine FL.out.mono ?_
  rintro e w1 ⟨v, rfl, F⟩
  have FH := mkHid F
  obtain ⟨pv, cv, hv⟩ : ∃ pv cv, v = .slice pv N cv := by
    obtain ⟨_, _, _, xs, sx, _⟩ := F
    obtain ⟨p, c, e, _⟩ := sx.form
    exact ⟨p, c, by rw [HN.out]; exact e⟩
  subst hv
  have G1 := mkHid F.1
  have q0 := F.1.cell p0 (by simp)
  have q1 := F.1.cell p1 (by simp)
  have q3 := F.1.cell d3 (by simp)
  clear F p0 p1 d3 FL
  go_wp2_with fail
  go_loopw [4] (fun s4 wr => ∃ k : Nat, s4 = .int .i64 (k : Int) ∧ k ≤ N ∧ Hid (w1.grownBy wr none)) (fun s4 _ => N - (intOf s4).toNat)
  case atStart => exact ⟨0, rfl, Nat.zero_le _, mkHid (grown_refl _)⟩
  case round =>
    obtain ⟨k, rfl, hk, GW⟩ := hrel
    by_cases hlt : k < N
    · have hlti : (k : Int) < (N : Int) := by omega
      obtain ⟨p, hp⟩ : ∃ p, S.fl[k]? = some p := ⟨_, List.getElem?_eq_getElem (show k < S.fl.length by rw [← HN.out]; exact hlt)⟩
      obtain ⟨g, o, c1, pb, cb, e1, x0, x1, x2, x3, x4, x5, hy1⟩ := FH.out.at hp
      obtain ⟨g', o', c2, pb', cb', e2, y0, y1, y2, y3, y4, y5, hy2⟩ := (HA.out.kept G1.out).at hp
      have ev : pv = some ⟨g, o, none⟩ := by injection e1
      have eq' : pq = some ⟨g', o', none⟩ := by
        rw [q3] at e2; injection e2 with e2; injection e2
      subst ev; subst eq'
      have SM : Hid (∀ W, w1.grownBy W none → Calls Try.prog 45 #[.agg #[.int .i64 (pkFr p : Int), .int .i64 (pkTo p : Int), .bool p.ack, .int .u64 (p.s : Int), .int .u64 (p.e : Int), .slice pb p.x.data.toList.length cb], .agg #[.int .i64 (pkFr p : Int), .int .i64 (pkTo p : Int), .bool p.ack, .int .u64 (p.s : Int), .int .u64 (p.e : Int), .slice pb' p.x.data.toList.length cb']] W fun e w' => e = .returned (.bool true) ∧ w1.grownBy w' none) := fun W gW => by
        refine (same_any (w := W) (pkFr p) (pkTo p) p.s p.e p.ack p.x.data.toList pb pb' cb cb' (hy1.grown gW) (hy2.grown gW)).mono ?_
        rintro e w5 ⟨rfl, g5⟩
        exact ⟨rfl, grown_none_trans gW g5⟩
      obtain ⟨lx, hlx⟩ : ∃ lx, lx = p.x.data.toList.length := ⟨_, rfl⟩
      rw [← hlx] at x5 y5 SM
      have KS : Hid (∀ W, w1.grownBy W none → (fun w' : World => w'.cell? ⟨pr, 1, none⟩ = some (.pointer (some ⟨d, 0, none⟩)) ∧ w'.cell? ⟨d, 3, none⟩ = some (.slice (some ⟨g', o', none⟩) N cq) ∧ w'.cell? ⟨g, o + k * 6, none⟩ = some (.int .i64 (pkFr p : Int)) ∧ w'.cell? ⟨g, o + k * 6 + 1, none⟩ = some (.int .i64 (pkTo p : Int)) ∧ w'.cell? ⟨g, o + k * 6 + 2, none⟩ = some (.bool p.ack) ∧ w'.cell? ⟨g, o + k * 6 + 3, none⟩ = some (.int .u64 (p.s : Int)) ∧ w'.cell? ⟨g, o + k * 6 + 4, none⟩ = some (.int .u64 (p.e : Int)) ∧ w'.cell? ⟨g, o + k * 6 + 5, none⟩ = some (.slice pb lx cb) ∧ w'.cell? ⟨g', o' + k * 6, none⟩ = some (.int .i64 (pkFr p : Int)) ∧ w'.cell? ⟨g', o' + k * 6 + 1, none⟩ = some (.int .i64 (pkTo p : Int)) ∧ w'.cell? ⟨g', o' + k * 6 + 2, none⟩ = some (.bool p.ack) ∧ w'.cell? ⟨g', o' + k * 6 + 3, none⟩ = some (.int .u64 (p.s : Int)) ∧ w'.cell? ⟨g', o' + k * 6 + 4, none⟩ = some (.int .u64 (p.e : Int)) ∧ w'.cell? ⟨g', o' + k * 6 + 5, none⟩ = some (.slice pb' lx cb')) W) := fun W g => ⟨g.cell q1 (by simp), g.cell q3 (by simp), g.cell x0 (by simp), g.cell x1 (by simp), g.cell x2 (by simp), g.cell x3 (by simp), g.cell x4 (by simp), g.cell x5 (by simp), g.cell y0 (by simp), g.cell y1 (by simp), g.cell y2 (by simp), g.cell y3 (by simp), g.cell y4 (by simp), g.cell y5 (by simp)⟩
      clear e1 e2 x0 x1 x2 x3 x4 x5 y0 y1 y2 y3 y4 y5 hy1 hy2 hlx hp
      go_wp2_with fail
      go_region_held3 (fun w' : World => w'.cell? ⟨pr, 1, none⟩ = some (.pointer (some ⟨d, 0, none⟩)) ∧ w'.cell? ⟨d, 3, none⟩ = some (.slice (some ⟨g', o', none⟩) N cq) ∧ w'.cell? ⟨g, o + k * 6, none⟩ = some (.int .i64 (pkFr p : Int)) ∧ w'.cell? ⟨g, o + k * 6 + 1, none⟩ = some (.int .i64 (pkTo p : Int)) ∧ w'.cell? ⟨g, o + k * 6 + 2, none⟩ = some (.bool p.ack) ∧ w'.cell? ⟨g, o + k * 6 + 3, none⟩ = some (.int .u64 (p.s : Int)) ∧ w'.cell? ⟨g, o + k * 6 + 4, none⟩ = some (.int .u64 (p.e : Int)) ∧ w'.cell? ⟨g, o + k * 6 + 5, none⟩ = some (.slice pb lx cb) ∧ w'.cell? ⟨g', o' + k * 6, none⟩ = some (.int .i64 (pkFr p : Int)) ∧ w'.cell? ⟨g', o' + k * 6 + 1, none⟩ = some (.int .i64 (pkTo p : Int)) ∧ w'.cell? ⟨g', o' + k * 6 + 2, none⟩ = some (.bool p.ack) ∧ w'.cell? ⟨g', o' + k * 6 + 3, none⟩ = some (.int .u64 (p.s : Int)) ∧ w'.cell? ⟨g', o' + k * 6 + 4, none⟩ = some (.int .u64 (p.e : Int)) ∧ w'.cell? ⟨g', o' + k * 6 + 5, none⟩ = some (.slice pb' lx cb')) (first | exact KS.out _ G5.out | exact KS.out _ (grown_drew GW.out)) (first | (go_at_call 45; refine (SM.out _ (grown_drew GW.out)).mono ?_; rintro e w5 ⟨rfl, g5⟩; have G5 := mkHid g5; clear g5) | fail)
      go_wp2_with fail
      go_roundw
      case rel => exact ⟨k + 1, by go_num, hlt, G5⟩
      case measure => simp [intOf]; omega
    · obtain rfl : k = N := by omega
      have hkk : ¬ (k : Int) < (k : Int) := by omega
      by_cases h0 : k = 0
      · subst h0
        have GG := mkHid (grown_none_trans G1.out GW.out)
        go_wp2_with fail
        go_loopw [5] (fun s5 wx => s5 = .int .i64 0 ∧ Hid (w.grownBy wx none)) (fun _ _ => 0)
        case atStart => exact ⟨rfl, GG⟩
        case round =>
          obtain ⟨rfl, G7⟩ := hrel
          go_wp2_with fail
          go_ret
          exact ⟨rfl, G7.out⟩
      · obtain ⟨g, o, c1, gs, cs, e1, FW0⟩ := FH.out.fw (by rw [← HN.out]; omega)
        have ev : pv = some ⟨g, o, none⟩ := by injection e1
        subst ev
        have FWW : Hid (FW w S.fl g o gs cs 0 wr) := by
          obtain ⟨gr, hg, cur, hb, hs, hi⟩ := FW0
          exact ⟨grown_none_trans gr GW.out, hg, cur, box_keep hb GW.out (by simp), hs, fun i hi0 p hp => by obtain ⟨c1, c2, c3, c4⟩ := hi i hi0 p hp; exact ⟨c1, c2.grown' GW.out, c3, c4⟩⟩
        clear FW0 e1 FH GW
        go_wp2_with fail
        go_loopw [5] (fun s5 wx => ∃ j : Nat, s5 = .int .i64 (j : Int) ∧ j ≤ k ∧ Hid (FW w S.fl g o gs cs j wx)) (fun s5 _ => k - (intOf s5).toNat)
        case atStart => exact ⟨0, rfl, Nat.zero_le _, FWW⟩
        case round =>
          rename World => wx
          obtain ⟨j, rfl, hj, FJ⟩ := hrel
          by_cases hlj : j < k
          · have hlji : (j : Int) < (k : Int) := by omega
            obtain ⟨p, hp⟩ : ∃ p, S.fl[j]? = some p := ⟨_, List.getElem?_eq_getElem (show j < S.fl.length by rw [← HN.out]; exact hlj)⟩
            obtain ⟨_, _, cur, hb, hs, hi⟩ := FJ.out
            obtain ⟨c5, b5, _, _⟩ := hi j (Nat.le_refl _) p hp
            have x5 : wx.cell? ⟨g, o + j * 6 + 5, none⟩ = some (.slice (some ⟨gs j, 0, none⟩) p.x.data.toList.length (cs j)) := (cell_of_block hb _).trans c5
            have SP := mkHid (spoil_any b5 (by have := HZ.out p (List.mem_of_getElem? hp); omega))
            have ST : Hid (∀ w5, Chg (fun x => x = gs j) wx w5 → (∀ m, m < 6 → (∃ u, w5.cell? ⟨g, o + j * 6 + m, none⟩ = some u) ∧ w5.frozen? ⟨g, o + j * 6 + m, none⟩ = false) ∧ FW w S.fl g o gs cs (j + 1) ((((((w5.setCell ⟨g, o + j * 6, none⟩ (.int .i64 0)).setCell ⟨g, o + j * 6 + 1, none⟩ (.int .i64 0)).setCell ⟨g, o + j * 6 + 2, none⟩ (.bool false)).setCell ⟨g, o + j * 6 + 3, none⟩ (.int .u64 4711)).setCell ⟨g, o + j * 6 + 4, none⟩ (.int .u64 0)).setCell ⟨g, o + j * 6 + 5, none⟩ (.slice none 0 0))) := fun w5 C => FJ.out.step hp C _ _ _ _ _ _
            obtain ⟨lx, hlx⟩ : ∃ lx, lx = p.x.data.toList.length := ⟨_, rfl⟩
            rw [← hlx] at x5 SP
            clear hb hs hi c5 b5 FJ hp hlx
            go_wp2_with fail
            refine SP.out.mono ?_
            rintro e w5 ⟨rfl, C5⟩
            obtain ⟨cl, fw⟩ := ST.out w5 (C5.mono (fun x _ e => by cases e; rfl))
            obtain ⟨⟨u0, k0⟩, f0⟩ := cl 0 (by omega)
            obtain ⟨⟨u1, k1⟩, f1⟩ := cl 1 (by omega)
            obtain ⟨⟨u2, k2⟩, f2⟩ := cl 2 (by omega)
            obtain ⟨⟨u3, k3⟩, f3⟩ := cl 3 (by omega)
            obtain ⟨⟨u4, k4⟩, f4⟩ := cl 4 (by omega)
            obtain ⟨⟨u5, k5⟩, f5⟩ := cl 5 (by omega)
            rw [Nat.add_zero] at k0 f0
            have FX := mkHid fw
            clear C5 cl fw ST SP x5
            go_wp2_with fail
            go_roundw
            case rel => exact ⟨j + 1, by go_num, hlj, FX⟩
            case measure => simp [intOf]; omega
          · obtain rfl : j = k := by omega
            have hjj : ¬ (j : Int) < (j : Int) := by omega
            have GG := mkHid FJ.out.1
            clear FJ
            go_wp2_with fail
            go_ret
            exact ⟨rfl, GG.out⟩
end Go.Proofs.Ytbdlamlplfogjaa
namespace Go.Proofs.Ytbdlamlplfogjaa
open Go.RowKit Go.Maps Go.Joins
variable {Q : Nat → Prop} {w w' wr W : World} {d : Nat} {S : St} {T : Nat → Nat → List ByteArray} {R : Lr}

theorem srcS.grown {sz n c : Nat} {P : Option Addr} {xs : List Value} (h : srcS w sz P n c xs) (g : w.grownBy w' none) : srcS w' sz P n c xs := by
  rcases h with h | ⟨ad, e, h1, h2, h3⟩
  · exact Or.inl h
  · exact Or.inr ⟨ad, e, h1, fun j u hj => g.cell (h2 j u hj) (by simp), h3⟩
/-- the first cells of a block as a source -/
theorem src_row {cur : Array Value} {g : Nat} {e : TypeId} {n sz : Nat} (cap : Nat) (hb : w.heap[g]? = some (.cells cur e (0, 0))) (hs : n * sz ≤ cur.size) (h1 : ∀ j, j < n * sz → ∃ u, cur[j]? = some u ∧ u.oneCell' = true) : srcS w sz (some ⟨g, 0, none⟩) n cap (cur.toList.take (n * sz)) := by
  have hg : ∀ j u, (cur.toList.take (n * sz))[j]? = some u → j < n * sz ∧ cur[j]? = some u := fun j u hj => by
    rw [List.getElem?_take] at hj
    split at hj
    · rename_i h
      exact ⟨h, by simpa using hj⟩
    · cases hj
  refine Or.inr ⟨_, rfl, by rw [List.length_take, Array.length_toList]; omega, fun j u hj => ?_, fun u hu => ?_⟩
  · rw [add_plain, Nat.zero_add]
    exact (cell_of_block hb j).trans (hg j u hj).2
  · obtain ⟨j, hj⟩ := List.getElem?_of_mem hu
    obtain ⟨k1, k2⟩ := hg j u hj
    obtain ⟨u', e1, e2⟩ := h1 j k1
    rw [k2] at e1
    cases e1; exact e2
theorem take_get {cur : Array Value} {m j : Nat} (h : j < m) : (cur.toList.take m)[j]? = cur[j]? := by
  rw [List.getElem?_take, if_pos h]; simp
theorem shr.src {e : TypeId} {sz n c : Nat} {P : Option Addr} {xs : List Value} (h : shr w e sz (.slice P n c) n xs) (h1 : ∀ u ∈ xs, u.oneCell' = true) : srcS w sz P n c xs := by
  have hx := h.1
  rcases h.2 with ⟨e1, e2⟩ | ⟨g, o, cap, cur, e1, hb, h2, h3, h4, h5⟩
  · injection e1 with a1 a2 a3
    subst a1; subst a2; subst a3
    exact Or.inl ⟨rfl, rfl, rfl, List.eq_nil_of_length_eq_zero (by omega)⟩
  · injection e1 with a1 a2 a3
    subst a1
    exact Or.inr ⟨_, rfl, hx, fun j u hj => by rw [add_plain]; exact (cell_of_block hb _).trans (h5 j u hj), h1⟩
/-- a source copied behind an empty row -/
theorem Rw.copyX {t e : TypeId} {z : Value} {sz by' : Nat} (Rr : Rw t e z sz by') {P : Option Addr} {n c : Nat} {xs : List Value} (src : srcS w sz P n c xs) (gW : w.grownBy W none) {B : Nat} (hB : W.heap[B]? = some (.cells #[] e (0, 0))) (hBn : w.heap.size ≤ B) (hl : n ≤ 10000000) :
    ∃ p' c' W', (∀ ty, (Builtin.append_ #[t, t] ty #[.slice (some ⟨B, 0, none⟩) 0 0, .slice P n c]).run Try.prog W = .ok (.slice p' n c') W') ∧ xRow w e sz n (.slice p' n c') xs W' ∧ w.grownBy W' none ∧ Chg (fun x => x = B) W W' ∧ ∀ x, (Value.slice p' n c').ownBlock = some x → x = B ∨ W.heap.size ≤ x := by
  obtain ⟨v', W', hr, ow, g, o⟩ := Rr.more (row_none hB) (src.grown gW) (by omega)
  rw [Nat.zero_add, List.nil_append] at ow
  obtain ⟨p', c', rfl, _⟩ := (ownsRow_shr ow).1.form
  refine ⟨p', c', W', hr, ⟨ow, fun x hx => ?_⟩, grown_new gW g (fun x hx => by simp [Value.ownBlock] at hx; rw [← hx]; exact hBn), (Chg.of_grown g).mono (fun x _ e => by simp [Value.ownBlock] at e; exact e.symm), fun x hx => ?_⟩
  · rcases o x hx with e1 | e1
    · simp [Value.ownBlock] at e1; rw [← e1]; exact hBn
    · exact Nat.le_trans gW.size e1
  · rcases o x hx with e1 | e1
    · simp [Value.ownBlock] at e1; exact Or.inl e1.symm
    · exact Or.inr e1
/-- the copy while it is being made -/
structure CpF (w : World) (N n4 cb k : Nat) (v1 v2 v3 v4 : Value) (l1 l3 l4 : List Value) (ys : Nat → List Value) (x2 : List Value) (wr : World) : Prop where
  gr : w.grownBy wr none
  od : w.heap.size ≤ cb
  net : wr.heap[cb]? = some (.cells #[v1, v2, v3, v4] 90 (0, 0))
  r1 : xRow w 4 1 N v1 l1 wr
  r2 : xRow w 91 1 k v2 x2 wr
  r3 : xRow w 94 1 N v3 l3 wr
  r4 : xRow w 97 6 n4 v4 l4 wr
  ry : ∀ (j : Nat) (u : Value), x2[j]? = some u → xRow w 108 4 N u (ys j) wr
  df : ∀ (i j : Nat) (u u' : Value), i ≠ j → x2[i]? = some u → x2[j]? = some u' → ∀ g, u.ownBlock = some g → u'.ownBlock ≠ some g
variable {N n4 cb k : Nat} {v1 v2 v3 v4 : Value} {l1 l3 l4 x2 : List Value} {ys : Nat → List Value}
theorem CpF.grown (h : CpF w N n4 cb k v1 v2 v3 v4 l1 l3 l4 ys x2 wr) (g : wr.grownBy w' none) : CpF w N n4 cb k v1 v2 v3 v4 l1 l3 l4 ys x2 w' := by
  have C := Chg.of_none g (fun _ => False)
  exact ⟨grown_none_trans h.gr g, h.od, box_keep h.net g (by simp), h.r1.kept C (fun _ _ e => e), h.r2.kept C (fun _ _ e => e), h.r3.kept C (fun _ _ e => e), h.r4.kept C (fun _ _ e => e), fun j u hj => (h.ry j u hj).kept C (fun _ _ e => e), h.df⟩
/-- rows of other kinds stay -/
theorem CpF.stay (h : CpF w N n4 cb k v1 v2 v3 v4 l1 l3 l4 ys x2 wr) {C : Nat → Prop} {w5 : World} (hc : Chg C wr w5) {t : TypeId} (kC : ∀ b, C b → kd wr b = t + 2 ∨ b = cb) {e : TypeId} {sz m : Nat} {v : Value} {xs : List Value} (hr : xRow w e sz m v xs wr) (h1 : e ≠ t) (h2 : e ≠ 90) : xRow w e sz m v xs w5 := hr.kept hc (fun g hg hC => by
  have k0 := (hr.kd g hg).1
  rcases kC g hC with e1 | e1
  · rw [e1] at k0; exact h1 (Nat.add_right_cancel k0).symm
  · rw [e1, kd_cells h.net] at k0; exact h2 (Nat.add_right_cancel k0).symm)
/-- one row of ways copied, and put behind the others -/
theorem CpF.way (h : CpF w N n4 cb k v1 v2 v3 v4 l1 l3 l4 ys x2 wr) (hk : k ≤ 1000) (hN : N ≤ 1000) {g cap : Nat} (src : srcS w 4 (some ⟨g, 0, none⟩) N cap (ys k)) :
    ∃ p1 c1 W1 p2 c2 W2, (∀ ty, (Builtin.append_ #[91, 91] ty #[.slice (some ⟨wr.heap.size, 0, none⟩) 0 0, .slice (some ⟨g, 0, none⟩) N cap]).run Try.prog (wr.drew.alloc (.cells #[] 108)) = .ok (.slice p1 N c1) W1) ∧
      (∀ ty, (Builtin.append_ #[87, 87] ty #[v2, .slice (some ⟨W1.heap.size, 0, none⟩) 1 1]).run Try.prog (W1.alloc (.cells #[.slice p1 N c1] 91)) = .ok (.slice p2 (k + 1) c2) W2) ∧
      wr.grownBy W1 none ∧ w.grownBy W2 none ∧ W2.heap[cb]? = some (.cells #[v1, v2, v3, v4] 90 (0, 0)) ∧
      CpF w N n4 cb (k + 1) v1 (.slice p2 (k + 1) c2) v3 v4 l1 l3 l4 ys (x2 ++ [.slice p1 N c1]) (W2.setCell ⟨cb, 1, none⟩ (.slice p2 (k + 1) c2)) := by
  have g0 : wr.grownBy (wr.drew.alloc (.cells #[] 108)) none := grown_al (grown_drew (grown_refl _)) _
  have s0 : (wr.drew.alloc (.cells #[] 108)).heap.size = wr.heap.size + 1 := by simp
  have hl : x2.length = k := by have := h.r2.1.1; omega
  obtain ⟨p1, c1, W1, hr1, xu, gu, Cu, ou⟩ := rwWa.copyX src (grown_none_trans h.gr g0) (B := wr.heap.size) (heap_alloc_new wr.drew _) h.gr.size (by omega)
  have gW1 : wr.grownBy W1 none := ⟨Cu.os.trans g0.os, Cu.tape.trans g0.tape, Cu.output.trans g0.output, Nat.le_trans g0.size Cu.size, fun b hb hn => (Cu.block b (Nat.lt_of_lt_of_le hb g0.size) (fun e => by have e : b = wr.heap.size := e; omega)).trans (g0.block b hb hn)⟩
  have h1 := h.grown gW1
  have nu : ∀ b, (Value.slice p1 N c1).ownBlock = some b → wr.heap.size ≤ b := fun b hb => by
    rcases ou b hb with e | e <;> omega
  obtain ⟨p2, c2, W2, hr2, a2, g2, C2, _⟩ := rwWW.xpush h1.gr h1.r2 [.slice p1 N c1] rfl (by intro x hx; simp at hx; rw [hx]; rfl) hk
  have kv : ∀ b, v2.ownBlock = some b → kd W1 b = 91 + 2 := fun b hb => (h1.r2.kd b hb).1
  have hd2 := C2.at_ h1.net (fun e => by have := kv cb e; rw [kd_cells h1.net] at this; simp at this)
  have CC := (C2.mono (T := fun b => v2.ownBlock = some b ∨ b = cb) (fun _ _ e => Or.inl e)).set ⟨cb, 1, none⟩ (.slice p2 (k + 1) c2) (Or.inr rfl)
  have kC : ∀ b, (v2.ownBlock = some b ∨ b = cb) → kd W1 b = 91 + 2 ∨ b = cb := fun b hb => hb.imp (kv b) id
  have gt : ∀ (j : Nat) (u : Value), (x2 ++ [.slice p1 N c1])[j]? = some u → x2[j]? = some u ∨ (j = k ∧ u = .slice p1 N c1) := fun j u hj => by
    by_cases e : j < x2.length
    · rw [List.getElem?_append_left e] at hj; exact Or.inl hj
    · rw [List.getElem?_append_right (by omega)] at hj
      have e2 : j - x2.length = 0 := by
        have := (List.getElem?_eq_some_iff.1 hj).1
        simp at this; omega
      rw [e2] at hj
      simp at hj
      exact Or.inr ⟨by omega, hj.symm⟩
  refine ⟨p1, c1, W1, p2, c2, W2, hr1, hr2, gW1, g2, hd2, grown_set g2 _ _ h.od, h.od, (block_setCell hd2 _).trans rfl, h1.stay CC kC h1.r1 (by decide) (by decide), ?_, h1.stay CC kC h1.r3 (by decide) (by decide), h1.stay CC kC h1.r4 (by decide) (by decide), fun j u hj => ?_, fun i j u u' hij hi hj b hb => ?_⟩
  · exact a2.kept (Chg.of_cell W2 ⟨cb, 1, none⟩ _) (fun b hb e => by
      have e : b = cb := e
      have := (a2.kd b hb).1
      rw [e, kd_cells hd2] at this; simp at this)
  · rcases gt j u hj with e | ⟨rfl, rfl⟩
    · exact h1.stay CC kC (h1.ry j u e) (by decide) (by decide)
    · exact h1.stay CC kC xu (by decide) (by decide)
  · rcases gt i u hi with e1 | ⟨e1, rfl⟩
    · rcases gt j u' hj with e2 | ⟨e2, rfl⟩
      · exact h.df i j u u' hij e1 e2 b hb
      · intro e3
        have := nu b e3
        have := ((h.ry i u e1).kd b hb).2
        omega
    · rcases gt j u' hj with e2 | ⟨e2, rfl⟩
      · intro e3
        have := nu b hb
        have := ((h.ry j u' e2).kd b e3).2
        omega
      · omega
/-- what is written of a net lies in new memory -/
def NewR (w : World) (N : Nat) (R : Lr) : Prop := w.heap.size ≤ R.tg ∧ w.heap.size ≤ R.yg ∧ w.heap.size ≤ R.mg ∧ (∀ i, i < N → w.heap.size ≤ R.yb i) ∧ ∀ g, R.av.ownBlock = some g → w.heap.size ≤ g
/-- the copy, made: the same net, the shared rows with it -/
theorem CpF.fin (hR : RL Q w d S T R) (h : CpF w S.N S.fl.length cb S.N v1 v2 v3 v4 l1 l3 l4 ys x2 wr) (e1 : ∀ i, i < S.N → l1[i]? = some (.bool (!S.dn i))) (e3 : ∀ i, i < S.N → l3[i]? = some (R.mv i)) (e4 : ∀ k, k < S.fl.length → aiR w Q S.fl k ((l4.drop (k * 6)).take 6)) (o4 : ∀ u ∈ l4, u.oneCell' = true) (ey : ∀ i j, i < S.N → j < S.N → (ys i)[j * 4]? = some (.int .u64 (((S.wy i j).b + 1 : Nat) : Int)) ∧ (ys i)[j * 4 + 1]? = some (R.sv i j) ∧ (ys i)[j * 4 + 2]? = some (.int .i64 ((S.wy i j).t : Int)) ∧ (ys i)[j * 4 + 3]? = some (.int .i64 ((S.wy i j).c : Int))) : ∃ R', RL (ext Q w wr) wr cb S T R' ∧ NewR w S.N R' := by
  have n1 := hR.n1
  obtain ⟨g1, c1, u1, rfl, o1, b1, n1', m1, s1, y1⟩ := h.r1.open (by omega)
  obtain ⟨g2, c2, u2, rfl, o2, b2, n2, m2, s2, y2⟩ := h.r2.open (by omega)
  obtain ⟨g3, c3, u3, rfl, o3, b3, n3, m3, s3, y3⟩ := h.r3.open (by omega)
  have hx : x2.length = S.N := by have := h.r2.1.1; omega
  have ex : ∀ i, i < S.N → ∃ q : Nat × Nat, x2[i]? = some (.slice (some ⟨q.1, 0, none⟩) S.N q.2) := fun i hi => by
    have hv : x2[i]? = some (x2[i]'(by omega)) := List.getElem?_eq_getElem (by omega)
    obtain ⟨g, cap, cur, e, _⟩ := (h.ry i _ hv).open (by omega)
    exact ⟨(g, cap), by rw [hv, e]⟩
  obtain ⟨f, hf⟩ := choose_below ex
  have op : ∀ i, i < S.N → w.heap.size ≤ (f i).1 ∧ ∃ cur : Array Value, wr.heap[(f i).1]? = some (.cells cur 108 (0, 0)) ∧ S.N ≤ (f i).2 ∧ (f i).2 ≤ maxLen ∧ cur.size = (f i).2 * 4 ∧ ∀ (j : Nat) (u : Value), (ys i)[j]? = some u → cur[j]? = some u := fun i hi => by
    obtain ⟨g, cap, cur, e, k1, k2, k3, k4, k5, k6⟩ := (h.ry i _ (hf i hi)).open (by omega)
    have e1 : (f i).1 = g := by injection e with e; injection e with e; injection e
    have e2 : (f i).2 = cap := by injection e
    rw [e1, e2]
    exact ⟨k1, cur, k2, k3, k4, k5, k6⟩
  have hw := hR.away (Q' := ext Q w wr) (Chg.of_none h.gr (fun _ => False)) (fun _ _ e => e) (fun _ => ext_le) (ext_pb hR.pb h.gr.size)
  have nw : ∀ b, w.heap.size ≤ b → b < wr.heap.size → ext Q w wr b := fun b k1 k2 => ext_new k1 k2
  refine ⟨⟨g1, c1, g2, c2, fun i => (f i).1, fun i => (f i).2, g3, c3, R.mv, v4, R.sv⟩, ⟨hw.pb, nw _ h.od (lt_of_heap h.net), nw _ o1 (lt_of_heap b1), nw _ o2 (lt_of_heap b2), nw _ o3 (lt_of_heap b3), fun i hi => ?_, hR.n1, hR.n64, ⟨n1', n2, n3, m1, m2, m3, fun i hi => ?_⟩, h.net, ⟨u1, b1, by rw [s1]; exact Nat.mul_one _, fun i hi => y1 i _ (e1 i hi)⟩, ⟨u2, b2, by rw [s2]; exact Nat.mul_one _, fun i hi => y2 i _ (hf i hi)⟩, fun i hi => ?_, fun i j hi hj hij e => ?_, ⟨u3, b3, by rw [s3]; exact Nat.mul_one _, fun i hi => y3 i _ (e3 i hi)⟩, hw.mr, hw.sr, ?_⟩, o1, o2, o3, fun i hi => (op i hi).1, h.r4.2⟩
  · obtain ⟨k1, cur, k2, _⟩ := op i hi
    exact nw _ k1 (lt_of_heap k2)
  · obtain ⟨k1, cur, k2, k3, k4, _⟩ := op i hi
    exact ⟨k3, k4⟩
  · obtain ⟨k1, cur, k2, k3, k4, k5, k6⟩ := op i hi
    refine ⟨cur, k2, k5, fun j hj => ?_⟩
    obtain ⟨a0, a1, a2, a3⟩ := ey i j hi hj
    exact ⟨k6 _ _ a0, k6 _ _ a1, k6 _ _ a2, k6 _ _ a3⟩
  · exact h.df i j _ _ hij (hf i hi) (hf j hj) (f i).1 rfl (by show some (f j).1 = some (f i).1; exact congrArg some e.symm)
  · have sh := (ownsRow_shr h.r4.1).1
    refine ⟨l4, sh, fun g hg => nw g (h.r4.2 g hg) (h.r4.kd g hg).2, o4, fun k hk m hm => ?_⟩
    obtain ⟨bv, e, hv⟩ := e4 k hk m hm
    exact ⟨bv, e, hv.kept hR.pb h.gr (fun _ => ext_le)⟩
end Go.Proofs.Ytbdlamlplfogjaa
