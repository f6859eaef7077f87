/-
  One call of both nets: a message received, whatever waits.
-/
import Derived.Test.YtbdlamlplfogjaaNxHx
import Derived.Test.YtbdlamlplfogjaaNxIx
import Derived.Test.YtbdlamlplfogjaaNxDx
import Derived.Test.YtbdlamlplfogjaaNxEx
import Derived.Test.YtbdlamlplfogjaaNxFx
import Derived.Test.YtbdlamlplfogjaaNxKx
import Derived.Test.YtbdlamlplfogjaaNxLx
namespace Go.Proofs.Ytbdlamlplfogjaa
open Go.RowKit Go.Maps Go.Joins
variable {P Q : Nat → Prop} {w w' w1 W W0 w5 : World} {n c d B N : Nat} {S S' : St} {T : Nat → Nat → List ByteArray} {L : Ly} {R : Lr} {F : Int} {pm pk : Option Addr} {lm : List UInt8} {cm mb : Nat}

theorem RP_of (h1 : Bo P Q w1 n c d S S T L R) (g : w1.grownBy W none) (U : UpN P W n c S' w5) (hp : ∀ a, pm = some a → W.heap.size ≤ a.block ∧ kd w5 a.block = 5 + 2 ∧ a.block < w5.heap.size) (hy : bys w5 pm lm) (hb : byB w5 (.slice pm lm.length cm) lm.length) : RP P Q w1 n (c + 128) d S' S T W pm lm cm w5 := by
  obtain ⟨L2, N2, C2⟩ := U.le (c2 := c + 128) (by omega)
  have gs := g.size
  have sub := N2.blkP
  refine ⟨⟨blk n S'.N L2, Q, L2, R, ⟨N2.tight, (h1.q.kept g).away C2 (fun b hb e => h1.x b e hb) (fun _ e => e) (fun b hb => Nat.lt_of_lt_of_le (h1.q.pb b hb) (Nat.le_trans g.size C2.size)), fun i hi hq => ?_⟩, fun i hi => ?_, fun _ e => Or.inl e, (Chg.of_none g _).trans (C2.mono (fun i _ e => Or.inl e)), fun b hG => ?_⟩, fun b k1 k2 => C2.block b k2 (fun e => by have := h1.p.pb b e; omega), hy, hb, fun a ha => (hp a ha).1⟩
  · rcases sub i hi with e | e
    · exact h1.x i e hq
    · have := h1.q.pb i hq; omega
  · rcases sub i hi with e | e
    · exact Or.inl e
    · exact Or.inr (Nat.le_trans gs e.1)
  · rcases hG with ⟨a, ha, rfl⟩ | ⟨k1, k2⟩
    · obtain ⟨q1, q2, q3⟩ := hp a ha
      exact ⟨N2.other q2 (by decide) (by decide) (by decide) (by decide) (by decide), fun e => by have := h1.q.pb _ e; omega, by omega, q3⟩
    · refine ⟨fun e => ?_, fun e => by have := h1.q.pb _ e; omega, k1, Nat.lt_of_lt_of_le k2 C2.size⟩
      rcases sub b e with e | e
      · have := h1.p.pb b e; omega
      · omega
theorem RD_of (hM : RM P Q w1 n c d S' S T F pm lm cm mb W0) (g : W0.grownBy W none) : ∃ P' Q' L' R', Bo P' Q' W n c d S' S T L' R' ∧ ∀ w5 pk, RU Q' W d S' T w5 → bys w5 pk lm → (∀ a, pk = some a → ext Q' W w5 a.block) → RD P Q w1 n c d S' S' T W0 W F pm lm cm mb pk w5 := by
  obtain ⟨P', Q', L', R', b1, h2, h3, h4, h5⟩ := hM.1.grow g (G' := fun b => (b = mb ∨ ∃ a, pm = some a ∧ b = a.block) ∨ (W0.heap.size ≤ b ∧ b < W.heap.size)) (fun b hb => hb)
  refine ⟨P', Q', L', R', b1, fun w5 pk U hy hk => ?_⟩
  obtain ⟨_, k2, k3, k4⟩ := hM
  obtain ⟨R2, N2, C2'⟩ := U
  have C2 := C2'.hb
  have nq : ∀ b, ((b = mb ∨ ∃ a, pm = some a ∧ b = a.block) ∨ (W0.heap.size ≤ b ∧ b < W.heap.size)) → ¬ Q' b := fun b hb => (h5 b hb).2.1
  refine ⟨⟨P', ext Q' W w5, L', R2, ⟨b1.p.away C2 (fun b hb e => b1.x b hb e), N2, fun i hi hq => ?_⟩, h2, fun i hi => ?_, ?_, fun b hb => ?_⟩, (k2.grown g).chg C2 (fun a ha e => nq _ (Or.inl (Or.inr ⟨a, ha, rfl⟩)) e), (k3.grown g).off C2 (fun a ha e => nq _ (Or.inl (Or.inr ⟨a, ha, rfl⟩)) e), C2.at_ (box_keep k4 g (by simp)) (nq _ (Or.inl (Or.inl rfl))), fun b e1 e2 => C2.block b e2 (nq b (Or.inr ⟨e1, e2⟩)), hy, fun a ha e => ?_⟩
  · rcases hq with e | e
    · exact b1.x i hi e
    · have := b1.p.pb i hi; omega
  · rcases hi with e | e
    · exact h3 i e
    · exact Or.inr (Nat.le_trans h4.size e.1)
  · exact ⟨C2'.os.trans h4.os, C2'.tape.trans h4.tape, C2'.output.trans h4.output, Nat.le_trans h4.size C2'.size, fun k hk hn => (C2'.block k (Nat.lt_of_lt_of_le hk h4.size) (fun e => by
      rcases h3 k e.1 with e1 | e1
      · exact hn (Or.inr ⟨e1, by rw [← kd_of (h4.block k hk hn)]; exact e.2⟩)
      · omega)).trans (h4.block k hk hn)⟩
  · obtain ⟨j1, j2, j3, j4⟩ := h5 b hb
    refine ⟨j1, fun e => ?_, j3, Nat.lt_of_lt_of_le j4 C2.size⟩
    rcases e with e | e
    · exact j2 e
    · omega
  · rcases hk a ha with e1 | e1
    · exact nq _ (Or.inr e) e1
    · omega
theorem byV.bys {Q2 : Nat → Prop} {x : ByteArray} {cap k : Nat} (h : byV w5 Q2 (.slice pk k cap) x) : Go.Proofs.Ytbdlamlplfogjaa.bys w5 pk x.data.toList ∧ ∀ a, pk = some a → Q2 a.block := by
  obtain ⟨p, c, e, h1, h2⟩ := h
  injection e with e1 e2 e3
  subst e1
  exact ⟨h1, fun a ha => (h2 a ha).1⟩
theorem does_1 (h : Bo P Q w n c d S S T L R) (G : Good S T B N) (hB : B + 1 ≤ 3000000) {pr : Nat} (hpr : w.heap[pr]? = some (.cells #[.pointer (some ⟨n, 0, none⟩), .pointer (some ⟨d, 0, none⟩)] 33 (0, 0))) (hP : ¬ P pr) (hQ : ¬ Q pr) (x : Ac) (hk : x.k = 1) : Calls Try.prog 9 #[.pointer (some ⟨pr, 0, none⟩), .agg x.cells] w (DoQ P Q w n c d B N) := by
  have g1 : w.grownBy (w.alloc (.cells x.cells 29)) none := grown_al (grown_refl _) _
  have h1 : Bo P Q (w.alloc (.cells x.cells 29)) n c d S S T L R := ⟨h.p.kept g1, h.q.kept g1, h.x⟩
  have both : ∀ {F ER : Int} {lm : List UInt8} {bb : Bool} {S' : St}, lm.length ≤ 10000000 → Good S' T (B + 1) N → (∀ W, (w.alloc (.cells x.cells 29)).grownBy W none → Calls Try.prog 16 #[.pointer (some ⟨n, 0, none⟩), .int .i64 x.a] W fun e w' => ∃ pm cm, e = .returned (.tuple #[.agg #[.int .i64 F, .slice pm lm.length cm], .bool bb, .int .i64 ER]) ∧ RP P Q (w.alloc (.cells x.cells 29)) n (c + 128) d S' S T W pm lm cm w') → (∀ W0 W pm cm mb, RM P Q (w.alloc (.cells x.cells 29)) n (c + 128) d S' S T F pm lm cm mb W0 → W0.grownBy W none → Calls Try.prog 32 #[.pointer (some ⟨d, 0, none⟩), .int .i64 x.a] W fun e w' => ∃ pk ck, e = .returned (.tuple #[.agg #[.int .i64 F, .slice pk lm.length ck], .bool bb, .int .i64 ER]) ∧ RD P Q (w.alloc (.cells x.cells 29)) n (c + 128) d S' S' T W0 W F pm lm cm mb pk w') → Calls Try.prog 9 #[.pointer (some ⟨pr, 0, none⟩), .agg x.cells] w (DoQ P Q w n c d B N) := fun {F ER lm bb S'} k1 k2 k3 k4 => by
    cases hh : x.h with
    | false => exact does_1f h G hpr hP hQ x hk hh k1 k2 k3 k4
    | true => exact does_1t h G hpr hP hQ x hk hh k1 k2 k3 k4
  have nil8 : ∀ w5, byB w5 (.slice none ([] : List UInt8).length 0) ([] : List UInt8).length := fun w5 => Or.inl ⟨rfl, rfl⟩
  have ml : ∀ i, (S.ms i).length ≤ 10000000 := fun i => by have := G.ok.ml i; have := G.ok.lt; omega
  cases hs : isS S x.a with
  | false =>
    refine both (F := 0) (ER := 60) (lm := []) (bb := false) (S' := S) (by simp) (G.more hB) (fun W gW => ?_) (fun W0 W pm cm mb hM gW => ?_)
    · refine (Recv_k (h1.p.kept gW) x.a).mono ?_
      rintro e w5 (⟨_, rfl, U⟩ | ⟨i, _, k2, _⟩ | ⟨i, m, rest, g, cap, _, k2, _⟩)
      · exact ⟨none, 0, rfl, RP_of h1 gW U (fun a ha => by cases ha) (Or.inl ⟨rfl, rfl⟩) (nil8 w5)⟩
      · rw [hs] at k2; cases k2
      · rw [hs] at k2; cases k2
    · obtain ⟨P', Q', L', R', b1, fin⟩ := RD_of hM gW
      refine (rRecv_any b1.q x.a ml).mono ?_
      rintro e w5 (⟨_, rfl, U⟩ | ⟨i, _, k2, _⟩ | ⟨i, m, rest, pb, cb, _, k2, _⟩)
      · exact ⟨none, 0, rfl, fin w5 none U (Or.inl ⟨rfl, rfl⟩) (fun a ha => by cases ha)⟩
      · rw [hs] at k2; cases k2
      · rw [hs] at k2; cases k2
  | true =>
    obtain ⟨j, hj, hjN, hdn⟩ := isS_in hs
    cases hm : S.ms j with
    | nil =>
      refine both (F := 0) (ER := 0) (lm := []) (bb := false) (S' := S) (by simp) (G.more hB) (fun W gW => ?_) (fun W0 W pm cm mb hM gW => ?_)
      · refine (Recv_k (h1.p.kept gW) x.a).mono ?_
        rintro e w5 (⟨k2, _⟩ | ⟨i, _, _, _, rfl, U⟩ | ⟨i, m, rest, g, cap, k1, _, k3, _⟩)
        · rw [hs] at k2; cases k2
        · exact ⟨none, 0, rfl, RP_of h1 gW U (fun a ha => by cases ha) (Or.inl ⟨rfl, rfl⟩) (nil8 w5)⟩
        · have : i = j := by omega
          rw [this, hm] at k3; cases k3
      · obtain ⟨P', Q', L', R', b1, fin⟩ := RD_of hM gW
        refine (rRecv_any b1.q x.a ml).mono ?_
        rintro e w5 (⟨k2, _⟩ | ⟨i, _, _, _, rfl, U⟩ | ⟨i, m, rest, pb, cb, k1, _, k3, _⟩)
        · rw [hs] at k2; cases k2
        · exact ⟨none, 0, rfl, fin w5 none U (Or.inl ⟨rfl, rfl⟩) (fun a ha => by cases ha)⟩
        · have : i = j := by omega
          rw [this, hm] at k3; cases k3
    | cons m rest =>
      have hsz : m.2.data.toList.length ≤ 65536 := G.sz.m j m (by rw [hm]; simp)
      refine both (F := (m.1 : Int)) (ER := 0) (lm := m.2.data.toList) (bb := true) (S' := { S with ms := upd S.ms j rest }) (by omega) (G.recv hB hjN hdn hm) (fun W gW => ?_) (fun W0 W pm cm mb hM gW => ?_)
      · refine (Recv_k (h1.p.kept gW) x.a).mono ?_
        rintro e w5 (⟨k2, _⟩ | ⟨i, k1, _, k3, _⟩ | ⟨i, m', rest', g, cap, k1, _, k3, rfl, kg, hy, hb, U⟩)
        · rw [hs] at k2; cases k2
        · have : i = j := by omega
          rw [this, hm] at k3; cases k3
        · have ei : i = j := by omega
          subst ei
          rw [hm] at k3
          injection k3 with e1 e2
          subst e1; subst e2
          exact ⟨some ⟨g, 0, none⟩, cap, rfl, RP_of h1 gW U (fun a ha => by cases ha; exact ⟨kg, (hb.kd g rfl).1, (hb.kd g rfl).2⟩) hy hb⟩
      · obtain ⟨P', Q', L', R', b1, fin⟩ := RD_of hM gW
        refine (rRecv_any b1.q x.a ml).mono ?_
        rintro e w5 (⟨k2, _⟩ | ⟨i, k1, _, k3, _⟩ | ⟨i, m', rest', pb, cb, k1, _, k3, rfl, hv, U⟩)
        · rw [hs] at k2; cases k2
        · have : i = j := by omega
          rw [this, hm] at k3; cases k3
        · have ei : i = j := by omega
          subst ei
          rw [hm] at k3
          injection k3 with e1 e2
          subst e1; subst e2
          obtain ⟨v1, v2⟩ := hv.bys
          exact ⟨pb, cb, rfl, fin w5 pb U v1 v2⟩
end Go.Proofs.Ytbdlamlplfogjaa
namespace Go.Proofs.Ytbdlamlplfogjaa
open Go.RowKit Go.Maps Go.Joins
variable {P Q : Nat → Prop} {w w' : World} {n c d B N : Nat} {S : St} {T : Nat → Nat → List ByteArray} {L : Ly} {R : Lr}

theorem does_any (h : Bo P Q w n c d S S T L R) (G : Good S T B N) (hB : B + 1 ≤ 3000000) (hc : c ≤ 800000000) {pr : Nat} (hpr : w.heap[pr]? = some (.cells #[.pointer (some ⟨n, 0, none⟩), .pointer (some ⟨d, 0, none⟩)] 33 (0, 0))) (hP : ¬ P pr) (hQ : ¬ Q pr) (x : Ac) (hby : byA w x.p x.b) (hnl : x.p = none → x.b.length = 0 ∧ x.q = 0) (hbl : x.b.length ≤ 10000000) (hpo : ∀ a, x.p = some a → x.b ≠ [] → ¬ P a.block ∧ ¬ Q a.block) : Calls Try.prog 9 #[.pointer (some ⟨pr, 0, none⟩), .agg x.cells] w (DoQ P Q w n c d B N) := by
  by_cases k0 : x.k = 0
  · exact does_0 h G hB hc hpr hP hQ x k0 hby hnl hbl hpo
  by_cases k1 : x.k = 1
  · exact does_1 h G hB hpr hP hQ x k1
  by_cases k2 : x.k = 2
  · exact does_2 h G hB hc hpr hP hQ x k2
  by_cases k3 : x.k = 3
  · exact does_3 h G hB hpr hP hQ x k3
  by_cases k4 : x.k = 4
  · exact does_4 h G hB hpr hP hQ x k4
  by_cases k5 : x.k = 5
  · exact does_5 h G hB hpr hP hQ x k5
  by_cases k6 : x.k = 6
  · exact does_6 h G hB hpr hP hQ x k6
  by_cases k7 : x.k = 7
  · exact does_7 h G hB hc hpr hP hQ x k7
  by_cases k8 : x.k = 8
  · cases hs : isS S x.a with
    | false => exact does_8n h G hB hpr hP hQ x k8 hs
    | true => exact does_8y h G hB hpr hP hQ x k8 hs
  exact does_no h G hB hpr hP hQ x k0 k1 k2 k3 k4 k5 k6 k7 k8
/-- both nets behind k calls of the law -/
def LE (w1 : World) (N n d pr k : Nat) (wr : World) : Prop := ∃ P Q S T c L R, Bo P Q wr n c d S S T L R ∧ Good S T k N ∧ c ≤ 128 * k ∧ wr.heap[pr]? = some (.cells #[.pointer (some ⟨n, 0, none⟩), .pointer (some ⟨d, 0, none⟩)] 33 (0, 0)) ∧ ¬ P pr ∧ ¬ Q pr ∧ (∀ i, P i → w1.heap.size ≤ i) ∧ (∀ i, Q i → w1.heap.size ≤ i) ∧ w1.heap.size ≤ pr ∧ w1.grownBy wr none
theorem grown_chg {a b e : World} {C : Nat → Prop} (g : a.grownBy b none) (hc : Chg C b e) (hn : ∀ i, C i → a.heap.size ≤ i) : a.grownBy e none := ⟨hc.os.trans g.os, hc.tape.trans g.tape, hc.output.trans g.output, Nat.le_trans g.size hc.size, fun k hk hne => (hc.block k (Nat.lt_of_lt_of_le hk g.size) (fun e => by have := hn k e; omega)).trans (g.block k hk hne)⟩
theorem LE.does {w0 w1 wr : World} {pr k i : Nat} {x : Ac} {l : List Ac} {Pa : Option Addr} (h : LE w1 N n d pr k wr) (hk : k + 1 ≤ 2000000) (g1 : w0.grownBy w1 none) (ha : nacs w0 Pa l) (hx : l[i]? = some x) : Calls Try.prog 9 #[.pointer (some ⟨pr, 0, none⟩), .agg x.cells] wr fun e w' => e = .returned (.bool true) ∧ LE w1 N n d pr (k + 1) w' := by
  obtain ⟨P, Q, S, T, c, L, R, b, G, hc, hpr, nP, nQ, sP, sQ, sp, gr⟩ := h
  have gw := grown_none_trans g1 gr
  obtain ⟨g, o, _, _, _, _, _, _, _, hby, hnl, hbl⟩ := ha.at hx gw
  have hb0 : byA w0 x.p x.b := by
    rcases ha with e | ⟨g, o, _, e⟩
    · rw [e] at hx; simp at hx
    · exact (e i x hx).2.1
  refine (does_any b G (by omega) (by omega) hpr nP nQ x hby hnl hbl (fun a ha hne => ?_)).mono ?_
  · have hlt : a.block < w1.heap.size := by
      rcases hb0 with e | ⟨g', o', e, hcs⟩
      · exact absurd e hne
      · rw [e] at ha; cases ha
        cases hl : x.b with
        | nil => exact absurd hl hne
        | cons y ys =>
          have := hcs 0 y (by rw [hl]; rfl)
          exact Nat.lt_of_lt_of_le (World.block_lt_of_cell? w0 _ this) g1.size
    exact ⟨fun e => by have := sP _ e; omega, fun e => by have := sQ _ e; omega⟩
  · rintro e w5 ⟨rfl, S', T', G', U⟩
    refine ⟨rfl, ?_⟩
    have hpr5 := U.at_ hpr nP nQ
    have lpr := lt_of_heap hpr
    obtain ⟨P', Q', L', R', b', s1, s2, C⟩ := U
    have gs := gr.size
    refine ⟨P', Q', S', T', c + 128, L', R', b', G', by omega, hpr5, fun e => ?_, fun e => ?_, fun i hi => ?_, fun i hi => ?_, sp, grown_chg gr C (fun i e => e.elim (sP i) (fun e2 => sQ i e2.1))⟩
    · rcases s1 pr e with e | e
      · exact nP e
      · omega
    · rcases s2 pr e with e | e
      · exact nQ e
      · omega
    · rcases s1 i hi with e | e
      · exact sP i e
      · omega
    · rcases s2 i hi with e | e
      · exact sQ i e
      · omega
/-- the program's net in the rest of the law -/
def LP (w1 : World) (N n d pr k : Nat) (S : St) (T : Nat → Nat → List ByteArray) (wr : World) : Prop := ∃ P c L, NetL P wr n c S L ∧ Good S T k N ∧ c ≤ 128 * k ∧ wr.heap[pr]? = some (.cells #[.pointer (some ⟨n, 0, none⟩), .pointer (some ⟨d, 0, none⟩)] 33 (0, 0)) ∧ ¬ P pr ∧ (∀ i, P i → w1.heap.size ≤ i) ∧ w1.heap.size ≤ pr ∧ w1.grownBy wr none
theorem LE.lp {w1 wr : World} {pr k : Nat} (h : LE w1 N n d pr k wr) : ∃ S T, LP w1 N n d pr k S T wr := by
  obtain ⟨P, Q, S, T, c, L, R, b, G, hc, hpr, nP, nQ, sP, sQ, sp, gr⟩ := h
  exact ⟨S, T, P, c, L, b.p, G, hc, hpr, nP, sP, sp, gr⟩
theorem LP.kept {w1 wr : World} {pr k : Nat} (h : LP w1 N n d pr k S T wr) (g : wr.grownBy w' none) : LP w1 N n d pr k S T w' := by
  obtain ⟨P, c, L, b, G, hc, hpr, nP, sP, sp, gr⟩ := h
  exact ⟨P, c, L, b.kept g, G, hc, box_keep hpr g (by simp), nP, sP, sp, grown_none_trans gr g⟩
/-- a call that moves it -/
theorem LP.moves {w1 wr : World} {pr k f : Nat} {args : Array Value} {S' : St} {er : Int} (h : LP w1 N n d pr k S T wr) (G' : Good S' T (k + 1) N) (hcall : ∀ P c L, NetL P wr n c S L → c ≤ 128 * k → Calls Try.prog f args wr (ErQ P wr n (c + 1) S' er)) : Calls Try.prog f args wr fun e w' => e = .returned (.int .i64 er) ∧ LP w1 N n d pr (k + 1) S' T w' := by
  obtain ⟨P, c, L, b, G, hc, hpr, nP, sP, sp, gr⟩ := h
  refine (hcall P c L b hc).mono ?_
  rintro e w5 ⟨rfl, L', N', C'⟩
  have gs := gr.size
  have lpr := lt_of_heap hpr
  refine ⟨rfl, ext P wr w5, c + 1, L', N', G', by omega, C'.at_ hpr nP, fun e => ?_, fun i hi => ?_, sp, grown_chg gr C' sP⟩
  · rcases e with e | e
    · exact nP e
    · omega
  · rcases hi with e | e
    · exact sP i e
    · omega
theorem LP.pr {w1 wr : World} {pr k : Nat} (h : LP w1 N n d pr k S T wr) : wr.cell? ⟨pr, 0, none⟩ = some (.pointer (some ⟨n, 0, none⟩)) := by
  obtain ⟨P, c, L, b, G, hc, hpr, _⟩ := h
  exact (cells2 hpr).1
theorem LE.pr {w1 wr : World} {pr k : Nat} (h : LE w1 N n d pr k wr) : wr.cell? ⟨pr, 0, none⟩ = some (.pointer (some ⟨n, 0, none⟩)) := by
  obtain ⟨S, T, h⟩ := h.lp
  exact h.pr
theorem LP.good {w1 wr : World} {pr k : Nat} (h : LP w1 N n d pr k S T wr) : Good S T k N := by
  obtain ⟨P, c, L, b, G, _⟩ := h
  exact G
theorem LP.gr {w1 wr : World} {pr k : Nat} (h : LP w1 N n d pr k S T wr) : w1.grownBy wr none := by
  obtain ⟨P, c, L, b, G, hc, hpr, nP, sP, sp, gr⟩ := h
  exact gr
end Go.Proofs.Ytbdlamlplfogjaa
