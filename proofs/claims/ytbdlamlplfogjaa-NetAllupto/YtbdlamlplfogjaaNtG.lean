/-
  Walks: a way that is told.
-/
import Derived.Test.YtbdlamlplfogjaaNtF
namespace Go.Proofs.Ytbdlamlplfogjaa
open Go.RowKit Go.Maps Go.Joins
variable {P : Nat → Prop} {w w' : World} {n c : Nat} {S : St} {L : Ly}

/-- a way that is told how many came -/
def tellW (x : Wy) (k : Nat) : Wy := if x.t < k ∧ k ≤ x.t + x.us.length then { x with us := x.us.drop (k - x.t), t := k } else x
/-- a way, and what it leaves of its list -/
def WyQ (w : World) (x : Wy) (v : Value) (r : Ending) (w' : World) : Prop := ∃ v', r = .returned (wyV x v') ∧ shr w' 9 1 v' x.us.length (usC x.us) ∧ w.grownBy w' v.ownBlock ∧ v'.ownBlock = v.ownBlock
theorem grown_but {a b : World} (h : a.grownBy b none) (r : Option Nat) : a.grownBy b r := ⟨h.os, h.tape, h.output, h.size, fun k hk _ => h.block k hk (by simp)⟩
theorem grown_trans {a b d : World} {r : Option Nat} (h : a.grownBy b r) (k : b.grownBy d r) : a.grownBy d r := ⟨k.os.trans h.os, k.tape.trans h.tape, k.output.trans h.output, Nat.le_trans h.size k.size, fun i hi hn => (k.block i (Nat.lt_of_lt_of_le hi h.size) hn).trans (h.block i hi hn)⟩
theorem grown_setr {a b : World} {r : Option Nat} (h : a.grownBy b r) (x : Addr) (u : Value) (hx : a.heap.size ≤ x.block) : a.grownBy (b.setCell x u) r :=
  ⟨h.os, h.tape, h.output, by have := h.size; simpa using this, fun k hk hn => (heap_setCell_other b x k u (by omega)).trans (h.block k hk hn)⟩
theorem box_keep {w1 w2 : World} {b : Nat} {o : Obj} {r : Option Nat} (h : w1.heap[b]? = some o) (hg : w1.grownBy w2 r) (hr : some b ≠ r) : w2.heap[b]? = some o := (hg.block b (lt_of_heap h) hr).trans h
theorem al2_fst (w : World) (o p : Obj) : ((w.alloc o).alloc p).heap[w.heap.size]? = some o := (heap_alloc_old _ p (by simp)).trans (heap_alloc_new w o)
theorem al2_snd (w : World) (o p : Obj) : ((w.alloc o).alloc p).heap[w.heap.size + 1]? = some p := by
  have := heap_alloc_new (w.alloc o) p
  rw [World.size_alloc] at this
  exact this
theorem cells4 {w : World} {b : Nat} {t : TypeId} {a0 a1 a2 a3 : Value} (h : w.heap[b]? = some (.cells #[a0, a1, a2, a3] t (0, 0))) : w.cell? ⟨b, 0, none⟩ = some a0 ∧ w.cell? ⟨b, 1, none⟩ = some a1 ∧ w.cell? ⟨b, 2, none⟩ = some a2 ∧ w.cell? ⟨b, 3, none⟩ = some a3 ∧ (∀ i, w.frozen? ⟨b, i, none⟩ = false) :=
  ⟨(cell_of_block h 0).trans rfl, (cell_of_block h 1).trans rfl, (cell_of_block h 2).trans rfl, (cell_of_block h 3).trans rfl, fun i => unfrozen_of_block h i⟩
theorem Chg.set {S : Nat → Prop} {a b : World} (h : Chg S a b) (x : Addr) (u : Value) (hx : S x.block) : Chg S a (b.setCell x u) :=
  ⟨h.os, h.tape, h.output, by have := h.size; simpa using this, fun k hk hn => (heap_setCell_other b x k u (fun e => hn (e ▸ hx))).trans (h.block k hk hn)⟩
theorem Chg.then_new {A : Nat → Prop} {a b d : World} (h : Chg A a b) (k : Chg (fun i => a.heap.size ≤ i) b d) : Chg A a d :=
  ⟨k.os.trans h.os, k.tape.trans h.tape, k.output.trans h.output, Nat.le_trans h.size k.size, fun i hi hn => (k.block i (Nat.lt_of_lt_of_le hi h.size) (by omega)).trans (h.block i hi hn)⟩
theorem usC_drop (l : List ByteArray) (k : Nat) : usC (l.drop k) = (usC l).drop k := by simp [usC, List.map_drop]
set_option maxHeartbeats 1000000 in
set_option maxRecDepth 100000 in
theorem tell_any (x : Wy) (v : Value) (k : Nat) (h : shr w 9 1 v x.us.length (usC x.us)) (hb : x.t < 1000000000000) (hl : x.us.length < 1000000000000) : Calls Try.prog 61 #[wyV x v, .int .u64 k] w (WyQ w (tellW x k) v) := by
  obtain ⟨p, cap, rfl, _⟩ := h.form
  have ST := mkHid (fun w => sent_any x p cap w hb hl)
  have HH := mkHid h
  have g1 := grown_al (grown_al (grown_refl w) (.cells #[.int .u64 x.b, .int .u64 x.t, .slice p x.us.length cap, .int .u64 x.c] 84)) (.cells #[.int .u64 0, .int .u64 0, .slice none 0 0, .int .u64 0] 84)
  have b1 := al2_fst w (.cells #[.int .u64 x.b, .int .u64 x.t, .slice p x.us.length cap, .int .u64 x.c] 84) (.cells #[.int .u64 0, .int .u64 0, .slice none 0 0, .int .u64 0] 84)
  have b2 := al2_snd w (.cells #[.int .u64 x.b, .int .u64 x.t, .slice p x.us.length cap, .int .u64 x.c] 84) (.cells #[.int .u64 0, .int .u64 0, .slice none 0 0, .int .u64 0] 84)
  by_cases h1 : x.t < k
  · have h1' : (x.t : Int) < (k : Int) := by omega
    by_cases h2 : k ≤ x.t + x.us.length
    · have h2' : (k : Int) ≤ ((x.t + x.us.length : Nat) : Int) := by omega
      have e : tellW x k = { x with us := x.us.drop (k - x.t), t := k } := if_pos ⟨h1, h2⟩
      rw [e]
      obtain ⟨d, hd⟩ : ∃ d, k = x.t + d := ⟨k - x.t, by omega⟩
      obtain ⟨m, hm⟩ : ∃ m, x.us.length = m + d := ⟨x.us.length - d, by omega⟩
      have e3 : (k : Int) - (x.t : Int) = (d : Int) := by omega
      have BH := mkHid (fun (w5 : World) (h5 : shr w5 9 1 (.slice p x.us.length cap) x.us.length (usC x.us)) => behindS (w := w5) (.slice p x.us.length cap) x.us d m (by rw [← hm]; exact h5) (by omega))
      have e4 : k - x.t = d := by omega
      have HM := mkHid hm
      rw [e4]
      unfold wyV at ST
      have G1 := mkHid g1
      have B1 := mkHid b1
      have B2 := mkHid b2
      unfold wyV
      clear h e hd e4 hm b1 b2 g1
      go_enter Try.func61, Try.ntmps61
      go_wp2_with fail
      refine (ST.out _).mono ?_
      rintro e w2 ⟨rfl, hg2⟩
      have g2 := grown_none_trans G1.out hg2
      have X2 := box_keep B1.out hg2 (by simp)
      have Y2 := box_keep B2.out hg2 (by simp)
      obtain ⟨x0, x1, x2, x3, _⟩ := cells4 X2
      have SH := mkHid (HH.out.kept (Chg.of_none g2 (fun _ => False)) (fun _ _ e => e))
      go_wp2_with fail
      refine (BH.out w2 SH.out).mono ?_
      rintro e w3 ⟨v3, rfl, s3, g3, o3⟩
      obtain ⟨p3, c3, rfl, _⟩ := s3.form
      have hlt : ∀ g, (Value.slice p x.us.length cap).ownBlock = some g → g < w.heap.size := fun g hg => (HH.out.kd g hg).2
      have X3 := box_keep X2 g3 (fun e => by have := hlt _ e.symm; omega)
      have Y3 := box_keep Y2 g3 (fun e => by have := hlt _ e.symm; omega)
      obtain ⟨x30, x31, x32, x33, xf⟩ := cells4 X3
      obtain ⟨y30, y31, y32, y33, yf⟩ := cells4 Y3
      have xf1 := xf 1
      have xf2 := xf 2
      have yf0 := yf 0
      have yf1 := yf 1
      have yf2 := yf 2
      have yf3 := yf 3
      have HL := mkHid hlt
      have S3 := mkHid s3
      have G3 := mkHid (grown_trans (grown_but g2 _) g3)
      have O3 := mkHid o3
      clear xf yf s3 g3 o3 X2 Y2 x0 x1 x2 x3 hg2 g2 hlt
      go_wp2_with fail
      refine bodyPost_ret (v := .agg #[.int .u64 x.b, .int .u64 k, .slice p3 m c3, .int .u64 x.c]) (by unfold results; rw [Try.results61]; go_simp) rfl ?_
      have C := ((((((Chg.refl (fun i => w.heap.size ≤ i) w3).set ⟨w.heap.size, 2, none⟩ (.slice p3 m c3) (Nat.le_refl _)).set ⟨w.heap.size, 1, none⟩ (.int .u64 k) (Nat.le_refl _)).set ⟨w.heap.size + 1, 0, none⟩ (.int .u64 x.b) (Nat.le_succ _)).set ⟨w.heap.size + 1, 1, none⟩ (.int .u64 k) (Nat.le_succ _)).set ⟨w.heap.size + 1, 2, none⟩ (.slice p3 m c3) (Nat.le_succ _)).set ⟨w.heap.size + 1, 3, none⟩ (.int .u64 x.c) (Nat.le_succ _)
      refine ⟨_, rfl, ?_, grown_setr (grown_setr (grown_setr (grown_setr (grown_setr (grown_setr G3.out _ _ (Nat.le_refl _)) _ _ (Nat.le_refl _)) _ _ (Nat.le_succ _)) _ _ (Nat.le_succ _)) _ _ (Nat.le_succ _)) _ _ (Nat.le_succ _), O3.out⟩
      have hml : (x.us.drop d).length = m := by rw [List.length_drop, HM.out]; omega
      have := S3.out.kept C (fun g hg => by have := HL.out g (by rw [← O3.out]; exact hg); omega)
      rw [Nat.mul_one, ← usC_drop] at this
      show shr _ _ _ _ (x.us.drop d).length _
      rw [hml]; exact this
    · have h2' : ¬ (k : Int) ≤ ((x.t + x.us.length : Nat) : Int) := by omega
      have e : tellW x k = x := if_neg (fun e => h2 e.2)
      rw [e]
      unfold wyV at ST
      have G1 := mkHid g1
      have B1 := mkHid b1
      have B2 := mkHid b2
      unfold wyV
      clear h e b1 b2 g1
      go_enter Try.func61, Try.ntmps61
      go_wp2_with fail
      refine (ST.out _).mono ?_
      rintro e w2 ⟨rfl, hg2⟩
      have g2 := grown_none_trans G1.out hg2
      have X2 := box_keep B1.out hg2 (by simp)
      have Y2 := box_keep B2.out hg2 (by simp)
      obtain ⟨x0, x1, x2, x3, _⟩ := cells4 X2
      obtain ⟨y30, y31, y32, y33, yf⟩ := cells4 Y2
      have yf0 := yf 0
      have yf1 := yf 1
      have yf2 := yf 2
      have yf3 := yf 3
      have G2 := mkHid g2
      clear yf hg2 g2
      go_wp2_with fail
      refine bodyPost_ret (v := .agg #[.int .u64 x.b, .int .u64 x.t, .slice p x.us.length cap, .int .u64 x.c]) (by unfold results; rw [Try.results61]; go_simp) rfl ?_
      have C := ((((Chg.refl (fun i => w.heap.size ≤ i) w2).set ⟨w.heap.size + 1, 0, none⟩ (.int .u64 x.b) (Nat.le_succ _)).set ⟨w.heap.size + 1, 1, none⟩ (.int .u64 x.t) (Nat.le_succ _)).set ⟨w.heap.size + 1, 2, none⟩ (.slice p x.us.length cap) (Nat.le_succ _)).set ⟨w.heap.size + 1, 3, none⟩ (.int .u64 x.c) (Nat.le_succ _)
      exact ⟨_, rfl, (HH.out.kept (Chg.of_none G2.out (fun _ => False)) (fun _ _ e => e)).kept C (fun g hg => by have := (HH.out.kd g hg).2; omega), grown_setr (grown_setr (grown_setr (grown_setr (grown_but G2.out _) _ _ (Nat.le_succ _)) _ _ (Nat.le_succ _)) _ _ (Nat.le_succ _)) _ _ (Nat.le_succ _), rfl⟩
  · have h1' : ¬ (x.t : Int) < (k : Int) := by omega
    have e : tellW x k = x := if_neg (fun e => h1 e.1)
    rw [e]
    unfold wyV
    clear h e b1 b2 g1
    go_enter Try.func61, Try.ntmps61
    go_wp2_with fail
    refine bodyPost_ret (v := .agg #[.int .u64 x.b, .int .u64 x.t, .slice p x.us.length cap, .int .u64 x.c]) (by unfold results; rw [Try.results61]; go_simp) rfl ?_
    have G2 := grown_al (grown_al (grown_refl w) (.cells #[.int .u64 x.b, .int .u64 x.t, .slice p x.us.length cap, .int .u64 x.c] 84)) (.cells #[.int .u64 x.b, .int .u64 x.t, .slice p x.us.length cap, .int .u64 x.c] 84)
    exact ⟨_, rfl, HH.out.kept (Chg.of_none G2 (fun _ => False)) (fun _ _ e => e), grown_but G2 _, rfl⟩
end Go.Proofs.Ytbdlamlplfogjaa
