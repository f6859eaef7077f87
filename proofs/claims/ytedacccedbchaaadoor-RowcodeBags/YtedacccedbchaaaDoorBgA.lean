/-
  The order of bytes as an order of lists; lists that are sorted by it; what a bag of rows is in bytes.
  bytes.Compare at bytes that lie anywhere; lockstepref02.less; lists of slices of bytes.
-/
import Derived.Test.YtedacccedbchaaaDoorRcL
import Derived.Lib.Bytealg
import Derived.Test.YtedacccedbchaaaDoorVaO
import Derived.Laws.Entries
namespace Go.Proofs.YtedacccedbchaaaDoor
open Go.RowKit Go.Shelf

theorem bc_less : ∀ a b : List UInt8, Op.bytesLess a b = decide (Lib.compareBytes a b = -1)
  | [], [] => by simp [Op.bytesLess, Lib.compareBytes]
  | [], _ :: _ => by simp [Op.bytesLess, Lib.compareBytes]
  | _ :: _, [] => by simp [Op.bytesLess, Lib.compareBytes]
  | x :: a, y :: b => by
    simp only [Op.bytesLess, Lib.compareBytes, bc_less a b]
    by_cases h : x < y
    · simp [h]
    · by_cases h2 : y < x
      · have : ¬ x = y := fun e => by subst e; exact h h2
        simp [h, h2, this]
      · have : x = y := by
          apply UInt8.toNat_inj.1
          rw [UInt8.lt_iff_toNat_lt] at h h2
          omega
        simp [this]
theorem bc_zero : ∀ a b : List UInt8, (Lib.compareBytes a b = 0) ↔ a = b
  | [], [] => by simp [Lib.compareBytes]
  | [], _ :: _ => by simp [Lib.compareBytes]
  | _ :: _, [] => by simp [Lib.compareBytes]
  | x :: a, y :: b => by
    simp only [Lib.compareBytes, List.cons.injEq]
    by_cases h : x < y
    · have : ¬ x = y := fun e => by subst e; exact absurd h (UInt8.lt_irrefl _)
      simp [h, this]
    · by_cases h2 : y < x
      · have : ¬ x = y := fun e => by subst e; exact h h2
        simp [h, h2, this]
      · have : x = y := by
          apply UInt8.toNat_inj.1
          rw [UInt8.lt_iff_toNat_lt] at h h2
          omega
        simp [this, bc_zero a b]
theorem bc_vals : ∀ a b : List UInt8, Lib.compareBytes a b = -1 ∨ Lib.compareBytes a b = 0 ∨ Lib.compareBytes a b = 1
  | [], [] => by simp [Lib.compareBytes]
  | [], _ :: _ => by simp [Lib.compareBytes]
  | _ :: _, [] => by simp [Lib.compareBytes]
  | x :: a, y :: b => by
    simp only [Lib.compareBytes]
    split
    · simp
    · split
      · simp
      · exact bc_vals a b

theorem bc_turn : ∀ a b : List UInt8, Lib.compareBytes b a = -(Lib.compareBytes a b)
  | [], [] => by simp [Lib.compareBytes]
  | [], _ :: _ => by simp [Lib.compareBytes]
  | _ :: _, [] => by simp [Lib.compareBytes]
  | x :: a, y :: b => by
    simp only [Lib.compareBytes, UInt8.lt_iff_toNat_lt]
    by_cases h : x.toNat < y.toNat
    · rw [if_neg (by omega), if_pos h, if_pos h]; rfl
    · by_cases h2 : y.toNat < x.toNat
      · rw [if_pos h2, if_neg h, if_pos h2]
      · rw [if_neg h2, if_neg h, if_neg h, if_neg h2]; exact bc_turn a b
theorem bc_trans : ∀ a b c : List UInt8, Lib.compareBytes a b ≤ 0 → Lib.compareBytes b c ≤ 0 → Lib.compareBytes a c ≤ 0
  | [], _, [] => by simp [Lib.compareBytes]
  | [], _, _ :: _ => by simp [Lib.compareBytes]
  | _ :: _, [], _ => by intro h; simp [Lib.compareBytes] at h
  | _ :: _, _ :: _, [] => by intro _ h; simp [Lib.compareBytes] at h
  | x :: a, y :: b, z :: c => by
    simp only [Lib.compareBytes, UInt8.lt_iff_toNat_lt]
    intro h1 h2
    by_cases p : x.toNat < y.toNat
    · by_cases q : y.toNat < z.toNat
      · rw [if_pos (by omega)]; omega
      · rw [if_neg q] at h2
        by_cases q2 : z.toNat < y.toNat
        · rw [if_pos q2] at h2; omega
        · rw [if_pos (by omega)]; omega
    · rw [if_neg p] at h1
      by_cases p2 : y.toNat < x.toNat
      · rw [if_pos p2] at h1; omega
      · rw [if_neg p2] at h1
        by_cases q : y.toNat < z.toNat
        · rw [if_pos (by omega)]; omega
        · rw [if_neg q] at h2
          by_cases q2 : z.toNat < y.toNat
          · rw [if_pos q2] at h2; omega
          · rw [if_neg q2] at h2
            rw [if_neg (by omega), if_neg (by omega)]
            exact bc_trans a b c h1 h2


/-- bytes that come no later than others -/
def leB (a b : List UInt8) : Bool := decide (Lib.compareBytes a b ≤ 0)
theorem leB_trans (a b c : List UInt8) (h1 : leB a b = true) (h2 : leB b c = true) : leB a c = true := by
  simp only [leB, decide_eq_true_eq] at *; exact bc_trans a b c h1 h2
theorem leB_total (a b : List UInt8) : (leB a b || leB b a) = true := by
  simp only [leB, Bool.or_eq_true, decide_eq_true_eq, bc_turn a b]; omega
theorem leB_anti {a b : List UInt8} (h1 : leB a b = true) (h2 : leB b a = true) : a = b := by
  simp only [leB, decide_eq_true_eq, bc_turn a b] at *
  exact (bc_zero a b).1 (by omega)
theorem less_leB (a b : List UInt8) : Op.bytesLess a b = !leB b a := by
  rw [bc_less]
  have h := bc_vals a b
  have t := bc_turn a b
  unfold leB
  rcases h with h | h | h <;> rw [t, h] <;> rfl
/-- lists of bytes in their order -/
def srtB (l : List (List UInt8)) : List (List UInt8) := l.mergeSort leB
theorem srtB_perm (l : List (List UInt8)) : (srtB l).Perm l := List.mergeSort_perm l leB
theorem srtB_pw (l : List (List UInt8)) : (srtB l).Pairwise (fun a b => leB a b = true) := List.pairwise_mergeSort leB_trans leB_total l
theorem srtB_uniq {l m : List (List UInt8)} (hp : m.Perm l) (hs : m.Pairwise (fun a b => leB a b = true)) : m = srtB l :=
  List.Perm.eq_of_pairwise (fun _ _ _ _ h1 h2 => leB_anti h1 h2) hs (srtB_pw l) (hp.trans (srtB_perm l).symm)
theorem srtB_of_perm {l m : List (List UInt8)} (hp : m.Perm l) : srtB m = srtB l := srtB_uniq ((srtB_perm m).trans hp) (srtB_pw m)
theorem srtB_self {m : List (List UInt8)} (hs : m.Pairwise (fun a b => leB a b = true)) : srtB m = m := (srtB_uniq (List.Perm.refl m) hs).symm

/-- the four bytes of a count -/
def cnt4 (n : Nat) : List UInt8 := [UInt8.ofNat (n / 16777216), UInt8.ofNat (n / 65536), UInt8.ofNat (n / 256), UInt8.ofNat n]
/-- the first error of some rows -/
def bagEs : List (List Va) → Int
  | [] => 0
  | r :: l => if rowE r = 0 then bagEs l else rowE r
theorem bagEs_pass {r : List Va} {l : List (List Va)} (h : rowE r = 0) : bagEs (r :: l) = bagEs l := by simp [bagEs, h]
theorem bagEs_stop {r : List Va} {l : List (List Va)} (h : ¬ rowE r = 0) : bagEs (r :: l) = rowE r := by simp [bagEs, h]
theorem bagEs_all : ∀ {l : List (List Va)}, bagEs l = 0 → ∀ r ∈ l, rowE r = 0
  | [], _, r, hr => by simp at hr
  | x :: l, h, r, hr => by
    by_cases hx : rowE x = 0
    · rw [bagEs_pass hx] at h
      rcases List.mem_cons.1 hr with rfl | hr
      · exact hx
      · exact bagEs_all h r hr
    · rw [bagEs_stop hx] at h; exact absurd h hx
theorem bagEs_of : ∀ {l : List (List Va)}, (∀ r ∈ l, rowE r = 0) → bagEs l = 0
  | [], _ => rfl
  | x :: l, h => by rw [bagEs_pass (h x List.mem_cons_self)]; exact bagEs_of fun r hr => h r (List.mem_cons_of_mem _ hr)
/-- what is wrong with a bag -/
def bagE (l : List (List Va)) : Int := if 65536 < l.length then 2 else bagEs l
/-- the bytes of a bag -/
def bagB (l : List (List Va)) : List UInt8 := cnt4 l.length ++ (srtB (l.map rowB)).flatten
theorem flatten_len {L : List (List UInt8)} {m : Nat} (h : ∀ x ∈ L, x.length ≤ m) : L.flatten.length ≤ m * L.length := by
  induction L with
  | nil => simp
  | cons x L ih =>
    have h1 := h x List.mem_cons_self
    have h2 := ih fun y hy => h y (List.mem_cons_of_mem _ hy)
    rw [List.flatten_cons, List.length_append, List.length_cons, Nat.mul_succ]; omega

/-- a slice of bytes: where it lies, its room, what it holds -/
structure Bv where
  p : Option Addr
  c : Nat
  l : List UInt8
def Bv.val (b : Bv) : Value := .slice b.p b.l.length b.c
/-- slices of bytes that lie behind a place -/
def bvsIn (w : World) (P : Option Addr) (L : List Bv) : Prop := L = [] ∨ ∃ g off, P = some ⟨g, off, none⟩ ∧ g < w.heap.size ∧ ∀ i b, L[i]? = some b → w.cell? ⟨g, off + i, none⟩ = some b.val
theorem bvsIn.below {w w' : World} {P : Option Addr} {L : List Bv} (h : bvsIn w P L) (hb : Below w.heap.size w w') : bvsIn w' P L := by
  rcases h with h | ⟨g, off, h1, h2, h3⟩
  · exact Or.inl h
  · exact Or.inr ⟨g, off, h1, Nat.lt_of_lt_of_le h2 hb.size, fun i b hi => (hb.cell (p := ⟨g, off + i, none⟩) h2).trans (h3 i b hi)⟩
def leV (a b : Bv) : Bool := leB a.l b.l
theorem leV_trans (a b c : Bv) (h1 : leV a b = true) (h2 : leV b c = true) : leV a c = true := leB_trans _ _ _ h1 h2
theorem leV_total (a b : Bv) : (leV a b || leV b a) = true := leB_total _ _
theorem srt_of_bv {L M : List Bv} (hp : M.Perm L) (hs : M.Pairwise (fun a b => leV a b = true)) : M.map (·.l) = srtB (L.map (·.l)) :=
  srtB_uniq (hp.map _) (by rw [List.pairwise_map]; exact hs)

theorem run_loadB {w : World} : ∀ (l : List UInt8) (a : Addr) (acc : ByteArray), (∀ j x, l[j]? = some x → w.cell? (a.add j) = some (.int .u8 (x.toNat : Int))) →
    (Extern.Bytes.loadBytes a l.length acc).run Tryd.prog w = .ok ⟨acc.data ++ l.toArray⟩ w
  | [], a, acc, _ => by simp [Extern.Bytes.loadBytes]
  | x :: l, a, acc, h => by
    have h0 : w.cell? a = some (.int .u8 (x.toNat : Int)) := by
      have := h 0 x rfl
      simpa [Addr.add] using this
    have ih := run_loadB l (a.add 1) (acc.push x) (fun j y hy => by
      have := h (j + 1) y (by simpa using hy)
      have e : (a.add 1).add j = a.add (j + 1) := by
        unfold Addr.add
        by_cases hj : j = 0
        · subst hj; simp
        · simp [hj]; omega
      rw [e]; exact this)
    have hx : ((x.toNat : Int)).toNat.toUInt8 = x := by simp
    simp only [List.length_cons, Extern.Bytes.loadBytes, Sem.run_bind, run_load, h0, Result.andThen, hx]
    rw [ih]
    congr 1
    apply ByteArray.ext
    simp [ByteArray.push]
theorem run_bytesB {w : World} {p : Option Addr} {l : List UInt8} (c : Nat) (h : byIn w p l) : (Extern.Bytes.bytesOf (.slice p l.length c)).run Tryd.prog w = .ok ⟨l.toArray⟩ w := by
  rcases p with _ | ad
  · obtain rfl := h.none_nil
    rfl
  · show (Extern.Bytes.loadBytes ad l.length .empty).run _ w = _
    rw [run_loadB l ad .empty (fun j x hj => h.cells ad rfl j _ (by8_get hj))]
    congr 1
    apply ByteArray.ext
    show (#[] : Array UInt8) ++ l.toArray = l.toArray
    simp
theorem run_cmpB {w : World} {p q : Option Addr} {la lb : List UInt8} (cp cq : Nat) (ha : byIn w p la) (hb : byIn w q lb) :
    (Extern.BytealgCompare.compare #[.slice p la.length cp, .slice q lb.length cq]).run Tryd.prog w = .ok (.int .i64 (Lib.compareBytes la lb)) w := by
  change Sem.run _ (do pure (goInt (Extern.BytealgCompare.cmp (← Extern.Bytes.bytesOf (.slice p la.length cp)) (← Extern.Bytes.bytesOf (.slice q lb.length cq))))) w = _
  simp only [Sem.run_bind, run_bytesB cp ha, run_bytesB cq hb, Result.andThen, Sem.run_pure]
  rw [Lib.cmp_eq]
  rfl

set_option maxHeartbeats 2000000 in
set_option maxRecDepth 100000 in
theorem Compare_any {w : World} {p q : Option Addr} {la lb : List UInt8} (cp cq : Nat) (ha : byIn w p la) (hb : byIn w q lb) :
    Calls Tryd.prog 25 #[.slice p la.length cp, .slice q lb.length cq] w fun e w' => e = .returned (.int .i64 (Lib.compareBytes la lb)) ∧ w' = w := by
  have k := run_cmpB cp cq ha hb
  clear ha hb
  go_enter Tryd.func25, Tryd.ntmps25
  go_wp2
  rw [run_callFunc_extern Tryd.func42 (by kernel_rfl) (by kernel_rfl) (by kernel_rfl) (e := Extern.BytealgCompare.compare) (by kernel_rfl), k]
  simp only [Result.andThen]
  rw [Oper.upon_value]
  go_wp2
  go_ret
  exact ⟨rfl, rfl⟩

/-- bytes as a string, wherever they lie -/
theorem conv_in {w : World} {p : Option Addr} {l : List UInt8} (c : Nat) (h : byIn w p l) : (convert 23 9 (.slice p l.length c)).run Tryd.prog w = .ok (.string ⟨l.toArray⟩) w := by
  rcases p with _ | ad
  · obtain rfl := h.none_nil
    rw [show ([] : List UInt8).length = 0 from rfl, run_convert_bytes_string w 23 9 5 none 0 c u8Slice u8T strT]
    rfl
  · exact run_convert_bytes_back (P := Tryd.prog) w 23 9 5 ad c l u8Slice u8T strT (fun j hj => h.cells ad rfl j _ (by8_get (List.getElem?_eq_getElem hj)))

set_option maxHeartbeats 2000000 in
theorem less_any {w : World} {p q : Option Addr} {la lb : List UInt8} (cp cq : Nat) (ha : byIn w p la) (hb : byIn w q lb) :
    Calls Tryd.prog 29 #[.slice p la.length cp, .slice q lb.length cq] w fun e w' => e = .returned (.bool (!leB lb la)) ∧ w' = w := by
  have k1 := conv_in cp ha
  have k2 := conv_in cq hb
  have k3 := less_leB la lb
  clear ha hb
  go_enter Tryd.func29, Tryd.ntmps29
  go_wp2
  go_ret
  exact ⟨by rw [← k3]; rfl, rfl⟩
end Go.Proofs.YtedacccedbchaaaDoor
