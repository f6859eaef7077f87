/-
  Bags: rows in another order are the same bag; what is read of a bag is its rows, in their order; one more row is another bag.
-/
import Derived.Test.YtedacccedbchaaaDoorBgG
import Derived.Test.YtedacccedbchaaaDoorBgI
import Derived.Test.YtedacccedbchaaaDoorRoC
import Derived.Test.YtedacccedbchaaaDoorRoX
namespace Go.Proofs.YtedacccedbchaaaDoor
open Go.RowKit Go.Shelf

theorem bag_len {l : List (List Va)} (h : bagE l = 0) : l.length ≤ 65536 := by
  rcases Nat.lt_or_ge 65536 l.length with h2 | h2
  · unfold bagE at h; rw [if_pos h2] at h; cases h
  · exact h2
theorem bag_all {l : List (List Va)} (h : bagE l = 0) : ∀ r ∈ l, rowE r = 0 := by
  have h2 := bag_len h
  unfold bagE at h
  rw [if_neg (by omega)] at h
  exact bagEs_all h
theorem bag_of {l : List (List Va)} (h : l.length ≤ 65536) (h2 : ∀ r ∈ l, rowE r = 0) : bagE l = 0 := by
  unfold bagE
  rw [if_neg (by omega)]
  exact bagEs_of h2
theorem bag_perm {l m : List (List Va)} (hp : m.Perm l) (h : bagE l = 0) : bagE m = 0 ∧ bagB m = bagB l := by
  refine ⟨bag_of (by rw [hp.length_eq]; exact bag_len h) (fun r hr => bag_all h r (hp.subset hr)), ?_⟩
  unfold bagB
  rw [hp.length_eq, srtB_of_perm (hp.map rowB)]
theorem cnt4_val {n : Nat} (h : n ≤ 65536) : beN (cnt4 n) = n := by
  simp [beN, cnt4]
  omega
theorem bag_take (l : List (List Va)) : (bagB l).take 4 = cnt4 l.length := by
  unfold bagB
  rw [List.take_append_of_le_length (by simp [cnt4]), List.take_of_length_le (by simp [cnt4])]
theorem bag_drop (l : List (List Va)) : (bagB l).drop 4 = (srtB (l.map rowB)).flatten := by
  unfold bagB
  rw [List.drop_append_of_le_length (by simp [cnt4]), List.drop_of_length_le (by simp [cnt4]), List.nil_append]
theorem bag_other {l m : List (List Va)} (hl : bagE l = 0) (hm : bagE m = 0) (h : m.length ≠ l.length) : bagB m ≠ bagB l := by
  intro e
  have := congrArg (fun x => beN (x.take 4)) e
  simp only [bag_take] at this
  rw [cnt4_val (bag_len hm), cnt4_val (bag_len hl)] at this
  exact h this
/-- a row that can be read again -/
def goodR (r : List Va) : Prop := r.length ≤ 16 ∧ (∀ v ∈ r, okV v) ∧ ∀ v ∈ r, v.s.size ≤ 4096
theorem errs_zero : ∀ {l : List Va}, (∀ v ∈ l, v.chk = 0) → errs l = 0
  | [], _ => rfl
  | v :: l, h => by rw [errs_pass (h v List.mem_cons_self)]; exact errs_zero fun x hx => h x (List.mem_cons_of_mem _ hx)
theorem goodR.row {r : List Va} (h : goodR r) : rowE r = 0 := by
  unfold rowE
  rw [if_neg (by have := h.1; omega)]
  exact errs_zero fun v hv => (h.2.1 v hv).1
theorem pl_size {v : Va} (h : v.chk = 0) : (pl v).s.size ≤ 4096 := by
  unfold pl
  by_cases h3 : v.ty = 3
  · rw [if_pos h3]
    have : chk v.ty v.n v.s = 0 := h
    rw [h3, chk_text] at this
    exact (chkT_zero this).1
  · rw [if_neg h3]
    split
    · exact Nat.zero_le _
    · exact Nat.zero_le _
theorem rdBs_of : ∀ (M : List (List UInt8)) (acc : List (List Va)) (ah : List UInt8), (∀ x ∈ M, ∃ r : List Va, x = rowB r ∧ r.length ≤ 16 ∧ ∀ v ∈ r, okV v) → (∀ x ∈ M, leB ah x = true) → M.Pairwise (fun a b => leB a b = true) →
    ∃ S, rdBs M.length acc ah M.flatten = .ok (acc ++ S) ∧ S.map rowB = M ∧ ∀ r ∈ S, goodR r
  | [], acc, ah, _, _, _ => ⟨[], by simp [rdBs], rfl, by simp⟩
  | x :: M, acc, ah, h1, h2, h3 => by
    obtain ⟨r, hx, hr, hk⟩ := h1 x List.mem_cons_self
    have e := rdRow_of hr hk M.flatten
    obtain ⟨k1, k2, k3, k4, k5⟩ := rdRow_back e
    have hp := List.pairwise_cons.1 h3
    obtain ⟨S, hS, hm, hg⟩ := rdBs_of M (acc ++ [r.map pl]) x (fun y hy => h1 y (List.mem_cons_of_mem _ hy)) hp.1 hp.2
    refine ⟨r.map pl :: S, ?_, ?_, ?_⟩
    · rw [List.length_cons, List.flatten_cons, rdBs, hx, e]
      have ht : (rowB r ++ M.flatten).take (rowB r).length = rowB r := List.take_left' rfl
      have hd : (rowB r ++ M.flatten).drop (rowB r).length = M.flatten := List.drop_left' rfl
      simp only [ht, hd]
      rw [if_pos (by rw [← hx]; exact h2 x List.mem_cons_self), ← hx, hS]
      simp
    · rw [List.map_cons, hm, hx]
      congr 1
      rw [k5]; exact List.take_left' rfl
    · intro y hy
      rcases List.mem_cons.1 hy with rfl | hy
      · refine ⟨k2, k1, fun v hv => ?_⟩
        obtain ⟨u, hu, rfl⟩ := List.mem_map.1 hv
        exact pl_size (hk u hu).1
      · exact hg y hy
theorem rd_bag {l : List (List Va)} (hE : bagE l = 0) (hf : ∀ r ∈ l, ∀ v ∈ r, fit v.n) : ∃ S, rdBag (bagB l) = .ok S ∧ S.map rowB = srtB (l.map rowB) ∧ ∀ r ∈ S, goodR r := by
  have hl := bag_len hE
  have hlen : (srtB (l.map rowB)).length = l.length := by rw [(srtB_perm _).length_eq, List.length_map]
  obtain ⟨S, hS, hm, hg⟩ := rdBs_of (srtB (l.map rowB)) [] [] (fun x hx => by
    have := (srtB_perm (l.map rowB)).subset hx
    obtain ⟨r, hr, rfl⟩ := List.mem_map.1 this
    obtain ⟨q1, q2⟩ := rowE_ok (bag_all hE r hr)
    exact ⟨r, rfl, q1, fun v hv => ⟨q2 v hv, hf r hr v hv⟩⟩) (fun x _ => leB_nil x) (srtB_pw _)
  refine ⟨S, ?_, hm, hg⟩
  have h4 : ¬ (bagB l).length < 4 := by unfold bagB; rw [List.length_append]; simp [cnt4]
  unfold rdBag
  rw [if_neg h4, bag_take, cnt4_val hl, if_neg (by omega), bag_drop]
  rw [hlen] at hS
  simpa using hS
theorem bag_back {l S : List (List Va)} (hE : bagE l = 0) (hm : S.map rowB = srtB (l.map rowB)) (hg : ∀ r ∈ S, goodR r) : S.length = l.length ∧ bagE S = 0 ∧ bagB S = bagB l := by
  have hlen : S.length = l.length := by
    have := congrArg List.length hm
    rw [List.length_map, (srtB_perm _).length_eq, List.length_map] at this
    exact this
  refine ⟨hlen, bag_of (by rw [hlen]; exact bag_len hE) (fun r hr => (hg r hr).row), ?_⟩
  unfold bagB
  rw [hlen, hm, srtB_self (srtB_pw _)]
theorem bag_rows {l S : List (List Va)} (hm : S.map rowB = srtB (l.map rowB)) (hg : ∀ r ∈ S, goodR r) {k : Nat} {a b : List Va} (ha : S[k]? = some a) (hb : S[k + 1]? = some b) : rowsV a b ≤ 0 := by
  have hpw := srtB_pw (l.map rowB)
  rw [← hm, List.pairwise_map] at hpw
  have ga := hg a (List.mem_of_getElem? ha)
  have gb := hg b (List.mem_of_getElem? hb)
  rw [← rows_cmp (fun v hv => (ga.2.1 v hv).1) (fun v hv => (gb.2.1 v hv).1) (fun v hv => (ga.2.1 v hv).2) (fun v hv => (gb.2.1 v hv).2)]
  obtain ⟨h1, rfl⟩ := List.getElem?_eq_some_iff.1 ha
  obtain ⟨h2, rfl⟩ := List.getElem?_eq_some_iff.1 hb
  have := List.pairwise_iff_getElem.1 hpw k (k + 1) h1 h2 (by omega)
  simpa [leB] using this
/-- a list, turned about so far -/
def rot {α : Type} (l : List α) (f : Nat) : List α := l.drop (f % l.length) ++ l.take (f % l.length)
theorem rot_len {α : Type} (l : List α) (f : Nat) : (rot l f).length = l.length := by
  unfold rot
  rw [List.length_append, List.length_drop, List.length_take]
  rcases Nat.eq_zero_or_pos l.length with h | h
  · omega
  · have := Nat.mod_lt f h
    omega
theorem rot_get {α : Type} (l : List α) (f i : Nat) (hi : i < l.length) : (rot l f)[i]? = l[(i + f) % l.length]? := by
  have hf := Nat.mod_lt f (show 0 < l.length by omega)
  have e : (i + f) % l.length = (i + f % l.length) % l.length := by simp
  rw [e]
  unfold rot
  generalize f % l.length = q at hf
  by_cases h : i < l.length - q
  · rw [List.getElem?_append_left (by rw [List.length_drop]; exact h), List.getElem?_drop, Nat.mod_eq_of_lt (by omega), Nat.add_comm]
  · rw [List.getElem?_append_right (by rw [List.length_drop]; omega), List.length_drop, List.getElem?_take, if_pos (by omega)]
    congr 1
    rw [Nat.mod_eq_sub_mod (by omega), Nat.mod_eq_of_lt (by omega)]
    omega
theorem rot_perm {α : Type} (l : List α) (f : Nat) : (rot l f).reverse.Perm l := by
  refine (List.reverse_perm _).trans ?_
  unfold rot
  refine List.perm_append_comm.trans ?_
  rw [List.take_append_drop]
theorem rot_next {α : Type} {l : List α} {f i : Nat} {x : α} (hi : i < l.length) (h : l[(i + f) % l.length]? = some x) : ((rot l f).drop i).reverse = ((rot l f).drop (i + 1)).reverse ++ [x] := by
  rw [← rot_get l f i hi] at h
  rw [drop_at h, List.reverse_cons]

set_option maxHeartbeats 2000000 in
set_option maxRecDepth 1000000 in
theorem own_big (p : Option Addr) (c : Nat) (l : List UInt8) (w : World) (hp : byIn w p l) (hn : p = none → c = 0) (hl : l.length ≤ 10000000000) :
    Calls Tryd.prog 6 #[.slice p l.length c] w fun e w' => ∃ v', e = .returned v' ∧ ownsB w' w.heap.size v' l ∧ Below w.heap.size w w' ∧ ∃ g cap, v' = .slice (some ⟨g, 0, none⟩) l.length cap := by
  obtain ⟨i0, hi, hz0, hz1, hz2⟩ := info_parts u8Info
  have HP : Hid (byIn w p l) := hp
  have HN : Hid (p = none → c = 0) := hn
  clear hp hn
  go_enter Tryd.func6, Tryd.ntmps6
  go_wp2_with (first | (at_make; refine wpList_make_own _ rfl (.const (.int .i64 0)) (.tmp 5) 23 rfl w.heap.size 5 i0 (.int .u8 0) 1 u8Slice hi hz0 hz1 .i64 .i64 ((l.length : Int) + 2) (l.length + 2) rfl rfl (by omega) (by rw [hz2]; omega) (by unfold maxLen; omega) (Nat.le_refl _) ?_; intro w1 ho1 hg1) | (at_builtin; refine wpList_append_fits_any _ rfl (.tmp 6) (.tmp 7) 23 rfl w.heap.size 5 i0 1 u8Slice hi hz1 w.heap.size 0 (l.length + 2) [] rfl ho1 p l.length c (by8 l) rfl (by rw [by8_len]; omega) (fun h => ⟨by have := HP.out; rw [h] at this; rw [this.none_nil]; rfl, HN.out h⟩) (HP.out.below (grown_below hg1 (Nat.le_refl _) (by intro g h; cases h))).cells (by8_one _) (by omega) ?_; intro w2 ho2 hg2))
  go_ret
  have b1 : Below w.heap.size w w1 := grown_below hg1 (Nat.le_refl _) (by intro g h; cases h)
  refine ⟨_, rfl, ?_, b1.trans (grown_below hg2 b1.size (by intro g h; cases h; exact Nat.le_refl _)), ⟨w.heap.size, l.length + 2, rfl⟩⟩
  rw [Nat.zero_add, List.nil_append] at ho2
  exact ho2
end Go.Proofs.YtedacccedbchaaaDoor
