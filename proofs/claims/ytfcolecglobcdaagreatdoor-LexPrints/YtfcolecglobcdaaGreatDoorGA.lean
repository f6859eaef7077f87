/-
  Places in a text, as functions: the character that goes over a place; lines and columns both ways.
-/
import Derived.Test.YtfcolecglobcdaaGreatDoorLxJ
import Derived.Test.YtfcolecglobcdaaGreatDoorLxI
import Derived.Test.YtfcolecglobcdaaGreatDoorShelfD
import Derived.Shelf.Unicode.DecodeAny
namespace Go.Proofs.YtfcolecglobcdaaGreatDoor
open Go.RowKit Go.Shelf

/-! ### Characters in a text -/
theorem getD_takeU (l : List UInt8) (k j : Nat) (h : j < k) : (l.take k).getD j 0 = l.getD j 0 := by simp [List.getD, h]
theorem decN_cut (n n' b0 b1 b2 b3 c1 c2 c3 : Nat) (h1 : 1 < n' → 1 < n ∧ c1 = b1) (h2 : 2 < n' → 2 < n ∧ c2 = b2) (h3 : 3 < n' → 3 < n ∧ c3 = b3) (hw : (Lib.decodeN n b0 b1 b2 b3).2 ≤ n') : Lib.decodeN n' b0 c1 c2 c3 = Lib.decodeN n b0 b1 b2 b3 := by
  unfold Lib.decodeN at hw ⊢
  by_cases e0 : b0 < 128
  · rw [if_pos e0, if_pos e0]
  rw [if_neg e0] at hw
  rw [if_neg e0, if_neg e0]
  by_cases e1 : b0 / 32 = 6 ∧ (1 < n ∧ b1 / 64 = 2)
  · rw [if_pos e1] at hw
    rw [if_pos e1]
    by_cases g : b0 % 32 * 64 + b1 % 64 ≥ 128
    · rw [if_pos g] at hw
      have hn : 1 < n' := hw
      obtain ⟨_, rfl⟩ := h1 hn
      rw [if_pos ⟨e1.1, hn, e1.2.2⟩]
    · rw [if_neg g]
      by_cases hn : 1 < n'
      · obtain ⟨_, rfl⟩ := h1 hn
        rw [if_pos ⟨e1.1, hn, e1.2.2⟩, if_neg g]
      · rw [if_neg (fun h => hn h.2.1), if_neg (fun h => hn h.2.1.1), if_neg (fun h => hn h.2.1.1)]
  · rw [if_neg e1] at hw
    rw [if_neg e1]
    have e1' : ¬ (b0 / 32 = 6 ∧ (1 < n' ∧ c1 / 64 = 2)) := by
      rintro ⟨x, hn, y⟩
      obtain ⟨hn', rfl⟩ := h1 hn
      exact e1 ⟨x, hn', y⟩
    rw [if_neg e1']
    by_cases e2 : b0 / 16 = 14 ∧ (1 < n ∧ b1 / 64 = 2) ∧ (2 < n ∧ b2 / 64 = 2)
    · rw [if_pos e2] at hw
      rw [if_pos e2]
      split at hw
      · rename_i g
        have hn : 2 < n' := hw
        obtain ⟨_, rfl⟩ := h1 (by omega)
        obtain ⟨_, rfl⟩ := h2 hn
        rw [if_pos g, if_pos ⟨e2.1, ⟨by omega, e2.2.1.2⟩, hn, e2.2.2.2⟩]
      · rename_i g
        rw [if_neg g]
        by_cases hn : 2 < n'
        · obtain ⟨_, rfl⟩ := h1 (by omega)
          obtain ⟨_, rfl⟩ := h2 hn
          rw [if_pos ⟨e2.1, ⟨by omega, e2.2.1.2⟩, hn, e2.2.2.2⟩, if_neg g]
        · rw [if_neg (fun h => hn h.2.2.1), if_neg (fun h => hn h.2.2.1.1)]
    · rw [if_neg e2] at hw
      rw [if_neg e2]
      have e2' : ¬ (b0 / 16 = 14 ∧ (1 < n' ∧ c1 / 64 = 2) ∧ (2 < n' ∧ c2 / 64 = 2)) := by
        rintro ⟨x, ⟨hn, y⟩, hm, z⟩
        obtain ⟨hn', rfl⟩ := h1 hn
        obtain ⟨hm', rfl⟩ := h2 hm
        exact e2 ⟨x, ⟨hn', y⟩, hm', z⟩
      rw [if_neg e2']
      by_cases e3 : b0 / 8 = 30 ∧ (1 < n ∧ b1 / 64 = 2) ∧ (2 < n ∧ b2 / 64 = 2) ∧ (3 < n ∧ b3 / 64 = 2)
      · rw [if_pos e3] at hw
        rw [if_pos e3]
        split at hw
        · rename_i g
          have hn : 3 < n' := hw
          obtain ⟨_, rfl⟩ := h1 (by omega)
          obtain ⟨_, rfl⟩ := h2 (by omega)
          obtain ⟨_, rfl⟩ := h3 hn
          rw [if_pos g, if_pos ⟨e3.1, ⟨by omega, e3.2.1.2⟩, ⟨by omega, e3.2.2.1.2⟩, hn, e3.2.2.2.2⟩]
        · rename_i g
          rw [if_neg g]
          by_cases hn : 3 < n'
          · obtain ⟨_, rfl⟩ := h1 (by omega)
            obtain ⟨_, rfl⟩ := h2 (by omega)
            obtain ⟨_, rfl⟩ := h3 hn
            rw [if_pos ⟨e3.1, ⟨by omega, e3.2.1.2⟩, ⟨by omega, e3.2.2.1.2⟩, hn, e3.2.2.2.2⟩, if_neg g]
          · rw [if_neg (fun h => hn h.2.2.2.1)]
      · rw [if_neg e3]
        rw [if_neg]
        rintro ⟨x, ⟨hn, y⟩, ⟨hm, z⟩, ho, u⟩
        obtain ⟨hn', rfl⟩ := h1 hn
        obtain ⟨hm', rfl⟩ := h2 hm
        obtain ⟨ho', rfl⟩ := h3 ho
        exact e3 ⟨x, ⟨hn', y⟩, ⟨hm', z⟩, ho', u⟩
/-- a character that lies within the first bytes is read of them alone -/
theorem dec_take (l : List UInt8) (k : Nat) (h : (Lib.decodeL l).2 ≤ k) (hl : k ≤ l.length) : Lib.decodeL (l.take k) = Lib.decodeL l := by
  have hp := Lib.decodeL_width l
  rw [Lib.decodeL_N] at h hp
  rw [Lib.decodeL_N, Lib.decodeL_N, List.length_take, Nat.min_eq_left hl, getD_takeU l k 0 (by omega)]
  exact decN_cut _ _ _ _ _ _ _ _ _ (fun hh => ⟨by omega, by rw [getD_takeU l k 1 hh]⟩) (fun hh => ⟨by omega, by rw [getD_takeU l k 2 hh]⟩) (fun hh => ⟨by omega, by rw [getD_takeU l k 3 hh]⟩) h
/-- what follows within a character begins none -/
theorem decN_cont (n b0 b1 b2 b3 j : Nat) (h0 : 0 < j) (hj : j < (Lib.decodeN n b0 b1 b2 b3).2) : j < n ∧ ((j = 1 ∧ b1 / 64 = 2) ∨ (j = 2 ∧ b2 / 64 = 2) ∨ (j = 3 ∧ b3 / 64 = 2)) := by
  unfold Lib.decodeN at hj
  split at hj
  · simp at hj; omega
  split at hj
  · rename_i e
    split at hj
    · have : j < 2 := hj
      exact ⟨by omega, Or.inl ⟨by omega, e.2.2⟩⟩
    · have : j < 1 := hj
      omega
  split at hj
  · rename_i e
    split at hj
    · have : j < 3 := hj
      have hc : j = 1 ∨ j = 2 := by omega
      rcases hc with rfl | rfl
      · exact ⟨by omega, Or.inl ⟨rfl, e.2.1.2⟩⟩
      · exact ⟨by omega, Or.inr (Or.inl ⟨rfl, e.2.2.2⟩)⟩
    · have : j < 1 := hj
      omega
  split at hj
  · rename_i e
    split at hj
    · have : j < 4 := hj
      have hc : j = 1 ∨ j = 2 ∨ j = 3 := by omega
      rcases hc with rfl | rfl | rfl
      · exact ⟨by omega, Or.inl ⟨rfl, e.2.1.2⟩⟩
      · exact ⟨by omega, Or.inr (Or.inl ⟨rfl, e.2.2.1.2⟩)⟩
      · exact ⟨by omega, Or.inr (Or.inr ⟨rfl, e.2.2.2.2⟩)⟩
    · have : j < 1 := hj
      omega
  · have : j < 1 := hj
    omega
theorem decN_none (n b0 b1 b2 b3 : Nat) (h : b0 / 64 = 2) : Lib.decodeN n b0 b1 b2 b3 = (65533, 1) := by
  unfold Lib.decodeN
  rw [if_neg (by omega), if_neg (by omega), if_neg (by omega), if_neg (by omega)]
theorem dec_within (l : List UInt8) (j : Nat) (h0 : 0 < j) (hj : j < (Lib.decodeL l).2) : Lib.decodeL (l.drop j) = (65533, 1) := by
  rw [Lib.decodeL_N] at hj
  obtain ⟨_, h⟩ := decN_cont _ _ _ _ _ j h0 hj
  rw [Lib.decodeL_N, Lib.getD_dropU]
  apply decN_none
  rcases h with ⟨rfl, h⟩ | ⟨rfl, h⟩ | ⟨rfl, h⟩ <;> simpa using h
def wd (l : List UInt8) (i : Nat) : Nat := (Lib.decodeL (l.drop i)).2
theorem wd_pos (l : List UInt8) (i : Nat) : 1 ≤ wd l i := Lib.decodeL_width _
theorem wd_le (l : List UInt8) (i : Nat) (h : i < l.length) : i + wd l i ≤ l.length := by
  have := Lib.decodeL_le (l.drop i) (by intro e; have := congrArg List.length e; simp at this; omega)
  rw [List.length_drop] at this
  unfold wd; omega
theorem wd_four (l : List UInt8) (i : Nat) : wd l i ≤ 4 := by
  unfold wd; rw [Lib.decodeL_N]; unfold Lib.decodeN
  split
  · simp
  split
  · split <;> simp
  split
  · split <;> simp
  split
  · split <;> simp
  · simp
theorem wd_within (l : List UInt8) (f i : Nat) (h0 : f < i) (h : i < f + wd l f) : wd l i = 1 := by
  have := dec_within (l.drop f) (i - f) (by omega) (by unfold wd at h; omega)
  rw [List.drop_drop, show f + (i - f) = i by omega] at this
  unfold wd; rw [this]
/-- no character that begins ahead of a place goes over it -/
def noSpan (l : List UInt8) (i : Nat) : Prop := ∀ f, f < i → f + wd l f ≤ i
theorem noSpan_zero (l : List UInt8) : noSpan l 0 := fun f h => by omega
theorem noSpan_next {l : List UInt8} {i : Nat} (h : noSpan l i) : noSpan l (i + wd l i) := by
  intro f hf
  have hp := wd_pos l f
  by_cases h1 : f < i
  · have := h f h1; omega
  · by_cases h2 : f = i
    · subst h2; omega
    · have := wd_within l i f (by omega) hf
      omega
/-- where the character begins that goes over a place -/
def bgnF (l : List UInt8) (at' : Nat) : Nat → Nat → Nat
  | 0, _ => at'
  | f + 1, i => if i < at' then (if at' < i + wd l i then i else bgnF l at' f (i + 1)) else at'
def bgn (l : List UInt8) (at' : Nat) : Nat := bgnF l at' 4 (at' - 3)
theorem bgnF_hit (l : List UInt8) (at' i : Nat) (hi : i < at') (hs : at' < i + wd l i) : ∀ (f j : Nat), j ≤ i → i < j + f → (∀ q, j ≤ q → q < i → q + wd l q ≤ at') → bgnF l at' f j = i
  | 0, j, h1, h2, _ => by omega
  | f + 1, j, h1, h2, h3 => by
    rw [bgnF, if_pos (by omega)]
    by_cases e : j = i
    · subst e; rw [if_pos hs]
    · rw [if_neg (by have := h3 j (Nat.le_refl _) (by omega); omega)]
      exact bgnF_hit l at' i hi hs f (j + 1) (by omega) (by omega) (fun q hq1 hq2 => h3 q (by omega) hq2)
theorem bgnF_ge (l : List UInt8) (at' : Nat) : ∀ (f j : Nat), bgnF l at' f j = at' ∨ (j ≤ bgnF l at' f j ∧ bgnF l at' f j < at' ∧ at' < bgnF l at' f j + wd l (bgnF l at' f j))
  | 0, j => Or.inl rfl
  | f + 1, j => by
    rw [bgnF]
    split
    · rename_i h
      split
      · rename_i h2; exact Or.inr ⟨Nat.le_refl _, h, h2⟩
      · rcases bgnF_ge l at' f (j + 1) with e | ⟨e1, e2, e3⟩
        · exact Or.inl e
        · exact Or.inr ⟨by omega, e2, e3⟩
    · exact Or.inl rfl
/-- line and column of a place, character by character from a place on -/
def whF (l : List UInt8) (at' : Nat) : Nat → Nat → Nat → Nat → Nat × Nat
  | 0, _, a, b => (a, b)
  | f + 1, i, a, b => if i < at' then (if at' < i + wd l i then (a, b) else if (Lib.decodeL (l.drop i)).1 = 10 then whF l at' f (i + wd l i) (a + 1) 1 else whF l at' f (i + wd l i) a (b + 1)) else (a, b)
theorem wh_eq (l : List UInt8) (at' : Nat) (hat : at' ≤ l.length) : ∀ (f g i a b : Nat), noSpan l i → i ≤ at' → at' < i + f → bgn l at' < i + g + 1 → whF l at' f i a b = behF g a b ((l.take (bgn l at')).drop i)
  | 0, g, i, a, b, hn, hi, hf, hg => by omega
  | f + 1, g, i, a, b, hn, hi, hf, hg => by
    have hge := bgnF_ge l at' 4 (at' - 3)
    have hB : bgn l at' ≤ at' := by
      unfold bgn
      rcases hge with e | ⟨_, e, _⟩ <;> omega
    rw [whF]
    by_cases h1 : i < at'
    · rw [if_pos h1]
      have hp := wd_pos l i
      have h4 := wd_four l i
      by_cases h2 : at' < i + wd l i
      · rw [if_pos h2]
        have hb : bgn l at' = i := by
          refine bgnF_hit l at' i h1 h2 4 (at' - 3) (by omega) (by omega) (fun q hq1 hq2 => ?_)
          have := hn q hq2
          omega
        rw [hb, List.drop_eq_nil_of_le (by simp; omega), behF_end]
      · rw [if_neg h2]
        have hb : i + wd l i ≤ bgn l at' := by
          unfold bgn
          rcases hge with e | ⟨e0, e1, e2⟩
          · rw [e]; omega
          · generalize bgnF l at' 4 (at' - 3) = q at *
            rcases Nat.lt_or_ge q (i + wd l i) with hlt | hge'
            · by_cases q1 : q < i
              · have := hn q q1; omega
              · by_cases q2 : q = i
                · subst q2; omega
                · have := wd_within l i q (by omega) hlt; omega
            · exact hge'
        have hlen : ((l.take (bgn l at')).drop i).length = bgn l at' - i := by simp; omega
        have hne : (l.take (bgn l at')).drop i ≠ [] := by
          intro e
          have := congrArg List.length e
          rw [hlen] at this
          simp at this; omega
        have hdt : (l.take (bgn l at')).drop i = (l.drop i).take (bgn l at' - i) := List.drop_take
        have hd : Lib.decodeL ((l.take (bgn l at')).drop i) = Lib.decodeL (l.drop i) := by
          rw [hdt]
          refine dec_take (l.drop i) _ ?_ (by rw [List.length_drop]; omega)
          unfold wd at hb; omega
        obtain ⟨g', rfl⟩ : ∃ g', g = g' + 1 := ⟨g - 1, by omega⟩
        have hdr : ((l.take (bgn l at')).drop i).drop (Lib.decodeL (l.drop i)).2 = (l.take (bgn l at')).drop (i + wd l i) := by
          rw [List.drop_drop]; rfl
        by_cases h3 : (Lib.decodeL (l.drop i)).1 = 10
        · rw [if_pos h3, behF_nl hne (by rw [hd]; exact h3), hd, hdr]
          exact wh_eq l at' hat f g' (i + wd l i) _ _ (noSpan_next hn) (by omega) (by omega) (by omega)
        · rw [if_neg h3, behF_other hne (by rw [hd]; exact h3), hd, hdr]
          exact wh_eq l at' hat f g' (i + wd l i) _ _ (noSpan_next hn) (by omega) (by omega) (by omega)
    · rw [if_neg h1]
      have : i = at' := by omega
      rw [List.drop_eq_nil_of_le (by simp; omega), behF_end]
end Go.Proofs.YtfcolecglobcdaaGreatDoor
namespace Go.Proofs.YtfcolecglobcdaaGreatDoor
open Go.RowKit Go.Shelf

def byt (c : Nat) : Nat := if c < 128 then 1 else if c < 2048 then 2 else if c < 65536 then 3 else 4
set_option maxHeartbeats 1000000 in
theorem bytes_any (c : Nat) (w : World) : Calls Tryz.prog 40 #[.int .i32 (c : Int)] w fun e w' => e = .returned (.int .i64 (byt c : Nat)) ∧ w' = w := by
  unfold byt
  by_cases h1 : c < 128
  · have i1 : (c : Int) < 128 := by omega
    rw [if_pos h1]
    go_enter Tryz.func40, Tryz.ntmps40
    go_wp2_with fail
    go_ret
    exact ⟨rfl, rfl⟩
  have i1 : ¬ (c : Int) < 128 := by omega
  rw [if_neg h1]
  by_cases h2 : c < 2048
  · have i2 : (c : Int) < 2048 := by omega
    rw [if_pos h2]
    go_enter Tryz.func40, Tryz.ntmps40
    go_wp2_with fail
    go_ret
    exact ⟨rfl, rfl⟩
  have i2 : ¬ (c : Int) < 2048 := by omega
  rw [if_neg h2]
  by_cases h3 : c < 65536
  · have i3 : (c : Int) < 65536 := by omega
    rw [if_pos h3]
    go_enter Tryz.func40, Tryz.ntmps40
    go_wp2_with fail
    go_ret
    exact ⟨rfl, rfl⟩
  have i3 : ¬ (c : Int) < 65536 := by omega
  rw [if_neg h3]
  go_enter Tryz.func40, Tryz.ntmps40
  go_wp2_with fail
  go_ret
  exact ⟨rfl, rfl⟩
theorem pre_repl (l : List UInt8) : ([239, 191, 189] : List UInt8).isPrefixOf l = repl l := by
  unfold repl
  rcases l with _ | ⟨a, _ | ⟨b, _ | ⟨c, l⟩⟩⟩
  · rfl
  · simp [List.isPrefixOf]
  · simp [List.isPrefixOf]
  · have e : ∀ x y : UInt8, (x == y) = (y == x) := fun x y => BEq.comm
    simp [List.isPrefixOf, e 239 a, e 191 b, e 189 c]
theorem byt_width {l : List UInt8} (h : badHere l = false) : byt (Lib.decodeL l).1 = (Lib.decodeL l).2 := by
  by_cases hr : (Lib.decodeL l).1 = 65533
  · have hp : repl l = true := by
      rw [← pre_repl]
      unfold badHere at h
      rw [hr] at h
      simpa using h
    rw [decode_repl l hp]
    decide
  · have h1 := Lib.runeLen_decode l hr
    have h2 := Lib.decodeL_rune l
    generalize (Lib.decodeL l).1 = r at *
    generalize (Lib.decodeL l).2 = k at *
    have h1' : (k : Int) = byt r ∨ (k : Int) = -1 := by
      rw [← h1]
      unfold byt Lib.runeLen
      repeat' split
      all_goals omega
    omega
end Go.Proofs.YtfcolecglobcdaaGreatDoor
namespace Go.Proofs.YtfcolecglobcdaaGreatDoor
open Go.RowKit Go.Shelf

set_option maxHeartbeats 2000000 in
set_option maxRecDepth 1000000 in
theorem behind_big (p a b : Nat) (l : List UInt8) (w : World) (hs : l.length ≤ 2000000) (hp : p ≤ 2000000) (ha : a ≤ 2000001) (hb1 : 1 ≤ b) (hb : b ≤ 2000001) :
    Calls Tryz.prog 20 #[.agg #[.int .i64 p, .int .i64 a, .int .i64 b], .string ⟨l.toArray⟩] w fun e w' => e = .returned (.agg #[.int .i64 ((p + l.length : Nat) : Int), .int .i64 ((beh a b l).1 : Nat), .int .i64 ((beh a b l).2 : Nat)]) ∧ Below w.heap.size w w' := by
  have hzl : (ByteArray.mk l.toArray).size = l.length := size_mk l
  go_enter Tryz.func20, Tryz.ntmps20
  go_wp2
  go_loopw [] (fun wr => ∃ (pos fuel A B : Nat), wr.heap[w.heap.size + 2]? = some (.stringIter ⟨l.toArray⟩ pos) ∧ R3 wr w.heap.size (.int .i64 p) (.int .i64 (A : Nat)) (.int .i64 (B : Nat)) ∧ R3 wr (w.heap.size + 1) (.int .i64 0) (.int .i64 0) (.int .i64 0) ∧ Below w.heap.size w wr ∧ Hid (behF fuel A B (l.drop pos) = beh a b l) ∧ l.length ≤ pos + fuel ∧ pos ≤ l.length ∧ A ≤ a + pos ∧ B ≤ b + pos ∧ 1 ≤ B)
    (fun wr => l.length - wr.iterPos (w.heap.size + 2))
  case atStart =>
    have hz1 : (w.alloc (.cells #[.int .i64 p, .int .i64 a, .int .i64 b] 44)).heap.size = w.heap.size + 1 := by simp
    refine ⟨0, l.length, a, b, ?_, ((R3.new w 44 (.int .i64 p) (.int .i64 a) (.int .i64 b)).alloc _).alloc _, ?_, ?_, rfl, by omega, by omega, by omega, by omega, hb1⟩
    · have h := World.iter_heap ((w.alloc (.cells #[.int .i64 p, .int .i64 a, .int .i64 b] 44)).alloc (.cells #[.int .i64 0, .int .i64 0, .int .i64 0] 44)) ⟨l.toArray⟩ 0
      simpa using h
    · have h := R3.new (w.alloc (.cells #[.int .i64 p, .int .i64 a, .int .i64 b] 44)) 44 (.int .i64 0) (.int .i64 0) (.int .i64 0)
      rw [hz1] at h
      exact h.alloc _
    · exact (((Below.refl _ w).alloc (Nat.le_refl _) _).alloc (by simp) _).alloc (by simp; omega) _
  case round =>
    obtain ⟨pos, fuel, A, B, hit, hR, hZ, hbw, hacc, hfu, hpl, hA, hB, hB1⟩ := hrel
    have hg0 : w.heap.size ≠ w.heap.size + 2 := by omega
    have hg1 : w.heap.size + 1 ≠ w.heap.size + 2 := by omega
    by_cases hp' : pos < l.length
    · have hp2 : pos < (ByteArray.mk l.toArray).size := by rw [hzl]; exact hp'
      have hnx : ∀ ty, (Instr.next (.pointer (some ⟨w.heap.size + 2, 0, none⟩)) true ty).run Tryz.prog wr = _ := fun ty => Lib.run_next_any_at wr (w.heap.size + 2) ⟨l.toArray⟩ pos ty hit hp2
      have hwd := width_pos ⟨l.toArray⟩ pos hp2
      have hne : l.drop pos ≠ [] := by intro e; have := congrArg List.length e; simp at this; omega
      have hwl := Lib.decodeL_le (l.drop pos) hne
      have hdd := dec_drop l pos
      rw [hdd, List.length_drop] at hwl
      have hit2 := Lib.iterAt_heap wr (w.heap.size + 2) ⟨l.toArray⟩ pos (pos + (Utf8.decode ⟨l.toArray⟩ pos).2) hit
      have hR2 := R3b.blk hR (Lib.iterAt_other wr (w.heap.size + 2) w.heap.size ⟨l.toArray⟩ (pos + (Utf8.decode ⟨l.toArray⟩ pos).2) hg0)
      have hZ2 := R3b.blk hZ (Lib.iterAt_other wr (w.heap.size + 2) (w.heap.size + 1) ⟨l.toArray⟩ (pos + (Utf8.decode ⟨l.toArray⟩ pos).2) hg1)
      have hbw2 := Lib.below_iterAt hbw (k := w.heap.size + 2) (by omega) ⟨l.toArray⟩ (pos + (Utf8.decode ⟨l.toArray⟩ pos).2)
      obtain ⟨f, rfl⟩ : ∃ f, fuel = f + 1 := ⟨fuel - 1, by omega⟩
      have hst := hacc.out
      obtain ⟨R, hRr⟩ : ∃ R, (Utf8.decode ⟨l.toArray⟩ pos).1 = R := ⟨_, rfl⟩
      obtain ⟨K, hK⟩ : ∃ K, (Utf8.decode ⟨l.toArray⟩ pos).2 = K := ⟨_, rfl⟩
      have hm : l.length - (pos + K) < l.length - wr.iterPos (w.heap.size + 2) := by
        simp only [World.iterPos, hit]
        rw [hK] at hwd hwl
        omega
      rw [hK] at hwd hwl hit2 hR2 hZ2 hbw2
      simp only [hRr, hK] at hnx
      clear hit hR hZ hbw hacc
      generalize wr.iterAt (w.heap.size + 2) ⟨l.toArray⟩ (pos + K) = wi at *
      obtain ⟨hlt, c0, c1, c2, f0, f1, f2⟩ := id hR2
      have hBi : (B : Int) ≤ 9000000 := by omega
      have hAi : (A : Int) ≤ 9000000 := by omega
      by_cases h1 : R = 10
      · have h1b : ((R : Int) == 10) = true := by rw [beq_iff_eq]; omega
        have HC : Hid (behF f (A + 1) 1 (l.drop (pos + K)) = beh a b l) := by
          rw [behF_nl hne (by rw [hdd, hRr]; exact h1), hdd, hK, List.drop_drop] at hst
          exact hst
        have hR3 := ((hR2 |> (R3b.col · (.int .i64 ((B : Int) + 1)))) |> (R3b.line · (.int .i64 ((A : Int) + 1)))) |> (R3b.col · (.int .i64 1))
        have hZ3 := R3b.blk hZ2 (w' := ((wi.setCell ⟨w.heap.size, 2, none⟩ (.int .i64 ((B : Int) + 1))).setCell ⟨w.heap.size, 1, none⟩ (.int .i64 ((A : Int) + 1))).setCell ⟨w.heap.size, 2, none⟩ (.int .i64 1)) (by rw [heap_setCell_other _ _ _ _ (by simp), heap_setCell_other _ _ _ _ (by simp), heap_setCell_other _ _ _ _ (by simp)])
        have hit3 : (((wi.setCell ⟨w.heap.size, 2, none⟩ (.int .i64 ((B : Int) + 1))).setCell ⟨w.heap.size, 1, none⟩ (.int .i64 ((A : Int) + 1))).setCell ⟨w.heap.size, 2, none⟩ (.int .i64 1)).heap[w.heap.size + 2]? = some (.stringIter ⟨l.toArray⟩ (pos + K)) := by rw [heap_setCell_other _ _ _ _ (by simp), heap_setCell_other _ _ _ _ (by simp), heap_setCell_other _ _ _ _ (by simp)]; exact hit2
        have hbw3 := ((hbw2.setCell (p := ⟨w.heap.size, 2, none⟩) (Nat.le_refl _) (.int .i64 ((B : Int) + 1))).setCell (p := ⟨w.heap.size, 1, none⟩) (Nat.le_refl _) (.int .i64 ((A : Int) + 1))).setCell (p := ⟨w.heap.size, 2, none⟩) (Nat.le_refl _) (.int .i64 1)
        clear hst hdd hne h1 hRr hK hR2 hZ2
        go_wp2_with fail
        go_roundw
        case rel => exact ⟨pos + K, f, A + 1, 1, hit3, by simpa using hR3, hZ3, hbw3, HC, by omega, by omega, by omega, by omega, Nat.le_refl _⟩
        case measure =>
          simp only [World.iterPos, hit3]
          exact hm
      · have h1b : ((R : Int) == 10) = false := by rw [beq_eq_false_iff_ne]; omega
        have HC : Hid (behF f A (B + 1) (l.drop (pos + K)) = beh a b l) := by
          rw [behF_other hne (by rw [hdd, hRr]; exact h1), hdd, hK, List.drop_drop] at hst
          exact hst
        have hR3 := R3b.col hR2 (.int .i64 ((B : Int) + 1))
        have hZ3 := R3b.blk hZ2 (w' := wi.setCell ⟨w.heap.size, 2, none⟩ (.int .i64 ((B : Int) + 1))) (by rw [heap_setCell_other _ _ _ _ (by simp)])
        have hit3 : (wi.setCell ⟨w.heap.size, 2, none⟩ (.int .i64 ((B : Int) + 1))).heap[w.heap.size + 2]? = some (.stringIter ⟨l.toArray⟩ (pos + K)) := by rw [heap_setCell_other _ _ _ _ (by simp)]; exact hit2
        have hbw3 := hbw2.setCell (p := ⟨w.heap.size, 2, none⟩) (Nat.le_refl _) (.int .i64 ((B : Int) + 1))
        clear hst hdd hne h1 hRr hK hR2 hZ2
        go_wp2_with fail
        go_roundw
        case rel => exact ⟨pos + K, f, A, B + 1, hit3, by simpa using hR3, hZ3, hbw3, HC, by omega, by omega, by omega, by omega, by omega⟩
        case measure =>
          simp only [World.iterPos, hit3]
          exact hm
    · have hp2 : ¬ pos < (ByteArray.mk l.toArray).size := by rw [hzl]; exact hp'
      have hnx : ∀ ty, (Instr.next (.pointer (some ⟨w.heap.size + 2, 0, none⟩)) true ty).run Tryz.prog wr = _ := fun ty => Lib.run_next_end_at wr (w.heap.size + 2) ⟨l.toArray⟩ pos ty hit hp2
      have hE := hacc.out
      rw [List.drop_eq_nil_of_le (by omega), behF_end] at hE
      have H : Hid (beh a b l = (A, B)) := hE.symm
      clear hE hacc hit
      obtain ⟨hlt, c0, c1, c2, f0, f1, f2⟩ := id hR
      obtain ⟨hlt', d0, d1, d2, g0, g1, g2⟩ := id hZ
      have hpi : (p : Int) ≤ 2000000 := by omega
      have hli : (l.length : Int) ≤ 2000000 := by omega
      go_wp2_with fail
      have hZ2 := R3b.blk hZ (w' := wr.setCell ⟨w.heap.size, 0, none⟩ (.int .i64 ((p : Int) + (l.length : Int)))) (by rw [heap_setCell_other _ _ _ _ (by simp)])
      obtain ⟨_, x0, x1, x2, _, _, _⟩ := hZ2.put (.int .i64 ((p : Int) + (l.length : Int))) (.int .i64 (A : Nat)) (.int .i64 (B : Nat))
      unfold R3.set at x0 x1 x2
      refine bodyPost_ret (v := .agg #[.int .i64 ((p : Int) + (l.length : Int)), .int .i64 (A : Nat), .int .i64 (B : Nat)]) (by simp [results, Tryz.results20, go_sem, x0, x1, x2]) rfl ⟨by rw [H.out]; simp, ?_⟩
      exact R3.set_below (hbw.setCell (p := ⟨w.heap.size, 0, none⟩) (Nat.le_refl _) _) (by omega) _ _ _
/-- the character with which a text begins, and its bytes -/
def fst1 (l : List UInt8) : Int := if l = [] ∨ badHere l = true then 0 else ((Lib.decodeL l).1 : Int)
def fst2 (l : List UInt8) : Nat := if l = [] ∨ badHere l = true then 0 else (Lib.decodeL l).2
theorem pre_take {l : List UInt8} (_h : 3 ≤ l.length) : (l.take 3 != [239, 191, 189]) = !([239, 191, 189] : List UInt8).isPrefixOf l := by
  rw [pre_repl]; rfl
theorem pre_short {l : List UInt8} (h : l.length < 3) : ([239, 191, 189] : List UInt8).isPrefixOf l = false := by
  cases hp : ([239, 191, 189] : List UInt8).isPrefixOf l with
  | false => rfl
  | true =>
    have := (List.isPrefixOf_iff_prefix.1 hp).length_le
    simp at this; omega
set_option maxHeartbeats 2000000 in
set_option maxRecDepth 1000000 in
theorem first_any (l : List UInt8) (w : World) (hs : l.length ≤ 2000000) :
    Calls Tryz.prog 22 #[.string ⟨l.toArray⟩] w fun e w' => e = .returned (.tuple #[.int .i32 (fst1 l), .int .i64 (fst2 l : Nat)]) ∧ Below w.heap.size w w' := by
  have BY : Hid (∀ (c : Nat) w, Calls Tryz.prog 40 #[.int .i32 (c : Int)] w fun e w' => e = .returned (.int .i64 (byt c : Nat)) ∧ w' = w) := bytes_any
  have hzl : (ByteArray.mk l.toArray).size = l.length := size_mk l
  have hex : (ByteArray.mk l.toArray).extract 0 3 = ByteArray.mk (l.take 3).toArray := by rw [extract_mk, List.drop_zero]
  have ptk := @pre_take l
  have psh := @pre_short l
  obtain ⟨T3, hT3⟩ : ∃ T3, T3 = l.take 3 := ⟨_, rfl⟩
  rw [← hT3] at hex ptk
  clear hT3
  go_enter Tryz.func22, Tryz.ntmps22
  go_wp2
  go_loopw [] (fun wr => wr.heap[w.heap.size]? = some (.stringIter ⟨l.toArray⟩ 0) ∧ Below w.heap.size w wr) (fun _ => 0)
  case atStart =>
    refine ⟨?_, ?_⟩
    · have := World.iter_heap w ⟨l.toArray⟩ 0
      simpa using this
    · exact (Below.refl _ w).alloc (Nat.le_refl _) _
  case round =>
    obtain ⟨hit, hbw⟩ := hrel
    by_cases hp : 0 < l.length
    · have hp2 : 0 < (ByteArray.mk l.toArray).size := by rw [hzl]; exact hp
      have hnx : ∀ ty, (Instr.next (.pointer (some ⟨w.heap.size, 0, none⟩)) true ty).run Tryz.prog wr = _ := fun ty => Lib.run_next_any_at wr w.heap.size ⟨l.toArray⟩ 0 ty hit hp2
      have hbw2 := Lib.below_iterAt hbw (k := w.heap.size) (Nat.le_refl _) ⟨l.toArray⟩ (0 + (Utf8.decode ⟨l.toArray⟩ 0).2)
      have hdd := dec_drop l 0
      rw [List.drop_zero] at hdd
      have hne : l ≠ [] := by rintro rfl; simp at hp
      have hbh : badHere l = (decide ((Lib.decodeL l).1 = 0) || (decide ((Lib.decodeL l).1 = 65533) && !([239, 191, 189] : List UInt8).isPrefixOf l)) := rfl
      have hbyt : badHere l = false → byt (Lib.decodeL l).1 = (Lib.decodeL l).2 := fun h => byt_width h
      have e1 : fst1 l = if badHere l = true then 0 else ((Lib.decodeL l).1 : Int) := by unfold fst1; simp [hne]
      have e2 : fst2 l = if badHere l = true then 0 else (Lib.decodeL l).2 := by unfold fst2; simp [hne]
      rw [← hdd] at hnx hbw2
      generalize badHere l = BH at *
      generalize ([239, 191, 189] : List UInt8).isPrefixOf l = PF at *
      obtain ⟨R, hR⟩ : ∃ R, (Lib.decodeL l).1 = R := ⟨_, rfl⟩
      obtain ⟨K, hK⟩ : ∃ K, (Lib.decodeL l).2 = K := ⟨_, rfl⟩
      simp only [hR, hK] at hnx hbw2 hbh hbyt e1 e2
      rw [Nat.zero_add] at hbw2
      clear hdd hit hbw hne hR hK
      by_cases h1 : R = 65533
      · have b1 : ((R : Int) == 65533) = true := by rw [beq_iff_eq]; omega
        have b0 : ((R : Int) == 0) = false := by rw [beq_eq_false_iff_ne]; omega
        by_cases h3 : l.length < 3
        · have b3 : (l.length : Int) < 3 := by omega
          have hB : BH = true := by rw [hbh, psh h3, decide_eq_true h1]; simp
          have E1 : Hid (fst1 l = 0) := by show _ = _; rw [e1, hB]; rfl
          have E2 : Hid (fst2 l = 0) := by show _ = _; rw [e2, hB]; rfl
          clear hbh hbyt ptk psh h1 h3 BY e1 e2
          go_wp2_with fail
          rw [E1.out, E2.out]
          go_ret2
          exact ⟨rfl, hbw2⟩
        · have b3 : ¬ (l.length : Int) < 3 := by omega
          have pt := ptk (by omega)
          have b4 : (3 : Int) ≤ (l.length : Int) := by omega
          cases PF with
          | true =>
            have hB : BH = false := by rw [hbh, decide_eq_true h1, decide_eq_false (by omega)]; rfl
            have pt' : (T3 == ([239, 191, 189] : List UInt8)) = true := by simpa [bne] using pt
            have hk := hbyt hB
            have E1 : Hid (fst1 l = (R : Int)) := by show _ = _; rw [e1, hB]; rfl
            have E2 : Hid (fst2 l = K) := by show _ = _; rw [e2, hB]; rfl
            have BY1 : Hid (∀ w, Calls Tryz.prog 40 #[.int .i32 (R : Int)] w fun e w' => e = .returned (.int .i64 (K : Nat)) ∧ w' = w) := fun w => hk ▸ BY.out R w
            clear hbh hbyt ptk psh h1 h3 BY pt hk e1 e2
            go_wp2_with fail
            refine (BY1.out _).mono ?_
            rintro e w1 ⟨rfl, hwx⟩
            have hwy := hwx.symm
            subst hwy
            clear BY1 hwx
            go_wp2_with fail
            rw [E1.out, E2.out]
            go_ret2
            exact ⟨rfl, hbw2⟩
          | false =>
            have hB : BH = true := by rw [hbh, decide_eq_true h1]; simp
            have pt' : (T3 == ([239, 191, 189] : List UInt8)) = false := by simpa [bne] using pt
            have E1 : Hid (fst1 l = 0) := by show _ = _; rw [e1, hB]; rfl
            have E2 : Hid (fst2 l = 0) := by show _ = _; rw [e2, hB]; rfl
            clear hbh hbyt ptk psh h1 h3 BY pt e1 e2
            go_wp2_with fail
            rw [E1.out, E2.out]
            go_ret2
            exact ⟨rfl, hbw2⟩
      · have b1 : ((R : Int) == 65533) = false := by rw [beq_eq_false_iff_ne]; omega
        by_cases h0 : R = 0
        · have b0 : ((R : Int) == 0) = true := by rw [beq_iff_eq]; omega
          have hB : BH = true := by rw [hbh, decide_eq_true h0]; rfl
          have E1 : Hid (fst1 l = 0) := by show _ = _; rw [e1, hB]; rfl
          have E2 : Hid (fst2 l = 0) := by show _ = _; rw [e2, hB]; rfl
          clear hbh hbyt ptk psh h1 h0 BY e1 e2
          go_wp2_with fail
          rw [E1.out, E2.out]
          go_ret2
          exact ⟨rfl, hbw2⟩
        · have b0 : ((R : Int) == 0) = false := by rw [beq_eq_false_iff_ne]; omega
          have hB : BH = false := by rw [hbh, decide_eq_false h0, decide_eq_false h1]; rfl
          have hk := hbyt hB
          have E1 : Hid (fst1 l = (R : Int)) := by show _ = _; rw [e1, hB]; rfl
          have E2 : Hid (fst2 l = K) := by show _ = _; rw [e2, hB]; rfl
          have BY1 : Hid (∀ w, Calls Tryz.prog 40 #[.int .i32 (R : Int)] w fun e w' => e = .returned (.int .i64 (K : Nat)) ∧ w' = w) := fun w => hk ▸ BY.out R w
          clear hbh hbyt ptk psh h1 h0 BY hk e1 e2
          go_wp2_with fail
          refine (BY1.out _).mono ?_
          rintro e w1 ⟨rfl, hwx⟩
          have hwy := hwx.symm
          subst hwy
          clear BY1 hwx
          go_wp2_with fail
          rw [E1.out, E2.out]
          go_ret2
          exact ⟨rfl, hbw2⟩
    · have hp2 : ¬ 0 < (ByteArray.mk l.toArray).size := by rw [hzl]; exact hp
      have hnx : ∀ ty, (Instr.next (.pointer (some ⟨w.heap.size, 0, none⟩)) true ty).run Tryz.prog wr = _ := fun ty => Lib.run_next_end_at wr w.heap.size ⟨l.toArray⟩ 0 ty hit hp2
      have hl : l = [] := List.eq_nil_of_length_eq_zero (by omega)
      have e1 : fst1 l = 0 := by unfold fst1; simp [hl]
      have e2 : fst2 l = 0 := by unfold fst2; simp [hl]
      have E1 : Hid (fst1 l = 0) := e1
      have E2 : Hid (fst2 l = 0) := e2
      clear BY ptk psh hl e1 e2
      go_wp2_with fail
      rw [E1.out, E2.out]
      go_ret2
      exact ⟨rfl, hbw⟩
end Go.Proofs.YtfcolecglobcdaaGreatDoor
namespace Go.Proofs.YtfcolecglobcdaaGreatDoor
open Go.RowKit Go.Shelf

theorem Dec_any (l : List UInt8) (w : World) (hne : l ≠ []) (hT : Tabs w) :
    Calls Tryz.prog 39 #[.string ⟨l.toArray⟩] w fun e w' => e = .returned (.tuple #[.int .i32 ((Lib.decodeL l).1 : Nat), .int .i64 ((Lib.decodeL l).2 : Nat)]) ∧ Below w.heap.size w w' := by
  have h := Any.utf8_DecodeRuneInString Tryz.laysDec ⟨l.toArray⟩ w hT
  have e : Lib.decodeGo ⟨l.toArray⟩ = Lib.decodeL l := by
    unfold Lib.decodeGo
    rw [if_neg (by rw [size_mk]; intro h0; exact hne (List.eq_nil_of_length_eq_zero h0))]
    rfl
  rw [e] at h
  exact h
theorem bgnF_step {l : List UInt8} {A f k : Nat} (h : k < A) (h2 : ¬ A < k + wd l k) : bgnF l A (f + 1) k = bgnF l A f (k + 1) := by rw [bgnF, if_pos h, if_neg h2]
theorem bgnF_stop {l : List UInt8} {A f k : Nat} (h : k < A) (h2 : A < k + wd l k) : bgnF l A (f + 1) k = k := by rw [bgnF, if_pos h, if_pos h2]
theorem bgnF_end {l : List UInt8} {A f k : Nat} (h : ¬ k < A) : bgnF l A f k = A := by cases f with
  | zero => rfl
  | succ f => rw [bgnF, if_neg h]
theorem bgn_le (l : List UInt8) (A : Nat) : bgn l A ≤ A := by
  unfold bgn
  rcases bgnF_ge l A 4 (A - 3) with e | ⟨_, e, _⟩ <;> omega
set_option maxHeartbeats 2000000 in
set_option maxRecDepth 1000000 in
theorem beginning_any (l : List UInt8) (A : Nat) (w : World) (hA : A ≤ l.length) (hs : l.length ≤ 2000000) (hT : Tabs w) :
    Calls Tryz.prog 21 #[.string ⟨l.toArray⟩, .int .i64 (A : Nat)] w fun e w' => e = .returned (.int .i64 (bgn l A : Nat)) ∧ Below w.heap.size w w' := by
  have DR : Hid (∀ (k : Nat) w, k < l.length → Tabs w → Calls Tryz.prog 39 #[.string ⟨(l.drop k).toArray⟩] w fun e w' => e = .returned (.tuple #[.int .i32 ((Lib.decodeL (l.drop k)).1 : Nat), .int .i64 (wd l k : Nat)]) ∧ Below w.heap.size w w') := fun k w hk hT => Dec_any (l.drop k) w (by intro e; have := congrArg List.length e; simp at this; omega) hT
  have HT : Hid (Tabs w) := hT
  have hzl : (ByteArray.mk l.toArray).size = l.length := size_mk l
  have hex : ∀ k, (ByteArray.mk l.toArray).extract k l.length = ByteArray.mk (l.drop k).toArray := fun k => by rw [extract_mk, List.take_length]
  have hmx : max (0 : Int) ((A : Int) - 4 + 1) = ((A - 3 : Nat) : Int) := by omega
  have hm1 : -9223372036854775808 ≤ (A : Int) - 4 := by omega
  have hAi : (A : Int) ≤ 2000000 := by omega
  clear hT
  go_enter Tryz.func21, Tryz.ntmps21
  go_wp2_with fail
  clear hmx hm1
  go_loopw [5] (fun s5 wr => ∃ (k f : Nat), s5 = .int .i64 (k : Nat) ∧ k ≤ A ∧ A < k + f ∧ Hid (bgnF l A f k = bgn l A) ∧ Hid (Below w.heap.size w wr)) (fun s5 _ => A - (intOf s5).toNat)
  case atStart => exact ⟨A - 3, 4, rfl, by omega, by omega, rfl, Below.refl _ _⟩
  case round =>
    obtain ⟨k, f, rfl, hk, hf, hst, hbr⟩ := hrel
    by_cases hlt : k < A
    · have hlti : (k : Int) < (A : Int) := by omega
      obtain ⟨f, rfl⟩ : ∃ g, f = g + 1 := ⟨f - 1, by omega⟩
      have D1 : Hid (∀ w, Tabs w → Calls Tryz.prog 39 #[.string ⟨(l.drop k).toArray⟩] w fun e w' => e = .returned (.tuple #[.int .i32 ((Lib.decodeL (l.drop k)).1 : Nat), .int .i64 (wd l k : Nat)]) ∧ Below w.heap.size w w') := fun w hT => DR.out k w (by omega) hT
      have hexk := hex k
      have h4 := wd_four l k
      have hki : (k : Int) ≤ (l.length : Int) := by omega
      have hstep := hst.out
      by_cases h2 : A < k + wd l k
      · have b2 : (A : Int) < (k : Int) + (wd l k : Int) := by omega
        rw [bgnF_stop hlt h2] at hstep
        have HE : Hid (k = bgn l A) := hstep
        generalize wd l k = W at *
        generalize (Lib.decodeL (l.drop k)).1 = R at *
        generalize l.drop k = D at *
        clear hst DR hex hstep h2
        go_wp2_with fail
        refine (D1.out _ (HT.out.below hbr.out)).mono ?_
        rintro e w1 ⟨rfl, hb1⟩
        have B1 := hbr.out.trans (hb1.mono hbr.out.size)
        clear D1 hb1
        go_wp2_with fail
        rw [← HE.out]
        go_ret
        exact ⟨rfl, B1⟩
      · have b2 : ¬ (A : Int) < (k : Int) + (wd l k : Int) := by omega
        rw [bgnF_step hlt h2] at hstep
        have HE : Hid (bgnF l A f (k + 1) = bgn l A) := hstep
        generalize wd l k = W at *
        generalize (Lib.decodeL (l.drop k)).1 = R at *
        generalize l.drop k = D at *
        clear hst DR hex hstep h2
        go_wp2_with fail
        refine (D1.out _ (HT.out.below hbr.out)).mono ?_
        rintro e w1 ⟨rfl, hb1⟩
        have B1 := hbr.out.trans (hb1.mono hbr.out.size)
        clear D1 hb1
        go_wp2_with fail
        go_roundw
        case rel => exact ⟨k + 1, f, by go_num, by omega, by omega, HE, B1⟩
        case measure => simp [intOf]; omega
    · have hlti : ¬ (k : Int) < (A : Int) := by omega
      have HE : Hid (A = bgn l A) := by have := hst.out; rw [bgnF_end hlt] at this; exact this
      have hb := hbr.out
      clear hst DR hex hbr
      go_wp2_with fail
      rw [← HE.out]
      go_ret
      exact ⟨rfl, hb⟩
/-- line and column of a place -/
def whr (l : List UInt8) (A : Nat) : Nat × Nat := beh 1 1 (l.take (bgn l A))
set_option maxHeartbeats 2000000 in
set_option maxRecDepth 1000000 in
theorem Where_any (l : List UInt8) (A : Nat) (w : World) (hA : A ≤ l.length) (hs : l.length ≤ 2000000) (hT : Tabs w) :
    Calls Tryz.prog 6 #[.string ⟨l.toArray⟩, .int .i64 (A : Nat)] w fun e w' => e = .returned (.tuple #[.int .i64 ((whr l A).1 : Nat), .int .i64 ((whr l A).2 : Nat), .int .i64 0]) ∧ Below w.heap.size w w' := by
  have FP : Hid (∀ w, Calls Tryz.prog 19 #[] w fun e w' => e = .returned (.agg #[.int .i64 0, .int .i64 1, .int .i64 1]) ∧ Below w.heap.size w w') := firstPlace_any
  have BG : Hid (∀ w, Tabs w → Calls Tryz.prog 21 #[.string ⟨l.toArray⟩, .int .i64 (A : Nat)] w fun e w' => e = .returned (.int .i64 (bgn l A : Nat)) ∧ Below w.heap.size w w') := fun w h => beginning_any l A w hA hs h
  have hle := bgn_le l A
  have BE0 : ∀ w, Calls Tryz.prog 20 #[.agg #[.int .i64 (0 : Nat), .int .i64 (1 : Nat), .int .i64 (1 : Nat)], .string ⟨(l.take (bgn l A)).toArray⟩] w fun e w' => e = .returned (.agg #[.int .i64 ((0 + (l.take (bgn l A)).length : Nat) : Int), .int .i64 ((whr l A).1 : Nat), .int .i64 ((whr l A).2 : Nat)]) ∧ Below w.heap.size w w' := fun w => behind_big 0 1 1 (l.take (bgn l A)) w (by rw [List.length_take]; omega) (by omega) (by omega) (by omega) (by omega)
  have HT : Hid (Tabs w) := hT
  have hzl : (ByteArray.mk l.toArray).size = l.length := size_mk l
  have hex : (ByteArray.mk l.toArray).extract 0 (bgn l A) = ByteArray.mk (l.take (bgn l A)).toArray := by rw [extract_mk, List.drop_zero]
  generalize (l.take (bgn l A)).length = N at *
  have BE : Hid (∀ w, Calls Tryz.prog 20 #[.agg #[.int .i64 0, .int .i64 1, .int .i64 1], .string ⟨(l.take (bgn l A)).toArray⟩] w fun e w' => e = .returned (.agg #[.int .i64 ((0 + N : Nat) : Int), .int .i64 ((whr l A).1 : Nat), .int .i64 ((whr l A).2 : Nat)]) ∧ Below w.heap.size w w') := BE0
  clear BE0 hT
  generalize l.take (bgn l A) = X at *
  generalize bgn l A = B at *
  generalize whr l A = Q at *
  obtain ⟨Q1, Q2⟩ := Q
  generalize 0 + N = M at *
  simp only at BE
  have i1 : ¬ (A : Int) < 0 := by omega
  have i2 : ¬ (l.length : Int) < (A : Int) := by omega
  have i3 : (B : Int) ≤ (l.length : Int) := by omega
  go_enter Tryz.func6, Tryz.ntmps6
  go_wp2_with fail
  refine (FP.out _).mono ?_
  rintro e w1 ⟨rfl, hb1⟩
  clear FP
  go_wp2_with fail
  refine (BG.out _ (HT.out.below hb1)).mono ?_
  rintro e w2 ⟨rfl, hb2⟩
  have B2 := hb1.trans (hb2.mono hb1.size)
  clear BG hb1 hb2
  go_wp2_with fail
  refine (BE.out _).mono ?_
  rintro e w3 ⟨rfl, hb3⟩
  have B3 := B2.trans (hb3.mono B2.size)
  have P4 := R3.new w3 44 (.int .i64 (M : Nat)) (.int .i64 (Q1 : Nat)) (.int .i64 (Q2 : Nat))
  have B4 := B3.alloc B3.size (.cells #[.int .i64 (M : Nat), .int .i64 (Q1 : Nat), .int .i64 (Q2 : Nat)] 44)
  clear BE B2 hb3
  go_wp2_with fail
  generalize w3.alloc (.cells #[.int .i64 (M : Nat), .int .i64 (Q1 : Nat), .int .i64 (Q2 : Nat)] 44) = w4 at *
  generalize w3.heap.size = gp at *
  obtain ⟨_, d0, d1, d2, _, _, _⟩ := P4
  go_quiet (fail)
  go_wp2_with fail
  have B5 : Below w.heap.size w (w4.drewN nq) := below_drewN B4 nq
  go_ret3
  exact ⟨rfl, B5⟩
set_option maxHeartbeats 2000000 in
set_option maxRecDepth 1000000 in
theorem Where_bad (l : List UInt8) (n : Int) (w : World) (h : n < 0 ∨ (l.length : Int) < n) :
    Calls Tryz.prog 6 #[.string ⟨l.toArray⟩, .int .i64 n] w fun e w' => e = .returned (.tuple #[.int .i64 0, .int .i64 0, .int .i64 1]) ∧ Below w.heap.size w w' := by
  have hzl : (ByteArray.mk l.toArray).size = l.length := size_mk l
  by_cases h1 : n < 0
  · clear h
    go_enter Tryz.func6, Tryz.ntmps6
    go_wp2_with fail
    go_ret3
    exact ⟨rfl, Below.refl _ _⟩
  · have h2 : (l.length : Int) < n := h.resolve_left h1
    clear h
    go_enter Tryz.func6, Tryz.ntmps6
    go_wp2_with fail
    go_ret3
    exact ⟨rfl, Below.refl _ _⟩
end Go.Proofs.YtfcolecglobcdaaGreatDoor
namespace Go.Proofs.YtfcolecglobcdaaGreatDoor
open Go.RowKit Go.Shelf

theorem bad_width {l : List UInt8} (h : badHere l = true) : (Lib.decodeL l).2 = 1 := by
  by_cases hr : (Lib.decodeL l).1 = 65533
  · refine decode_bad l hr ?_
    rw [← pre_repl]
    unfold badHere at h
    rw [hr] at h
    simpa using h
  · have h0 : (Lib.decodeL l).1 = 0 := by
      unfold badHere at h
      rw [decide_eq_false hr] at h
      simpa using h
    have h1 := Lib.runeLen_decode l hr
    rw [h0] at h1
    have : Lib.runeLen ((0 : Nat) : Int) = 1 := by decide
    omega
theorem nl_at {l : List UInt8} {k : Nat} {x : UInt8} (hx : l[k]? = some x) : (Lib.decodeL (l.drop k)).1 = 10 ↔ x.toNat = 10 := by
  rw [drop_of_get hx]
  by_cases h : x.toNat < 128
  · rw [Lib.decodeL_ascii x _ h]
  · have h1 := dec_drop (x :: l.drop (k + 1)) 0
    rw [List.drop_zero] at h1
    have h2 := (decode_high ⟨(x :: l.drop (k + 1)).toArray⟩ 0 (by rw [size_mk]; simp) (by
      have : (ByteArray.mk (x :: l.drop (k + 1)).toArray)[0]'(by rw [size_mk]; simp) = x := rfl
      rw [this]; omega)).1
    rw [h1]
    omega
theorem whF_stop {l : List UInt8} {A f i a b : Nat} (h : i < A) (h2 : A < i + wd l i) : whF l A (f + 1) i a b = (a, b) := by rw [whF, if_pos h, if_pos h2]
theorem whF_nl {l : List UInt8} {A f i a b : Nat} (h : i < A) (h2 : ¬ A < i + wd l i) (h3 : (Lib.decodeL (l.drop i)).1 = 10) : whF l A (f + 1) i a b = whF l A f (i + wd l i) (a + 1) 1 := by rw [whF, if_pos h, if_neg h2, if_pos h3]
theorem whF_other {l : List UInt8} {A f i a b : Nat} (h : i < A) (h2 : ¬ A < i + wd l i) (h3 : ¬ (Lib.decodeL (l.drop i)).1 = 10) : whF l A (f + 1) i a b = whF l A f (i + wd l i) a (b + 1) := by rw [whF, if_pos h, if_neg h2, if_neg h3]
theorem whF_end {l : List UInt8} {A f i a b : Nat} (h : ¬ i < A) : whF l A f i a b = (a, b) := by cases f with
  | zero => rfl
  | succ f => rw [whF, if_neg h]
theorem whF_all (l : List UInt8) (A : Nat) (hA : A ≤ l.length) : whF l A (A + 1) 0 1 1 = whr l A := by
  have hB := bgn_le l A
  have hl : (l.take (bgn l A)).length = bgn l A := by rw [List.length_take]; omega
  have h := wh_eq l A hA (A + 1) (l.take (bgn l A)).length 0 1 1 (noSpan_zero l) (by omega) (by omega) (by omega)
  rw [List.drop_zero] at h
  exact h
set_option maxHeartbeats 2000000 in
set_option maxRecDepth 1000000 in
theorem refWhere_any (l : List UInt8) (A : Nat) (w : World) (hA : A ≤ l.length) (hs : l.length ≤ 2000000) :
    Calls Tryz.prog 7 #[.string ⟨l.toArray⟩, .int .i64 (A : Nat)] w fun e w' => e = .returned (.tuple #[.int .i64 ((whr l A).1 : Nat), .int .i64 ((whr l A).2 : Nat), .int .i64 0]) ∧ Below w.heap.size w w' := by
  have FI : Hid (∀ (k : Nat) w, Calls Tryz.prog 22 #[.string ⟨(l.drop k).toArray⟩] w fun e w' => e = .returned (.tuple #[.int .i32 (fst1 (l.drop k)), .int .i64 (fst2 (l.drop k) : Nat)]) ∧ Below w.heap.size w w') := fun k w => first_any _ w (by rw [List.length_drop]; omega)
  have hzl : (ByteArray.mk l.toArray).size = l.length := size_mk l
  have hex : ∀ k, (ByteArray.mk l.toArray).extract k l.length = ByteArray.mk (l.drop k).toArray := fun k => by rw [extract_mk, List.take_length]
  have H0 : Hid (whF l A (A + 1) 0 1 1 = whr l A) := whF_all l A hA
  have i1 : ¬ (A : Int) < 0 := by omega
  have i2 : ¬ (l.length : Int) < (A : Int) := by omega
  go_enter Tryz.func7, Tryz.ntmps7
  go_wp2_with fail
  go_loopw [7, 8, 9] (fun s7 s8 s9 wr => ∃ (i f a b : Nat), s7 = .int .i64 (a : Nat) ∧ s8 = .int .i64 (b : Nat) ∧ s9 = .int .i64 (i : Nat) ∧ i ≤ A ∧ A < i + f ∧ a ≤ 1 + i ∧ b ≤ 1 + i ∧ Hid (whF l A f i a b = whr l A) ∧ Hid (Below w.heap.size w wr)) (fun _ _ s9 _ => A - (intOf s9).toNat)
  case atStart => exact ⟨0, A + 1, 1, 1, rfl, rfl, rfl, by omega, by omega, by omega, by omega, H0, Below.refl _ _⟩
  case round =>
    obtain ⟨i, f, a, b, rfl, rfl, rfl, hi, hf, ha, hb, hst, hbr⟩ := hrel
    by_cases hlt : i < A
    · have hlti : (i : Int) < (A : Int) := by omega
      obtain ⟨f, rfl⟩ : ∃ g, f = g + 1 := ⟨f - 1, by omega⟩
      obtain ⟨x, hx⟩ : ∃ x, l[i]? = some x := ⟨l[i]'(by omega), List.getElem?_eq_getElem _⟩
      have hgt := get_mk hx
      have hnl := nl_at hx
      have hexi := hex i
      have hii : (i : Int) ≤ (l.length : Int) := by omega
      have hij : (i : Int) < (l.length : Int) := by omega
      have hsz := wd_pos l i
      have h4 := wd_four l i
      have hwl := wd_le l i (by omega)
      have hne : l.drop i ≠ [] := by intro e; have := congrArg List.length e; simp at this; omega
      obtain ⟨r1, n2, F1, hn2⟩ : ∃ (r1 : Int) (n2 : Nat), Hid (∀ w, Calls Tryz.prog 22 #[.string ⟨(l.drop i).toArray⟩] w fun e w' => e = .returned (.tuple #[.int .i32 r1, .int .i64 (n2 : Nat)]) ∧ Below w.heap.size w w') ∧ ((n2 = 0 ∧ wd l i = 1) ∨ (n2 ≠ 0 ∧ n2 = wd l i)) := by
        refine ⟨fst1 (l.drop i), fst2 (l.drop i), fun w => FI.out i w, ?_⟩
        unfold fst2
        by_cases hB : badHere (l.drop i) = true
        · exact Or.inl ⟨if_pos (Or.inr hB), bad_width hB⟩
        · rw [if_neg (fun h => h.elim hne hB)]
          exact Or.inr ⟨by unfold wd at hsz; omega, rfl⟩
      have h0 := hst.out
      by_cases h2 : A < i + wd l i
      · rw [whF_stop hlt h2] at h0
        have HE : Hid (whr l A = (a, b)) := h0.symm
        have b2 : (A : Int) < (i : Int) + (wd l i : Int) := by omega
        generalize wd l i = W at *
        generalize l.drop i = D at *
        clear hst h0 FI hex H0 hx hnl hne h2
        rcases hn2 with ⟨rfl, rfl⟩ | ⟨hn0, rfl⟩
        · omega
        · have nb : ((n2 : Int) == 0) = false := by rw [beq_eq_false_iff_ne]; omega
          clear hn0
          go_wp2_with fail
          refine (F1.out _).mono ?_
          rintro e w1 ⟨rfl, hb1⟩
          have B1 := hbr.out.trans (hb1.mono hbr.out.size)
          clear F1 hb1
          go_wp2_with fail
          rw [HE.out]
          go_ret3
          exact ⟨rfl, B1⟩
      · have b2 : ¬ (A : Int) < (i : Int) + (wd l i : Int) := by omega
        by_cases h10 : x.toNat = 10
        · have n10 : ((x.toNat : Int) == 10) = true := by rw [beq_iff_eq]; omega
          rw [whF_nl hlt h2 (hnl.2 h10)] at h0
          have HE : Hid (whF l A f (i + wd l i) (a + 1) 1 = whr l A) := h0
          generalize wd l i = W at *
          generalize l.drop i = D at *
          clear hst h0 FI hex H0 hx hnl hne h2 h10
          rcases hn2 with ⟨rfl, rfl⟩ | ⟨hn0, rfl⟩
          · go_wp2_with fail
            refine (F1.out _).mono ?_
            rintro e w1 ⟨rfl, hb1⟩
            have B1 := hbr.out.trans (hb1.mono hbr.out.size)
            clear F1 hb1
            go_wp2_with fail
            go_roundw
            case rel => exact ⟨i + 1, f, a + 1, 1, by go_num, rfl, by go_num, by omega, by omega, by omega, by omega, HE, B1⟩
            case measure => simp [intOf]; omega
          · have nb : ((n2 : Int) == 0) = false := by rw [beq_eq_false_iff_ne]; omega
            clear hn0
            go_wp2_with fail
            refine (F1.out _).mono ?_
            rintro e w1 ⟨rfl, hb1⟩
            have B1 := hbr.out.trans (hb1.mono hbr.out.size)
            clear F1 hb1
            go_wp2_with fail
            go_roundw
            case rel => exact ⟨i + n2, f, a + 1, 1, by go_num, rfl, by go_num, by omega, by omega, by omega, by omega, HE, B1⟩
            case measure => simp [intOf]; omega
        · have n10 : ((x.toNat : Int) == 10) = false := by rw [beq_eq_false_iff_ne]; omega
          rw [whF_other hlt h2 (fun h => h10 (hnl.1 h))] at h0
          have HE : Hid (whF l A f (i + wd l i) a (b + 1) = whr l A) := h0
          generalize wd l i = W at *
          generalize l.drop i = D at *
          clear hst h0 FI hex H0 hx hnl hne h2 h10
          rcases hn2 with ⟨rfl, rfl⟩ | ⟨hn0, rfl⟩
          · go_wp2_with fail
            refine (F1.out _).mono ?_
            rintro e w1 ⟨rfl, hb1⟩
            have B1 := hbr.out.trans (hb1.mono hbr.out.size)
            clear F1 hb1
            go_wp2_with fail
            go_roundw
            case rel => exact ⟨i + 1, f, a, b + 1, by go_num, by go_num, by go_num, by omega, by omega, by omega, by omega, HE, B1⟩
            case measure => simp [intOf]; omega
          · have nb : ((n2 : Int) == 0) = false := by rw [beq_eq_false_iff_ne]; omega
            clear hn0
            go_wp2_with fail
            refine (F1.out _).mono ?_
            rintro e w1 ⟨rfl, hb1⟩
            have B1 := hbr.out.trans (hb1.mono hbr.out.size)
            clear F1 hb1
            go_wp2_with fail
            go_roundw
            case rel => exact ⟨i + n2, f, a, b + 1, by go_num, by go_num, by go_num, by omega, by omega, by omega, by omega, HE, B1⟩
            case measure => simp [intOf]; omega
    · have hlti : ¬ (i : Int) < (A : Int) := by omega
      have h0 := hst.out
      rw [whF_end hlt] at h0
      have HE : Hid (whr l A = (a, b)) := h0.symm
      have hbb := hbr.out
      clear hst h0 FI hex H0 hbr
      go_wp2_with fail
      rw [HE.out]
      go_ret3
      exact ⟨rfl, hbb⟩
set_option maxHeartbeats 2000000 in
set_option maxRecDepth 1000000 in
theorem refWhere_bad (l : List UInt8) (n : Int) (w : World) (h : n < 0 ∨ (l.length : Int) < n) :
    Calls Tryz.prog 7 #[.string ⟨l.toArray⟩, .int .i64 n] w fun e w' => e = .returned (.tuple #[.int .i64 0, .int .i64 0, .int .i64 1]) ∧ Below w.heap.size w w' := by
  have hzl : (ByteArray.mk l.toArray).size = l.length := size_mk l
  by_cases h1 : n < 0
  · clear h
    go_enter Tryz.func7, Tryz.ntmps7
    go_wp2_with fail
    go_ret3
    exact ⟨rfl, Below.refl _ _⟩
  · have h2 : (l.length : Int) < n := h.resolve_left h1
    clear h
    go_enter Tryz.func7, Tryz.ntmps7
    go_wp2_with fail
    go_ret3
    exact ⟨rfl, Below.refl _ _⟩
end Go.Proofs.YtfcolecglobcdaaGreatDoor
namespace Go.Proofs.YtfcolecglobcdaaGreatDoor
open Go.RowKit Go.Shelf

/-- whether a text can be a name -/
def nmB (l : List UInt8) : Bool := decide (l ≠ []) && decide (l.length ≤ 32) && decide (badA l < 0)
def plB (l : List UInt8) : Bool := nmB l && decide (wsz l = l.length) && (Lib.toLowerA l == l)
set_option maxHeartbeats 2000000 in
set_option maxRecDepth 1000000 in
theorem Name_any (l : List UInt8) (w : World) : Calls Tryz.prog 10 #[.string ⟨l.toArray⟩] w fun e w' => e = .returned (.bool (nmB l)) ∧ Below w.heap.size w w' := by
  have BC : Hid (∀ w, Calls Tryz.prog 27 #[.string ⟨l.toArray⟩] w fun e w' => e = .returned (.int .i64 (badA l)) ∧ Below w.heap.size w w') := fun w => badCharacter_any l w
  have hzl : (ByteArray.mk l.toArray).size = l.length := size_mk l
  unfold nmB
  generalize badA l = B at *
  by_cases h0 : l = []
  · have b0 : (l == ([] : List UInt8)) = true := by rw [h0]; rfl
    have HE : Hid ((decide (l ≠ []) && decide (l.length ≤ 32) && decide (B < 0)) = false) := by show _ = _; rw [h0]; rfl
    generalize (decide (l ≠ []) && decide (l.length ≤ 32) && decide (B < 0)) = V at *
    clear h0 BC
    go_enter Tryz.func10, Tryz.ntmps10
    go_wp2_with fail
    rw [HE.out]
    go_ret
    exact ⟨rfl, Below.refl _ _⟩
  have b0 : (l == ([] : List UInt8)) = false := by rw [beq_eq_false_iff_ne]; exact h0
  by_cases h1 : l.length ≤ 32
  · have i1 : (l.length : Int) ≤ 32 := by omega
    have HE : Hid ((decide (l ≠ []) && decide (l.length ≤ 32) && decide (B < 0)) = decide (B < 0)) := by show _ = _; rw [decide_eq_true h0, decide_eq_true h1]; rfl
    generalize (decide (l ≠ []) && decide (l.length ≤ 32) && decide (B < 0)) = V at *
    clear h0 h1
    go_enter Tryz.func10, Tryz.ntmps10
    go_wp2_with fail
    refine (BC.out _).mono ?_
    rintro e w1 ⟨rfl, hb1⟩
    clear BC
    go_wp2_with fail
    rw [HE.out]
    go_ret
    exact ⟨rfl, hb1⟩
  · have i1 : ¬ (l.length : Int) ≤ 32 := by omega
    have HE : Hid ((decide (l ≠ []) && decide (l.length ≤ 32) && decide (B < 0)) = false) := by show _ = _; rw [decide_eq_false h1]; simp
    generalize (decide (l ≠ []) && decide (l.length ≤ 32) && decide (B < 0)) = V at *
    clear h0 h1 BC
    go_enter Tryz.func10, Tryz.ntmps10
    go_wp2_with fail
    rw [HE.out]
    go_ret
    exact ⟨rfl, Below.refl _ _⟩
set_option maxHeartbeats 2000000 in
set_option maxRecDepth 1000000 in
theorem refName_any (l : List UInt8) (w : World) : Calls Tryz.prog 11 #[.string ⟨l.toArray⟩] w fun e w' => e = .returned (.bool (nmB l)) ∧ Below w.heap.size w w' := by
  have hzl : (ByteArray.mk l.toArray).size = l.length := size_mk l
  by_cases h0 : l.length < 1
  · have i0 : (l.length : Int) < 1 := by omega
    have HE : Hid (nmB l = false) := by
      show _ = _
      have : l = [] := List.eq_nil_of_length_eq_zero (by omega)
      rw [this]; rfl
    clear h0
    go_enter Tryz.func11, Tryz.ntmps11
    go_wp2_with fail
    rw [HE.out]
    go_ret
    exact ⟨rfl, Below.refl _ _⟩
  have i0 : ¬ (l.length : Int) < 1 := by omega
  by_cases h1 : 32 < l.length
  · have i1 : (32 : Int) < (l.length : Int) := by omega
    have HE : Hid (nmB l = false) := by show _ = _; unfold nmB; rw [decide_eq_false (by omega : ¬ l.length ≤ 32)]; simp
    clear h0 h1
    go_enter Tryz.func11, Tryz.ntmps11
    go_wp2_with fail
    rw [HE.out]
    go_ret
    exact ⟨rfl, Below.refl _ _⟩
  have i1 : ¬ (32 : Int) < (l.length : Int) := by omega
  have HN : Hid (nmB l = decide (badA l < 0)) := by
    show _ = _
    unfold nmB
    rw [decide_eq_true (by omega : l.length ≤ 32), decide_eq_true (by rintro rfl; simp at h0 : l ≠ [])]; rfl
  have FI : Hid (∀ (k : Nat) w, Calls Tryz.prog 22 #[.string ⟨(l.drop k).toArray⟩] w fun e w' => e = .returned (.tuple #[.int .i32 (fst1 (l.drop k)), .int .i64 (fst2 (l.drop k) : Nat)]) ∧ Below w.heap.size w w') := fun k w => first_any _ w (by rw [List.length_drop]; omega)
  have hex : ∀ k, (ByteArray.mk l.toArray).extract k l.length = ByteArray.mk (l.drop k).toArray := fun k => by rw [extract_mk, List.take_length]
  have H0 : Hid (badF l.length 0 (l.drop 0) = badA l) := rfl
  go_enter Tryz.func11, Tryz.ntmps11
  go_wp2_with fail
  go_loopw [3] (fun s3 wr => ∃ (i f : Nat), s3 = .int .i64 (i : Nat) ∧ i ≤ l.length ∧ l.length ≤ i + f ∧ Hid (badF f i (l.drop i) = badA l) ∧ Hid (Below w.heap.size w wr)) (fun s3 _ => l.length - (intOf s3).toNat)
  case atStart => exact ⟨0, l.length, rfl, by omega, by omega, H0, Below.refl _ _⟩
  case round =>
    obtain ⟨i, f, rfl, hi, hf, hst, hbr⟩ := hrel
    by_cases hlt : i < l.length
    · have hlti : (i : Int) < (l.length : Int) := by omega
      obtain ⟨f, rfl⟩ : ∃ g, f = g + 1 := ⟨f - 1, by omega⟩
      have hexi := hex i
      have hii : (i : Int) ≤ (l.length : Int) := by omega
      have hwp := wd_pos l i
      have h4 := wd_four l i
      have hwl := wd_le l i hlt
      have hne : ¬ l.drop i = [] := by intro e; have := congrArg List.length e; simp at this; omega
      have h2 := hst.out
      rw [badF, if_neg hne] at h2
      have F0 := FI.out i
      have hf2 : fst2 (l.drop i) = if badHere (l.drop i) = true then 0 else wd l i := by unfold fst2 wd; simp [hne]
      cases hB : badHere (l.drop i) with
      | true =>
        rw [hB, if_pos rfl] at hf2
        rw [hB, if_pos rfl] at h2
        have HE : Hid (nmB l = false) := by show _ = _; rw [HN.out, ← h2]; simp
        rw [hf2] at F0
        have F1 : Hid _ := F0
        generalize fst1 (l.drop i) = R at *
        generalize l.drop i = D at *
        clear hst h2 FI hex H0 HN hB hf2 F0 hne
        go_wp2_with fail
        refine (F1.out _).mono ?_
        rintro e w1 ⟨rfl, hb1⟩
        have B1 := hbr.out.trans (hb1.mono hbr.out.size)
        clear F1 hb1
        go_wp2_with fail
        rw [HE.out]
        go_ret
        exact ⟨rfl, B1⟩
      | false =>
        rw [hB, if_neg (by decide)] at hf2
        rw [hB, if_neg (by decide), List.drop_drop] at h2
        have HE : Hid (badF f (i + wd l i) (l.drop (i + wd l i)) = badA l) := h2
        rw [hf2] at F0
        have F1 : Hid _ := F0
        generalize wd l i = W at *
        generalize fst1 (l.drop i) = R at *
        generalize l.drop i = D at *
        have nb : ((W : Int) == 0) = false := by rw [beq_eq_false_iff_ne]; omega
        clear hst h2 FI hex H0 HN hB hf2 F0 hne
        go_wp2_with fail
        refine (F1.out _).mono ?_
        rintro e w1 ⟨rfl, hb1⟩
        have B1 := hbr.out.trans (hb1.mono hbr.out.size)
        clear F1 hb1
        go_wp2_with fail
        go_roundw
        case rel => exact ⟨i + W, f, by go_num, by omega, by omega, HE, B1⟩
        case measure => simp [intOf]; omega
    · have hlti : ¬ (i : Int) < (l.length : Int) := by omega
      have h2 := hst.out
      rw [List.drop_eq_nil_of_le (by omega), badF_end] at h2
      have HE : Hid (nmB l = true) := by show _ = _; rw [HN.out, ← h2]; rfl
      have hbb := hbr.out
      clear hst h2 FI hex H0 HN hbr
      go_wp2_with fail
      rw [HE.out]
      go_ret
      exact ⟨rfl, hbb⟩
set_option maxHeartbeats 2000000 in
set_option maxRecDepth 1000000 in
theorem Plain_any' (l : List UInt8) (w : World) : Calls Tryz.prog 12 #[.string ⟨l.toArray⟩] w fun e w' => e = .returned (.bool (plB l)) ∧ Below w.heap.size w w' := by
  have NA : Hid (∀ w, Calls Tryz.prog 10 #[.string ⟨l.toArray⟩] w fun e w' => e = .returned (.bool (nmB l)) ∧ Below w.heap.size w w') := fun w => Name_any l w
  have hzl : (ByteArray.mk l.toArray).size = l.length := size_mk l
  unfold plB
  cases hn : nmB l with
  | false =>
    rw [hn] at NA
    have HE : Hid ((false && decide (wsz l = l.length) && (Lib.toLowerA l == l)) = false) := rfl
    generalize (false && decide (wsz l = l.length) && (Lib.toLowerA l == l)) = V at *
    clear hn
    go_enter Tryz.func12, Tryz.ntmps12
    go_wp2_with fail
    refine (NA.out _).mono ?_
    rintro e w1 ⟨rfl, hb1⟩
    clear NA
    go_wp2_with fail
    rw [HE.out]
    go_ret
    exact ⟨rfl, hb1⟩
  | true =>
    rw [hn] at NA
    have hl : l.length ≤ 32 := by
      unfold nmB at hn
      simp only [Bool.and_eq_true, decide_eq_true_eq] at hn
      exact hn.1.2
    have WS : Hid (∀ w, Calls Tryz.prog 28 #[.string ⟨l.toArray⟩] w fun e w' => e = .returned (.int .i64 (wsz l : Nat)) ∧ Below w.heap.size w w') := fun w => wordSize_any l w (by omega)
    by_cases hw : wsz l = l.length
    · have TL : Hid (∀ w, Calls Tryz.prog 29 #[.string ⟨l.toArray⟩] w fun e w' => e = .returned (.string ⟨(Lib.toLowerA l).toArray⟩) ∧ Below w.heap.size w w') := fun w => ToLower_any l w (by omega) (by
        have := wsz_ascii l
        rw [hw, List.take_length] at this
        exact this)
      have HE : Hid ((true && decide (wsz l = l.length) && (Lib.toLowerA l == l)) = (Lib.toLowerA l == l)) := by show _ = _; rw [decide_eq_true hw]; rfl
      rw [hw] at WS
      generalize (true && decide (wsz l = l.length) && (Lib.toLowerA l == l)) = V at *
      generalize Lib.toLowerA l = L2 at *
      have hwb : ((l.length : Int) == (l.length : Int)) = true := by simp
      clear hn hw hl
      go_enter Tryz.func12, Tryz.ntmps12
      go_wp2_with fail
      refine (NA.out _).mono ?_
      rintro e w1 ⟨rfl, hb1⟩
      clear NA
      go_wp2_with fail
      refine (WS.out _).mono ?_
      rintro e w2 ⟨rfl, hb2⟩
      have B2 := hb1.trans (hb2.mono hb1.size)
      clear WS hb1 hb2
      go_wp2_with fail
      refine (TL.out _).mono ?_
      rintro e w3 ⟨rfl, hb3⟩
      have B3 := B2.trans (hb3.mono B2.size)
      clear TL hb3 B2
      go_wp2_with fail
      rw [HE.out]
      go_ret
      exact ⟨rfl, B3⟩
    · have HE : Hid ((true && decide (wsz l = l.length) && (Lib.toLowerA l == l)) = false) := by show _ = _; rw [decide_eq_false hw]; rfl
      have hwb : (((wsz l : Nat) : Int) == (l.length : Int)) = false := by rw [beq_eq_false_iff_ne]; omega
      generalize (true && decide (wsz l = l.length) && (Lib.toLowerA l == l)) = V at *
      generalize wsz l = W at *
      clear hn hw hl
      go_enter Tryz.func12, Tryz.ntmps12
      go_wp2_with fail
      refine (NA.out _).mono ?_
      rintro e w1 ⟨rfl, hb1⟩
      clear NA
      go_wp2_with fail
      refine (WS.out _).mono ?_
      rintro e w2 ⟨rfl, hb2⟩
      have B2 := hb1.trans (hb2.mono hb1.size)
      clear WS hb1 hb2
      go_wp2_with fail
      rw [HE.out]
      go_ret
      exact ⟨rfl, B2⟩
end Go.Proofs.YtfcolecglobcdaaGreatDoor
