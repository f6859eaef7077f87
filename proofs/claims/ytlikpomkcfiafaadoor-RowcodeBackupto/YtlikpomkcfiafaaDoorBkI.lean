/-
  The walks of locksteplaw02.own, lockstepref02.Same, Rows, Plain and PlainRow.
-/
import Derived.Test.YtlikpomkcfiafaaDoorBkH
import Derived.OwnWalk
import Derived.Deep.RegionHeld3
import Derived.BigQuiet
import Derived.Deep.QuietTactic
namespace Go.Proofs.YtlikpomkcfiafaaDoor
open Go.RowKit Go.Shelf

/-- the cells of bytes that lie behind a place -/
theorem byIn.cells {w : World} {p : Option Addr} {l : List UInt8} (h : byIn w p l) : ∀ ad, p = some ad → ∀ j u, (by8 l)[j]? = some u → w.cell? (ad.add j) = some u := by
  intro ad had j u hj
  have hl := (List.getElem?_eq_some_iff.1 hj).1
  rw [by8_len] at hl
  rcases h with rfl | ⟨g, off, rfl, hg, hcs⟩
  · simp at hl
  · obtain rfl := Option.some.inj had
    have ea : (⟨g, off, none⟩ : Addr).add j = ⟨g, off + j, none⟩ := by simp only [Addr.add]; split <;> simp_all
    rw [ea, hcs j l[j] (List.getElem?_eq_getElem hl), ← hj, by8_get (List.getElem?_eq_getElem hl)]
theorem byIn.none_nil {w : World} {l : List UInt8} (h : byIn w none l) : l = [] := by
  rcases h with h | ⟨g, off, h, _⟩
  · exact h
  · cases h
theorem grown_below {a b : World} {base : Nat} {row : Option Nat} (h : a.grownBy b row) (hs : base ≤ a.heap.size) (hr : ∀ g, row = some g → base ≤ g) : Below base a b := below_own h hs hr

set_option maxHeartbeats 2000000 in
set_option maxRecDepth 1000000 in
theorem own_any (p : Option Addr) (c : Nat) (l : List UInt8) (w : World) (hp : byIn w p l) (hn : p = none → c = 0) (hl : l.length ≤ 10000000) :
    Calls Tryd.prog 5 #[.slice p l.length c] w fun e w' => ∃ v', e = .returned v' ∧ ownsB w' w.heap.size v' l ∧ Below w.heap.size w w' ∧ ∃ g cap, v' = .slice (some ⟨g, 0, none⟩) l.length cap := by
  obtain ⟨i0, hi, hz0, hz1, hz2⟩ := info_parts u8Info
  have HP : Hid (byIn w p l) := hp
  have HN : Hid (p = none → c = 0) := hn
  clear hp hn
  go_enter Tryd.func5, Tryd.ntmps5
  go_wp2_with (first | (at_make; refine wpList_make_own _ rfl (.const (.int .i64 0)) (.tmp 5) 24 rfl w.heap.size 5 i0 (.int .u8 0) 1 u8Slice hi hz0 hz1 .i64 .i64 ((l.length : Int) + 2) (l.length + 2) rfl rfl (by omega) (by rw [hz2]; omega) (by unfold maxLen; omega) (Nat.le_refl _) ?_; intro w1 ho1 hg1) | (at_builtin; refine wpList_append_fits_any _ rfl (.tmp 6) (.tmp 7) 24 rfl w.heap.size 5 i0 1 u8Slice hi hz1 w.heap.size 0 (l.length + 2) [] rfl ho1 p l.length c (by8 l) rfl (by rw [by8_len]; omega) (fun h => ⟨by have := HP.out; rw [h] at this; rw [this.none_nil]; rfl, HN.out h⟩) (HP.out.below (grown_below hg1 (Nat.le_refl _) (by intro g h; cases h))).cells (by8_one _) (by omega) ?_; intro w2 ho2 hg2))
  go_ret
  have b1 : Below w.heap.size w w1 := grown_below hg1 (Nat.le_refl _) (by intro g h; cases h)
  refine ⟨_, rfl, ?_, b1.trans (grown_below hg2 b1.size (by intro g h; cases h; exact Nat.le_refl _)), ⟨w.heap.size, l.length + 2, rfl⟩⟩
  rw [Nat.zero_add, List.nil_append] at ho2
  exact ho2

/-- an append of bytes that lie anywhere onto one's own -/
theorem app_any {ops : Array Oper} {rest : List Oper} {o : Oper} {a : Act} {w : World} {Q : Exit → Act → World → Prop} (hgd : o.guard = none) (s x : Operand)
    (ho : o.op = .call { callee := .builtin .append, args := #[s, x], argTypes := #[24, 24] })
    (base : Nat) (v : Value) (l news : List UInt8) (hs : a.eval s = v) (hown : ownsB w base v l) (hv : ∃ g cap, v = .slice (some ⟨g, 0, none⟩) l.length cap) (p : Option Addr) (c : Nat) (hp : byIn w p news) (hn : p = none → c = 0)
    (hx : a.eval x = .slice p news.length c) (hl : l.length + news.length ≤ 100000000) (hb : base ≤ w.heap.size)
    (h : ∀ v' w', ownsB w' base v' (l ++ news) → Below base w w' → base ≤ w'.heap.size → wpList Tryd.prog ops Q rest (a.put o.dst v') w') :
    wpList Tryd.prog ops Q (o :: rest) a w := by
  obtain ⟨i0, hi, hz0, hz1, hz2⟩ := info_parts u8Info
  rcases p with _ | ad
  · obtain rfl := hp.none_nil
    obtain rfl := hn rfl
    obtain ⟨g, cap, rfl⟩ := hv
    refine wpList_append_fits_any _ hgd s x 24 ho base 5 i0 1 u8Slice hi hz1 g l.length cap (by8 l) hs hown none 0 0 [] hx rfl (fun _ => ⟨rfl, rfl⟩) (by intro ad h; cases h) (by intro u hu; simp at hu) ?_ ?_
    · rcases hown.2 with ⟨hh, _⟩ | ⟨g', cap', cur, hh, _, _, hle, _⟩
      · cases hh
      · cases hh; simpa using hle
    · intro w' h1 h2
      have hb2 := grown_below h2 hb (own_ge hown)
      rw [Nat.add_zero] at h1
      exact h _ _ (by rw [List.append_nil]; rw [List.append_nil] at h1; exact h1) hb2 (Nat.le_trans hb hb2.size)
  · refine wpList_append_own _ hgd s x 24 ho base 5 i0 (.int .u8 0) 1 1 u8Slice hi hz0 hz1 hz2 rfl (by decide) v l.length (by8 l) hs hown ad news.length c (by8 news) hx (by rw [by8_len]; omega) (hp.cells ad rfl) (by8_one _) (by unfold maxLen; omega) (by omega) hb ?_
    intro v' w' h1 h2 _
    have e : ownsB w' base v' (l ++ news) := by
      show w'.ownsRow _ _ _ _ _ _
      rw [by8_app, List.length_append]; exact h1
    have hb2 := grown_below h2 hb (own_ge hown)
    exact h v' w' e hb2 (Nat.le_trans hb hb2.size)

set_option maxHeartbeats 2000000 in
set_option maxRecDepth 1000000 in
theorem Same2_eq (a : Va) (w : World) :
    Calls Tryd.prog 11 #[.agg #[.int .i64 a.ty, .int .i64 a.n, .string a.s], .agg #[.int .i64 a.ty, .int .i64 a.n, .string a.s]] w fun e w' => e = .returned (.bool true) ∧ Below w.heap.size w w' := by
  go_enter Tryd.func11, Tryd.ntmps11
  go_wp2
  go_ret
  exact ⟨rfl, ((Below.refl _ w).alloc (Nat.le_refl _) _).alloc (by simp) _⟩

set_option maxHeartbeats 4000000 in
set_option maxRecDepth 1000000 in
theorem Rows2_eq (p q : Option Addr) (cp cq : Nat) (la : List Va) (w : World) (hp : rowIn w p la) (hq : rowIn w q la) (hl : la.length ≤ 1000) :
    Calls Tryd.prog 17 #[.slice p la.length cp, .slice q la.length cq] w fun e w' => e = .returned (.bool true) ∧ Below w.heap.size w w' := by
  go_enter Tryd.func17, Tryd.ntmps17
  go_wp2_with fail
  go_loopw [5] (fun sk wr => ∃ k : Nat, sk = .int .i64 k ∧ k ≤ la.length ∧ Below w.heap.size w wr) (fun sk _ => la.length - (intOf sk).toNat)
  case atStart => exact ⟨0, rfl, Nat.zero_le _, Below.refl _ _⟩
  case round =>
    obtain ⟨k, rfl, hk, hb⟩ := hrel
    by_cases hlt : k < la.length
    · obtain ⟨a, hak⟩ : ∃ v, la[k]? = some v := ⟨la[k], List.getElem?_eq_getElem hlt⟩
      rcases hp with rfl | ⟨g, o1, rfl, hvg, hcg⟩
      · simp at hak
      rcases hq with rfl | ⟨h, o2, rfl, hvh, hch⟩
      · simp at hak
      obtain ⟨c1, c2, c3⟩ := hcg k a hak
      obtain ⟨m1, m2, m3⟩ := hch k a hak
      have d1 := (hb.cell (p := ⟨g, o1 + k * 3, none⟩) hvg).trans c1
      have d2 := (hb.cell (p := ⟨g, o1 + k * 3 + 1, none⟩) hvg).trans c2
      have d3 := (hb.cell (p := ⟨g, o1 + k * 3 + 2, none⟩) hvg).trans c3
      have e1 := (hb.cell (p := ⟨h, o2 + k * 3, none⟩) hvh).trans m1
      have e2 := (hb.cell (p := ⟨h, o2 + k * 3 + 1, none⟩) hvh).trans m2
      have e3 := (hb.cell (p := ⟨h, o2 + k * 3 + 2, none⟩) hvh).trans m3
      have hgw : g < wr.heap.size := Nat.lt_of_lt_of_le hvg hb.size
      have hhw : h < wr.heap.size := Nat.lt_of_lt_of_le hvh hb.size
      have OO : Hid (∀ w, Calls Tryd.prog 11 #[.agg #[.int .i64 a.ty, .int .i64 a.n, .string a.s], .agg #[.int .i64 a.ty, .int .i64 a.n, .string a.s]] w fun e w' => e = .returned (.bool true) ∧ Below w.heap.size w w') := fun w => Same2_eq a w
      clear c1 c2 c3 m1 m2 m3 hak hvg hvh hcg hch
      go_wp2_with fail
      go_region_held3 (fun w' => w'.cell? ⟨g, o1 + k * 3, none⟩ = some (.int .i64 a.ty) ∧ w'.cell? ⟨g, o1 + k * 3 + 1, none⟩ = some (.int .i64 a.n) ∧ w'.cell? ⟨g, o1 + k * 3 + 2, none⟩ = some (.string a.s) ∧ w'.cell? ⟨h, o2 + k * 3, none⟩ = some (.int .i64 a.ty) ∧ w'.cell? ⟨h, o2 + k * 3 + 1, none⟩ = some (.int .i64 a.n) ∧ w'.cell? ⟨h, o2 + k * 3 + 2, none⟩ = some (.string a.s)) (first | go_keep | exact ⟨(hb2.cell (p := ⟨g, o1 + k * 3, none⟩) hgw).trans d1, (hb2.cell (p := ⟨g, o1 + k * 3 + 1, none⟩) hgw).trans d2, (hb2.cell (p := ⟨g, o1 + k * 3 + 2, none⟩) hgw).trans d3, (hb2.cell (p := ⟨h, o2 + k * 3, none⟩) hhw).trans e1, (hb2.cell (p := ⟨h, o2 + k * 3 + 1, none⟩) hhw).trans e2, (hb2.cell (p := ⟨h, o2 + k * 3 + 2, none⟩) hhw).trans e3⟩) ((go_at_call 11; refine (OO.out _).mono ?_; rintro e w1 ⟨rfl, hb2⟩))
      go_wp2_with fail
      go_roundw
      case rel => exact ⟨k + 1, by go_num, hlt, hb.drew.trans (hb2.mono (by simpa using hb.size))⟩
      case measure => simp [intOf]; omega
    · go_wp2_with fail
      go_ret
      exact ⟨rfl, hb⟩
end Go.Proofs.YtlikpomkcfiafaaDoor
