/-
  The walks of rowcode.readBool, wholeText and readText.
-/
import Derived.Test.YtjdnbgnjgicbbaaDoorBkD
namespace Go.Proofs.YtjdnbgnjgicbbaaDoor
open Go.RowKit Go.Shelf

theorem app_g {ops : Array Oper} {rest : List Oper} {o : Oper} {a : Act} {w : World} {Q : Exit → Act → World → Prop} (hgd : o.guard = none) (s x : Operand)
    (ho : o.op = .call { callee := .builtin .append, args := #[s, x], argTypes := #[24, 24] })
    (base : Nat) (v : Value) (l news : List UInt8) (cs : Array Value) (hs : a.eval s = v) (hown : ownsB w base v l) (hcs : cs.toList = by8 news)
    (hx : a.eval x = .slice (some ⟨w.heap.size, 0, none⟩) news.length news.length) (hl : l.length + news.length ≤ 140737488355328) (hb : base ≤ w.heap.size)
    (h : ∀ v' w', ownsB w' base v' (l ++ news) → Below base w w' → base ≤ w'.heap.size → wpList Tryd.prog ops Q rest (a.put o.dst v') w') :
    wpList Tryd.prog ops Q (o :: rest) a (w.alloc (.cells cs 5)) := by
  obtain ⟨i0, hi, hz0, hz1, hz2⟩ := info_parts u8Info
  refine wpList_append_own _ hgd s x 24 ho base 5 i0 (.int .u8 0) 1 1 u8Slice hi hz0 hz1 hz2 rfl (by decide) v l.length (by8 l) hs (hown.alloc _) ⟨w.heap.size, 0, none⟩ news.length news.length (by8 news) hx (by rw [by8_len]; omega) ?_ (by8_one _) (by unfold maxLen; omega) (by omega) (by simp; omega) ?_
  · intro j u hj
    have ea : (⟨w.heap.size, 0, none⟩ : Addr).add j = ⟨w.heap.size, j, none⟩ := by simp [Addr.add]; intro h; exact h.symm
    rw [ea, ← hj, ← hcs]
    simp only [World.cell?, heap_alloc_new]
    simp
  · intro v' w' h1 h2 _
    have e : ownsB w' base v' (l ++ news) := by
      show w'.ownsRow _ _ _ _ _ _
      rw [by8_app, List.length_append]; exact h1
    have hb2 : Below base (w.alloc (.cells cs 5)) w' := below_own h2 (by simp; omega) (own_ge hown)
    have hb1 : Below base w (w.alloc (.cells cs 5)) := (Below.refl _ w).alloc hb _
    exact h v' w' e (hb1.trans hb2) (Nat.le_trans hb (hb1.trans hb2).size)

def rdBool (l : List UInt8) : Except Int (Va × Nat) :=
  if l.length < 2 then .error 4 else if 1 < (l.getD 1 0).toNat then .error 20 else .ok (⟨4, ((l.getD 1 0).toNat : Int), ⟨#[]⟩⟩, 2)

set_option maxHeartbeats 2000000 in
set_option maxRecDepth 1000000 in
theorem readBool_any (p : Option Addr) (c : Nat) (l : List UInt8) (w : World) (hp : byIn w p l) :
    Calls Tryd.prog 27 #[.slice p l.length c] w fun e w' => e = .returned (vrd (rdBool l)) ∧ Below w.heap.size w w' := by
  by_cases h2 : l.length < 2
  · have e : rdBool l = .error 4 := if_pos h2
    rw [e]
    have hi : (l.length : Int) < 2 := by omega
    go_enter Tryd.func27, Tryd.ntmps27
    go_wp2_with fail
    refine bodyPost_ret (v := vrd (.error 4)) (by simp [results, Tryd.results27, go_sem, vrd]) rfl ⟨rfl, (Below.refl _ w).alloc (Nat.le_refl _) _⟩
  · rcases hp with rfl | ⟨g, off, rfl, hg, hcs⟩
    · simp at h2
    obtain ⟨b1, hb1⟩ : ∃ b, b = l.getD 1 0 := ⟨_, rfl⟩
    have c1 := hcs 1 b1 (by rw [hb1, List.getElem?_eq_getElem (by omega), List.getD_eq_getElem?_getD, List.getElem?_eq_getElem (by omega)]; rfl)
    have hi : ¬ (l.length : Int) < 2 := by omega
    have hl2 : (2 : Int) ≤ (l.length : Int) := by omega
    have e : rdBool l = if 1 < b1.toNat then .error 20 else .ok (⟨4, (b1.toNat : Int), ⟨#[]⟩⟩, 2) := by unfold rdBool; rw [if_neg h2, ← hb1]
    rw [e]
    clear e hb1 hcs h2
    by_cases h1 : 1 < b1.toNat
    · rw [if_pos h1]
      have hi1 : (1 : Int) < (b1.toNat : Int) := by omega
      go_enter Tryd.func27, Tryd.ntmps27
      go_wp2_with fail
      refine bodyPost_ret (v := vrd (.error 20)) (by simp [results, Tryd.results27, go_sem, vrd]) rfl ⟨rfl, (Below.refl _ w).alloc (Nat.le_refl _) _⟩
    · rw [if_neg h1]
      have hi1 : (b1.toNat : Int) ≤ 1 := by omega
      go_enter Tryd.func27, Tryd.ntmps27
      go_wp2_with fail
      refine bodyPost_ret (v := vrd (.ok (⟨4, (b1.toNat : Int), ⟨#[]⟩⟩, 2))) (by simp [results, Tryd.results27, go_sem, vrd]) rfl ⟨rfl, (Below.refl _ w).alloc (Nat.le_refl _) _⟩

/-- a text whose end was read -/
def whT (s : ByteArray) (n : Nat) : Except Int (Va × Nat) := if chkT s = 0 then .ok (⟨3, 0, s⟩, n) else .error 20
set_option maxHeartbeats 2000000 in
set_option maxRecDepth 1000000 in
theorem wholeText_any (s : ByteArray) (n : Nat) (w : World) (hs : s.size ≤ 9223372036854775807) (hT : Tabs w) :
    Calls Tryd.prog 39 #[.string s, .int .i64 (n : Int)] w fun e w' => e = .returned (vrd (whT s n)) ∧ Below w.heap.size w w' := by
  have CK : Hid (∀ w, Tabs w → Calls Tryd.prog 21 #[.agg #[.int .i64 3, .int .i64 0, .string s]] w fun e w' => e = .returned (.int .i64 (chkT s)) ∧ Below w.heap.size w w') := fun w h => by
    have := Check_any 3 0 s w hs h
    rw [chk_text] at this; exact this
  have B0 : Hid (∀ o o', Below w.heap.size w ((w.alloc o).alloc o')) := fun o o' => ((Below.refl _ w).alloc (Nat.le_refl _) o).alloc (by simp) o'
  have R0 : Hid (Res ((w.alloc (.cells #[.int .i64 0, .int .i64 0, .string ⟨#[]⟩] 23)).alloc (.cells #[.int .i64 3, .int .i64 0, .string s] 23)) w.heap.size 0 0 ⟨#[]⟩) := (Res.new w 0 0 ⟨#[]⟩).alloc _
  have V0 : Hid (Res ((w.alloc (.cells #[.int .i64 0, .int .i64 0, .string ⟨#[]⟩] 23)).alloc (.cells #[.int .i64 3, .int .i64 0, .string s] 23)) (w.heap.size + 1) 3 0 s) := by
    have := Res.new (w.alloc (.cells #[.int .i64 0, .int .i64 0, .string ⟨#[]⟩] 23)) 3 0 s
    rw [show (w.alloc (.cells #[.int .i64 0, .int .i64 0, .string ⟨#[]⟩] 23)).heap.size = w.heap.size + 1 by simp] at this
    exact this
  by_cases h0 : chkT s = 0
  · have e : whT s n = .ok (⟨3, 0, s⟩, n) := if_pos h0
    rw [e]
    rw [h0] at CK
    clear e h0 hs
    go_enter Tryd.func39, Tryd.ntmps39
    go_wp2_with fail
    refine (CK.out _ (hT.below (B0.out _ _))).mono ?_
    rintro e w1 ⟨rfl, hb1⟩
    have R1 := R0.out.below hb1
    obtain ⟨_, v0, v1, v2, _, _, _⟩ := V0.out.below hb1
    have B1 := (B0.out _ _).trans (hb1.mono (B0.out _ _).size)
    obtain ⟨_, c0, c1, c2, f0, f1, f2⟩ := id R1
    go_wp2_with fail
    obtain ⟨_, x0, x1, x2, _, _, _⟩ := R1.put 3 0 s
    refine bodyPost_ret (v := vrd (.ok (⟨3, 0, s⟩, n))) (by simp [results, Tryd.results39, go_sem, vrd, x0, x1, x2]) rfl ⟨rfl, ?_⟩
    exact ((B1.setCell (p := ⟨w.heap.size, 0, none⟩) (Nat.le_refl _) _).setCell (p := ⟨w.heap.size, 1, none⟩) (Nat.le_refl _) _).setCell (p := ⟨w.heap.size, 2, none⟩) (Nat.le_refl _) _
  · have e : whT s n = .error 20 := if_neg h0
    rw [e]
    have hne : (chkT s != 0) = true := by rw [bne_iff_ne]; exact h0
    clear e h0 hs
    go_enter Tryd.func39, Tryd.ntmps39
    go_wp2_with fail
    refine (CK.out _ (hT.below (B0.out _ _))).mono ?_
    rintro e w1 ⟨rfl, hb1⟩
    have R1 := R0.out.below hb1
    have B1 := (B0.out _ _).trans (hb1.mono (B0.out _ _).size)
    obtain ⟨_, c0, c1, c2, f0, f1, f2⟩ := id R1
    go_wp2_with fail
    obtain ⟨_, x0, x1, x2, _, _, _⟩ := R1.put 0 0 ⟨#[]⟩
    refine bodyPost_ret (v := vrd (.error 20)) (by simp [results, Tryd.results39, go_sem, vrd, x0, x1, x2]) rfl ⟨rfl, ?_⟩
    exact ((B1.setCell (p := ⟨w.heap.size, 0, none⟩) (Nat.le_refl _) _).setCell (p := ⟨w.heap.size, 1, none⟩) (Nat.le_refl _) _).setCell (p := ⟨w.heap.size, 2, none⟩) (Nat.le_refl _) _
end Go.Proofs.YtjdnbgnjgicbbaaDoor
