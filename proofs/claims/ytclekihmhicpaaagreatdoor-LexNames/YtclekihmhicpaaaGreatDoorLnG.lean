/-
  Plain, of the reference; quotes around names, of both.
-/
import Derived.Test.YtclekihmhicpaaaGreatDoorLnF
import Derived.OwnWalk
namespace Go.Proofs.YtclekihmhicpaaaGreatDoor
open Go.RowKit Go.Shelf

/-- each quote twice -/
def qdq : List UInt8 → List UInt8
  | [] => []
  | x :: r => if x = 34 then 34 :: 34 :: qdq r else x :: qdq r
theorem qdq_len : ∀ l : List UInt8, (qdq l).length ≤ 2 * l.length
  | [] => by simp [qdq]
  | x :: l => by
    have := qdq_len l
    unfold qdq
    split <;> simp <;> omega
theorem qdq_rpl : ∀ l : List UInt8, Lib.replaceAll l [34] [34, 34] = qdq l
  | [] => rpl_nil (by decide) (by decide)
  | x :: l => by
    by_cases h : x = 34
    · subst h
      rw [rpl_hit (by decide) (by decide) (by simp)]
      show [34, 34] ++ Lib.replaceAll l [34] [34, 34] = _
      rw [qdq_rpl l]; simp [qdq]
    · rw [rpl_miss (by decide) (by decide) (by simp [List.isPrefixOf]; exact fun e => h e.symm), qdq_rpl l]
      simp [qdq, h]
def by8 (l : List UInt8) : List Value := l.map fun x => Value.int .u8 (x.toNat : Int)
theorem by8_len (l : List UInt8) : (by8 l).length = l.length := by simp [by8]
theorem by8_app (l m : List UInt8) : by8 (l ++ m) = by8 l ++ by8 m := by simp [by8]
theorem by8_one (l : List UInt8) : ∀ u ∈ by8 l, u.oneCell' = true := by
  intro u hu; simp only [by8, List.mem_map] at hu; obtain ⟨x, _, rfl⟩ := hu; rfl
/-- the slice holds these bytes, in memory of its own -/
def ownsB (w : World) (base : Nat) (v : Value) (l : List UInt8) : Prop := w.ownsRow base 5 1 v l.length (by8 l)
theorem ownsB_nil (w : World) (base : Nat) : ownsB w base (.slice none 0 0) [] := World.ownsRow_nil _ _ _ _
theorem ownsB.alloc {w : World} {base : Nat} {v : Value} {l : List UInt8} (h : ownsB w base v l) (o : Obj) : ownsB (w.alloc o) base v l := World.ownsRow.alloc h o
theorem own_ge {w : World} {base : Nat} {v : Value} {l : List UInt8} (h : ownsB w base v l) : ∀ g, v.ownBlock = some g → base ≤ g := by
  intro g hg
  rcases h.2 with ⟨rfl, _⟩ | ⟨g', cap, cur, rfl, hb, _⟩
  · simp [Value.ownBlock] at hg
  · simp [Value.ownBlock] at hg; omega
theorem below_own {w w' : World} {base : Nat} {row : Option Nat} (h : w.grownBy w' row) (hb : base ≤ w.heap.size) (hr : ∀ g, row = some g → base ≤ g) : Below base w w' :=
  ⟨h.os, h.tape, h.output, h.size, fun k hk => h.block k (Nat.lt_of_lt_of_le hk hb) (fun e => by have := hr k e.symm; omega)⟩
theorem u8Info : (Tryz.prog.info? 5).map (fun i => (i.zero, i.size, i.bytes)) = some (some (.int .u8 0), 1, 1) := by kernel_rfl
theorem u8Slice : Tryz.prog.underlying 40 = some (.slice 5) := by kernel_rfl

theorem app_b {ops : Array Oper} {rest : List Oper} {o : Oper} {a : Act} {w : World} {Q : Exit → Act → World → Prop} (hgd : o.guard = none) (s x : Operand)
    (ho : o.op = .call { callee := .builtin .append, args := #[s, x], argTypes := #[40, 40] })
    (base : Nat) (v : Value) (l news : List UInt8) (cs : Array Value) (hs : a.eval s = v) (hown : ownsB w base v l) (hcs : cs.toList = by8 news)
    (hx : a.eval x = .slice (some ⟨w.heap.size, 0, none⟩) news.length news.length) (hl : l.length + news.length ≤ 20000000000) (hb : base ≤ w.heap.size)
    (h : ∀ v' w', ownsB w' base v' (l ++ news) → Below base w w' → base ≤ w'.heap.size → wpList Tryz.prog ops Q rest (a.put o.dst v') w') :
    wpList Tryz.prog ops Q (o :: rest) a (w.alloc (.cells cs 5)) := by
  obtain ⟨i0, hi, hz0, hz1, hz2⟩ := info_parts u8Info
  refine wpList_append_own _ hgd s x 40 ho base 5 i0 (.int .u8 0) 1 1 u8Slice hi hz0 hz1 hz2 rfl (by decide) v l.length (by8 l) hs (hown.alloc _) ⟨w.heap.size, 0, none⟩ news.length news.length (by8 news) hx (by rw [by8_len]; omega) ?_ (by8_one _) (by unfold maxLen; omega) (by omega) (by simp; omega) ?_
  · intro j u hj
    have ea : (⟨w.heap.size, 0, none⟩ : Addr).add j = ⟨w.heap.size, j, none⟩ := by simp [Addr.add]; intro h; exact h.symm
    rw [ea, ← hj, ← hcs]
    simp only [World.cell?, heap_alloc_new]
    simp
  · intro v' w' h1 h2 _
    have e : ownsB w' base v' (l ++ news) := by
      show w'.ownsRow _ _ _ _ _ _
      rw [by8_app, List.length_append]; exact h1
    have hb2 : Below base (w.alloc (.cells cs 5)) w' := below_own h2 (by simp; omega) (own_ge hown)
    have hb1 : Below base w (w.alloc (.cells cs 5)) := (Below.refl _ w).alloc hb _
    exact h v' w' e (hb1.trans hb2) (Nat.le_trans hb (hb1.trans hb2).size)
theorem ownsB.below {w w' : World} {base : Nat} {v : Value} {l : List UInt8} (h : ownsB w base v l) (hb : Below w.heap.size w w') : ownsB w' base v l :=
  World.ownsRow.kept h (row := none) ⟨hb.os, hb.tape, hb.output, hb.size, fun k hk _ => hb.block k hk⟩ (by cases hv : v.ownBlock <;> simp)
theorem by8_get {l : List UInt8} {k : Nat} {x : UInt8} (h : l[k]? = some x) : (by8 l)[k]? = some (.int .u8 (x.toNat : Int)) := by
  simp [by8, h]
theorem strT : Tryz.prog.underlying 9 = some .string := by kernel_rfl
theorem u8T : Tryz.prog.underlying 5 = some (.int .u8) := by kernel_rfl
/-- bytes of one's own, as a text -/
theorem conv_own {w : World} {base : Nat} {v : Value} {l : List UInt8} (h : ownsB w base v l) : (convert 40 9 v).run Tryz.prog w = .ok (.string ⟨l.toArray⟩) w := by
  rcases h.2 with ⟨rfl, h0⟩ | ⟨g, cap, cur, rfl, _, hcur, _⟩
  · obtain rfl : l = [] := List.eq_nil_of_length_eq_zero h0
    rw [run_convert_bytes_string w 40 9 5 none 0 0 u8Slice u8T strT]
    rfl
  · refine run_convert_bytes_back (P := Tryz.prog) w 40 9 5 ⟨g, 0, none⟩ cap l u8Slice u8T strT (fun j hj => ?_)
    have ea : (⟨g, 0, none⟩ : Addr).add j = ⟨g, j, none⟩ := by simp [Addr.add]; intro h; exact h.symm
    rw [ea]
    have := World.ownsRow.cellAt h j (by omega)
    rw [this]; exact by8_get (List.getElem?_eq_getElem hj)


theorem own_one (W : World) (x : UInt8) : ownsB (W.alloc (.cells #[.int .u8 (x.toNat : Int)] 5)) W.heap.size (.slice (some ⟨W.heap.size, 0, none⟩) 1 1) [x] :=
  ⟨rfl, Or.inr ⟨W.heap.size, 1, #[.int .u8 (x.toNat : Int)], rfl, Nat.le_refl _, heap_alloc_new W _, Nat.le_refl _, by unfold maxLen; omega, rfl, rfl⟩⟩
set_option maxHeartbeats 4000000 in
set_option maxRecDepth 1000000 in
theorem Quoted34_any (l : List UInt8) (w : World) (hs : l.length ≤ 9000) :
    Calls Tryz.prog 26 #[.string ⟨l.toArray⟩, .int .u8 34] w fun e w' => e = .returned (.string ⟨(34 :: (qdq l ++ [34])).toArray⟩) ∧ Below w.heap.size w w' := by
  have hzl : (ByteArray.mk l.toArray).size = l.length := size_mk l
  have hli : (l.length : Int) ≤ 9000 := by omega
  have ON : Hid (ownsB (w.alloc (.cells #[.int .u8 34] 5)) w.heap.size (.slice (some ⟨w.heap.size, 0, none⟩) 1 1) [34]) := own_one w 34
  have HQ : Hid (34 :: (qdq l ++ [34]) = [34] ++ (qdq (l.drop 0) ++ [34])) := rfl
  generalize 34 :: (qdq l ++ [34]) = U at *
  go_enter Tryz.func26, Tryz.ntmps26
  go_wp2_with fail
  go_loopw [5, 6] (fun s4 s5 wr => ∃ (k : Nat) (T : List UInt8), s5 = .int .i64 k ∧ k ≤ l.length ∧ T.length ≤ 2 * k + 1 ∧ Hid (U = T ++ (qdq (l.drop k) ++ [34])) ∧ Hid (ownsB wr w.heap.size s4 T) ∧ Hid (Below w.heap.size w wr)) (fun _ s5 _ => l.length - (intOf s5).toNat)
  case atStart => exact ⟨0, [34], rfl, Nat.zero_le _, by simp, HQ, ON, (Below.refl _ w).alloc (Nat.le_refl _) _⟩
  case round =>
    obtain ⟨k, T, rfl, hk, hTk, hd, ho, hbr⟩ := hrel
    clear HQ ON
    have sb := hbr.out.size
    by_cases hlt : k < l.length
    · obtain ⟨x, hx⟩ : ∃ x, l[k]? = some x := ⟨l[k], List.getElem?_eq_getElem hlt⟩
      have hgx := get_mk hx
      have hlti : (k : Int) < (l.length : Int) := by omega
      have hd1 := hd.out
      rw [drop_at hx] at hd1
      have ho2 := ho.out
      by_cases hx34 : x = 34
      · subst hx34
        rw [qdq, if_pos rfl] at hd1
        have hd2 : Hid (U = (T ++ [34] ++ [34]) ++ (qdq (l.drop (k + 1)) ++ [34])) := by show _ = _; rw [hd1]; simp
        clear hd hd1 ho hx
        go_wp2_with (at_builtin; first | (refine app_b rfl (.tmp 15) (.tmp 19) rfl w.heap.size _ T [34] _ rfl ho2 rfl rfl (by simp only [List.length_cons, List.length_nil]; omega) sb ?_; intro v3 w3 ho3 hb3 hs3) | (refine app_b rfl (.tmp 26) (.tmp 28) rfl w.heap.size _ (T ++ [34]) [34] _ rfl ho3 rfl rfl (by simp only [List.length_cons, List.length_nil, List.length_append]; omega) hs3 ?_; intro v4 w4 ho4 hb4 hs4))
        go_roundw
        case rel => exact ⟨k + 1, T ++ [34] ++ [34], by go_num, hlt, by simp; omega, hd2, ho4, (hbr.out.trans hb3).trans hb4⟩
        case measure => simp [intOf]; omega
      · rw [qdq, if_neg hx34] at hd1
        have hd2 : Hid (U = (T ++ [x]) ++ (qdq (l.drop (k + 1)) ++ [34])) := by show _ = _; rw [hd1]; simp
        have hxi : ((x.toNat : Int) == 34) = false := by
          rw [beq_eq_false_iff_ne]; intro e; exact hx34 (UInt8.toNat_inj.1 (by show x.toNat = 34; omega))
        clear hd hd1 ho hx
        go_wp2_with (at_builtin; refine app_b rfl (.tmp 15) (.tmp 19) rfl w.heap.size _ T [x] _ rfl ho2 rfl rfl (by simp only [List.length_cons, List.length_nil]; omega) sb ?_; intro v3 w3 ho3 hb3 hs3)
        go_roundw
        case rel => exact ⟨k + 1, T ++ [x], by go_num, hlt, by simp; omega, hd2, ho3, hbr.out.trans hb3⟩
        case measure => simp [intOf]; omega
    · have hk0 : k = l.length := by omega
      have hlti : ¬ (k : Int) < (l.length : Int) := by omega
      have hd1 := hd.out
      rw [List.drop_eq_nil_of_le (by omega)] at hd1
      have hd2 : U = T ++ [34] := hd1
      have ho2 := ho.out
      subst hd2
      clear hd hd1 ho
      go_wp2_with (at_builtin; refine app_b rfl (.tmp 30) (.tmp 32) rfl w.heap.size _ T [34] _ rfl ho2 rfl rfl (by simp only [List.length_cons, List.length_nil]; omega) sb ?_; intro v3 w3 ho3 hb3 hs3; have cv := conv_own ho3)
      go_ret
      exact ⟨rfl, hbr.out.trans hb3⟩

set_option maxHeartbeats 2000000 in
set_option maxRecDepth 1000000 in
theorem inQuotes_any (l : List UInt8) (w : World) (hs : l.length ≤ 32) (hM : Mx w) :
    Calls Tryz.prog 24 #[.string ⟨l.toArray⟩] w fun e w' => e = .returned (.string ⟨(34 :: (qdq l ++ [34])).toArray⟩) ∧ Below w.heap.size w w' := by
  have RA : Hid (∀ w, Mx w → Calls Tryz.prog 42 #[.string ⟨l.toArray⟩, .string ⟨#[34]⟩, .string ⟨#[34, 34]⟩] w fun e w' => e = .returned (.string ⟨(qdq l).toArray⟩) ∧ Below w.heap.size w w') := fun w hM => by
    have h := ReplaceAll_any ⟨l.toArray⟩ ⟨#[34]⟩ ⟨#[34, 34]⟩ w hM (by rw [size_mk]; omega) (by decide) (by decide)
    have e : Lib.replaceAll (ByteArray.mk l.toArray).data.toList (ByteArray.mk #[34]).data.toList (ByteArray.mk #[34, 34]).data.toList = qdq l := by
      show Lib.replaceAll l.toArray.toList [34] [34, 34] = _
      rw [List.toList_toArray, qdq_rpl]
    rw [e] at h
    exact h
  have HM : Hid (Mx w) := hM
  have hl := qdq_len l
  have e1 : (⟨#[34]⟩ : ByteArray) ++ ⟨(qdq l).toArray⟩ = ⟨(34 :: qdq l).toArray⟩ := add_mk [34] (qdq l)
  have e2 : (⟨(34 :: qdq l).toArray⟩ : ByteArray) ++ ⟨#[34]⟩ = ⟨(34 :: (qdq l ++ [34])).toArray⟩ := by
    have := add_mk (34 :: qdq l) [34]
    exact this
  have n1 : 1 + (qdq l).length ≤ 9223372036854775807 := by omega
  have n2 : (34 :: qdq l).length + 1 ≤ 9223372036854775807 := by simp; omega
  have z1 : (ByteArray.mk (qdq l).toArray).size = (qdq l).length := size_mk _
  generalize hU : (34 :: (qdq l ++ [34]) : List UInt8) = U at *
  generalize hV : (34 :: qdq l : List UInt8) = V at *
  have z2 : (ByteArray.mk V.toArray).size = V.length := size_mk _
  generalize qdq l = Q at *
  clear hU hV hM
  go_enter Tryz.func24, Tryz.ntmps24
  go_wp2_with fail
  refine (RA.out _ HM.out).mono ?_
  rintro e w1 ⟨rfl, hb1⟩
  clear RA
  go_wp2_with fail
  go_ret
  exact ⟨rfl, hb1⟩
end Go.Proofs.YtclekihmhicpaaaGreatDoor
