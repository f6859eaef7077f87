/-
  The walk of lockstepref01.unquoted.
-/
import Derived.Test.YtoboebibmelgkaaGreatDoorPaE
import Derived.Test.YtoboebibmelgkaaGreatDoorPaD
import Derived.OwnWalk
namespace Go.Proofs.YtoboebibmelgkaaGreatDoor
open Go.RowKit Go.Shelf

def by8 (l : List UInt8) : List Value := l.map fun x => Value.int .u8 (x.toNat : Int)
theorem by8_len (l : List UInt8) : (by8 l).length = l.length := by simp [by8]
theorem by8_app (l m : List UInt8) : by8 (l ++ m) = by8 l ++ by8 m := by simp [by8]
theorem by8_one (l : List UInt8) : ∀ u ∈ by8 l, u.oneCell' = true := by
  intro u hu; simp only [by8, List.mem_map] at hu; obtain ⟨x, _, rfl⟩ := hu; rfl
/-- the slice holds these bytes, in memory of its own -/
def ownsB (w : World) (base : Nat) (v : Value) (l : List UInt8) : Prop := w.ownsRow base 5 1 v l.length (by8 l)
theorem ownsB_nil (w : World) (base : Nat) : ownsB w base (.slice none 0 0) [] := World.ownsRow_nil _ _ _ _
theorem ownsB.alloc {w : World} {base : Nat} {v : Value} {l : List UInt8} (h : ownsB w base v l) (o : Obj) : ownsB (w.alloc o) base v l := World.ownsRow.alloc h o
theorem own_ge {w : World} {base : Nat} {v : Value} {l : List UInt8} (h : ownsB w base v l) : ∀ g, v.ownBlock = some g → base ≤ g := by
  intro g hg
  rcases h.2 with ⟨rfl, _⟩ | ⟨g', cap, cur, rfl, hb, _⟩
  · simp [Value.ownBlock] at hg
  · simp [Value.ownBlock] at hg; omega
theorem below_own {w w' : World} {base : Nat} {row : Option Nat} (h : w.grownBy w' row) (hb : base ≤ w.heap.size) (hr : ∀ g, row = some g → base ≤ g) : Below base w w' :=
  ⟨h.os, h.tape, h.output, h.size, fun k hk => h.block k (Nat.lt_of_lt_of_le hk hb) (fun e => by have := hr k e.symm; omega)⟩
theorem u8Info : (Tryz.prog.info? 5).map (fun i => (i.zero, i.size, i.bytes)) = some (some (.int .u8 0), 1, 1) := by kernel_rfl
theorem u8Slice : Tryz.prog.underlying 66 = some (.slice 5) := by kernel_rfl

theorem app_b {ops : Array Oper} {rest : List Oper} {o : Oper} {a : Act} {w : World} {Q : Exit → Act → World → Prop} (hgd : o.guard = none) (s x : Operand)
    (ho : o.op = .call { callee := .builtin .append, args := #[s, x], argTypes := #[66, 66] })
    (base : Nat) (v : Value) (l news : List UInt8) (cs : Array Value) (hs : a.eval s = v) (hown : ownsB w base v l) (hcs : cs.toList = by8 news)
    (hx : a.eval x = .slice (some ⟨w.heap.size, 0, none⟩) news.length news.length) (hl : l.length + news.length ≤ 20000000000) (hb : base ≤ w.heap.size)
    (h : ∀ v' w', ownsB w' base v' (l ++ news) → Below base w w' → base ≤ w'.heap.size → wpList Tryz.prog ops Q rest (a.put o.dst v') w') :
    wpList Tryz.prog ops Q (o :: rest) a (w.alloc (.cells cs 5)) := by
  obtain ⟨i0, hi, hz0, hz1, hz2⟩ := info_parts u8Info
  refine wpList_append_own _ hgd s x 66 ho base 5 i0 (.int .u8 0) 1 1 u8Slice hi hz0 hz1 hz2 rfl (by decide) v l.length (by8 l) hs (hown.alloc _) ⟨w.heap.size, 0, none⟩ news.length news.length (by8 news) hx (by rw [by8_len]; omega) ?_ (by8_one _) (by unfold maxLen; omega) (by omega) (by simp; omega) ?_
  · intro j u hj
    have ea : (⟨w.heap.size, 0, none⟩ : Addr).add j = ⟨w.heap.size, j, none⟩ := by simp [Addr.add]; intro h; exact h.symm
    rw [ea, ← hj, ← hcs]
    simp only [World.cell?, heap_alloc_new]
    simp
  · intro v' w' h1 h2 _
    have e : ownsB w' base v' (l ++ news) := by
      show w'.ownsRow _ _ _ _ _ _
      rw [by8_app, List.length_append]; exact h1
    have hb2 : Below base (w.alloc (.cells cs 5)) w' := below_own h2 (by simp; omega) (own_ge hown)
    have hb1 : Below base w (w.alloc (.cells cs 5)) := (Below.refl _ w).alloc hb _
    exact h v' w' e (hb1.trans hb2) (Nat.le_trans hb (hb1.trans hb2).size)
theorem ownsB.below {w w' : World} {base : Nat} {v : Value} {l : List UInt8} (h : ownsB w base v l) (hb : Below w.heap.size w w') : ownsB w' base v l :=
  World.ownsRow.kept h (row := none) ⟨hb.os, hb.tape, hb.output, hb.size, fun k hk _ => hb.block k hk⟩ (by cases hv : v.ownBlock <;> simp)
theorem by8_get {l : List UInt8} {k : Nat} {x : UInt8} (h : l[k]? = some x) : (by8 l)[k]? = some (.int .u8 (x.toNat : Int)) := by
  simp [by8, h]
theorem strT : Tryz.prog.underlying 9 = some .string := by kernel_rfl
theorem u8T : Tryz.prog.underlying 5 = some (.int .u8) := by kernel_rfl
/-- bytes of one's own, as a text -/
theorem conv_own {w : World} {base : Nat} {v : Value} {l : List UInt8} (h : ownsB w base v l) : (convert 66 9 v).run Tryz.prog w = .ok (.string ⟨l.toArray⟩) w := by
  rcases h.2 with ⟨rfl, h0⟩ | ⟨g, cap, cur, rfl, _, hcur, _⟩
  · obtain rfl : l = [] := List.eq_nil_of_length_eq_zero h0
    rw [run_convert_bytes_string w 66 9 5 none 0 0 u8Slice u8T strT]
    rfl
  · refine run_convert_bytes_back (P := Tryz.prog) w 66 9 5 ⟨g, 0, none⟩ cap l u8Slice u8T strT (fun j hj => ?_)
    have ea : (⟨g, 0, none⟩ : Addr).add j = ⟨g, j, none⟩ := by simp [Addr.add]; intro h; exact h.symm
    rw [ea]
    have := World.ownsRow.cellAt h j (by omega)
    rw [this]; exact by8_get (List.getElem?_eq_getElem hj)


theorem own_none (W : World) : ownsB (W.alloc (.cells #[] 5)) W.heap.size (.slice (some ⟨W.heap.size, 0, none⟩) 0 0) [] :=
  ⟨rfl, Or.inr ⟨W.heap.size, 0, #[], rfl, Nat.le_refl _, heap_alloc_new W _, Nat.le_refl _, by unfold maxLen; omega, rfl, rfl⟩⟩
theorem unq_plain {x : UInt8} (h : ¬ x = 39) (r : List UInt8) : unq (x :: r) = (unq r).map (x :: ·) := by
  rcases r with _ | ⟨y, r⟩
  · show unq [x] = some [x]
    rw [unq, if_neg h]
  · rw [unq, if_neg h]
theorem unq_two (r : List UInt8) : unq (39 :: 39 :: r) = (unq r).map (39 :: ·) := by rw [unq, if_pos rfl, if_pos rfl]
theorem unq_bad {y : UInt8} (h : ¬ y = 39) (r : List UInt8) : unq (39 :: y :: r) = none := by rw [unq, if_pos rfl, if_neg h]
theorem unq_end : unq [39] = none := by rw [unq, if_pos rfl]
/-- what stands between quotes, if they are there -/
def uqS (l : List UInt8) : Option (List UInt8) := if l.length < 2 ∨ l.head? ≠ some 39 ∨ l.getLast? ≠ some 39 then none else unq ((l.drop 1).dropLast)
def uqV (o : Option (List UInt8)) : Value := match o with | some t => .tuple #[.string ⟨t.toArray⟩, .bool true] | none => .tuple #[.string ⟨#[]⟩, .bool false]

set_option maxHeartbeats 4000000 in
set_option maxRecDepth 1000000 in
theorem unquoted_any (l : List UInt8) (w : World) (hs : l.length ≤ 9000) :
    Calls Tryz.prog 32 #[.string ⟨l.toArray⟩] w fun e w' => e = .returned (uqV (uqS l)) ∧ Below w.heap.size w w' := by
  have hzl : (ByteArray.mk l.toArray).size = l.length := size_mk l
  by_cases h2 : l.length < 2
  · have e : uqS l = none := if_pos (Or.inl h2)
    rw [e]
    have h2i : (l.length : Int) < 2 := by omega
    go_enter Tryz.func32, Tryz.ntmps32
    go_wp2_with fail
    refine bodyPost_ret (v := .tuple #[.string ⟨#[]⟩, .bool false]) (by simp [results, Tryz.results32, go_sem]) rfl (⟨rfl, Below.refl _ _⟩)
  have h2i : ¬ (l.length : Int) < 2 := by omega
  have hne : l ≠ [] := by rintro rfl; simp at h2
  obtain ⟨x0, hx0⟩ : ∃ x, l[0]? = some x := ⟨l[0]'(by omega), List.getElem?_eq_getElem (by omega)⟩
  have hg0 := get_mk hx0
  have hh0 : l.head? = some x0 := by rw [List.head?_eq_getElem?]; exact hx0
  have h0l : (0 : Int) < (l.length : Int) := by omega
  have h0n : 0 < l.length := by omega
  by_cases hq0 : x0 = 39
  · subst hq0
    obtain ⟨y, hy⟩ : ∃ y, l.getLast? = some y := ⟨_, List.getLast?_eq_some_getLast hne⟩
    have hget : ∀ h, (ByteArray.mk l.toArray)[l.length - 1]'h = y := by
      rw [List.getLast?_eq_getElem?] at hy
      exact get_mk hy
    have hti : ((l.length : Int) - 1).toNat = l.length - 1 := by omega
    have hi1 : (0 : Int) ≤ (l.length : Int) - 1 := by omega
    have hi2 : (l.length : Int) - 1 < (l.length : Int) := by omega
    have hi3 : l.length - 1 < l.length := by omega
    have hi4 : (1 : Int) ≤ (l.length : Int) - 1 := by omega
    have hi5 : (l.length : Int) - 1 ≤ (l.length : Int) := by omega
    have hli : (l.length : Int) ≤ 9000 := by omega
    by_cases hy39 : y = 39
    · subst hy39
      obtain ⟨J, hJ⟩ : ∃ J, J = (l.drop 1).dropLast := ⟨_, rfl⟩
      have hJl : J.length ≤ 9000 := by rw [hJ]; simp; omega
      have hex : (ByteArray.mk l.toArray).extract 1 (l.length - 1) = ByteArray.mk J.toArray := by
        rw [extract_mk, hJ, List.dropLast_eq_take, List.drop_take]
        simp
      have e : uqS l = unq J := by
        unfold uqS
        rw [if_neg (by simp [hy, hh0]; omega), ← hJ]
      rw [e]
      obtain ⟨U, hU⟩ : ∃ U, U = unq J := ⟨_, rfl⟩
      rw [← hU]
      have HU : Hid (U = (unq (J.drop 0)).map (([] : List UInt8) ++ ·)) := by show _ = _; rw [hU]; simp
      have hzJ : (ByteArray.mk J.toArray).size = J.length := size_mk J
      have hJi : (J.length : Int) ≤ 9000 := by omega
      have ON : Hid (ownsB (w.alloc (.cells #[] 5)) w.heap.size (.slice (some ⟨w.heap.size, 0, none⟩) 0 0) []) := own_none w
      clear e hU hy hJ hne hh0 hx0 hs h2
      go_enter Tryz.func32, Tryz.ntmps32
      go_wp2_with fail
      go_loopw [4, 5] (fun s4 s5 wr => ∃ (k : Nat) (T : List UInt8), s5 = .int .i64 k ∧ k ≤ J.length ∧ T.length ≤ k ∧ Hid (U = (unq (J.drop k)).map (T ++ ·)) ∧ Hid (ownsB wr w.heap.size s4 T) ∧ Hid (Below w.heap.size w wr)) (fun _ s5 _ => J.length - (intOf s5).toNat)
      case atStart => exact ⟨0, [], rfl, Nat.zero_le _, by simp, HU, ON, (Below.refl _ w).alloc (Nat.le_refl _) _⟩
      case round =>
        obtain ⟨k, T, rfl, hk, hTk, hd, ho, hbr⟩ := hrel
        clear HU ON
        have sb := hbr.out.size
        by_cases hlt : k < J.length
        · obtain ⟨x, hx⟩ : ∃ x, J[k]? = some x := ⟨J[k], List.getElem?_eq_getElem hlt⟩
          have hgx := get_mk hx
          have hlti : (k : Int) < (J.length : Int) := by omega
          have hd1 := hd.out
          rw [drop_at hx] at hd1
          by_cases hx39 : x = 39
          · subst hx39
            by_cases hend : k + 1 = J.length
            · rw [List.drop_eq_nil_of_le (by omega), unq_end] at hd1
              obtain rfl : U = none := hd1
              have hei : ((k : Int) + 1 == (J.length : Int)) = true := by rw [beq_iff_eq]; omega
              have hb := hbr.out
              clear hd ho hbr hx
              go_wp2_with fail
              refine bodyPost_ret (v := .tuple #[.string ⟨#[]⟩, .bool false]) (by simp [results, Tryz.results32, go_sem]) rfl (⟨rfl, hb⟩)
            · have hlt2 : k + 1 < J.length := by omega
              obtain ⟨y, hy⟩ : ∃ x, J[k + 1]? = some x := ⟨J[k + 1], List.getElem?_eq_getElem hlt2⟩
              have hgy := get_mk hy
              have hei : ((k : Int) + 1 == (J.length : Int)) = false := by rw [beq_eq_false_iff_ne]; omega
              have hk1 : (k : Int) + 1 < (J.length : Int) := by omega
              have hk2 : ((k : Int) + 1).toNat = k + 1 := by omega
              have hk3 : (0 : Int) ≤ (k : Int) + 1 := by omega
              rw [drop_at hy] at hd1
              by_cases hy39 : y = 39
              · subst hy39
                rw [unq_two] at hd1
                have hd2 : Hid (U = (unq (J.drop (k + 2))).map ((T ++ [39]) ++ ·)) := by
                  show _ = _
                  rw [hd1, Option.map_map]
                  congr 1
                  funext z
                  simp
                have ho2 := ho.out
                clear hd hd1 ho hx hy
                go_wp2_with (at_builtin; refine app_b rfl (.tmp 52) (.tmp 56) rfl w.heap.size _ T [39] _ rfl ho2 rfl rfl (by simp only [List.length_cons, List.length_nil]; omega) sb ?_; intro v3 w3 ho3 hb3 hs3)
                go_roundw
                case rel => exact ⟨k + 2, T ++ [39], by go_num, by omega, by simp; omega, hd2, ho3, hbr.out.trans hb3⟩
                case measure => simp [intOf]; omega
              · rw [unq_bad hy39] at hd1
                obtain rfl : U = none := hd1
                have hyi : ((y.toNat : Int) != 39) = true := by
                  rw [bne_iff_ne]; intro e; exact hy39 (UInt8.toNat_inj.1 (by show y.toNat = 39; omega))
                have hb := hbr.out
                clear hd ho hbr hx hy
                go_wp2_with fail
                refine bodyPost_ret (v := .tuple #[.string ⟨#[]⟩, .bool false]) (by simp [results, Tryz.results32, go_sem]) rfl (⟨rfl, hb⟩)
          · rw [unq_plain hx39] at hd1
            have hd2 : Hid (U = (unq (J.drop (k + 1))).map ((T ++ [x]) ++ ·)) := by
              show _ = _
              rw [hd1, Option.map_map]
              congr 1
              funext z
              simp
            have hxi : ((x.toNat : Int) == 39) = false := by
              rw [beq_eq_false_iff_ne]; intro e; exact hx39 (UInt8.toNat_inj.1 (by show x.toNat = 39; omega))
            have ho2 := ho.out
            clear hd hd1 ho hx
            go_wp2_with (at_builtin; refine app_b rfl (.tmp 52) (.tmp 56) rfl w.heap.size _ T [x] _ rfl ho2 rfl rfl (by simp only [List.length_cons, List.length_nil]; omega) sb ?_; intro v3 w3 ho3 hb3 hs3)
            go_roundw
            case rel => exact ⟨k + 1, T ++ [x], by go_num, hlt, by simp; omega, hd2, ho3, hbr.out.trans hb3⟩
            case measure => simp [intOf]; omega
        · have hk0 : k = J.length := by omega
          have hlti : ¬ (k : Int) < (J.length : Int) := by omega
          have hd1 := hd.out
          rw [List.drop_eq_nil_of_le (by omega)] at hd1
          have hd2 : U = some T := by rw [hd1]; simp [unq]
          have cv := conv_own ho.out
          have hb := hbr.out
          subst hd2
          clear hd hd1 ho hbr
          go_wp2_with fail
          refine bodyPost_ret (v := .tuple #[.string ⟨T.toArray⟩, .bool true]) (by simp [results, Tryz.results32, go_sem]) rfl (⟨rfl, hb⟩)
    · have e : uqS l = none := if_pos (Or.inr (Or.inr (by rw [hy]; simpa using hy39)))
      rw [e]
      have hyi : ((y.toNat : Int) != 39) = true := by
        rw [bne_iff_ne]; intro e; exact hy39 (UInt8.toNat_inj.1 (by show y.toNat = 39; omega))
      clear e hy hne hh0 hx0 hs h2
      go_enter Tryz.func32, Tryz.ntmps32
      go_wp2_with fail
      refine bodyPost_ret (v := .tuple #[.string ⟨#[]⟩, .bool false]) (by simp [results, Tryz.results32, go_sem]) rfl (⟨rfl, Below.refl _ _⟩)
  · have e : uqS l = none := if_pos (Or.inr (Or.inl (by rw [hh0]; simpa using hq0)))
    rw [e]
    have hyi : ((x0.toNat : Int) != 39) = true := by
      rw [bne_iff_ne]; intro e; exact hq0 (UInt8.toNat_inj.1 (by show x0.toNat = 39; omega))
    clear e hne hh0 hx0 hs h2
    go_enter Tryz.func32, Tryz.ntmps32
    go_wp2_with fail
    refine bodyPost_ret (v := .tuple #[.string ⟨#[]⟩, .bool false]) (by simp [results, Tryz.results32, go_sem]) rfl (⟨rfl, Below.refl _ _⟩)
end Go.Proofs.YtoboebibmelgkaaGreatDoor
