/-
  Plain, of the reference; quotes around names, of both.
-/
import Derived.Test.YtfcolecglobcdaaGreatDoorGA
import Derived.OwnWalk
import Derived.Test.YtfcolecglobcdaaGreatDoorLnA
import Derived.Lib.SmallJoins
namespace Go.Proofs.YtfcolecglobcdaaGreatDoor
open Go.RowKit Go.Shelf

/-- each quote twice -/
def qdq : List UInt8 → List UInt8
  | [] => []
  | x :: r => if x = 34 then 34 :: 34 :: qdq r else x :: qdq r
theorem qdq_len : ∀ l : List UInt8, (qdq l).length ≤ 2 * l.length
  | [] => by simp [qdq]
  | x :: l => by
    have := qdq_len l
    unfold qdq
    split <;> simp <;> omega
theorem qdq_rpl : ∀ l : List UInt8, Lib.replaceAll l [34] [34, 34] = qdq l
  | [] => rpl_nil (by decide) (by decide)
  | x :: l => by
    by_cases h : x = 34
    · subst h
      rw [rpl_hit (by decide) (by decide) (by simp)]
      show [34, 34] ++ Lib.replaceAll l [34] [34, 34] = _
      rw [qdq_rpl l]; simp [qdq]
    · rw [rpl_miss (by decide) (by decide) (by simp [List.isPrefixOf]; exact fun e => h e.symm), qdq_rpl l]
      simp [qdq, h]
def by8 (l : List UInt8) : List Value := l.map fun x => Value.int .u8 (x.toNat : Int)
theorem by8_len (l : List UInt8) : (by8 l).length = l.length := by simp [by8]
theorem by8_app (l m : List UInt8) : by8 (l ++ m) = by8 l ++ by8 m := by simp [by8]
theorem by8_one (l : List UInt8) : ∀ u ∈ by8 l, u.oneCell' = true := by
  intro u hu; simp only [by8, List.mem_map] at hu; obtain ⟨x, _, rfl⟩ := hu; rfl
/-- the slice holds these bytes, in memory of its own -/
def ownsB (w : World) (base : Nat) (v : Value) (l : List UInt8) : Prop := w.ownsRow base 5 1 v l.length (by8 l)
theorem ownsB_nil (w : World) (base : Nat) : ownsB w base (.slice none 0 0) [] := World.ownsRow_nil _ _ _ _
theorem ownsB.alloc {w : World} {base : Nat} {v : Value} {l : List UInt8} (h : ownsB w base v l) (o : Obj) : ownsB (w.alloc o) base v l := World.ownsRow.alloc h o
theorem own_ge {w : World} {base : Nat} {v : Value} {l : List UInt8} (h : ownsB w base v l) : ∀ g, v.ownBlock = some g → base ≤ g := by
  intro g hg
  rcases h.2 with ⟨rfl, _⟩ | ⟨g', cap, cur, rfl, hb, _⟩
  · simp [Value.ownBlock] at hg
  · simp [Value.ownBlock] at hg; omega
theorem below_own {w w' : World} {base : Nat} {row : Option Nat} (h : w.grownBy w' row) (hb : base ≤ w.heap.size) (hr : ∀ g, row = some g → base ≤ g) : Below base w w' :=
  ⟨h.os, h.tape, h.output, h.size, fun k hk => h.block k (Nat.lt_of_lt_of_le hk hb) (fun e => by have := hr k e.symm; omega)⟩
theorem u8Info : (Tryz.prog.info? 5).map (fun i => (i.zero, i.size, i.bytes)) = some (some (.int .u8 0), 1, 1) := by kernel_rfl
theorem u8Slice : Tryz.prog.underlying 40 = some (.slice 5) := by kernel_rfl

theorem app_b {ops : Array Oper} {rest : List Oper} {o : Oper} {a : Act} {w : World} {Q : Exit → Act → World → Prop} (hgd : o.guard = none) (s x : Operand)
    (ho : o.op = .call { callee := .builtin .append, args := #[s, x], argTypes := #[40, 40] })
    (base : Nat) (v : Value) (l news : List UInt8) (cs : Array Value) (hs : a.eval s = v) (hown : ownsB w base v l) (hcs : cs.toList = by8 news)
    (hx : a.eval x = .slice (some ⟨w.heap.size, 0, none⟩) news.length news.length) (hl : l.length + news.length ≤ 20000000000) (hb : base ≤ w.heap.size)
    (h : ∀ v' w', ownsB w' base v' (l ++ news) → Below base w w' → base ≤ w'.heap.size → wpList Tryz.prog ops Q rest (a.put o.dst v') w') :
    wpList Tryz.prog ops Q (o :: rest) a (w.alloc (.cells cs 5)) := by
  obtain ⟨i0, hi, hz0, hz1, hz2⟩ := info_parts u8Info
  refine wpList_append_own _ hgd s x 40 ho base 5 i0 (.int .u8 0) 1 1 u8Slice hi hz0 hz1 hz2 rfl (by decide) v l.length (by8 l) hs (hown.alloc _) ⟨w.heap.size, 0, none⟩ news.length news.length (by8 news) hx (by rw [by8_len]; omega) ?_ (by8_one _) (by unfold maxLen; omega) (by omega) (by simp; omega) ?_
  · intro j u hj
    have ea : (⟨w.heap.size, 0, none⟩ : Addr).add j = ⟨w.heap.size, j, none⟩ := by simp [Addr.add]; intro h; exact h.symm
    rw [ea, ← hj, ← hcs]
    simp only [World.cell?, heap_alloc_new]
    simp
  · intro v' w' h1 h2 _
    have e : ownsB w' base v' (l ++ news) := by
      show w'.ownsRow _ _ _ _ _ _
      rw [by8_app, List.length_append]; exact h1
    have hb2 : Below base (w.alloc (.cells cs 5)) w' := below_own h2 (by simp; omega) (own_ge hown)
    have hb1 : Below base w (w.alloc (.cells cs 5)) := (Below.refl _ w).alloc hb _
    exact h v' w' e (hb1.trans hb2) (Nat.le_trans hb (hb1.trans hb2).size)
theorem ownsB.below {w w' : World} {base : Nat} {v : Value} {l : List UInt8} (h : ownsB w base v l) (hb : Below w.heap.size w w') : ownsB w' base v l :=
  World.ownsRow.kept h (row := none) ⟨hb.os, hb.tape, hb.output, hb.size, fun k hk _ => hb.block k hk⟩ (by cases hv : v.ownBlock <;> simp)
theorem by8_get {l : List UInt8} {k : Nat} {x : UInt8} (h : l[k]? = some x) : (by8 l)[k]? = some (.int .u8 (x.toNat : Int)) := by
  simp [by8, h]
theorem strT : Tryz.prog.underlying 9 = some .string := by kernel_rfl
theorem u8T : Tryz.prog.underlying 5 = some (.int .u8) := by kernel_rfl
/-- bytes of one's own, as a text -/
theorem conv_own {w : World} {base : Nat} {v : Value} {l : List UInt8} (h : ownsB w base v l) : (convert 40 9 v).run Tryz.prog w = .ok (.string ⟨l.toArray⟩) w := by
  rcases h.2 with ⟨rfl, h0⟩ | ⟨g, cap, cur, rfl, _, hcur, _⟩
  · obtain rfl : l = [] := List.eq_nil_of_length_eq_zero h0
    rw [run_convert_bytes_string w 40 9 5 none 0 0 u8Slice u8T strT]
    rfl
  · refine run_convert_bytes_back (P := Tryz.prog) w 40 9 5 ⟨g, 0, none⟩ cap l u8Slice u8T strT (fun j hj => ?_)
    have ea : (⟨g, 0, none⟩ : Addr).add j = ⟨g, j, none⟩ := by simp [Addr.add]; intro h; exact h.symm
    rw [ea]
    have := World.ownsRow.cellAt h j (by omega)
    rw [this]; exact by8_get (List.getElem?_eq_getElem hj)


theorem own_one (W : World) (x : UInt8) : ownsB (W.alloc (.cells #[.int .u8 (x.toNat : Int)] 5)) W.heap.size (.slice (some ⟨W.heap.size, 0, none⟩) 1 1) [x] :=
  ⟨rfl, Or.inr ⟨W.heap.size, 1, #[.int .u8 (x.toNat : Int)], rfl, Nat.le_refl _, heap_alloc_new W _, Nat.le_refl _, by unfold maxLen; omega, rfl, rfl⟩⟩
set_option maxHeartbeats 4000000 in
set_option maxRecDepth 1000000 in
theorem Quoted34_any (l : List UInt8) (w : World) (hs : l.length ≤ 9000) :
    Calls Tryz.prog 26 #[.string ⟨l.toArray⟩, .int .u8 34] w fun e w' => e = .returned (.string ⟨(34 :: (qdq l ++ [34])).toArray⟩) ∧ Below w.heap.size w w' := by
  have hzl : (ByteArray.mk l.toArray).size = l.length := size_mk l
  have hli : (l.length : Int) ≤ 9000 := by omega
  have ON : Hid (ownsB (w.alloc (.cells #[.int .u8 34] 5)) w.heap.size (.slice (some ⟨w.heap.size, 0, none⟩) 1 1) [34]) := own_one w 34
  have HQ : Hid (34 :: (qdq l ++ [34]) = [34] ++ (qdq (l.drop 0) ++ [34])) := rfl
  generalize 34 :: (qdq l ++ [34]) = U at *
  go_enter Tryz.func26, Tryz.ntmps26
  go_wp2_with fail
  go_loopw [5, 6] (fun s4 s5 wr => ∃ (k : Nat) (T : List UInt8), s5 = .int .i64 k ∧ k ≤ l.length ∧ T.length ≤ 2 * k + 1 ∧ Hid (U = T ++ (qdq (l.drop k) ++ [34])) ∧ Hid (ownsB wr w.heap.size s4 T) ∧ Hid (Below w.heap.size w wr)) (fun _ s5 _ => l.length - (intOf s5).toNat)
  case atStart => exact ⟨0, [34], rfl, Nat.zero_le _, by simp, HQ, ON, (Below.refl _ w).alloc (Nat.le_refl _) _⟩
  case round =>
    obtain ⟨k, T, rfl, hk, hTk, hd, ho, hbr⟩ := hrel
    clear HQ ON
    have sb := hbr.out.size
    by_cases hlt : k < l.length
    · obtain ⟨x, hx⟩ : ∃ x, l[k]? = some x := ⟨l[k], List.getElem?_eq_getElem hlt⟩
      have hgx := get_mk hx
      have hlti : (k : Int) < (l.length : Int) := by omega
      have hd1 := hd.out
      rw [drop_at hx] at hd1
      have ho2 := ho.out
      by_cases hx34 : x = 34
      · subst hx34
        rw [qdq, if_pos rfl] at hd1
        have hd2 : Hid (U = (T ++ [34] ++ [34]) ++ (qdq (l.drop (k + 1)) ++ [34])) := by show _ = _; rw [hd1]; simp
        clear hd hd1 ho hx
        go_wp2_with (at_builtin; first | (refine app_b rfl (.tmp 15) (.tmp 19) rfl w.heap.size _ T [34] _ rfl ho2 rfl rfl (by simp only [List.length_cons, List.length_nil]; omega) sb ?_; intro v3 w3 ho3 hb3 hs3) | (refine app_b rfl (.tmp 26) (.tmp 28) rfl w.heap.size _ (T ++ [34]) [34] _ rfl ho3 rfl rfl (by simp only [List.length_cons, List.length_nil, List.length_append]; omega) hs3 ?_; intro v4 w4 ho4 hb4 hs4))
        go_roundw
        case rel => exact ⟨k + 1, T ++ [34] ++ [34], by go_num, hlt, by simp; omega, hd2, ho4, (hbr.out.trans hb3).trans hb4⟩
        case measure => simp [intOf]; omega
      · rw [qdq, if_neg hx34] at hd1
        have hd2 : Hid (U = (T ++ [x]) ++ (qdq (l.drop (k + 1)) ++ [34])) := by show _ = _; rw [hd1]; simp
        have hxi : ((x.toNat : Int) == 34) = false := by
          rw [beq_eq_false_iff_ne]; intro e; exact hx34 (UInt8.toNat_inj.1 (by show x.toNat = 34; omega))
        clear hd hd1 ho hx
        go_wp2_with (at_builtin; refine app_b rfl (.tmp 15) (.tmp 19) rfl w.heap.size _ T [x] _ rfl ho2 rfl rfl (by simp only [List.length_cons, List.length_nil]; omega) sb ?_; intro v3 w3 ho3 hb3 hs3)
        go_roundw
        case rel => exact ⟨k + 1, T ++ [x], by go_num, hlt, by simp; omega, hd2, ho3, hbr.out.trans hb3⟩
        case measure => simp [intOf]; omega
    · have hk0 : k = l.length := by omega
      have hlti : ¬ (k : Int) < (l.length : Int) := by omega
      have hd1 := hd.out
      rw [List.drop_eq_nil_of_le (by omega)] at hd1
      have hd2 : U = T ++ [34] := hd1
      have ho2 := ho.out
      subst hd2
      clear hd hd1 ho
      go_wp2_with (at_builtin; refine app_b rfl (.tmp 30) (.tmp 32) rfl w.heap.size _ T [34] _ rfl ho2 rfl rfl (by simp only [List.length_cons, List.length_nil]; omega) sb ?_; intro v3 w3 ho3 hb3 hs3; have cv := conv_own ho3)
      go_ret
      exact ⟨rfl, hbr.out.trans hb3⟩

set_option maxHeartbeats 2000000 in
set_option maxRecDepth 1000000 in
theorem inQuotes_any (l : List UInt8) (w : World) (hs : l.length ≤ 32) (hM : Mx w) :
    Calls Tryz.prog 24 #[.string ⟨l.toArray⟩] w fun e w' => e = .returned (.string ⟨(34 :: (qdq l ++ [34])).toArray⟩) ∧ Below w.heap.size w w' := by
  have RA : Hid (∀ w, Mx w → Calls Tryz.prog 42 #[.string ⟨l.toArray⟩, .string ⟨#[34]⟩, .string ⟨#[34, 34]⟩] w fun e w' => e = .returned (.string ⟨(qdq l).toArray⟩) ∧ Below w.heap.size w w') := fun w hM => by
    have h := ReplaceAll_any ⟨l.toArray⟩ ⟨#[34]⟩ ⟨#[34, 34]⟩ w hM (by rw [size_mk]; omega) (by decide) (by decide)
    have e : Lib.replaceAll (ByteArray.mk l.toArray).data.toList (ByteArray.mk #[34]).data.toList (ByteArray.mk #[34, 34]).data.toList = qdq l := by
      show Lib.replaceAll l.toArray.toList [34] [34, 34] = _
      rw [List.toList_toArray, qdq_rpl]
    rw [e] at h
    exact h
  have HM : Hid (Mx w) := hM
  have hl := qdq_len l
  have e1 : (⟨#[34]⟩ : ByteArray) ++ ⟨(qdq l).toArray⟩ = ⟨(34 :: qdq l).toArray⟩ := add_mk [34] (qdq l)
  have e2 : (⟨(34 :: qdq l).toArray⟩ : ByteArray) ++ ⟨#[34]⟩ = ⟨(34 :: (qdq l ++ [34])).toArray⟩ := by
    have := add_mk (34 :: qdq l) [34]
    exact this
  have n1 : 1 + (qdq l).length ≤ 9223372036854775807 := by omega
  have n2 : (34 :: qdq l).length + 1 ≤ 9223372036854775807 := by simp; omega
  have z1 : (ByteArray.mk (qdq l).toArray).size = (qdq l).length := size_mk _
  generalize hU : (34 :: (qdq l ++ [34]) : List UInt8) = U at *
  generalize hV : (34 :: qdq l : List UInt8) = V at *
  have z2 : (ByteArray.mk V.toArray).size = V.length := size_mk _
  generalize qdq l = Q at *
  clear hU hV hM
  go_enter Tryz.func24, Tryz.ntmps24
  go_wp2_with fail
  refine (RA.out _ HM.out).mono ?_
  rintro e w1 ⟨rfl, hb1⟩
  clear RA
  go_wp2_with fail
  go_ret
  exact ⟨rfl, hb1⟩
end Go.Proofs.YtfcolecglobcdaaGreatDoor
namespace Go.Proofs.YtfcolecglobcdaaGreatDoor
open Go.RowKit Go.Shelf

/-! ### Words that need no quotes -/
def okc (x : UInt8) : Bool := (isL x || isD x) && !decide (65 ≤ x.toNat ∧ x.toNat ≤ 90)
def rpB (l : List UInt8) : Bool := decide (1 ≤ l.length) && decide (l.length ≤ 32) && !(match l with | [] => false | x :: _ => isD x) && l.all okc
theorem wtl_all : ∀ r : List UInt8, wtl r = r.length ↔ r.all (fun x => isL x || isD x) = true
  | [] => by simp [wtl]
  | x :: r => by
    have ih := wtl_all r
    have hl := wtl_le r
    rw [wtl]
    by_cases h : (isL x || isD x) = true
    · rw [if_pos h]
      simp only [List.length_cons, List.all_cons, h, Bool.true_and, ← ih]
      omega
    · rw [if_neg h]
      simp only [List.length_cons, List.all_cons]
      constructor
      · intro e; omega
      · intro e
        rw [Bool.and_eq_true] at e
        exact absurd e.1 h
theorem low_same (x : UInt8) : Lib.lowerB x = x ↔ ¬ (65 ≤ x.toNat ∧ x.toNat ≤ 90) := by
  unfold Lib.lowerB
  have hu : Lib.isUpperB x = true ↔ (65 ≤ x.toNat ∧ x.toNat ≤ 90) := by
    simp [Lib.isUpperB, UInt8.le_iff_toNat_le]
  by_cases h : Lib.isUpperB x = true
  · rw [if_pos h]
    constructor
    · intro e
      have h1 := congrArg UInt8.toNat e
      have h2 := hu.1 h
      rw [UInt8.toNat_add] at h1
      simp at h1
      omega
    · intro e; exact absurd (hu.1 h) e
  · rw [if_neg h]
    exact ⟨fun _ e => h (hu.2 e), fun _ => rfl⟩
theorem low_all : ∀ l : List UInt8, (Lib.toLowerA l == l) = l.all (fun x => !decide (65 ≤ x.toNat ∧ x.toNat ≤ 90))
  | [] => rfl
  | x :: l => by
    have ih := low_all l
    unfold Lib.toLowerA at ih ⊢
    rw [List.map_cons, List.all_cons, ← ih]
    by_cases h : Lib.lowerB x = x
    · rw [h, decide_eq_false (low_same x |>.1 h)]
      simp
    · have h2 : 65 ≤ x.toNat ∧ x.toNat ≤ 90 := by
        rcases Decidable.em (65 ≤ x.toNat ∧ x.toNat ≤ 90) with e | e
        · exact e
        · exact absurd ((low_same x).2 e) h
      rw [decide_eq_true h2]
      simp only [Bool.not_true, Bool.false_and]
      rw [beq_eq_false_iff_ne]
      intro e
      exact h (List.cons.inj e).1
theorem bad_ascii : ∀ (f k : Nat) (l : List UInt8), (∀ b ∈ l, 0 < b.toNat ∧ b.toNat < 128) → badF f k l = -1
  | 0, _, _, _ => rfl
  | f + 1, k, [], _ => by simp [badF]
  | f + 1, k, x :: l, h => by
    have hx := h x (by simp)
    rw [badF, if_neg (by simp), Lib.decodeL_ascii x l hx.2]
    have hb : badHere (x :: l) = false := by
      unfold badHere
      rw [Lib.decodeL_ascii x l hx.2, decide_eq_false (by show ¬ x.toNat = 0; omega), decide_eq_false (by show ¬ x.toNat = 65533; omega)]
      rfl
    rw [hb, if_neg (by decide)]
    exact bad_ascii f (k + 1) l (fun b hb => h b (List.mem_cons_of_mem _ hb))
theorem okc_ascii {x : UInt8} (h : okc x = true) : 0 < x.toNat ∧ x.toNat < 128 := by
  unfold okc at h
  rw [Bool.and_eq_true] at h
  have h1 := h.1
  simp only [isL, isD, Bool.or_eq_true, decide_eq_true_eq] at h1
  omega
theorem pl_eq (l : List UInt8) : plB l = rpB l := by
  rcases l with _ | ⟨x, r⟩
  · rfl
  rw [Bool.eq_iff_iff]
  have hall : (x :: r).all okc = true ↔ ((x :: r).all (fun x => isL x || isD x) = true ∧ (x :: r).all (fun x => !decide (65 ≤ x.toNat ∧ x.toNat ≤ 90)) = true) := by
    simp only [List.all_eq_true, okc, Bool.and_eq_true]
    exact ⟨fun h => ⟨fun y hy => (h y hy).1, fun y hy => (h y hy).2⟩, fun h y hy => ⟨h.1 y hy, h.2 y hy⟩⟩
  unfold plB rpB nmB
  simp only [Bool.and_eq_true, decide_eq_true_eq, low_all, hall, Bool.not_eq_true']
  constructor
  · rintro ⟨⟨⟨⟨_, h32⟩, _⟩, hw⟩, hlow⟩
    have hx : isL x = true := by
      by_cases hx : isL x = true
      · exact hx
      · rw [wsz, if_neg hx] at hw; simp at hw
    rw [wsz, if_pos hx] at hw
    have hr : wtl r = r.length := by simp at hw; exact hw
    refine ⟨⟨⟨by simp, h32⟩, ?_⟩, ?_, hlow⟩
    · simp only [isL, decide_eq_true_eq] at hx
      simp only [isD, decide_eq_false_iff_not]
      omega
    · rw [List.all_cons, hx, (wtl_all r).1 hr]; rfl
  · rintro ⟨⟨⟨_, h32⟩, hd⟩, hch, hlow⟩
    have hx : isL x = true := by
      have := List.all_eq_true.1 hch x (by simp)
      rw [hd] at this
      simpa using this
    have hr : wtl r = r.length := (wtl_all r).2 (by rw [List.all_cons, Bool.and_eq_true] at hch; exact hch.2)
    have hbad : badA (x :: r) = -1 := bad_ascii _ _ _ (fun b hb => okc_ascii (by
      unfold okc
      rw [List.all_eq_true.1 hch b hb, List.all_eq_true.1 hlow b hb]; rfl))
    exact ⟨⟨⟨⟨by simp, h32⟩, by rw [hbad]; decide⟩, by rw [wsz, if_pos hx, hr]; rfl⟩, hlow⟩
/-! ### SQL's own words -/
def wordsL : List (List UInt8) := [[97, 98, 111, 114, 116], [97, 110, 100], [97, 115], [97, 115, 99], [97, 118, 103], [98, 101, 103, 105, 110], [98, 105, 103, 105, 110, 116], [98, 111, 111, 108, 101, 97, 110], [98, 121], [99, 97, 115, 101], [99, 97, 115, 116], [99, 111, 97, 108, 101, 115, 99, 101], [99, 111, 117, 110, 116], [99, 114, 101, 97, 116, 101], [100, 101, 99, 105, 109, 97, 108], [100, 101, 108, 101, 116, 101], [100, 101, 115, 99], [100, 105, 115, 116, 105, 110, 99, 116], [101, 108, 115, 101], [101, 110, 100], [102, 97, 108, 115, 101], [102, 114, 111, 109], [103, 114, 111, 117, 112], [104, 97, 118, 105, 110, 103], [105, 102], [105, 110], [105, 110, 100, 101, 120], [105, 110, 115, 101, 114, 116], [105, 110, 116, 111], [105, 115], [106, 111, 105, 110], [107, 101, 121], [108, 101, 110, 103, 116, 104], [108, 101, 116], [108, 105, 107, 101], [108, 105, 109, 105, 116], [109, 97, 120], [109, 105, 110], [110, 111, 116], [110, 117, 108, 108], [111, 110], [111, 114], [111, 114, 100, 101, 114], [112, 97, 114, 116, 105, 116, 105, 111, 110], [112, 114, 105, 109, 97, 114, 121], [112, 114, 111, 99, 101, 100, 117, 114, 101], [115, 101, 108, 101, 99, 116], [115, 101, 116], [115, 117, 98, 115, 116, 114], [115, 117, 109], [116, 97, 98, 108, 101], [116, 104, 101, 110], [116, 114, 117, 101], [117, 110, 105, 113, 117, 101], [117, 112, 100, 97, 116, 101], [118, 97, 108, 117, 101, 115], [118, 97, 114, 99, 104, 97, 114], [119, 104, 101, 110], [119, 104, 101, 114, 101]]
def ownW : List UInt8 := [32, 97, 98, 111, 114, 116, 32, 97, 110, 100, 32, 97, 115, 32, 97, 115, 99, 32, 97, 118, 103, 32, 98, 101, 103, 105, 110, 32, 98, 105, 103, 105, 110, 116, 32, 98, 111, 111, 108, 101, 97, 110, 32, 98, 121, 32, 99, 97, 115, 101, 32, 99, 97, 115, 116, 32, 99, 111, 97, 108, 101, 115, 99, 101, 32, 99, 111, 117, 110, 116, 32, 99, 114, 101, 97, 116, 101, 32, 100, 101, 99, 105, 109, 97, 108, 32, 100, 101, 108, 101, 116, 101, 32, 100, 101, 115, 99, 32, 100, 105, 115, 116, 105, 110, 99, 116, 32, 101, 108, 115, 101, 32, 101, 110, 100, 32, 102, 97, 108, 115, 101, 32, 102, 114, 111, 109, 32, 103, 114, 111, 117, 112, 32, 104, 97, 118, 105, 110, 103, 32, 105, 102, 32, 105, 110, 32, 105, 110, 100, 101, 120, 32, 105, 110, 115, 101, 114, 116, 32, 105, 110, 116, 111, 32, 105, 115, 32, 106, 111, 105, 110, 32, 107, 101, 121, 32, 108, 101, 110, 103, 116, 104, 32, 108, 101, 116, 32, 108, 105, 107, 101, 32, 108, 105, 109, 105, 116, 32, 109, 97, 120, 32, 109, 105, 110, 32, 110, 111, 116, 32, 110, 117, 108, 108, 32, 111, 110, 32, 111, 114, 32, 111, 114, 100, 101, 114, 32, 112, 97, 114, 116, 105, 116, 105, 111, 110, 32, 112, 114, 105, 109, 97, 114, 121, 32, 112, 114, 111, 99, 101, 100, 117, 114, 101, 32, 115, 101, 108, 101, 99, 116, 32, 115, 101, 116, 32, 115, 117, 98, 115, 116, 114, 32, 115, 117, 109, 32, 116, 97, 98, 108, 101, 32, 116, 104, 101, 110, 32, 116, 114, 117, 101, 32, 117, 110, 105, 113, 117, 101, 32, 117, 112, 100, 97, 116, 101, 32, 118, 97, 108, 117, 101, 115, 32, 118, 97, 114, 99, 104, 97, 114, 32, 119, 104, 101, 110, 32, 119, 104, 101, 114, 101, 32]
def cat : List (List UInt8) → List UInt8
  | [] => []
  | v :: ws => v ++ 32 :: cat ws
theorem ownW_cat : ownW = 32 :: cat wordsL := by kernel_rfl
theorem index_cons (b : UInt8) (l sub : List UInt8) : 0 ≤ Lib.index (b :: l) sub ↔ (sub.isPrefixOf (b :: l) = true ∨ 0 ≤ Lib.index l sub) := by
  rw [Lib.index]
  by_cases h : sub.isPrefixOf (b :: l) = true
  · rw [if_pos h]; simp [h]
  · rw [if_neg h]
    have hg := Lib.index_ge l sub
    by_cases hm : Lib.index l sub = -1
    · rw [if_pos (by simpa using hm), hm]
      constructor
      · intro e; exact absurd e (by decide)
      · rintro (e | e)
        · exact absurd e h
        · exact absurd e (by decide)
    · rw [if_neg (by simpa using hm)]
      constructor
      · intro e; right; omega
      · rintro (e | e)
        · exact absurd e h
        · omega
theorem index_skip (sub : List UInt8) : ∀ (v s : List UInt8), (32 : UInt8) ∉ v → (0 ≤ Lib.index (v ++ s) (32 :: sub) ↔ 0 ≤ Lib.index s (32 :: sub))
  | [], s, _ => Iff.rfl
  | x :: v, s, h => by
    have hx : ((32 : UInt8) == x) = false := by rw [beq_eq_false_iff_ne]; intro e; subst e; simp at h
    have hv : (32 : UInt8) ∉ v := fun e => h (List.mem_cons_of_mem _ e)
    rw [List.cons_append, index_cons, index_skip sub v s hv]
    simp [List.isPrefixOf, hx]
theorem pre_word : ∀ (a b c : List UInt8), (32 : UInt8) ∉ a → (32 : UInt8) ∉ b → ((a ++ [32]).isPrefixOf (b ++ 32 :: c) = true ↔ a = b)
  | [], [], c, _, _ => by simp [List.isPrefixOf]
  | [], y :: b, c, _, h => by
    have hy : ((32 : UInt8) == y) = false := by rw [beq_eq_false_iff_ne]; intro e; subst e; simp at h
    simp [List.isPrefixOf, hy]
  | x :: a, [], c, h, _ => by
    have hx : (x == (32 : UInt8)) = false := by rw [beq_eq_false_iff_ne]; intro e; subst e; simp at h
    simp [List.isPrefixOf, hx]
  | x :: a, y :: b, c, h, k => by
    have ih := pre_word a b c (fun e => h (List.mem_cons_of_mem _ e)) (fun e => k (List.mem_cons_of_mem _ e))
    simp only [List.cons_append, List.isPrefixOf, Bool.and_eq_true, beq_iff_eq, ih, List.cons.injEq]
theorem cat_has (a : List UInt8) (ha : (32 : UInt8) ∉ a) : ∀ ws : List (List UInt8), (∀ v ∈ ws, (32 : UInt8) ∉ v) → (0 ≤ Lib.index (32 :: cat ws) (32 :: (a ++ [32])) ↔ a ∈ ws)
  | [], _ => by
    have h : ([32] : List UInt8).length < (32 :: (a ++ [32]) : List UInt8).length := by simp
    have hn : ¬ 0 ≤ Lib.index ([32] : List UInt8) (32 :: (a ++ [32])) := by
      intro e
      have := Lib.index_room [32] (32 :: (a ++ [32])) e
      simp at this
      omega
    simpa [cat] using hn
  | v :: ws, hv => by
    have h1 : (32 : UInt8) ∉ v := hv v (by simp)
    have ih := cat_has a ha ws (fun u hu => hv u (List.mem_cons_of_mem _ hu))
    rw [cat, index_cons, index_skip (a ++ [32]) v (32 :: cat ws) h1, ih]
    have hp : (32 :: (a ++ [32]) : List UInt8).isPrefixOf (32 :: (v ++ 32 :: cat ws)) = true ↔ a = v := by
      rw [← pre_word a v (cat ws) ha h1]
      simp [List.isPrefixOf]
    rw [hp, List.mem_cons]
set_option maxRecDepth 100000 in
theorem words_none : ∀ v ∈ wordsL, (32 : UInt8) ∉ v := by decide
theorem own_eq (a : List UInt8) (ha : (32 : UInt8) ∉ a) : Lib.contains ownW (32 :: (a ++ [32])) = wordsL.contains a := by
  unfold Lib.contains
  rw [ownW_cat, Bool.eq_iff_iff, decide_eq_true_eq, cat_has a ha wordsL words_none, List.contains_iff_mem]
end Go.Proofs.YtfcolecglobcdaaGreatDoor
namespace Go.Proofs.YtfcolecglobcdaaGreatDoor
open Go.RowKit Go.Shelf

def ownB (l : List UInt8) : Bool := wordsL.contains l
theorem all_next {l : List UInt8} {k : Nat} {x : UInt8} (h : l[k]? = some x) : (l.take (k + 1)).all okc = ((l.take k).all okc && okc x) := by
  rw [List.take_add_one, h, List.all_append]
  simp
theorem all_bad {l : List UInt8} {k : Nat} {x : UInt8} (h : l[k]? = some x) (hx : okc x = false) : l.all okc = false := by
  rw [List.all_eq_false]
  exact ⟨x, List.mem_of_getElem? h, by simp [hx]⟩
set_option maxHeartbeats 2000000 in
set_option maxRecDepth 1000000 in
theorem refPlain_any (l : List UInt8) (w : World) : Calls Tryz.prog 13 #[.string ⟨l.toArray⟩] w fun e w' => e = .returned (.bool (rpB l)) ∧ Below w.heap.size w w' := by
  have hzl : (ByteArray.mk l.toArray).size = l.length := size_mk l
  by_cases h0 : l.length < 1
  · have i0 : (l.length : Int) < 1 := by omega
    have HE : Hid (rpB l = false) := by show _ = _; unfold rpB; rw [decide_eq_false (by omega : ¬ 1 ≤ l.length)]; rfl
    clear h0
    go_enter Tryz.func13, Tryz.ntmps13
    go_wp2_with fail
    rw [HE.out]
    go_ret
    exact ⟨rfl, Below.refl _ _⟩
  have i0 : ¬ (l.length : Int) < 1 := by omega
  by_cases h1 : 32 < l.length
  · have i1 : (32 : Int) < (l.length : Int) := by omega
    have HE : Hid (rpB l = false) := by show _ = _; unfold rpB; rw [decide_eq_false (by omega : ¬ l.length ≤ 32)]; simp
    clear h0 h1
    go_enter Tryz.func13, Tryz.ntmps13
    go_wp2_with fail
    rw [HE.out]
    go_ret
    exact ⟨rfl, Below.refl _ _⟩
  have i1 : ¬ (32 : Int) < (l.length : Int) := by omega
  obtain ⟨y, hy⟩ : ∃ y, l[0]? = some y := ⟨l[0]'(by omega), List.getElem?_eq_getElem _⟩
  have hgy := get_mk hy
  have i2 : (0 : Int) < (l.length : Int) := by omega
  have hrp : rpB l = (!isD y && l.all okc) := by
    unfold rpB
    rw [decide_eq_true (by omega : 1 ≤ l.length), decide_eq_true (by omega : l.length ≤ 32)]
    rcases l with _ | ⟨z, r⟩
    · simp at hy
    · simp at hy; subst hy; simp
  cases hd : isD y with
  | true =>
    have HE : Hid (rpB l = false) := by show _ = _; rw [hrp, hd]; rfl
    have D0 : Hid (∀ w, Calls Tryz.prog 30 #[.int .u8 (y.toNat : Int)] w fun e w' => e = .returned (.bool true) ∧ w' = w) := fun w => hd ▸ refDigit_any y w
    clear h0 h1 hrp hd hy
    go_enter Tryz.func13, Tryz.ntmps13
    go_wp2_with fail
    refine (D0.out _).mono ?_
    rintro e w1 ⟨rfl, hwx⟩
    have hwy := hwx.symm
    subst hwy
    clear D0 hwx
    go_wp2_with fail
    rw [HE.out]
    go_ret
    exact ⟨rfl, Below.refl _ _⟩
  | false =>
    have HR : Hid (rpB l = l.all okc) := by show _ = _; rw [hrp, hd]; rfl
    have D0 : Hid (∀ w, Calls Tryz.prog 30 #[.int .u8 (y.toNat : Int)] w fun e w' => e = .returned (.bool false) ∧ w' = w) := fun w => hd ▸ refDigit_any y w
    have IL : Hid (∀ (x : UInt8) w, Calls Tryz.prog 31 #[.int .u8 (x.toNat : Int)] w fun e w' => e = .returned (.bool (isL x)) ∧ w' = w) := refLetter_any
    have ID : Hid (∀ (x : UInt8) w, Calls Tryz.prog 30 #[.int .u8 (x.toNat : Int)] w fun e w' => e = .returned (.bool (isD x)) ∧ w' = w) := refDigit_any
    clear h0 hrp hd hy
    go_enter Tryz.func13, Tryz.ntmps13
    go_wp2_with fail
    refine (D0.out _).mono ?_
    rintro e w1 ⟨rfl, hwx⟩
    have hwy := hwx.symm
    subst hwy
    clear D0 hwx
    go_wp2_with fail
    clear hgy
    go_loopw [3] (fun s3 wr => ∃ (k : Nat), s3 = .int .i64 (k : Nat) ∧ k ≤ l.length ∧ Hid ((l.take k).all okc = true) ∧ wr = w) (fun s3 _ => l.length - (intOf s3).toNat)
    case atStart => exact ⟨0, rfl, by omega, rfl, rfl⟩
    case round =>
      obtain ⟨k, rfl, hk, ha, rfl⟩ := hrel
      by_cases hlt : k < l.length
      · have hlti : (k : Int) < (l.length : Int) := by omega
        obtain ⟨x, hx⟩ : ∃ x, l[k]? = some x := ⟨l[k]'hlt, List.getElem?_eq_getElem _⟩
        have hgx := get_mk hx
        have nxt := all_next hx
        have bad := @all_bad l k x hx
        have hok : okc x = ((isL x || isD x) && !decide (65 ≤ x.toNat ∧ x.toNat ≤ 90)) := rfl
        have I1 : Hid (∀ w, Calls Tryz.prog 31 #[.int .u8 (x.toNat : Int)] w fun e w' => e = .returned (.bool (isL x)) ∧ w' = w) := IL.out x
        have I2 : Hid (∀ w, Calls Tryz.prog 30 #[.int .u8 (x.toNat : Int)] w fun e w' => e = .returned (.bool (isD x)) ∧ w' = w) := ID.out x
        by_cases hu : 65 ≤ x.toNat
        · have u1 : (65 : Int) ≤ (x.toNat : Int) := by omega
          by_cases hv : x.toNat ≤ 90
          · have u2 : (x.toNat : Int) ≤ 90 := by omega
            have HE : Hid (rpB l = false) := by show _ = _; rw [HR.out]; exact bad (by rw [hok, decide_eq_true ⟨hu, hv⟩]; simp)
            have hLx : isL x = true := by simp only [isL, decide_eq_true_eq]; omega
            rw [hLx] at I1
            clear nxt bad hok hx IL ID HR ha hLx I2
            go_wp2_with fail
            refine (I1.out _).mono ?_
            rintro e w1 ⟨rfl, hwx⟩
            have hwy := hwx.symm
            subst hwy
            clear I1 hwx
            go_wp2_with fail
            rw [HE.out]
            go_ret
            exact ⟨rfl, Below.refl _ _⟩
          · have u2 : ¬ (x.toNat : Int) ≤ 90 := by omega
            have hnu : decide (65 ≤ x.toNat ∧ x.toNat ≤ 90) = false := decide_eq_false (by omega)
            rw [hnu, Bool.not_false, Bool.and_true] at hok
            clear hnu
            cases hL : isL x with
            | true =>
              rw [hL, Bool.true_or] at hok
              rw [hL] at I1
              have ha2 : Hid ((l.take (k + 1)).all okc = true) := by show _ = _; rw [nxt, ha.out, hok]; rfl
              clear nxt bad hok hx IL ID HR ha hL I2
              go_wp2_with fail
              refine (I1.out _).mono ?_
              rintro e w1 ⟨rfl, hwx⟩
              have hwy := hwx.symm
              subst hwy
              clear I1 hwx
              go_wp2_with fail
              go_roundw
              case rel => exact ⟨k + 1, by go_num, hlt, ha2, by trivial⟩
              case measure => simp [intOf]; omega
            | false =>
              rw [hL, Bool.false_or] at hok
              rw [hL] at I1
              cases hD : isD x with
              | true =>
                rw [hD] at hok I2
                have ha2 : Hid ((l.take (k + 1)).all okc = true) := by show _ = _; rw [nxt, ha.out, hok]; rfl
                clear nxt bad hok hx IL ID HR ha hL hD
                go_wp2_with fail
                refine (I1.out _).mono ?_
                rintro e w1 ⟨rfl, hwx⟩
                have hwy := hwx.symm
                subst hwy
                clear I1 hwx
                go_wp2_with fail
                refine (I2.out _).mono ?_
                rintro e w2 ⟨rfl, hwx⟩
                have hwy := hwx.symm
                subst hwy
                clear I2 hwx
                go_wp2_with fail
                go_roundw
                case rel => exact ⟨k + 1, by go_num, hlt, ha2, by trivial⟩
                case measure => simp [intOf]; omega
              | false =>
                rw [hD] at hok I2
                have HE : Hid (rpB l = false) := by show _ = _; rw [HR.out]; exact bad hok
                clear nxt bad hok hx IL ID HR ha hL hD
                go_wp2_with fail
                refine (I1.out _).mono ?_
                rintro e w1 ⟨rfl, hwx⟩
                have hwy := hwx.symm
                subst hwy
                clear I1 hwx
                go_wp2_with fail
                refine (I2.out _).mono ?_
                rintro e w2 ⟨rfl, hwx⟩
                have hwy := hwx.symm
                subst hwy
                clear I2 hwx
                go_wp2_with fail
                rw [HE.out]
                go_ret
                exact ⟨rfl, Below.refl _ _⟩
        · have u1 : ¬ (65 : Int) ≤ (x.toNat : Int) := by omega
          have hnu : decide (65 ≤ x.toNat ∧ x.toNat ≤ 90) = false := decide_eq_false (by omega)
          rw [hnu, Bool.not_false, Bool.and_true] at hok
          clear hnu
          cases hL : isL x with
          | true =>
            rw [hL, Bool.true_or] at hok
            rw [hL] at I1
            have ha2 : Hid ((l.take (k + 1)).all okc = true) := by show _ = _; rw [nxt, ha.out, hok]; rfl
            clear nxt bad hok hx IL ID HR ha hL I2
            go_wp2_with fail
            refine (I1.out _).mono ?_
            rintro e w1 ⟨rfl, hwx⟩
            have hwy := hwx.symm
            subst hwy
            clear I1 hwx
            go_wp2_with fail
            go_roundw
            case rel => exact ⟨k + 1, by go_num, hlt, ha2, by trivial⟩
            case measure => simp [intOf]; omega
          | false =>
            rw [hL, Bool.false_or] at hok
            rw [hL] at I1
            cases hD : isD x with
            | true =>
              rw [hD] at hok I2
              have ha2 : Hid ((l.take (k + 1)).all okc = true) := by show _ = _; rw [nxt, ha.out, hok]; rfl
              clear nxt bad hok hx IL ID HR ha hL hD
              go_wp2_with fail
              refine (I1.out _).mono ?_
              rintro e w1 ⟨rfl, hwx⟩
              have hwy := hwx.symm
              subst hwy
              clear I1 hwx
              go_wp2_with fail
              refine (I2.out _).mono ?_
              rintro e w2 ⟨rfl, hwx⟩
              have hwy := hwx.symm
              subst hwy
              clear I2 hwx
              go_wp2_with fail
              go_roundw
              case rel => exact ⟨k + 1, by go_num, hlt, ha2, by trivial⟩
              case measure => simp [intOf]; omega
            | false =>
              rw [hD] at hok I2
              have HE : Hid (rpB l = false) := by show _ = _; rw [HR.out]; exact bad hok
              clear nxt bad hok hx IL ID HR ha hL hD
              go_wp2_with fail
              refine (I1.out _).mono ?_
              rintro e w1 ⟨rfl, hwx⟩
              have hwy := hwx.symm
              subst hwy
              clear I1 hwx
              go_wp2_with fail
              refine (I2.out _).mono ?_
              rintro e w2 ⟨rfl, hwx⟩
              have hwy := hwx.symm
              subst hwy
              clear I2 hwx
              go_wp2_with fail
              rw [HE.out]
              go_ret
              exact ⟨rfl, Below.refl _ _⟩
      · have hlti : ¬ (k : Int) < (l.length : Int) := by omega
        have HE : Hid (rpB l = true) := by
          show _ = _
          have h := ha.out
          rw [List.take_of_length_le (by omega)] at h
          rw [HR.out, h]
        clear IL ID HR ha
        go_wp2_with fail
        rw [HE.out]
        go_ret
        exact ⟨rfl, Below.refl _ _⟩
set_option maxHeartbeats 2000000 in
set_option maxRecDepth 1000000 in
theorem Words_any (w : World) : Calls Tryz.prog 43 #[] w fun e w' => e = .returned (.slice (some ⟨w.heap.size, 0, none⟩) 59 59) ∧ w' = w.alloc (.cells (wordsL.map fun v => Value.string ⟨v.toArray⟩).toArray 9) := by
  go_enter Tryz.func43, Tryz.ntmps43
  go_wp2_with fail
  go_ret
  exact ⟨rfl, rfl⟩
set_option maxHeartbeats 2000000 in
set_option maxRecDepth 1000000 in
theorem Own_any (l : List UInt8) (w : World) : Calls Tryz.prog 25 #[.string ⟨l.toArray⟩] w fun e w' => e = .returned (.bool (ownB l)) ∧ Below w.heap.size w w' := by
  have WO : Hid (∀ w, Calls Tryz.prog 43 #[] w fun e w' => e = .returned (.slice (some ⟨w.heap.size, 0, none⟩) 59 59) ∧ w' = w.alloc (.cells (wordsL.map fun v => Value.string ⟨v.toArray⟩).toArray 9)) := Words_any
  have hcell : ∀ (i : Nat) (v : List UInt8), wordsL[i]? = some v → (w.alloc (.cells (wordsL.map fun v => Value.string ⟨v.toArray⟩).toArray 9)).cell? ⟨w.heap.size, i, none⟩ = some (.string ⟨v.toArray⟩) := fun i v hv => by
    rw [Joins.cell_of_block (heap_alloc_new w _) i]
    simp [hv]
  have hlen : wordsL.length = 59 := by decide
  have b0 : Below w.heap.size w (w.alloc (.cells (wordsL.map fun v => Value.string ⟨v.toArray⟩).toArray 9)) := (Below.refl _ w).alloc (Nat.le_refl _) _
  go_enter Tryz.func25, Tryz.ntmps25
  go_wp2_with fail
  refine (WO.out _).mono ?_
  rintro e w1 ⟨rfl, hw1⟩
  rw [← hw1] at hcell b0
  clear WO hw1
  go_wp2_with fail
  go_loopw [4] (fun s4 wr => ∃ (k : Nat), s4 = .int .i64 (k : Nat) ∧ k ≤ 59 ∧ Hid (∀ j v, j < k → wordsL[j]? = some v → v ≠ l) ∧ wr = w1) (fun s4 _ => 59 - (intOf s4).toNat)
  case atStart => exact ⟨0, rfl, by omega, fun j v h => by omega, rfl⟩
  case round =>
    obtain ⟨k, rfl, hk, ha, rfl⟩ := hrel
    by_cases hlt : k < 59
    · have hlti : (k : Int) < 59 := by omega
      obtain ⟨v, hv⟩ : ∃ v, wordsL[k]? = some v := ⟨wordsL[k]'(by rw [hlen]; exact hlt), List.getElem?_eq_getElem _⟩
      have hc := hcell k v hv
      by_cases hvl : v = l
      · have hb : (v == l) = true := by rw [hvl]; simp
        have HE : Hid (ownB l = true) := by show wordsL.contains l = true; rw [List.contains_iff_mem, ← hvl]; exact List.mem_of_getElem? hv
        clear hcell hv ha hvl hlen
        go_wp2_with fail
        rw [HE.out]
        go_ret
        exact ⟨rfl, b0⟩
      · have hb : (v == l) = false := by rw [beq_eq_false_iff_ne]; exact hvl
        have ha2 : Hid (∀ j v, j < k + 1 → wordsL[j]? = some v → v ≠ l) := fun j u hj hu => by
          by_cases e : j = k
          · subst e; rw [hv] at hu; cases hu; exact hvl
          · exact ha.out j u (by omega) hu
        clear hcell hv ha hvl hlen
        go_wp2_with fail
        go_roundw
        case rel => exact ⟨k + 1, by go_num, hlt, ha2, by trivial⟩
        case measure => simp [intOf]; omega
    · have hlti : ¬ (k : Int) < 59 := by omega
      have HE : Hid (ownB l = false) := by
        show wordsL.contains l = false
        rw [Bool.eq_false_iff]
        intro h
        rw [List.contains_iff_mem] at h
        obtain ⟨j, hj⟩ := List.getElem?_of_mem h
        have hj2 := (List.getElem?_eq_some_iff.1 hj).1
        rw [hlen] at hj2
        exact ha.out j l (by omega) hj rfl
      clear hcell ha hlen
      go_wp2_with fail
      rw [HE.out]
      go_ret
      exact ⟨rfl, b0⟩
end Go.Proofs.YtfcolecglobcdaaGreatDoor
namespace Go.Proofs.YtfcolecglobcdaaGreatDoor
open Go.RowKit Go.Shelf

/-- a name as it is written, and what is wrong -/
def qoS (l : List UInt8) : List UInt8 := if nmB l = false then [] else if plB l = true ∧ ownB l = false then l else 34 :: (qdq l ++ [34])
def qoE (l : List UInt8) : Int := if nmB l = false then 6 else 0
theorem nm_len {l : List UInt8} (h : nmB l = true) : l.length ≤ 32 := by
  unfold nmB at h
  simp only [Bool.and_eq_true, decide_eq_true_eq] at h
  exact h.1.2
theorem pl_none {l : List UInt8} (h : plB l = true) : (32 : UInt8) ∉ l := by
  rw [pl_eq] at h
  unfold rpB at h
  rw [Bool.and_eq_true] at h
  intro e
  have := List.all_eq_true.1 h.2 32 e
  exact absurd this (by decide)
theorem cont_own {l : List UInt8} (h : plB l = true) : Lib.contains ownW (32 :: (l ++ [32])) = ownB l := own_eq l (pl_none h)
set_option maxHeartbeats 2000000 in
set_option maxRecDepth 1000000 in
theorem refQuote_any (l : List UInt8) (w : World) : Calls Tryz.prog 9 #[.string ⟨l.toArray⟩] w fun e w' => e = .returned (.tuple #[.string ⟨(qoS l).toArray⟩, .int .i64 (qoE l)]) ∧ Below w.heap.size w w' := by
  have NA : Hid (∀ w, Calls Tryz.prog 11 #[.string ⟨l.toArray⟩] w fun e w' => e = .returned (.bool (nmB l)) ∧ Below w.heap.size w w') := fun w => refName_any l w
  have PL : Hid (∀ w, Calls Tryz.prog 13 #[.string ⟨l.toArray⟩] w fun e w' => e = .returned (.bool (plB l)) ∧ Below w.heap.size w w') := fun w => (pl_eq l).symm ▸ refPlain_any l w
  cases hn : nmB l with
  | false =>
    rw [hn] at NA
    have E1 : Hid (qoS l = []) := by show _ = _; unfold qoS; rw [if_pos hn]
    have E2 : Hid (qoE l = 6) := by show _ = _; unfold qoE; rw [if_pos hn]
    clear hn PL
    go_enter Tryz.func9, Tryz.ntmps9
    go_wp2_with fail
    refine (NA.out _).mono ?_
    rintro e w1 ⟨rfl, hb1⟩
    clear NA
    go_wp2_with fail
    rw [E1.out, E2.out]
    go_ret2
    exact ⟨rfl, hb1⟩
  | true =>
    rw [hn] at NA
    have hl := nm_len hn
    have E2 : Hid (qoE l = 0) := by show _ = _; unfold qoE; rw [if_neg (by rw [hn]; decide)]
    have hq : qoS l = if plB l = true ∧ ownB l = false then l else 34 :: (qdq l ++ [34]) := by unfold qoS; rw [if_neg (by rw [hn]; decide)]
    have QU : Hid (∀ w, Calls Tryz.prog 26 #[.string ⟨l.toArray⟩, .int .u8 34] w fun e w' => e = .returned (.string ⟨(34 :: (qdq l ++ [34])).toArray⟩) ∧ Below w.heap.size w w') := fun w => Quoted34_any l w (by omega)
    cases hp : plB l with
    | false =>
      rw [hp] at PL
      have E1 : Hid (qoS l = 34 :: (qdq l ++ [34])) := by show _ = _; rw [hq, if_neg (by rw [hp]; rintro ⟨h, _⟩; cases h)]
      generalize (34 :: (qdq l ++ [34]) : List UInt8) = U at *
      clear hn hp hq
      go_enter Tryz.func9, Tryz.ntmps9
      go_wp2_with fail
      refine (NA.out _).mono ?_
      rintro e w1 ⟨rfl, hb1⟩
      clear NA
      go_wp2_with fail
      refine (PL.out _).mono ?_
      rintro e w2 ⟨rfl, hb2⟩
      have B2 := hb1.trans (hb2.mono hb1.size)
      clear PL hb1 hb2
      go_wp2_with fail
      refine (QU.out _).mono ?_
      rintro e w3 ⟨rfl, hb3⟩
      have B3 := B2.trans (hb3.mono B2.size)
      clear QU hb3
      go_wp2_with fail
      rw [E1.out, E2.out]
      go_ret2
      exact ⟨rfl, B3⟩
    | true =>
      rw [hp] at PL
      have OW : Hid (∀ w, Calls Tryz.prog 25 #[.string ⟨l.toArray⟩] w fun e w' => e = .returned (.bool (ownB l)) ∧ Below w.heap.size w w') := fun w => Own_any l w
      cases ho : ownB l with
      | true =>
        rw [ho] at OW
        have E1 : Hid (qoS l = 34 :: (qdq l ++ [34])) := by show _ = _; rw [hq, if_neg (by rw [ho]; rintro ⟨_, h⟩; cases h)]
        generalize (34 :: (qdq l ++ [34]) : List UInt8) = U at *
        clear hn hp hq ho
        go_enter Tryz.func9, Tryz.ntmps9
        go_wp2_with fail
        refine (NA.out _).mono ?_
        rintro e w1 ⟨rfl, hb1⟩
        clear NA
        go_wp2_with fail
        refine (PL.out _).mono ?_
        rintro e w2 ⟨rfl, hb2⟩
        have B2 := hb1.trans (hb2.mono hb1.size)
        clear PL hb1 hb2
        go_wp2_with fail
        refine (OW.out _).mono ?_
        rintro e w4 ⟨rfl, hb4⟩
        have B4 := B2.trans (hb4.mono B2.size)
        clear OW hb4
        go_wp2_with fail
        refine (QU.out _).mono ?_
        rintro e w3 ⟨rfl, hb3⟩
        have B3 := B4.trans (hb3.mono B4.size)
        clear QU hb3
        go_wp2_with fail
        rw [E1.out, E2.out]
        go_ret2
        exact ⟨rfl, B3⟩
      | false =>
        rw [ho] at OW
        have E1 : Hid (qoS l = l) := by show _ = _; rw [hq, if_pos ⟨hp, ho⟩]
        clear hn hp hq ho QU
        go_enter Tryz.func9, Tryz.ntmps9
        go_wp2_with fail
        refine (NA.out _).mono ?_
        rintro e w1 ⟨rfl, hb1⟩
        clear NA
        go_wp2_with fail
        refine (PL.out _).mono ?_
        rintro e w2 ⟨rfl, hb2⟩
        have B2 := hb1.trans (hb2.mono hb1.size)
        clear PL hb1 hb2
        go_wp2_with fail
        refine (OW.out _).mono ?_
        rintro e w4 ⟨rfl, hb4⟩
        have B4 := B2.trans (hb4.mono B2.size)
        clear OW hb4
        go_wp2_with fail
        rw [E1.out, E2.out]
        go_ret2
        exact ⟨rfl, B4⟩
set_option maxHeartbeats 2000000 in
set_option maxRecDepth 1000000 in
theorem Quote_any (l : List UInt8) (w : World) (hM : Mx w) : Calls Tryz.prog 8 #[.string ⟨l.toArray⟩] w fun e w' => e = .returned (.tuple #[.string ⟨(qoS l).toArray⟩, .int .i64 (qoE l)]) ∧ Below w.heap.size w w' := by
  have NA : Hid (∀ w, Calls Tryz.prog 10 #[.string ⟨l.toArray⟩] w fun e w' => e = .returned (.bool (nmB l)) ∧ Below w.heap.size w w') := fun w => Name_any l w
  have PL : Hid (∀ w, Calls Tryz.prog 12 #[.string ⟨l.toArray⟩] w fun e w' => e = .returned (.bool (plB l)) ∧ Below w.heap.size w w') := fun w => Plain_any' l w
  have HM : Hid (Mx w) := hM
  clear hM
  cases hn : nmB l with
  | false =>
    rw [hn] at NA
    have E1 : Hid (qoS l = []) := by show _ = _; unfold qoS; rw [if_pos hn]
    have E2 : Hid (qoE l = 6) := by show _ = _; unfold qoE; rw [if_pos hn]
    clear hn PL
    go_enter Tryz.func8, Tryz.ntmps8
    go_wp2_with fail
    refine (NA.out _).mono ?_
    rintro e w1 ⟨rfl, hb1⟩
    clear NA
    go_wp2_with fail
    rw [E1.out, E2.out]
    go_ret2
    exact ⟨rfl, hb1⟩
  | true =>
    rw [hn] at NA
    have hl := nm_len hn
    have E2 : Hid (qoE l = 0) := by show _ = _; unfold qoE; rw [if_neg (by rw [hn]; decide)]
    have hq : qoS l = if plB l = true ∧ ownB l = false then l else 34 :: (qdq l ++ [34]) := by unfold qoS; rw [if_neg (by rw [hn]; decide)]
    have QU : Hid (∀ w, Mx w → Calls Tryz.prog 24 #[.string ⟨l.toArray⟩] w fun e w' => e = .returned (.string ⟨(34 :: (qdq l ++ [34])).toArray⟩) ∧ Below w.heap.size w w') := fun w hM => inQuotes_any l w hl hM
    cases hp : plB l with
    | false =>
      rw [hp] at PL
      have E1 : Hid (qoS l = 34 :: (qdq l ++ [34])) := by show _ = _; rw [hq, if_neg (by rw [hp]; rintro ⟨h, _⟩; cases h)]
      generalize (34 :: (qdq l ++ [34]) : List UInt8) = U at *
      clear hn hp hq
      go_enter Tryz.func8, Tryz.ntmps8
      go_wp2_with fail
      refine (NA.out _).mono ?_
      rintro e w1 ⟨rfl, hb1⟩
      clear NA
      go_wp2_with fail
      refine (PL.out _).mono ?_
      rintro e w2 ⟨rfl, hb2⟩
      have B2 := hb1.trans (hb2.mono hb1.size)
      clear PL hb1 hb2
      go_wp2_with fail
      refine (QU.out _ (HM.out.below B2)).mono ?_
      rintro e w3 ⟨rfl, hb3⟩
      have B3 := B2.trans (hb3.mono B2.size)
      clear QU hb3
      go_wp2_with fail
      rw [E1.out, E2.out]
      go_ret2
      exact ⟨rfl, B3⟩
    | true =>
      rw [hp] at PL
      have OW : Hid (∀ w, Mx w → Calls Tryz.prog 23 #[.string ⟨ownW.toArray⟩, .string ⟨(32 :: (l ++ [32])).toArray⟩] w fun e w' => e = .returned (.bool (ownB l)) ∧ Below w.heap.size w w') := fun w hM => by
        have h := Contains_any ⟨ownW.toArray⟩ ⟨(32 :: (l ++ [32])).toArray⟩ w hM (by rw [size_mk]; decide)
        have e : Lib.contains (ByteArray.mk ownW.toArray).data.toList (ByteArray.mk (32 :: (l ++ [32])).toArray).data.toList = ownB l := by
          show Lib.contains ownW.toArray.toList (32 :: (l ++ [32]) : List UInt8).toArray.toList = _
          rw [List.toList_toArray, List.toList_toArray, cont_own hp]
        rw [e] at h
        exact h.mono (fun _ _ h => ⟨h.1, h.2 ▸ Below.refl _ _⟩)
      have s1 : (⟨#[32]⟩ : ByteArray) ++ ⟨l.toArray⟩ = ⟨(32 :: l).toArray⟩ := add_mk [32] l
      have s2 : (⟨(32 :: l).toArray⟩ : ByteArray) ++ ⟨#[32]⟩ = ⟨(32 :: (l ++ [32])).toArray⟩ := add_mk (32 :: l) [32]
      have s3 : 1 + l.length ≤ 9223372036854775807 := by omega
      have s4 : (32 :: l).length + 1 ≤ 9223372036854775807 := by simp; omega
      have s5 : (ByteArray.mk l.toArray).size = l.length := size_mk _
      obtain ⟨X1, hX1⟩ : ∃ X : List UInt8, X = 32 :: l := ⟨_, rfl⟩
      obtain ⟨X2, hX2⟩ : ∃ X : List UInt8, X = 32 :: (l ++ [32]) := ⟨_, rfl⟩
      rw [← hX1] at s1 s2 s4
      rw [← hX2] at s2 OW
      have s6 : (ByteArray.mk X1.toArray).size = X1.length := size_mk _
      clear hX1 hX2
      cases ho : ownB l with
      | true =>
        rw [ho] at OW
        have E1 : Hid (qoS l = 34 :: (qdq l ++ [34])) := by show _ = _; rw [hq, if_neg (by rw [ho]; rintro ⟨_, h⟩; cases h)]
        generalize (34 :: (qdq l ++ [34]) : List UInt8) = U at *
        clear hn hp hq ho
        go_enter Tryz.func8, Tryz.ntmps8
        go_wp2_with fail
        refine (NA.out _).mono ?_
        rintro e w1 ⟨rfl, hb1⟩
        clear NA
        go_wp2_with fail
        refine (PL.out _).mono ?_
        rintro e w2 ⟨rfl, hb2⟩
        have B2 := hb1.trans (hb2.mono hb1.size)
        clear PL hb1 hb2
        go_wp2_with fail
        refine (OW.out _ (HM.out.below B2)).mono ?_
        rintro e w4 ⟨rfl, hb4⟩
        have B4 := B2.trans (hb4.mono B2.size)
        clear OW hb4
        go_wp2_with fail
        refine (QU.out _ (HM.out.below B4)).mono ?_
        rintro e w3 ⟨rfl, hb3⟩
        have B3 := B4.trans (hb3.mono B4.size)
        clear QU hb3
        go_wp2_with fail
        rw [E1.out, E2.out]
        go_ret2
        exact ⟨rfl, B3⟩
      | false =>
        rw [ho] at OW
        have E1 : Hid (qoS l = l) := by show _ = _; rw [hq, if_pos ⟨hp, ho⟩]
        clear hn hp hq ho QU
        go_enter Tryz.func8, Tryz.ntmps8
        go_wp2_with fail
        refine (NA.out _).mono ?_
        rintro e w1 ⟨rfl, hb1⟩
        clear NA
        go_wp2_with fail
        refine (PL.out _).mono ?_
        rintro e w2 ⟨rfl, hb2⟩
        have B2 := hb1.trans (hb2.mono hb1.size)
        clear PL hb1 hb2
        go_wp2_with fail
        refine (OW.out _ (HM.out.below B2)).mono ?_
        rintro e w4 ⟨rfl, hb4⟩
        have B4 := B2.trans (hb4.mono B2.size)
        clear OW hb4
        go_wp2_with fail
        rw [E1.out, E2.out]
        go_ret2
        exact ⟨rfl, B4⟩
end Go.Proofs.YtfcolecglobcdaaGreatDoor
