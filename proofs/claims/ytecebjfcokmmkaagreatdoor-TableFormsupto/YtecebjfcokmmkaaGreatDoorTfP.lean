/-
  Forms in memory of one's own: rows of columns, keys, whole numbers; how they are copied.
-/
import Derived.Test.YtecebjfcokmmkaaGreatDoorTfO
import Derived.Test.YtecebjfcokmmkaaGreatDoorNtA
namespace Go.Proofs.YtecebjfcokmmkaaGreatDoor
open Go.RowKit Go.Shelf Go.Joins
set_option maxRecDepth 100000

/-- the cells of elements, one behind the other -/
def fl {α : Type} (enc : α → List Value) (l : List α) : List Value := l.flatMap enc
theorem fl_cons {α : Type} (enc : α → List Value) (x : α) (l : List α) : fl enc (x :: l) = enc x ++ fl enc l := rfl
theorem fl_app {α : Type} (enc : α → List Value) (a b : List α) : fl enc (a ++ b) = fl enc a ++ fl enc b := by simp [fl]
theorem fl_len {α : Type} {enc : α → List Value} {s : Nat} (hs : ∀ x, (enc x).length = s) : ∀ l : List α, (fl enc l).length = l.length * s
  | [] => by simp [fl]
  | v :: l => by rw [fl_cons, List.length_append, fl_len hs l, hs, List.length_cons, Nat.add_mul, Nat.one_mul, Nat.add_comm]
theorem fl_get {α : Type} {enc : α → List Value} {s : Nat} (hs : ∀ x, (enc x).length = s) : ∀ (l : List α) (i : Nat) (v : α) (r : Nat), l[i]? = some v → r < s → (fl enc l)[i * s + r]? = (enc v)[r]?
  | [], i, v, r, h, _ => by simp at h
  | x :: l, 0, v, r, h, hr => by
    simp at h; subst h
    rw [fl_cons, Nat.zero_mul, Nat.zero_add, List.getElem?_append_left (by rw [hs]; exact hr)]
  | x :: l, i + 1, v, r, h, hr => by
    simp at h
    have e : (i + 1) * s + r = s + (i * s + r) := by rw [Nat.add_mul, Nat.one_mul]; omega
    rw [fl_cons, List.getElem?_append_right (by rw [hs, e]; omega), ← fl_get hs l i v r h hr, hs, e, Nat.add_sub_cancel_left]
theorem fl_at {α : Type} {enc : α → List Value} {s : Nat} (hs : ∀ x, (enc x).length = s) (h0 : 0 < s) {l : List α} {j : Nat} {u : Value} (h : (fl enc l)[j]? = some u) : ∃ v, l[j / s]? = some v ∧ (enc v)[j % s]? = some u := by
  have hl := (List.getElem?_eq_some_iff.1 h).1
  rw [fl_len hs] at hl
  have hi : j / s < l.length := Nat.div_lt_of_lt_mul (by rw [Nat.mul_comm]; exact hl)
  have hv : l[j / s]? = some l[j / s] := List.getElem?_eq_getElem hi
  refine ⟨_, hv, ?_⟩
  have := fl_get hs l (j / s) _ (j % s) hv (Nat.mod_lt _ h0)
  rw [Nat.mul_comm, Nat.div_add_mod, h] at this
  exact this.symm
def clE (c : Cl) : List Value := [.string c.nm, .int .i64 c.ty, .int .i64 c.mo, .bool c.nn]
/-- a key whose columns lie in a block of their own -/
structure Kq where
  k : Ky
  g : Nat
  c : Nat
def kqE (q : Kq) : List Value := [.string q.k.nm, .slice (some ⟨q.g, 0, none⟩) q.k.cs.length q.c, .bool q.k.uq]
/-- a key as it came -/
structure Kr where
  k : Ky
  p : Option Addr
  c : Nat
def krE (q : Kr) : List Value := [.string q.k.nm, .slice q.p q.k.cs.length q.c, .bool q.k.uq]
def inE (x : Int) : List Value := [.int .i64 x]
def vaE (v : Va) : List Value := [.int .i64 v.ty, .int .i64 v.n, .string v.s]
theorem clE_len (c : Cl) : (clE c).length = 4 := rfl
theorem kqE_len (c : Kq) : (kqE c).length = 3 := rfl
theorem krE_len (c : Kr) : (krE c).length = 3 := rfl
theorem inE_len (c : Int) : (inE c).length = 1 := rfl
theorem vaE_len (c : Va) : (vaE c).length = 3 := rfl
theorem fl_one {α : Type} {enc : α → List Value} (h : ∀ x, ∀ u ∈ enc x, u.oneCell' = true) (l : List α) : ∀ u ∈ fl enc l, u.oneCell' = true := by
  intro u hu
  obtain ⟨x, _, hx⟩ := List.mem_flatMap.1 hu
  exact h x u hx
theorem clE_one (c : Cl) : ∀ u ∈ clE c, u.oneCell' = true := by intro u hu; simp only [clE, List.mem_cons, List.not_mem_nil, or_false] at hu; rcases hu with rfl | rfl | rfl | rfl <;> rfl
theorem kqE_one (c : Kq) : ∀ u ∈ kqE c, u.oneCell' = true := by intro u hu; simp only [kqE, List.mem_cons, List.not_mem_nil, or_false] at hu; rcases hu with rfl | rfl | rfl <;> rfl
theorem krE_one (c : Kr) : ∀ u ∈ krE c, u.oneCell' = true := by intro u hu; simp only [krE, List.mem_cons, List.not_mem_nil, or_false] at hu; rcases hu with rfl | rfl | rfl <;> rfl
theorem inE_one (c : Int) : ∀ u ∈ inE c, u.oneCell' = true := by intro u hu; simp only [inE, List.mem_cons, List.not_mem_nil, or_false] at hu; subst hu; rfl
theorem vaE_one (c : Va) : ∀ u ∈ vaE c, u.oneCell' = true := by intro u hu; simp only [vaE, List.mem_cons, List.not_mem_nil, or_false] at hu; rcases hu with rfl | rfl | rfl <;> rfl
theorem rwCl : Rw 22 52 (.agg #[.string ⟨#[]⟩, .int .i64 0, .int .i64 0, .bool false]) 4 40 := ⟨by kernel_rfl, by kernel_rfl, rfl, by decide, by decide⟩
theorem rwKy : Rw 23 46 (.agg #[.string ⟨#[]⟩, .slice none 0 0, .bool false]) 3 48 := ⟨by kernel_rfl, by kernel_rfl, rfl, by decide, by decide⟩
theorem rwIn : Rw 44 3 (.int .i64 0) 1 8 := ⟨by kernel_rfl, by kernel_rfl, rfl, by decide, by decide⟩
theorem rwVa : Rw 27 56 (.agg #[.int .i64 0, .int .i64 0, .string ⟨#[]⟩]) 3 32 := ⟨by kernel_rfl, by kernel_rfl, rfl, by decide, by decide⟩
/-- an empty row with room -/
theorem Rw.make0 {t e : TypeId} {z : Value} {sz by' : Nat} (R : Rw t e z sz by') (w : World) (k : Nat) (hk : k ≤ 1000000000) : ∃ w', (Instr.makeSlice t (.int .i64 0) (.int .i64 (k : Int))).run Tryz.prog w = .ok (.slice (some ⟨w.heap.size, 0, none⟩) 0 k) w' ∧ shr w' e sz (.slice (some ⟨w.heap.size, 0, none⟩) 0 k) 0 [] ∧ w.grownBy w' none ∧ w'.heap.size = w.heap.size + 1 := by
  obtain ⟨i, hi, hz, hs, hb⟩ := info_parts R.inf
  have hsm := R.sm
  have hbb : (i.bytes : Int) * (k : Int) ≤ 281474976710656 := by
    have : i.bytes * k ≤ 64 * 1000000000 := Nat.mul_le_mul (by omega) hk
    have : ((i.bytes * k : Nat) : Int) ≤ 281474976710656 := by omega
    rwa [Int.natCast_mul] at this
  have hr := run_make (P := Tryz.prog) w t e i z R.sl hi hz .i64 .i64 0 (k : Int) (Int.le_refl _) (by omega) hbb (by omega)
  simp only [Int.toNat_zero, Int.toNat_natCast] at hr
  refine ⟨_, hr, ⟨by simp, Or.inr ⟨w.heap.size, 0, k, _, rfl, heap_alloc_new _ _, Nat.zero_le _, by unfold maxLen; omega, Or.inr ?_, fun j u hj => by simp at hj⟩⟩, World.grownBy_alloc w _ none, by simp⟩
  rw [Nat.zero_add, size_madeCells, hs]
/-- elements put into the room of a row, none too -/
theorem Rw.fits {t e : TypeId} {z : Value} {sz by' : Nat} (R : Rw t e z sz by') {w : World} {g cap n m c : Nat} {xs news : List Value} {P : Option Addr} (h : shr w e sz (.slice (some ⟨g, 0, none⟩) n cap) n xs)
    (hm : news.length = m * sz) (hP : P = none → m = 0 ∧ c = 0) (hnews : ∀ ad, P = some ad → ∀ j u, news[j]? = some u → w.cell? (ad.add j) = some u) (h1 : ∀ u ∈ news, u.oneCell' = true) (hroom : n + m ≤ cap) :
    ∃ w', (∀ ty, (Builtin.append_ #[t, t] ty #[.slice (some ⟨g, 0, none⟩) n cap, .slice P m c]).run Tryz.prog w = .ok (.slice (some ⟨g, 0, none⟩) (n + m) cap) w') ∧ shr w' e sz (.slice (some ⟨g, 0, none⟩) (n + m) cap) (n + m) (xs ++ news) ∧ w.grownBy w' (some g) ∧ w'.heap.size = w.heap.size := by
  obtain ⟨i, hi, hz, hs, hb⟩ := info_parts R.inf
  have hsl := R.sl
  have hlen : (xs ++ news).length = (n + m) * sz := by rw [List.length_append, h.1, hm, Nat.add_mul]
  rcases h.2 with ⟨e1, _⟩ | ⟨g', off, cap', cur, e1, hg, hnc, hcm, hsz, hcs⟩
  · cases e1
  cases e1
  subst hs
  cases P with
  | none =>
    obtain ⟨rfl, rfl⟩ := hP rfl
    obtain rfl : news = [] := List.eq_nil_of_length_eq_zero (by simpa using hm)
    refine ⟨w, fun ty => ?_, ?_, ⟨rfl, rfl, rfl, Nat.le_refl _, fun _ _ _ => rfl⟩, rfl⟩
    · simp [Builtin.append_, run_underlying hsl, sizeOf, typeInfo, hi, Builtin.lenOf, Builtin.firstCells, hnc, storeCells]
    · rw [List.append_nil]; exact h
  | some ad =>
    by_cases hm0 : m = 0
    · subst hm0
      obtain rfl : news = [] := List.eq_nil_of_length_eq_zero (by simpa using hm)
      have hr := fun ty => run_append_room_cells (P := Tryz.prog) w t ty e i hsl hi g 0 n cap ad 0 c [] (by simp) (fun j u hj => by simp at hj) (fun u hu => by simp at hu) hroom (fun j hj => by simp at hj) (fun j hj => by simp at hj)
      refine ⟨w, hr, ?_, ⟨rfl, rfl, rfl, Nat.le_refl _, fun _ _ _ => rfl⟩, rfl⟩
      rw [List.append_nil]; exact h
    · have hcur : cur.size = 0 + cap * i.size := by rcases hsz with h | h; omega; exact h
      have hfit : 0 + n * i.size + m * i.size ≤ cur.size := by
        have : (n + m) * i.size ≤ cap * i.size := Nat.mul_le_mul_right _ hroom
        rw [Nat.add_mul] at this; omega
      have hr := fun ty => run_append_room_cells (P := Tryz.prog) w t ty e i hsl hi g 0 n cap ad m c news hm (hnews ad rfl) h1 hroom (fun j hj => by
        rw [cell_of_block hg]
        show (cur[0 + n * i.size + j]?).isSome = true
        rw [Array.getElem?_eq_getElem (show 0 + n * i.size + j < cur.size by omega)]; rfl) (fun j _ => unfrozen_of_block hg _)
      obtain ⟨cs', k1, k2, k3, k4⟩ := setCells_get g news (0 + n * i.size) w cur e (0, 0) hg
      refine ⟨_, hr, ⟨hlen, Or.inr ⟨g, 0, cap, cs', rfl, k1, hroom, hcm, Or.inr (by rw [k2]; exact hcur), fun j u hj => ?_⟩⟩, setCells_grown _ _ _ _, ?_⟩
      · have hxl := h.1
        rcases Nat.lt_or_ge j xs.length with hlt | hge
        · rw [List.getElem?_append_left hlt] at hj
          rw [k3 _ (Or.inl (by omega))]; exact hcs j u hj
        · rw [List.getElem?_append_right hge] at hj
          have hjl := (List.getElem?_eq_some_iff.1 hj).1
          have := k4 _ u hj (by omega)
          rw [show 0 + j = 0 + n * i.size + (j - xs.length) by omega]; exact this
      · have : ∀ (vs : List Value) (o : Nat) (w : World), (w.setCells g o vs).heap.size = w.heap.size := by
          intro vs
          induction vs with
          | nil => intro o w; rfl
          | cons v r ih => intro o w; show ((w.setCell ⟨g, o, none⟩ v).setCells g (o + 1) r).heap.size = _; rw [ih]; simp
        exact this _ _ _
/-- a form in blocks of its own, from lo on -/
structure Fo (w : World) (lo : Nat) (t : Tb) (gc cc gk ck : Nat) (L : List Kq) : Prop where
  cols : shr w 52 4 (.slice (some ⟨gc, 0, none⟩) t.cs.length cc) t.cs.length (fl clE t.cs)
  keys : shr w 46 3 (.slice (some ⟨gk, 0, none⟩) t.ks.length ck) t.ks.length (fl kqE L)
  hL : L.map (·.k) = t.ks
  ints : ∀ q ∈ L, shr w 3 1 (.slice (some ⟨q.g, 0, none⟩) q.k.cs.length q.c) q.k.cs.length (fl inE q.k.cs)
  loc : lo ≤ gc
  lok : lo ≤ gk
  loi : ∀ q ∈ L, lo ≤ q.g
theorem shr_lt {w : World} {e : TypeId} {sz n cap g : Nat} {xs : List Value} (h : shr w e sz (.slice (some ⟨g, 0, none⟩) n cap) n xs) : g < w.heap.size := (h.kd g rfl).2
theorem shr_cap {w : World} {e : TypeId} {sz n cap g : Nat} {xs : List Value} (h : shr w e sz (.slice (some ⟨g, 0, none⟩) n cap) n xs) : n ≤ cap ∧ cap ≤ maxLen := by
  rcases h.2 with ⟨e1, _⟩ | ⟨g', off, cap', cur, e1, hg, hnc, hcm, _⟩
  · cases e1
  · cases e1; exact ⟨hnc, hcm⟩
theorem shr_cells {w : World} {e : TypeId} {sz n cap g : Nat} {xs : List Value} (h : shr w e sz (.slice (some ⟨g, 0, none⟩) n cap) n xs) : ∀ j u, xs[j]? = some u → w.cell? ⟨g, j, none⟩ = some u := by
  obtain ⟨g', off, e1, hc⟩ := h.cell
  cases e1
  intro j u hj
  have := hc j u hj
  rw [Nat.zero_add] at this
  exact this
theorem Fo.kept {w w' : World} {lo gc cc gk ck : Nat} {t : Tb} {L : List Kq} {S : Nat → Prop} (h : Fo w lo t gc cc gk ck L) (hc : Chg S w w') (hn : ∀ g, lo ≤ g → g < w.heap.size → ¬ S g) : Fo w' lo t gc cc gk ck L :=
  ⟨h.cols.kept hc (fun g e => by cases e; exact hn _ h.loc (shr_lt h.cols)), h.keys.kept hc (fun g e => by cases e; exact hn _ h.lok (shr_lt h.keys)), h.hL, fun q hq => (h.ints q hq).kept hc (fun g e => by cases e; exact hn _ (h.loi q hq) (shr_lt (h.ints q hq))), h.loc, h.lok, h.loi⟩
theorem Fo.below {w w' : World} {lo gc cc gk ck : Nat} {t : Tb} {L : List Kq} (h : Fo w lo t gc cc gk ck L) (hb : Below w.heap.size w w') : Fo w' lo t gc cc gk ck L :=
  h.kept (chgBl hb) (fun g _ h2 => by omega)
theorem Fo.lower {w : World} {lo lo' gc cc gk ck : Nat} {t : Tb} {L : List Kq} (h : Fo w lo t gc cc gk ck L) (hl : lo' ≤ lo) : Fo w lo' t gc cc gk ck L :=
  ⟨h.cols, h.keys, h.hL, h.ints, Nat.le_trans hl h.loc, Nat.le_trans hl h.lok, fun q hq => Nat.le_trans hl (h.loi q hq)⟩
theorem in_of_shr {w : World} {n cap g : Nat} {l : List Int} (h : shr w 3 1 (.slice (some ⟨g, 0, none⟩) n cap) n (fl inE l)) : inIn w (some ⟨g, 0, none⟩) l := by
  refine Or.inr ⟨g, 0, rfl, shr_lt h, fun i x hx => ?_⟩
  have := shr_cells h (i * 1 + 0) _ ((fl_get inE_len l i x 0 hx (by decide)).trans rfl)
  rw [Nat.mul_one, Nat.add_zero] at this
  rw [Nat.zero_add]; exact this
theorem cl_of_shr {w : World} {n cap g : Nat} {l : List Cl} (h : shr w 52 4 (.slice (some ⟨g, 0, none⟩) n cap) n (fl clE l)) : clIn w (some ⟨g, 0, none⟩) l := by
  refine Or.inr ⟨g, 0, rfl, shr_lt h, fun i x hx => ?_⟩
  rw [Nat.zero_add]
  exact ⟨shr_cells h (i * 4 + 0) _ ((fl_get clE_len l i x 0 hx (by decide)).trans rfl), shr_cells h (i * 4 + 1) _ ((fl_get clE_len l i x 1 hx (by decide)).trans rfl), shr_cells h (i * 4 + 2) _ ((fl_get clE_len l i x 2 hx (by decide)).trans rfl), shr_cells h (i * 4 + 3) _ ((fl_get clE_len l i x 3 hx (by decide)).trans rfl)⟩
theorem Fo.reads {w : World} {lo gc cc gk ck : Nat} {t : Tb} {L : List Kq} (h : Fo w lo t gc cc gk ck L) : tbIn w t (some ⟨gc, 0, none⟩) (some ⟨gk, 0, none⟩) := by
  refine ⟨cl_of_shr h.cols, Or.inr ⟨gk, 0, rfl, shr_lt h.keys, fun i k hk => ?_⟩⟩
  rw [← h.hL, List.getElem?_map] at hk
  cases hq : L[i]? with
  | none => rw [hq] at hk; cases hk
  | some q =>
    rw [hq] at hk
    cases hk
    rw [Nat.zero_add]
    have hi := h.ints q (List.mem_of_getElem? hq)
    exact ⟨some ⟨q.g, 0, none⟩, q.c, shr_cells h.keys (i * 3 + 0) _ ((fl_get kqE_len L i q 0 hq (by decide)).trans rfl), shr_cells h.keys (i * 3 + 1) _ ((fl_get kqE_len L i q 1 hq (by decide)).trans rfl), shr_cells h.keys (i * 3 + 2) _ ((fl_get kqE_len L i q 2 hq (by decide)).trans rfl), in_of_shr hi, (fun e => by cases e), (shr_cap hi).1⟩
/-- what comes of a copying of a form -/
def FoQ (w : World) (t : Tb) (e : Ending) (w' : World) : Prop := ∃ gc cc gk ck L, e = .returned (tbV t (some ⟨gc, 0, none⟩) (some ⟨gk, 0, none⟩) cc ck) ∧ Fo w' w.heap.size t gc cc gk ck L ∧ Below w.heap.size w w'
theorem in_cells {w : World} {P : Option Addr} {l : List Int} (h : inIn w P l) : ∀ ad, P = some ad → ∀ j u, (fl inE l)[j]? = some u → w.cell? (ad.add j) = some u := by
  intro ad had j u hj
  obtain ⟨v, hv, hu⟩ := fl_at inE_len (by decide) hj
  rcases h with rfl | ⟨g, o, rfl, hg, hc⟩
  · simp at hv
  cases had
  rw [Nat.div_one] at hv
  rw [Nat.mod_one] at hu
  cases hu
  rw [add_plain]
  exact hc j v hv
theorem cl_cells {w : World} {P : Option Addr} {l : List Cl} (h : clIn w P l) : ∀ ad, P = some ad → ∀ j u, (fl clE l)[j]? = some u → w.cell? (ad.add j) = some u := by
  intro ad had j u hj
  obtain ⟨v, hv, hu⟩ := fl_at clE_len (by decide) hj
  rcases h with rfl | ⟨g, o, rfl, hg, hc⟩
  · simp at hv
  cases had
  obtain ⟨c0, c1, c2, c3⟩ := hc _ v hv
  rw [add_plain]
  have hm : j % 4 < 4 := Nat.mod_lt _ (by decide)
  have e : j / 4 * 4 + j % 4 = j := by omega
  rcases (show j % 4 = 0 ∨ j % 4 = 1 ∨ j % 4 = 2 ∨ j % 4 = 3 by omega) with z | z | z | z <;> rw [z] at hu e <;> cases hu <;> rw [← e, ← Nat.add_assoc] <;> assumption
theorem none_nil {w : World} {l : List Int} (h : inIn w none l) : l = [] := by
  rcases h with h | ⟨g, o, h, _⟩
  · exact h
  · cases h
theorem none_nilC {w : World} {l : List Cl} (h : clIn w none l) : l = [] := by
  rcases h with h | ⟨g, o, h, _⟩
  · exact h
  · cases h
end Go.Proofs.YtecebjfcokmmkaaGreatDoor
