/-
  The walks of slices.IndexFunc, ContainsFunc (columns, keys, whole numbers), Index, Contains.
-/
import Derived.Test.YtecebjfcokmmkaaGreatDoorTfB
import Derived.Shelf.GgClosure.Gives
namespace Go.Proofs.YtecebjfcokmmkaaGreatDoor
open Go.RowKit Go.Shelf
set_option maxRecDepth 100000

/-- a place, or none: whether there is one -/
def IxQ (b : Bool) (e : Ending) : Prop := ∃ r : Int, e = .returned (.int .i64 r) ∧ decide (0 ≤ r) = b
theorem any_hit {α : Type} {p : α → Bool} {l : List α} {k : Nat} {x : α} (h : l[k]? = some x) (hp : p x = true) : l.any p = true := List.any_eq_true.2 ⟨x, List.mem_of_getElem? h, hp⟩
theorem any_next {α : Type} {p : α → Bool} {l : List α} {k : Nat} {x : α} (h : l[k]? = some x) (hp : p x = false) (h0 : (l.take k).any p = false) : (l.take (k + 1)).any p = false := by
  rw [List.take_add_one, h, List.any_append, h0]; simp [hp]
theorem inIn.take {w : World} {P : Option Addr} {l : List Int} (h : inIn w P l) (k : Nat) : inIn w P (l.take k) := by
  rcases h with rfl | ⟨g, o, h1, h2, h3⟩
  · exact Or.inl (by simp)
  · refine Or.inr ⟨g, o, h1, h2, fun i x hx => h3 i x ?_⟩
    rw [List.getElem?_take] at hx; split at hx
    · exact hx
    · cases hx
theorem clIn.take {w : World} {P : Option Addr} {l : List Cl} (h : clIn w P l) (k : Nat) : clIn w P (l.take k) := by
  rcases h with rfl | ⟨g, o, h1, h2, h3⟩
  · exact Or.inl (by simp)
  · refine Or.inr ⟨g, o, h1, h2, fun i x hx => h3 i x ?_⟩
    rw [List.getElem?_take] at hx; split at hx
    · exact hx
    · cases hx
theorem kyIn.take {w : World} {P : Option Addr} {l : List Ky} (h : kyIn w P l) (k : Nat) : kyIn w P (l.take k) := by
  rcases h with rfl | ⟨g, o, h1, h2, h3⟩
  · exact Or.inl (by simp)
  · refine Or.inr ⟨g, o, h1, h2, fun i x hx => h3 i x ?_⟩
    rw [List.getElem?_take] at hx; split at hx
    · exact hx
    · cases hx

set_option maxHeartbeats 4000000 in
set_option maxRecDepth 1000000 in
theorem IndexFuncCl (l : List Cl) (P : Option Addr) (C : Nat) (p : Cl → Bool) (g : Nat) (lb : Array Value) (eg : ∀ args w, (callFunc g args).run Tryz.prog w = .ok (.enter g args) w) (w : World) (hl : clIn w P l) (hn : l.length ≤ 100000000)
    (hp : Hid (∀ (W : World) (x : Cl) , x ∈ l → Below w.heap.size w W → Calls Tryz.prog g (#[clV x] ++ lb) W fun e w' => e = .returned (.bool (p x)) ∧ Below W.heap.size W w')) :
    Calls Tryz.prog 55 #[.slice P l.length C, .func (.func g) #[] lb] w fun e w' => IxQ (l.any p) e ∧ Below w.heap.size w w' := by
  obtain ⟨B, hB⟩ : ∃ B, B = l.any p := ⟨_, rfl⟩
  rw [← hB]
  have HB := mkHid hB
  clear hB
  go_enter Tryz.func55, Tryz.ntmps55
  go_wp2_with fail
  go_loopw [5, 8] (fun _ s8 wr => ∃ k : Nat, s8 = .int .i64 k ∧ k ≤ l.length ∧ Hid ((l.take k).any p = false) ∧ Below w.heap.size w wr) (fun _ sk _ => l.length - (intOf sk).toNat)
  case atStart => exact ⟨0, rfl, Nat.zero_le _, rfl, Below.refl _ _⟩
  case round =>
    obtain ⟨k, rfl, hk, hd, hb⟩ := hrel
    by_cases hlt : k < l.length
    · obtain ⟨x, hx⟩ : ∃ x, l[k]? = some x := ⟨l[k], List.getElem?_eq_getElem hlt⟩
      rcases hl with rfl | ⟨b, o, rfl, hg, hcs⟩
      · simp at hx
      obtain ⟨c0, c1, c2, c3⟩ := hcs k x hx
      have d0 := (hb.cell (p := ⟨b, o + k * 4, none⟩) hg).trans c0
      have d1 := (hb.cell (p := ⟨b, o + k * 4 + 1, none⟩) hg).trans c1
      have d2 := (hb.cell (p := ⟨b, o + k * 4 + 2, none⟩) hg).trans c2
      have d3 := (hb.cell (p := ⟨b, o + k * 4 + 3, none⟩) hg).trans c3
      have hcall := hp.out wr x (List.mem_of_getElem? hx) hb
      have HX := mkHid hx
      clear hp hcs c0 c1 c2 c3 hx
      cases hq : p x with
      | true =>
        rw [hq] at hcall
        have e : B = true := by rw [HB.out]; exact any_hit HX.out hq
        subst e
        go_wp2_with (go_at_fn g; refine hcall.mono ?_; rintro e w1 ⟨rfl, hb1⟩)
        refine bodyPost_ret (v := .int .i64 k) (by simp [results, Tryz.results55, go_sem]) rfl ⟨⟨_, rfl, by simp⟩, hb.trans (hb1.mono hb.size)⟩
      | false =>
        rw [hq] at hcall
        have hd2 : Hid ((l.take (k + 1)).any p = false) := any_next HX.out hq hd.out
        go_wp2_with (go_at_fn g; refine hcall.mono ?_; rintro e w1 ⟨rfl, hb1⟩)
        go_roundw
        case rel => exact ⟨k + 1, by go_num, hlt, hd2, hb.trans (hb1.mono hb.size)⟩
        case measure => simp [intOf]; omega
    · have e : B = false := by
        rw [HB.out]
        have := hd.out
        rw [List.take_of_length_le (by omega)] at this; exact this
      subst e
      go_wp2_with fail
      refine bodyPost_ret (v := .int .i64 (-1)) (by simp [results, Tryz.results55, go_sem]) rfl ⟨⟨_, rfl, rfl⟩, hb⟩
set_option maxHeartbeats 4000000 in
set_option maxRecDepth 1000000 in
theorem ContainsFuncCl (l : List Cl) (P : Option Addr) (C : Nat) (p : Cl → Bool) (g : Nat) (lb : Array Value) (eg : ∀ args w, (callFunc g args).run Tryz.prog w = .ok (.enter g args) w) (w : World) (hl : clIn w P l) (hn : l.length ≤ 100000000)
    (hp : Hid (∀ (W : World) (x : Cl) , x ∈ l → Below w.heap.size w W → Calls Tryz.prog g (#[clV x] ++ lb) W fun e w' => e = .returned (.bool (p x)) ∧ Below W.heap.size W w')) :
    Calls Tryz.prog 34 #[.slice P l.length C, .func (.func g) #[] lb] w fun e w' => e = .returned (.bool (l.any p)) ∧ Below w.heap.size w w' := by
  have IX : Hid (Calls Tryz.prog 55 #[.slice P l.length C, .func (.func g) #[] lb] w fun e w' => IxQ (l.any p) e ∧ Below w.heap.size w w') := IndexFuncCl l P C p g lb eg w hl hn hp
  generalize l.any p = B at *
  clear hp hl
  go_enter Tryz.func34, Tryz.ntmps34
  go_wp2_with (go_at_call 55; refine IX.out.mono ?_; rintro e w1 ⟨⟨r, rfl, hr⟩, hb⟩)
  go_ret
  exact ⟨by rw [← hr]; rfl, hb⟩

set_option maxHeartbeats 4000000 in
set_option maxRecDepth 1000000 in
theorem IndexFuncKy (l : List Ky) (P : Option Addr) (C : Nat) (p : Ky → Bool) (g : Nat) (lb : Array Value) (eg : ∀ args w, (callFunc g args).run Tryz.prog w = .ok (.enter g args) w) (w : World) (hl : kyIn w P l) (hn : l.length ≤ 100000000)
    (hp : Hid (∀ (W : World) (x : Ky) (Q : Option Addr) (C2 : Nat), x ∈ l → Below w.heap.size w W → Calls Tryz.prog g (#[kyV x Q C2] ++ lb) W fun e w' => e = .returned (.bool (p x)) ∧ Below W.heap.size W w')) :
    Calls Tryz.prog 56 #[.slice P l.length C, .func (.func g) #[] lb] w fun e w' => IxQ (l.any p) e ∧ Below w.heap.size w w' := by
  obtain ⟨B, hB⟩ : ∃ B, B = l.any p := ⟨_, rfl⟩
  rw [← hB]
  have HB := mkHid hB
  clear hB
  go_enter Tryz.func56, Tryz.ntmps56
  go_wp2_with fail
  go_loopw [5, 8] (fun _ s8 wr => ∃ k : Nat, s8 = .int .i64 k ∧ k ≤ l.length ∧ Hid ((l.take k).any p = false) ∧ Below w.heap.size w wr) (fun _ sk _ => l.length - (intOf sk).toNat)
  case atStart => exact ⟨0, rfl, Nat.zero_le _, rfl, Below.refl _ _⟩
  case round =>
    obtain ⟨k, rfl, hk, hd, hb⟩ := hrel
    by_cases hlt : k < l.length
    · obtain ⟨x, hx⟩ : ∃ x, l[k]? = some x := ⟨l[k], List.getElem?_eq_getElem hlt⟩
      rcases hl with rfl | ⟨b, o, rfl, hg, hcs⟩
      · simp at hx
      obtain ⟨Q, C2, c0, c1, c2, _, _⟩ := hcs k x hx
      have d0 := (hb.cell (p := ⟨b, o + k * 3, none⟩) hg).trans c0
      have d1 := (hb.cell (p := ⟨b, o + k * 3 + 1, none⟩) hg).trans c1
      have d2 := (hb.cell (p := ⟨b, o + k * 3 + 2, none⟩) hg).trans c2
      have hcall := hp.out wr x Q C2 (List.mem_of_getElem? hx) hb
      have HX := mkHid hx
      clear hp hcs c0 c1 c2 hx
      cases hq : p x with
      | true =>
        rw [hq] at hcall
        have e : B = true := by rw [HB.out]; exact any_hit HX.out hq
        subst e
        go_wp2_with (go_at_fn g; refine hcall.mono ?_; rintro e w1 ⟨rfl, hb1⟩)
        refine bodyPost_ret (v := .int .i64 k) (by simp [results, Tryz.results56, go_sem]) rfl ⟨⟨_, rfl, by simp⟩, hb.trans (hb1.mono hb.size)⟩
      | false =>
        rw [hq] at hcall
        have hd2 : Hid ((l.take (k + 1)).any p = false) := any_next HX.out hq hd.out
        go_wp2_with (go_at_fn g; refine hcall.mono ?_; rintro e w1 ⟨rfl, hb1⟩)
        go_roundw
        case rel => exact ⟨k + 1, by go_num, hlt, hd2, hb.trans (hb1.mono hb.size)⟩
        case measure => simp [intOf]; omega
    · have e : B = false := by
        rw [HB.out]
        have := hd.out
        rw [List.take_of_length_le (by omega)] at this; exact this
      subst e
      go_wp2_with fail
      refine bodyPost_ret (v := .int .i64 (-1)) (by simp [results, Tryz.results56, go_sem]) rfl ⟨⟨_, rfl, rfl⟩, hb⟩
set_option maxHeartbeats 4000000 in
set_option maxRecDepth 1000000 in
theorem ContainsFuncKy (l : List Ky) (P : Option Addr) (C : Nat) (p : Ky → Bool) (g : Nat) (lb : Array Value) (eg : ∀ args w, (callFunc g args).run Tryz.prog w = .ok (.enter g args) w) (w : World) (hl : kyIn w P l) (hn : l.length ≤ 100000000)
    (hp : Hid (∀ (W : World) (x : Ky) (Q : Option Addr) (C2 : Nat), x ∈ l → Below w.heap.size w W → Calls Tryz.prog g (#[kyV x Q C2] ++ lb) W fun e w' => e = .returned (.bool (p x)) ∧ Below W.heap.size W w')) :
    Calls Tryz.prog 37 #[.slice P l.length C, .func (.func g) #[] lb] w fun e w' => e = .returned (.bool (l.any p)) ∧ Below w.heap.size w w' := by
  have IX : Hid (Calls Tryz.prog 56 #[.slice P l.length C, .func (.func g) #[] lb] w fun e w' => IxQ (l.any p) e ∧ Below w.heap.size w w') := IndexFuncKy l P C p g lb eg w hl hn hp
  generalize l.any p = B at *
  clear hp hl
  go_enter Tryz.func37, Tryz.ntmps37
  go_wp2_with (go_at_call 56; refine IX.out.mono ?_; rintro e w1 ⟨⟨r, rfl, hr⟩, hb⟩)
  go_ret
  exact ⟨by rw [← hr]; rfl, hb⟩

set_option maxHeartbeats 4000000 in
set_option maxRecDepth 1000000 in
theorem IndexFuncIn (l : List Int) (P : Option Addr) (C : Nat) (p : Int → Bool) (g : Nat) (lb : Array Value) (eg : ∀ args w, (callFunc g args).run Tryz.prog w = .ok (.enter g args) w) (w : World) (hl : inIn w P l) (hn : l.length ≤ 100000000)
    (hp : Hid (∀ (W : World) (x : Int) , x ∈ l → Below w.heap.size w W → Calls Tryz.prog g (#[.int .i64 x] ++ lb) W fun e w' => e = .returned (.bool (p x)) ∧ Below W.heap.size W w')) :
    Calls Tryz.prog 57 #[.slice P l.length C, .func (.func g) #[] lb] w fun e w' => IxQ (l.any p) e ∧ Below w.heap.size w w' := by
  obtain ⟨B, hB⟩ : ∃ B, B = l.any p := ⟨_, rfl⟩
  rw [← hB]
  have HB := mkHid hB
  clear hB
  go_enter Tryz.func57, Tryz.ntmps57
  go_wp2_with fail
  go_loopw [5, 8] (fun _ s8 wr => ∃ k : Nat, s8 = .int .i64 k ∧ k ≤ l.length ∧ Hid ((l.take k).any p = false) ∧ Below w.heap.size w wr) (fun _ sk _ => l.length - (intOf sk).toNat)
  case atStart => exact ⟨0, rfl, Nat.zero_le _, rfl, Below.refl _ _⟩
  case round =>
    obtain ⟨k, rfl, hk, hd, hb⟩ := hrel
    by_cases hlt : k < l.length
    · obtain ⟨x, hx⟩ : ∃ x, l[k]? = some x := ⟨l[k], List.getElem?_eq_getElem hlt⟩
      rcases hl with rfl | ⟨b, o, rfl, hg, hcs⟩
      · simp at hx
      have c0 := hcs k x hx
      have d0 := (hb.cell (p := ⟨b, o + k, none⟩) hg).trans c0
      have hcall := hp.out wr x (List.mem_of_getElem? hx) hb
      have HX := mkHid hx
      clear hp hcs c0 hx
      cases hq : p x with
      | true =>
        rw [hq] at hcall
        have e : B = true := by rw [HB.out]; exact any_hit HX.out hq
        subst e
        go_wp2_with (go_at_fn g; refine hcall.mono ?_; rintro e w1 ⟨rfl, hb1⟩)
        refine bodyPost_ret (v := .int .i64 k) (by simp [results, Tryz.results57, go_sem]) rfl ⟨⟨_, rfl, by simp⟩, hb.trans (hb1.mono hb.size)⟩
      | false =>
        rw [hq] at hcall
        have hd2 : Hid ((l.take (k + 1)).any p = false) := any_next HX.out hq hd.out
        go_wp2_with (go_at_fn g; refine hcall.mono ?_; rintro e w1 ⟨rfl, hb1⟩)
        go_roundw
        case rel => exact ⟨k + 1, by go_num, hlt, hd2, hb.trans (hb1.mono hb.size)⟩
        case measure => simp [intOf]; omega
    · have e : B = false := by
        rw [HB.out]
        have := hd.out
        rw [List.take_of_length_le (by omega)] at this; exact this
      subst e
      go_wp2_with fail
      refine bodyPost_ret (v := .int .i64 (-1)) (by simp [results, Tryz.results57, go_sem]) rfl ⟨⟨_, rfl, rfl⟩, hb⟩
set_option maxHeartbeats 4000000 in
set_option maxRecDepth 1000000 in
theorem ContainsFuncIn (l : List Int) (P : Option Addr) (C : Nat) (p : Int → Bool) (g : Nat) (lb : Array Value) (eg : ∀ args w, (callFunc g args).run Tryz.prog w = .ok (.enter g args) w) (w : World) (hl : inIn w P l) (hn : l.length ≤ 100000000)
    (hp : Hid (∀ (W : World) (x : Int) , x ∈ l → Below w.heap.size w W → Calls Tryz.prog g (#[.int .i64 x] ++ lb) W fun e w' => e = .returned (.bool (p x)) ∧ Below W.heap.size W w')) :
    Calls Tryz.prog 41 #[.slice P l.length C, .func (.func g) #[] lb] w fun e w' => e = .returned (.bool (l.any p)) ∧ Below w.heap.size w w' := by
  have IX : Hid (Calls Tryz.prog 57 #[.slice P l.length C, .func (.func g) #[] lb] w fun e w' => IxQ (l.any p) e ∧ Below w.heap.size w w') := IndexFuncIn l P C p g lb eg w hl hn hp
  generalize l.any p = B at *
  clear hp hl
  go_enter Tryz.func41, Tryz.ntmps41
  go_wp2_with (go_at_call 57; refine IX.out.mono ?_; rintro e w1 ⟨⟨r, rfl, hr⟩, hb⟩)
  go_ret
  exact ⟨by rw [← hr]; rfl, hb⟩

set_option maxHeartbeats 4000000 in
set_option maxRecDepth 1000000 in
theorem Index_any (l : List Int) (P : Option Addr) (C : Nat) (v : Int) (w : World) (hl : inIn w P l) (hn : l.length ≤ 100000000) :
    Calls Tryz.prog 58 #[.slice P l.length C, .int .i64 v] w fun e w' => IxQ (l.any fun x => v == x) e ∧ w' = w := by
  obtain ⟨B, hB⟩ : ∃ B, B = l.any fun x => v == x := ⟨_, rfl⟩
  rw [← hB]
  have HB := mkHid hB
  clear hB
  go_enter Tryz.func58, Tryz.ntmps58
  go_wp2_with fail
  go_loop [5, 8] (fun _ s8 => ∃ k : Nat, s8 = .int .i64 k ∧ k ≤ l.length ∧ Hid ((l.take k).any (fun x => v == x) = false)) (fun _ sk => l.length - (intOf sk).toNat)
  case atStart => exact ⟨0, rfl, Nat.zero_le _, rfl⟩
  case round =>
    obtain ⟨k, rfl, hk, hd⟩ := hrel
    by_cases hlt : k < l.length
    · obtain ⟨x, hx⟩ : ∃ x, l[k]? = some x := ⟨l[k], List.getElem?_eq_getElem hlt⟩
      rcases hl with rfl | ⟨b, o, rfl, hg, hcs⟩
      · simp at hx
      have c0 := hcs k x hx
      have HX := mkHid hx
      clear hcs hx
      cases hq : v == x with
      | true =>
        have e : B = true := by rw [HB.out]; exact any_hit HX.out hq
        subst e
        go_wp2_with fail
        refine bodyPost_ret (v := .int .i64 k) (by simp [results, Tryz.results58, go_sem]) rfl ⟨⟨_, rfl, by simp⟩, rfl⟩
      | false =>
        have hd2 : Hid ((l.take (k + 1)).any (fun x => v == x) = false) := any_next HX.out hq hd.out
        go_wp2_with fail
        go_round
        case rel => exact ⟨k + 1, by go_num, hlt, hd2⟩
        case measure => simp [intOf]; omega
    · have e : B = false := by
        rw [HB.out]
        have := hd.out
        rw [List.take_of_length_le (by omega)] at this; exact this
      subst e
      go_wp2_with fail
      refine bodyPost_ret (v := .int .i64 (-1)) (by simp [results, Tryz.results58, go_sem]) rfl ⟨⟨_, rfl, rfl⟩, rfl⟩
theorem any_mem (l : List Int) (v : Int) : (l.any fun x => v == x) = decide (v ∈ l) := by
  by_cases h : v ∈ l
  · rw [decide_eq_true h, List.any_eq_true]; exact ⟨v, h, by simp⟩
  · rw [decide_eq_false h, List.any_eq_false]
    intro x hx e
    exact h (by rw [beq_iff_eq] at e; rw [e]; exact hx)
set_option maxHeartbeats 4000000 in
set_option maxRecDepth 1000000 in
theorem Contains_any (l : List Int) (P : Option Addr) (C : Nat) (v : Int) (w : World) (hl : inIn w P l) (hn : l.length ≤ 100000000) :
    Calls Tryz.prog 42 #[.slice P l.length C, .int .i64 v] w fun e w' => e = .returned (.bool (decide (v ∈ l))) ∧ w' = w := by
  have IX : Hid (Calls Tryz.prog 58 #[.slice P l.length C, .int .i64 v] w fun e w' => IxQ (l.any fun x => v == x) e ∧ w' = w) := Index_any l P C v w hl hn
  rw [← any_mem]
  generalize (l.any fun x => v == x) = B at *
  clear hl
  go_enter Tryz.func42, Tryz.ntmps42
  go_wp2_with (go_at_call 58; refine IX.out.mono ?_; rintro e wx ⟨⟨r, rfl, hr⟩, hwx⟩; have hwx2 := hwx.symm; subst hwx2; clear hwx)
  go_ret
  exact ⟨by rw [← hr]; rfl, rfl⟩
end Go.Proofs.YtecebjfcokmmkaaGreatDoor
