/-
  The reference's in, number, scaled; what its Check tells of two.
-/
import Derived.Test.YtppcoimfgafbfaaGreatDoorReG
import Derived.Test.YtppcoimfgafbfaaGreatDoorChkBoth
namespace Go.Proofs.YtppcoimfgafbfaaGreatDoor
open Go.RowKit Go.Shelf

def strsAt (w : World) (g : Nat) (l : List ByteArray) : Prop := g < w.heap.size ∧ ∀ i x, l[i]? = some x → w.cell? ⟨g, i, none⟩ = some (.string x)
def inL (l : List ByteArray) (s : ByteArray) : Bool := l.any fun x => x.toList == s.toList
set_option maxHeartbeats 1000000 in
set_option maxRecDepth 1000000 in
theorem in_any (g c : Nat) (l : List ByteArray) (s : ByteArray) (w : World) (hl : l.length ≤ 1000) (hv : strsAt w g l) :
    Calls Tryz.prog 15 #[.slice (some ⟨g, 0, none⟩) l.length c, .string s] w fun e w' => e = .returned (.bool (inL l s)) ∧ w' = w := by
  obtain ⟨E, hE⟩ : ∃ E, E = inL l s := ⟨_, rfl⟩
  rw [← hE]
  have HE : Hid (E = inL l s) := hE
  clear hE
  go_enter Tryz.func15, Tryz.ntmps15
  go_wp2_with fail
  go_loop [5] (fun sk => ∃ k : Nat, sk = .int .i64 k ∧ k ≤ l.length ∧ Hid (E = inL (l.drop k) s)) (fun sk => l.length - (intOf sk).toNat)
  case atStart => exact ⟨0, rfl, Nat.zero_le _, HE⟩
  case round =>
    obtain ⟨k, rfl, hk, hd⟩ := hrel
    clear HE
    by_cases hlt : k < l.length
    · obtain ⟨v, hvk⟩ : ∃ v, l[k]? = some v := ⟨l[k], List.getElem?_eq_getElem hlt⟩
      have d1 := hv.2 k v hvk
      rw [drop_at hvk] at hd
      cases h0 : (v.toList == s.toList)
      · have hd2 : Hid (E = inL (l.drop (k + 1)) s) := by show _ = _; rw [hd.out, inL, List.any_cons, h0]; rfl
        clear hd
        go_wp2_with fail
        go_round
        case rel => exact ⟨k + 1, by go_num, hlt, hd2⟩
        case measure => simp [intOf]; omega
      · have hd2 : E = true := by rw [hd.out, inL, List.any_cons, h0]; rfl
        subst hd2
        clear hd
        go_wp2_with fail
        go_ret
        exact ⟨rfl, rfl⟩
    · have hE : E = false := by have := hd.out; rw [List.drop_eq_nil_of_le (by omega)] at this; exact this
      subst hE
      go_wp2_with fail
      go_ret
      exact ⟨rfl, rfl⟩
/-- the four signs -/
def ops4 : List ByteArray := [⟨#[43]⟩, ⟨#[45]⟩, ⟨#[42]⟩, ⟨#[47]⟩]
theorem strsAt_four (w : World) (t : TypeId) : strsAt (w.alloc (.cells #[.string ⟨#[43]⟩, .string ⟨#[45]⟩, .string ⟨#[42]⟩, .string ⟨#[47]⟩] t)) w.heap.size ops4 := by
  refine ⟨by simp, ?_⟩
  intro i v hv
  have hi := (List.getElem?_eq_some_iff.1 hv).1
  simp only [ops4, List.length_cons, List.length_nil] at hi
  have : i = 0 ∨ i = 1 ∨ i = 2 ∨ i = 3 := by omega
  rcases this with rfl | rfl | rfl | rfl <;> (simp [ops4] at hv; subst hv; simp only [World.cell?, heap_alloc_new]; simp)
theorem strsAt_four3 (w : World) (o1 o2 o3 : Obj) (t : TypeId) : strsAt ((((w.alloc o1).alloc o2).alloc o3).alloc (.cells #[.string ⟨#[43]⟩, .string ⟨#[45]⟩, .string ⟨#[42]⟩, .string ⟨#[47]⟩] t)) (w.heap.size + 1 + 1 + 1) ops4 := by
  have h := strsAt_four (((w.alloc o1).alloc o2).alloc o3) t
  have e : (((w.alloc o1).alloc o2).alloc o3).heap.size = w.heap.size + 1 + 1 + 1 := by simp
  rw [e] at h
  exact h
theorem in_ops (op : ByteArray) : inL ops4 op = [[43], [45], [42], [47]].contains op.data.toList := by
  unfold inL ops4
  simp only [List.any_cons, List.any_nil, List.contains_cons, List.contains_nil, Lib.toList_data]
  generalize op.data.toList = l
  simp only [BEq.comm (a := l)]
set_option maxHeartbeats 1000000 in
theorem refNumber_any (v : Va) (w : World) : Calls Tryz.prog 17 #[.agg #[.int .i64 v.ty, .int .i64 v.n, .string v.s]] w fun e w' => e = .returned (.bool (grp v.ty == 1)) ∧ Below w.heap.size w w' := by
  have B0 : Hid (∀ o, Below w.heap.size w (w.alloc o)) := fun o => (Below.refl _ w).alloc (Nat.le_refl _) o
  obtain ⟨ty, n, s⟩ := v
  simp only
  rcases ty_cases ty with rfl | rfl | rfl | rfl | rfl | ⟨h0, h1, h2, h3, h4⟩
  · go_enter Tryz.func17, Tryz.ntmps17
    go_wp2
    go_ret
    exact ⟨rfl, B0.out _⟩
  · go_enter Tryz.func17, Tryz.ntmps17
    go_wp2
    go_ret
    exact ⟨rfl, B0.out _⟩
  · go_enter Tryz.func17, Tryz.ntmps17
    go_wp2
    go_ret
    exact ⟨rfl, B0.out _⟩
  · go_enter Tryz.func17, Tryz.ntmps17
    go_wp2
    go_ret
    exact ⟨rfl, B0.out _⟩
  · go_enter Tryz.func17, Tryz.ntmps17
    go_wp2
    go_ret
    exact ⟨rfl, B0.out _⟩
  · have hg : grp ty = 4 := by unfold grp; rw [if_neg h0, if_neg (by omega), if_neg h3, if_neg h4]
    rw [hg]
    have b1 : (ty == 1) = false := by rw [beq_eq_false_iff_ne]; exact h1
    have b2 : (ty == 2) = false := by rw [beq_eq_false_iff_ne]; exact h2
    clear h0 h1 h2 h3 h4
    go_enter Tryz.func17, Tryz.ntmps17
    go_wp2
    go_ret
    exact ⟨rfl, B0.out _⟩


set_option maxHeartbeats 1000000 in
set_option maxRecDepth 100000 in
theorem scaled_any (v : Va) (w : World) (hf : fit v.n) :
    Calls Tryz.prog 18 #[.agg #[.int .i64 v.ty, .int .i64 v.n, .string v.s]] w fun e w' => e = .returned (.tuple #[.int .i64 (ovV (pt v)), .bool (fitB (pt v))]) ∧ Below w.heap.size w w' := by
  obtain ⟨ty, n, s⟩ := v
  simp only
  simp only at hf
  by_cases h : ty = 2
  · subst h
    have e : pt ⟨2, n, s⟩ = n := if_pos rfl
    rw [e, ovV_in hf, fitB_in hf]
    go_enter Tryz.func18, Tryz.ntmps18
    go_wp2_with fail
    go_ret2
    exact ⟨rfl, (Below.refl _ w).alloc (Nat.le_refl _) _⟩
  · have e : pt ⟨ty, n, s⟩ = n * 10000 := if_neg h
    rw [e]
    have t2 : (ty == 2) = false := by rw [beq_eq_false_iff_ne]; exact h
    have PR : Hid (∀ w, Calls Tryz.prog 33 #[.int .i64 n, .int .i64 10000, .bool false] w fun e w' => e = .returned (.tuple #[.int .i64 (ovV (n * 10000)), .bool (fitB (n * 10000))]) ∧ Below w.heap.size w w') := fun w => product_whole n 10000 w hf (by unfold fit; omega)
    generalize ovV (n * 10000) = x at *
    generalize fitB (n * 10000) = y at *
    clear h e hf
    go_enter Tryz.func18, Tryz.ntmps18
    go_wp2_with fail
    refine (PR.out _).mono ?_
    rintro e w1 ⟨rfl, hb1⟩
    go_wp2_with fail
    go_ret2
    exact ⟨rfl, ((Below.refl _ w).alloc (Nat.le_refl _) _).trans (hb1.mono (by simp))⟩
theorem errs_two (a b : Va) : errs [a, b] = chk2 a.chk b.chk := by
  unfold chk2
  by_cases h : a.chk = 0
  · rw [errs_pass h, if_pos h]
    by_cases g : b.chk = 0
    · rw [errs_pass g, g]; rfl
    · rw [errs_stop g]
  · rw [errs_stop h, if_neg h]
theorem errs_one (a : Va) : errs [a] = a.chk := by
  by_cases g : a.chk = 0
  · rw [errs_pass g, g]; rfl
  · rw [errs_stop g]
theorem grp1_ty {t : Int} (h : grp t = 1) : t = 1 ∨ t = 2 := by
  unfold grp at h
  by_cases h0 : t = 0
  · rw [if_pos h0] at h; omega
  · rw [if_neg h0] at h
    by_cases h1 : t = 1 ∨ t = 2
    · exact h1
    · rw [if_neg h1] at h
      by_cases h3 : t = 3
      · rw [if_pos h3] at h; omega
      · rw [if_neg h3] at h; split at h <;> omega
end Go.Proofs.YtppcoimfgafbfaaGreatDoor
