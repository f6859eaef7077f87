/-
  A disk whose own block alone has changed: SyncNames, Stop; the walk of simfs.Crash.
-/
import Derived.Test.YtdiehlioemmakaaDkOqx
import Derived.Laws.IdiomStrings
import Derived.Laws.BytesString
import Derived.ProofKit
import Derived.OpenShut
import Derived.WideKeyArgs
import Derived.Deep.Slices
import Derived.Deep.Strs
import Derived.ChangeOld
import Derived.Lib.SmallJoins
import Derived.Test.YtdiehlioemmakaaVA
namespace Go.Proofs.Ytdiehlioemmakaa
open Go.RowKit Go.Maps Go.Joins Go.Sort

theorem lost_sub : ∀ {us' us : List Un}, us'.Sublist us → (us'.flatMap Un.lost).Sublist (us.flatMap Un.lost)
  | _, _, .slnil => List.Sublist.refl _
  | _, _, .cons a h => by rw [List.flatMap_cons]; exact (lost_sub h).trans (List.sublist_append_right _ _)
  | _, _, .cons_cons a h => by rw [List.flatMap_cons, List.flatMap_cons]; exact List.Sublist.append (List.Sublist.refl _) (lost_sub h)
/-- the disk's own block alone has changed, and fewer changes of names are open -/
theorem Disk.own {w w' : World} {base f m : Nat} {q : Int} {xs : List (List UInt8 × Fl)} {us us' : List Un} {ov : Value} (h : Disk w base f q m xs us) (hc : Chg (fun i => i = f) w w') (hF : FsAt w' f q (some m) ov 0) (hr : w'.ownsRow base 72 1 ov us'.length (us'.map Un.val)) (hs : us'.Sublist us) :
    Disk w' base f q m xs us' ∧ Below base w w' := by
  obtain ⟨ov0, h1, h2⟩ := h.fs
  have kf : ∀ i, i = f → ∃ cs, w.heap[i]? = some (.cells cs 67 (0, 0)) := fun i e => by subst e; exact ⟨_, h1⟩
  refine ⟨⟨Nat.le_trans h.bs hc.size, h.fge, h.mge, ⟨ov, hF, hr⟩, hc.map h.mp (fun e => ?_), ?_, fun u hu => hc.un (h.un u (hs.subset hu)) (fun r e => ?_)⟩, hc.below h.bs (fun i e => by subst e; exact h.fge)⟩
  · obtain ⟨cs, hk⟩ := kf _ e
    obtain ⟨es, c, hk'⟩ := h.mp.kind
    rw [hk'] at hk; cases hk
  · refine (hc.files h.fl (fun r e => ?_)).sub (List.Sublist.append (List.Sublist.refl _) (lost_sub hs))
    obtain ⟨cs, hk⟩ := kf _ e
    exact other_cells hk (by decide) (by decide)
  · obtain ⟨cs, hk⟩ := kf _ e
    exact plainB_cells hk (by decide) (by decide)
end Go.Proofs.Ytdiehlioemmakaa

namespace Go.Proofs.Ytdiehlioemmakaa
open Go.RowKit Go.Maps Go.Joins Go.Sort

theorem conv_own {w : World} {base : Nat} {v : Value} {l : List UInt8} (h : ownsB w base v l) : (convert 27 9 v).run Try.prog w = .ok (.string ⟨l.toArray⟩) w := by
  rcases h.2 with ⟨rfl, h0⟩ | ⟨g, cap, cur, rfl, _, hcur, _⟩
  · obtain rfl : l = [] := List.eq_nil_of_length_eq_zero h0
    rw [run_convert_bytes_string w 27 9 5 none 0 0 u8Slice u8T strT]
    rfl
  · refine run_convert_bytes_back (P := Try.prog) w 27 9 5 ⟨g, 0, none⟩ cap l u8Slice u8T strT (fun j hj => ?_)
    rw [add_plain, Nat.zero_add]
    have := World.ownsRow.cellAt h j (by omega)
    rw [this, by8, List.getElem?_map, List.getElem?_eq_getElem hj]; rfl
end Go.Proofs.Ytdiehlioemmakaa

namespace Go.Proofs.Ytdiehlioemmakaa
open Go.RowKit Go.Maps Go.Joins Go.Sort

theorem byIn.below {w w' : World} {P : Option Addr} {l : List UInt8} (h : byIn w P l) (hb : Below w.heap.size w w') : byIn w' P l := by
  rcases h with h | ⟨a, e, hc⟩
  · exact Or.inl h
  · exact Or.inr ⟨a, e, fun i x hx => (hb.cell (p := a.add i) (World.block_lt_of_cell? w (a.add i) (hc i x hx))).trans (hc i x hx)⟩
theorem intIn.below {w w' : World} {P : Option Addr} {l : List Int} (h : intIn w P l) (hb : Below w.heap.size w w') : intIn w' P l := by
  rcases h with h | ⟨g, off, e, hc⟩
  · exact Or.inl h
  · exact Or.inr ⟨g, off, e, fun i x hx => (hb.cell (p := ⟨g, off + i, none⟩) (World.block_lt_of_cell? w ⟨g, off + i, none⟩ (hc i x hx))).trans (hc i x hx)⟩
theorem conv_by {w : World} {P : Option Addr} {l : List UInt8} {C : Nat} (h : byIn w P l) (hC : P = none → C = 0) : (convert 27 9 (.slice P l.length C)).run Try.prog w = .ok (.string ⟨l.toArray⟩) w := by
  rcases h with ⟨rfl, rfl⟩ | ⟨a, rfl, hc⟩
  · obtain rfl := hC rfl
    exact conv_own (ownsB_nil w 0)
  · refine run_convert_bytes_back (P := Try.prog) w 27 9 5 a C l u8Slice u8T strT (fun j hj => ?_)
    exact hc j _ (List.getElem?_eq_getElem hj)
end Go.Proofs.Ytdiehlioemmakaa

namespace Go.Proofs.Ytdiehlioemmakaa
open Go.ChangeShapes Go.WideShapes Go.ChangeAt Go.RowKit Go.Lib Go.Joins Go.Deep

set_option maxRecDepth 100000
theorem laidOut' : laidOutB Try.prog = true := by kernel_rfl
theorem cellsU8 : Try.prog.cellsOf 5 = 1 := by kernel_rfl
theorem cellsI : Try.prog.cellsOf 3 = 1 := by kernel_rfl
/-- what came in reads as before where all that lay there is as it was -/
theorem all_stay {H : Type} {enc : TypeId × Value → H} {W W' : World} (hb : Below W.heap.size W W') : ∀ {ts : List TypeId} {vs : List Value} {ds : List (DataW H)} {ps : List MemPlace}, (∀ t ∈ ts, Try.prog.readableRec t = true ∧ t < Try.prog.types.size) →
    (∀ p ∈ ps, p.block < W.heap.size) → DataW.TrodAll enc Try.prog W 0 (fun _ => true) true ts vs ds ps → DataW.TrodAll enc Try.prog W' 0 (fun b => decide (b < W.heap.size)) true ts vs ds ps
  | [], [], [], _, _, _, h => h
  | t :: ts, v :: vs, d :: ds, ps, ht, hp, ⟨p, q, h1, h2, e⟩ => by
    subst e
    refine ⟨p, q, WideElems.Trod_stays laidOut' (ht t List.mem_cons_self).1 (ht t List.mem_cons_self).2 h1 (fun x hx => hb.same (hp x (List.mem_append_left _ hx))) (fun x hx => by simpa using hp x (List.mem_append_left _ hx)), ?_, rfl⟩
    exact all_stay hb (fun t h => ht t (List.mem_cons_of_mem _ h)) (fun x hx => hp x (List.mem_append_right _ hx)) h2
  | [], _ :: _, _, _, _, _, h => h.elim
  | [], [], _ :: _, _, _, _, h => h.elim
  | _ :: _, [], _, _, _, _, h => h.elim
  | _ :: _, _ :: _, [], _, _, _, h => h.elim
end Go.Proofs.Ytdiehlioemmakaa

namespace Go.Proofs.Ytdiehlioemmakaa
open Go.RowKit

/-- names with the numbers of their files -/
abbrev Ws := List (List UInt8 × Nat)
/-- the document's disk -/
structure St where
  q : Int
  fs : List (List UInt8 × Nat)
  ways : List Ws
  left : Int
  dead : Bool
/-- a name can be -/
def nmOk (l : List UInt8) : Bool := decide (1 ≤ l.length) && decide (l.length ≤ 64) && l.all fun b => decide (33 ≤ b.toNat) && decide (b.toNat ≤ 126)
/-- the file of a name; below 0: none -/
def fnd (s : List UInt8) : Ws → Int
  | [] => -1
  | p :: r => if p.1 = s then (p.2 : Int) else fnd s r
/-- names with one that stands for a file (below 0: for none) -/
def wth (s : List UInt8) (k : Int) : Bool → Ws → Ws
  | put, [] => if put then [] else [(s, k.toNat)]
  | put, p :: r => (if !put && !Op.bytesLess p.1 s then [(s, k.toNat)] else []) ++ ((if p.1 = s then [] else [p]) ++ wth s k (put || !Op.bytesLess p.1 s) r)
/-- how many bytes the files of names have -/
def usd (fs : List (List UInt8 × Nat)) : Ws → Nat
  | [] => 0
  | p :: r => (fs.getD p.2 ([], 0)).1.length + usd fs r
/-- a change that would be done -/
def stp (s : St) : St × Bool :=
  if s.dead = true then (s, true) else if s.left = 1 then ({ s with dead := true }, true) else if 1 < s.left then ({ s with left := s.left - 1 }, false) else (s, false)
def St.now (s : St) : Ws := s.ways.getLastD []

/-- cells of a slice of elements of one cell, not in a block -/
def rd1 (F : Nat → Prop) (w : World) (f : Nat) (v : Value) (us : List Value) : Prop := ∃ (p : Option Addr) (c : Nat), v = .slice p us.length c ∧ us.length ≤ c ∧ c ≤ 9223372036854775807 ∧ (p = none → c = 0) ∧ (us = [] ∨ ∃ g o, p = some ⟨g, o, none⟩ ∧ (g ≠ f ∧ ¬ F g) ∧ ∀ i u, us[i]? = some u → w.cell? ⟨g, o + i, none⟩ = some u)
/-- and of elements of two cells -/
def rd2 (F : Nat → Prop) (w : World) (f : Nat) (v : Value) (us : List (Value × Value)) : Prop := ∃ (p : Option Addr) (c : Nat), v = .slice p us.length c ∧ us.length ≤ c ∧ c ≤ 9223372036854775807 ∧ (p = none → c = 0) ∧ (us = [] ∨ ∃ g o, p = some ⟨g, o, none⟩ ∧ (g ≠ f ∧ ¬ F g) ∧ ∀ i u, us[i]? = some u → w.cell? ⟨g, o + i * 2, none⟩ = some u.1 ∧ w.cell? ⟨g, o + i * 2 + 1, none⟩ = some u.2)
def strV (l : List UInt8) : Value := .string ⟨l.toArray⟩
def intV (n : Nat) : Value := .int .i64 (n : Int)
/-- a file's two cells -/
def fileIn (F : Nat → Prop) (w : World) (f : Nat) (u : Value × Value) (x : List UInt8 × Nat) : Prop := u.2 = intV x.2 ∧ rd1 F w f u.1 (by8 x.1)
/-- a way's two cells -/
def wayIn (F : Nat → Prop) (w : World) (f : Nat) (u : Value × Value) (x : Ws) : Prop := rd1 F w f u.1 (x.map fun p => strV p.1) ∧ rd1 F w f u.2 (x.map fun p => intV p.2)
/-- a list of them -/
def listIn {α : Type} (F : Nat → Prop) (R : World → Nat → Value × Value → α → Prop) (w : World) (f : Nat) (v : Value) (l : List α) : Prop := ∃ us : List (Value × Value), us.length = l.length ∧ rd2 F w f v us ∧ ∀ (i : Nat) (u : Value × Value) (x : α), us[i]? = some u → l[i]? = some x → R w f u x
/-- the document's disk in memory -/
structure Rf (F : Nat → Prop) (w : World) (f : Nat) (s : St) : Prop where
  fs : ∃ vF vW, w.heap[f]? = some (.cells #[.int .i64 s.q, vF, vW, .int .i64 s.left, .bool s.dead] 76 (0, 0)) ∧ listIn F (fileIn F) w f vF s.fs ∧ listIn F (wayIn F) w f vW s.ways
  ne : s.ways ≠ []
  fb : ∀ i, F i → i < w.heap.size
/-- nothing but one block has changed -/
def Keep (f : Nat) (w w' : World) : Prop := Chg (fun i => i = f) w w'
theorem Keep.cell {F : Nat → Prop} {f : Nat} {w w' : World} (h : Keep f w w') {g o : Nat} {u : Value} (hg : g ≠ f ∧ ¬ F g) (hc : w.cell? ⟨g, o, none⟩ = some u) : w'.cell? ⟨g, o, none⟩ = some u := by
  have hl := World.block_lt_of_cell? w _ hc
  have := h.block g hl hg.1
  unfold World.cell? at hc ⊢
  simp only at hc hl this ⊢
  rw [this]; exact hc
theorem rd1.kept {F : Nat → Prop} {f : Nat} {w w' : World} {v : Value} {us : List Value} (h : rd1 F w f v us) (hk : Keep f w w') : rd1 F w' f v us := by
  obtain ⟨p, c, h1, h2, h3, h4, h5⟩ := h
  refine ⟨p, c, h1, h2, h3, h4, ?_⟩
  rcases h5 with h5 | ⟨g, o, e, hg, h5⟩
  · exact Or.inl h5
  · exact Or.inr ⟨g, o, e, hg, fun i u hi => hk.cell hg (h5 i u hi)⟩
theorem rd2.kept {F : Nat → Prop} {f : Nat} {w w' : World} {v : Value} {us : List (Value × Value)} (h : rd2 F w f v us) (hk : Keep f w w') : rd2 F w' f v us := by
  obtain ⟨p, c, h1, h2, h3, h4, h5⟩ := h
  refine ⟨p, c, h1, h2, h3, h4, ?_⟩
  rcases h5 with h5 | ⟨g, o, e, hg, h5⟩
  · exact Or.inl h5
  · exact Or.inr ⟨g, o, e, hg, fun i u hi => ⟨hk.cell hg (h5 i u hi).1, hk.cell hg (h5 i u hi).2⟩⟩
theorem fileIn.kept {F : Nat → Prop} {f : Nat} {w w' : World} {u : Value × Value} {x : List UInt8 × Nat} (h : fileIn F w f u x) (hk : Keep f w w') : fileIn F w' f u x := ⟨h.1, h.2.kept hk⟩
theorem wayIn.kept {F : Nat → Prop} {f : Nat} {w w' : World} {u : Value × Value} {x : Ws} (h : wayIn F w f u x) (hk : Keep f w w') : wayIn F w' f u x := ⟨h.1.kept hk, h.2.kept hk⟩
theorem listIn.kept {α : Type} {F : Nat → Prop} {R : World → Nat → Value × Value → α → Prop} (hR : ∀ {f : Nat} {w w' : World} {u : Value × Value} {x : α}, R w f u x → Keep f w w' → R w' f u x) {f : Nat} {w w' : World} {v : Value} {l : List α} (h : listIn F R w f v l) (hk : Keep f w w') : listIn F R w' f v l := by
  obtain ⟨us, h1, h2, h3⟩ := h
  exact ⟨us, h1, h2.kept hk, fun i u x hu hx => hR (h3 i u x hu hx) hk⟩
theorem Keep.refl (f : Nat) (w : World) : Keep f w w := Chg.refl _ w
theorem Keep.trans {f : Nat} {a b c : World} (h : Keep f a b) (k : Keep f b c) : Keep f a c := Chg.trans h k
theorem Keep.alloc {f : Nat} {w : World} (o : Obj) : Keep f w (w.alloc o) := Chg.of_alloc w o _
theorem Keep.grown {f : Nat} {w w' : World} (h : w.grownBy w' none) : Keep f w w' := Chg.of_none h _
end Go.Proofs.Ytdiehlioemmakaa

namespace Go.Proofs.Ytdiehlioemmakaa
open Go.RowKit

theorem size_mkE (l : List UInt8) : (ByteArray.mk l.toArray).size = l.length := by simp [ByteArray.size]
theorem get_mkE {l : List UInt8} {k : Nat} {x : UInt8} (h : l[k]? = some x) : ∃ hk : k < (ByteArray.mk l.toArray).size, (ByteArray.mk l.toArray)[k]'hk = x := by
  have hl := (List.getElem?_eq_some_iff.1 h).1
  refine ⟨by rw [size_mkE]; exact hl, ?_⟩
  have e := (List.getElem?_eq_some_iff.1 h).2
  show (l.toArray)[k] = x
  rw [List.getElem_toArray]; exact e
def chOk (b : UInt8) : Bool := decide (33 ≤ b.toNat) && decide (b.toNat ≤ 126)
theorem nmOk_eq (l : List UInt8) : nmOk l = (decide (1 ≤ l.length) && decide (l.length ≤ 64) && l.all chOk) := rfl
theorem all_nextE {l : List UInt8} {k : Nat} {x : UInt8} (h : l[k]? = some x) : (l.take (k + 1)).all chOk = ((l.take k).all chOk && chOk x) := by
  rw [List.take_add_one, h, List.all_append]; simp
theorem all_badE {l : List UInt8} {k : Nat} {x : UInt8} (h : l[k]? = some x) (hx : chOk x = false) : l.all chOk = false := by
  cases e : l.all chOk
  · rfl
  · rw [List.all_eq_true.1 e x (List.mem_of_getElem? h)] at hx; cases hx
set_option maxHeartbeats 2000000 in
set_option maxRecDepth 1000000 in
theorem refName_any (l : List UInt8) (w : World) : Calls Try.prog 64 #[.string ⟨l.toArray⟩] w fun e w' => e = .returned (.bool (nmOk l)) ∧ w' = w := by
  have hz := size_mkE l
  obtain ⟨B, hB⟩ : ∃ B, B = nmOk l := ⟨_, rfl⟩
  rw [← hB]
  rw [nmOk_eq] at hB
  have HB : Hid (B = (decide (1 ≤ l.length) && decide (l.length ≤ 64) && l.all chOk)) := hB
  clear hB
  by_cases h1 : l.length < 1
  · have hE : B = false := by rw [HB.out, decide_eq_false (by omega)]; rfl
    subst hE
    have h1i : (l.length : Int) < 1 := by omega
    clear HB
    go_enter Try.func64, Try.ntmps64
    go_wp2_with fail
    go_ret
    exact ⟨rfl, rfl⟩
  have h1i : ¬ (l.length : Int) < 1 := by omega
  by_cases h2 : 64 < l.length
  · have hE : B = false := by rw [HB.out, decide_eq_false (p := l.length ≤ 64) (by omega), Bool.and_false]; rfl
    subst hE
    have h2i : (64 : Int) < (l.length : Int) := by omega
    clear HB
    go_enter Try.func64, Try.ntmps64
    go_wp2_with fail
    go_ret
    exact ⟨rfl, rfl⟩
  have h2i : ¬ (64 : Int) < (l.length : Int) := by omega
  have HB2 : Hid (B = l.all chOk) := by show B = _; rw [HB.out, decide_eq_true (by omega), decide_eq_true (p := l.length ≤ 64) (by omega)]; rfl
  clear HB
  go_enter Try.func64, Try.ntmps64
  go_wp2_with fail
  go_loopw [3] (fun s3 wr => ∃ (k : Nat), s3 = .int .i64 k ∧ k ≤ l.length ∧ Hid ((l.take k).all chOk = true) ∧ wr = w) (fun s3 _ => l.length - (intOf s3).toNat)
  case atStart => exact ⟨0, rfl, Nat.zero_le _, rfl, rfl⟩
  case round =>
    obtain ⟨k, rfl, hk, hn, rfl⟩ := hrel
    by_cases hlt : k < l.length
    · obtain ⟨x, hx⟩ : ∃ x, l[k]? = some x := ⟨l[k], List.getElem?_eq_getElem hlt⟩
      have hgx := get_mkE hx
      obtain ⟨hgl, hgx⟩ := hgx
      have hlti : (k : Int) < (l.length : Int) := by omega
      by_cases c1 : x.toNat < 33
      · have hc : chOk x = false := by unfold chOk; rw [decide_eq_false (by omega)]; rfl
        have hE : B = false := by rw [HB2.out]; exact all_badE hx hc
        subst hE
        have c1i : (x.toNat : Int) < 33 := by omega
        clear HB2 hn hx hc
        go_wp2_with fail
        go_ret
        exact ⟨rfl, rfl⟩
      have c1i : ¬ (x.toNat : Int) < 33 := by omega
      by_cases c2 : 126 < x.toNat
      · have hc : chOk x = false := by unfold chOk; rw [decide_eq_false (p := x.toNat ≤ 126) (by omega), Bool.and_false]
        have hE : B = false := by rw [HB2.out]; exact all_badE hx hc
        subst hE
        have c2i : (126 : Int) < (x.toNat : Int) := by omega
        clear HB2 hn hx hc
        go_wp2_with fail
        go_ret
        exact ⟨rfl, rfl⟩
      have c2i : ¬ (126 : Int) < (x.toNat : Int) := by omega
      have hn2 : Hid ((l.take (k + 1)).all chOk = true) := by
        show _ = _
        rw [all_nextE hx, hn.out]
        unfold chOk
        rw [decide_eq_true (p := 33 ≤ x.toNat) (by omega), decide_eq_true (p := x.toNat ≤ 126) (by omega)]; rfl
      clear hn hx
      go_wp2_with fail
      go_roundw
      case rel => exact ⟨k + 1, by go_num, hlt, hn2, by trivial⟩
      case measure => simp [intOf]; omega
    · have hlti : ¬ (k : Int) < (l.length : Int) := by omega
      have hE : B = true := by
        rw [HB2.out]
        have := hn.out
        rw [List.take_of_length_le (by omega)] at this
        exact this
      subst hE
      clear HB2 hn
      go_wp2_with fail
      go_ret
      exact ⟨rfl, rfl⟩
/-- the block of the document's disk -/
def RB (w : World) (f : Nat) (q left : Int) (vF vW : Value) (dead : Bool) : Prop := w.heap[f]? = some (.cells #[.int .i64 q, vF, vW, .int .i64 left, .bool dead] 76 (0, 0))
theorem RB.c {w : World} {f : Nat} {q left : Int} {vF vW : Value} {dead : Bool} (h : RB w f q left vF vW dead) : w.cell? ⟨f, 0, none⟩ = some (.int .i64 q) ∧ w.cell? ⟨f, 1, none⟩ = some vF ∧ w.cell? ⟨f, 2, none⟩ = some vW ∧ w.cell? ⟨f, 3, none⟩ = some (.int .i64 left) ∧ w.cell? ⟨f, 4, none⟩ = some (.bool dead) ∧ (∀ i, w.frozen? ⟨f, i, none⟩ = false) :=
  ⟨(Joins.cell_of_block h 0).trans rfl, (Joins.cell_of_block h 1).trans rfl, (Joins.cell_of_block h 2).trans rfl, (Joins.cell_of_block h 3).trans rfl, (Joins.cell_of_block h 4).trans rfl, fun i => Joins.unfrozen_of_block h i⟩
theorem RB.set {w : World} {f : Nat} {q left : Int} {vF vW : Value} {dead : Bool} (h : RB w f q left vF vW dead) : (∀ n : Int, RB (w.setCell ⟨f, 3, none⟩ (.int .i64 n)) f q n vF vW dead) ∧ (∀ b : Bool, RB (w.setCell ⟨f, 4, none⟩ (.bool b)) f q left vF vW b) ∧ (∀ v, RB (w.setCell ⟨f, 1, none⟩ v) f q left v vW dead) ∧ (∀ v, RB (w.setCell ⟨f, 2, none⟩ v) f q left vF v dead) := by
  refine ⟨fun n => ?_, fun b => ?_, fun v => ?_, fun v => ?_⟩
  · exact (heap_setCell_same w f 3 _ _ _ h).trans rfl
  · exact (heap_setCell_same w f 4 _ _ _ h).trans rfl
  · exact (heap_setCell_same w f 1 _ _ _ h).trans rfl
  · exact (heap_setCell_same w f 2 _ _ _ h).trans rfl
theorem Keep.set (w : World) (f i : Nat) (v : Value) : Keep f w (w.setCell ⟨f, i, none⟩ v) := Chg.of_cell w ⟨f, i, none⟩ v
set_option maxHeartbeats 2000000 in
set_option maxRecDepth 1000000 in
theorem stops_any (f : Nat) (q left : Int) (vF vW : Value) (dead : Bool) (w : World) (hl : -9223372036854775808 ≤ left ∧ left ≤ 9223372036854775807) (h : RB w f q left vF vW dead) :
    Calls Try.prog 67 #[.pointer (some ⟨f, 0, none⟩)] w fun e w' => e = .returned (.bool (stp ⟨q, [], [], left, dead⟩).2) ∧ RB w' f q (stp ⟨q, [], [], left, dead⟩).1.left vF vW (stp ⟨q, [], [], left, dead⟩).1.dead ∧ Keep f w w' := by
  obtain ⟨c0, c1, c2, c3, c4, fr⟩ := h.c
  obtain ⟨s3, s4, _, _⟩ := h.set
  have f3 := fr 3
  have f4 := fr 4
  have K0 : Hid (∀ i v, Keep f w (w.setCell ⟨f, i, none⟩ v)) := fun i v => Keep.set w f i v
  have H0 : Hid (RB w f q left vF vW dead) := h
  have S3 : Hid (∀ n : Int, RB (w.setCell ⟨f, 3, none⟩ (.int .i64 n)) f q n vF vW dead) := s3
  have S4 : Hid (∀ b : Bool, RB (w.setCell ⟨f, 4, none⟩ (.bool b)) f q left vF vW b) := s4
  have hw := (World.block_lt_of_cell? w _ c0)
  clear h s3 s4 fr
  cases dead with
  | true =>
    have e : stp ⟨q, [], [], left, true⟩ = (⟨q, [], [], left, true⟩, true) := rfl
    rw [e]
    go_enter Try.func67, Try.ntmps67
    go_wp2_with fail
    go_ret
    exact ⟨rfl, H0.out, Keep.refl _ _⟩
  | false =>
    by_cases h1 : left = 1
    · subst h1
      have e : stp ⟨q, [], [], 1, false⟩ = (⟨q, [], [], 1, true⟩, true) := rfl
      rw [e]
      have k4 := (S4.out true).c.2.2.2.2.1
      go_enter Try.func67, Try.ntmps67
      go_wp2_with fail
      go_ret
      exact ⟨rfl, S4.out true, K0.out _ _⟩
    · have b1 : (left == 1) = false := by rw [beq_eq_false_iff_ne]; exact h1
      by_cases h2 : 1 < left
      · have e : stp ⟨q, [], [], left, false⟩ = (⟨q, [], [], left - 1, false⟩, false) := by unfold stp; simp [h1, h2]
        rw [e]
        have hr : -9223372036854775808 ≤ left - 1 ∧ left - 1 ≤ 9223372036854775807 := by omega
        have k4 := (S3.out (left - 1)).c.2.2.2.2.1
        clear e h1
        go_enter Try.func67, Try.ntmps67
        go_wp2_with fail
        go_ret
        exact ⟨rfl, S3.out _, K0.out _ _⟩
      · have e : stp ⟨q, [], [], left, false⟩ = (⟨q, [], [], left, false⟩, false) := by unfold stp; simp [h1, h2]
        rw [e]
        clear e h1
        go_enter Try.func67, Try.ntmps67
        go_wp2_with fail
        go_ret
        exact ⟨rfl, H0.out, Keep.refl _ _⟩
end Go.Proofs.Ytdiehlioemmakaa

