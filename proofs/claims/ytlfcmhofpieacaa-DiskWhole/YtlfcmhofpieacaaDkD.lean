/-
  What a call changes, block by block; a disk as a whole.
-/
import Derived.Test.YtlfcmhofpieacaaDkC
namespace Go.Proofs.Ytlfcmhofpieacaa
open Go.RowKit Go.Maps Go.Joins

/-- the blocks of S alone have changed; there may be new ones -/
structure Chg (S : Nat → Prop) (w w' : World) : Prop where
  os : w'.os = w.os
  tape : w'.tape = w.tape
  output : w'.output = w.output
  size : w.heap.size ≤ w'.heap.size
  block : ∀ k, k < w.heap.size → ¬ S k → w'.heap[k]? = w.heap[k]?
theorem Chg.refl (S : Nat → Prop) (w : World) : Chg S w w := ⟨rfl, rfl, rfl, Nat.le_refl _, fun _ _ _ => rfl⟩
theorem Chg.of_grown {w w' : World} {row : Option Nat} (h : w.grownBy w' row) : Chg (fun i => row = some i) w w' := ⟨h.os, h.tape, h.output, h.size, fun k hk hn => h.block k hk (fun e => hn e.symm)⟩
theorem Chg.of_none {w w' : World} (h : w.grownBy w' none) (S : Nat → Prop) : Chg S w w' := ⟨h.os, h.tape, h.output, h.size, fun k hk _ => h.block k hk (by simp)⟩
theorem Chg.of_cell (w : World) (a : Addr) (u : Value) : Chg (fun i => i = a.block) w (w.setCell a u) := ⟨rfl, rfl, rfl, by simp, fun k _ hk => heap_setCell_other w a k u hk⟩
theorem Chg.of_alloc (w : World) (o : Obj) (S : Nat → Prop) : Chg S w (w.alloc o) := Chg.of_none (World.grownBy_alloc w o none) S
theorem Chg.mono {S T : Nat → Prop} {w w' : World} (h : Chg S w w') (hs : ∀ i, i < w.heap.size → S i → T i) : Chg T w w' := ⟨h.os, h.tape, h.output, h.size, fun k hk hn => h.block k hk (fun e => hn (hs k hk e))⟩
theorem Chg.trans {S : Nat → Prop} {a b c : World} (h : Chg S a b) (k : Chg S b c) : Chg S a c :=
  ⟨k.os.trans h.os, k.tape.trans h.tape, k.output.trans h.output, Nat.le_trans h.size k.size, fun i hi hn => (k.block i (Nat.lt_of_lt_of_le hi h.size) hn).trans (h.block i hi hn)⟩
theorem Chg.below {S : Nat → Prop} {w w' : World} {base : Nat} (h : Chg S w w') (hb : base ≤ w.heap.size) (hs : ∀ i, S i → base ≤ i) : Below base w w' :=
  ⟨h.os, h.tape, h.output, h.size, fun k hk => h.block k (Nat.lt_of_lt_of_le hk hb) (fun e => by have := hs k e; omega)⟩
theorem Chg.at_ {S : Nat → Prop} {w w' : World} {b : Nat} {o : Obj} (h : Chg S w w') (hb : w.heap[b]? = some o) (hn : ¬ S b) : w'.heap[b]? = some o := (h.block b (lt_of_heap hb) hn).trans hb
theorem Chg.row {S : Nat → Prop} {w w' : World} {base size n : Nat} {e : TypeId} {v : Value} {xs : List Value} (h : Chg S w w') (ho : w.ownsRow base e size v n xs) (hn : ∀ g, v.ownBlock = some g → ¬ S g) : w'.ownsRow base e size v n xs := by
  obtain ⟨hl, ho⟩ := ho
  refine ⟨hl, ?_⟩
  rcases ho with ho | ⟨g, cap, cur, rfl, h1, h2, h3⟩
  · exact Or.inl ho
  · exact Or.inr ⟨g, cap, cur, rfl, h1, h.at_ h2 (hn g rfl), h3⟩
theorem Chg.map {S : Nat → Prop} {w w' : World} {m : Nat} {xs : List (List UInt8 × Fl)} (h : Chg S w w') (hm : Mp w m xs) (hn : ¬ S m) : Mp w' m xs := by
  obtain ⟨es, clock, hb, F, hs, hD⟩ := hm
  exact ⟨es, clock, h.at_ hb hn, F, hs, hD⟩
theorem Chg.file {S : Nat → Prop} {w w' : World} {base : Nat} {x : Fl} (h : Chg S w w') (ho : FlOk w base x) (h1 : ¬ S x.b) (h2 : ∀ g, x.v.ownBlock = some g → ¬ S g) : FlOk w' base x :=
  ⟨ho.ge, h.at_ ho.at_ h1, h.row ho.row h2, ho.kl, ho.ll⟩
theorem Chg.files {S : Nat → Prop} {w w' : World} {base : Nat} {xs : List Fl} (h : Chg S w w') (hf : Fls w base xs) (hs : ∀ r, S r → other w.heap[r]?) : Fls w' base xs := by
  refine ⟨fun x hx => h.file (hf.ok x hx) (fun e => ?_) (fun g hg e => ?_), hf.nb, hf.nv⟩
  · exact (hs _ e _ _).1 (hf.ok x hx).at_
  · obtain ⟨cs, hc⟩ := own_kind (hf.ok x hx).row g hg
    exact (hs g e _ _).2 hc
/-- one file has changed -/
theorem Fls.upd {w w' : World} {base : Nat} {A B : List Fl} {X X' : Fl} (h : Fls w base (A ++ X :: B)) (hc : Chg (fun i => i = X.b ∨ X.v.ownBlock = some i) w w') (hX : FlOk w' base X') (hb : X'.b = X.b) (hv : ∀ g, X'.v.ownBlock = some g → X.v.ownBlock = some g ∨ w.heap.size ≤ g) : Fls w' base (A ++ X' :: B) := by
  obtain ⟨ok, nb, nv⟩ := h
  rw [List.pairwise_append, List.pairwise_cons] at nb nv
  obtain ⟨nb1, ⟨nb2, nb3⟩, nb4⟩ := nb
  obtain ⟨nv1, ⟨nv2, nv3⟩, nv4⟩ := nv
  have okX := ok X (by simp)
  have hlt : ∀ x, FlOk w base x → ∀ g, x.v.ownBlock = some g → g < w.heap.size := fun x hx g hg => by
    obtain ⟨cs, hc⟩ := own_kind hx.row g hg; exact lt_of_heap hc
  have keep : ∀ x, FlOk w base x → x.b ≠ X.b → (∀ g, x.v.ownBlock = some g → X.v.ownBlock ≠ some g) → FlOk w' base x := fun x hx h1 h2 => by
    refine hc.file hx (fun e => ?_) (fun g hg e => ?_)
    · rcases e with e | e
      · exact h1 e
      · obtain ⟨cs, hk⟩ := own_kind okX.row _ e
        rw [hx.at_] at hk; simp at hk
    · rcases e with e | e
      · obtain ⟨cs, hk⟩ := own_kind hx.row _ hg
        rw [e, okX.at_] at hk; simp at hk
      · exact h2 g hg e
  refine ⟨fun x hx => ?_, ?_, ?_⟩
  · rw [List.mem_append, List.mem_cons] at hx
    rcases hx with hx | rfl | hx
    · exact keep x (ok x (by simp [hx])) (nb4 x hx X (by simp)) (nv4 x hx X (by simp))
    · exact hX
    · exact keep x (ok x (by simp [hx])) (fun e => nb2 x hx e.symm) (fun g hg e => nv2 x hx g e hg)
  · rw [List.pairwise_append, List.pairwise_cons]
    refine ⟨nb1, ⟨fun y hy => by rw [hb]; exact nb2 y hy, nb3⟩, fun x hx y hy => ?_⟩
    rw [List.mem_cons] at hy
    rcases hy with rfl | hy
    · rw [hb]; exact nb4 x hx X (by simp)
    · exact nb4 x hx y (by simp [hy])
  · rw [List.pairwise_append, List.pairwise_cons]
    refine ⟨nv1, ⟨fun y hy g hg e => ?_, nv3⟩, fun x hx y hy => ?_⟩
    · rcases hv g hg with h1 | h1
      · exact nv2 y hy g h1 e
      · have := hlt y (ok y (by simp [hy])) g e; omega
    · rw [List.mem_cons] at hy
      rcases hy with rfl | hy
      · intro g hg e
        rcases hv g e with h1 | h1
        · exact nv4 x hx X (by simp) g hg h1
        · have := hlt x (ok x (by simp [hx])) g hg; omega
      · exact nv4 x hx y (by simp [hy])
/-- one file more -/
theorem Fls.add {w w' : World} {base : Nat} {A B : List Fl} {Y : Fl} (h : Fls w' base (A ++ B)) (hY : FlOk w' base Y) (hb : ∀ x ∈ A ++ B, x.b ≠ Y.b) (hv : ∀ x ∈ A ++ B, ∀ g, x.v.ownBlock = some g → Y.v.ownBlock ≠ some g) (_ : w = w') : Fls w' base (A ++ Y :: B) := by
  obtain ⟨ok, nb, nv⟩ := h
  rw [List.pairwise_append] at nb nv
  obtain ⟨nb1, nb2, nb3⟩ := nb
  obtain ⟨nv1, nv2, nv3⟩ := nv
  refine ⟨fun x hx => ?_, ?_, ?_⟩
  · rw [List.mem_append, List.mem_cons] at hx
    rcases hx with hx | rfl | hx
    · exact ok x (by simp [hx])
    · exact hY
    · exact ok x (by simp [hx])
  · rw [List.pairwise_append, List.pairwise_cons]
    refine ⟨nb1, ⟨fun y hy e => hb y (by simp [hy]) e.symm, nb2⟩, fun x hx y hy => ?_⟩
    rw [List.mem_cons] at hy
    rcases hy with rfl | hy
    · exact hb x (by simp [hx])
    · exact nb3 x hx y hy
  · rw [List.pairwise_append, List.pairwise_cons]
    refine ⟨nv1, ⟨fun y hy g hg e => hv y (by simp [hy]) g e hg, nv2⟩, fun x hx y hy => ?_⟩
    rw [List.mem_cons] at hy
    rcases hy with rfl | hy
    · exact hv x (by simp [hx])
    · exact nv3 x hx y hy

/-- a change of names that is open: its closure's cells -/
structure Un where
  c : Nat
  n : ByteArray
  r : Option (Nat × Nat × ByteArray × Fl)
/-- a Create -/
def Un.cr (c : Nat) (n : ByteArray) : Un := ⟨c, n, none⟩
/-- a Rename -/
def Un.rn (ct cf cl : Nat) (t f : ByteArray) (lost : Fl) : Un := ⟨ct, t, some (cf, cl, f, lost)⟩
def Un.val (u : Un) : Value :=
  match u.r with
  | none => .func (.func 15) #[] #[.pointer (some ⟨u.c, 0, none⟩)]
  | some y => .func (.func 18) #[] #[.pointer (some ⟨u.c, 0, none⟩), .pointer (some ⟨y.1, 0, none⟩), .pointer (some ⟨y.2.1, 0, none⟩)]
def Un.ok (w : World) (base : Nat) (u : Un) : Prop :=
  match u.r with
  | none => base ≤ u.c ∧ w.heap[u.c]? = some (.cells #[.string u.n] 9 (0, 0))
  | some y => base ≤ u.c ∧ base ≤ y.1 ∧ base ≤ y.2.1 ∧ w.heap[u.c]? = some (.cells #[.string u.n] 9 (0, 0)) ∧ w.heap[y.1]? = some (.cells #[.string y.2.2.1] 9 (0, 0)) ∧ w.heap[y.2.1]? = some (.cells #[.pointer (some ⟨y.2.2.2.b, 0, none⟩)] 42 (0, 0))
def Un.lost (u : Un) : List Fl :=
  match u.r with
  | none => []
  | some y => [y.2.2.2]
/-- a block that holds no closure's cell -/
def plainB (o : Option Obj) : Prop := ∀ cs fr, o ≠ some (.cells cs 9 fr) ∧ o ≠ some (.cells cs 42 fr)
theorem plainB_map {o : Option Obj} {es : Array MapEntry} {c : Nat} (h : o = some (.map es c)) : plainB o := by subst h; intro cs fr; simp
theorem plainB_cells {o : Option Obj} {cs : Array Value} {t : TypeId} {fr : Nat × Nat} (h : o = some (.cells cs t fr)) (h1 : t ≠ 9) (h2 : t ≠ 42) : plainB o := by
  subst h; intro cs' fr'; simp only [ne_eq, Option.some.injEq, Obj.cells.injEq, not_and]; exact ⟨fun _ e => absurd e h1, fun _ e => absurd e h2⟩
theorem Chg.un {S : Nat → Prop} {w w' : World} {base : Nat} {u : Un} (h : Chg S w w') (hu : u.ok w base) (hs : ∀ r, S r → plainB w.heap[r]?) : u.ok w' base := by
  obtain ⟨c, n, r⟩ := u
  cases r with
  | none =>
    obtain ⟨h1, h2⟩ := hu
    exact ⟨h1, h.at_ h2 (fun e => (hs _ e _ _).1 h2)⟩
  | some y =>
    obtain ⟨h1, h2, h3, h4, h5, h6⟩ := hu
    exact ⟨h1, h2, h3, h.at_ h4 (fun e => (hs _ e _ _).1 h4), h.at_ h5 (fun e => (hs _ e _ _).1 h5), h.at_ h6 (fun e => (hs _ e _ _).2 h6)⟩
/-- a disk -/
structure Disk (w : World) (base f : Nat) (q : Int) (m : Nat) (xs : List (List UInt8 × Fl)) (us : List Un) : Prop where
  bs : base ≤ w.heap.size
  fge : base ≤ f
  mge : base ≤ m
  fs : ∃ ov, FsAt w f q (some m) ov 0 ∧ w.ownsRow base 55 1 ov us.length (us.map Un.val)
  mp : Mp w m xs
  fl : Fls w base (xs.map (·.2) ++ us.flatMap Un.lost)
  un : ∀ u ∈ us, u.ok w base
/-- nothing of the disk has changed -/
theorem Disk.kept {w w' : World} {base f m : Nat} {q : Int} {xs : List (List UInt8 × Fl)} {us : List Un} (h : Disk w base f q m xs us) (hg : w.grownBy w' none) : Disk w' base f q m xs us := by
  have hc : Chg (fun _ => False) w w' := Chg.of_none hg _
  obtain ⟨ov, h1, h2⟩ := h.fs
  exact ⟨Nat.le_trans h.bs hc.size, h.fge, h.mge, ⟨ov, hc.at_ h1 id, hc.row h2 (fun _ _ e => e)⟩, hc.map h.mp id, hc.files h.fl (fun _ e => e.elim), fun u hu => hc.un (h.un u hu) (fun _ e => e.elim)⟩
end Go.Proofs.Ytlfcmhofpieacaa
