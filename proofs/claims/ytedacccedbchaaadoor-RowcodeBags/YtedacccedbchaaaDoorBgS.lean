/-
  slices.SortFunc(rows, bytes.Compare): the library's contract at slices of bytes.
-/
import Derived.Test.YtedacccedbchaaaDoorBgC
import Derived.Test.YtedacccedbchaaaDoorShelfS
import Derived.Shelf.SlSortCmp.Whole1
namespace Go.Proofs.YtedacccedbchaaaDoor
open Go.RowKit Go.Shelf Go.Sort

/-- slices of bytes, each one of a list -/
abbrev Of (L : List Bv) : Type := { b : Bv // b ∈ L }
def Of.enc {L : List Bv} (x : Of L) : Value := x.1.val
def Of.cf {L : List Bv} (x y : Of L) : Int := Lib.compareBytes x.1.l y.1.l
theorem of_lt {L : List Bv} (x y : Of L) : ltOf Of.cf x y = !leV y.1 x.1 := by
  unfold ltOf Of.cf leV leB
  rw [bc_turn x.1.l y.1.l]
  by_cases h : Lib.compareBytes x.1.l y.1.l < 0
  · rw [decide_eq_true h]; simp; omega
  · rw [decide_eq_false h]; simp; omega
theorem of_swo {L : List Bv} : SWO (ltOf (Of.cf (L := L))) where
  irrefl x := by rw [of_lt]; have := leV_total x.1 x.1; simp at this; simp [this]
  trans x y z h1 h2 := by
    rw [of_lt] at *
    simp only [Bool.not_eq_true'] at *
    have t1 : leV x.1 y.1 = true := by have := leV_total x.1 y.1; rw [h1] at this; simpa using this
    have t2 : leV y.1 z.1 = true := by have := leV_total y.1 z.1; rw [h2] at this; simpa using this
    rcases h : leV z.1 x.1 with _ | _
    · rfl
    · have := leV_trans _ _ _ h t1
      rw [h2] at this; cases this
  ntrans x y z h1 h2 := by
    rw [of_lt] at *
    simp only [Bool.not_eq_false'] at *
    exact leV_trans _ _ _ h2 h1
theorem sortWorld_grown {α : Type} [Inhabited α] (enc : α → Value) (w : World) (blk off m : Nat) (dk : Array α) (os : Array Obj) : w.grownBy (sortWorld enc w blk off m dk os) (some blk) := by
  refine ⟨rfl, rfl, rfl, ?_, fun k hk hne => ?_⟩
  · simp [sortWorld, grow, putRow, mapBlock, Sort.ahead]
  · have hne' : ¬ blk = k := fun h => hne (by rw [h])
    simp only [sortWorld, grow, putRow, mapBlock, Sort.ahead]
    rw [Array.getElem?_append_left (by simpa using hk), Array.getElem?_modify, if_neg hne']

theorem sort_none (g0 c : Nat) (w : World) (hg : g0 < w.heap.size) :
    Calls Tryd.prog 24 #[.slice (some ⟨g0, 0, none⟩) 0 c, .func (.func 25) #[] #[]] w fun e w' => e = .returned (.tuple #[]) ∧ w.grownBy w' (some g0) := by
  have eg : ∀ args w, (callFunc 25 args).run Tryd.prog w = .ok (.enter 25 args) w := enters_of Tryd.func25 (by kernel_rfl) rfl
  have hcmp : CmpReads Tryd.prog 25 #[] (fun _ : Unit => Value.slice none 0 0) (fun _ _ => 0) g0 0 0 w := by
    intro m os dk _ x y
    refine (Compare_any (la := []) (lb := []) 0 0 (Or.inl rfl) (Or.inl rfl)).mono ?_
    rintro e w' ⟨rfl, hw⟩
    exact ⟨rfl, 0, by rw [hw]; rfl⟩
  have hcon := Any.slices_SortFunc Tryd.sortB (fun _ : Unit => Value.slice none 0 0) (fun _ => rfl) (fun _ _ => 0) ⟨fun _ => rfl, fun _ _ _ h => by simp [ltOf] at h, fun _ _ _ _ _ => rfl⟩ 25 #[] g0 0 c #[] w eg hcmp.lays (fun j hj => by simp at hj) hg (by simp)
  refine hcon.mono ?_
  rintro e w' ⟨rfl, d', n, os, _, _, rfl⟩
  exact ⟨rfl, sortWorld_grown _ _ _ _ _ _ _⟩

set_option maxHeartbeats 1000000 in
theorem sort_any (g0 c : Nat) (L : List Bv) (w : World) (hH : ∀ i b, L[i]? = some b → w.cell? ⟨g0, i, none⟩ = some b.val ∧ w.frozen? ⟨g0, i, none⟩ = false) (hg : g0 < w.heap.size)
    (hby : ∀ b ∈ L, ∃ g off, b.p = some ⟨g, off, none⟩ ∧ g ≠ g0 ∧ g < w.heap.size ∧ ∀ i x, b.l[i]? = some x → w.cell? ⟨g, off + i, none⟩ = some (.int .u8 (x.toNat : Int))) (hl : L.length ≤ 65536) :
    Calls Tryd.prog 24 #[.slice (some ⟨g0, 0, none⟩) L.length c, .func (.func 25) #[] #[]] w fun e w' =>
      e = .returned (.tuple #[]) ∧ ∃ M : List Bv, M.Perm L ∧ M.Pairwise (fun a b => leV a b = true) ∧ w.grownBy w' (some g0) ∧ ∀ i b, M[i]? = some b → w'.cell? ⟨g0, i, none⟩ = some b.val := by
  by_cases hL : L = []
  · subst hL
    refine (sort_none g0 c w hg).mono ?_
    rintro e w' ⟨rfl, hw⟩
    exact ⟨rfl, [], List.Perm.refl _, List.Pairwise.nil, hw, fun i b hi => by simp at hi⟩
  · obtain ⟨b0, hb0⟩ := List.exists_mem_of_ne_nil L hL
    have inh : Inhabited (Of L) := ⟨⟨b0, hb0⟩⟩
    let d : Array (Of L) := (L.attach).toArray
    have hsz : d.size = L.length := by simp [d]
    have hget : ∀ j (hj : j < d.size), (d[j]!).1 = L[j]'(by omega) := by
      intro j hj
      rw [getElem!_pos d j hj]
      simp [d]
    have hHo : Holds (Of.enc (L := L)) w g0 0 d := by
      intro j hj
      have hj' : j < L.length := by omega
      obtain ⟨h1, h2⟩ := hH j _ (List.getElem?_eq_getElem hj')
      rw [Nat.zero_add]
      refine ⟨?_, h2⟩
      rw [h1]
      unfold Of.enc
      rw [hget j hj]
    have eg : ∀ args w, (callFunc 25 args).run Tryd.prog w = .ok (.enter 25 args) w := enters_of Tryd.func25 (by kernel_rfl) rfl
    have hcmp : CmpReads Tryd.prog 25 #[] (Of.enc (L := L)) Of.cf g0 0 d.size w := by
      intro m os dk _ x y
      have gw := sortWorld_grown (Of.enc (L := L)) w g0 0 m dk os
      have key : ∀ z : Of L, byIn (sortWorld (Of.enc (L := L)) w g0 0 m dk os) z.1.p z.1.l := by
        intro z
        obtain ⟨g, off, h1, h2, h3, h4⟩ := hby z.1 z.2
        exact Or.inr ⟨g, off, h1, Nat.lt_of_lt_of_le h3 gw.size, fun i u hi => gw.cell (h4 i u hi) (by simpa using h2)⟩
      refine (Compare_any x.1.c y.1.c (key x) (key y)).mono ?_
      rintro e w' ⟨rfl, hw⟩
      exact ⟨rfl, 0, by rw [hw]; rfl⟩
    have hcon := Any.slices_SortFunc Tryd.sortB (Of.enc (L := L)) (fun _ => rfl) Of.cf of_swo 25 #[] g0 0 c d w eg hcmp.lays hHo hg (by omega)
    rw [hsz] at hcon
    refine hcon.mono ?_
    rintro e w' ⟨rfl, d', n, os, hp, hs, rfl⟩
    have hsz' : d'.size = L.length := hp.1.trans hsz
    have hpl : (d'.toList.map (·.1)).Perm L := by
      have h3 := hp.2.2
      rw [show (d'.extract 0 L.length) = d' by rw [← hsz']; simp, show (d.extract 0 L.length) = d by rw [← hsz]; simp] at h3
      have h4 := h3.map (·.1)
      have e : (d.toList.map (·.1)) = L := by simp [d]
      rw [e] at h4
      exact h4
    refine ⟨rfl, d'.toList.map (·.1), hpl, ?_, sortWorld_grown _ _ _ _ _ _ _, ?_⟩
    · rw [List.pairwise_iff_getElem]
      intro i j hi hj hij
      simp only [List.length_map, Array.length_toList] at hi hj
      have h5 := hs i j (Nat.zero_le _) hij (by omega)
      rw [of_lt, getElem!_pos d' i hi, getElem!_pos d' j hj] at h5
      simpa using h5
    · intro i b hi
      have hlt : i < d'.size := by have := (List.getElem?_eq_some_iff.1 hi).1; simpa using this
      have hsw : SW (Of.enc (L := L)) w g0 0 d' (sortWorld Of.enc w g0 0 n d' os) := ⟨n, os, rfl⟩
      have h6 := (hsw.holds hg hHo (by omega) i hlt).1
      rw [Nat.zero_add] at h6
      rw [h6]
      have h7 : (d'[i]!).1 = b := by
        rw [getElem!_pos d' i hlt]
        simpa [hlt] using hi
      unfold Of.enc
      rw [h7]
end Go.Proofs.YtedacccedbchaaaDoor
