/-
  The law DiskApart.
-/
import Derived.Test.YtdiehlioemmakaaGgFqx
import Derived.Test.YtdiehlioemmakaaVN
namespace Go.Proofs.Ytdiehlioemmakaa
open Go.RowKit Go.Maps Go.Joins

/-- entries of an image, in blocks between two numbers -/
def EnS (lo hi : Nat) (w : World) (P : Option Addr) (A : Ab') : Prop := ∀ (i : Nat) (z : List UInt8 × (List UInt8 × Nat)), A[i]? = some z → ∃ g Pz Cz, P = some ⟨g, 0, none⟩ ∧ enAt w g i z Pz Cz ∧ (lo ≤ g ∧ g < hi) ∧ (z.2.1 ≠ [] → ∀ a, Pz = some a → lo ≤ a.block ∧ a.block < hi)
theorem EnS.en {lo hi : Nat} {w : World} {P : Option Addr} {A : Ab'} (h : EnS lo hi w P A) : enIn w P A := fun i z hz => by
  obtain ⟨g, Pz, Cz, e, h1, _⟩ := h i z hz
  exact ⟨g, Pz, Cz, e, h1⟩
theorem EnS.chg {S : Nat → Prop} {lo hi : Nat} {w w' : World} {P : Option Addr} {A : Ab'} (h : EnS lo hi w P A) (hc : Chg S w w') (hS : ∀ i, S i → i < lo ∨ hi ≤ i) : EnS lo hi w' P A := fun i z hz => by
  obtain ⟨g, Pz, Cz, e, ⟨h1, h2, h3, h4, h5⟩, hg, hb⟩ := h i z hz
  have ng : ¬ S g := fun e => by have := hS g e; omega
  refine ⟨g, Pz, Cz, e, ⟨cellC hc h1 ng, cellC hc h2 ng, cellC hc h3 ng, h4.chg0 hc (fun ne a ea hs => ?_), h5⟩, hg, hb⟩
  have := hb ne a ea
  have := hS _ hs
  omega
theorem EnS.grow {lo hi : Nat} {w w' : World} {P : Option Addr} {A : Ab'} (h : EnS lo hi w P A) (hg : w.grownBy w' none) : EnS lo hi w' P A := h.chg (Chg.of_none hg (fun _ => False)) (fun _ e => e.elim)
/-- a pair whose disk will be cloned: it stands, whatever becomes of what its open changes hold -/
theorem Both.split {P : Nat → Prop} {w : World} {base fp fr pr N : Nat} {s : St} (h : Both P w base fp fr pr s N) : ∃ st mo xs us, Dsk P w base fp s.q st mo xs us ∧ Jn s st xs us ∧ Pr (lostS us) w fp fr pr s := by
  obtain ⟨st, mo, xs, us, d, j⟩ := h.d
  refine ⟨st, mo, xs, us, d, j, ⟨_, base, st, mo, xs, us, d.view, j, fun _ hi => hi.2⟩, h.r.less (fun i hi => d.lostP hi), fun e => h.nf.1 (d.lostP e), h.p, fun e => h.np.1 (d.lostP e), by have := h.bd; omega⟩
/-- a clone's pair and the elder one, while the clone goes on -/
structure Ap (w0 wr : World) (b fp fr pr f2 fr2 pr2 : Nat) (s : St) (lo hi N : Nat) (Pi : Option Addr) (A : Ab') : Prop where
  h : ∃ Py s' G, Both Py wr b f2 fr2 pr2 s' N ∧ Pr G wr fp fr pr s ∧ (∀ i, Py i → G i) ∧ G fr2 ∧ ∀ i, G i → i < lo ∨ hi ≤ i
  e : EnS lo hi wr Pi A
  b : Below b w0 wr
  hi : hi ≤ wr.heap.size
theorem Ap.step {w0 wr w' : World} {b fp fr pr f2 fr2 pr2 : Nat} {s : St} {lo hi N : Nat} {Pi : Option Addr} {A : Ab'} (hE : EnS lo hi wr Pi A) (hb : Below b w0 wr) (hh : hi ≤ wr.heap.size) {Py G : Nat → Prop} (hP : Pr G wr fp fr pr s) (hG : ∀ i, Py i → G i) (hf : G fr2) (hl : ∀ i, G i → i < lo ∨ hi ≤ i) (hD : DoesQ Py wr b f2 fr2 pr2 N w') : Ap w0 w' b fp fr pr f2 fr2 pr2 s lo hi N Pi A := by
  obtain ⟨P', s', B', L', C', S'⟩ := hD
  have hc : Chg G wr w' := C'.mono (fun i _ e => by rcases e with e | rfl; exact hG i e; exact hf)
  have hlt := B'.lt.2.2.2
  refine ⟨⟨P', s', ext G wr w', B', hP.away hc, fun i hi2 => ?_, ext_le hf, fun i hi2 => ?_⟩, hE.chg hc hl, hb.trans L', Nat.le_trans hh hc.size⟩
  · rcases S' i hi2 with e | e
    · exact ext_le (hG i e)
    · exact ext_new e (hlt i hi2)
  · rcases hi2 with e | e
    · exact hl i e
    · right; omega
end Go.Proofs.Ytdiehlioemmakaa

