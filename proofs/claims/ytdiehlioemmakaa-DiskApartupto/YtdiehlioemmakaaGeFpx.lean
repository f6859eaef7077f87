/-
  The law DiskFast: what it wants besides the calls.
-/
import Derived.Test.YtdiehlioemmakaaGeEpx
import Derived.Test.YtdiehlioemmakaaUD
namespace Go.Proofs.Ytdiehlioemmakaa
open Go.RowKit Go.Maps Go.Joins

theorem AcV.ok.up {a : AcV} {w : World} {base base' : Nat} (h : a.ok w base) (hb : base ≤ base') : a.ok w base' :=
  ⟨h.m, h.n, h.t, h.b, fun ne x e => Nat.lt_of_lt_of_le (h.bb ne x e) hb, h.bc, h.bl, h.bm, h.k, fun ne x e => Nat.lt_of_lt_of_le (h.kb ne x e) hb, h.kc, h.kr, h.kl⟩
theorem acsIn.up {w w0 : World} {Pa : Option Addr} {l : List AcV} (h : acsIn w w.heap.size Pa l) (hb : Below w.heap.size w w0) : acsIn w0 w0.heap.size Pa l := by
  refine ⟨fun a ha => ((h.ok a ha).below hb).up hb.size, ?_⟩
  rcases h.at_ with e | ⟨g, o, e, hg, hc⟩
  · exact Or.inl e
  · exact Or.inr ⟨g, o, e, Nat.lt_of_lt_of_le hg hb.size, fun i a ha => (hc i a ha).chg (chgBl hb) (by omega)⟩
theorem imgIn.chg {S : Nat → Prop} {w w' : World} {base : Nat} {v : Value} {zs : List (List UInt8 × Fl)} (h : imgIn w base v zs) (hc : Chg S w w') (hS : ∀ i, S i → i < base) : imgIn w' base v zs := by
  refine ⟨hc.row h.row (fun g hg hs => ?_), fun z hz => hc.row (h.by_ z hz) (fun g hg hs => ?_)⟩
  · rcases h.row.2 with ⟨e, _⟩ | ⟨g', _, _, e, hge, _⟩
    · rw [e] at hg; cases hg
    · rw [e] at hg; cases hg; exact absurd (hS _ hs) (Nat.not_lt.2 hge)
  · rcases (h.by_ z hz).2 with ⟨e, _⟩ | ⟨g', _, _, e, hge, _⟩
    · rw [e] at hg; cases hg
    · rw [e] at hg; cases hg; exact absurd (hS _ hs) (Nat.not_lt.2 hge)
theorem entsV_at : ∀ (zs : List (List UInt8 × Fl)) (i : Nat) (z : List UInt8 × Fl), zs[i]? = some z → ∀ k, k < 3 → (entsV zs)[i * 3 + k]? = ([.string ⟨z.1.toArray⟩, z.2.v, .int .i64 (z.2.k : Int)] : List Value)[k]?
  | [], i, z, h, k, hk => by simp at h
  | a :: r, 0, z, h, k, hk => by
    simp at h; subst h
    show ([.string ⟨a.1.toArray⟩, a.2.v, .int .i64 (a.2.k : Int)] ++ entsV r)[0 * 3 + k]? = _
    rw [List.getElem?_append_left (by simp; omega), Nat.zero_mul, Nat.zero_add]
  | a :: r, i + 1, z, h, k, hk => by
    have h5 := entsV_at r i z (by simpa using h) k hk
    show ([.string ⟨a.1.toArray⟩, a.2.v, .int .i64 (a.2.k : Int)] ++ entsV r)[(i + 1) * 3 + k]? = _
    rw [List.getElem?_append_right (by simp; omega), ← h5]
    congr 1
    simp
    omega
/-- the entry of an image -/
theorem imgIn.at_ {w : World} {base : Nat} {P : Option Addr} {C L : Nat} {zs : List (List UInt8 × Fl)} (h : imgIn w base (.slice P L C) zs) (hL : zs.length = L) {i : Nat} {z : List UInt8 × Fl} (hz : zs[i]? = some z) : ∃ g, P = some ⟨g, 0, none⟩ ∧ w.cell? ⟨g, i * 3, none⟩ = some (.string ⟨z.1.toArray⟩) ∧ w.cell? ⟨g, i * 3 + 1, none⟩ = some z.2.v ∧ w.cell? ⟨g, i * 3 + 2, none⟩ = some (.int .i64 (z.2.k : Int)) ∧ ∃ Pz Cz, z.2.v = .slice Pz z.2.l.length Cz ∧ ownsB w base (.slice Pz z.2.l.length Cz) z.2.l := by
  have hi := (List.getElem?_eq_some_iff.1 hz).1
  have hv := h.by_ z (List.mem_of_getElem? hz)
  obtain ⟨Pz, Cz, e⟩ := own_form hv
  have hc : ∀ k < 3, w.cell? ⟨(match P with | some a => a.block | none => 0), i * 3 + k, none⟩ = (entsV zs)[i * 3 + k]? := fun k hk => by
    have hr := h.row
    rcases hr.2 with ⟨e, h0⟩ | ⟨g, cap, cur, e, _, hb, _, _, hs, ht⟩
    · exfalso; omega
    · injection e with e1 e2 e3
      subst e1
      have hlt : i * 3 + k < zs.length * 3 := by omega
      rw [← ht, List.getElem?_take_of_lt hlt]
      exact (cell_of_block hb (i * 3 + k)).trans (by simp)
  have hent : ∀ k, k < 3 → (entsV zs)[i * 3 + k]? = ([.string ⟨z.1.toArray⟩, z.2.v, .int .i64 (z.2.k : Int)] : List Value)[k]? := fun k hk => by
    exact entsV_at zs i z hz k hk
  rcases h.row.2 with ⟨e, h0⟩ | ⟨g, cap, cur, e5, _, hb, _, _, hs, ht⟩
  · exfalso; omega
  · injection e5 with e1 e2 e3
    subst e1
    refine ⟨g, rfl, ?_, ?_, ?_, Pz, Cz, e, by rw [← e]; exact hv⟩
    · have := hc 0 (by omega); rw [hent 0 (by omega)] at this; simpa using this
    · have := hc 1 (by omega); rw [hent 1 (by omega)] at this; simpa using this
    · have := hc 2 (by omega); rw [hent 2 (by omega)] at this; simpa using this
end Go.Proofs.Ytdiehlioemmakaa

