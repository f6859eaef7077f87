/-
  The walk of simfs.loseBytes: each file is cut to what stands fast and the first ones of the rest.
-/
import Derived.Test.YtdiehlioemmakaaVC
namespace Go.Proofs.Ytdiehlioemmakaa
open Go.RowKit Go.Maps Go.Joins Go.Sort

/-- how many bytes of a file stay -/
def cutK (keeps : List Int) (t : Nat) (X : Fl) : Nat := X.k + (if keeps = [] then 0 else kp (keeps.getD (t % keeps.length) 0) (X.l.length - X.k))
/-- a file by its name, its bytes, how many stand fast -/
def abs (p : List UInt8 × Fl) : List UInt8 × List UInt8 × Nat := (p.1, p.2.l, p.2.k)
/-- what becomes of the files -/
def cuts (keeps : List Int) : Nat → List (List UInt8 × Fl) → List (List UInt8 × List UInt8 × Nat)
  | _, [] => []
  | t, p :: r => if p.2.k = p.2.l.length then abs p :: cuts keeps t r else (p.1, p.2.l.take (cutK keeps t p.2), cutK keeps t p.2) :: cuts keeps (t + 1) r
/-- a slice of numbers that was handed in -/
def intIn (w : World) (P : Option Addr) (l : List Int) : Prop := l = [] ∨ ∃ g off, P = some ⟨g, off, none⟩ ∧ ∀ i x, l[i]? = some x → w.cell? ⟨g, off + i, none⟩ = some (.int .i64 x)
theorem cutK_le {keeps : List Int} {t : Nat} {X : Fl} (h : X.k ≤ X.l.length) : cutK keeps t X ≤ X.l.length := by
  unfold cutK
  split
  · omega
  · unfold kp
    have := Nat.mod_lt (max 0 (keeps.getD (t % keeps.length) 0)).toNat (show 0 < X.l.length - X.k + 1 by omega)
    omega
/-- a file that is cut -/
theorem FlOk.cut {w : World} {base : Nat} {X : Fl} {PX : Option Addr} {CX : Nat} (ok : FlOk w base X) (hv : X.v = .slice PX X.l.length CX) {K : Nat} (hK : K ≤ X.l.length) : ownsB w base (.slice PX K CX) (X.l.take K) := by
  obtain ⟨hl, ho⟩ := ok.row
  have e : (X.l.take K).length = K := by rw [List.length_take]; omega
  refine ⟨by rw [by8_len, Nat.mul_one], ?_⟩
  rcases ho with ⟨e1, e2⟩ | ⟨g, cap, cur, e1, h1, h2, h3, h4, h5, h6⟩
  · left
    rw [hv] at e1
    simp only [Value.slice.injEq] at e1
    obtain ⟨rfl, _, rfl⟩ := e1
    have : K = 0 := by omega
    subst this
    exact ⟨rfl, by rw [e]⟩
  · right
    rw [hv] at e1
    simp only [Value.slice.injEq, true_and] at e1
    obtain ⟨rfl, rfl⟩ := e1
    refine ⟨g, CX, cur, by rw [e], h1, h2, by omega, h4, h5, ?_⟩
    rw [Nat.mul_one] at h6 ⊢
    rw [e, by8_take, ← h6, List.take_take, Nat.min_eq_left hK]
theorem FlOk.cap {w : World} {base : Nat} {X : Fl} {PX : Option Addr} {CX : Nat} (ok : FlOk w base X) (hv : X.v = .slice PX X.l.length CX) : X.l.length ≤ CX := by
  rcases ok.row.2 with ⟨e1, e2⟩ | ⟨g, cap, cur, e1, h1, h2, h3, _⟩
  · omega
  · rw [hv] at e1
    simp only [Value.slice.injEq, true_and] at e1
    omega
/-- a file of a disk is cut -/
theorem Disk.cut {w w' : World} {base f m : Nat} {q : Int} {n : List UInt8} {X : Fl} {PX : Option Addr} {CX K : Nat} {A B : List (List UInt8 × Fl)} (h : Disk w base f q m (A ++ (n, X) :: B) []) (hv : X.v = .slice PX X.l.length CX) (hK : K ≤ X.l.length) (hc : Chg (fun i => i = X.b) w w') (hX : w'.heap[X.b]? = some (.cells #[.slice PX K CX, .int .i64 (K : Int)] 86 (0, 0))) :
    Disk w' base f q m (A ++ (n, ⟨X.b, .slice PX K CX, X.l.take K, K⟩) :: B) [] ∧ Below base w w' := by
  have ok := h.fl.ok X (by simp)
  have e : (X.l.take K).length = K := by rw [List.length_take]; omega
  have own := ok.cut hv hK
  refine h.file (hc.mono (fun i _ e => Or.inl e)) ⟨ok.ge, hX, hc.row own (fun g hg e => ?_), by show K ≤ (X.l.take K).length; omega, by show (X.l.take K).length ≤ _; have := ok.ll; omega⟩ rfl (fun g hg => Or.inl ?_)
  · obtain ⟨cs, hk⟩ := own_kind own g hg
    have e : g = X.b := e
    rw [e, ok.at_] at hk; simp at hk
  · rw [hv]; cases PX with
    | none => cases hg
    | some a => exact hg

end Go.Proofs.Ytdiehlioemmakaa

