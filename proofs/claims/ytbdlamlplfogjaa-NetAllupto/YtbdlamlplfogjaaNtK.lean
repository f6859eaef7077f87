/-
  Walks: a message that is received.
-/
import Derived.Test.YtbdlamlplfogjaaNtJ
import Derived.Lib.ConvBytes
import Derived.Laws.IdiomStrings
namespace Go.Proofs.Ytbdlamlplfogjaa
open Go.RowKit Go.Maps Go.Joins
variable {P : Nat → Prop} {w w' : World} {n c : Nat} {S : St} {L : Ly}

theorem u8Slice : Try.prog.underlying 27 = some (.slice 5) := by kernel_rfl
theorem u8T : Try.prog.underlying 5 = some (.int .u8) := by kernel_rfl
theorem strT : Try.prog.underlying 9 = some .string := by kernel_rfl
/-- bytes in memory -/
def bys (w : World) (p : Option Addr) (l : List UInt8) : Prop := (p = none ∧ l = []) ∨ ∃ g o, p = some ⟨g, o, none⟩ ∧ ∀ i x, l[i]? = some x → w.cell? ⟨g, o + i, none⟩ = some (.int .u8 (x.toNat : Int))
theorem bys.conv {p : Option Addr} {l : List UInt8} (h : bys w p l) (cap : Nat) (hc : p = none → cap = 0) : (convert 27 9 (.slice p l.length cap)).run Try.prog w = .ok (.string ⟨l.toArray⟩) w := by
  rcases h with ⟨rfl, rfl⟩ | ⟨g, o, rfl, h⟩
  · obtain rfl := hc rfl
    simp only [List.length_nil]
    rw [run_convert_bytes_string w 27 9 5 none 0 0 u8Slice u8T strT]
    rfl
  · refine run_convert_bytes_back (P := Try.prog) w 27 9 5 ⟨g, o, none⟩ cap l u8Slice u8T strT (fun j hj => ?_)
    rw [add_plain]
    exact h j _ (List.getElem?_eq_getElem hj)
/-- '[]byte(s)' -/
theorem conv_str (w : World) (s : ByteArray) : ∃ cap w', (convert 9 27 (.string s)).run Try.prog w = .ok (.slice (some ⟨w.heap.size, 0, none⟩) s.data.toList.length cap) w' ∧ w.grownBy w' none ∧ w'.heap.size = w.heap.size + 1 ∧ bys w' (some ⟨w.heap.size, 0, none⟩) s.data.toList := by
  refine ⟨_, _, Lib.run_convert_string_bytes w 9 27 5 s strT u8Slice u8T, ⟨rfl, rfl, rfl, by rw [Lib.bytesWorld_size]; omega, fun k hk _ => Lib.bytesWorld_at_old w _ s k hk⟩, Lib.bytesWorld_size w _ s, Or.inr ⟨_, _, rfl, fun i x hx => ?_⟩⟩
  have hi := (List.getElem?_eq_some_iff.1 hx).1
  rw [Nat.zero_add, Lib.bytesWorld_cell w _ s i (by simpa using hi)]
  rw [List.getD_eq_getElem?_getD, hx]; rfl
/-- a message handed out: its value, and its bytes in memory -/
def msV (f : Nat) (p : Option Addr) (l cap : Nat) : Value := .agg #[.int .i64 f, .slice p l cap]
/-- what 'Recv' answers and leaves -/
def RcQ (P : Nat → Prop) (w : World) (n c : Nat) (S : St) (k : Int) (r : Ending) (w' : World) : Prop :=
  (isS S k = false ∧ r = .returned (.tuple #[msV 0 none 0 0, .bool false, .int .i64 60]) ∧ UpN P w n c S w') ∨
  (∃ i : Nat, k = (i : Int) ∧ isS S k = true ∧ S.ms i = [] ∧ r = .returned (.tuple #[msV 0 none 0 0, .bool false, .int .i64 0]) ∧ UpN P w n c S w') ∨
  ∃ (i : Nat) (m : Nat × ByteArray) (rest : List (Nat × ByteArray)) (g cap : Nat), k = (i : Int) ∧ isS S k = true ∧ S.ms i = m :: rest ∧ r = .returned (.tuple #[msV m.1 (some ⟨g, 0, none⟩) m.2.data.toList.length cap, .bool true, .int .i64 0]) ∧ w.heap.size ≤ g ∧ bys w' (some ⟨g, 0, none⟩) m.2.data.toList ∧ UpN P w n c { S with ms := upd S.ms i rest } w'
theorem NetL.upn (h : NetL P w n c S L) (hg : w.grownBy w' none) : UpN P w n c S w' := ⟨L, (h.kept hg).more (fun _ => ext_le) (ext_pb h.pb hg.size), Chg.of_none hg _⟩
theorem isS_in {k : Int} (h : isS S k = true) : ∃ i : Nat, k = (i : Int) ∧ i < S.N ∧ S.dn i = false := by
  unfold isS at h
  rw [Bool.and_eq_true, decide_eq_true_eq] at h
  obtain ⟨⟨h1, h2⟩, h3⟩ := h
  refine ⟨k.toNat, by omega, by omega, by simpa using h3⟩
set_option maxHeartbeats 1000000 in
set_option maxRecDepth 100000 in
theorem Recv_no (h : NetL P w n c S L) (k : Int) (hs : isS S k = false) : Calls Try.prog 16 #[.pointer (some ⟨n, 0, none⟩), .int .i64 k] w (RcQ P w n c S k) := by
  have g1 := mkHid (grown_al (grown_refl w) (.cells #[.int .i64 0, .slice none 0 0] 51))
  have IS := mkHid (Is_any (h.kept g1.out) k)
  rw [hs] at IS
  have H := mkHid h
  clear h
  go_enter Try.func16, Try.ntmps16
  go_wp2_with fail
  refine IS.out.mono ?_
  rintro e w1 ⟨rfl, hwx⟩; have hwx2 := hwx.symm; subst hwx2; clear hwx
  go_wp2_with fail
  refine bodyPost_ret (v := .tuple #[.agg #[.int .i64 0, .slice none 0 0], .bool false, .int .i64 60]) (by unfold results; rw [Try.results16]; go_simp) rfl ?_
  exact Or.inl ⟨hs, rfl, H.out.upn g1.out⟩
set_option maxHeartbeats 1000000 in
set_option maxRecDepth 100000 in
theorem Recv_none (h : NetL P w n c S L) (i : Nat) (hs : isS S (i : Int) = true) (hm : S.ms i = []) : Calls Try.prog 16 #[.pointer (some ⟨n, 0, none⟩), .int .i64 i] w (RcQ P w n c S i) := by
  have g1 := mkHid (grown_al (grown_refl w) (.cells #[.int .i64 0, .slice none 0 0] 51))
  have IS := mkHid (Is_any (h.kept g1.out) i)
  rw [hs] at IS
  have hi : i < S.N := by obtain ⟨j, h1, h2, _⟩ := isS_in hs; omega
  have hi2 : (i : Int) < (S.N : Int) := by omega
  obtain ⟨c0, _⟩ := h.cs
  obtain ⟨_, d1, _⟩ := h.cn hi
  have hw := h.wts i hi
  rw [hm] at hw
  obtain ⟨pv, cv, hv, _⟩ := hw.form
  rw [hv] at d1
  have hn := lt_of_heap h.net
  have hnb : L.nb < w.heap.size := h.pb _ h.pnb
  have H := mkHid h
  clear h hw
  go_enter Try.func16, Try.ntmps16
  go_wp2_with fail
  refine IS.out.mono ?_
  rintro e w1 ⟨rfl, hwx⟩; have hwx2 := hwx.symm; subst hwx2; clear hwx
  go_wp2_with fail
  refine bodyPost_ret (v := .tuple #[.agg #[.int .i64 0, .slice none 0 0], .bool false, .int .i64 0]) (by unfold results; rw [Try.results16]; go_simp) rfl ?_
  exact Or.inr (Or.inl ⟨i, rfl, hs, hm, rfl, H.out.upn g1.out⟩)
end Go.Proofs.Ytbdlamlplfogjaa
