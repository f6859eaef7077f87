/-
  Walks: the net lives.
-/
import Derived.Test.YtpghkbbhcpcbdaaNuS
namespace Go.Proofs.Ytpghkbbhcpcbdaa
open Go.RowKit Go.Maps Go.Joins
variable {P : Nat → Prop} {w w' : World} {n c : Nat} {S : St} {L : Ly}

def lvA : St := sendT (st0 2) 0 1 ⟨#[97]⟩
def lvB : St := sendT lvA 0 1 ⟨#[98]⟩
def lvC : St := delivS lvB 1
def lvD : St := delivS lvC 0
def lvE : Nat → St
  | 0 => tickS lvD 0
  | k + 1 => delivS (lvE k) 0
def lvF : St := { lvE 9 with ms := upd (lvE 9).ms 1 [(0, ⟨#[98]⟩)] }
def lvG : St := { lvF with ms := upd lvF.ms 1 [] }
theorem lv_e1 : sendE (st0 2) 0 1 1 = 0 := by kernel_rfl
theorem lv_e2 : sendE lvA 0 1 1 = 0 := by kernel_rfl
theorem lv_e3 : flE lvB 1 = 0 := by kernel_rfl
theorem lv_e4 : flE lvC 0 = 0 := by kernel_rfl
theorem lv_e5 : isE lvD 0 = 0 := by kernel_rfl
theorem lv_m1 : (lvE 9).ms 1 = [(0, ⟨#[97]⟩), (0, ⟨#[98]⟩)] := by kernel_rfl
theorem lv_m2 : lvF.ms 1 = [(0, ⟨#[98]⟩)] := by kernel_rfl
theorem lv_m3 : lvG.ms 1 = [] := by kernel_rfl
theorem lv_i1 : isS (lvE 9) 1 = true := by kernel_rfl
theorem lv_i2 : isS lvF 1 = true := by kernel_rfl
theorem lv_i3 : isS lvG 1 = true := by kernel_rfl
theorem OkS.deliver {B : Nat} (h : OkS S B) (hB : B + 1 ≤ 3000000) (k : Int) : OkS (delivS S k) (B + 1) := h.alone hB ⟨2, 0, 0, k, none, [], 0, false⟩
theorem OkS.tick {B : Nat} (h : OkS S B) (hB : B + 1 ≤ 3000000) (k : Int) : OkS (tickS S k) (B + 1) := h.alone hB ⟨5, k, 0, 0, none, [], 0, false⟩
theorem lvA_eq : lvA = sendS (st0 2) 0 1 ⟨#[97]⟩ := by kernel_rfl
theorem lvB_eq : lvB = sendS lvA 0 1 ⟨#[98]⟩ := by kernel_rfl
theorem okA : OkS lvA 1 := by rw [lvA_eq]; exact (OkS.begin 2).send (by omega) _ (by decide) (by decide) (by decide)
theorem okB : OkS lvB 2 := by
  rw [lvB_eq]
  have e1 : lvA.N = 2 := by kernel_rfl
  have e2 : (lvA.wy 0 1).us.length = 1 := by kernel_rfl
  exact okA.send (by omega) _ (by omega) (by omega) (by omega)
theorem okC : OkS lvC 3 := okB.deliver (by omega) 1
theorem okD : OkS lvD 4 := okC.deliver (by omega) 0
theorem okE : ∀ k, k ≤ 9 → OkS (lvE k) (5 + k)
  | 0, _ => okD.tick (by omega) 0
  | k + 1, h => (okE k (by omega)).deliver (by omega) 0
theorem LvN.send {w0 : World} {g cap : Nat} {x : UInt8} (h : LvN w0 n c S w) {B : Nat} (ok : OkS S B) (hc : c ≤ 900000000) (hb : w.cell? ⟨g, 0, none⟩ = some (.int .u8 (x.toNat : Int))) : Calls Try.prog 14 #[.pointer (some ⟨n, 0, none⟩), .int .i64 0, .int .i64 1, .slice (some ⟨g, 0, none⟩) 1 cap] w (LvQ w0 w n (c + 1) (sendT S 0 1 ⟨#[x]⟩) (sendE S 0 1 1)) := by
  have hB := ok.lt
  refine h.call (fun P L hL => ?_)
  exact Send_any hL 0 1 (some ⟨g, 0, none⟩) [x] cap (Or.inr ⟨g, 0, rfl, fun i y hy => by
    cases i with
    | zero => cases hy; exact hb
    | succ i => simp at hy⟩) (fun e => by cases e) (fun i j => by
    have := ok.wb i j; have := ok.wt i j; have := ok.wu i j; omega) (by omega)
theorem LvN.deliver {w0 : World} (h : LvN w0 n c S w) (k : Int) {B : Nat} (ok : OkS S B) (hc : c ≤ 900000000) : Calls Try.prog 23 #[.pointer (some ⟨n, 0, none⟩), .int .i64 k] w (LvQ w0 w n (c + 1) (delivS S k) (flE S k)) :=
  h.call (fun P L hL => Deliver_any hL k ok (by omega))
theorem LvN.tick {w0 : World} (h : LvN w0 n c S w) (k : Int) {B : Nat} (ok : OkS S B) : Calls Try.prog 22 #[.pointer (some ⟨n, 0, none⟩), .int .i64 k] w (LvQ w0 w n c (tickS S k) (isE S k)) := by
  have hB := ok.lt
  exact h.call (fun P L hL => Tick_any hL k (fun i j => by have := ok.wb i j; omega) (fun i j => by have := ok.wt i j; omega) ok.wu)
def LzQ (w0 w : World) (n c : Nat) (S : St) (r : Ending) (w' : World) : Prop := r = .returned (.tuple #[.agg #[.int .i64 0, .slice none 0 0], .bool false, .int .i64 0]) ∧ LvN w0 n c S w' ∧ Kp w w'
theorem LvN.recv0 {w0 : World} (h : LvN w0 n c S w) (i : Nat) (hs : isS S (i : Int) = true) (hm : S.ms i = []) : Calls Try.prog 16 #[.pointer (some ⟨n, 0, none⟩), .int .i64 i] w (LzQ w0 w n c S) := by
  obtain ⟨g, L, h1, h2⟩ := h
  refine (Recv_any h1 i).mono ?_
  rintro e w3 (⟨z, _⟩ | ⟨i', z, _, z2, rfl, U⟩ | ⟨i', m', rest, gb, cap, z, _, z2, _⟩)
  · rw [hs] at z; cases z
  · exact ⟨rfl, LvN.up g h1 h2 U⟩
  · obtain rfl : i' = i := by omega
    rw [hm] at z2; cases z2
theorem New_lv : Calls Try.prog 24 #[.int .i64 2] w fun r w' => ∃ n, r = .returned (.tuple #[.pointer (some ⟨n, 0, none⟩), .int .i64 0]) ∧ LvN w n 0 (st0 2) w' := by
  refine (New_ok 2 (by omega) (by omega)).mono ?_
  rintro e w1 ⟨n, L, rfl, h, g⟩
  exact ⟨n, rfl, g, L, h.tight, fun b hb => (h.blkP b hb).1⟩
theorem conv_bb (w : World) (x : Value) : (convert 27 27 (.slice (some ⟨w.heap.size, 0, none⟩) 1 1)).run Try.prog (w.alloc (.cells #[x] 5)) = .ok (.slice (some ⟨w.heap.size, 0, none⟩) 1 1) (w.alloc (.cells #[x] 5 (1, 2))) := Lib.run_convert_bytes_const w _ _ #[x] 1 1 u8Slice u8T
theorem new_cell (w : World) (x : Value) (t : TypeId) (z : Nat × Nat) : (w.alloc (.cells #[x] t z)).cell? ⟨w.heap.size, 0, none⟩ = some x := by
  simp only [World.cell?, heap_alloc_new]
  simp
theorem cell_same {a b : World} {g i : Nat} (h : b.heap[g]? = a.heap[g]?) : b.cell? ⟨g, i, none⟩ = a.cell? ⟨g, i, none⟩ := by
  unfold World.cell?
  simp only at h ⊢
  rw [h]
theorem bys.same {a b : World} {g : Nat} {l : List UInt8} (h : bys a (some ⟨g, 0, none⟩) l) (e : b.heap[g]? = a.heap[g]?) : bys b (some ⟨g, 0, none⟩) l := by
  rcases h with ⟨h, _⟩ | ⟨g', o, h, k⟩
  · cases h
  · cases h
    exact Or.inr ⟨g, 0, rfl, fun i x hx => by rw [cell_same e]; exact k i x hx⟩
def L1Q (w0 w : World) (n c : Nat) (S : St) (x : UInt8) (r : Ending) (w' : World) : Prop := ∃ (g cap : Nat), r = .returned (.tuple #[.agg #[.int .i64 0, .slice (some ⟨g, 0, none⟩) 1 cap], .bool true, .int .i64 0]) ∧ kd w' g = 5 + 2 ∧ bys w' (some ⟨g, 0, none⟩) [x] ∧ LvN w0 n c S w' ∧ Kp w w'
theorem LvN.recv1 {w0 : World} (h : LvN w0 n c S w) (hs : isS S 1 = true) (x : UInt8) (rest : List (Nat × ByteArray)) (hm : S.ms 1 = (0, ⟨#[x]⟩) :: rest) : Calls Try.prog 16 #[.pointer (some ⟨n, 0, none⟩), .int .i64 1] w (L1Q w0 w n c { S with ms := upd S.ms 1 rest } x) := by
  refine (h.recv 1 hs _ _ hm).mono ?_
  rintro e w1 ⟨g, cap, rfl, k, B, U⟩
  exact ⟨g, cap, rfl, k, B, U⟩
/-- a box and the bytes behind it, later -/
theorem Kp.box {a b : World} {g cap : Nat} {x : UInt8} (K : Kp (a.alloc (.cells #[.int .i64 0, .slice (some ⟨g, 0, none⟩) 1 cap] 51)) b) (hk : kd a g = 5 + 2) (hb : bys a (some ⟨g, 0, none⟩) [x]) :
    b.cell? ⟨a.heap.size, 1, none⟩ = some (.slice (some ⟨g, 0, none⟩) 1 cap) ∧ (convert 27 9 (.slice (some ⟨g, 0, none⟩) 1 cap)).run Try.prog b = .ok (.string ⟨#[x]⟩) b := by
  have h0 := heap_alloc_new a (.cells #[.int .i64 0, .slice (some ⟨g, 0, none⟩) 1 cap] 51)
  have h1 := K.2 _ (Or.inr (kd_cells h0))
  have h2 := ((Kp.of_grown (World.grownBy_alloc a (.cells #[.int .i64 0, .slice (some ⟨g, 0, none⟩) 1 cap] 51) none)).trans K).2 g (Or.inl hk)
  exact ⟨(cell_of_block (h1.trans h0) 1).trans rfl, (hb.same h2).conv cap (fun e => by cases e)⟩
end Go.Proofs.Ytpghkbbhcpcbdaa
