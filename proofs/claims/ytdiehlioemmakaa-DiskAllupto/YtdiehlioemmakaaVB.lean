/-
  The walks of slices.Clone and simfs.Read.
-/
import Derived.Test.YtdiehlioemmakaaVA
namespace Go.Proofs.Ytdiehlioemmakaa
open Go.RowKit Go.Maps Go.Joins

theorem eqNil (w : World) : (binOp .eql 27 (.slice none 0 0) (.slice none 0 0)).run Try.prog w = .ok (.bool true) w := by kernel_rfl
theorem neNil (a : Addr) (n c : Nat) (w : World) : (binOp .eql 27 (.slice (some a) n c) (.slice none 0 0)).run Try.prog w = .ok (.bool false) w := by kernel_rfl
theorem eqNilM (w : World) : (binOp .eql 64 (.map none) (.map none)).run Try.prog w = .ok (.bool true) w := by kernel_rfl
theorem neNilM (m : Nat) (w : World) : (binOp .eql 64 (.map (some m)) (.map none)).run Try.prog w = .ok (.bool false) w := by kernel_rfl

set_option maxHeartbeats 1000000 in
set_option maxRecDepth 100000 in
theorem Clone_any (base : Nat) (v : Value) (l : List UInt8) (w : World) (h : ownsB w base v l) (hl : l.length ≤ 100000000) :
    Calls Try.prog 61 #[v] w fun e w' => ∃ v', e = .returned v' ∧ ownsB w' w.heap.size v' l ∧ w.grownBy w' none := by
  rcases h.2 with ⟨rfl, h0⟩ | ⟨g, cap, cur, rfl, hb, hcur, hn, hm, hs, ht⟩
  · obtain rfl : l = [] := List.eq_nil_of_length_eq_zero h0
    have z := eqNil w
    go_enter Try.func61, Try.ntmps61
    go_wp2_with fail
    go_ret
    exact ⟨_, rfl, ownsB_nil _ _, ⟨rfl, rfl, rfl, Nat.le_refl _, fun _ _ _ => rfl⟩⟩
  · have hin : byIn w (some ⟨g, 0, none⟩) l := Or.inr ⟨⟨g, 0, none⟩, rfl, fun i x hx => by
      have hi := (List.getElem?_eq_some_iff.1 hx).1
      rw [add_plain, Nat.zero_add, World.ownsRow.cellAt h i (by omega)]
      simp [by8, hx]⟩
    have HI : Hid (∀ o, byIn (w.alloc o) (some ⟨g, 0, none⟩) l) := fun o => hin.kept (World.grownBy_alloc w o none)
    have O0 : Hid (∀ t, (w.alloc (.cells #[] t)).ownsRow w.heap.size t 1 (.slice (some ⟨w.heap.size, 0, none⟩) 0 0) 0 []) := fun t => World.ownsRow_made w #[] 0 (Nat.le_refl _) (by unfold maxLen; omega) rfl
    have z := neNil ⟨g, 0, none⟩ l.length cap w
    clear h hb hcur hn hm hs ht hin
    go_enter Try.func61, Try.ntmps61
    go_wp2_with (at_builtin; refine app_in rfl (.tmp 5) (.tmp 6) rfl w.heap.size _ [] l _ cap rfl (O0.out _) (HI.out _) (fun e => by cases e) rfl (by simp; omega) (by simp) ?_; intro v3 w3 ho3 hg3 hl3)
    go_ret
    refine ⟨_, rfl, ho3, ⟨hg3.os, hg3.tape, hg3.output, Nat.le_trans (by simp) hg3.size, fun k hk _ => ?_⟩⟩
    rw [hg3.block k (by simp; omega) (fun e => by cases e; exact Nat.lt_irrefl _ hk)]
    exact Below.heap_alloc _ _ k hk

end Go.Proofs.Ytdiehlioemmakaa

namespace Go.Proofs.Ytdiehlioemmakaa
open Go.RowKit Go.Maps Go.Joins

theorem take_at {P : Program} {ops : Array Oper} {Q : Exit → Act → World → Prop} {md : Region.Mode} {S : World → Prop} {i d : Nat} {oi : Oper} {v : Value} {fuel : Nat} {listed : Array Bool} {ts : Array Value} {df : List Deferred} {w : World} (hi : ops[i]? = some oi) (hd : oi.dst = some d)
    (hs : Region.noSelect ops = true) (hf : Region.free md ops listed i = true) (hr : (Region.ready md ops listed).contains i = true)
    (hQ : ∀ c a w, Q (.panic c) (a.put oi.dst v) w → Q (.panic c) a w) (hy : YieldsIf P ops S oi v ⟨ts, df⟩) (hS : S w)
    (h : wpAnyH P md ops Q S fuel (listed.setIfInBounds i true) ⟨ts.setIfInBounds d v, df⟩ w) : wpAnyH P md ops Q S (fuel + 1) listed ⟨ts, df⟩ w :=
  wpAnyH_take hi hs hf hr hQ hy hS (by rw [hd]; exact h)
theorem tk {P : Program} {ops : Array Oper} {Q : Exit → Act → World → Prop} {md : Region.Mode} {S : World → Prop} {i d : Nat} {oi : Oper} {v : Value} {fuel : Nat} {listed : Array Bool} {ts : Array Value} {df : List Deferred} {w : World} (hi : ops[i]? = some oi) (hd : oi.dst = some d)
    (hk : (Region.noSelect ops && Region.free md ops listed i && (Region.ready md ops listed).contains i && Region.wanted oi (yielded ops ts)) = true)
    (hQ : ∀ c a w, Q (.panic c) (a.put oi.dst v) w → Q (.panic c) a w) (hy : ∀ w', S w' → (execOp (Act.eval ⟨ts, df⟩) oi).run P w' = .ok (.value v) w') (hS : S w)
    (h : wpAnyH P md ops Q S fuel (listed.setIfInBounds i true) ⟨ts.setIfInBounds d v, df⟩ w) : wpAnyH P md ops Q S (fuel + 1) listed ⟨ts, df⟩ w := by
  simp only [Bool.and_eq_true] at hk
  exact take_at hi hd hk.1.1.1 hk.1.1.2 hk.1.2 hQ (Or.inl ⟨hk.2, hy⟩) hS h
theorem fnInfo : (Try.prog.info? 72).map (fun i => (i.zero, i.size, i.bytes)) = some (some .nilFunc, 1, 8) := by kernel_rfl
theorem fnSlice : Try.prog.underlying 65 = some (.slice 72) := by kernel_rfl
theorem row_form {w : World} {base n : Nat} {e : TypeId} {v : Value} {xs : List Value} (h : w.ownsRow base e 1 v n xs) : ∃ P C, v = .slice P n C := by
  rcases h.2 with ⟨e, h0⟩ | ⟨g, cap, cur, e, _⟩
  · exact ⟨none, 0, by rw [e, h0]⟩
  · exact ⟨_, _, e⟩
end Go.Proofs.Ytdiehlioemmakaa

namespace Go.Proofs.Ytdiehlioemmakaa
open Go.RowKit Go.Maps Go.Joins

end Go.Proofs.Ytdiehlioemmakaa

namespace Go.Proofs.Ytdiehlioemmakaa
open Go.RowKit Go.Maps Go.Joins

set_option maxHeartbeats 4000000 in
set_option maxRecDepth 1000000 in
theorem copied_ok (base : Nat) (X : Fl) (w : World) (okX : FlOk w base X) (hb : base ≤ w.heap.size) :
    Calls Try.prog 27 #[.pointer (some ⟨X.b, 0, none⟩)] w fun e w' => ∃ b v, e = .returned (.pointer (some ⟨b, 0, none⟩)) ∧ w.heap.size ≤ b ∧ FlOk w' base ⟨b, v, X.l, X.k⟩ ∧ (∀ g, v.ownBlock = some g → w.heap.size ≤ g) ∧ w.grownBy w' none := by
  obtain ⟨P, C, hP⟩ := okX.form
  obtain ⟨c0, c1, cf⟩ := okX.c
  have CL : Hid (Calls Try.prog 61 #[X.v] w.drew fun e w' => ∃ v', e = .returned v' ∧ ownsB w' w.heap.size v' X.l ∧ w.grownBy w' none) := by
    refine (Clone_any base X.v X.l w.drew okX.row okX.ll).mono ?_
    rintro e w' ⟨v', rfl, ho, hg⟩
    exact ⟨v', rfl, ho, ⟨hg.os, hg.tape, hg.output, hg.size, hg.block⟩⟩
  rw [hP] at c0 CL
  have kl := okX.kl
  have ll := okX.ll
  clear okX hP cf
  go_enter Try.func27, Try.ntmps27
  go_wp2_with fail
  refine wp_region_noPanic ?_
  refine wp_region_held_drew (S := fun w' => w'.cell? ⟨X.b, 0, none⟩ = some (.slice P X.l.length C) ∧ w'.cell? ⟨X.b, 1, none⟩ = some (.int .i64 (X.k : Int))) (by kernel_rfl) ⟨c0, c1⟩ (fun hH => ?_)
  refine tk (i := 0) (v := .pointer (some ⟨X.b, 0, none⟩)) rfl rfl (by kernel_rfl) (fun _ _ _ h => h) ?_ hH ?_
  · intro v hv; obtain ⟨hv1, hv2⟩ := hv; go_simp
  simp only [sA, sB, sC]
  refine tk (i := 1) (v := .pointer (some ⟨X.b, 0, none⟩)) rfl rfl (by kernel_rfl) (fun _ _ _ h => h) ?_ hH ?_
  · intro v hv; obtain ⟨hv1, hv2⟩ := hv; go_simp
  simp only [sA, sB, sC]
  refine tk (i := 2) (v := .pointer (some ⟨X.b, 0, none⟩)) rfl rfl (by kernel_rfl) (fun _ _ _ h => h) ?_ hH ?_
  · intro v hv; obtain ⟨hv1, hv2⟩ := hv; go_simp
  simp only [sA, sB, sC]
  refine tk (i := 3) (v := .slice P X.l.length C) rfl rfl (by kernel_rfl) (fun _ _ _ h => h) ?_ hH ?_
  · intro v hv; obtain ⟨hv1, hv2⟩ := hv; go_simp
  simp only [sA, sB, sC]
  refine tk (i := 5) (v := .pointer (some ⟨X.b, 0, none⟩)) rfl rfl (by kernel_rfl) (fun _ _ _ h => h) ?_ hH ?_
  · intro v hv; obtain ⟨hv1, hv2⟩ := hv; go_simp
  simp only [sA, sB, sC]
  refine tk (i := 6) (v := .pointer (some ⟨X.b, 0, none⟩)) rfl rfl (by kernel_rfl) (fun _ _ _ h => h) ?_ hH ?_
  · intro v hv; obtain ⟨hv1, hv2⟩ := hv; go_simp
  simp only [sA, sB, sC]
  refine tk (i := 7) (v := .pointer (some ⟨X.b, 1, none⟩)) rfl rfl (by kernel_rfl) (fun _ _ _ h => h) ?_ hH ?_
  · intro v hv; obtain ⟨hv1, hv2⟩ := hv; go_simp
  simp only [sA, sB, sC]
  refine tk (i := 8) (v := .int .i64 (X.k : Int)) rfl rfl (by kernel_rfl) (fun _ _ _ h => h) ?_ hH ?_
  · intro v hv; obtain ⟨hv1, hv2⟩ := hv; go_simp
  simp only [sA, sB, sC]
  refine wpAnyH_ready (rs := [4]) (by kernel_rfl) (by simp) ?_
  refine AllReadyH.cons rfl (fun K hK => ?_) AllReadyH.nil
  go_simp
  go_at_call 61
  refine CL.out.mono ?_
  rintro e w2 ⟨v2, rfl, ho2, hg2⟩
  obtain ⟨P2, C2, rfl⟩ := own_form ho2
  go_wp2_with fail
  have hH2 : (fun w' : World => w'.cell? ⟨X.b, 0, none⟩ = some (.slice P X.l.length C) ∧ w'.cell? ⟨X.b, 1, none⟩ = some (.int .i64 (X.k : Int))) w2 := ⟨hg2.cell c0 (by simp), hg2.cell c1 (by simp)⟩
  refine hK.out _ _ hH2 (fun _ => ?_)
  clear hK K hH
  have hH := hH2
  refine tk (i := 9) (v := .agg #[.slice P2 X.l.length C2, .int .i64 (X.k : Int)]) rfl rfl (by kernel_rfl) (fun _ _ _ h => h) ?_ hH ?_
  · intro v hv; obtain ⟨hv1, hv2⟩ := hv; go_simp
  simp only [sA, sB, sC]
  refine wpAnyH_ready (rs := [10]) (by kernel_rfl) (by simp) ?_
  refine AllReadyH.cons rfl (fun K hK => ?_) AllReadyH.nil
  go_simp
  have hH3 : (fun w' : World => w'.cell? ⟨X.b, 0, none⟩ = some (.slice P X.l.length C) ∧ w'.cell? ⟨X.b, 1, none⟩ = some (.int .i64 (X.k : Int))) (w2.alloc (.cells #[.slice P2 X.l.length C2, .int .i64 (X.k : Int)] 86)) := ⟨(World.grownBy_alloc w2 _ none).cell hH2.1 (by simp), (World.grownBy_alloc w2 _ none).cell hH2.2 (by simp)⟩
  refine hK.out _ _ hH3 (fun _ => ?_)
  clear hK K hH hH2
  have hH := hH3
  refine tk (i := 11) (v := .pointer (some ⟨w2.heap.size, 0, none⟩)) rfl rfl (by kernel_rfl) (fun _ _ _ h => h) ?_ hH ?_
  · intro v hv; obtain ⟨hv1, hv2⟩ := hv; go_simp
  simp only [sA, sB, sC]
  refine wpAnyH_done (by kernel_rfl) ?_ _
  refine NoPanic.normal ?_
  go_wp2_with fail
  go_ret
  have g3 := World.grownBy_alloc w2 (.cells #[.slice P2 X.l.length C2, .int .i64 (X.k : Int)] 86) none
  refine ⟨w2.heap.size, rfl, hg2.size, .slice P2 X.l.length C2, ⟨Nat.le_trans hb hg2.size, heap_alloc_new _ _, ?_, kl, ll⟩, own_ge ho2, hg2.trans g3⟩
  exact ownsRow_le (World.ownsRow.kept ho2 g3 (by cases h : (Value.slice P2 X.l.length C2).ownBlock <;> simp)) hb

/-- files fewer -/
theorem Fls.sub {w : World} {base : Nat} {xs ys : List Fl} (h : Fls w base xs) (hs : ys.Sublist xs) : Fls w base ys := ⟨fun x hx => h.ok x (hs.subset hx), h.nb.sublist hs, h.nv.sublist hs⟩

end Go.Proofs.Ytdiehlioemmakaa

namespace Go.Proofs.Ytdiehlioemmakaa
open Go.RowKit Go.Maps Go.Joins

theorem Fls.perm {w : World} {base : Nat} {xs ys : List Fl} (h : Fls w base xs) (hp : xs.Perm ys) : Fls w base ys :=
  ⟨fun x hx => h.ok x (hp.mem_iff.2 hx), (hp.pairwise_iff (fun hab e => hab e.symm)).1 h.nb, (hp.pairwise_iff (fun hab g hg e => hab g e hg)).1 h.nv⟩
end Go.Proofs.Ytdiehlioemmakaa

namespace Go.Proofs.Ytdiehlioemmakaa
open Go.RowKit Go.Maps Go.Joins

end Go.Proofs.Ytdiehlioemmakaa

