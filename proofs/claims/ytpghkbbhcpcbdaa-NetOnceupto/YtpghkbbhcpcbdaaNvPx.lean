/-
  The law's round: a message of this epoch.
-/
import Derived.Test.YtpghkbbhcpcbdaaNvOx
namespace Go.Proofs.Ytpghkbbhcpcbdaa
open Go.RowKit Go.Maps Go.Joins

theorem nSame {w W : World} (g : w.grownBy W none) (e : W.heap = w.heap) (a : Addr) (v : Value) : (w.setCell a v).grownBy (W.setCell a v) none := by
  have h : (W.setCell a v).heap = (w.setCell a v).heap := by unfold World.setCell; simp only [e]
  exact ⟨g.os, g.tape, g.output, by rw [h]; exact Nat.le_refl _, fun k _ _ => by rw [h]⟩
theorem LwY.kept {w0 wr w1 : World} {N n d pr gs gg go i : Nat} (h : LwY w0 N n d pr gs gg go i wr) (g : wr.grownBy w1 none) : LwY w0 N n d pr gs gg go i w1 := by
  obtain ⟨own, S, T, G, O, c, L, hs, rv, hg, ho, H⟩ := h
  exact ⟨own, S, T, G, O, c, L, hs, rv, hg, ho, H.kept g⟩
theorem bys.conv' {w : World} {p : Option Addr} {l : List UInt8} (h : bys w p l) (cap : Nat) : (convert 27 9 (.slice p l.length cap)).run Try.prog w = .ok (.string ⟨l.toArray⟩) w := by
  rcases h with ⟨rfl, rfl⟩ | ⟨g, o, rfl, h⟩
  · simp only [List.length_nil]
    rw [run_convert_bytes_string w 27 9 5 none 0 cap u8Slice u8T strT]
    rfl
  · exact bys.conv (Or.inr ⟨g, o, rfl, h⟩) cap (fun e => by cases e)
set_option maxHeartbeats 4000000 in
set_option maxRecDepth 1000000 in
theorem nS_1g {j : Nat} {m : Nat × ByteArray} {rest : List (Nat × ByteArray)} {w0 wx : World} {N A Ca n d pr gs gg go i b c : Nat} {Pa : Option Addr} {own : Nat → Nat} {S : St} {L : Ly} {T : Nat → Nat → List ByteArray} {G O : Nat → Nat → Nat} {hs hg ho : Nat → Nat} {rv : Nat → Nat → Value} {u2 u3 u4 u6 u9 u11 u14 u15 u16 u17 u18 u19 u20 u21 u22 u23 u24 u25 u26 u27 u28 u29 u30 u31 u32 u33 u34 u35 u36 u37 u38 u39 u40 u41 u42 u43 u44 u45 u46 u47 u48 u49 u50 u51 u52 u53 u54 u55 u56 u57 u58 u59 u60 u61 u62 u63 u64 u65 u66 u67 u68 u69 u70 u71 u72 u73 u74 u75 u76 u77 u78 u79 u80 u81 u82 u83 u84 u85 u86 u87 u88 u89 u90 u91 u92 u93 u94 u95 u96 u97 u98 u99 u100 u101 u102 u103 u104 u105 u106 u107 u108 u109 u110 u111 u112 u113 u114 u115 u116 u117 u118 u119 u120 u121 u122 u123 u124 u125 u126 u127 u128 u129 u130 u131 u132 u133 u134 u135 u136 u137 u138 u139 u140 u141 u142 u143 u144 u145 u146 u147 u148 u149 u150 u151 u152 u153 u154 u155 u156 u157 u158 u159 u160 u161 u162 u163 u164 u165 u166 u167 u168 u169 u170 u171 u172 u173 u174 u175 u176 u177 u178 u179 u180 u181 u182 u183 u184 u185 u186 u187 u188 u189 u190 u191 u192 u193 u194 u195 u196 u197 u198 u199 u200 u201 u202 u203 u204 u205 u206 u207 u208 u209 u210 u211 u212 u213 u214 u215 u216 u217 u218 u219 u220 u221 u222 u223 u224 u225 u226 u227 u228 u229 u230 u231 u232 u233 u234 u235 u236 u237 u238 u239 u240 u241 u242 u243 u244 u245 u246 u247 u248 u249 u250 u251 u252 u253 u254 u255 u256 u257 u258 u259 u260 u261 u262 u263 u264 u265 u266 u267 u268 u269 u270 u271 u272 u273 u274 u275 u276 u277 u278 u279 u280 u281 u282 u283 u284 u285 u286 u287 u288 u289 u290 u291 u292 u293 u294 u295 u296 u297 u298 u299 u300 u301 u302 u303 u304 u305 : Value} {Q5 : Exit → Act → World → Prop} {t I : Int} {p : Option Addr} {l : List UInt8} {q : Nat} {hw : Bool} (h : LwF w0 N n d pr gs gg go i own S T G O c L hs rv hg ho wx) (hi : i + 1 ≤ 3000000) (hb : wx.heap[b]? = some (.cells #[.int .i64 1, .int .i64 (j : Int), .int .i64 t, .int .i64 I, .slice p l.length q, .bool hw] 29 (0, 0))) (hob : own b ≠ 1) (hs1 : isS S (j : Int) = true) (hm : S.ms j = m :: rest) (hO : O m.1 j = 0) : Code.wp Try.prog (nS Try.f4) (Exit.then (nM w0 N n d A Ca pr gs gg go i Pa) Q5) ⟨#[.int .i64 (N : Int), .slice Pa A Ca, u2, u3, u4, .pointer (some ⟨pr, 0, none⟩), u6, .slice (some ⟨gs, 0, none⟩) N N, .slice (some ⟨gg, 0, none⟩) N N, u9, .slice (some ⟨go, 0, none⟩) N N, u11, .int .i64 (i : Int), .pointer (some ⟨b, 0, none⟩), u14, u15, u16, u17, u18, u19, u20, u21, u22, u23, u24, u25, u26, u27, u28, u29, u30, u31, u32, u33, u34, u35, u36, u37, u38, u39, u40, u41, u42, u43, u44, u45, u46, u47, u48, u49, u50, u51, u52, u53, u54, u55, u56, u57, u58, u59, u60, u61, u62, u63, u64, u65, u66, u67, u68, u69, u70, u71, u72, u73, u74, u75, u76, u77, u78, u79, u80, u81, u82, u83, u84, u85, u86, u87, u88, u89, u90, u91, u92, u93, u94, u95, u96, u97, u98, u99, u100, u101, u102, u103, u104, u105, u106, u107, u108, u109, u110, u111, u112, u113, u114, u115, u116, u117, u118, u119, u120, u121, u122, u123, u124, u125, u126, u127, u128, u129, u130, u131, u132, u133, u134, u135, u136, u137, u138, u139, u140, u141, u142, u143, u144, u145, u146, u147, u148, u149, u150, u151, u152, u153, u154, u155, u156, u157, u158, u159, u160, u161, u162, u163, u164, u165, u166, u167, u168, u169, u170, u171, u172, u173, u174, u175, u176, u177, u178, u179, u180, u181, u182, u183, u184, u185, u186, u187, u188, u189, u190, u191, u192, u193, u194, u195, u196, u197, u198, u199, u200, u201, u202, u203, u204, u205, u206, u207, u208, u209, u210, u211, u212, u213, u214, u215, u216, u217, u218, u219, u220, u221, u222, u223, u224, u225, u226, u227, u228, u229, u230, u231, u232, u233, u234, u235, u236, u237, u238, u239, u240, u241, u242, u243, u244, u245, u246, u247, u248, u249, u250, u251, u252, u253, u254, u255, u256, u257, u258, u259, u260, u261, u262, u263, u264, u265, u266, u267, u268, u269, u270, u271, u272, u273, u274, u275, u276, u277, u278, u279, u280, u281, u282, u283, u284, u285, u286, u287, u288, u289, u290, u291, u292, u293, u294, u295, u296, u297, u298, u299, u300, u301, u302, u303, u304, u305], []⟩ wx := by
  obtain ⟨a0, a1, a2, a3, a4, a5, af⟩ := cells6 hb
  obtain ⟨p0, p1, pf⟩ := cells2 h.pr.1
  have lb := lt_of_heap hb
  have lp := lt_of_heap h.pr.1
  have RVC : Hid (∀ W, wx.grownBy W none → Calls Try.prog 16 #[.pointer (some ⟨n, 0, none⟩), .int .i64 (j : Int)] W fun e w' => ∃ (pm : Option Addr) (cm : Nat), e = .returned (.tuple #[.agg #[.int .i64 (m.1 : Int), .slice pm m.2.data.toList.length cm], .bool true, .int .i64 0]) ∧ nR1 W n c own { S with ms := upd S.ms j rest } b (.cells #[.int .i64 1, .int .i64 (j : Int), .int .i64 t, .int .i64 I, .slice p l.length q, .bool hw] 29 (0, 0)) pr (j : Int) pm m.2.data.toList w' ∧ (∀ ad, pm = some ad → W.heap.size ≤ ad.block)) := fun W gW => by
    have H' := h.kept gW
    refine (Recv_any H'.net (j : Int)).mono ?_
    rintro e w5 (⟨h1, _⟩ | ⟨j', hj', _, h2, _⟩ | ⟨j', m', rest', g, cap, hj', _, h2, rfl, hg, hy, U⟩)
    · rw [hs1] at h1; cases h1
    · obtain rfl : j = j' := by omega
      rw [hm] at h2; cases h2
    · obtain rfl : j = j' := by omega
      rw [hm] at h2
      injection h2 with h3 h4
      subst h3; subst h4
      have hb5 := U
      obtain ⟨L5, _, C5⟩ := hb5
      have hb6 := C5.at_ (box_keep hb gW (by simp)) hob
      have hp6 := C5.at_ H'.pr.1 (fun e => by have := H'.pr.2; have e : own pr = 1 := e; omega)
      exact ⟨some ⟨g, 0, none⟩, cap, rfl, ⟨U, hb6, hy, (cells6 hb6).2.1, (cells2 hp6).1, fun k hk ho => C5.block k hk ho⟩, fun ad e => by cases e; exact hg⟩
  have T0 : Hid (∀ W, wx.grownBy W none → W.cell? ⟨b, 1, none⟩ = some (.int .i64 (j : Int)) ∧ W.cell? ⟨pr, 0, none⟩ = some (.pointer (some ⟨n, 0, none⟩))) := fun W g => ⟨(cells6 (box_keep hb g (by simp))).2.1, (cells2 (box_keep h.pr.1 g (by simp))).1⟩
  have lbn : b ≠ wx.heap.size := by omega
  have lpn : pr ≠ wx.heap.size := by omega
  have HH := mkHid h
  clear h hb af pf
  conv => arg 2; whnf
  go_upto_region 29 with fail
  go_cut [14, 15, 16] from 62 to 305 (fun s14 s15 s16 wz => ∃ (mb : Nat) (pm : Option Addr) (cm : Nat), s14 = .pointer (some ⟨mb, 0, none⟩) ∧ s15 = .bool true ∧ s16 = .int .i64 0 ∧ Hid (nK1 wx n c own { S with ms := upd S.ms j rest } b (.cells #[.int .i64 1, .int .i64 (j : Int), .int .i64 t, .int .i64 I, .slice p l.length q, .bool hw] 29 (0, 0)) mb m.1 pm m.2.data.toList cm wz))
  case first =>
    go_region_held3 (fun w' => w'.cell? ⟨b, 1, none⟩ = some (.int .i64 (j : Int)) ∧ w'.cell? ⟨pr, 0, none⟩ = some (.pointer (some ⟨n, 0, none⟩))) (first | exact (T0.out _ (grown_drew (grown_refl _))) | exact (T0.out _ (grown_drew (grown_al (grown_refl _) _))) | exact ⟨R5.out.2.2.2.1, R5.out.2.2.2.2.1⟩ | exact ⟨(World.grownBy_alloc _ _ none).cell R5.out.2.2.2.1 (by simp), (World.grownBy_alloc _ _ none).cell R5.out.2.2.2.2.1 (by simp)⟩ | exact ⟨nSet lbn R5.out.2.2.2.1, nSet lpn R5.out.2.2.2.2.1⟩ | go_keep) (first | (go_at_call 16; refine (RVC.out _ (grown_drew (grown_al (grown_refl _) _))).mono ?_; rintro e w5 ⟨pm, cm, rfl, r5, q5⟩; have R5 := mkHid r5; have Q5' := mkHid q5; obtain ⟨m0, m1, mf0, mf1⟩ := HH.out.nMb r5; clear r5 q5) | (go_at_call 16; refine (RVC.out _ (grown_drew (grown_refl _))).mono ?_; rintro e w5 ⟨pm, cm, rfl, r5, q5⟩; have R5 := mkHid r5; have Q5' := mkHid q5; clear r5 q5))
    all_goals (
      go_wp2_with fail
      go_meet
      case rel => first | exact ⟨_, _, _, rfl, rfl, rfl, HH.out.nK (grown_drew (grown_refl _)) R5.out⟩ | exact ⟨_, _, _, rfl, rfl, rfl, HH.out.nK' R5.out lb (fun ad e => by have := Q5'.out ad e; simp at this; omega)⟩)
  case rest =>
    obtain ⟨mb, pm, cm, rfl, rfl, rfl, K1⟩ := hcut
    obtain ⟨U, hb4, hmb, hy⟩ := K1.out
    have hN := HH.out.hN
    obtain ⟨j', hj', hjN, hd⟩ := isS_in hs1
    obtain rfl : j = j' := by omega
    have hm1 := (HH.out.inv.recv hjN hd hm).1
    rw [hN] at hjN hm1
    obtain ⟨g3, h2, ⟨L2, h3⟩, h4, h5, h6, h7⟩ := HH.out.call U
    obtain ⟨o1, o2, o3, lgo, lho⟩ := h7.cell hm1 hjN
    rw [hO] at o2
    obtain ⟨q1, q2, q3, lgg, lhg⟩ := h6.cell hm1 hjN
    obtain ⟨t1, t2, t3, lgs, lhs⟩ := h5.cell hm1 hjN
    obtain ⟨m0, m1, mf⟩ := cells2 hmb
    obtain ⟨b0, b1, _⟩ := cells6 hb4
    obtain ⟨hT, HY⟩ := HH.out.recvG hjN hd hm U hi hO
    have YY : Hid (∀ W, wc.grownBy W none → W.heap = wc.heap → LwY w0 N n d pr gs gg go (i + 1) (W.setCell ⟨hg m.1, j, none⟩ (.int .i64 ((G m.1 j : Int) + 1)))) := fun W gW e => HY.kept (nSame gW e _ _)
    have kb := kd_cells hb4
    have km := kd_cells hmb
    have kr := h6.kr hm1
    have n1 : b ≠ hg m.1 := fun e => by rw [e, kr] at kb; simp at kb
    have n2 : mb ≠ hg m.1 := fun e => by rw [e, kr] at km; simp at km
    have n3 : gg ≠ hg m.1 := fun e => by have := h6.kg; rw [e, kr] at this; simp at this
    have TS : Hid (wc.cell? ⟨mb, 0, none⟩ = some (.int .i64 (m.1 : Int)) ∧ wc.cell? ⟨gg, m.1, none⟩ = some (.slice (some ⟨hg m.1, 0, none⟩) N N) ∧ wc.cell? ⟨b, 1, none⟩ = some (.int .i64 (j : Int))) := ⟨m0, q1, b1⟩
    have TE : Hid ((wc.setCell ⟨hg m.1, j, none⟩ (.int .i64 ((G m.1 j : Int) + 1))).cell? ⟨mb, 0, none⟩ = some (.int .i64 (m.1 : Int)) ∧ (wc.setCell ⟨hg m.1, j, none⟩ (.int .i64 ((G m.1 j : Int) + 1))).cell? ⟨gg, m.1, none⟩ = some (.slice (some ⟨hg m.1, 0, none⟩) N N) ∧ (wc.setCell ⟨hg m.1, j, none⟩ (.int .i64 ((G m.1 j : Int) + 1))).cell? ⟨b, 1, none⟩ = some (.int .i64 (j : Int))) := ⟨nSet1 n2 m0, nSet1 n3 q1, nSet1 n1 b1⟩
    obtain ⟨pv, cl, hv, _, _, hnn, _⟩ := (h5.str m.1 j hm1 hjN).1.form
    have hGl := (List.getElem?_eq_some_iff.1 hT).1
    have hsh := (h5.str m.1 j hm1 hjN).1
    rw [hv] at hsh t2
    obtain ⟨ad, rfl⟩ : ∃ ad, pv = some ad := by
      cases pv with
      | some ad => exact ⟨ad, rfl⟩
      | none => have := (hnn rfl).1; omega
    obtain ⟨gl, ol, rfl, hcell⟩ := hsh.cell
    have t5 := hcell _ _ (usC_get hT)
    obtain ⟨TL, hTL⟩ : ∃ TL, TL = (T m.1 j).length := ⟨_, rfl⟩
    rw [← hTL] at t2 hGl
    obtain ⟨ML, hML⟩ : ∃ ML, ML = m.2.data.toList.length := ⟨_, rfl⟩
    rw [← hML] at m1
    have ebm : (⟨m.2.data.toList.toArray⟩ : ByteArray) = m.2 := by rw [Array.toArray_toList]
    have T36 : Hid (∀ W, wc.grownBy W none → (fun w' : World => w'.cell? ⟨mb, 0, none⟩ = some (.int .i64 (m.1 : Int)) ∧ w'.cell? ⟨mb, 1, none⟩ = some (.slice pm ML cm) ∧ w'.cell? ⟨gs, m.1, none⟩ = some (.slice (some ⟨hs m.1, 0, none⟩) N N) ∧ w'.cell? ⟨hs m.1, j, none⟩ = some (.slice (some ⟨gl, ol, none⟩) TL cl) ∧ w'.cell? ⟨gl, ol + G m.1 j, none⟩ = some (.string m.2) ∧ w'.cell? ⟨b, 1, none⟩ = some (.int .i64 (j : Int)) ∧ (convert 27 9 (.slice pm ML cm)).run Try.prog w' = .ok (.string m.2) w') W) := fun W gW => ⟨gW.cell m0 (by simp), gW.cell m1 (by simp), gW.cell t1 (by simp), gW.cell t2 (by simp), gW.cell t5 (by simp), gW.cell b1 (by simp), by have := (hy.kept gW).conv' cm; rw [ebm, ← hML] at this; exact this⟩
    have e1 : (m.1 : Int) < (N : Int) := by omega
    have e2 : ¬ (m.1 : Int) < 0 := by omega
    have e3 : (j : Int) < (N : Int) := by omega
    have e5 := (HH.out.tl m.1 j).2.1
    have e7 : (G m.1 j : Int) < (TL : Int) := by omega
    have e6 : IntKind.i64.wrap ((G m.1 j : Int) + 1) = (G m.1 j : Int) + 1 := by rw [IntKind.wrap_i64]; omega
    clear U K1 HH g3 h2 h3 h4 h5 h6 h7 hb4 hmb hy kb km kr n1 n2 n3 hN RVC T0 a0 a1 a2 a3 a4 a5 p0 p1 hm hs1 hsh hcell hv HY hT ebm hnn hTL hML
    go_upto_region 33 with fail
    go_quiet (fail)
    go_upto_region 35 with fail
    go_quiet (fail)
    go_upto_region 36 with fail
    refine wp_region_noPanic ?_
    refine wp_region_held_drew (S := fun w' : World => w'.cell? ⟨mb, 0, none⟩ = some (.int .i64 (m.1 : Int)) ∧ w'.cell? ⟨mb, 1, none⟩ = some (.slice pm ML cm) ∧ w'.cell? ⟨gs, m.1, none⟩ = some (.slice (some ⟨hs m.1, 0, none⟩) N N) ∧ w'.cell? ⟨hs m.1, j, none⟩ = some (.slice (some ⟨gl, ol, none⟩) TL cl) ∧ w'.cell? ⟨gl, ol + G m.1 j, none⟩ = some (.string m.2) ∧ w'.cell? ⟨b, 1, none⟩ = some (.int .i64 (j : Int)) ∧ (convert 27 9 (.slice pm ML cm)).run Try.prog w' = .ok (.string m.2) w') (by kernel_rfl) (T36.out _ (grown_drew (grown_drewN (grown_drewN (grown_refl _) _) _))) (fun hH => ?_)
    refine take_at (i := 0) (v := .int .i64 (G m.1 j : Int)) rfl rfl (by kernel_rfl) (by kernel_rfl) (by kernel_rfl) (fun _ _ _ h => h) (Or.inl ⟨by rfl, ?_⟩) hH ?_
    · intro w5 hSw; obtain ⟨s1, s2, s3, s4, s5, s6, s7⟩ := hSw; go_simp
    simp only [List.setIfInBounds_toArray, List.set_cons_zero, List.set_cons_succ]
    refine take_at (i := 1) (v := .slice (some ⟨gs, 0, none⟩) N N) rfl rfl (by kernel_rfl) (by kernel_rfl) (by kernel_rfl) (fun _ _ _ h => h) (Or.inl ⟨by rfl, ?_⟩) hH ?_
    · intro w5 hSw; obtain ⟨s1, s2, s3, s4, s5, s6, s7⟩ := hSw; go_simp
    simp only [List.setIfInBounds_toArray, List.set_cons_zero, List.set_cons_succ]
    refine take_at (i := 2) (v := .pointer (some ⟨mb, 0, none⟩)) rfl rfl (by kernel_rfl) (by kernel_rfl) (by kernel_rfl) (fun _ _ _ h => h) (Or.inl ⟨by rfl, ?_⟩) hH ?_
    · intro w5 hSw; obtain ⟨s1, s2, s3, s4, s5, s6, s7⟩ := hSw; go_simp
    simp only [List.setIfInBounds_toArray, List.set_cons_zero, List.set_cons_succ]
    refine take_at (i := 3) (v := .int .i64 (m.1 : Int)) rfl rfl (by kernel_rfl) (by kernel_rfl) (by kernel_rfl) (fun _ _ _ h => h) (Or.inl ⟨by rfl, ?_⟩) hH ?_
    · intro w5 hSw; obtain ⟨s1, s2, s3, s4, s5, s6, s7⟩ := hSw; go_simp
    simp only [List.setIfInBounds_toArray, List.set_cons_zero, List.set_cons_succ]
    refine take_at (i := 4) (v := .pointer (some ⟨gs, m.1, none⟩)) rfl rfl (by kernel_rfl) (by kernel_rfl) (by kernel_rfl) (fun _ _ _ h => h) (Or.inl ⟨by rfl, ?_⟩) hH ?_
    · intro w5 hSw; obtain ⟨s1, s2, s3, s4, s5, s6, s7⟩ := hSw; go_simp
    simp only [List.setIfInBounds_toArray, List.set_cons_zero, List.set_cons_succ]
    refine take_at (i := 5) (v := .slice (some ⟨hs m.1, 0, none⟩) N N) rfl rfl (by kernel_rfl) (by kernel_rfl) (by kernel_rfl) (fun _ _ _ h => h) (Or.inl ⟨by rfl, ?_⟩) hH ?_
    · intro w5 hSw; obtain ⟨s1, s2, s3, s4, s5, s6, s7⟩ := hSw; go_simp
    simp only [List.setIfInBounds_toArray, List.set_cons_zero, List.set_cons_succ]
    refine take_at (i := 6) (v := .pointer (some ⟨b, 1, none⟩)) rfl rfl (by kernel_rfl) (by kernel_rfl) (by kernel_rfl) (fun _ _ _ h => h) (Or.inl ⟨by rfl, ?_⟩) hH ?_
    · intro w5 hSw; obtain ⟨s1, s2, s3, s4, s5, s6, s7⟩ := hSw; go_simp
    simp only [List.setIfInBounds_toArray, List.set_cons_zero, List.set_cons_succ]
    refine take_at (i := 7) (v := .int .i64 (j : Int)) rfl rfl (by kernel_rfl) (by kernel_rfl) (by kernel_rfl) (fun _ _ _ h => h) (Or.inl ⟨by rfl, ?_⟩) hH ?_
    · intro w5 hSw; obtain ⟨s1, s2, s3, s4, s5, s6, s7⟩ := hSw; go_simp
    simp only [List.setIfInBounds_toArray, List.set_cons_zero, List.set_cons_succ]
    refine take_at (i := 8) (v := .pointer (some ⟨hs m.1, j, none⟩)) rfl rfl (by kernel_rfl) (by kernel_rfl) (by kernel_rfl) (fun _ _ _ h => h) (Or.inl ⟨by rfl, ?_⟩) hH ?_
    · intro w5 hSw; obtain ⟨s1, s2, s3, s4, s5, s6, s7⟩ := hSw; go_simp
    simp only [List.setIfInBounds_toArray, List.set_cons_zero, List.set_cons_succ]
    refine take_at (i := 9) (v := .slice (some ⟨gl, ol, none⟩) TL cl) rfl rfl (by kernel_rfl) (by kernel_rfl) (by kernel_rfl) (fun _ _ _ h => h) (Or.inl ⟨by rfl, ?_⟩) hH ?_
    · intro w5 hSw; obtain ⟨s1, s2, s3, s4, s5, s6, s7⟩ := hSw; go_simp
    simp only [List.setIfInBounds_toArray, List.set_cons_zero, List.set_cons_succ]
    refine take_at (i := 10) (v := .int .i64 (TL : Int)) rfl rfl (by kernel_rfl) (by kernel_rfl) (by kernel_rfl) (fun _ _ _ h => h) (Or.inl ⟨by rfl, ?_⟩) hH ?_
    · intro w5 hSw; obtain ⟨s1, s2, s3, s4, s5, s6, s7⟩ := hSw; go_simp
    simp only [List.setIfInBounds_toArray, List.set_cons_zero, List.set_cons_succ]
    refine take_at (i := 11) (v := .bool false) rfl rfl (by kernel_rfl) (by kernel_rfl) (by kernel_rfl) (fun _ _ _ h => h) (Or.inl ⟨by rfl, ?_⟩) hH ?_
    · intro w5 hSw; obtain ⟨s1, s2, s3, s4, s5, s6, s7⟩ := hSw; go_simp
    simp only [List.setIfInBounds_toArray, List.set_cons_zero, List.set_cons_succ]
    refine take_at (i := 12) (v := .bool false) rfl rfl (by kernel_rfl) (by kernel_rfl) (by kernel_rfl) (fun _ _ _ h => h) (Or.inl ⟨by rfl, ?_⟩) hH ?_
    · intro w5 hSw; obtain ⟨s1, s2, s3, s4, s5, s6, s7⟩ := hSw; go_simp
    simp only [List.setIfInBounds_toArray, List.set_cons_zero, List.set_cons_succ]
    refine take_at (i := 13) (v := .slice (some ⟨gs, 0, none⟩) N N) rfl rfl (by kernel_rfl) (by kernel_rfl) (by kernel_rfl) (fun _ _ _ h => h) (Or.inl ⟨by rfl, ?_⟩) hH ?_
    · intro w5 hSw; obtain ⟨s1, s2, s3, s4, s5, s6, s7⟩ := hSw; go_simp
    simp only [List.setIfInBounds_toArray, List.set_cons_zero, List.set_cons_succ]
    refine take_at (i := 14) (v := .pointer (some ⟨mb, 0, none⟩)) rfl rfl (by kernel_rfl) (by kernel_rfl) (by kernel_rfl) (fun _ _ _ h => h) (Or.inl ⟨by rfl, ?_⟩) hH ?_
    · intro w5 hSw; obtain ⟨s1, s2, s3, s4, s5, s6, s7⟩ := hSw; go_simp
    simp only [List.setIfInBounds_toArray, List.set_cons_zero, List.set_cons_succ]
    refine take_at (i := 15) (v := .int .i64 (m.1 : Int)) rfl rfl (by kernel_rfl) (by kernel_rfl) (by kernel_rfl) (fun _ _ _ h => h) (Or.inl ⟨by rfl, ?_⟩) hH ?_
    · intro w5 hSw; obtain ⟨s1, s2, s3, s4, s5, s6, s7⟩ := hSw; go_simp
    simp only [List.setIfInBounds_toArray, List.set_cons_zero, List.set_cons_succ]
    refine take_at (i := 16) (v := .pointer (some ⟨gs, m.1, none⟩)) rfl rfl (by kernel_rfl) (by kernel_rfl) (by kernel_rfl) (fun _ _ _ h => h) (Or.inl ⟨by rfl, ?_⟩) hH ?_
    · intro w5 hSw; obtain ⟨s1, s2, s3, s4, s5, s6, s7⟩ := hSw; go_simp
    simp only [List.setIfInBounds_toArray, List.set_cons_zero, List.set_cons_succ]
    refine take_at (i := 17) (v := .slice (some ⟨hs m.1, 0, none⟩) N N) rfl rfl (by kernel_rfl) (by kernel_rfl) (by kernel_rfl) (fun _ _ _ h => h) (Or.inl ⟨by rfl, ?_⟩) hH ?_
    · intro w5 hSw; obtain ⟨s1, s2, s3, s4, s5, s6, s7⟩ := hSw; go_simp
    simp only [List.setIfInBounds_toArray, List.set_cons_zero, List.set_cons_succ]
    refine take_at (i := 18) (v := .pointer (some ⟨b, 1, none⟩)) rfl rfl (by kernel_rfl) (by kernel_rfl) (by kernel_rfl) (fun _ _ _ h => h) (Or.inl ⟨by rfl, ?_⟩) hH ?_
    · intro w5 hSw; obtain ⟨s1, s2, s3, s4, s5, s6, s7⟩ := hSw; go_simp
    simp only [List.setIfInBounds_toArray, List.set_cons_zero, List.set_cons_succ]
    refine take_at (i := 19) (v := .int .i64 (j : Int)) rfl rfl (by kernel_rfl) (by kernel_rfl) (by kernel_rfl) (fun _ _ _ h => h) (Or.inl ⟨by rfl, ?_⟩) hH ?_
    · intro w5 hSw; obtain ⟨s1, s2, s3, s4, s5, s6, s7⟩ := hSw; go_simp
    simp only [List.setIfInBounds_toArray, List.set_cons_zero, List.set_cons_succ]
    refine take_at (i := 20) (v := .pointer (some ⟨hs m.1, j, none⟩)) rfl rfl (by kernel_rfl) (by kernel_rfl) (by kernel_rfl) (fun _ _ _ h => h) (Or.inl ⟨by rfl, ?_⟩) hH ?_
    · intro w5 hSw; obtain ⟨s1, s2, s3, s4, s5, s6, s7⟩ := hSw; go_simp
    simp only [List.setIfInBounds_toArray, List.set_cons_zero, List.set_cons_succ]
    refine take_at (i := 21) (v := .slice (some ⟨gl, ol, none⟩) TL cl) rfl rfl (by kernel_rfl) (by kernel_rfl) (by kernel_rfl) (fun _ _ _ h => h) (Or.inl ⟨by rfl, ?_⟩) hH ?_
    · intro w5 hSw; obtain ⟨s1, s2, s3, s4, s5, s6, s7⟩ := hSw; go_simp
    simp only [List.setIfInBounds_toArray, List.set_cons_zero, List.set_cons_succ]
    refine take_at (i := 22) (v := .int .i64 (G m.1 j : Int)) rfl rfl (by kernel_rfl) (by kernel_rfl) (by kernel_rfl) (fun _ _ _ h => h) (Or.inl ⟨by rfl, ?_⟩) hH ?_
    · intro w5 hSw; obtain ⟨s1, s2, s3, s4, s5, s6, s7⟩ := hSw; go_simp
    simp only [List.setIfInBounds_toArray, List.set_cons_zero, List.set_cons_succ]
    refine take_at (i := 23) (v := .pointer (some ⟨gl, ol + G m.1 j, none⟩)) rfl rfl (by kernel_rfl) (by kernel_rfl) (by kernel_rfl) (fun _ _ _ h => h) (Or.inl ⟨by rfl, ?_⟩) hH ?_
    · intro w5 hSw; obtain ⟨s1, s2, s3, s4, s5, s6, s7⟩ := hSw; go_simp
    simp only [List.setIfInBounds_toArray, List.set_cons_zero, List.set_cons_succ]
    refine take_at (i := 24) (v := .string m.2) rfl rfl (by kernel_rfl) (by kernel_rfl) (by kernel_rfl) (fun _ _ _ h => h) (Or.inl ⟨by rfl, ?_⟩) hH ?_
    · intro w5 hSw; obtain ⟨s1, s2, s3, s4, s5, s6, s7⟩ := hSw; go_simp
    simp only [List.setIfInBounds_toArray, List.set_cons_zero, List.set_cons_succ]
    refine take_at (i := 25) (v := .pointer (some ⟨mb, 1, none⟩)) rfl rfl (by kernel_rfl) (by kernel_rfl) (by kernel_rfl) (fun _ _ _ h => h) (Or.inl ⟨by rfl, ?_⟩) hH ?_
    · intro w5 hSw; obtain ⟨s1, s2, s3, s4, s5, s6, s7⟩ := hSw; go_simp
    simp only [List.setIfInBounds_toArray, List.set_cons_zero, List.set_cons_succ]
    refine take_at (i := 26) (v := .slice pm ML cm) rfl rfl (by kernel_rfl) (by kernel_rfl) (by kernel_rfl) (fun _ _ _ h => h) (Or.inl ⟨by rfl, ?_⟩) hH ?_
    · intro w5 hSw; obtain ⟨s1, s2, s3, s4, s5, s6, s7⟩ := hSw; go_simp
    simp only [List.setIfInBounds_toArray, List.set_cons_zero, List.set_cons_succ]
    refine take_at (i := 27) (v := .string m.2) rfl rfl (by kernel_rfl) (by kernel_rfl) (by kernel_rfl) (fun _ _ _ h => h) (Or.inl ⟨by rfl, ?_⟩) hH ?_
    · intro w5 hSw; obtain ⟨s1, s2, s3, s4, s5, s6, s7⟩ := hSw; go_simp
    simp only [List.setIfInBounds_toArray, List.set_cons_zero, List.set_cons_succ]
    refine take_at (i := 28) (v := .bool false) rfl rfl (by kernel_rfl) (by kernel_rfl) (by kernel_rfl) (fun _ _ _ h => h) (Or.inl ⟨by rfl, ?_⟩) hH ?_
    · intro w5 hSw; obtain ⟨s1, s2, s3, s4, s5, s6, s7⟩ := hSw; go_simp
    simp only [List.setIfInBounds_toArray, List.set_cons_zero, List.set_cons_succ]
    refine take_at (i := 29) (v := .bool false) rfl rfl (by kernel_rfl) (by kernel_rfl) (by kernel_rfl) (fun _ _ _ h => h) (Or.inl ⟨by rfl, ?_⟩) hH ?_
    · intro w5 hSw; obtain ⟨s1, s2, s3, s4, s5, s6, s7⟩ := hSw; go_simp
    simp only [List.setIfInBounds_toArray, List.set_cons_zero, List.set_cons_succ]
    refine wpAnyH_done (by kernel_rfl) ?_ _
    refine NoPanic.normal ?_
    go_upto_region 38 with fail
    refine wp_region_noPanic ?_
    refine wp_region_held_drew (S := fun w' : World => w'.cell? ⟨mb, 0, none⟩ = some (.int .i64 (m.1 : Int)) ∧ w'.cell? ⟨gg, m.1, none⟩ = some (.slice (some ⟨hg m.1, 0, none⟩) N N) ∧ w'.cell? ⟨b, 1, none⟩ = some (.int .i64 (j : Int))) (by kernel_rfl) TS.out (fun hH => ?_)
    refine take_at (i := 0) (v := .slice (some ⟨gg, 0, none⟩) N N) rfl rfl (by kernel_rfl) (by kernel_rfl) (by kernel_rfl) (fun _ _ _ h => h) (Or.inl ⟨by rfl, ?_⟩) hH ?_
    · intro w5 hSw; obtain ⟨s1, s2, s3⟩ := hSw; go_simp
    simp only [List.setIfInBounds_toArray, List.set_cons_zero, List.set_cons_succ]
    refine take_at (i := 1) (v := .pointer (some ⟨mb, 0, none⟩)) rfl rfl (by kernel_rfl) (by kernel_rfl) (by kernel_rfl) (fun _ _ _ h => h) (Or.inl ⟨by rfl, ?_⟩) hH ?_
    · intro w5 hSw; obtain ⟨s1, s2, s3⟩ := hSw; go_simp
    simp only [List.setIfInBounds_toArray, List.set_cons_zero, List.set_cons_succ]
    refine take_at (i := 2) (v := .int .i64 (m.1 : Int)) rfl rfl (by kernel_rfl) (by kernel_rfl) (by kernel_rfl) (fun _ _ _ h => h) (Or.inl ⟨by rfl, ?_⟩) hH ?_
    · intro w5 hSw; obtain ⟨s1, s2, s3⟩ := hSw; go_simp
    simp only [List.setIfInBounds_toArray, List.set_cons_zero, List.set_cons_succ]
    refine take_at (i := 3) (v := .pointer (some ⟨gg, m.1, none⟩)) rfl rfl (by kernel_rfl) (by kernel_rfl) (by kernel_rfl) (fun _ _ _ h => h) (Or.inl ⟨by rfl, ?_⟩) hH ?_
    · intro w5 hSw; obtain ⟨s1, s2, s3⟩ := hSw; go_simp
    simp only [List.setIfInBounds_toArray, List.set_cons_zero, List.set_cons_succ]
    refine take_at (i := 4) (v := .slice (some ⟨hg m.1, 0, none⟩) N N) rfl rfl (by kernel_rfl) (by kernel_rfl) (by kernel_rfl) (fun _ _ _ h => h) (Or.inl ⟨by rfl, ?_⟩) hH ?_
    · intro w5 hSw; obtain ⟨s1, s2, s3⟩ := hSw; go_simp
    simp only [List.setIfInBounds_toArray, List.set_cons_zero, List.set_cons_succ]
    refine take_at (i := 5) (v := .pointer (some ⟨b, 1, none⟩)) rfl rfl (by kernel_rfl) (by kernel_rfl) (by kernel_rfl) (fun _ _ _ h => h) (Or.inl ⟨by rfl, ?_⟩) hH ?_
    · intro w5 hSw; obtain ⟨s1, s2, s3⟩ := hSw; go_simp
    simp only [List.setIfInBounds_toArray, List.set_cons_zero, List.set_cons_succ]
    refine take_at (i := 6) (v := .int .i64 (j : Int)) rfl rfl (by kernel_rfl) (by kernel_rfl) (by kernel_rfl) (fun _ _ _ h => h) (Or.inl ⟨by rfl, ?_⟩) hH ?_
    · intro w5 hSw; obtain ⟨s1, s2, s3⟩ := hSw; go_simp
    simp only [List.setIfInBounds_toArray, List.set_cons_zero, List.set_cons_succ]
    refine take_at (i := 7) (v := .pointer (some ⟨hg m.1, j, none⟩)) rfl rfl (by kernel_rfl) (by kernel_rfl) (by kernel_rfl) (fun _ _ _ h => h) (Or.inl ⟨by rfl, ?_⟩) hH ?_
    · intro w5 hSw; obtain ⟨s1, s2, s3⟩ := hSw; go_simp
    simp only [List.setIfInBounds_toArray, List.set_cons_zero, List.set_cons_succ]
    refine wpAnyH_ready (rs := [8]) (by kernel_rfl) (by simp) ?_
    refine AllReadyH.cons rfl (fun K hK => ?_) AllReadyH.nil
    go_simp
    refine hK.out _ _ TS.out (fun hH => ?_)
    clear hK K
    refine wpAnyH_ready (rs := [9]) (by kernel_rfl) (by simp) ?_
    refine AllReadyH.cons rfl (fun K hK => ?_) AllReadyH.nil
    go_simp
    refine hK.out _ _ TS.out (fun hH => ?_)
    clear hK K
    refine take_at (i := 10) (v := .pointer (some ⟨hg m.1, j, none⟩)) rfl rfl (by kernel_rfl) (by kernel_rfl) (by kernel_rfl) (fun _ _ _ h => h) (Or.inl ⟨by rfl, ?_⟩) hH ?_
    · intro w5 hSw; obtain ⟨s1, s2, s3⟩ := hSw; go_simp
    simp only [List.setIfInBounds_toArray, List.set_cons_zero, List.set_cons_succ]
    refine wpAnyH_ready (rs := [11]) (by kernel_rfl) (by simp) ?_
    refine AllReadyH.cons rfl (fun K hK => ?_) AllReadyH.nil
    go_simp
    refine hK.out _ _ TE.out (fun hH => ?_)
    clear hK K
    refine wpAnyH_done (by kernel_rfl) ?_ _
    refine NoPanic.normal ?_
    go_wp2_with fail
    exact ⟨nFr_mk, YY.out _ (by repeat (first | exact grown_refl _ | refine grown_drew ?_ | refine grown_drewN ?_ _)) rfl⟩

end Go.Proofs.Ytpghkbbhcpcbdaa
