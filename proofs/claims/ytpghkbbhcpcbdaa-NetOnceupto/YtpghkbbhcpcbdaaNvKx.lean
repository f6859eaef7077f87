/-
  The law's round: a Send.
-/
import Derived.Test.YtpghkbbhcpcbdaaNGC
namespace Go.Proofs.Ytpghkbbhcpcbdaa
open Go.RowKit Go.Maps Go.Joins

set_option maxHeartbeats 4000000 in
set_option maxRecDepth 1000000 in
theorem nS_0y {f t1 : Nat} {w0 wx : World} {N A Ca n d pr gs gg go i b c : Nat} {Pa : Option Addr} {own : Nat → Nat} {S : St} {L : Ly} {T : Nat → Nat → List ByteArray} {G O : Nat → Nat → Nat} {hs hg ho : Nat → Nat} {rv : Nat → Nat → Value} {u2 u3 u4 u6 u9 u11 u14 u15 u16 u17 u18 u19 u20 u21 u22 u23 u24 u25 u26 u27 u28 u29 u30 u31 u32 u33 u34 u35 u36 u37 u38 u39 u40 u41 u42 u43 u44 u45 u46 u47 u48 u49 u50 u51 u52 u53 u54 u55 u56 u57 u58 u59 u60 u61 u62 u63 u64 u65 u66 u67 u68 u69 u70 u71 u72 u73 u74 u75 u76 u77 u78 u79 u80 u81 u82 u83 u84 u85 u86 u87 u88 u89 u90 u91 u92 u93 u94 u95 u96 u97 u98 u99 u100 u101 u102 u103 u104 u105 u106 u107 u108 u109 u110 u111 u112 u113 u114 u115 u116 u117 u118 u119 u120 u121 u122 u123 u124 u125 u126 u127 u128 u129 u130 u131 u132 u133 u134 u135 u136 u137 u138 u139 u140 u141 u142 u143 u144 u145 u146 u147 u148 u149 u150 u151 u152 u153 u154 u155 u156 u157 u158 u159 u160 u161 u162 u163 u164 u165 u166 u167 u168 u169 u170 u171 u172 u173 u174 u175 u176 u177 u178 u179 u180 u181 u182 u183 u184 u185 u186 u187 u188 u189 u190 u191 u192 u193 u194 u195 u196 u197 u198 u199 u200 u201 u202 u203 u204 u205 u206 u207 u208 u209 u210 u211 u212 u213 u214 u215 u216 u217 u218 u219 u220 u221 u222 u223 u224 u225 u226 u227 u228 u229 u230 u231 u232 u233 u234 u235 u236 u237 u238 u239 u240 u241 u242 u243 u244 u245 u246 u247 u248 u249 u250 u251 u252 u253 u254 u255 u256 u257 u258 u259 u260 u261 u262 u263 u264 u265 u266 u267 u268 u269 u270 u271 u272 u273 u274 u275 u276 u277 u278 u279 u280 u281 u282 u283 u284 u285 u286 u287 u288 u289 u290 u291 u292 u293 u294 u295 u296 u297 u298 u299 u300 u301 u302 u303 u304 u305 : Value} {Q5 : Exit → Act → World → Prop} {I : Int} {p : Option Addr} {l : List UInt8} {q : Nat} {hw : Bool} (h : LwF w0 N n d pr gs gg go i own S T G O c L hs rv hg ho wx) (hi : i + 1 ≤ 3000000) (hb : wx.heap[b]? = some (.cells #[.int .i64 0, .int .i64 (f : Int), .int .i64 (t1 : Int), .int .i64 I, .slice p l.length q, .bool hw] 29 (0, 0)))(hby : byA w0 p l) (hnl : p = none → l.length = 0 ∧ q = 0) (hll : l.length ≤ 10000000) (hob : own b ≠ 1) (hf : f < N) (he : t1 < N) (hu : (S.wy f t1).us.length < 4096) (hE : sendE S f t1 l.length = 0) (hT : sendT S f t1 ⟨l.toArray⟩ = sendS S f t1 ⟨l.toArray⟩) : Code.wp Try.prog (nS Try.f4) (Exit.then (nM w0 N n d A Ca pr gs gg go i Pa) Q5) ⟨#[.int .i64 (N : Int), .slice Pa A Ca, u2, u3, u4, .pointer (some ⟨pr, 0, none⟩), u6, .slice (some ⟨gs, 0, none⟩) N N, .slice (some ⟨gg, 0, none⟩) N N, u9, .slice (some ⟨go, 0, none⟩) N N, u11, .int .i64 (i : Int), .pointer (some ⟨b, 0, none⟩), u14, u15, u16, u17, u18, u19, u20, u21, u22, u23, u24, u25, u26, u27, u28, u29, u30, u31, u32, u33, u34, u35, u36, u37, u38, u39, u40, u41, u42, u43, u44, u45, u46, u47, u48, u49, u50, u51, u52, u53, u54, u55, u56, u57, u58, u59, u60, u61, u62, u63, u64, u65, u66, u67, u68, u69, u70, u71, u72, u73, u74, u75, u76, u77, u78, u79, u80, u81, u82, u83, u84, u85, u86, u87, u88, u89, u90, u91, u92, u93, u94, u95, u96, u97, u98, u99, u100, u101, u102, u103, u104, u105, u106, u107, u108, u109, u110, u111, u112, u113, u114, u115, u116, u117, u118, u119, u120, u121, u122, u123, u124, u125, u126, u127, u128, u129, u130, u131, u132, u133, u134, u135, u136, u137, u138, u139, u140, u141, u142, u143, u144, u145, u146, u147, u148, u149, u150, u151, u152, u153, u154, u155, u156, u157, u158, u159, u160, u161, u162, u163, u164, u165, u166, u167, u168, u169, u170, u171, u172, u173, u174, u175, u176, u177, u178, u179, u180, u181, u182, u183, u184, u185, u186, u187, u188, u189, u190, u191, u192, u193, u194, u195, u196, u197, u198, u199, u200, u201, u202, u203, u204, u205, u206, u207, u208, u209, u210, u211, u212, u213, u214, u215, u216, u217, u218, u219, u220, u221, u222, u223, u224, u225, u226, u227, u228, u229, u230, u231, u232, u233, u234, u235, u236, u237, u238, u239, u240, u241, u242, u243, u244, u245, u246, u247, u248, u249, u250, u251, u252, u253, u254, u255, u256, u257, u258, u259, u260, u261, u262, u263, u264, u265, u266, u267, u268, u269, u270, u271, u272, u273, u274, u275, u276, u277, u278, u279, u280, u281, u282, u283, u284, u285, u286, u287, u288, u289, u290, u291, u292, u293, u294, u295, u296, u297, u298, u299, u300, u301, u302, u303, u304, u305], []⟩ wx := by
  obtain ⟨a0, a1, a2, a3, a4, a5, af⟩ := cells6 hb
  obtain ⟨p0, p1, pf⟩ := cells2 h.pr.1
  have lb := lt_of_heap hb
  have lp := lt_of_heap h.pr.1
  have OWN : Hid (∀ W, wx.grownBy W none → Calls Try.prog 15 #[.slice p l.length q] W fun e w' => ∃ g1 cap, e = .returned (.slice (some ⟨g1, 0, none⟩) l.length cap) ∧ nCs b pr n (f : Int) (t1 : Int) p l q w' ∧ wx.grownBy w' none ∧ bys w' (some ⟨g1, 0, none⟩) l) := fun W gW => by
    refine (own_any p q l W (hby.kept (grown_none_trans h.gr gW)) hnl hll).mono ?_
    rintro e w5 ⟨g1, cap, rfl, hy, _, g5⟩
    have g6 := grown_none_trans gW g5
    exact ⟨g1, cap, rfl, nCs.of (box_keep hb g6 (by simp)) (box_keep h.pr.1 g6 (by simp)), g6, hy⟩
  have T0 := mkHid (nCs.of hb h.pr.1)
  have SND : Hid (∀ W g1 cap, wx.grownBy W none → bys W (some ⟨g1, 0, none⟩) l → Calls Try.prog 14 #[.pointer (some ⟨n, 0, none⟩), .int .i64 (f : Int), .int .i64 (t1 : Int), .slice (some ⟨g1, 0, none⟩) l.length cap] W fun r w' => r = .returned (.int .i64 0) ∧ nCs b pr n f t1 p l q w' ∧ nK0 w0 N n d pr gs gg go i own S (sendS S f t1 ⟨l.toArray⟩) T G O c L hs rv hg ho b (.cells #[.int .i64 0, .int .i64 (f : Int), .int .i64 (t1 : Int), .int .i64 I, .slice p l.length q, .bool hw] 29 (0, 0)) w') := fun W g1 cap gW hy => by
    have H' := h.kept gW
    have ok := H'.ok
    have hc := H'.hc
    refine (Send_any H'.net f t1 (some ⟨g1, 0, none⟩) l cap hy (fun e => by cases e) (fun x y => ⟨by have := ok.wb x y; have := ok.lt; omega, by have := ok.wt x y; have := ok.lt; omega, ok.wu x y⟩) (by omega)).mono ?_
    rintro r w5 ⟨rfl, U⟩
    rw [hT] at U
    have hb5 := U
    obtain ⟨L5, _, C5⟩ := hb5
    exact ⟨by rw [hE], nCs.of (C5.at_ (box_keep hb gW (by simp)) hob) (C5.at_ H'.pr.1 (fun e => by have := H'.pr.2; have e : own pr = 1 := e; omega)), W, H', U, C5.at_ (box_keep hb gW (by simp)) hob⟩
  have HBY := mkHid hby
  have HNL := mkHid hnl
  clear h hb hby hnl hE hT af pf
  conv => arg 2; whnf
  go_upto_region 26 with fail
  go_cut [109] from 62 to 305 (fun s109 wz => s109 = .bool true ∧ Hid (nK0 w0 N n d pr gs gg go i own S (sendS S f t1 ⟨l.toArray⟩) T G O c L hs rv hg ho b (.cells #[.int .i64 0, .int .i64 (f : Int), .int .i64 (t1 : Int), .int .i64 I, .slice p l.length q, .bool hw] 29 (0, 0)) wz))
  case first =>
    go_region_held3 (fun w' => w'.cell? ⟨b, 1, none⟩ = some (.int .i64 (f : Int)) ∧ w'.cell? ⟨b, 2, none⟩ = some (.int .i64 (t1 : Int)) ∧ w'.cell? ⟨b, 4, none⟩ = some (.slice p l.length q) ∧ w'.cell? ⟨pr, 0, none⟩ = some (.pointer (some ⟨n, 0, none⟩))) (first | exact KY.out | exact K5.out | exact T0.out) (first | (go_at_call 15; refine (OWN.out _ (grown_drew (grown_refl _))).mono ?_; rintro e w5 ⟨g1, cap, rfl, k5, g5, hy⟩; have K5 := mkHid k5; have G5 := mkHid g5; have HY := mkHid hy; clear g5 hy k5) | (go_at_call 14; refine (SND.out _ _ _ G5.out HY.out).mono ?_; rintro e w6 ⟨rfl, k6, Y6⟩; have KY := mkHid k6; have Y := mkHid Y6; clear Y6 k6))
    all_goals (
      go_wp2_with fail
      go_meet
      case rel => exact ⟨rfl, Y⟩)
  case rest =>
    obtain ⟨rfl, K3⟩ := hcut
    obtain ⟨W, HW, U, hb3⟩ := K3.out
    obtain ⟨g3, h2, ⟨L2, h3⟩, h4, h5, h6, h7⟩ := HW.call U
    obtain ⟨c1, c2, c3, lgs, lhs⟩ := h5.cell hf he
    obtain ⟨pv, cv, hv, _⟩ := (h5.str f t1 hf he).1.form
    have hc := HW.hc
    obtain ⟨v', w', hr, k2, k3, k4, ⟨p', c', hv'⟩, k6, Y⟩ := HW.send hf he ⟨l.toArray⟩ hu U (by omega) hi (W := (wc.alloc (.cells #[.string ⟨l.toArray⟩] 9)).drew) (grown_drew (grown_al (grown_refl wc) _)) (b := wc.heap.size) (heap_alloc_new wc _)
    have kb : kd wc b = 29 + 2 := kd_cells hb3
    have nb : some b ≠ (rv f t1).ownBlock := fun e1 => by
      have := ((h5.str f t1 hf he).1.kd b e1.symm).1
      rw [kb] at this; simp at this
    have gW := grown_drew (grown_al (grown_refl wc) (.cells #[.string ⟨l.toArray⟩] 9))
    have hb2 := box_keep hb3 gW (by simp)
    have hb4 := box_keep hb2 k6 nb
    have lb3 := lt_of_heap hb3
    have nh : ¬ b = hs f := fun e1 => by have := h5.kr hf; rw [← e1, kb] at this; simp at this
    have ng : ¬ gs = hs f := fun e1 => by have := h5.kr hf; rw [← e1, h5.kg] at this; simp at this
    have lg2 : gs < (wc.alloc (.cells #[.string ⟨l.toArray⟩] 9)).drew.heap.size := Nat.lt_of_lt_of_le lgs gW.size
    have T0 := mkHid (nCt.of hb3 c1)
    have T1 := mkHid (nCt.of hb2 (((h5.kept gW).cell hf he).1))
    have T2 := mkHid (nCt.of hb4 k2)
    have T3 := mkHid (fun v => nCt.of ((heap_setCell_other w' ⟨hs f, t1, none⟩ b v nh).trans hb4) (show (w'.setCell ⟨hs f, t1, none⟩ v).cell? ⟨gs, f, none⟩ = _ by
      have := heap_setCell_other w' ⟨hs f, t1, none⟩ gs v ng
      rw [← k2]; unfold World.cell?; simp only; rw [this]))
    have cvv : (convert 27 9 (.slice p l.length q)).run Try.prog wc.drew = .ok (.string ⟨l.toArray⟩) wc.drew := (HBY.out.kept (grown_drew g3)).conv q HNL.out
    have hfi : (f : Int) < (N : Int) := by omega
    have hei : (t1 : Int) < (N : Int) := by omega
    have YY := mkHid Y
    have c2w : (wc.alloc (.cells #[.string ⟨l.toArray⟩] 9)).drew.cell? ⟨hs f, t1, none⟩ = some (rv f t1) := ((h5.kept gW).cell hf he).2.1
    rw [hv] at c2 hr k3 c2w
    rw [hv'] at hr YY
    clear HW U h2 h3 h4 h5 h6 h7 hb2 hb3 hb4 g3 K3 Y OWN SND nb kb hv hv' k6 a0 a1 a2 a3 a4 a5 p0 p1 lb lp nh ng gW
    go_upto_region 27 with fail
    refine wp_region_noPanic ?_
    refine wp_region_held_drew (S := fun w' : World => w'.cell? ⟨b, 1, none⟩ = some (.int .i64 (f : Int)) ∧ w'.cell? ⟨b, 2, none⟩ = some (.int .i64 (t1 : Int)) ∧ w'.cell? ⟨b, 4, none⟩ = some (.slice p l.length q) ∧ w'.cell? ⟨gs, f, none⟩ = some (.slice (some ⟨hs f, 0, none⟩) N N)) (by kernel_rfl) T0.out (fun hH => ?_)
    refine take_at (i := 0) (v := .slice (some ⟨gs, 0, none⟩) N N) rfl rfl (by kernel_rfl) (by kernel_rfl) (by kernel_rfl) (fun _ _ _ h => h) (Or.inl ⟨by rfl, ?_⟩) hH ?_
    · intro w5 hSw; obtain ⟨s1, s2, s4, sg⟩ := hSw; go_simp
    simp only [List.setIfInBounds_toArray, List.set_cons_zero, List.set_cons_succ]
    refine take_at (i := 1) (v := .pointer (some ⟨b, 1, none⟩)) rfl rfl (by kernel_rfl) (by kernel_rfl) (by kernel_rfl) (fun _ _ _ h => h) (Or.inl ⟨by rfl, ?_⟩) hH ?_
    · intro w5 hSw; obtain ⟨s1, s2, s4, sg⟩ := hSw; go_simp
    simp only [List.setIfInBounds_toArray, List.set_cons_zero, List.set_cons_succ]
    refine take_at (i := 2) (v := .int .i64 (f : Int)) rfl rfl (by kernel_rfl) (by kernel_rfl) (by kernel_rfl) (fun _ _ _ h => h) (Or.inl ⟨by rfl, ?_⟩) hH ?_
    · intro w5 hSw; obtain ⟨s1, s2, s4, sg⟩ := hSw; go_simp
    simp only [List.setIfInBounds_toArray, List.set_cons_zero, List.set_cons_succ]
    refine take_at (i := 3) (v := .pointer (some ⟨gs, f, none⟩)) rfl rfl (by kernel_rfl) (by kernel_rfl) (by kernel_rfl) (fun _ _ _ h => h) (Or.inl ⟨by rfl, ?_⟩) hH ?_
    · intro w5 hSw; obtain ⟨s1, s2, s4, sg⟩ := hSw; go_simp
    simp only [List.setIfInBounds_toArray, List.set_cons_zero, List.set_cons_succ]
    refine take_at (i := 4) (v := .slice (some ⟨hs f, 0, none⟩) N N) rfl rfl (by kernel_rfl) (by kernel_rfl) (by kernel_rfl) (fun _ _ _ h => h) (Or.inl ⟨by rfl, ?_⟩) hH ?_
    · intro w5 hSw; obtain ⟨s1, s2, s4, sg⟩ := hSw; go_simp
    simp only [List.setIfInBounds_toArray, List.set_cons_zero, List.set_cons_succ]
    refine take_at (i := 5) (v := .pointer (some ⟨b, 2, none⟩)) rfl rfl (by kernel_rfl) (by kernel_rfl) (by kernel_rfl) (fun _ _ _ h => h) (Or.inl ⟨by rfl, ?_⟩) hH ?_
    · intro w5 hSw; obtain ⟨s1, s2, s4, sg⟩ := hSw; go_simp
    simp only [List.setIfInBounds_toArray, List.set_cons_zero, List.set_cons_succ]
    refine take_at (i := 6) (v := .int .i64 (t1 : Int)) rfl rfl (by kernel_rfl) (by kernel_rfl) (by kernel_rfl) (fun _ _ _ h => h) (Or.inl ⟨by rfl, ?_⟩) hH ?_
    · intro w5 hSw; obtain ⟨s1, s2, s4, sg⟩ := hSw; go_simp
    simp only [List.setIfInBounds_toArray, List.set_cons_zero, List.set_cons_succ]
    refine take_at (i := 7) (v := .slice (some ⟨gs, 0, none⟩) N N) rfl rfl (by kernel_rfl) (by kernel_rfl) (by kernel_rfl) (fun _ _ _ h => h) (Or.inl ⟨by rfl, ?_⟩) hH ?_
    · intro w5 hSw; obtain ⟨s1, s2, s4, sg⟩ := hSw; go_simp
    simp only [List.setIfInBounds_toArray, List.set_cons_zero, List.set_cons_succ]
    refine take_at (i := 8) (v := .pointer (some ⟨b, 1, none⟩)) rfl rfl (by kernel_rfl) (by kernel_rfl) (by kernel_rfl) (fun _ _ _ h => h) (Or.inl ⟨by rfl, ?_⟩) hH ?_
    · intro w5 hSw; obtain ⟨s1, s2, s4, sg⟩ := hSw; go_simp
    simp only [List.setIfInBounds_toArray, List.set_cons_zero, List.set_cons_succ]
    refine take_at (i := 9) (v := .int .i64 (f : Int)) rfl rfl (by kernel_rfl) (by kernel_rfl) (by kernel_rfl) (fun _ _ _ h => h) (Or.inl ⟨by rfl, ?_⟩) hH ?_
    · intro w5 hSw; obtain ⟨s1, s2, s4, sg⟩ := hSw; go_simp
    simp only [List.setIfInBounds_toArray, List.set_cons_zero, List.set_cons_succ]
    refine take_at (i := 10) (v := .pointer (some ⟨gs, f, none⟩)) rfl rfl (by kernel_rfl) (by kernel_rfl) (by kernel_rfl) (fun _ _ _ h => h) (Or.inl ⟨by rfl, ?_⟩) hH ?_
    · intro w5 hSw; obtain ⟨s1, s2, s4, sg⟩ := hSw; go_simp
    simp only [List.setIfInBounds_toArray, List.set_cons_zero, List.set_cons_succ]
    refine take_at (i := 11) (v := .slice (some ⟨hs f, 0, none⟩) N N) rfl rfl (by kernel_rfl) (by kernel_rfl) (by kernel_rfl) (fun _ _ _ h => h) (Or.inl ⟨by rfl, ?_⟩) hH ?_
    · intro w5 hSw; obtain ⟨s1, s2, s4, sg⟩ := hSw; go_simp
    simp only [List.setIfInBounds_toArray, List.set_cons_zero, List.set_cons_succ]
    refine take_at (i := 12) (v := .pointer (some ⟨b, 2, none⟩)) rfl rfl (by kernel_rfl) (by kernel_rfl) (by kernel_rfl) (fun _ _ _ h => h) (Or.inl ⟨by rfl, ?_⟩) hH ?_
    · intro w5 hSw; obtain ⟨s1, s2, s4, sg⟩ := hSw; go_simp
    simp only [List.setIfInBounds_toArray, List.set_cons_zero, List.set_cons_succ]
    refine take_at (i := 13) (v := .int .i64 (t1 : Int)) rfl rfl (by kernel_rfl) (by kernel_rfl) (by kernel_rfl) (fun _ _ _ h => h) (Or.inl ⟨by rfl, ?_⟩) hH ?_
    · intro w5 hSw; obtain ⟨s1, s2, s4, sg⟩ := hSw; go_simp
    simp only [List.setIfInBounds_toArray, List.set_cons_zero, List.set_cons_succ]
    refine take_at (i := 14) (v := .pointer (some ⟨hs f, t1, none⟩)) rfl rfl (by kernel_rfl) (by kernel_rfl) (by kernel_rfl) (fun _ _ _ h => h) (Or.inl ⟨by rfl, ?_⟩) hH ?_
    · intro w5 hSw; obtain ⟨s1, s2, s4, sg⟩ := hSw; go_simp
    simp only [List.setIfInBounds_toArray, List.set_cons_zero, List.set_cons_succ]
    refine take_at (i := 16) (v := .pointer (some ⟨b, 4, none⟩)) rfl rfl (by kernel_rfl) (by kernel_rfl) (by kernel_rfl) (fun _ _ _ h => h) (Or.inl ⟨by rfl, ?_⟩) hH ?_
    · intro w5 hSw; obtain ⟨s1, s2, s4, sg⟩ := hSw; go_simp
    simp only [List.setIfInBounds_toArray, List.set_cons_zero, List.set_cons_succ]
    refine take_at (i := 17) (v := .slice p l.length q) rfl rfl (by kernel_rfl) (by kernel_rfl) (by kernel_rfl) (fun _ _ _ h => h) (Or.inl ⟨by rfl, ?_⟩) hH ?_
    · intro w5 hSw; obtain ⟨s1, s2, s4, sg⟩ := hSw; go_simp
    simp only [List.setIfInBounds_toArray, List.set_cons_zero, List.set_cons_succ]
    refine wpAnyH_ready (rs := [15, 18]) (by kernel_rfl) (by simp) ?_
    refine AllReadyH.cons rfl (fun K hK => ?_) (AllReadyH.cons rfl (fun K hK => ?_) AllReadyH.nil)
    · go_simp
      refine hK.out _ _ T0.out (fun hH => ?_)
      clear hK K
      refine wpAnyH_ready (rs := [18]) (by kernel_rfl) (by simp) ?_
      refine AllReadyH.cons rfl (fun K hK => ?_) AllReadyH.nil
      · go_simp
        refine hK.out _ _ T0.out (fun hH => ?_)
        clear hK K
        refine wpAnyH_ready (rs := [19]) (by kernel_rfl) (by simp) ?_
        refine AllReadyH.cons rfl (fun K hK => ?_) AllReadyH.nil
        · go_simp
          refine hK.out _ _ T1.out (fun hH => ?_)
          clear hK K
          refine wpAnyH_ready (rs := [20]) (by kernel_rfl) (by simp) ?_
          refine AllReadyH.cons rfl (fun K hK => ?_) AllReadyH.nil
          · refine step_app 49 rfl (.tmp 125) (.tmp 129) rfl rfl rfl hr ?_
            refine hK.out _ _ T2.out (fun hH => ?_)
            clear hK K
            go_simp
            refine take_at (i := 21) (v := .pointer (some ⟨hs f, t1, none⟩)) rfl rfl (by kernel_rfl) (by kernel_rfl) (by kernel_rfl) (fun _ _ _ h => h) (Or.inl ⟨by rfl, ?_⟩) hH ?_
            · intro w5 hSw; obtain ⟨s1, s2, s4, sg⟩ := hSw; go_simp
            simp only [List.setIfInBounds_toArray, List.set_cons_zero, List.set_cons_succ]
            refine wpAnyH_ready (rs := [22]) (by kernel_rfl) (by simp) ?_
            refine AllReadyH.cons rfl (fun K hK => ?_) AllReadyH.nil
            · go_simp
              refine hK.out _ _ (T3.out _) (fun hH => ?_)
              clear hK K
              refine wpAnyH_done (by kernel_rfl) ?_ _
              refine NoPanic.normal ?_
              go_wp2_with fail
              exact ⟨nFr_mk, YY.out⟩
    · go_simp
      refine hK.out _ _ T0.out (fun hH => ?_)
      clear hK K
      refine wpAnyH_ready (rs := [15, 19]) (by kernel_rfl) (by simp) ?_
      refine AllReadyH.cons rfl (fun K hK => ?_) (AllReadyH.cons rfl (fun K hK => ?_) AllReadyH.nil)
      · go_simp
        refine hK.out _ _ T0.out (fun hH => ?_)
        clear hK K
        refine wpAnyH_ready (rs := [19]) (by kernel_rfl) (by simp) ?_
        refine AllReadyH.cons rfl (fun K hK => ?_) AllReadyH.nil
        · go_simp
          refine hK.out _ _ T1.out (fun hH => ?_)
          clear hK K
          refine wpAnyH_ready (rs := [20]) (by kernel_rfl) (by simp) ?_
          refine AllReadyH.cons rfl (fun K hK => ?_) AllReadyH.nil
          · refine step_app 49 rfl (.tmp 125) (.tmp 129) rfl rfl rfl hr ?_
            refine hK.out _ _ T2.out (fun hH => ?_)
            clear hK K
            go_simp
            refine take_at (i := 21) (v := .pointer (some ⟨hs f, t1, none⟩)) rfl rfl (by kernel_rfl) (by kernel_rfl) (by kernel_rfl) (fun _ _ _ h => h) (Or.inl ⟨by rfl, ?_⟩) hH ?_
            · intro w5 hSw; obtain ⟨s1, s2, s4, sg⟩ := hSw; go_simp
            simp only [List.setIfInBounds_toArray, List.set_cons_zero, List.set_cons_succ]
            refine wpAnyH_ready (rs := [22]) (by kernel_rfl) (by simp) ?_
            refine AllReadyH.cons rfl (fun K hK => ?_) AllReadyH.nil
            · go_simp
              refine hK.out _ _ (T3.out _) (fun hH => ?_)
              clear hK K
              refine wpAnyH_done (by kernel_rfl) ?_ _
              refine NoPanic.normal ?_
              go_wp2_with fail
              exact ⟨nFr_mk, YY.out⟩
      · go_simp
        refine hK.out _ _ T1.out (fun hH => ?_)
        clear hK K
        refine wpAnyH_ready (rs := [15]) (by kernel_rfl) (by simp) ?_
        refine AllReadyH.cons rfl (fun K hK => ?_) AllReadyH.nil
        · go_simp
          refine hK.out _ _ T1.out (fun hH => ?_)
          clear hK K
          refine wpAnyH_ready (rs := [20]) (by kernel_rfl) (by simp) ?_
          refine AllReadyH.cons rfl (fun K hK => ?_) AllReadyH.nil
          · refine step_app 49 rfl (.tmp 125) (.tmp 129) rfl rfl rfl hr ?_
            refine hK.out _ _ T2.out (fun hH => ?_)
            clear hK K
            go_simp
            refine take_at (i := 21) (v := .pointer (some ⟨hs f, t1, none⟩)) rfl rfl (by kernel_rfl) (by kernel_rfl) (by kernel_rfl) (fun _ _ _ h => h) (Or.inl ⟨by rfl, ?_⟩) hH ?_
            · intro w5 hSw; obtain ⟨s1, s2, s4, sg⟩ := hSw; go_simp
            simp only [List.setIfInBounds_toArray, List.set_cons_zero, List.set_cons_succ]
            refine wpAnyH_ready (rs := [22]) (by kernel_rfl) (by simp) ?_
            refine AllReadyH.cons rfl (fun K hK => ?_) AllReadyH.nil
            · go_simp
              refine hK.out _ _ (T3.out _) (fun hH => ?_)
              clear hK K
              refine wpAnyH_done (by kernel_rfl) ?_ _
              refine NoPanic.normal ?_
              go_wp2_with fail
              exact ⟨nFr_mk, YY.out⟩

end Go.Proofs.Ytpghkbbhcpcbdaa
