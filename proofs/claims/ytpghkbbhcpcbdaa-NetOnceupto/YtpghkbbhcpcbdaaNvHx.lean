/-
  The law's round: the place of an act that counts among all that is on the way.
-/
import Derived.Test.YtpghkbbhcpcbdaaNGB
import Derived.Deep.RegionWith
import Derived.Deep.RegionHeld3
namespace Go.Proofs.Ytpghkbbhcpcbdaa
open Go.RowKit Go.Maps Go.Joins

def nEnd (wr w : World) (b : Nat) (x : Ac) : Prop := bxA w b x ∧ wr.grownBy w none
/-- what lies there when the act's place is known -/
def nP2 (wr : World) (N A Ca pr gs gg go i : Nat) (Pa : Option Addr) (b : Nat) (x : Ac) (a : Act) (w : World) : Prop := nFb N A Ca pr gs gg go i Pa b a ∧ bxA w b x ∧ wr.grownBy w none
set_option maxHeartbeats 4000000 in
set_option maxRecDepth 1000000 in
theorem nH_goes {wr wx : World} {N A Ca n pr gs gg go i b d c : Nat} {Pa : Option Addr} {S : St} {L : Ly} {P : Nat → Prop} {u2 u3 u4 u6 u9 u11 u14 u15 u16 u17 u18 u19 u20 u21 u22 u23 u24 u25 u26 u27 u28 u29 u30 u31 u32 u33 u34 u35 u36 u37 u38 u39 u40 u41 u42 u43 u44 u45 u46 u47 u48 u49 u50 u51 u52 u53 u54 u55 u56 u57 u58 u59 u60 u61 u62 u63 u64 u65 u66 u67 u68 u69 u70 u71 u72 u73 u74 u75 u76 u77 u78 u79 u80 u81 u82 u83 u84 u85 u86 u87 u88 u89 u90 u91 u92 u93 u94 u95 u96 u97 u98 u99 u100 u101 u102 u103 u104 u105 u106 u107 u108 u109 u110 u111 u112 u113 u114 u115 u116 u117 u118 u119 u120 u121 u122 u123 u124 u125 u126 u127 u128 u129 u130 u131 u132 u133 u134 u135 u136 u137 u138 u139 u140 u141 u142 u143 u144 u145 u146 u147 u148 u149 u150 u151 u152 u153 u154 u155 u156 u157 u158 u159 u160 u161 u162 u163 u164 u165 u166 u167 u168 u169 u170 u171 u172 u173 u174 u175 u176 u177 u178 u179 u180 u181 u182 u183 u184 u185 u186 u187 u188 u189 u190 u191 u192 u193 u194 u195 u196 u197 u198 u199 u200 u201 u202 u203 u204 u205 u206 u207 u208 u209 u210 u211 u212 u213 u214 u215 u216 u217 u218 u219 u220 u221 u222 u223 u224 u225 u226 u227 u228 u229 u230 u231 u232 u233 u234 u235 u236 u237 u238 u239 u240 u241 u242 u243 u244 u245 u246 u247 u248 u249 u250 u251 u252 u253 u254 u255 u256 u257 u258 u259 u260 u261 u262 u263 u264 u265 u266 u267 u268 u269 u270 u271 u272 u273 u274 u275 u276 u277 u278 u279 u280 u281 u282 u283 u284 u285 u286 u287 u288 u289 u290 u291 u292 u293 u294 u295 u296 u297 u298 u299 u300 u301 u302 u303 u304 u305 : Value} {Q0 : Exit → Act → World → Prop} {x : Ac} (h : NetL P wr n c S L) (hfb : S.fl.length ≤ 4096) (hpr : wr.heap[pr]? = some (.cells #[.pointer (some ⟨n, 0, none⟩), .pointer (some ⟨d, 0, none⟩)] 33 (0, 0))) (gr : wr.grownBy wx none) (hbl : wr.heap.size ≤ b) (hb : wx.heap[b]? = some (.cells x.cells 29 (0, 0))) : Code.wp Try.prog (nH Try.f4) (Exit.then (nP2 wr N A Ca pr gs gg go i Pa b x) Q0) ⟨#[.int .i64 (N : Int), .slice Pa A Ca, u2, u3, u4, .pointer (some ⟨pr, 0, none⟩), u6, .slice (some ⟨gs, 0, none⟩) N N, .slice (some ⟨gg, 0, none⟩) N N, u9, .slice (some ⟨go, 0, none⟩) N N, u11, .int .i64 (i : Int), .pointer (some ⟨b, 0, none⟩), u14, u15, u16, u17, u18, u19, u20, u21, u22, u23, u24, u25, u26, u27, u28, u29, u30, u31, u32, u33, u34, u35, u36, u37, u38, u39, u40, u41, u42, u43, u44, u45, u46, u47, u48, u49, u50, u51, u52, u53, u54, u55, u56, u57, u58, u59, u60, u61, u62, u63, u64, u65, u66, u67, u68, u69, u70, u71, u72, u73, u74, u75, u76, u77, u78, u79, u80, u81, u82, u83, u84, u85, u86, u87, u88, u89, u90, u91, u92, u93, u94, u95, u96, u97, u98, u99, u100, u101, u102, u103, u104, u105, u106, u107, u108, u109, u110, u111, u112, u113, u114, u115, u116, u117, u118, u119, u120, u121, u122, u123, u124, u125, u126, u127, u128, u129, u130, u131, u132, u133, u134, u135, u136, u137, u138, u139, u140, u141, u142, u143, u144, u145, u146, u147, u148, u149, u150, u151, u152, u153, u154, u155, u156, u157, u158, u159, u160, u161, u162, u163, u164, u165, u166, u167, u168, u169, u170, u171, u172, u173, u174, u175, u176, u177, u178, u179, u180, u181, u182, u183, u184, u185, u186, u187, u188, u189, u190, u191, u192, u193, u194, u195, u196, u197, u198, u199, u200, u201, u202, u203, u204, u205, u206, u207, u208, u209, u210, u211, u212, u213, u214, u215, u216, u217, u218, u219, u220, u221, u222, u223, u224, u225, u226, u227, u228, u229, u230, u231, u232, u233, u234, u235, u236, u237, u238, u239, u240, u241, u242, u243, u244, u245, u246, u247, u248, u249, u250, u251, u252, u253, u254, u255, u256, u257, u258, u259, u260, u261, u262, u263, u264, u265, u266, u267, u268, u269, u270, u271, u272, u273, u274, u275, u276, u277, u278, u279, u280, u281, u282, u283, u284, u285, u286, u287, u288, u289, u290, u291, u292, u293, u294, u295, u296, u297, u298, u299, u300, u301, u302, u303, u304, u305], []⟩ wx := by
  obtain ⟨k, a, t, I, p, l, q, hw⟩ := x
  obtain ⟨a0, a1, a2, a3, a4, a5, af⟩ := cells6 hb
  obtain ⟨p0, p1, pf⟩ := cells2 (box_keep hpr gr (by simp))
  have lb := lt_of_heap hb
  have lp := lt_of_heap (box_keep hpr gr (by simp))
  cases hw
  · have Y : Hid (bxA wx b ⟨k, a, t, I, p, l, q, false⟩ ∧ wr.grownBy wx none) := ⟨⟨I, false, hb⟩, gr⟩
    clear h hb hpr gr
    conv => arg 2; whnf
    go_wp2_with fail
    exact ⟨nFb_mk, Y.out⟩
  · obtain ⟨M, hM⟩ : ∃ M, M = S.fl.length := ⟨_, rfl⟩
    have FL : Hid (∀ W, wx.grownBy W none → Calls Try.prog 13 #[.pointer (some ⟨n, 0, none⟩)] W fun e w' => ∃ pp cap, e = .returned (.slice pp M cap) ∧ w'.cell? ⟨b, 3, none⟩ = some (.int .i64 I) ∧ w'.frozen? ⟨b, 3, none⟩ = false ∧ w'.frozen? ⟨b, 5, none⟩ = false ∧ w'.cell? ⟨b, 5, none⟩ = some (.bool true) ∧ wx.grownBy w' none) := fun W gW => by
      refine (Flights_any (h.kept (grown_none_trans gr gW)) (by omega)).mono ?_
      rintro e w5 ⟨⟨pp, cap, rfl⟩, g5⟩
      have g6 := grown_none_trans gW g5
      obtain ⟨_, _, _, b3, _, b5, bf⟩ := cells6 (box_keep hb g6 (by simp))
      rw [hM]
      exact ⟨pp, cap, rfl, b3, bf 3, bf 5, b5, g6⟩
    have PL : Hid (∀ W, Calls Try.prog 12 #[.int .i64 I, .int .i64 (M : Int)] W fun e w' => (∃ r : Int, e = .returned (.int .i64 r)) ∧ w' = W) := fun W => place_any I M (by omega)
    have YY : Hid (∀ w5 r, wx.grownBy w5 none → nEnd wr ((w5.setCell ⟨b, 3, none⟩ (.int .i64 r)).setCell ⟨b, 5, none⟩ (.bool false)) b ⟨k, a, t, I, p, l, q, true⟩ ∧ nEnd wr ((w5.setCell ⟨b, 5, none⟩ (.bool false)).setCell ⟨b, 3, none⟩ (.int .i64 r)) b ⟨k, a, t, I, p, l, q, true⟩) := fun w5 r g5 => by
      have g6 := grown_none_trans gr g5
      have h5 := box_keep hb g5 (by simp)
      exact ⟨⟨⟨r, false, bx_set h5 _ _⟩, grown_set (grown_set g6 _ _ hbl) _ _ hbl⟩, ⟨⟨r, false, bx_set' h5 _ _⟩, grown_set (grown_set g6 _ _ hbl) _ _ hbl⟩⟩
    have a3f := af 3
    have a5f := af 5
    clear h hb hpr gr hM af pf
    conv => arg 2; whnf
    go_upto_region 21 with fail
    refine wp_region_noPanic ?_
    go_region_with (first | (go_at_call 13; refine (FL.out _ (grown_drew (grown_refl _))).mono ?_; rintro e w5 ⟨pp, cap, rfl, b3, f3, f5, b5, g5⟩; have G5 := mkHid g5; clear g5) | (go_at_call 12; refine (PL.out _).mono ?_; rintro e w6 ⟨⟨r, rfl⟩, hw6⟩; have hw7 := hw6.symm; subst hw7; clear hw6))
    all_goals (
      go_wp2_with fail
      first | exact ⟨nFb_mk, (YY.out _ _ G5.out).1⟩ | exact ⟨nFb_mk, (YY.out _ _ G5.out).2⟩)

end Go.Proofs.Ytpghkbbhcpcbdaa
