/-
  The law's round: a Recv of none.
-/
import Derived.Test.YtpghkbbhcpcbdaaNGC
namespace Go.Proofs.Ytpghkbbhcpcbdaa
open Go.RowKit Go.Maps Go.Joins

set_option maxHeartbeats 4000000 in
set_option maxRecDepth 1000000 in
theorem nS_1a {w0 wx : World} {N A Ca n d pr gs gg go i b c : Nat} {Pa : Option Addr} {own : Nat → Nat} {S : St} {L : Ly} {T : Nat → Nat → List ByteArray} {G O : Nat → Nat → Nat} {hs hg ho : Nat → Nat} {rv : Nat → Nat → Value} {u2 u3 u4 u6 u9 u11 u14 u15 u16 u17 u18 u19 u20 u21 u22 u23 u24 u25 u26 u27 u28 u29 u30 u31 u32 u33 u34 u35 u36 u37 u38 u39 u40 u41 u42 u43 u44 u45 u46 u47 u48 u49 u50 u51 u52 u53 u54 u55 u56 u57 u58 u59 u60 u61 u62 u63 u64 u65 u66 u67 u68 u69 u70 u71 u72 u73 u74 u75 u76 u77 u78 u79 u80 u81 u82 u83 u84 u85 u86 u87 u88 u89 u90 u91 u92 u93 u94 u95 u96 u97 u98 u99 u100 u101 u102 u103 u104 u105 u106 u107 u108 u109 u110 u111 u112 u113 u114 u115 u116 u117 u118 u119 u120 u121 u122 u123 u124 u125 u126 u127 u128 u129 u130 u131 u132 u133 u134 u135 u136 u137 u138 u139 u140 u141 u142 u143 u144 u145 u146 u147 u148 u149 u150 u151 u152 u153 u154 u155 u156 u157 u158 u159 u160 u161 u162 u163 u164 u165 u166 u167 u168 u169 u170 u171 u172 u173 u174 u175 u176 u177 u178 u179 u180 u181 u182 u183 u184 u185 u186 u187 u188 u189 u190 u191 u192 u193 u194 u195 u196 u197 u198 u199 u200 u201 u202 u203 u204 u205 u206 u207 u208 u209 u210 u211 u212 u213 u214 u215 u216 u217 u218 u219 u220 u221 u222 u223 u224 u225 u226 u227 u228 u229 u230 u231 u232 u233 u234 u235 u236 u237 u238 u239 u240 u241 u242 u243 u244 u245 u246 u247 u248 u249 u250 u251 u252 u253 u254 u255 u256 u257 u258 u259 u260 u261 u262 u263 u264 u265 u266 u267 u268 u269 u270 u271 u272 u273 u274 u275 u276 u277 u278 u279 u280 u281 u282 u283 u284 u285 u286 u287 u288 u289 u290 u291 u292 u293 u294 u295 u296 u297 u298 u299 u300 u301 u302 u303 u304 u305 : Value} {Q5 : Exit → Act → World → Prop} {a t I : Int} {p : Option Addr} {l : List UInt8} {q : Nat} {hw : Bool} (h : LwF w0 N n d pr gs gg go i own S T G O c L hs rv hg ho wx) (hi : i + 1 ≤ 3000000) (hb : wx.heap[b]? = some (.cells #[.int .i64 1, .int .i64 a, .int .i64 t, .int .i64 I, .slice p l.length q, .bool hw] 29 (0, 0))) (hx5 : ∀ a' w', nM w0 N n d A Ca pr gs gg go i Pa a' w' → Q5 (.exit 5) a' w') (hob : own b ≠ 1) (hno : isS S a = false) : Code.wp Try.prog (nS Try.f4) (Exit.then (nM w0 N n d A Ca pr gs gg go i Pa) Q5) ⟨#[.int .i64 (N : Int), .slice Pa A Ca, u2, u3, u4, .pointer (some ⟨pr, 0, none⟩), u6, .slice (some ⟨gs, 0, none⟩) N N, .slice (some ⟨gg, 0, none⟩) N N, u9, .slice (some ⟨go, 0, none⟩) N N, u11, .int .i64 (i : Int), .pointer (some ⟨b, 0, none⟩), u14, u15, u16, u17, u18, u19, u20, u21, u22, u23, u24, u25, u26, u27, u28, u29, u30, u31, u32, u33, u34, u35, u36, u37, u38, u39, u40, u41, u42, u43, u44, u45, u46, u47, u48, u49, u50, u51, u52, u53, u54, u55, u56, u57, u58, u59, u60, u61, u62, u63, u64, u65, u66, u67, u68, u69, u70, u71, u72, u73, u74, u75, u76, u77, u78, u79, u80, u81, u82, u83, u84, u85, u86, u87, u88, u89, u90, u91, u92, u93, u94, u95, u96, u97, u98, u99, u100, u101, u102, u103, u104, u105, u106, u107, u108, u109, u110, u111, u112, u113, u114, u115, u116, u117, u118, u119, u120, u121, u122, u123, u124, u125, u126, u127, u128, u129, u130, u131, u132, u133, u134, u135, u136, u137, u138, u139, u140, u141, u142, u143, u144, u145, u146, u147, u148, u149, u150, u151, u152, u153, u154, u155, u156, u157, u158, u159, u160, u161, u162, u163, u164, u165, u166, u167, u168, u169, u170, u171, u172, u173, u174, u175, u176, u177, u178, u179, u180, u181, u182, u183, u184, u185, u186, u187, u188, u189, u190, u191, u192, u193, u194, u195, u196, u197, u198, u199, u200, u201, u202, u203, u204, u205, u206, u207, u208, u209, u210, u211, u212, u213, u214, u215, u216, u217, u218, u219, u220, u221, u222, u223, u224, u225, u226, u227, u228, u229, u230, u231, u232, u233, u234, u235, u236, u237, u238, u239, u240, u241, u242, u243, u244, u245, u246, u247, u248, u249, u250, u251, u252, u253, u254, u255, u256, u257, u258, u259, u260, u261, u262, u263, u264, u265, u266, u267, u268, u269, u270, u271, u272, u273, u274, u275, u276, u277, u278, u279, u280, u281, u282, u283, u284, u285, u286, u287, u288, u289, u290, u291, u292, u293, u294, u295, u296, u297, u298, u299, u300, u301, u302, u303, u304, u305], []⟩ wx := by
  obtain ⟨a0, a1, a2, a3, a4, a5, af⟩ := cells6 hb
  obtain ⟨p0, p1, pf⟩ := cells2 h.pr.1
  have lb := lt_of_heap hb
  have lp := lt_of_heap h.pr.1
  have RVC : Hid (∀ W, wx.grownBy W none → Calls Try.prog 16 #[.pointer (some ⟨n, 0, none⟩), .int .i64 a] W fun e w' => ∃ (pm : Option Addr) (cm : Nat), e = .returned (.tuple #[.agg #[.int .i64 0, .slice pm 0 cm], .bool false, .int .i64 60]) ∧ nR1 W n c own S b (.cells #[.int .i64 1, .int .i64 a, .int .i64 t, .int .i64 I, .slice p l.length q, .bool hw] 29 (0, 0)) pr a pm [] w' ∧ (∀ ad, pm = some ad → W.heap.size ≤ ad.block)) := fun W gW => by
    have H' := h.kept gW
    refine (Recv_any H'.net a).mono ?_
    rintro e w5 (⟨_, rfl, U⟩ | ⟨j, rfl, h1, _⟩ | ⟨j, _, _, _, _, rfl, h1, _⟩)
    · have hb5 := U
      obtain ⟨L5, _, C5⟩ := hb5
      have hb6 := C5.at_ (box_keep hb gW (by simp)) hob
      have hp6 := C5.at_ H'.pr.1 (fun e => by have := H'.pr.2; have e : own pr = 1 := e; omega)
      exact ⟨none, 0, rfl, ⟨U, hb6, Or.inl ⟨rfl, rfl⟩, (cells6 hb6).2.1, (cells2 hp6).1, fun k hk ho => C5.block k hk ho⟩, fun ad e => by cases e⟩
    · rw [hno] at h1; cases h1
    · rw [hno] at h1; cases h1
  have T0 : Hid (∀ W, wx.grownBy W none → W.cell? ⟨b, 1, none⟩ = some (.int .i64 a) ∧ W.cell? ⟨pr, 0, none⟩ = some (.pointer (some ⟨n, 0, none⟩))) := fun W g => ⟨(cells6 (box_keep hb g (by simp))).2.1, (cells2 (box_keep h.pr.1 g (by simp))).1⟩
  have lbn : b ≠ wx.heap.size := by omega
  have lpn : pr ≠ wx.heap.size := by omega
  have HH := mkHid h
  clear h hb af pf hno
  conv => arg 2; whnf
  go_upto_region 29 with fail
  go_cut [14, 15, 16] from 62 to 305 (fun s14 s15 s16 wz => ∃ (mb : Nat) (pm : Option Addr) (cm : Nat), s14 = .pointer (some ⟨mb, 0, none⟩) ∧ s15 = .bool false ∧ s16 = .int .i64 60 ∧ Hid (nK1 wx n c own S b (.cells #[.int .i64 1, .int .i64 a, .int .i64 t, .int .i64 I, .slice p l.length q, .bool hw] 29 (0, 0)) mb 0 pm [] cm wz))
  case first =>
    go_region_held3 (fun w' => w'.cell? ⟨b, 1, none⟩ = some (.int .i64 a) ∧ w'.cell? ⟨pr, 0, none⟩ = some (.pointer (some ⟨n, 0, none⟩))) (first | exact (T0.out _ (grown_drew (grown_refl _))) | exact (T0.out _ (grown_drew (grown_al (grown_refl _) _))) | exact ⟨R5.out.2.2.2.1, R5.out.2.2.2.2.1⟩ | exact ⟨(World.grownBy_alloc _ _ none).cell R5.out.2.2.2.1 (by simp), (World.grownBy_alloc _ _ none).cell R5.out.2.2.2.2.1 (by simp)⟩ | exact ⟨nSet lbn R5.out.2.2.2.1, nSet lpn R5.out.2.2.2.2.1⟩ | go_keep) (first | (go_at_call 16; refine (RVC.out _ (grown_drew (grown_al (grown_refl _) _))).mono ?_; rintro e w5 ⟨pm, cm, rfl, r5, q5⟩; have R5 := mkHid r5; have Q5' := mkHid q5; obtain ⟨m0, m1, mf0, mf1⟩ := HH.out.nMb r5; clear r5 q5) | (go_at_call 16; refine (RVC.out _ (grown_drew (grown_refl _))).mono ?_; rintro e w5 ⟨pm, cm, rfl, r5, q5⟩; have R5 := mkHid r5; have Q5' := mkHid q5; clear r5 q5))
    all_goals (
      go_wp2_with fail
      go_meet
      case rel => first | exact ⟨_, _, _, rfl, rfl, rfl, HH.out.nK (grown_drew (grown_refl _)) R5.out⟩ | exact ⟨_, _, _, rfl, rfl, rfl, HH.out.nK' R5.out lb (fun ad e => by have := Q5'.out ad e; simp at this; omega)⟩)
  case rest =>
    obtain ⟨mb, pm, cm, rfl, rfl, rfl, K1⟩ := hcut
    obtain ⟨U, _, _, _⟩ := K1.out
    have Y : Hid (LwY w0 N n d pr gs gg go (i + 1) wc) := HH.out.same U HH.out.hN (HH.out.ok.more hi) (by have := HH.out.hc; omega) HH.out.inv HH.out.fb
    clear U K1 HH
    go_wp2_with fail
    exact ⟨nFr_mk, Y.out⟩

end Go.Proofs.Ytpghkbbhcpcbdaa
