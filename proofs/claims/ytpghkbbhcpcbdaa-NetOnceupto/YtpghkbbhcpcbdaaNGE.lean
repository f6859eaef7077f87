/-
  The law's round: a node that comes again: the loop.
-/
import Derived.Test.YtpghkbbhcpcbdaaNvRx
namespace Go.Proofs.Ytpghkbbhcpcbdaa
open Go.RowKit Go.Maps Go.Joins

theorem wp_seq' {P : Program} {x y : Code} {M : Act → World → Prop} {Q : Exit → Act → World → Prop} {a : Act} {w : World} (h1 : x.wp P (Exit.then M Q) a w) (h2 : ∀ a w, M a w → y.wp P Q a w) : (Code.seq x y).wp P Q a w :=
  wp_seq (wp_mono h1 (fun e a w h => by
    cases e with
    | normal => exact h2 a w h
    | _ => exact h))
theorem wp_blk {P : Program} {id : Nat} {c : Code} {M : Act → World → Prop} {Q : Exit → Act → World → Prop} {a : Act} {w : World} (h : c.wp P (Exit.then M (Exit.inBlock id (Exit.then M Q))) a w) : (Code.block id c).wp P (Exit.then M Q) a w :=
  wp_block (wp_mono h (fun e a w h => by
    cases e with
    | normal => exact h
    | _ => exact h))
set_option maxHeartbeats 4000000 in
set_option maxRecDepth 1000000 in
theorem nD1_in {w0 wr : World} {N A Ca n d pr gs gg go i c b wg j k : Nat} {Pa : Option Addr} {own : Nat → Nat} {S : St} {L : Ly} {hs hg ho : Nat → Nat} {hw' : Nat → Nat} {cw : Nat → Nat → Nat} {T : Nat → Nat → List ByteArray} {G O : Nat → Nat → Nat} {k0 t I : Int} {p : Option Addr} {l : List UInt8} {q : Nat} {hw : Bool} {u2 u3 u4 u6 u9 u11 u14 u15 u16 u17 u20 u21 u22 u23 u24 u25 u26 u27 u28 u29 u30 u31 u32 u33 u34 u35 u36 u37 u38 u39 u40 u41 u42 u43 u44 u45 u46 u47 u48 u49 u50 u51 u52 u53 u54 u55 u56 u57 u58 u59 u60 u61 u62 u63 u64 u65 u66 u67 u68 u69 u70 u71 u72 u73 u74 u75 u76 u77 u78 u79 u80 u81 u82 u83 u84 u85 u86 u87 u88 u89 u90 u91 u92 u93 u94 u95 u96 u97 u98 u99 u100 u101 u102 u103 u104 u105 u106 u107 u108 u109 u110 u111 u112 u113 u114 u115 u116 u117 u118 u119 u120 u121 u122 u123 u124 u125 u126 u127 u128 u129 u130 u131 u132 u133 u134 u135 u136 u137 u138 u139 u140 u141 u142 u143 u144 u145 u146 u147 u148 u149 u150 u151 u152 u153 u154 u155 u156 u157 u158 u159 u160 u161 u162 u163 u164 u165 u166 u167 u168 u169 u170 u171 u172 u173 u174 u175 u176 u177 u178 u179 u180 u181 u182 u183 u184 u185 u186 u187 u188 u189 u190 u191 u192 u193 u194 u195 u196 u197 u198 u199 u200 u201 u202 u203 u204 u205 u206 u207 u208 u209 u210 u211 u212 u213 u214 u215 u216 u217 u218 u219 u220 u221 u222 u223 u224 u225 u226 u227 u228 u229 u230 u231 u232 u233 u234 u235 u236 u237 u238 u239 u240 u241 u242 u243 u244 u245 u246 u247 u248 u249 u250 u251 u252 u253 u254 u255 u256 u257 u258 u259 u260 u261 u262 u263 u264 u265 u266 u267 u268 u269 u270 u271 u272 u273 u274 u275 u276 u277 u278 u279 u280 u281 u282 u283 u284 u285 u286 u287 u288 u289 u290 u291 u292 u293 u294 u295 u296 u297 u298 u299 u300 u301 u302 u303 u304 u305 : Value} {Q0 : Exit → Act → World → Prop} (h : nJ w0 N n d pr gs gg go own S c L hs hg ho b (.cells #[.int .i64 k0, .int .i64 (j : Int), .int .i64 t, .int .i64 I, .slice p l.length q, .bool hw] 29 (0, 0)) wg hw' cw T G O wr) (hk : k < N) : Code.wp Try.prog (nD1 Try.f4) (Exit.then (nPd w0 N n d A Ca pr gs gg go i own S c L hs hg ho b (.cells #[.int .i64 k0, .int .i64 (j : Int), .int .i64 t, .int .i64 I, .slice p l.length q, .bool hw] 29 (0, 0)) wg hw' cw k Pa T G O) Q0) ⟨#[.int .i64 (N : Int), .slice Pa A Ca, u2, u3, u4, .pointer (some ⟨pr, 0, none⟩), u6, .slice (some ⟨gs, 0, none⟩) N N, .slice (some ⟨gg, 0, none⟩) N N, u9, .slice (some ⟨go, 0, none⟩) N N, u11, .int .i64 (i : Int), .pointer (some ⟨b, 0, none⟩), u14, u15, u16, u17, .slice (some ⟨wg, 0, none⟩) N N, .int .i64 (k : Int), u20, u21, u22, u23, u24, u25, u26, u27, u28, u29, u30, u31, u32, u33, u34, u35, u36, u37, u38, u39, u40, u41, u42, u43, u44, u45, u46, u47, u48, u49, u50, u51, u52, u53, u54, u55, u56, u57, u58, u59, u60, u61, u62, u63, u64, u65, u66, u67, u68, u69, u70, u71, u72, u73, u74, u75, u76, u77, u78, u79, u80, u81, u82, u83, u84, u85, u86, u87, u88, u89, u90, u91, u92, u93, u94, u95, u96, u97, u98, u99, u100, u101, u102, u103, u104, u105, u106, u107, u108, u109, u110, u111, u112, u113, u114, u115, u116, u117, u118, u119, u120, u121, u122, u123, u124, u125, u126, u127, u128, u129, u130, u131, u132, u133, u134, u135, u136, u137, u138, u139, u140, u141, u142, u143, u144, u145, u146, u147, u148, u149, u150, u151, u152, u153, u154, u155, u156, u157, u158, u159, u160, u161, u162, u163, u164, u165, u166, u167, u168, u169, u170, u171, u172, u173, u174, u175, u176, u177, u178, u179, u180, u181, u182, u183, u184, u185, u186, u187, u188, u189, u190, u191, u192, u193, u194, u195, u196, u197, u198, u199, u200, u201, u202, u203, u204, u205, u206, u207, u208, u209, u210, u211, u212, u213, u214, u215, u216, u217, u218, u219, u220, u221, u222, u223, u224, u225, u226, u227, u228, u229, u230, u231, u232, u233, u234, u235, u236, u237, u238, u239, u240, u241, u242, u243, u244, u245, u246, u247, u248, u249, u250, u251, u252, u253, u254, u255, u256, u257, u258, u259, u260, u261, u262, u263, u264, u265, u266, u267, u268, u269, u270, u271, u272, u273, u274, u275, u276, u277, u278, u279, u280, u281, u282, u283, u284, u285, u286, u287, u288, u289, u290, u291, u292, u293, u294, u295, u296, u297, u298, u299, u300, u301, u302, u303, u304, u305], []⟩ wr := by
  have e2 : (k : Int) < (N : Int) := by omega
  have YY := mkHid h
  clear h
  conv => arg 2; whnf
  go_wp2_with fail
  exact ⟨nFd_mk, YY.out⟩
set_option maxHeartbeats 4000000 in
set_option maxRecDepth 1000000 in
theorem nD1_out {w0 wr : World} {N A Ca n d pr gs gg go i c b wg j k : Nat} {Pa : Option Addr} {own : Nat → Nat} {S : St} {L : Ly} {hs hg ho : Nat → Nat} {hw' : Nat → Nat} {cw : Nat → Nat → Nat} {T : Nat → Nat → List ByteArray} {G O : Nat → Nat → Nat} {k0 t I : Int} {p : Option Addr} {l : List UInt8} {q : Nat} {hw : Bool} {u2 u3 u4 u6 u9 u11 u14 u15 u16 u17 u20 u21 u22 u23 u24 u25 u26 u27 u28 u29 u30 u31 u32 u33 u34 u35 u36 u37 u38 u39 u40 u41 u42 u43 u44 u45 u46 u47 u48 u49 u50 u51 u52 u53 u54 u55 u56 u57 u58 u59 u60 u61 u62 u63 u64 u65 u66 u67 u68 u69 u70 u71 u72 u73 u74 u75 u76 u77 u78 u79 u80 u81 u82 u83 u84 u85 u86 u87 u88 u89 u90 u91 u92 u93 u94 u95 u96 u97 u98 u99 u100 u101 u102 u103 u104 u105 u106 u107 u108 u109 u110 u111 u112 u113 u114 u115 u116 u117 u118 u119 u120 u121 u122 u123 u124 u125 u126 u127 u128 u129 u130 u131 u132 u133 u134 u135 u136 u137 u138 u139 u140 u141 u142 u143 u144 u145 u146 u147 u148 u149 u150 u151 u152 u153 u154 u155 u156 u157 u158 u159 u160 u161 u162 u163 u164 u165 u166 u167 u168 u169 u170 u171 u172 u173 u174 u175 u176 u177 u178 u179 u180 u181 u182 u183 u184 u185 u186 u187 u188 u189 u190 u191 u192 u193 u194 u195 u196 u197 u198 u199 u200 u201 u202 u203 u204 u205 u206 u207 u208 u209 u210 u211 u212 u213 u214 u215 u216 u217 u218 u219 u220 u221 u222 u223 u224 u225 u226 u227 u228 u229 u230 u231 u232 u233 u234 u235 u236 u237 u238 u239 u240 u241 u242 u243 u244 u245 u246 u247 u248 u249 u250 u251 u252 u253 u254 u255 u256 u257 u258 u259 u260 u261 u262 u263 u264 u265 u266 u267 u268 u269 u270 u271 u272 u273 u274 u275 u276 u277 u278 u279 u280 u281 u282 u283 u284 u285 u286 u287 u288 u289 u290 u291 u292 u293 u294 u295 u296 u297 u298 u299 u300 u301 u302 u303 u304 u305 : Value} {Q0 : Exit → Act → World → Prop} (h : nJ w0 N n d pr gs gg go own S c L hs hg ho b (.cells #[.int .i64 k0, .int .i64 (j : Int), .int .i64 t, .int .i64 I, .slice p l.length q, .bool hw] 29 (0, 0)) wg hw' cw T G O wr) (hk : ¬ k < N) (hx : ∀ a w', nPd w0 N n d A Ca pr gs gg go i own S c L hs hg ho b (.cells #[.int .i64 k0, .int .i64 (j : Int), .int .i64 t, .int .i64 I, .slice p l.length q, .bool hw] 29 (0, 0)) wg hw' cw k Pa T G O a w' → Q0 (.exit 7) a w') : Code.wp Try.prog (nD1 Try.f4) (Exit.then (fun _ _ => False) Q0) ⟨#[.int .i64 (N : Int), .slice Pa A Ca, u2, u3, u4, .pointer (some ⟨pr, 0, none⟩), u6, .slice (some ⟨gs, 0, none⟩) N N, .slice (some ⟨gg, 0, none⟩) N N, u9, .slice (some ⟨go, 0, none⟩) N N, u11, .int .i64 (i : Int), .pointer (some ⟨b, 0, none⟩), u14, u15, u16, u17, .slice (some ⟨wg, 0, none⟩) N N, .int .i64 (k : Int), u20, u21, u22, u23, u24, u25, u26, u27, u28, u29, u30, u31, u32, u33, u34, u35, u36, u37, u38, u39, u40, u41, u42, u43, u44, u45, u46, u47, u48, u49, u50, u51, u52, u53, u54, u55, u56, u57, u58, u59, u60, u61, u62, u63, u64, u65, u66, u67, u68, u69, u70, u71, u72, u73, u74, u75, u76, u77, u78, u79, u80, u81, u82, u83, u84, u85, u86, u87, u88, u89, u90, u91, u92, u93, u94, u95, u96, u97, u98, u99, u100, u101, u102, u103, u104, u105, u106, u107, u108, u109, u110, u111, u112, u113, u114, u115, u116, u117, u118, u119, u120, u121, u122, u123, u124, u125, u126, u127, u128, u129, u130, u131, u132, u133, u134, u135, u136, u137, u138, u139, u140, u141, u142, u143, u144, u145, u146, u147, u148, u149, u150, u151, u152, u153, u154, u155, u156, u157, u158, u159, u160, u161, u162, u163, u164, u165, u166, u167, u168, u169, u170, u171, u172, u173, u174, u175, u176, u177, u178, u179, u180, u181, u182, u183, u184, u185, u186, u187, u188, u189, u190, u191, u192, u193, u194, u195, u196, u197, u198, u199, u200, u201, u202, u203, u204, u205, u206, u207, u208, u209, u210, u211, u212, u213, u214, u215, u216, u217, u218, u219, u220, u221, u222, u223, u224, u225, u226, u227, u228, u229, u230, u231, u232, u233, u234, u235, u236, u237, u238, u239, u240, u241, u242, u243, u244, u245, u246, u247, u248, u249, u250, u251, u252, u253, u254, u255, u256, u257, u258, u259, u260, u261, u262, u263, u264, u265, u266, u267, u268, u269, u270, u271, u272, u273, u274, u275, u276, u277, u278, u279, u280, u281, u282, u283, u284, u285, u286, u287, u288, u289, u290, u291, u292, u293, u294, u295, u296, u297, u298, u299, u300, u301, u302, u303, u304, u305], []⟩ wr := by
  have e2 : ¬ (k : Int) < (N : Int) := by omega
  have YY := mkHid h
  clear h
  conv => arg 2; whnf
  go_wp2_with fail
  exact ⟨nFd_mk, YY.out⟩
set_option maxHeartbeats 4000000 in
set_option maxRecDepth 1000000 in
theorem nD3_goes {w0 wr : World} {N A Ca n d pr gs gg go i c b wg j k : Nat} {Pa : Option Addr} {own : Nat → Nat} {S : St} {L : Ly} {hs hg ho : Nat → Nat} {hw' : Nat → Nat} {cw : Nat → Nat → Nat} {T : Nat → Nat → List ByteArray} {G O : Nat → Nat → Nat} {k0 t I : Int} {p : Option Addr} {l : List UInt8} {q : Nat} {hw : Bool} {u2 u3 u4 u6 u9 u11 u14 u15 u16 u17 u20 u21 u22 u23 u24 u25 u26 u27 u28 u29 u30 u31 u32 u33 u34 u35 u36 u37 u38 u39 u40 u41 u42 u43 u44 u45 u46 u47 u48 u49 u50 u51 u52 u53 u54 u55 u56 u57 u58 u59 u60 u61 u62 u63 u64 u65 u66 u67 u68 u69 u70 u71 u72 u73 u74 u75 u76 u77 u78 u79 u80 u81 u82 u83 u84 u85 u86 u87 u88 u89 u90 u91 u92 u93 u94 u95 u96 u97 u98 u99 u100 u101 u102 u103 u104 u105 u106 u107 u108 u109 u110 u111 u112 u113 u114 u115 u116 u117 u118 u119 u120 u121 u122 u123 u124 u125 u126 u127 u128 u129 u130 u131 u132 u133 u134 u135 u136 u137 u138 u139 u140 u141 u142 u143 u144 u145 u146 u147 u148 u149 u150 u151 u152 u153 u154 u155 u156 u157 u158 u159 u160 u161 u162 u163 u164 u165 u166 u167 u168 u169 u170 u171 u172 u173 u174 u175 u176 u177 u178 u179 u180 u181 u182 u183 u184 u185 u186 u187 u188 u189 u190 u191 u192 u193 u194 u195 u196 u197 u198 u199 u200 u201 u202 u203 u204 u205 u206 u207 u208 u209 u210 u211 u212 u213 u214 u215 u216 u217 u218 u219 u220 u221 u222 u223 u224 u225 u226 u227 u228 u229 u230 u231 u232 u233 u234 u235 u236 u237 u238 u239 u240 u241 u242 u243 u244 u245 u246 u247 u248 u249 u250 u251 u252 u253 u254 u255 u256 u257 u258 u259 u260 u261 u262 u263 u264 u265 u266 u267 u268 u269 u270 u271 u272 u273 u274 u275 u276 u277 u278 u279 u280 u281 u282 u283 u284 u285 u286 u287 u288 u289 u290 u291 u292 u293 u294 u295 u296 u297 u298 u299 u300 u301 u302 u303 u304 u305 : Value} {Q0 : Exit → Act → World → Prop} (h : nJ w0 N n d pr gs gg go own S c L hs hg ho b (.cells #[.int .i64 k0, .int .i64 (j : Int), .int .i64 t, .int .i64 I, .slice p l.length q, .bool hw] 29 (0, 0)) wg hw' cw T G O wr) (hk : k < 1000) : Code.wp Try.prog (nD3 Try.f4) (Exit.then (nPd w0 N n d A Ca pr gs gg go i own S c L hs hg ho b (.cells #[.int .i64 k0, .int .i64 (j : Int), .int .i64 t, .int .i64 I, .slice p l.length q, .bool hw] 29 (0, 0)) wg hw' cw (k + 1) Pa T G O) Q0) ⟨#[.int .i64 (N : Int), .slice Pa A Ca, u2, u3, u4, .pointer (some ⟨pr, 0, none⟩), u6, .slice (some ⟨gs, 0, none⟩) N N, .slice (some ⟨gg, 0, none⟩) N N, u9, .slice (some ⟨go, 0, none⟩) N N, u11, .int .i64 (i : Int), .pointer (some ⟨b, 0, none⟩), u14, u15, u16, u17, .slice (some ⟨wg, 0, none⟩) N N, .int .i64 (k : Int), u20, u21, u22, u23, u24, u25, u26, u27, u28, u29, u30, u31, u32, u33, u34, u35, u36, u37, u38, u39, u40, u41, u42, u43, u44, u45, u46, u47, u48, u49, u50, u51, u52, u53, u54, u55, u56, u57, u58, u59, u60, u61, u62, u63, u64, u65, u66, u67, u68, u69, u70, u71, u72, u73, u74, u75, u76, u77, u78, u79, u80, u81, u82, u83, u84, u85, u86, u87, u88, u89, u90, u91, u92, u93, u94, u95, u96, u97, u98, u99, u100, u101, u102, u103, u104, u105, u106, u107, u108, u109, u110, u111, u112, u113, u114, u115, u116, u117, u118, u119, u120, u121, u122, u123, u124, u125, u126, u127, u128, u129, u130, u131, u132, u133, u134, u135, u136, u137, u138, u139, u140, u141, u142, u143, u144, u145, u146, u147, u148, u149, u150, u151, u152, u153, u154, u155, u156, u157, u158, u159, u160, u161, u162, u163, u164, u165, u166, u167, u168, u169, u170, u171, u172, u173, u174, u175, u176, u177, u178, u179, u180, u181, u182, u183, u184, u185, u186, u187, u188, u189, u190, u191, u192, u193, u194, u195, u196, u197, u198, u199, u200, u201, u202, u203, u204, u205, u206, u207, u208, u209, u210, u211, u212, u213, u214, u215, u216, u217, u218, u219, u220, u221, u222, u223, u224, u225, u226, u227, u228, u229, u230, u231, u232, u233, u234, u235, u236, u237, u238, u239, u240, u241, u242, u243, u244, u245, u246, u247, u248, u249, u250, u251, u252, u253, u254, u255, u256, u257, u258, u259, u260, u261, u262, u263, u264, u265, u266, u267, u268, u269, u270, u271, u272, u273, u274, u275, u276, u277, u278, u279, u280, u281, u282, u283, u284, u285, u286, u287, u288, u289, u290, u291, u292, u293, u294, u295, u296, u297, u298, u299, u300, u301, u302, u303, u304, u305], []⟩ wr := by
  have YY := mkHid h
  clear h
  conv => arg 2; whnf
  go_wp2_with fail
  refine ⟨?_, YY.out⟩
  have e : (k : Int) + 1 = ((k + 1 : Nat) : Int) := by omega
  rw [e]
  exact nFd_mk
set_option maxHeartbeats 4000000 in
set_option maxRecDepth 1000000 in
theorem nD_round {w0 : World} {N A Ca n d pr gs gg go i c b wg j : Nat} {Pa : Option Addr} {own : Nat → Nat} {S : St} {L : Ly} {hs hg ho : Nat → Nat} {hw' : Nat → Nat} {cw : Nat → Nat → Nat} {T : Nat → Nat → List ByteArray} {G O : Nat → Nat → Nat} {k0 t I : Int} {p : Option Addr} {l : List UInt8} {q : Nat} {hw : Bool} {Q0 : Exit → Act → World → Prop} {k : Nat} {a : Act} {w : World} (hj : j < N) (hk : k < N) (h64 : N ≤ 64) (h : nPd w0 N n d A Ca pr gs gg go i own S c L hs hg ho b (.cells #[.int .i64 k0, .int .i64 (j : Int), .int .i64 t, .int .i64 I, .slice p l.length q, .bool hw] 29 (0, 0)) wg hw' cw k Pa (zK [] T j k) (zK 0 G j k) (oK O (cw j) j k) a w) : Code.wp Try.prog (nD Try.f4) (Exit.then (nPd w0 N n d A Ca pr gs gg go i own S c L hs hg ho b (.cells #[.int .i64 k0, .int .i64 (j : Int), .int .i64 t, .int .i64 I, .slice p l.length q, .bool hw] 29 (0, 0)) wg hw' cw (k + 1) Pa (zK [] T j (k + 1)) (zK 0 G j (k + 1)) (oK O (cw j) j (k + 1))) Q0) a w := by
  rw [nD_eq]
  refine wp_seq' (M := nPd w0 N n d A Ca pr gs gg go i own S c L hs hg ho b (.cells #[.int .i64 k0, .int .i64 (j : Int), .int .i64 t, .int .i64 I, .slice p l.length q, .bool hw] 29 (0, 0)) wg hw' cw k Pa (zK [] T j k) (zK 0 G j k) (oK O (cw j) j k)) ?_ ?_
  · obtain ⟨h1, h2⟩ := h
    refine h1.open ?_
    intro u2 u3 u4 u6 u9 u11 u14 u15 u16 u17 u20 u21 u22 u23 u24 u25 u26 u27 u28 u29 u30 u31 u32 u33 u34 u35 u36 u37 u38 u39 u40 u41 u42 u43 u44 u45 u46 u47 u48 u49 u50 u51 u52 u53 u54 u55 u56 u57 u58 u59 u60 u61 u62 u63 u64 u65 u66 u67 u68 u69 u70 u71 u72 u73 u74 u75 u76 u77 u78 u79 u80 u81 u82 u83 u84 u85 u86 u87 u88 u89 u90 u91 u92 u93 u94 u95 u96 u97 u98 u99 u100 u101 u102 u103 u104 u105 u106 u107 u108 u109 u110 u111 u112 u113 u114 u115 u116 u117 u118 u119 u120 u121 u122 u123 u124 u125 u126 u127 u128 u129 u130 u131 u132 u133 u134 u135 u136 u137 u138 u139 u140 u141 u142 u143 u144 u145 u146 u147 u148 u149 u150 u151 u152 u153 u154 u155 u156 u157 u158 u159 u160 u161 u162 u163 u164 u165 u166 u167 u168 u169 u170 u171 u172 u173 u174 u175 u176 u177 u178 u179 u180 u181 u182 u183 u184 u185 u186 u187 u188 u189 u190 u191 u192 u193 u194 u195 u196 u197 u198 u199 u200 u201 u202 u203 u204 u205 u206 u207 u208 u209 u210 u211 u212 u213 u214 u215 u216 u217 u218 u219 u220 u221 u222 u223 u224 u225 u226 u227 u228 u229 u230 u231 u232 u233 u234 u235 u236 u237 u238 u239 u240 u241 u242 u243 u244 u245 u246 u247 u248 u249 u250 u251 u252 u253 u254 u255 u256 u257 u258 u259 u260 u261 u262 u263 u264 u265 u266 u267 u268 u269 u270 u271 u272 u273 u274 u275 u276 u277 u278 u279 u280 u281 u282 u283 u284 u285 u286 u287 u288 u289 u290 u291 u292 u293 u294 u295 u296 u297 u298 u299 u300 u301 u302 u303 u304 u305 e
    subst e
    exact nD1_in h2 hk
  · intro a w h
    refine wp_seq' (M := nPd w0 N n d A Ca pr gs gg go i own S c L hs hg ho b (.cells #[.int .i64 k0, .int .i64 (j : Int), .int .i64 t, .int .i64 I, .slice p l.length q, .bool hw] 29 (0, 0)) wg hw' cw k Pa (zK [] T j (k + 1)) (zK 0 G j (k + 1)) (oK O (cw j) j (k + 1))) ?_ ?_
    · refine wp_blk ?_
      rw [nDX_eq]
      refine wp_seq' (M := nPd w0 N n d A Ca pr gs gg go i own S c L hs hg ho b (.cells #[.int .i64 k0, .int .i64 (j : Int), .int .i64 t, .int .i64 I, .slice p l.length q, .bool hw] 29 (0, 0)) wg hw' cw k Pa (zK [] T j k) (zK 0 G j k) (upd2 (oK O (cw j) j k) j k (cw j k))) ?_ ?_
      · obtain ⟨h1, h2⟩ := h
        refine h1.open ?_
        intro u2 u3 u4 u6 u9 u11 u14 u15 u16 u17 u20 u21 u22 u23 u24 u25 u26 u27 u28 u29 u30 u31 u32 u33 u34 u35 u36 u37 u38 u39 u40 u41 u42 u43 u44 u45 u46 u47 u48 u49 u50 u51 u52 u53 u54 u55 u56 u57 u58 u59 u60 u61 u62 u63 u64 u65 u66 u67 u68 u69 u70 u71 u72 u73 u74 u75 u76 u77 u78 u79 u80 u81 u82 u83 u84 u85 u86 u87 u88 u89 u90 u91 u92 u93 u94 u95 u96 u97 u98 u99 u100 u101 u102 u103 u104 u105 u106 u107 u108 u109 u110 u111 u112 u113 u114 u115 u116 u117 u118 u119 u120 u121 u122 u123 u124 u125 u126 u127 u128 u129 u130 u131 u132 u133 u134 u135 u136 u137 u138 u139 u140 u141 u142 u143 u144 u145 u146 u147 u148 u149 u150 u151 u152 u153 u154 u155 u156 u157 u158 u159 u160 u161 u162 u163 u164 u165 u166 u167 u168 u169 u170 u171 u172 u173 u174 u175 u176 u177 u178 u179 u180 u181 u182 u183 u184 u185 u186 u187 u188 u189 u190 u191 u192 u193 u194 u195 u196 u197 u198 u199 u200 u201 u202 u203 u204 u205 u206 u207 u208 u209 u210 u211 u212 u213 u214 u215 u216 u217 u218 u219 u220 u221 u222 u223 u224 u225 u226 u227 u228 u229 u230 u231 u232 u233 u234 u235 u236 u237 u238 u239 u240 u241 u242 u243 u244 u245 u246 u247 u248 u249 u250 u251 u252 u253 u254 u255 u256 u257 u258 u259 u260 u261 u262 u263 u264 u265 u266 u267 u268 u269 u270 u271 u272 u273 u274 u275 u276 u277 u278 u279 u280 u281 u282 u283 u284 u285 u286 u287 u288 u289 u290 u291 u292 u293 u294 u295 u296 u297 u298 u299 u300 u301 u302 u303 u304 u305 e
        subst e
        exact n47_goes h2 hj hk
      · intro a w h
        refine wp_seq' (M := nPd w0 N n d A Ca pr gs gg go i own S c L hs hg ho b (.cells #[.int .i64 k0, .int .i64 (j : Int), .int .i64 t, .int .i64 I, .slice p l.length q, .bool hw] 29 (0, 0)) wg hw' cw k Pa (upd2 (upd2 (zK [] T j k) j k []) k j []) (upd2 (upd2 (zK 0 G j k) j k 0) k j 0) (upd2 (oK O (cw j) j k) j k (cw j k))) ?_ ?_
        · obtain ⟨h1, h2⟩ := h
          refine h1.open ?_
          intro u2 u3 u4 u6 u9 u11 u14 u15 u16 u17 u20 u21 u22 u23 u24 u25 u26 u27 u28 u29 u30 u31 u32 u33 u34 u35 u36 u37 u38 u39 u40 u41 u42 u43 u44 u45 u46 u47 u48 u49 u50 u51 u52 u53 u54 u55 u56 u57 u58 u59 u60 u61 u62 u63 u64 u65 u66 u67 u68 u69 u70 u71 u72 u73 u74 u75 u76 u77 u78 u79 u80 u81 u82 u83 u84 u85 u86 u87 u88 u89 u90 u91 u92 u93 u94 u95 u96 u97 u98 u99 u100 u101 u102 u103 u104 u105 u106 u107 u108 u109 u110 u111 u112 u113 u114 u115 u116 u117 u118 u119 u120 u121 u122 u123 u124 u125 u126 u127 u128 u129 u130 u131 u132 u133 u134 u135 u136 u137 u138 u139 u140 u141 u142 u143 u144 u145 u146 u147 u148 u149 u150 u151 u152 u153 u154 u155 u156 u157 u158 u159 u160 u161 u162 u163 u164 u165 u166 u167 u168 u169 u170 u171 u172 u173 u174 u175 u176 u177 u178 u179 u180 u181 u182 u183 u184 u185 u186 u187 u188 u189 u190 u191 u192 u193 u194 u195 u196 u197 u198 u199 u200 u201 u202 u203 u204 u205 u206 u207 u208 u209 u210 u211 u212 u213 u214 u215 u216 u217 u218 u219 u220 u221 u222 u223 u224 u225 u226 u227 u228 u229 u230 u231 u232 u233 u234 u235 u236 u237 u238 u239 u240 u241 u242 u243 u244 u245 u246 u247 u248 u249 u250 u251 u252 u253 u254 u255 u256 u257 u258 u259 u260 u261 u262 u263 u264 u265 u266 u267 u268 u269 u270 u271 u272 u273 u274 u275 u276 u277 u278 u279 u280 u281 u282 u283 u284 u285 u286 u287 u288 u289 u290 u291 u292 u293 u294 u295 u296 u297 u298 u299 u300 u301 u302 u303 u304 u305 e
          subst e
          exact n48_goes h2 hj hk
        · intro a w h
          rw [← zK_step, ← zK_step, ← oK_step]
          obtain ⟨h1, h2⟩ := h
          refine h1.open ?_
          intro u2 u3 u4 u6 u9 u11 u14 u15 u16 u17 u20 u21 u22 u23 u24 u25 u26 u27 u28 u29 u30 u31 u32 u33 u34 u35 u36 u37 u38 u39 u40 u41 u42 u43 u44 u45 u46 u47 u48 u49 u50 u51 u52 u53 u54 u55 u56 u57 u58 u59 u60 u61 u62 u63 u64 u65 u66 u67 u68 u69 u70 u71 u72 u73 u74 u75 u76 u77 u78 u79 u80 u81 u82 u83 u84 u85 u86 u87 u88 u89 u90 u91 u92 u93 u94 u95 u96 u97 u98 u99 u100 u101 u102 u103 u104 u105 u106 u107 u108 u109 u110 u111 u112 u113 u114 u115 u116 u117 u118 u119 u120 u121 u122 u123 u124 u125 u126 u127 u128 u129 u130 u131 u132 u133 u134 u135 u136 u137 u138 u139 u140 u141 u142 u143 u144 u145 u146 u147 u148 u149 u150 u151 u152 u153 u154 u155 u156 u157 u158 u159 u160 u161 u162 u163 u164 u165 u166 u167 u168 u169 u170 u171 u172 u173 u174 u175 u176 u177 u178 u179 u180 u181 u182 u183 u184 u185 u186 u187 u188 u189 u190 u191 u192 u193 u194 u195 u196 u197 u198 u199 u200 u201 u202 u203 u204 u205 u206 u207 u208 u209 u210 u211 u212 u213 u214 u215 u216 u217 u218 u219 u220 u221 u222 u223 u224 u225 u226 u227 u228 u229 u230 u231 u232 u233 u234 u235 u236 u237 u238 u239 u240 u241 u242 u243 u244 u245 u246 u247 u248 u249 u250 u251 u252 u253 u254 u255 u256 u257 u258 u259 u260 u261 u262 u263 u264 u265 u266 u267 u268 u269 u270 u271 u272 u273 u274 u275 u276 u277 u278 u279 u280 u281 u282 u283 u284 u285 u286 u287 u288 u289 u290 u291 u292 u293 u294 u295 u296 u297 u298 u299 u300 u301 u302 u303 u304 u305 e
          subst e
          exact n49_goes h2 hj hk
    · intro a w h
      obtain ⟨h1, h2⟩ := h
      refine h1.open ?_
      intro u2 u3 u4 u6 u9 u11 u14 u15 u16 u17 u20 u21 u22 u23 u24 u25 u26 u27 u28 u29 u30 u31 u32 u33 u34 u35 u36 u37 u38 u39 u40 u41 u42 u43 u44 u45 u46 u47 u48 u49 u50 u51 u52 u53 u54 u55 u56 u57 u58 u59 u60 u61 u62 u63 u64 u65 u66 u67 u68 u69 u70 u71 u72 u73 u74 u75 u76 u77 u78 u79 u80 u81 u82 u83 u84 u85 u86 u87 u88 u89 u90 u91 u92 u93 u94 u95 u96 u97 u98 u99 u100 u101 u102 u103 u104 u105 u106 u107 u108 u109 u110 u111 u112 u113 u114 u115 u116 u117 u118 u119 u120 u121 u122 u123 u124 u125 u126 u127 u128 u129 u130 u131 u132 u133 u134 u135 u136 u137 u138 u139 u140 u141 u142 u143 u144 u145 u146 u147 u148 u149 u150 u151 u152 u153 u154 u155 u156 u157 u158 u159 u160 u161 u162 u163 u164 u165 u166 u167 u168 u169 u170 u171 u172 u173 u174 u175 u176 u177 u178 u179 u180 u181 u182 u183 u184 u185 u186 u187 u188 u189 u190 u191 u192 u193 u194 u195 u196 u197 u198 u199 u200 u201 u202 u203 u204 u205 u206 u207 u208 u209 u210 u211 u212 u213 u214 u215 u216 u217 u218 u219 u220 u221 u222 u223 u224 u225 u226 u227 u228 u229 u230 u231 u232 u233 u234 u235 u236 u237 u238 u239 u240 u241 u242 u243 u244 u245 u246 u247 u248 u249 u250 u251 u252 u253 u254 u255 u256 u257 u258 u259 u260 u261 u262 u263 u264 u265 u266 u267 u268 u269 u270 u271 u272 u273 u274 u275 u276 u277 u278 u279 u280 u281 u282 u283 u284 u285 u286 u287 u288 u289 u290 u291 u292 u293 u294 u295 u296 u297 u298 u299 u300 u301 u302 u303 u304 u305 e
      subst e
      exact nD3_goes h2 (by omega)
def muD (N : Nat) (a : Act) (_ : World) : Nat := N - (intOf (a.tmps.getD 19 undef)).toNat
set_option maxHeartbeats 4000000 in
set_option maxRecDepth 1000000 in
theorem nD_loop {w0 : World} {N A Ca n d pr gs gg go i c b wg j : Nat} {Pa : Option Addr} {own : Nat → Nat} {S : St} {L : Ly} {hs hg ho : Nat → Nat} {hw' : Nat → Nat} {cw : Nat → Nat → Nat} {T : Nat → Nat → List ByteArray} {G O : Nat → Nat → Nat} {k0 t I : Int} {p : Option Addr} {l : List UInt8} {q : Nat} {hw : Bool} {Q0 : Exit → Act → World → Prop} {a : Act} {w : World} (hj : j < N) (h64 : N ≤ 64) (h : nPd w0 N n d A Ca pr gs gg go i own S c L hs hg ho b (.cells #[.int .i64 k0, .int .i64 (j : Int), .int .i64 t, .int .i64 I, .slice p l.length q, .bool hw] 29 (0, 0)) wg hw' cw 0 Pa (zK [] T j 0) (zK 0 G j 0) (oK O (cw j) j 0) a w) (hx : ∀ a w, nPd w0 N n d A Ca pr gs gg go i own S c L hs hg ho b (.cells #[.int .i64 k0, .int .i64 (j : Int), .int .i64 t, .int .i64 I, .slice p l.length q, .bool hw] 29 (0, 0)) wg hw' cw N Pa (zK [] T j N) (zK 0 G j N) (oK O (cw j) j N) a w → Q0 (.exit 7) a w) : Code.wp Try.prog (Code.loop (nD Try.f4)) Q0 a w := by
  refine wp_loop (fun a w => ∃ k, k ≤ N ∧ nPd w0 N n d A Ca pr gs gg go i own S c L hs hg ho b (.cells #[.int .i64 k0, .int .i64 (j : Int), .int .i64 t, .int .i64 I, .slice p l.length q, .bool hw] 29 (0, 0)) wg hw' cw k Pa (zK [] T j k) (zK 0 G j k) (oK O (cw j) j k) a w) (muD N) ⟨0, Nat.zero_le _, h⟩ ?_
  rintro a w ⟨k, hk, h⟩
  by_cases hlt : k < N
  · have hm : muD N a w = N - k := by
      refine h.1.open ?_
      intro u2 u3 u4 u6 u9 u11 u14 u15 u16 u17 u20 u21 u22 u23 u24 u25 u26 u27 u28 u29 u30 u31 u32 u33 u34 u35 u36 u37 u38 u39 u40 u41 u42 u43 u44 u45 u46 u47 u48 u49 u50 u51 u52 u53 u54 u55 u56 u57 u58 u59 u60 u61 u62 u63 u64 u65 u66 u67 u68 u69 u70 u71 u72 u73 u74 u75 u76 u77 u78 u79 u80 u81 u82 u83 u84 u85 u86 u87 u88 u89 u90 u91 u92 u93 u94 u95 u96 u97 u98 u99 u100 u101 u102 u103 u104 u105 u106 u107 u108 u109 u110 u111 u112 u113 u114 u115 u116 u117 u118 u119 u120 u121 u122 u123 u124 u125 u126 u127 u128 u129 u130 u131 u132 u133 u134 u135 u136 u137 u138 u139 u140 u141 u142 u143 u144 u145 u146 u147 u148 u149 u150 u151 u152 u153 u154 u155 u156 u157 u158 u159 u160 u161 u162 u163 u164 u165 u166 u167 u168 u169 u170 u171 u172 u173 u174 u175 u176 u177 u178 u179 u180 u181 u182 u183 u184 u185 u186 u187 u188 u189 u190 u191 u192 u193 u194 u195 u196 u197 u198 u199 u200 u201 u202 u203 u204 u205 u206 u207 u208 u209 u210 u211 u212 u213 u214 u215 u216 u217 u218 u219 u220 u221 u222 u223 u224 u225 u226 u227 u228 u229 u230 u231 u232 u233 u234 u235 u236 u237 u238 u239 u240 u241 u242 u243 u244 u245 u246 u247 u248 u249 u250 u251 u252 u253 u254 u255 u256 u257 u258 u259 u260 u261 u262 u263 u264 u265 u266 u267 u268 u269 u270 u271 u272 u273 u274 u275 u276 u277 u278 u279 u280 u281 u282 u283 u284 u285 u286 u287 u288 u289 u290 u291 u292 u293 u294 u295 u296 u297 u298 u299 u300 u301 u302 u303 u304 u305 e
      subst e
      simp [muD, intOf]
    refine wp_mono (nD_round (Q0 := Q0) hj hlt h64 h) (fun e a' w' h' => ?_)
    cases e with
    | normal =>
      refine ⟨⟨k + 1, hlt, h'⟩, ?_⟩
      rw [hm]
      have h'' : nPd w0 N n d A Ca pr gs gg go i own S c L hs hg ho b (.cells #[.int .i64 k0, .int .i64 (j : Int), .int .i64 t, .int .i64 I, .slice p l.length q, .bool hw] 29 (0, 0)) wg hw' cw (k + 1) Pa (zK [] T j (k + 1)) (zK 0 G j (k + 1)) (oK O (cw j) j (k + 1)) a' w' := h'
      refine h''.1.open ?_
      intro u2 u3 u4 u6 u9 u11 u14 u15 u16 u17 u20 u21 u22 u23 u24 u25 u26 u27 u28 u29 u30 u31 u32 u33 u34 u35 u36 u37 u38 u39 u40 u41 u42 u43 u44 u45 u46 u47 u48 u49 u50 u51 u52 u53 u54 u55 u56 u57 u58 u59 u60 u61 u62 u63 u64 u65 u66 u67 u68 u69 u70 u71 u72 u73 u74 u75 u76 u77 u78 u79 u80 u81 u82 u83 u84 u85 u86 u87 u88 u89 u90 u91 u92 u93 u94 u95 u96 u97 u98 u99 u100 u101 u102 u103 u104 u105 u106 u107 u108 u109 u110 u111 u112 u113 u114 u115 u116 u117 u118 u119 u120 u121 u122 u123 u124 u125 u126 u127 u128 u129 u130 u131 u132 u133 u134 u135 u136 u137 u138 u139 u140 u141 u142 u143 u144 u145 u146 u147 u148 u149 u150 u151 u152 u153 u154 u155 u156 u157 u158 u159 u160 u161 u162 u163 u164 u165 u166 u167 u168 u169 u170 u171 u172 u173 u174 u175 u176 u177 u178 u179 u180 u181 u182 u183 u184 u185 u186 u187 u188 u189 u190 u191 u192 u193 u194 u195 u196 u197 u198 u199 u200 u201 u202 u203 u204 u205 u206 u207 u208 u209 u210 u211 u212 u213 u214 u215 u216 u217 u218 u219 u220 u221 u222 u223 u224 u225 u226 u227 u228 u229 u230 u231 u232 u233 u234 u235 u236 u237 u238 u239 u240 u241 u242 u243 u244 u245 u246 u247 u248 u249 u250 u251 u252 u253 u254 u255 u256 u257 u258 u259 u260 u261 u262 u263 u264 u265 u266 u267 u268 u269 u270 u271 u272 u273 u274 u275 u276 u277 u278 u279 u280 u281 u282 u283 u284 u285 u286 u287 u288 u289 u290 u291 u292 u293 u294 u295 u296 u297 u298 u299 u300 u301 u302 u303 u304 u305 e
      subst e
      simp [muD, intOf]
      omega
    | _ => exact h'
  · obtain rfl : k = N := by omega
    rw [nD_eq]
    refine wp_seq' (M := fun _ _ => False) ?_ (fun _ _ h => h.elim)
    obtain ⟨h1, h2⟩ := h
    refine h1.open ?_
    intro u2 u3 u4 u6 u9 u11 u14 u15 u16 u17 u20 u21 u22 u23 u24 u25 u26 u27 u28 u29 u30 u31 u32 u33 u34 u35 u36 u37 u38 u39 u40 u41 u42 u43 u44 u45 u46 u47 u48 u49 u50 u51 u52 u53 u54 u55 u56 u57 u58 u59 u60 u61 u62 u63 u64 u65 u66 u67 u68 u69 u70 u71 u72 u73 u74 u75 u76 u77 u78 u79 u80 u81 u82 u83 u84 u85 u86 u87 u88 u89 u90 u91 u92 u93 u94 u95 u96 u97 u98 u99 u100 u101 u102 u103 u104 u105 u106 u107 u108 u109 u110 u111 u112 u113 u114 u115 u116 u117 u118 u119 u120 u121 u122 u123 u124 u125 u126 u127 u128 u129 u130 u131 u132 u133 u134 u135 u136 u137 u138 u139 u140 u141 u142 u143 u144 u145 u146 u147 u148 u149 u150 u151 u152 u153 u154 u155 u156 u157 u158 u159 u160 u161 u162 u163 u164 u165 u166 u167 u168 u169 u170 u171 u172 u173 u174 u175 u176 u177 u178 u179 u180 u181 u182 u183 u184 u185 u186 u187 u188 u189 u190 u191 u192 u193 u194 u195 u196 u197 u198 u199 u200 u201 u202 u203 u204 u205 u206 u207 u208 u209 u210 u211 u212 u213 u214 u215 u216 u217 u218 u219 u220 u221 u222 u223 u224 u225 u226 u227 u228 u229 u230 u231 u232 u233 u234 u235 u236 u237 u238 u239 u240 u241 u242 u243 u244 u245 u246 u247 u248 u249 u250 u251 u252 u253 u254 u255 u256 u257 u258 u259 u260 u261 u262 u263 u264 u265 u266 u267 u268 u269 u270 u271 u272 u273 u274 u275 u276 u277 u278 u279 u280 u281 u282 u283 u284 u285 u286 u287 u288 u289 u290 u291 u292 u293 u294 u295 u296 u297 u298 u299 u300 u301 u302 u303 u304 u305 e
    subst e
    exact nD1_out h2 hlt (fun a w h => hx a w h)

end Go.Proofs.Ytpghkbbhcpcbdaa
namespace Go.Proofs.Ytpghkbbhcpcbdaa
open Go.RowKit Go.Maps Go.Joins

theorem nS_7end {w0 wx w : World} {N n d pr gs gg go i c b wg c2 : Nat} {own own' : Nat → Nat} {S : St} {L L2 : Ly} {T : Nat → Nat → List ByteArray} {G O : Nat → Nat → Nat} {hs hg ho : Nat → Nat} {rv : Nat → Nat → Value} {bx : Obj} {hw' : Nat → Nat} {j : Nat} (h : LwF w0 N n d pr gs gg go i own S T G O c L hs rv hg ho wx) (hi : i + 1 ≤ 3000000) (hj : j < N) (hd : S.dn j = true) (hc2 : c2 ≤ c + 128) (J : nJ w0 N n d pr gs gg go own' (upS S j) c2 L2 hs hg ho b bx wg hw' (cntF S) (zK [] T j N) (zK 0 G j N) (oK O (cntF S j) j N) w) : LwY w0 N n d pr gs gg go (i + 1) w := by
  obtain ⟨_, ⟨rv2, H⟩, _, _⟩ := J
  obtain ⟨e1, e2, e3, e4⟩ := upS_same S j
  have hN := h.hN
  have hc := h.hc
  have cl : ∀ x y, cntF S x y ≤ i := fun x y => by
    unfold cntF
    split
    · exact Nat.zero_le _
    · have := h.ok.ml y
      unfold wt
      rw [List.length_map]
      exact Nat.le_trans (List.length_filter_le _ _) this
  refine H.whole (T2 := upT' T j) (G2 := upG G j) (O2 := upO O (cntF S j) j) (fun x y hx hy => zK_all hx hy) (fun x y hx hy => zK_all hx hy) (fun x y hx hy => oK_all hx hy) (by rw [e1]; exact hN) (h.inv.up (by omega) hd (fun x hx _ hdx => by unfold cntF; rw [if_neg (by rw [hdx]; decide)])) (h.ok.up hi j) (by omega) (fun x y => ⟨?_, ?_, ?_⟩) (by rw [e4]; exact h.fb)
  · unfold upT'
    split
    · exact Nat.zero_le _
    · exact Nat.le_succ_of_le (h.tl x y).1
  · unfold upG
    split
    · exact Nat.zero_le _
    · exact Nat.le_succ_of_le (h.tl x y).2.1
  · unfold upO
    split
    · exact Nat.zero_le _
    · split
      · exact Nat.le_succ_of_le (cl _ _)
      · exact Nat.le_succ_of_le (h.tl x y).2.2
theorem LwF.nUp {w0 wx W w6 : World} {N n d pr gs gg go i c c2 b wg : Nat} {own : Nat → Nat} {S S2 : St} {L : Ly} {T : Nat → Nat → List ByteArray} {G O : Nat → Nat → Nat} {hs hg ho : Nat → Nat} {rv : Nat → Nat → Value} {bx : Obj} {hw' : Nat → Nat} {j : Nat} (h : LwF w0 N n d pr gs gg go i own S T G O c L hs rv hg ho wx) (gW : wx.grownBy W none) (hb : wx.heap[b]? = some bx) (hob : own b = 0) (M : MtI (fun b => wx.heap.size ≤ b ∧ b < W.heap.size) W wg N N hw' (fun a b => (cntF S a b : Int))) (U : UpN (fun b => own b = 1) W n c2 S2 w6) : ∃ own' L2, nJ w0 N n d pr gs gg go own' S2 c2 L2 hs hg ho b bx wg hw' (cntF S) (zK [] T j 0) (zK 0 G j 0) (oK O (cntF S j) j 0) w6 := by
  obtain ⟨L2, H⟩ := (h.kept gW).half U
  obtain ⟨L5, _, C⟩ := U
  have lb := lt_of_heap hb
  have sz := gW.size
  have o0 : ∀ x, wx.heap.size ≤ x → own x = 0 := fun x hx => Classical.byContradiction (fun e => by have := (h.lo x e).2; omega)
  refine ⟨ownN own W w6, L2, ?_, ⟨rv, ?_⟩, C.at_ (box_keep hb gW (by simp)) (fun e => by have e : own b = 1 := e; rw [hob] at e; cases e), (M.away C (fun x hx e => by have e : own x = 1 := e; rw [o0 x hx.1] at e; cases e)).wide (fun x hx => ?_)⟩
  · unfold ownN
    rw [if_neg (by omega)]; exact hob
  · rw [zK_zero, zK_zero, oK_zero]; exact H
  · show ownN own W w6 x = 0
    unfold ownN
    rw [if_neg (by omega)]; exact o0 x hx.1
theorem neNilW (a : Addr) (n c : Nat) (w : World) : (binOp .eql 40 (.slice (some a) n c) (.slice none 0 0)).run Try.prog w = .ok (.bool false) w := by kernel_rfl
theorem up_no {S : St} {a : Int} (h : upK S a ≠ 0) : upT S a = S := by
  unfold upK at h
  unfold upT
  by_cases h1 : 0 ≤ a ∧ a < S.N
  · rw [if_pos h1] at h ⊢
    by_cases h2 : S.dn a.toNat = true
    · rw [if_pos h2] at h; exact absurd rfl h
    · rw [if_neg h2]
  · rw [if_neg h1]

end Go.Proofs.Ytpghkbbhcpcbdaa
namespace Go.Proofs.Ytpghkbbhcpcbdaa
open Go.RowKit Go.Maps Go.Joins

set_option maxHeartbeats 4000000 in
set_option maxRecDepth 1000000 in
theorem nS_7n {w0 wx : World} {N A Ca n d pr gs gg go i b c : Nat} {Pa : Option Addr} {own : Nat → Nat} {S : St} {L : Ly} {T : Nat → Nat → List ByteArray} {G O : Nat → Nat → Nat} {hs hg ho : Nat → Nat} {rv : Nat → Nat → Value} {u2 u3 u4 u6 u9 u11 u14 u15 u16 u17 u18 u19 u20 u21 u22 u23 u24 u25 u26 u27 u28 u29 u30 u31 u32 u33 u34 u35 u36 u37 u38 u39 u40 u41 u42 u43 u44 u45 u46 u47 u48 u49 u50 u51 u52 u53 u54 u55 u56 u57 u58 u59 u60 u61 u62 u63 u64 u65 u66 u67 u68 u69 u70 u71 u72 u73 u74 u75 u76 u77 u78 u79 u80 u81 u82 u83 u84 u85 u86 u87 u88 u89 u90 u91 u92 u93 u94 u95 u96 u97 u98 u99 u100 u101 u102 u103 u104 u105 u106 u107 u108 u109 u110 u111 u112 u113 u114 u115 u116 u117 u118 u119 u120 u121 u122 u123 u124 u125 u126 u127 u128 u129 u130 u131 u132 u133 u134 u135 u136 u137 u138 u139 u140 u141 u142 u143 u144 u145 u146 u147 u148 u149 u150 u151 u152 u153 u154 u155 u156 u157 u158 u159 u160 u161 u162 u163 u164 u165 u166 u167 u168 u169 u170 u171 u172 u173 u174 u175 u176 u177 u178 u179 u180 u181 u182 u183 u184 u185 u186 u187 u188 u189 u190 u191 u192 u193 u194 u195 u196 u197 u198 u199 u200 u201 u202 u203 u204 u205 u206 u207 u208 u209 u210 u211 u212 u213 u214 u215 u216 u217 u218 u219 u220 u221 u222 u223 u224 u225 u226 u227 u228 u229 u230 u231 u232 u233 u234 u235 u236 u237 u238 u239 u240 u241 u242 u243 u244 u245 u246 u247 u248 u249 u250 u251 u252 u253 u254 u255 u256 u257 u258 u259 u260 u261 u262 u263 u264 u265 u266 u267 u268 u269 u270 u271 u272 u273 u274 u275 u276 u277 u278 u279 u280 u281 u282 u283 u284 u285 u286 u287 u288 u289 u290 u291 u292 u293 u294 u295 u296 u297 u298 u299 u300 u301 u302 u303 u304 u305 : Value} {Q5 : Exit → Act → World → Prop} {a t I : Int} {p : Option Addr} {l : List UInt8} {q : Nat} {hw : Bool} (h : LwF w0 N n d pr gs gg go i own S T G O c L hs rv hg ho wx) (hi : i + 1 ≤ 3000000) (hb : wx.heap[b]? = some (.cells #[.int .i64 7, .int .i64 a, .int .i64 t, .int .i64 I, .slice p l.length q, .bool hw] 29 (0, 0))) (hx5 : ∀ a' w', nM w0 N n d A Ca pr gs gg go i Pa a' w' → Q5 (.exit 5) a' w') (hob : own b = 0) (hE : upK S a ≠ 0) : Code.wp Try.prog (nS Try.f4) (Exit.then (nM w0 N n d A Ca pr gs gg go i Pa) Q5) ⟨#[.int .i64 (N : Int), .slice Pa A Ca, u2, u3, u4, .pointer (some ⟨pr, 0, none⟩), u6, .slice (some ⟨gs, 0, none⟩) N N, .slice (some ⟨gg, 0, none⟩) N N, u9, .slice (some ⟨go, 0, none⟩) N N, u11, .int .i64 (i : Int), .pointer (some ⟨b, 0, none⟩), u14, u15, u16, u17, u18, u19, u20, u21, u22, u23, u24, u25, u26, u27, u28, u29, u30, u31, u32, u33, u34, u35, u36, u37, u38, u39, u40, u41, u42, u43, u44, u45, u46, u47, u48, u49, u50, u51, u52, u53, u54, u55, u56, u57, u58, u59, u60, u61, u62, u63, u64, u65, u66, u67, u68, u69, u70, u71, u72, u73, u74, u75, u76, u77, u78, u79, u80, u81, u82, u83, u84, u85, u86, u87, u88, u89, u90, u91, u92, u93, u94, u95, u96, u97, u98, u99, u100, u101, u102, u103, u104, u105, u106, u107, u108, u109, u110, u111, u112, u113, u114, u115, u116, u117, u118, u119, u120, u121, u122, u123, u124, u125, u126, u127, u128, u129, u130, u131, u132, u133, u134, u135, u136, u137, u138, u139, u140, u141, u142, u143, u144, u145, u146, u147, u148, u149, u150, u151, u152, u153, u154, u155, u156, u157, u158, u159, u160, u161, u162, u163, u164, u165, u166, u167, u168, u169, u170, u171, u172, u173, u174, u175, u176, u177, u178, u179, u180, u181, u182, u183, u184, u185, u186, u187, u188, u189, u190, u191, u192, u193, u194, u195, u196, u197, u198, u199, u200, u201, u202, u203, u204, u205, u206, u207, u208, u209, u210, u211, u212, u213, u214, u215, u216, u217, u218, u219, u220, u221, u222, u223, u224, u225, u226, u227, u228, u229, u230, u231, u232, u233, u234, u235, u236, u237, u238, u239, u240, u241, u242, u243, u244, u245, u246, u247, u248, u249, u250, u251, u252, u253, u254, u255, u256, u257, u258, u259, u260, u261, u262, u263, u264, u265, u266, u267, u268, u269, u270, u271, u272, u273, u274, u275, u276, u277, u278, u279, u280, u281, u282, u283, u284, u285, u286, u287, u288, u289, u290, u291, u292, u293, u294, u295, u296, u297, u298, u299, u300, u301, u302, u303, u304, u305], []⟩ wx := by
  obtain ⟨a0, a1, a2, a3, a4, a5, af⟩ := cells6 hb
  obtain ⟨p0, p1, pf⟩ := cells2 h.pr.1
  have lb := lt_of_heap hb
  have lp := lt_of_heap h.pr.1
  have hob1 : own b ≠ 1 := by rw [hob]; decide
  have CNT : Hid (Calls Try.prog 17 #[.pointer (some ⟨n, 0, none⟩), .int .i64 (N : Int)] wx fun e w5 => ∃ wg hb', e = .returned (.slice (some ⟨wg, 0, none⟩) N N) ∧ MtI (fun b => wx.heap.size ≤ b ∧ b < w5.heap.size) w5 wg N N hb' (fun a b => (cntF S a b : Int)) ∧ wx.grownBy w5 none ∧ w5.cell? ⟨b, 1, none⟩ = some (.int .i64 a) ∧ w5.cell? ⟨pr, 0, none⟩ = some (.pointer (some ⟨n, 0, none⟩))) := by
    have := count_any h.net h.ok (by have := h.fb; omega) (by have := h.hc; omega) h.inv.fr
    rw [h.hN] at this
    refine this.mono ?_
    rintro e w5 ⟨g, hb', rfl, M, g5⟩
    rw [h.hN] at M ⊢
    exact ⟨g, hb', rfl, M, g5, (cells6 (box_keep hb g5 (by simp))).2.1, (cells2 (box_keep h.pr.1 g5 (by simp))).1⟩
  obtain ⟨E, hEE⟩ : ∃ E, E = upK S a := ⟨_, rfl⟩
  have UPC : Hid (∀ W, wx.grownBy W none → Calls Try.prog 18 #[.pointer (some ⟨n, 0, none⟩), .int .i64 a] W fun e w' => e = .returned (.int .i64 E) ∧ (w'.cell? ⟨b, 1, none⟩ = some (.int .i64 a) ∧ w'.cell? ⟨pr, 0, none⟩ = some (.pointer (some ⟨n, 0, none⟩))) ∧ LwY w0 N n d pr gs gg go (i + 1) w') := fun W gW => by
    have H' := h.kept gW
    have hc := H'.hc
    refine (Up_any H'.net a (fun x y => by have := H'.ok.wb x y; have := H'.ok.lt; omega) (by omega)).mono ?_
    rintro e w5 ⟨rfl, U⟩
    rw [up_no hE] at U
    have hb5 := U
    obtain ⟨L5, _, C5⟩ := hb5
    exact ⟨by rw [hEE], ⟨(cells6 (C5.at_ (box_keep hb gW (by simp)) hob1)).2.1, (cells2 (C5.at_ H'.pr.1 (fun e => by have := H'.pr.2; have e : own pr = 1 := e; omega))).1⟩, H'.same U H'.hN (H'.ok.more hi) (by omega) H'.inv H'.fb⟩
  have e0 : (E == 0) = false := by rw [beq_eq_false_iff_ne, hEE]; exact hE
  have e1 : (E != 0) = true := by simp [bne, e0]
  clear h hb hE hEE af pf hob hob1
  conv => arg 2; whnf
  go_wp2_with fail
  refine CNT.out.mono ?_
  rintro e w5 ⟨wg, hb', rfl, m5, g5, y1, y0⟩
  have M5 := mkHid m5
  have G5 := mkHid g5
  clear m5 g5 CNT
  have nn := neNilW ⟨wg, 0, none⟩ N N w5
  go_upto_region 43 with fail
  go_region_held3 (fun w' => w'.cell? ⟨b, 1, none⟩ = some (.int .i64 a) ∧ w'.cell? ⟨pr, 0, none⟩ = some (.pointer (some ⟨n, 0, none⟩))) (first | exact ⟨y1, y0⟩ | exact K6.out) (first | (go_at_call 18; refine (UPC.out _ (grown_drew G5.out)).mono ?_; rintro e w6 ⟨rfl, k6, Y6⟩; have K6 := mkHid k6; have Y := mkHid Y6; clear Y6 k6))
  go_wp2_with fail
  exact ⟨nFr_mk, Y.out⟩

end Go.Proofs.Ytpghkbbhcpcbdaa
namespace Go.Proofs.Ytpghkbbhcpcbdaa
open Go.RowKit Go.Maps Go.Joins

set_option maxHeartbeats 4000000 in
set_option maxRecDepth 1000000 in
theorem nS_7y {j : Nat} {w0 wx : World} {N A Ca n d pr gs gg go i b c : Nat} {Pa : Option Addr} {own : Nat → Nat} {S : St} {L : Ly} {T : Nat → Nat → List ByteArray} {G O : Nat → Nat → Nat} {hs hg ho : Nat → Nat} {rv : Nat → Nat → Value} {u2 u3 u4 u6 u9 u11 u14 u15 u16 u17 u18 u19 u20 u21 u22 u23 u24 u25 u26 u27 u28 u29 u30 u31 u32 u33 u34 u35 u36 u37 u38 u39 u40 u41 u42 u43 u44 u45 u46 u47 u48 u49 u50 u51 u52 u53 u54 u55 u56 u57 u58 u59 u60 u61 u62 u63 u64 u65 u66 u67 u68 u69 u70 u71 u72 u73 u74 u75 u76 u77 u78 u79 u80 u81 u82 u83 u84 u85 u86 u87 u88 u89 u90 u91 u92 u93 u94 u95 u96 u97 u98 u99 u100 u101 u102 u103 u104 u105 u106 u107 u108 u109 u110 u111 u112 u113 u114 u115 u116 u117 u118 u119 u120 u121 u122 u123 u124 u125 u126 u127 u128 u129 u130 u131 u132 u133 u134 u135 u136 u137 u138 u139 u140 u141 u142 u143 u144 u145 u146 u147 u148 u149 u150 u151 u152 u153 u154 u155 u156 u157 u158 u159 u160 u161 u162 u163 u164 u165 u166 u167 u168 u169 u170 u171 u172 u173 u174 u175 u176 u177 u178 u179 u180 u181 u182 u183 u184 u185 u186 u187 u188 u189 u190 u191 u192 u193 u194 u195 u196 u197 u198 u199 u200 u201 u202 u203 u204 u205 u206 u207 u208 u209 u210 u211 u212 u213 u214 u215 u216 u217 u218 u219 u220 u221 u222 u223 u224 u225 u226 u227 u228 u229 u230 u231 u232 u233 u234 u235 u236 u237 u238 u239 u240 u241 u242 u243 u244 u245 u246 u247 u248 u249 u250 u251 u252 u253 u254 u255 u256 u257 u258 u259 u260 u261 u262 u263 u264 u265 u266 u267 u268 u269 u270 u271 u272 u273 u274 u275 u276 u277 u278 u279 u280 u281 u282 u283 u284 u285 u286 u287 u288 u289 u290 u291 u292 u293 u294 u295 u296 u297 u298 u299 u300 u301 u302 u303 u304 u305 : Value} {Q5 : Exit → Act → World → Prop} {t I : Int} {p : Option Addr} {l : List UInt8} {q : Nat} {hw : Bool} (h : LwF w0 N n d pr gs gg go i own S T G O c L hs rv hg ho wx) (hi : i + 1 ≤ 3000000) (hb : wx.heap[b]? = some (.cells #[.int .i64 7, .int .i64 (j : Int), .int .i64 t, .int .i64 I, .slice p l.length q, .bool hw] 29 (0, 0))) (hob : own b = 0) (hj : j < N) (h64 : N ≤ 64) (hd : S.dn j = true) : Code.wp Try.prog (nS Try.f4) (Exit.then (nM w0 N n d A Ca pr gs gg go i Pa) Q5) ⟨#[.int .i64 (N : Int), .slice Pa A Ca, u2, u3, u4, .pointer (some ⟨pr, 0, none⟩), u6, .slice (some ⟨gs, 0, none⟩) N N, .slice (some ⟨gg, 0, none⟩) N N, u9, .slice (some ⟨go, 0, none⟩) N N, u11, .int .i64 (i : Int), .pointer (some ⟨b, 0, none⟩), u14, u15, u16, u17, u18, u19, u20, u21, u22, u23, u24, u25, u26, u27, u28, u29, u30, u31, u32, u33, u34, u35, u36, u37, u38, u39, u40, u41, u42, u43, u44, u45, u46, u47, u48, u49, u50, u51, u52, u53, u54, u55, u56, u57, u58, u59, u60, u61, u62, u63, u64, u65, u66, u67, u68, u69, u70, u71, u72, u73, u74, u75, u76, u77, u78, u79, u80, u81, u82, u83, u84, u85, u86, u87, u88, u89, u90, u91, u92, u93, u94, u95, u96, u97, u98, u99, u100, u101, u102, u103, u104, u105, u106, u107, u108, u109, u110, u111, u112, u113, u114, u115, u116, u117, u118, u119, u120, u121, u122, u123, u124, u125, u126, u127, u128, u129, u130, u131, u132, u133, u134, u135, u136, u137, u138, u139, u140, u141, u142, u143, u144, u145, u146, u147, u148, u149, u150, u151, u152, u153, u154, u155, u156, u157, u158, u159, u160, u161, u162, u163, u164, u165, u166, u167, u168, u169, u170, u171, u172, u173, u174, u175, u176, u177, u178, u179, u180, u181, u182, u183, u184, u185, u186, u187, u188, u189, u190, u191, u192, u193, u194, u195, u196, u197, u198, u199, u200, u201, u202, u203, u204, u205, u206, u207, u208, u209, u210, u211, u212, u213, u214, u215, u216, u217, u218, u219, u220, u221, u222, u223, u224, u225, u226, u227, u228, u229, u230, u231, u232, u233, u234, u235, u236, u237, u238, u239, u240, u241, u242, u243, u244, u245, u246, u247, u248, u249, u250, u251, u252, u253, u254, u255, u256, u257, u258, u259, u260, u261, u262, u263, u264, u265, u266, u267, u268, u269, u270, u271, u272, u273, u274, u275, u276, u277, u278, u279, u280, u281, u282, u283, u284, u285, u286, u287, u288, u289, u290, u291, u292, u293, u294, u295, u296, u297, u298, u299, u300, u301, u302, u303, u304, u305], []⟩ wx := by
  obtain ⟨a0, a1, a2, a3, a4, a5, af⟩ := cells6 hb
  obtain ⟨p0, p1, pf⟩ := cells2 h.pr.1
  have lb := lt_of_heap hb
  have lp := lt_of_heap h.pr.1
  have hob1 : own b ≠ 1 := by rw [hob]; decide
  have CNT : Hid (Calls Try.prog 17 #[.pointer (some ⟨n, 0, none⟩), .int .i64 (N : Int)] wx fun e w5 => ∃ wg hb', e = .returned (.slice (some ⟨wg, 0, none⟩) N N) ∧ MtI (fun b => wx.heap.size ≤ b ∧ b < w5.heap.size) w5 wg N N hb' (fun a b => (cntF S a b : Int)) ∧ wx.grownBy w5 none ∧ w5.cell? ⟨b, 1, none⟩ = some (.int .i64 (j : Int)) ∧ w5.cell? ⟨pr, 0, none⟩ = some (.pointer (some ⟨n, 0, none⟩))) := by
    have := count_any h.net h.ok (by have := h.fb; omega) (by have := h.hc; omega) h.inv.fr
    rw [h.hN] at this
    refine this.mono ?_
    rintro e w5 ⟨g, hb', rfl, M, g5⟩
    rw [h.hN] at M ⊢
    exact ⟨g, hb', rfl, M, g5, (cells6 (box_keep hb g5 (by simp))).2.1, (cells2 (box_keep h.pr.1 g5 (by simp))).1⟩
  have hk0 : upK S (j : Int) = 0 := by unfold upK; rw [if_pos (by have := h.hN; omega), if_pos (by rw [Int.toNat_natCast]; exact hd)]
  have hkT : upT S (j : Int) = upS S j := by unfold upT; rw [if_pos (by have := h.hN; omega), if_pos (by rw [Int.toNat_natCast]; exact hd), Int.toNat_natCast]
  have UPC : Hid (∀ W wg hb', wx.grownBy W none → MtI (fun b => wx.heap.size ≤ b ∧ b < W.heap.size) W wg N N hb' (fun a b => (cntF S a b : Int)) → Calls Try.prog 18 #[.pointer (some ⟨n, 0, none⟩), .int .i64 (j : Int)] W fun e w' => e = .returned (.int .i64 0) ∧ (w'.cell? ⟨b, 1, none⟩ = some (.int .i64 (j : Int)) ∧ w'.cell? ⟨pr, 0, none⟩ = some (.pointer (some ⟨n, 0, none⟩))) ∧ ∃ own' L2, nJ w0 N n d pr gs gg go own' (upS S j) (c + 128) L2 hs hg ho b (.cells #[.int .i64 7, .int .i64 (j : Int), .int .i64 t, .int .i64 I, .slice p l.length q, .bool hw] 29 (0, 0)) wg hb' (cntF S) (zK [] T j 0) (zK 0 G j 0) (oK O (cntF S j) j 0) w') := fun W wg hb' gW M => by
    have H' := h.kept gW
    have hc := H'.hc
    refine (Up_any H'.net (j : Int) (fun x y => by have := H'.ok.wb x y; have := H'.ok.lt; omega) (by omega)).mono ?_
    rintro e w5 ⟨rfl, U⟩
    rw [hkT] at U
    have hb5 := U
    obtain ⟨L5, _, C5⟩ := hb5
    exact ⟨by rw [hk0], ⟨(cells6 (C5.at_ (box_keep hb gW (by simp)) hob1)).2.1, (cells2 (C5.at_ H'.pr.1 (fun e => by have := H'.pr.2; have e : own pr = 1 := e; omega))).1⟩, h.nUp gW hb hob M U⟩
  have HE : Hid (∀ own' L2 wg hb' w, nJ w0 N n d pr gs gg go own' (upS S j) (c + 128) L2 hs hg ho b (.cells #[.int .i64 7, .int .i64 (j : Int), .int .i64 t, .int .i64 I, .slice p l.length q, .bool hw] 29 (0, 0)) wg hb' (cntF S) (zK [] T j N) (zK 0 G j N) (oK O (cntF S j) j N) w → LwY w0 N n d pr gs gg go (i + 1) w) := fun _ _ _ _ _ J => nS_7end h hi hj hd (Nat.le_refl _) J
  clear h hb af pf hob hob1 hk0 hkT hd
  conv => arg 2; whnf
  go_wp2_with fail
  refine CNT.out.mono ?_
  rintro e w5 ⟨wg, hb', rfl, m5, g5, y1, y0⟩
  have M5 := mkHid m5
  have G5 := mkHid g5
  clear m5 g5 CNT
  have nn := neNilW ⟨wg, 0, none⟩ N N w5
  go_upto_region 43 with fail
  go_region_held3 (fun w' => w'.cell? ⟨b, 1, none⟩ = some (.int .i64 (j : Int)) ∧ w'.cell? ⟨pr, 0, none⟩ = some (.pointer (some ⟨n, 0, none⟩))) (first | exact ⟨y1, y0⟩ | exact K6.out) (first | (go_at_call 18; refine (UPC.out _ _ _ (grown_drew G5.out) (M5.out.kept (grown_drew (grown_refl _)))).mono ?_; rintro e w6 ⟨rfl, k6, J6⟩; have K6 := mkHid k6; have J := mkHid J6; clear J6 k6))
  obtain ⟨own', L2, JJ⟩ := J.out
  have J0 := mkHid JJ
  clear JJ J UPC M5 G5 K6 y0 y1 a0 a1 a2 a3 a4 a5 p0 p1
  go_wp2_with fail
  refine nD_loop (j := j) hj h64 ⟨nFd_mk, J0.out⟩ ?_
  intro a' w' hh
  obtain ⟨hF, hJ⟩ := hh
  refine hF.open ?_
  intro u2 u3 u4 u6 u9 u11 u14 u15 u16 u17 u20 u21 u22 u23 u24 u25 u26 u27 u28 u29 u30 u31 u32 u33 u34 u35 u36 u37 u38 u39 u40 u41 u42 u43 u44 u45 u46 u47 u48 u49 u50 u51 u52 u53 u54 u55 u56 u57 u58 u59 u60 u61 u62 u63 u64 u65 u66 u67 u68 u69 u70 u71 u72 u73 u74 u75 u76 u77 u78 u79 u80 u81 u82 u83 u84 u85 u86 u87 u88 u89 u90 u91 u92 u93 u94 u95 u96 u97 u98 u99 u100 u101 u102 u103 u104 u105 u106 u107 u108 u109 u110 u111 u112 u113 u114 u115 u116 u117 u118 u119 u120 u121 u122 u123 u124 u125 u126 u127 u128 u129 u130 u131 u132 u133 u134 u135 u136 u137 u138 u139 u140 u141 u142 u143 u144 u145 u146 u147 u148 u149 u150 u151 u152 u153 u154 u155 u156 u157 u158 u159 u160 u161 u162 u163 u164 u165 u166 u167 u168 u169 u170 u171 u172 u173 u174 u175 u176 u177 u178 u179 u180 u181 u182 u183 u184 u185 u186 u187 u188 u189 u190 u191 u192 u193 u194 u195 u196 u197 u198 u199 u200 u201 u202 u203 u204 u205 u206 u207 u208 u209 u210 u211 u212 u213 u214 u215 u216 u217 u218 u219 u220 u221 u222 u223 u224 u225 u226 u227 u228 u229 u230 u231 u232 u233 u234 u235 u236 u237 u238 u239 u240 u241 u242 u243 u244 u245 u246 u247 u248 u249 u250 u251 u252 u253 u254 u255 u256 u257 u258 u259 u260 u261 u262 u263 u264 u265 u266 u267 u268 u269 u270 u271 u272 u273 u274 u275 u276 u277 u278 u279 u280 u281 u282 u283 u284 u285 u286 u287 u288 u289 u290 u291 u292 u293 u294 u295 u296 u297 u298 u299 u300 u301 u302 u303 u304 u305 ee
  subst ee
  exact (⟨nFr_mk, HE.out _ _ _ _ _ hJ⟩ : nM w0 N n d A Ca pr gs gg go i Pa _ _)

end Go.Proofs.Ytpghkbbhcpcbdaa
