/-
  The law's round: a node that comes again: the tables' loop, its frame and its state.
-/
import Derived.Test.YtpghkbbhcpcbdaaNGB
namespace Go.Proofs.Ytpghkbbhcpcbdaa
open Go.RowKit Go.Maps Go.Joins

/-- the inner loop's body, and its parts -/
def nD (f : Func) : Code := (cLoops (nS f)).getD 0 .skip
def nD1 (f : Func) : Code := cFst (nD f)
def nDX (f : Func) : Code := cBlk (cFst (cSnd (nD f)))
def nD3 (f : Func) : Code := cSnd (cSnd (nD f))
def n47 (f : Func) : Code := cFst (nDX f)
def n48 (f : Func) : Code := cFst (cSnd (nDX f))
def n49 (f : Func) : Code := cSnd (cSnd (nDX f))
set_option maxRecDepth 100000 in
theorem nD_eq : nD Try.f4 = .seq (nD1 Try.f4) (.seq (.block 8 (nDX Try.f4)) (nD3 Try.f4)) := rfl
set_option maxRecDepth 100000 in
theorem nDX_eq : nDX Try.f4 = .seq (n47 Try.f4) (.seq (n48 Try.f4) (n49 Try.f4)) := rfl
set_option maxRecDepth 1000000 in
def nFd (N A Ca pr gs gg go i b wg k : Nat) (Pa : Option Addr) (a : Act) : Prop := ∃ u2 u3 u4 u6 u9 u11 u14 u15 u16 u17 u20 u21 u22 u23 u24 u25 u26 u27 u28 u29 u30 u31 u32 u33 u34 u35 u36 u37 u38 u39 u40 u41 u42 u43 u44 u45 u46 u47 u48 u49 u50 u51 u52 u53 u54 u55 u56 u57 u58 u59 u60 u61 u62 u63 u64 u65 u66 u67 u68 u69 u70 u71 u72 u73 u74 u75 u76 u77 u78 u79 u80 u81 u82 u83 u84 u85 u86 u87 u88 u89 u90 u91 u92 u93 u94 u95 u96 u97 u98 u99 u100 u101 u102 u103 u104 u105 u106 u107 u108 u109 u110 u111 u112 u113 u114 u115 u116 u117 u118 u119 u120 u121 u122 u123 u124 u125 u126 u127 u128 u129 u130 u131 u132 u133 u134 u135 u136 u137 u138 u139 u140 u141 u142 u143 u144 u145 u146 u147 u148 u149 u150 u151 u152 u153 u154 u155 u156 u157 u158 u159 u160 u161 u162 u163 u164 u165 u166 u167 u168 u169 u170 u171 u172 u173 u174 u175 u176 u177 u178 u179 u180 u181 u182 u183 u184 u185 u186 u187 u188 u189 u190 u191 u192 u193 u194 u195 u196 u197 u198 u199 u200 u201 u202 u203 u204 u205 u206 u207 u208 u209 u210 u211 u212 u213 u214 u215 u216 u217 u218 u219 u220 u221 u222 u223 u224 u225 u226 u227 u228 u229 u230 u231 u232 u233 u234 u235 u236 u237 u238 u239 u240 u241 u242 u243 u244 u245 u246 u247 u248 u249 u250 u251 u252 u253 u254 u255 u256 u257 u258 u259 u260 u261 u262 u263 u264 u265 u266 u267 u268 u269 u270 u271 u272 u273 u274 u275 u276 u277 u278 u279 u280 u281 u282 u283 u284 u285 u286 u287 u288 u289 u290 u291 u292 u293 u294 u295 u296 u297 u298 u299 u300 u301 u302 u303 u304 u305 : Value, a = ⟨#[.int .i64 (N : Int), .slice Pa A Ca, u2, u3, u4, .pointer (some ⟨pr, 0, none⟩), u6, .slice (some ⟨gs, 0, none⟩) N N, .slice (some ⟨gg, 0, none⟩) N N, u9, .slice (some ⟨go, 0, none⟩) N N, u11, .int .i64 (i : Int), .pointer (some ⟨b, 0, none⟩), u14, u15, u16, u17, .slice (some ⟨wg, 0, none⟩) N N, .int .i64 (k : Int), u20, u21, u22, u23, u24, u25, u26, u27, u28, u29, u30, u31, u32, u33, u34, u35, u36, u37, u38, u39, u40, u41, u42, u43, u44, u45, u46, u47, u48, u49, u50, u51, u52, u53, u54, u55, u56, u57, u58, u59, u60, u61, u62, u63, u64, u65, u66, u67, u68, u69, u70, u71, u72, u73, u74, u75, u76, u77, u78, u79, u80, u81, u82, u83, u84, u85, u86, u87, u88, u89, u90, u91, u92, u93, u94, u95, u96, u97, u98, u99, u100, u101, u102, u103, u104, u105, u106, u107, u108, u109, u110, u111, u112, u113, u114, u115, u116, u117, u118, u119, u120, u121, u122, u123, u124, u125, u126, u127, u128, u129, u130, u131, u132, u133, u134, u135, u136, u137, u138, u139, u140, u141, u142, u143, u144, u145, u146, u147, u148, u149, u150, u151, u152, u153, u154, u155, u156, u157, u158, u159, u160, u161, u162, u163, u164, u165, u166, u167, u168, u169, u170, u171, u172, u173, u174, u175, u176, u177, u178, u179, u180, u181, u182, u183, u184, u185, u186, u187, u188, u189, u190, u191, u192, u193, u194, u195, u196, u197, u198, u199, u200, u201, u202, u203, u204, u205, u206, u207, u208, u209, u210, u211, u212, u213, u214, u215, u216, u217, u218, u219, u220, u221, u222, u223, u224, u225, u226, u227, u228, u229, u230, u231, u232, u233, u234, u235, u236, u237, u238, u239, u240, u241, u242, u243, u244, u245, u246, u247, u248, u249, u250, u251, u252, u253, u254, u255, u256, u257, u258, u259, u260, u261, u262, u263, u264, u265, u266, u267, u268, u269, u270, u271, u272, u273, u274, u275, u276, u277, u278, u279, u280, u281, u282, u283, u284, u285, u286, u287, u288, u289, u290, u291, u292, u293, u294, u295, u296, u297, u298, u299, u300, u301, u302, u303, u304, u305], []⟩
set_option maxRecDepth 1000000 in
theorem nFd_mk {N A Ca pr gs gg go i b wg k : Nat} {Pa : Option Addr} {u2 u3 u4 u6 u9 u11 u14 u15 u16 u17 u20 u21 u22 u23 u24 u25 u26 u27 u28 u29 u30 u31 u32 u33 u34 u35 u36 u37 u38 u39 u40 u41 u42 u43 u44 u45 u46 u47 u48 u49 u50 u51 u52 u53 u54 u55 u56 u57 u58 u59 u60 u61 u62 u63 u64 u65 u66 u67 u68 u69 u70 u71 u72 u73 u74 u75 u76 u77 u78 u79 u80 u81 u82 u83 u84 u85 u86 u87 u88 u89 u90 u91 u92 u93 u94 u95 u96 u97 u98 u99 u100 u101 u102 u103 u104 u105 u106 u107 u108 u109 u110 u111 u112 u113 u114 u115 u116 u117 u118 u119 u120 u121 u122 u123 u124 u125 u126 u127 u128 u129 u130 u131 u132 u133 u134 u135 u136 u137 u138 u139 u140 u141 u142 u143 u144 u145 u146 u147 u148 u149 u150 u151 u152 u153 u154 u155 u156 u157 u158 u159 u160 u161 u162 u163 u164 u165 u166 u167 u168 u169 u170 u171 u172 u173 u174 u175 u176 u177 u178 u179 u180 u181 u182 u183 u184 u185 u186 u187 u188 u189 u190 u191 u192 u193 u194 u195 u196 u197 u198 u199 u200 u201 u202 u203 u204 u205 u206 u207 u208 u209 u210 u211 u212 u213 u214 u215 u216 u217 u218 u219 u220 u221 u222 u223 u224 u225 u226 u227 u228 u229 u230 u231 u232 u233 u234 u235 u236 u237 u238 u239 u240 u241 u242 u243 u244 u245 u246 u247 u248 u249 u250 u251 u252 u253 u254 u255 u256 u257 u258 u259 u260 u261 u262 u263 u264 u265 u266 u267 u268 u269 u270 u271 u272 u273 u274 u275 u276 u277 u278 u279 u280 u281 u282 u283 u284 u285 u286 u287 u288 u289 u290 u291 u292 u293 u294 u295 u296 u297 u298 u299 u300 u301 u302 u303 u304 u305 : Value} : nFd N A Ca pr gs gg go i b wg k Pa ⟨#[.int .i64 (N : Int), .slice Pa A Ca, u2, u3, u4, .pointer (some ⟨pr, 0, none⟩), u6, .slice (some ⟨gs, 0, none⟩) N N, .slice (some ⟨gg, 0, none⟩) N N, u9, .slice (some ⟨go, 0, none⟩) N N, u11, .int .i64 (i : Int), .pointer (some ⟨b, 0, none⟩), u14, u15, u16, u17, .slice (some ⟨wg, 0, none⟩) N N, .int .i64 (k : Int), u20, u21, u22, u23, u24, u25, u26, u27, u28, u29, u30, u31, u32, u33, u34, u35, u36, u37, u38, u39, u40, u41, u42, u43, u44, u45, u46, u47, u48, u49, u50, u51, u52, u53, u54, u55, u56, u57, u58, u59, u60, u61, u62, u63, u64, u65, u66, u67, u68, u69, u70, u71, u72, u73, u74, u75, u76, u77, u78, u79, u80, u81, u82, u83, u84, u85, u86, u87, u88, u89, u90, u91, u92, u93, u94, u95, u96, u97, u98, u99, u100, u101, u102, u103, u104, u105, u106, u107, u108, u109, u110, u111, u112, u113, u114, u115, u116, u117, u118, u119, u120, u121, u122, u123, u124, u125, u126, u127, u128, u129, u130, u131, u132, u133, u134, u135, u136, u137, u138, u139, u140, u141, u142, u143, u144, u145, u146, u147, u148, u149, u150, u151, u152, u153, u154, u155, u156, u157, u158, u159, u160, u161, u162, u163, u164, u165, u166, u167, u168, u169, u170, u171, u172, u173, u174, u175, u176, u177, u178, u179, u180, u181, u182, u183, u184, u185, u186, u187, u188, u189, u190, u191, u192, u193, u194, u195, u196, u197, u198, u199, u200, u201, u202, u203, u204, u205, u206, u207, u208, u209, u210, u211, u212, u213, u214, u215, u216, u217, u218, u219, u220, u221, u222, u223, u224, u225, u226, u227, u228, u229, u230, u231, u232, u233, u234, u235, u236, u237, u238, u239, u240, u241, u242, u243, u244, u245, u246, u247, u248, u249, u250, u251, u252, u253, u254, u255, u256, u257, u258, u259, u260, u261, u262, u263, u264, u265, u266, u267, u268, u269, u270, u271, u272, u273, u274, u275, u276, u277, u278, u279, u280, u281, u282, u283, u284, u285, u286, u287, u288, u289, u290, u291, u292, u293, u294, u295, u296, u297, u298, u299, u300, u301, u302, u303, u304, u305], []⟩ := ⟨u2, u3, u4, u6, u9, u11, u14, u15, u16, u17, u20, u21, u22, u23, u24, u25, u26, u27, u28, u29, u30, u31, u32, u33, u34, u35, u36, u37, u38, u39, u40, u41, u42, u43, u44, u45, u46, u47, u48, u49, u50, u51, u52, u53, u54, u55, u56, u57, u58, u59, u60, u61, u62, u63, u64, u65, u66, u67, u68, u69, u70, u71, u72, u73, u74, u75, u76, u77, u78, u79, u80, u81, u82, u83, u84, u85, u86, u87, u88, u89, u90, u91, u92, u93, u94, u95, u96, u97, u98, u99, u100, u101, u102, u103, u104, u105, u106, u107, u108, u109, u110, u111, u112, u113, u114, u115, u116, u117, u118, u119, u120, u121, u122, u123, u124, u125, u126, u127, u128, u129, u130, u131, u132, u133, u134, u135, u136, u137, u138, u139, u140, u141, u142, u143, u144, u145, u146, u147, u148, u149, u150, u151, u152, u153, u154, u155, u156, u157, u158, u159, u160, u161, u162, u163, u164, u165, u166, u167, u168, u169, u170, u171, u172, u173, u174, u175, u176, u177, u178, u179, u180, u181, u182, u183, u184, u185, u186, u187, u188, u189, u190, u191, u192, u193, u194, u195, u196, u197, u198, u199, u200, u201, u202, u203, u204, u205, u206, u207, u208, u209, u210, u211, u212, u213, u214, u215, u216, u217, u218, u219, u220, u221, u222, u223, u224, u225, u226, u227, u228, u229, u230, u231, u232, u233, u234, u235, u236, u237, u238, u239, u240, u241, u242, u243, u244, u245, u246, u247, u248, u249, u250, u251, u252, u253, u254, u255, u256, u257, u258, u259, u260, u261, u262, u263, u264, u265, u266, u267, u268, u269, u270, u271, u272, u273, u274, u275, u276, u277, u278, u279, u280, u281, u282, u283, u284, u285, u286, u287, u288, u289, u290, u291, u292, u293, u294, u295, u296, u297, u298, u299, u300, u301, u302, u303, u304, u305, rfl⟩
set_option maxRecDepth 1000000 in
theorem nFd.open {N A Ca pr gs gg go i b wg k : Nat} {Pa : Option Addr} {a : Act} (h : nFd N A Ca pr gs gg go i b wg k Pa a) {R : Prop} (k' : ∀ u2 u3 u4 u6 u9 u11 u14 u15 u16 u17 u20 u21 u22 u23 u24 u25 u26 u27 u28 u29 u30 u31 u32 u33 u34 u35 u36 u37 u38 u39 u40 u41 u42 u43 u44 u45 u46 u47 u48 u49 u50 u51 u52 u53 u54 u55 u56 u57 u58 u59 u60 u61 u62 u63 u64 u65 u66 u67 u68 u69 u70 u71 u72 u73 u74 u75 u76 u77 u78 u79 u80 u81 u82 u83 u84 u85 u86 u87 u88 u89 u90 u91 u92 u93 u94 u95 u96 u97 u98 u99 u100 u101 u102 u103 u104 u105 u106 u107 u108 u109 u110 u111 u112 u113 u114 u115 u116 u117 u118 u119 u120 u121 u122 u123 u124 u125 u126 u127 u128 u129 u130 u131 u132 u133 u134 u135 u136 u137 u138 u139 u140 u141 u142 u143 u144 u145 u146 u147 u148 u149 u150 u151 u152 u153 u154 u155 u156 u157 u158 u159 u160 u161 u162 u163 u164 u165 u166 u167 u168 u169 u170 u171 u172 u173 u174 u175 u176 u177 u178 u179 u180 u181 u182 u183 u184 u185 u186 u187 u188 u189 u190 u191 u192 u193 u194 u195 u196 u197 u198 u199 u200 u201 u202 u203 u204 u205 u206 u207 u208 u209 u210 u211 u212 u213 u214 u215 u216 u217 u218 u219 u220 u221 u222 u223 u224 u225 u226 u227 u228 u229 u230 u231 u232 u233 u234 u235 u236 u237 u238 u239 u240 u241 u242 u243 u244 u245 u246 u247 u248 u249 u250 u251 u252 u253 u254 u255 u256 u257 u258 u259 u260 u261 u262 u263 u264 u265 u266 u267 u268 u269 u270 u271 u272 u273 u274 u275 u276 u277 u278 u279 u280 u281 u282 u283 u284 u285 u286 u287 u288 u289 u290 u291 u292 u293 u294 u295 u296 u297 u298 u299 u300 u301 u302 u303 u304 u305 : Value, a = ⟨#[.int .i64 (N : Int), .slice Pa A Ca, u2, u3, u4, .pointer (some ⟨pr, 0, none⟩), u6, .slice (some ⟨gs, 0, none⟩) N N, .slice (some ⟨gg, 0, none⟩) N N, u9, .slice (some ⟨go, 0, none⟩) N N, u11, .int .i64 (i : Int), .pointer (some ⟨b, 0, none⟩), u14, u15, u16, u17, .slice (some ⟨wg, 0, none⟩) N N, .int .i64 (k : Int), u20, u21, u22, u23, u24, u25, u26, u27, u28, u29, u30, u31, u32, u33, u34, u35, u36, u37, u38, u39, u40, u41, u42, u43, u44, u45, u46, u47, u48, u49, u50, u51, u52, u53, u54, u55, u56, u57, u58, u59, u60, u61, u62, u63, u64, u65, u66, u67, u68, u69, u70, u71, u72, u73, u74, u75, u76, u77, u78, u79, u80, u81, u82, u83, u84, u85, u86, u87, u88, u89, u90, u91, u92, u93, u94, u95, u96, u97, u98, u99, u100, u101, u102, u103, u104, u105, u106, u107, u108, u109, u110, u111, u112, u113, u114, u115, u116, u117, u118, u119, u120, u121, u122, u123, u124, u125, u126, u127, u128, u129, u130, u131, u132, u133, u134, u135, u136, u137, u138, u139, u140, u141, u142, u143, u144, u145, u146, u147, u148, u149, u150, u151, u152, u153, u154, u155, u156, u157, u158, u159, u160, u161, u162, u163, u164, u165, u166, u167, u168, u169, u170, u171, u172, u173, u174, u175, u176, u177, u178, u179, u180, u181, u182, u183, u184, u185, u186, u187, u188, u189, u190, u191, u192, u193, u194, u195, u196, u197, u198, u199, u200, u201, u202, u203, u204, u205, u206, u207, u208, u209, u210, u211, u212, u213, u214, u215, u216, u217, u218, u219, u220, u221, u222, u223, u224, u225, u226, u227, u228, u229, u230, u231, u232, u233, u234, u235, u236, u237, u238, u239, u240, u241, u242, u243, u244, u245, u246, u247, u248, u249, u250, u251, u252, u253, u254, u255, u256, u257, u258, u259, u260, u261, u262, u263, u264, u265, u266, u267, u268, u269, u270, u271, u272, u273, u274, u275, u276, u277, u278, u279, u280, u281, u282, u283, u284, u285, u286, u287, u288, u289, u290, u291, u292, u293, u294, u295, u296, u297, u298, u299, u300, u301, u302, u303, u304, u305], []⟩ → R) : R := by
  unfold nFd at h
  obtain ⟨u2, h⟩ := h
  obtain ⟨u3, h⟩ := h
  obtain ⟨u4, h⟩ := h
  obtain ⟨u6, h⟩ := h
  obtain ⟨u9, h⟩ := h
  obtain ⟨u11, h⟩ := h
  obtain ⟨u14, h⟩ := h
  obtain ⟨u15, h⟩ := h
  obtain ⟨u16, h⟩ := h
  obtain ⟨u17, h⟩ := h
  obtain ⟨u20, h⟩ := h
  obtain ⟨u21, h⟩ := h
  obtain ⟨u22, h⟩ := h
  obtain ⟨u23, h⟩ := h
  obtain ⟨u24, h⟩ := h
  obtain ⟨u25, h⟩ := h
  obtain ⟨u26, h⟩ := h
  obtain ⟨u27, h⟩ := h
  obtain ⟨u28, h⟩ := h
  obtain ⟨u29, h⟩ := h
  obtain ⟨u30, h⟩ := h
  obtain ⟨u31, h⟩ := h
  obtain ⟨u32, h⟩ := h
  obtain ⟨u33, h⟩ := h
  obtain ⟨u34, h⟩ := h
  obtain ⟨u35, h⟩ := h
  obtain ⟨u36, h⟩ := h
  obtain ⟨u37, h⟩ := h
  obtain ⟨u38, h⟩ := h
  obtain ⟨u39, h⟩ := h
  obtain ⟨u40, h⟩ := h
  obtain ⟨u41, h⟩ := h
  obtain ⟨u42, h⟩ := h
  obtain ⟨u43, h⟩ := h
  obtain ⟨u44, h⟩ := h
  obtain ⟨u45, h⟩ := h
  obtain ⟨u46, h⟩ := h
  obtain ⟨u47, h⟩ := h
  obtain ⟨u48, h⟩ := h
  obtain ⟨u49, h⟩ := h
  obtain ⟨u50, h⟩ := h
  obtain ⟨u51, h⟩ := h
  obtain ⟨u52, h⟩ := h
  obtain ⟨u53, h⟩ := h
  obtain ⟨u54, h⟩ := h
  obtain ⟨u55, h⟩ := h
  obtain ⟨u56, h⟩ := h
  obtain ⟨u57, h⟩ := h
  obtain ⟨u58, h⟩ := h
  obtain ⟨u59, h⟩ := h
  obtain ⟨u60, h⟩ := h
  obtain ⟨u61, h⟩ := h
  obtain ⟨u62, h⟩ := h
  obtain ⟨u63, h⟩ := h
  obtain ⟨u64, h⟩ := h
  obtain ⟨u65, h⟩ := h
  obtain ⟨u66, h⟩ := h
  obtain ⟨u67, h⟩ := h
  obtain ⟨u68, h⟩ := h
  obtain ⟨u69, h⟩ := h
  obtain ⟨u70, h⟩ := h
  obtain ⟨u71, h⟩ := h
  obtain ⟨u72, h⟩ := h
  obtain ⟨u73, h⟩ := h
  obtain ⟨u74, h⟩ := h
  obtain ⟨u75, h⟩ := h
  obtain ⟨u76, h⟩ := h
  obtain ⟨u77, h⟩ := h
  obtain ⟨u78, h⟩ := h
  obtain ⟨u79, h⟩ := h
  obtain ⟨u80, h⟩ := h
  obtain ⟨u81, h⟩ := h
  obtain ⟨u82, h⟩ := h
  obtain ⟨u83, h⟩ := h
  obtain ⟨u84, h⟩ := h
  obtain ⟨u85, h⟩ := h
  obtain ⟨u86, h⟩ := h
  obtain ⟨u87, h⟩ := h
  obtain ⟨u88, h⟩ := h
  obtain ⟨u89, h⟩ := h
  obtain ⟨u90, h⟩ := h
  obtain ⟨u91, h⟩ := h
  obtain ⟨u92, h⟩ := h
  obtain ⟨u93, h⟩ := h
  obtain ⟨u94, h⟩ := h
  obtain ⟨u95, h⟩ := h
  obtain ⟨u96, h⟩ := h
  obtain ⟨u97, h⟩ := h
  obtain ⟨u98, h⟩ := h
  obtain ⟨u99, h⟩ := h
  obtain ⟨u100, h⟩ := h
  obtain ⟨u101, h⟩ := h
  obtain ⟨u102, h⟩ := h
  obtain ⟨u103, h⟩ := h
  obtain ⟨u104, h⟩ := h
  obtain ⟨u105, h⟩ := h
  obtain ⟨u106, h⟩ := h
  obtain ⟨u107, h⟩ := h
  obtain ⟨u108, h⟩ := h
  obtain ⟨u109, h⟩ := h
  obtain ⟨u110, h⟩ := h
  obtain ⟨u111, h⟩ := h
  obtain ⟨u112, h⟩ := h
  obtain ⟨u113, h⟩ := h
  obtain ⟨u114, h⟩ := h
  obtain ⟨u115, h⟩ := h
  obtain ⟨u116, h⟩ := h
  obtain ⟨u117, h⟩ := h
  obtain ⟨u118, h⟩ := h
  obtain ⟨u119, h⟩ := h
  obtain ⟨u120, h⟩ := h
  obtain ⟨u121, h⟩ := h
  obtain ⟨u122, h⟩ := h
  obtain ⟨u123, h⟩ := h
  obtain ⟨u124, h⟩ := h
  obtain ⟨u125, h⟩ := h
  obtain ⟨u126, h⟩ := h
  obtain ⟨u127, h⟩ := h
  obtain ⟨u128, h⟩ := h
  obtain ⟨u129, h⟩ := h
  obtain ⟨u130, h⟩ := h
  obtain ⟨u131, h⟩ := h
  obtain ⟨u132, h⟩ := h
  obtain ⟨u133, h⟩ := h
  obtain ⟨u134, h⟩ := h
  obtain ⟨u135, h⟩ := h
  obtain ⟨u136, h⟩ := h
  obtain ⟨u137, h⟩ := h
  obtain ⟨u138, h⟩ := h
  obtain ⟨u139, h⟩ := h
  obtain ⟨u140, h⟩ := h
  obtain ⟨u141, h⟩ := h
  obtain ⟨u142, h⟩ := h
  obtain ⟨u143, h⟩ := h
  obtain ⟨u144, h⟩ := h
  obtain ⟨u145, h⟩ := h
  obtain ⟨u146, h⟩ := h
  obtain ⟨u147, h⟩ := h
  obtain ⟨u148, h⟩ := h
  obtain ⟨u149, h⟩ := h
  obtain ⟨u150, h⟩ := h
  obtain ⟨u151, h⟩ := h
  obtain ⟨u152, h⟩ := h
  obtain ⟨u153, h⟩ := h
  obtain ⟨u154, h⟩ := h
  obtain ⟨u155, h⟩ := h
  obtain ⟨u156, h⟩ := h
  obtain ⟨u157, h⟩ := h
  obtain ⟨u158, h⟩ := h
  obtain ⟨u159, h⟩ := h
  obtain ⟨u160, h⟩ := h
  obtain ⟨u161, h⟩ := h
  obtain ⟨u162, h⟩ := h
  obtain ⟨u163, h⟩ := h
  obtain ⟨u164, h⟩ := h
  obtain ⟨u165, h⟩ := h
  obtain ⟨u166, h⟩ := h
  obtain ⟨u167, h⟩ := h
  obtain ⟨u168, h⟩ := h
  obtain ⟨u169, h⟩ := h
  obtain ⟨u170, h⟩ := h
  obtain ⟨u171, h⟩ := h
  obtain ⟨u172, h⟩ := h
  obtain ⟨u173, h⟩ := h
  obtain ⟨u174, h⟩ := h
  obtain ⟨u175, h⟩ := h
  obtain ⟨u176, h⟩ := h
  obtain ⟨u177, h⟩ := h
  obtain ⟨u178, h⟩ := h
  obtain ⟨u179, h⟩ := h
  obtain ⟨u180, h⟩ := h
  obtain ⟨u181, h⟩ := h
  obtain ⟨u182, h⟩ := h
  obtain ⟨u183, h⟩ := h
  obtain ⟨u184, h⟩ := h
  obtain ⟨u185, h⟩ := h
  obtain ⟨u186, h⟩ := h
  obtain ⟨u187, h⟩ := h
  obtain ⟨u188, h⟩ := h
  obtain ⟨u189, h⟩ := h
  obtain ⟨u190, h⟩ := h
  obtain ⟨u191, h⟩ := h
  obtain ⟨u192, h⟩ := h
  obtain ⟨u193, h⟩ := h
  obtain ⟨u194, h⟩ := h
  obtain ⟨u195, h⟩ := h
  obtain ⟨u196, h⟩ := h
  obtain ⟨u197, h⟩ := h
  obtain ⟨u198, h⟩ := h
  obtain ⟨u199, h⟩ := h
  obtain ⟨u200, h⟩ := h
  obtain ⟨u201, h⟩ := h
  obtain ⟨u202, h⟩ := h
  obtain ⟨u203, h⟩ := h
  obtain ⟨u204, h⟩ := h
  obtain ⟨u205, h⟩ := h
  obtain ⟨u206, h⟩ := h
  obtain ⟨u207, h⟩ := h
  obtain ⟨u208, h⟩ := h
  obtain ⟨u209, h⟩ := h
  obtain ⟨u210, h⟩ := h
  obtain ⟨u211, h⟩ := h
  obtain ⟨u212, h⟩ := h
  obtain ⟨u213, h⟩ := h
  obtain ⟨u214, h⟩ := h
  obtain ⟨u215, h⟩ := h
  obtain ⟨u216, h⟩ := h
  obtain ⟨u217, h⟩ := h
  obtain ⟨u218, h⟩ := h
  obtain ⟨u219, h⟩ := h
  obtain ⟨u220, h⟩ := h
  obtain ⟨u221, h⟩ := h
  obtain ⟨u222, h⟩ := h
  obtain ⟨u223, h⟩ := h
  obtain ⟨u224, h⟩ := h
  obtain ⟨u225, h⟩ := h
  obtain ⟨u226, h⟩ := h
  obtain ⟨u227, h⟩ := h
  obtain ⟨u228, h⟩ := h
  obtain ⟨u229, h⟩ := h
  obtain ⟨u230, h⟩ := h
  obtain ⟨u231, h⟩ := h
  obtain ⟨u232, h⟩ := h
  obtain ⟨u233, h⟩ := h
  obtain ⟨u234, h⟩ := h
  obtain ⟨u235, h⟩ := h
  obtain ⟨u236, h⟩ := h
  obtain ⟨u237, h⟩ := h
  obtain ⟨u238, h⟩ := h
  obtain ⟨u239, h⟩ := h
  obtain ⟨u240, h⟩ := h
  obtain ⟨u241, h⟩ := h
  obtain ⟨u242, h⟩ := h
  obtain ⟨u243, h⟩ := h
  obtain ⟨u244, h⟩ := h
  obtain ⟨u245, h⟩ := h
  obtain ⟨u246, h⟩ := h
  obtain ⟨u247, h⟩ := h
  obtain ⟨u248, h⟩ := h
  obtain ⟨u249, h⟩ := h
  obtain ⟨u250, h⟩ := h
  obtain ⟨u251, h⟩ := h
  obtain ⟨u252, h⟩ := h
  obtain ⟨u253, h⟩ := h
  obtain ⟨u254, h⟩ := h
  obtain ⟨u255, h⟩ := h
  obtain ⟨u256, h⟩ := h
  obtain ⟨u257, h⟩ := h
  obtain ⟨u258, h⟩ := h
  obtain ⟨u259, h⟩ := h
  obtain ⟨u260, h⟩ := h
  obtain ⟨u261, h⟩ := h
  obtain ⟨u262, h⟩ := h
  obtain ⟨u263, h⟩ := h
  obtain ⟨u264, h⟩ := h
  obtain ⟨u265, h⟩ := h
  obtain ⟨u266, h⟩ := h
  obtain ⟨u267, h⟩ := h
  obtain ⟨u268, h⟩ := h
  obtain ⟨u269, h⟩ := h
  obtain ⟨u270, h⟩ := h
  obtain ⟨u271, h⟩ := h
  obtain ⟨u272, h⟩ := h
  obtain ⟨u273, h⟩ := h
  obtain ⟨u274, h⟩ := h
  obtain ⟨u275, h⟩ := h
  obtain ⟨u276, h⟩ := h
  obtain ⟨u277, h⟩ := h
  obtain ⟨u278, h⟩ := h
  obtain ⟨u279, h⟩ := h
  obtain ⟨u280, h⟩ := h
  obtain ⟨u281, h⟩ := h
  obtain ⟨u282, h⟩ := h
  obtain ⟨u283, h⟩ := h
  obtain ⟨u284, h⟩ := h
  obtain ⟨u285, h⟩ := h
  obtain ⟨u286, h⟩ := h
  obtain ⟨u287, h⟩ := h
  obtain ⟨u288, h⟩ := h
  obtain ⟨u289, h⟩ := h
  obtain ⟨u290, h⟩ := h
  obtain ⟨u291, h⟩ := h
  obtain ⟨u292, h⟩ := h
  obtain ⟨u293, h⟩ := h
  obtain ⟨u294, h⟩ := h
  obtain ⟨u295, h⟩ := h
  obtain ⟨u296, h⟩ := h
  obtain ⟨u297, h⟩ := h
  obtain ⟨u298, h⟩ := h
  obtain ⟨u299, h⟩ := h
  obtain ⟨u300, h⟩ := h
  obtain ⟨u301, h⟩ := h
  obtain ⟨u302, h⟩ := h
  obtain ⟨u303, h⟩ := h
  obtain ⟨u304, h⟩ := h
  obtain ⟨u305, h⟩ := h
  exact k' u2 u3 u4 u6 u9 u11 u14 u15 u16 u17 u20 u21 u22 u23 u24 u25 u26 u27 u28 u29 u30 u31 u32 u33 u34 u35 u36 u37 u38 u39 u40 u41 u42 u43 u44 u45 u46 u47 u48 u49 u50 u51 u52 u53 u54 u55 u56 u57 u58 u59 u60 u61 u62 u63 u64 u65 u66 u67 u68 u69 u70 u71 u72 u73 u74 u75 u76 u77 u78 u79 u80 u81 u82 u83 u84 u85 u86 u87 u88 u89 u90 u91 u92 u93 u94 u95 u96 u97 u98 u99 u100 u101 u102 u103 u104 u105 u106 u107 u108 u109 u110 u111 u112 u113 u114 u115 u116 u117 u118 u119 u120 u121 u122 u123 u124 u125 u126 u127 u128 u129 u130 u131 u132 u133 u134 u135 u136 u137 u138 u139 u140 u141 u142 u143 u144 u145 u146 u147 u148 u149 u150 u151 u152 u153 u154 u155 u156 u157 u158 u159 u160 u161 u162 u163 u164 u165 u166 u167 u168 u169 u170 u171 u172 u173 u174 u175 u176 u177 u178 u179 u180 u181 u182 u183 u184 u185 u186 u187 u188 u189 u190 u191 u192 u193 u194 u195 u196 u197 u198 u199 u200 u201 u202 u203 u204 u205 u206 u207 u208 u209 u210 u211 u212 u213 u214 u215 u216 u217 u218 u219 u220 u221 u222 u223 u224 u225 u226 u227 u228 u229 u230 u231 u232 u233 u234 u235 u236 u237 u238 u239 u240 u241 u242 u243 u244 u245 u246 u247 u248 u249 u250 u251 u252 u253 u254 u255 u256 u257 u258 u259 u260 u261 u262 u263 u264 u265 u266 u267 u268 u269 u270 u271 u272 u273 u274 u275 u276 u277 u278 u279 u280 u281 u282 u283 u284 u285 u286 u287 u288 u289 u290 u291 u292 u293 u294 u295 u296 u297 u298 u299 u300 u301 u302 u303 u304 u305 h
/-- rows and columns of a node anew -/
def zK {α : Type} (z : α) (T : Nat → Nat → α) (j k : Nat) : Nat → Nat → α := fun a b => if (a = j ∧ b < k) ∨ (b = j ∧ a < k) then z else T a b
theorem zK_zero {α : Type} (z : α) (T : Nat → Nat → α) (j : Nat) : zK z T j 0 = T := by
  funext a b
  unfold zK
  rw [if_neg (by omega)]
theorem zK_step {α : Type} (z : α) (T : Nat → Nat → α) (j k : Nat) : upd2 (upd2 (zK z T j k) j k z) k j z = zK z T j (k + 1) := by
  funext a b
  by_cases h1 : a = k ∧ b = j
  · rw [h1.1, h1.2, upd2_same]; unfold zK; rw [if_pos (by omega)]
  · rw [upd2_other _ _ h1]
    by_cases h2 : a = j ∧ b = k
    · rw [h2.1, h2.2, upd2_same]; unfold zK; rw [if_pos (by omega)]
    · rw [upd2_other _ _ h2]
      unfold zK
      by_cases h3 : (a = j ∧ b < k) ∨ (b = j ∧ a < k)
      · rw [if_pos h3, if_pos (by omega)]
      · rw [if_neg h3, if_neg (by omega)]
def oK (O : Nat → Nat → Nat) (cnt : Nat → Nat) (j k : Nat) : Nat → Nat → Nat := fun a b => if b = j ∧ a < k then 0 else if a = j ∧ b < k then cnt b else O a b
theorem oK_zero (O : Nat → Nat → Nat) (cnt : Nat → Nat) (j : Nat) : oK O cnt j 0 = O := by
  funext a b
  unfold oK
  rw [if_neg (by omega), if_neg (by omega)]
theorem oK_step (O : Nat → Nat → Nat) (cnt : Nat → Nat) (j k : Nat) : upd2 (upd2 (oK O cnt j k) j k (cnt k)) k j 0 = oK O cnt j (k + 1) := by
  funext a b
  by_cases h1 : a = k ∧ b = j
  · rw [h1.1, h1.2, upd2_same]; unfold oK; rw [if_pos (by omega)]
  · rw [upd2_other _ _ h1]
    by_cases h2 : a = j ∧ b = k
    · rw [h2.1, h2.2, upd2_same]; unfold oK; rw [if_neg (by omega), if_pos (by omega)]
    · rw [upd2_other _ _ h2]
      unfold oK
      by_cases h3 : b = j ∧ a < k
      · rw [if_pos h3, if_pos (by omega)]
      · rw [if_neg h3, if_neg (show ¬ (b = j ∧ a < k + 1) by omega)]
        by_cases h4 : a = j ∧ b < k
        · rw [if_pos h4, if_pos (by omega)]
        · rw [if_neg h4, if_neg (by omega)]
theorem zK_all {α : Type} {z : α} {T : Nat → Nat → α} {j N a b : Nat} (ha : a < N) (hb : b < N) : zK z T j N a b = if a = j ∨ b = j then z else T a b := by
  unfold zK
  by_cases h : a = j ∨ b = j
  · rw [if_pos h, if_pos (by omega)]
  · rw [if_neg h, if_neg (by omega)]
theorem oK_all {O : Nat → Nat → Nat} {cnt : Nat → Nat} {j N a b : Nat} (ha : a < N) (hb : b < N) : oK O cnt j N a b = upO O cnt j a b := by
  unfold oK upO
  by_cases h : b = j
  · rw [if_pos ⟨h, ha⟩, if_pos h]
  · rw [if_neg (fun e => h e.1), if_neg h]
    by_cases h2 : a = j
    · rw [if_pos ⟨h2, hb⟩, if_pos h2]
    · rw [if_neg (fun e => h2 e.1), if_neg h2]
/-- the state while the tables are turned: net and tables, the act's box, the counts -/
def nJ (w0 : World) (N n d pr gs gg go : Nat) (own : Nat → Nat) (S : St) (c : Nat) (L : Ly) (hs hg ho : Nat → Nat) (b : Nat) (bx : Obj) (wg : Nat) (hw' : Nat → Nat) (cw : Nat → Nat → Nat) (T : Nat → Nat → List ByteArray) (G O : Nat → Nat → Nat) (w : World) : Prop := own b = 0 ∧ (∃ rv, LwH w0 N n d pr gs gg go own S T G O c L hs rv hg ho w) ∧ w.heap[b]? = some bx ∧ MtI (fun x => own x = 0) w wg N N hw' (fun x y => (cw x y : Int))
theorem LwH.kept {w0 wr w1 : World} {N n d pr gs gg go c : Nat} {own : Nat → Nat} {S : St} {L : Ly} {T : Nat → Nat → List ByteArray} {G O : Nat → Nat → Nat} {hs hg ho : Nat → Nat} {rv : Nat → Nat → Value} (H : LwH w0 N n d pr gs gg go own S T G O c L hs rv hg ho wr) (g : wr.grownBy w1 none) : LwH w0 N n d pr gs gg go own S T G O c L hs rv hg ho w1 :=
  ⟨grown_none_trans H.gr g, fun b hb => ⟨(H.lo b hb).1, Nat.lt_of_lt_of_le (H.lo b hb).2 g.size⟩, H.net.kept g, ⟨(g.block _ (lt_of_heap H.pr.1) (by simp)).trans H.pr.1, H.pr.2⟩, H.ts.kept g, H.tg.kept g, H.tO.kept g⟩
variable {w0 wr : World} {N n d pr gs gg go c b wg : Nat} {own : Nat → Nat} {S : St} {L : Ly} {hs hg ho : Nat → Nat} {bx : Obj} {hw' : Nat → Nat} {cw : Nat → Nat → Nat} {T : Nat → Nat → List ByteArray} {G O : Nat → Nat → Nat}
theorem nJ.kept {w1 : World} (h : nJ w0 N n d pr gs gg go own S c L hs hg ho b bx wg hw' cw T G O wr) (g : wr.grownBy w1 none) : nJ w0 N n d pr gs gg go own S c L hs hg ho b bx wg hw' cw T G O w1 := by
  obtain ⟨h0, ⟨rv, h1⟩, h2, h3⟩ := h
  exact ⟨h0, ⟨rv, h1.kept g⟩, box_keep h2 g (by simp), h3.kept g⟩
theorem nJ.setO (h : nJ w0 N n d pr gs gg go own S c L hs hg ho b bx wg hw' cw T G O wr) {x y : Nat} (hx : x < N) (v : Nat) : nJ w0 N n d pr gs gg go own S c L hs hg ho b bx wg hw' cw T G (upd2 O x y v) (wr.setCell ⟨ho x, y, none⟩ (.int .i64 (v : Int))) := by
  obtain ⟨h0, ⟨rv, h1⟩, h2, h3⟩ := h
  have C := Chg.of_cell wr ⟨ho x, y, none⟩ (.int .i64 (v : Int))
  have q := (h1.tO.row x hx).1
  exact ⟨h0, ⟨rv, h1.setO hx v⟩, C.at_ h2 (fun e => by have e : b = ho x := e; rw [e, q] at h0; cases h0), h3.away C (fun z hz e => by have e : z = ho x := e; rw [e, q] at hz; cases hz)⟩
theorem nJ.setG (h : nJ w0 N n d pr gs gg go own S c L hs hg ho b bx wg hw' cw T G O wr) {x y : Nat} (hx : x < N) (v : Nat) : nJ w0 N n d pr gs gg go own S c L hs hg ho b bx wg hw' cw T (upd2 G x y v) O (wr.setCell ⟨hg x, y, none⟩ (.int .i64 (v : Int))) := by
  obtain ⟨h0, ⟨rv, h1⟩, h2, h3⟩ := h
  have C := Chg.of_cell wr ⟨hg x, y, none⟩ (.int .i64 (v : Int))
  have q := (h1.tg.row x hx).1
  exact ⟨h0, ⟨rv, h1.setG hx v⟩, C.at_ h2 (fun e => by have e : b = hg x := e; rw [e, q] at h0; cases h0), h3.away C (fun z hz e => by have e : z = hg x := e; rw [e, q] at hz; cases hz)⟩
theorem nJ.setT (h : nJ w0 N n d pr gs gg go own S c L hs hg ho b bx wg hw' cw T G O wr) {x y : Nat} (hx : x < N) (hy : y < N) : nJ w0 N n d pr gs gg go own S c L hs hg ho b bx wg hw' cw (upd2 T x y []) G O (wr.setCell ⟨hs x, y, none⟩ (.slice none 0 0)) := by
  obtain ⟨h0, ⟨rv, h1⟩, h2, h3⟩ := h
  have C := Chg.of_cell wr ⟨hs x, y, none⟩ (.slice none 0 0)
  have q := (h1.ts.row x hx).1
  exact ⟨h0, ⟨_, h1.setT hx hy⟩, C.at_ h2 (fun e => by have e : b = hs x := e; rw [e, q] at h0; cases h0), h3.away C (fun z hz e => by have e : z = hs x := e; rw [e, q] at hz; cases hz)⟩
/-- all that is read in a round -/
theorem nJ.reads {k0 a t I : Int} {p : Option Addr} {l : List UInt8} {q : Nat} {hw : Bool} (h : nJ w0 N n d pr gs gg go own S c L hs hg ho b (.cells #[.int .i64 k0, .int .i64 a, .int .i64 t, .int .i64 I, .slice p l.length q, .bool hw] 29 (0, 0)) wg hw' cw T G O wr) {x y : Nat} (hx : x < N) (hy : y < N) :
    wr.cell? ⟨b, 1, none⟩ = some (.int .i64 a) ∧ wr.cell? ⟨go, x, none⟩ = some (.slice (some ⟨ho x, 0, none⟩) N N) ∧ wr.cell? ⟨gg, x, none⟩ = some (.slice (some ⟨hg x, 0, none⟩) N N) ∧ wr.cell? ⟨gs, x, none⟩ = some (.slice (some ⟨hs x, 0, none⟩) N N) ∧ wr.cell? ⟨wg, x, none⟩ = some (.slice (some ⟨hw' x, 0, none⟩) N N) ∧ wr.cell? ⟨hw' x, y, none⟩ = some (.int .i64 (cw x y : Int)) ∧
      (∃ u, wr.cell? ⟨ho x, y, none⟩ = some u) ∧ wr.frozen? ⟨ho x, y, none⟩ = false ∧ (∃ u, wr.cell? ⟨hg x, y, none⟩ = some u) ∧ wr.frozen? ⟨hg x, y, none⟩ = false ∧ (∃ u, wr.cell? ⟨hs x, y, none⟩ = some u) ∧ wr.frozen? ⟨hs x, y, none⟩ = false := by
  obtain ⟨h0, ⟨rv, h1⟩, h2, h3⟩ := h
  obtain ⟨o1, o2, o3, _⟩ := h1.tO.cell hx hy
  obtain ⟨g1, g2, g3, _⟩ := h1.tg.cell hx hy
  obtain ⟨s1, s2, s3, _⟩ := h1.ts.cell hx hy
  obtain ⟨c1, c2, c3, _⟩ := h3.cell hx hy
  exact ⟨(cells6 h2).2.1, o1, g1, s1, c1, c2, ⟨_, o2⟩, o3, ⟨_, g2⟩, g3, ⟨_, s2⟩, s3⟩
end Go.Proofs.Ytpghkbbhcpcbdaa
