/-
  The law's great loop: put together.
-/
import Derived.Test.YtpghkbbhcpcbdaaNGD
import Derived.Test.YtpghkbbhcpcbdaaNvHx
import Derived.Test.YtpghkbbhcpcbdaaNvKx
import Derived.Test.YtpghkbbhcpcbdaaNvMx
import Derived.Test.YtpghkbbhcpcbdaaNvNx
import Derived.Test.YtpghkbbhcpcbdaaNvPx
import Derived.Test.YtpghkbbhcpcbdaaNGE
namespace Go.Proofs.Ytpghkbbhcpcbdaa
open Go.RowKit Go.Maps Go.Joins

set_option maxHeartbeats 4000000 in
set_option maxRecDepth 1000000 in
theorem nS_goes {w0 wx : World} {N A Ca n d pr gs gg go i b c : Nat} {Pa : Option Addr} {own : Nat → Nat} {S : St} {L : Ly} {T : Nat → Nat → List ByteArray} {G O : Nat → Nat → Nat} {hs hg ho : Nat → Nat} {rv : Nat → Nat → Value} {Q5 : Exit → Act → World → Prop} {x : Ac} {a : Act} (hF : nFb N A Ca pr gs gg go i Pa b a) (h : LwF w0 N n d pr gs gg go i own S T G O c L hs rv hg ho wx) (hi : i + 1 ≤ 3000000) (hb : bxA wx b x) (hob : own b = 0) (hby : byA w0 x.p x.b) (hnl : x.p = none → x.b.length = 0 ∧ x.q = 0) (hll : x.b.length ≤ 10000000) (hx5 : ∀ a' w', nM w0 N n d A Ca pr gs gg go i Pa a' w' → Q5 (.exit 5) a' w') : Code.wp Try.prog (nS Try.f4) (Exit.then (nM w0 N n d A Ca pr gs gg go i Pa) Q5) a wx := by
  obtain ⟨k, aa, t, I0, p, l, q, hw0⟩ := x
  obtain ⟨I, hw, hb⟩ := hb
  refine hF.open ?_
  intro u2 u3 u4 u6 u9 u11 u14 u15 u16 u17 u18 u19 u20 u21 u22 u23 u24 u25 u26 u27 u28 u29 u30 u31 u32 u33 u34 u35 u36 u37 u38 u39 u40 u41 u42 u43 u44 u45 u46 u47 u48 u49 u50 u51 u52 u53 u54 u55 u56 u57 u58 u59 u60 u61 u62 u63 u64 u65 u66 u67 u68 u69 u70 u71 u72 u73 u74 u75 u76 u77 u78 u79 u80 u81 u82 u83 u84 u85 u86 u87 u88 u89 u90 u91 u92 u93 u94 u95 u96 u97 u98 u99 u100 u101 u102 u103 u104 u105 u106 u107 u108 u109 u110 u111 u112 u113 u114 u115 u116 u117 u118 u119 u120 u121 u122 u123 u124 u125 u126 u127 u128 u129 u130 u131 u132 u133 u134 u135 u136 u137 u138 u139 u140 u141 u142 u143 u144 u145 u146 u147 u148 u149 u150 u151 u152 u153 u154 u155 u156 u157 u158 u159 u160 u161 u162 u163 u164 u165 u166 u167 u168 u169 u170 u171 u172 u173 u174 u175 u176 u177 u178 u179 u180 u181 u182 u183 u184 u185 u186 u187 u188 u189 u190 u191 u192 u193 u194 u195 u196 u197 u198 u199 u200 u201 u202 u203 u204 u205 u206 u207 u208 u209 u210 u211 u212 u213 u214 u215 u216 u217 u218 u219 u220 u221 u222 u223 u224 u225 u226 u227 u228 u229 u230 u231 u232 u233 u234 u235 u236 u237 u238 u239 u240 u241 u242 u243 u244 u245 u246 u247 u248 u249 u250 u251 u252 u253 u254 u255 u256 u257 u258 u259 u260 u261 u262 u263 u264 u265 u266 u267 u268 u269 u270 u271 u272 u273 u274 u275 u276 u277 u278 u279 u280 u281 u282 u283 u284 u285 u286 u287 u288 u289 u290 u291 u292 u293 u294 u295 u296 u297 u298 u299 u300 u301 u302 u303 u304 u305 e
  subst e
  have hN := h.hN
  have hob1 : own b ≠ 1 := by rw [hob]; decide
  by_cases k0 : k = 0
  · subst k0
    by_cases hE : sendE S aa t l.length = 0
    · obtain ⟨f, t1, rfl, rfl, hf, ht, hu, hT⟩ := send_ok h.ok hE
      exact nS_0y h hi hb hby hnl hll hob1 (by omega) (by omega) hu hE hT
    · exact nS_0n h hi hb hby hnl hll hob1 hE
  · by_cases k1 : k = 1
    · subst k1
      cases hS : isS S aa with
      | false => exact nS_1a h hi hb hx5 hob1 hS
      | true =>
        obtain ⟨j, rfl, hj, hd⟩ := isS_in hS
        cases hm : S.ms j with
        | nil => exact nS_1b h hi hb hx5 hob1 hS hm
        | cons m rest =>
          by_cases hO : 0 < O m.1 j
          · exact nS_1o h hi hb hx5 hob1 hS hm hO
          · exact nS_1g h hi hb hob1 hS hm (by omega)
    · by_cases k7 : k = 7
      · subst k7
        by_cases hE : upK S aa = 0
        · have hr : (0 ≤ aa ∧ aa < S.N) ∧ S.dn aa.toNat = true := by
            unfold upK at hE
            by_cases h1 : 0 ≤ aa ∧ aa < S.N
            · rw [if_pos h1] at hE
              by_cases h2 : S.dn aa.toNat = true
              · exact ⟨h1, h2⟩
              · rw [if_neg h2] at hE; cases hE
            · rw [if_neg h1] at hE; cases hE
          obtain ⟨⟨h1, h2⟩, h3⟩ := hr
          obtain ⟨j, rfl⟩ : ∃ j : Nat, aa = (j : Int) := ⟨aa.toNat, by omega⟩
          rw [Int.toNat_natCast] at h3
          exact nS_7y h hi hb hob (by omega) (by have := h.net.n64; omega) h3
        · exact nS_7n h hi hb hx5 hob hE
      · by_cases k9 : k = 9
        · subst k9
          exact nS_9 h hi hb
        · exact nS_e h hi hb k0 k1 k7 k9
set_option maxHeartbeats 4000000 in
set_option maxRecDepth 1000000 in
theorem nX_goes {w w0 wr : World} {N A Ca n d pr gs gg go i c : Nat} {Pa : Option Addr} {own : Nat → Nat} {S : St} {L : Ly} {T : Nat → Nat → List ByteArray} {G O : Nat → Nat → Nat} {hs hg ho : Nat → Nat} {rv : Nat → Nat → Value} {Q0 : Exit → Act → World → Prop} {a : Act} {l : List Ac} (hF : nFr N A Ca pr gs gg go i Pa a) (h : LwF w0 N n d pr gs gg go i own S T G O c L hs rv hg ho wr) (hi : i + 1 ≤ 3000000) (hA : A = l.length) (hiA : i < A) (hac : nacs w Pa l) (g0 : w.grownBy w0 none) : Code.wp Try.prog (.block 5 (nX Try.f4)) (Exit.then (nM w0 N n d A Ca pr gs gg go i Pa) Q0) a wr := by
  obtain ⟨x, hx⟩ : ∃ x, l[i]? = some x := ⟨_, List.getElem?_eq_getElem (show i < l.length by omega)⟩
  obtain ⟨_, _, _, _, _, _, _, _, _, hby, hnl, hll⟩ := hac.at hx g0
  obtain ⟨g, o, rfl, q0, q1, q2, q3, q4, q5, _⟩ := hac.at hx (grown_none_trans g0 h.gr)
  have hob : own wr.heap.size = 0 := Classical.byContradiction (fun e => by have := (h.lo _ e).2; omega)
  refine wp_blk ?_
  rw [nX_eq]
  refine wp_seq' (M := nP1 wr N A Ca pr gs gg go i (some ⟨g, o, none⟩) wr.heap.size x) ?_ ?_
  · refine hF.open ?_
    intro u2 u3 u4 u6 u9 u11 u13 u14 u15 u16 u17 u18 u19 u20 u21 u22 u23 u24 u25 u26 u27 u28 u29 u30 u31 u32 u33 u34 u35 u36 u37 u38 u39 u40 u41 u42 u43 u44 u45 u46 u47 u48 u49 u50 u51 u52 u53 u54 u55 u56 u57 u58 u59 u60 u61 u62 u63 u64 u65 u66 u67 u68 u69 u70 u71 u72 u73 u74 u75 u76 u77 u78 u79 u80 u81 u82 u83 u84 u85 u86 u87 u88 u89 u90 u91 u92 u93 u94 u95 u96 u97 u98 u99 u100 u101 u102 u103 u104 u105 u106 u107 u108 u109 u110 u111 u112 u113 u114 u115 u116 u117 u118 u119 u120 u121 u122 u123 u124 u125 u126 u127 u128 u129 u130 u131 u132 u133 u134 u135 u136 u137 u138 u139 u140 u141 u142 u143 u144 u145 u146 u147 u148 u149 u150 u151 u152 u153 u154 u155 u156 u157 u158 u159 u160 u161 u162 u163 u164 u165 u166 u167 u168 u169 u170 u171 u172 u173 u174 u175 u176 u177 u178 u179 u180 u181 u182 u183 u184 u185 u186 u187 u188 u189 u190 u191 u192 u193 u194 u195 u196 u197 u198 u199 u200 u201 u202 u203 u204 u205 u206 u207 u208 u209 u210 u211 u212 u213 u214 u215 u216 u217 u218 u219 u220 u221 u222 u223 u224 u225 u226 u227 u228 u229 u230 u231 u232 u233 u234 u235 u236 u237 u238 u239 u240 u241 u242 u243 u244 u245 u246 u247 u248 u249 u250 u251 u252 u253 u254 u255 u256 u257 u258 u259 u260 u261 u262 u263 u264 u265 u266 u267 u268 u269 u270 u271 u272 u273 u274 u275 u276 u277 u278 u279 u280 u281 u282 u283 u284 u285 u286 u287 u288 u289 u290 u291 u292 u293 u294 u295 u296 u297 u298 u299 u300 u301 u302 u303 u304 u305 e
    subst e
    exact nX1_goes hiA q0 q1 q2 q3 q4 q5
  · rintro a w1 ⟨hFb, hbx, gr⟩
    refine wp_seq' (M := nP2 wr N A Ca pr gs gg go i (some ⟨g, o, none⟩) wr.heap.size x) ?_ ?_
    · refine hFb.open ?_
      intro u2 u3 u4 u6 u9 u11 u14 u15 u16 u17 u18 u19 u20 u21 u22 u23 u24 u25 u26 u27 u28 u29 u30 u31 u32 u33 u34 u35 u36 u37 u38 u39 u40 u41 u42 u43 u44 u45 u46 u47 u48 u49 u50 u51 u52 u53 u54 u55 u56 u57 u58 u59 u60 u61 u62 u63 u64 u65 u66 u67 u68 u69 u70 u71 u72 u73 u74 u75 u76 u77 u78 u79 u80 u81 u82 u83 u84 u85 u86 u87 u88 u89 u90 u91 u92 u93 u94 u95 u96 u97 u98 u99 u100 u101 u102 u103 u104 u105 u106 u107 u108 u109 u110 u111 u112 u113 u114 u115 u116 u117 u118 u119 u120 u121 u122 u123 u124 u125 u126 u127 u128 u129 u130 u131 u132 u133 u134 u135 u136 u137 u138 u139 u140 u141 u142 u143 u144 u145 u146 u147 u148 u149 u150 u151 u152 u153 u154 u155 u156 u157 u158 u159 u160 u161 u162 u163 u164 u165 u166 u167 u168 u169 u170 u171 u172 u173 u174 u175 u176 u177 u178 u179 u180 u181 u182 u183 u184 u185 u186 u187 u188 u189 u190 u191 u192 u193 u194 u195 u196 u197 u198 u199 u200 u201 u202 u203 u204 u205 u206 u207 u208 u209 u210 u211 u212 u213 u214 u215 u216 u217 u218 u219 u220 u221 u222 u223 u224 u225 u226 u227 u228 u229 u230 u231 u232 u233 u234 u235 u236 u237 u238 u239 u240 u241 u242 u243 u244 u245 u246 u247 u248 u249 u250 u251 u252 u253 u254 u255 u256 u257 u258 u259 u260 u261 u262 u263 u264 u265 u266 u267 u268 u269 u270 u271 u272 u273 u274 u275 u276 u277 u278 u279 u280 u281 u282 u283 u284 u285 u286 u287 u288 u289 u290 u291 u292 u293 u294 u295 u296 u297 u298 u299 u300 u301 u302 u303 u304 u305 e
      subst e
      exact nH_goes h.net h.fb h.pr.1 gr (Nat.le_refl _) hbx
    · rintro a w2 ⟨hFb, hbx, gr⟩
      exact nS_goes hFb (h.kept gr) hi hbx hob hby hnl hll (fun a w hM => by
        simp only [Exit.inBlock]
        exact hM)
def muB (A : Nat) (a : Act) (_ : World) : Nat := A - (intOf (a.tmps.getD 12 undef)).toNat
/-- the loop's state behind i acts -/
def nI (w0 : World) (N n d A Ca pr gs gg go i : Nat) (Pa : Option Addr) (a : Act) (w : World) : Prop := nFr N A Ca pr gs gg go i Pa a ∧ LwY w0 N n d pr gs gg go i w
set_option maxHeartbeats 4000000 in
set_option maxRecDepth 1000000 in
theorem nB_loop {w w0 : World} {N A Ca n d pr gs gg go : Nat} {Pa : Option Addr} {Q0 : Exit → Act → World → Prop} {a : Act} {wr : World} {l : List Ac} (hA : A = l.length) (hl : A ≤ 1900000) (hac : nacs w Pa l) (g0 : w.grownBy w0 none) (h : nI w0 N n d A Ca pr gs gg go 0 Pa a wr) (hx : ∀ a w', nI w0 N n d A Ca pr gs gg go A Pa a w' → Q0 (.exit 4) a w') : Code.wp Try.prog (Code.loop (nB Try.f4)) Q0 a wr := by
  refine wp_loop (fun a w => ∃ i, i ≤ A ∧ nI w0 N n d A Ca pr gs gg go i Pa a w) (muB A) ⟨0, Nat.zero_le _, h⟩ ?_
  rintro a w1 ⟨i, hi, hF, hY⟩
  rw [nB_eq]
  by_cases hlt : i < A
  · have hm : muB A a w1 = A - i := by
      refine hF.open ?_
      intro u2 u3 u4 u6 u9 u11 u13 u14 u15 u16 u17 u18 u19 u20 u21 u22 u23 u24 u25 u26 u27 u28 u29 u30 u31 u32 u33 u34 u35 u36 u37 u38 u39 u40 u41 u42 u43 u44 u45 u46 u47 u48 u49 u50 u51 u52 u53 u54 u55 u56 u57 u58 u59 u60 u61 u62 u63 u64 u65 u66 u67 u68 u69 u70 u71 u72 u73 u74 u75 u76 u77 u78 u79 u80 u81 u82 u83 u84 u85 u86 u87 u88 u89 u90 u91 u92 u93 u94 u95 u96 u97 u98 u99 u100 u101 u102 u103 u104 u105 u106 u107 u108 u109 u110 u111 u112 u113 u114 u115 u116 u117 u118 u119 u120 u121 u122 u123 u124 u125 u126 u127 u128 u129 u130 u131 u132 u133 u134 u135 u136 u137 u138 u139 u140 u141 u142 u143 u144 u145 u146 u147 u148 u149 u150 u151 u152 u153 u154 u155 u156 u157 u158 u159 u160 u161 u162 u163 u164 u165 u166 u167 u168 u169 u170 u171 u172 u173 u174 u175 u176 u177 u178 u179 u180 u181 u182 u183 u184 u185 u186 u187 u188 u189 u190 u191 u192 u193 u194 u195 u196 u197 u198 u199 u200 u201 u202 u203 u204 u205 u206 u207 u208 u209 u210 u211 u212 u213 u214 u215 u216 u217 u218 u219 u220 u221 u222 u223 u224 u225 u226 u227 u228 u229 u230 u231 u232 u233 u234 u235 u236 u237 u238 u239 u240 u241 u242 u243 u244 u245 u246 u247 u248 u249 u250 u251 u252 u253 u254 u255 u256 u257 u258 u259 u260 u261 u262 u263 u264 u265 u266 u267 u268 u269 u270 u271 u272 u273 u274 u275 u276 u277 u278 u279 u280 u281 u282 u283 u284 u285 u286 u287 u288 u289 u290 u291 u292 u293 u294 u295 u296 u297 u298 u299 u300 u301 u302 u303 u304 u305 e
      subst e
      simp [muB, intOf]
    refine wp_seq' (M := nPw w1 N A Ca pr gs gg go i Pa) ?_ ?_
    · refine hF.open ?_
      intro u2 u3 u4 u6 u9 u11 u13 u14 u15 u16 u17 u18 u19 u20 u21 u22 u23 u24 u25 u26 u27 u28 u29 u30 u31 u32 u33 u34 u35 u36 u37 u38 u39 u40 u41 u42 u43 u44 u45 u46 u47 u48 u49 u50 u51 u52 u53 u54 u55 u56 u57 u58 u59 u60 u61 u62 u63 u64 u65 u66 u67 u68 u69 u70 u71 u72 u73 u74 u75 u76 u77 u78 u79 u80 u81 u82 u83 u84 u85 u86 u87 u88 u89 u90 u91 u92 u93 u94 u95 u96 u97 u98 u99 u100 u101 u102 u103 u104 u105 u106 u107 u108 u109 u110 u111 u112 u113 u114 u115 u116 u117 u118 u119 u120 u121 u122 u123 u124 u125 u126 u127 u128 u129 u130 u131 u132 u133 u134 u135 u136 u137 u138 u139 u140 u141 u142 u143 u144 u145 u146 u147 u148 u149 u150 u151 u152 u153 u154 u155 u156 u157 u158 u159 u160 u161 u162 u163 u164 u165 u166 u167 u168 u169 u170 u171 u172 u173 u174 u175 u176 u177 u178 u179 u180 u181 u182 u183 u184 u185 u186 u187 u188 u189 u190 u191 u192 u193 u194 u195 u196 u197 u198 u199 u200 u201 u202 u203 u204 u205 u206 u207 u208 u209 u210 u211 u212 u213 u214 u215 u216 u217 u218 u219 u220 u221 u222 u223 u224 u225 u226 u227 u228 u229 u230 u231 u232 u233 u234 u235 u236 u237 u238 u239 u240 u241 u242 u243 u244 u245 u246 u247 u248 u249 u250 u251 u252 u253 u254 u255 u256 u257 u258 u259 u260 u261 u262 u263 u264 u265 u266 u267 u268 u269 u270 u271 u272 u273 u274 u275 u276 u277 u278 u279 u280 u281 u282 u283 u284 u285 u286 u287 u288 u289 u290 u291 u292 u293 u294 u295 u296 u297 u298 u299 u300 u301 u302 u303 u304 u305 e
      subst e
      exact nB1_in hlt
    · rintro a2 w2 ⟨hF2, hw2⟩
      subst hw2
      refine wp_seq' (M := nM w0 N n d A Ca pr gs gg go i Pa) ?_ ?_
      · obtain ⟨own, S, T, G, O, c, L, hs, rv, hg, ho, H⟩ := hY
        exact nX_goes hF2 H (by omega) hA hlt hac g0
      · rintro a3 w3 ⟨hF3, hY3⟩
        refine hF3.open ?_
        intro u2 u3 u4 u6 u9 u11 u13 u14 u15 u16 u17 u18 u19 u20 u21 u22 u23 u24 u25 u26 u27 u28 u29 u30 u31 u32 u33 u34 u35 u36 u37 u38 u39 u40 u41 u42 u43 u44 u45 u46 u47 u48 u49 u50 u51 u52 u53 u54 u55 u56 u57 u58 u59 u60 u61 u62 u63 u64 u65 u66 u67 u68 u69 u70 u71 u72 u73 u74 u75 u76 u77 u78 u79 u80 u81 u82 u83 u84 u85 u86 u87 u88 u89 u90 u91 u92 u93 u94 u95 u96 u97 u98 u99 u100 u101 u102 u103 u104 u105 u106 u107 u108 u109 u110 u111 u112 u113 u114 u115 u116 u117 u118 u119 u120 u121 u122 u123 u124 u125 u126 u127 u128 u129 u130 u131 u132 u133 u134 u135 u136 u137 u138 u139 u140 u141 u142 u143 u144 u145 u146 u147 u148 u149 u150 u151 u152 u153 u154 u155 u156 u157 u158 u159 u160 u161 u162 u163 u164 u165 u166 u167 u168 u169 u170 u171 u172 u173 u174 u175 u176 u177 u178 u179 u180 u181 u182 u183 u184 u185 u186 u187 u188 u189 u190 u191 u192 u193 u194 u195 u196 u197 u198 u199 u200 u201 u202 u203 u204 u205 u206 u207 u208 u209 u210 u211 u212 u213 u214 u215 u216 u217 u218 u219 u220 u221 u222 u223 u224 u225 u226 u227 u228 u229 u230 u231 u232 u233 u234 u235 u236 u237 u238 u239 u240 u241 u242 u243 u244 u245 u246 u247 u248 u249 u250 u251 u252 u253 u254 u255 u256 u257 u258 u259 u260 u261 u262 u263 u264 u265 u266 u267 u268 u269 u270 u271 u272 u273 u274 u275 u276 u277 u278 u279 u280 u281 u282 u283 u284 u285 u286 u287 u288 u289 u290 u291 u292 u293 u294 u295 u296 u297 u298 u299 u300 u301 u302 u303 u304 u305 e
        subst e
        refine wp_mono (nB3_goes (Q0 := Q0) (by omega)) (fun e a' w' h' => ?_)
        cases e with
        | normal =>
          have h'' : nPw w3 N A Ca pr gs gg go (i + 1) Pa a' w' := h'
          obtain ⟨hF4, hw4⟩ := h''
          subst hw4
          refine ⟨⟨i + 1, hlt, hF4, hY3⟩, ?_⟩
          rw [hm]
          refine hF4.open ?_
          intro u2 u3 u4 u6 u9 u11 u13 u14 u15 u16 u17 u18 u19 u20 u21 u22 u23 u24 u25 u26 u27 u28 u29 u30 u31 u32 u33 u34 u35 u36 u37 u38 u39 u40 u41 u42 u43 u44 u45 u46 u47 u48 u49 u50 u51 u52 u53 u54 u55 u56 u57 u58 u59 u60 u61 u62 u63 u64 u65 u66 u67 u68 u69 u70 u71 u72 u73 u74 u75 u76 u77 u78 u79 u80 u81 u82 u83 u84 u85 u86 u87 u88 u89 u90 u91 u92 u93 u94 u95 u96 u97 u98 u99 u100 u101 u102 u103 u104 u105 u106 u107 u108 u109 u110 u111 u112 u113 u114 u115 u116 u117 u118 u119 u120 u121 u122 u123 u124 u125 u126 u127 u128 u129 u130 u131 u132 u133 u134 u135 u136 u137 u138 u139 u140 u141 u142 u143 u144 u145 u146 u147 u148 u149 u150 u151 u152 u153 u154 u155 u156 u157 u158 u159 u160 u161 u162 u163 u164 u165 u166 u167 u168 u169 u170 u171 u172 u173 u174 u175 u176 u177 u178 u179 u180 u181 u182 u183 u184 u185 u186 u187 u188 u189 u190 u191 u192 u193 u194 u195 u196 u197 u198 u199 u200 u201 u202 u203 u204 u205 u206 u207 u208 u209 u210 u211 u212 u213 u214 u215 u216 u217 u218 u219 u220 u221 u222 u223 u224 u225 u226 u227 u228 u229 u230 u231 u232 u233 u234 u235 u236 u237 u238 u239 u240 u241 u242 u243 u244 u245 u246 u247 u248 u249 u250 u251 u252 u253 u254 u255 u256 u257 u258 u259 u260 u261 u262 u263 u264 u265 u266 u267 u268 u269 u270 u271 u272 u273 u274 u275 u276 u277 u278 u279 u280 u281 u282 u283 u284 u285 u286 u287 u288 u289 u290 u291 u292 u293 u294 u295 u296 u297 u298 u299 u300 u301 u302 u303 u304 u305 e
          subst e
          simp [muB, intOf]
          omega
        | _ => exact h'
  · obtain rfl : i = A := by omega
    refine wp_seq' (M := fun _ _ => False) ?_ (fun _ _ h => h.elim)
    refine hF.open ?_
    intro u2 u3 u4 u6 u9 u11 u13 u14 u15 u16 u17 u18 u19 u20 u21 u22 u23 u24 u25 u26 u27 u28 u29 u30 u31 u32 u33 u34 u35 u36 u37 u38 u39 u40 u41 u42 u43 u44 u45 u46 u47 u48 u49 u50 u51 u52 u53 u54 u55 u56 u57 u58 u59 u60 u61 u62 u63 u64 u65 u66 u67 u68 u69 u70 u71 u72 u73 u74 u75 u76 u77 u78 u79 u80 u81 u82 u83 u84 u85 u86 u87 u88 u89 u90 u91 u92 u93 u94 u95 u96 u97 u98 u99 u100 u101 u102 u103 u104 u105 u106 u107 u108 u109 u110 u111 u112 u113 u114 u115 u116 u117 u118 u119 u120 u121 u122 u123 u124 u125 u126 u127 u128 u129 u130 u131 u132 u133 u134 u135 u136 u137 u138 u139 u140 u141 u142 u143 u144 u145 u146 u147 u148 u149 u150 u151 u152 u153 u154 u155 u156 u157 u158 u159 u160 u161 u162 u163 u164 u165 u166 u167 u168 u169 u170 u171 u172 u173 u174 u175 u176 u177 u178 u179 u180 u181 u182 u183 u184 u185 u186 u187 u188 u189 u190 u191 u192 u193 u194 u195 u196 u197 u198 u199 u200 u201 u202 u203 u204 u205 u206 u207 u208 u209 u210 u211 u212 u213 u214 u215 u216 u217 u218 u219 u220 u221 u222 u223 u224 u225 u226 u227 u228 u229 u230 u231 u232 u233 u234 u235 u236 u237 u238 u239 u240 u241 u242 u243 u244 u245 u246 u247 u248 u249 u250 u251 u252 u253 u254 u255 u256 u257 u258 u259 u260 u261 u262 u263 u264 u265 u266 u267 u268 u269 u270 u271 u272 u273 u274 u275 u276 u277 u278 u279 u280 u281 u282 u283 u284 u285 u286 u287 u288 u289 u290 u291 u292 u293 u294 u295 u296 u297 u298 u299 u300 u301 u302 u303 u304 u305 e
    subst e
    refine nB1_out hlt (fun a w' h' => ?_)
    obtain ⟨hF4, hw4⟩ := h'
    subst hw4
    exact hx a w' ⟨hF4, hY⟩

end Go.Proofs.Ytpghkbbhcpcbdaa
namespace Go.Proofs.Ytpghkbbhcpcbdaa
open Go.RowKit Go.Maps Go.Joins

set_option maxHeartbeats 4000000 in
set_option maxRecDepth 100000 in
theorem NetOnce_ok (N : Nat) (l : List Ac) (Pa : Option Addr) (Ca : Nat) (w : World) (h1 : 1 ≤ N) (h64 : N ≤ 64) (hl : l.length ≤ 1900000) (ha : nacs w Pa l) : Calls Try.prog 4 #[.int .i64 N, .slice Pa l.length Ca] w fun e w' => e = .returned (.bool true) ∧ w.grownBy w' none := by
  have LV := mkHid (lives_any w)
  have BG := mkHid (fun w => begins_ok (w := w) N h1 h64)
  obtain ⟨A, hA⟩ : ∃ A, A = l.length := ⟨_, rfl⟩
  have HA := mkHid hA
  have HAC := mkHid ha
  rw [← hA] at hl ⊢
  clear hA ha
  go_enter Try.func4, Try.ntmps4
  go_wp2_with fail
  refine LV.out.mono ?_
  rintro e w1 ⟨rfl, g1⟩
  have G1 := mkHid g1
  clear LV g1
  go_wp2_with fail
  refine (BG.out w1).mono ?_
  rintro e w2 ⟨pr, n, d, L, rfl, hp, hlo, hN, g2⟩
  obtain ⟨wa, c1, hr1, b1, s1, _, ga⟩ := rwT.make w2.drew N (by omega)
  obtain ⟨wb, c2, hr2, b2, s2, _, gb⟩ := rwII.make wa N (by omega)
  obtain ⟨wc, c3, hr3, b3, s3, _, gc⟩ := rwII.make w2.drew N (by omega)
  obtain ⟨we, c4, hr4, b4, s4, _, ge⟩ := rwT.make wc N (by omega)
  have O1 := mkHid (LwX.start hp hlo hN g2 (grown_none_trans (grown_none_trans (grown_drew (grown_refl w2)) ga) gb) (gs := w2.heap.size) (gg := wa.heap.size) ((gb.block _ (lt_of_heap b1) (by simp)).trans b1) s1 (Nat.le_refl _) b2 s2 ga.size)
  have O2 := mkHid (LwX.start hp hlo hN g2 (grown_none_trans (grown_none_trans (grown_drew (grown_refl w2)) gc) ge) (gs := wc.heap.size) (gg := w2.heap.size) b4 s4 gc.size ((ge.block _ (lt_of_heap b3) (by simp)).trans b3) s3 (Nat.le_refl _))
  clear BG hp hlo hN g2 ga gb gc ge b1 b2 b3 b4 s1 s2 s3 s4
  go_upto_region 6 with fail
  go_cut [7, 8] from 31 to 34 (fun s7 s8 wx => ∃ gs gg : Nat, s7 = .slice (some ⟨gs, 0, none⟩) N N ∧ s8 = .slice (some ⟨gg, 0, none⟩) N N ∧ Hid (LwX w1 N n d pr gs gg 0 wx))
  case first =>
    go_region_law (first | (refine step_make 39 rfl (.tmp 31) (.tmp 31) rfl rfl rfl hr1 ?_) | (refine step_make 40 rfl (.tmp 33) (.tmp 33) rfl rfl rfl hr2 ?_) | (refine step_make 40 rfl (.tmp 33) (.tmp 33) rfl rfl rfl hr3 ?_) | (refine step_make 39 rfl (.tmp 31) (.tmp 31) rfl rfl rfl hr4 ?_))
    all_goals (go_wp2_with fail; go_meet; case rel => first | exact ⟨_, _, rfl, rfl, O1⟩ | exact ⟨_, _, rfl, rfl, O2⟩)
  case rest =>
    obtain ⟨gs, gg, rfl, rfl, X0⟩ := hcut
    clear O1 O2 hr1 hr2 hr3 hr4
    go_wp2_with fail
    go_loopw [9] (fun s9 wr => ∃ (k : Nat), s9 = .int .i64 (k : Int) ∧ k ≤ N ∧ Hid (LwX w1 N n d pr gs gg k wr)) (fun s9 _ => N - (intOf s9).toNat)
    case atStart => exact ⟨0, rfl, Nat.zero_le _, X0⟩
    case round =>
      obtain ⟨k, rfl, hk, XK⟩ := hrel
      by_cases hlt : k < N
      · have hlti : (k : Int) < (N : Int) := by omega
        obtain ⟨wa, c1, hr1, b1, s1, y1, ga⟩ := rwSS.make wr.drew N (by omega)
        obtain ⟨wb, c2, hr2, b2, s2, y2, gb⟩ := rwI.make wa N (by omega)
        obtain ⟨wc, c3, hr3, b3, s3, y3, gc⟩ := rwI.make wr.drew N (by omega)
        obtain ⟨we, c4, hr4, b4, s4, y4, ge⟩ := rwSS.make wc N (by omega)
        obtain ⟨wf, c5, hr5, b5, s5, y5, gf⟩ := rwI.make (wa.setCell ⟨gs, k, none⟩ (.slice (some ⟨wr.heap.size, 0, none⟩) N N)) N (by omega)
        have nab : wr.heap.size ≠ wa.heap.size := by have := lt_of_heap b1; exact fun e => by rw [← e] at this; exact Nat.lt_irrefl _ this
        have nbc : wc.heap.size ≠ wr.heap.size := by have := lt_of_heap b3; exact fun e => by rw [e] at this; exact Nat.lt_irrefl _ this
        have lgs : gs < wr.heap.size := by
          obtain ⟨own, L', hs', hg', H'⟩ := XK.out
          have q2 : own gs = 2 := H'.ts.qg
          exact (H'.lo gs (by omega)).2
        have b1' := (gb.block _ (lt_of_heap b1) (by simp)).trans b1
        have b3' := (ge.block _ (lt_of_heap b3) (by simp)).trans b3
        have X1 := XK.out.next hlt (grown_none_trans (grown_none_trans (grown_drew (grown_refl wr)) ga) gb) (a := wr.heap.size) (b := wa.heap.size) (Nat.le_refl _) ga.size nab b1' s1 y1 (grown_refl _) ((Chg.of_cell wb ⟨gs, k, none⟩ (.slice (some ⟨wr.heap.size, 0, none⟩) N N)).at_ b2 (show ¬ wa.heap.size = gs from fun e => by have := ga.size; rw [e] at this; exact absurd lgs (Nat.not_lt.2 this))) s2 y2
        have X2 := XK.out.next hlt (grown_none_trans (grown_none_trans (grown_drew (grown_refl wr)) gc) ge) (a := wc.heap.size) (b := wr.heap.size) gc.size (Nat.le_refl _) nbc b4 s4 y4 (grown_refl _) ((Chg.of_cell we ⟨gs, k, none⟩ (.slice (some ⟨wc.heap.size, 0, none⟩) N N)).at_ b3' (show ¬ wr.heap.size = gs by omega)) s3 y3
        rw [World.size_setCell] at hr5 b5
        have X3 := XK.out.next hlt (grown_none_trans (grown_drew (grown_refl wr)) ga) (a := wr.heap.size) (b := wa.heap.size) (Nat.le_refl _) ga.size nab b1 s1 y1 gf b5 s5 y5
        obtain ⟨⟨u1, x1⟩, x2, ⟨u3, x3⟩, x4, x5, _⟩ := X1
        obtain ⟨⟨v1, z1⟩, z2, ⟨v3, z3⟩, z4, z5, _⟩ := X2
        obtain ⟨⟨t1, y1⟩, y2, ⟨t3, y3⟩, y4, y5, _⟩ := X3
        have HX := mkHid x5
        have HZ := mkHid z5
        have HY := mkHid y5
        clear x5 z5 y5 ga gb gc ge gf b1 b2 b3 b4 b5 s1 s2 s3 s4 s5 XK nab nbc lgs b1' b3'
        go_upto_region 10 with fail
        go_region_law (first | (refine step_make 41 rfl (.tmp 44) (.tmp 44) rfl rfl rfl hr1 ?_) | (refine step_make 42 rfl (.tmp 46) (.tmp 46) rfl rfl rfl hr2 ?_) | (refine step_make 42 rfl (.tmp 46) (.tmp 46) rfl rfl rfl hr3 ?_) | (refine step_make 42 rfl (.tmp 46) (.tmp 46) rfl rfl rfl hr5 ?_) | (refine step_make 41 rfl (.tmp 44) (.tmp 44) rfl rfl rfl hr4 ?_))
        all_goals (
          go_wp2_with fail
          go_roundw
          case rel => first | exact ⟨k + 1, by go_num, hlt, HX⟩ | exact ⟨k + 1, by go_num, hlt, HY⟩ | exact ⟨k + 1, by go_num, hlt, HZ⟩
          case measure => simp [intOf]; omega)
      · obtain rfl : k = N := by omega
        obtain ⟨wa, c1, hr1, b1, s1, _, ga⟩ := rwII.make wr k (by omega)
        have B0 := mkHid (LwB.start XK.out ga (Nat.le_refl _) b1 s1)
        obtain ⟨go, hgo⟩ : ∃ go, go = wr.heap.size := ⟨_, rfl⟩
        rw [← hgo] at B0 hr1
        clear b1 s1 ga hgo XK
        go_wp2_with (first | (at_make; refine wp_make 40 rfl (.tmp 50) (.tmp 50) rfl rfl rfl hr1 ?_) | fail)
        clear hr1
        go_loopw [11] (fun s11 wr => ∃ (j : Nat), s11 = .int .i64 (j : Int) ∧ j ≤ k ∧ Hid (LwB w1 k n d pr gs gg go j wr)) (fun s11 _ => k - (intOf s11).toNat)
        case atStart => exact ⟨0, rfl, Nat.zero_le _, B0⟩
        case round =>
          obtain ⟨j, rfl, hj, XJ⟩ := hrel
          by_cases hlj : j < k
          · have hlji : (j : Int) < (k : Int) := by omega
            obtain ⟨wa, c1, hr1, b1, s1, y1, ga⟩ := rwI.make wr k (by omega)
            obtain ⟨⟨u, x1⟩, x2, NX⟩ := XJ.out.next hlj ga (Nat.le_refl _) b1 s1 y1
            have HNX := mkHid NX
            clear b1 s1 y1 ga NX XJ
            go_wp2_with (first | (at_make; refine wp_make 42 rfl (.tmp 59) (.tmp 59) rfl rfl rfl hr1 ?_) | fail)
            go_roundw
            case rel => exact ⟨j + 1, by go_num, hlj, HNX⟩
            case measure => simp [intOf]; omega
          · obtain rfl : j = k := by omega
            have Y0 := mkHid XJ.out.done
            clear XJ
            go_wp2_with fail
            refine nB_loop HA.out hl HAC.out G1.out ⟨nFr_mk (i := 0), Y0.out⟩ ?_
            rintro a w' ⟨hF, hY⟩
            have GR : Hid (w.grownBy w' none) := by
              obtain ⟨own, S, T, G, O, c, L, hs, rv, hg, ho, H⟩ := hY
              exact grown_none_trans G1.out H.gr
            refine hF.open ?_
            intro u2 u3 u4 u6 u9 u11 u13 u14 u15 u16 u17 u18 u19 u20 u21 u22 u23 u24 u25 u26 u27 u28 u29 u30 u31 u32 u33 u34 u35 u36 u37 u38 u39 u40 u41 u42 u43 u44 u45 u46 u47 u48 u49 u50 u51 u52 u53 u54 u55 u56 u57 u58 u59 u60 u61 u62 u63 u64 u65 u66 u67 u68 u69 u70 u71 u72 u73 u74 u75 u76 u77 u78 u79 u80 u81 u82 u83 u84 u85 u86 u87 u88 u89 u90 u91 u92 u93 u94 u95 u96 u97 u98 u99 u100 u101 u102 u103 u104 u105 u106 u107 u108 u109 u110 u111 u112 u113 u114 u115 u116 u117 u118 u119 u120 u121 u122 u123 u124 u125 u126 u127 u128 u129 u130 u131 u132 u133 u134 u135 u136 u137 u138 u139 u140 u141 u142 u143 u144 u145 u146 u147 u148 u149 u150 u151 u152 u153 u154 u155 u156 u157 u158 u159 u160 u161 u162 u163 u164 u165 u166 u167 u168 u169 u170 u171 u172 u173 u174 u175 u176 u177 u178 u179 u180 u181 u182 u183 u184 u185 u186 u187 u188 u189 u190 u191 u192 u193 u194 u195 u196 u197 u198 u199 u200 u201 u202 u203 u204 u205 u206 u207 u208 u209 u210 u211 u212 u213 u214 u215 u216 u217 u218 u219 u220 u221 u222 u223 u224 u225 u226 u227 u228 u229 u230 u231 u232 u233 u234 u235 u236 u237 u238 u239 u240 u241 u242 u243 u244 u245 u246 u247 u248 u249 u250 u251 u252 u253 u254 u255 u256 u257 u258 u259 u260 u261 u262 u263 u264 u265 u266 u267 u268 u269 u270 u271 u272 u273 u274 u275 u276 u277 u278 u279 u280 u281 u282 u283 u284 u285 u286 u287 u288 u289 u290 u291 u292 u293 u294 u295 u296 u297 u298 u299 u300 u301 u302 u303 u304 u305 ee
            subst ee
            clear hF hY
            go_wp2_with fail
            go_ret
            exact ⟨rfl, GR.out⟩
end Go.Proofs.Ytpghkbbhcpcbdaa
