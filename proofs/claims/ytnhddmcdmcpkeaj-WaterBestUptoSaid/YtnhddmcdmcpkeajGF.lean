/- The document's search: the best of all ways. -/
import Derived.Test.YtnhddmcdmcpkeajGE
namespace Go.Proofs.Ytnhddmcdmcpkeaj
open Go.RowKit Go.Shelf

theorem flat_set1 : ∀ {cs : List (List Value)}, (∀ c ∈ cs, c.length = 4) → ∀ (k : Nat) (v : Value) (c : List Value), cs[k]? = some c → cs.flatten.set (k * 4 + 2) v = (cs.set k (c.set 2 v)).flatten
  | [], _, k, _, _, h => by simp at h
  | x :: r, hl, 0, v, c, h => by
    have h4 := hl x (List.mem_cons_self ..)
    simp at h
    subst h
    match x, h4 with
    | [x0, x1, x2, x3], _ => simp
  | x :: r, hl, k + 1, v, c, h => by
    have h4 := hl x (List.mem_cons_self ..)
    have ih := flat_set1 (fun c hc => hl c (List.mem_cons_of_mem _ hc)) k v c (by simpa using h)
    rw [List.flatten_cons, List.set_append_right _ _ (by rw [h4]; omega), h4, show (k + 1) * 4 + 2 - 4 = k * 4 + 2 by omega, ih, List.set_cons_succ, List.flatten_cons]
/-- The k-th is worth something else. -/
theorem WetsAt.setE {W : World} {B L n cg G k : Nat} {xs : List Wet} {x : Wet} (h : WetsAt W B (.slice (some ⟨G, 0, none⟩) n cg) L xs) (hn : xs.length = n) (hk : xs[k]? = some x) (c : Int) : WetsAt (W.setCell ⟨G, k * 4 + 2, none⟩ (.int .i64 c)) B (.slice (some ⟨G, 0, none⟩) n cg) L (xs.set k ⟨x.s, c, x.t⟩) := by
  obtain ⟨cs, h1, h2, h3, h4⟩ := h
  rw [hn] at h3
  obtain ⟨cur, hcur⟩ : ∃ cur, W.heap[G]? = some (.cells cur 93 (0, 0)) := by
    rcases h3.2 with ⟨q1, _⟩ | ⟨g, cap, cur, q1, _, q2, _⟩
    · cases q1
    · cases q1; exact ⟨cur, q2⟩
  have hK := keep_set hcur (k * 4 + 2) (.int .i64 c)
  have hlt : k < xs.length := (List.getElem?_eq_some_iff.1 hk).1
  have hc := List.getElem?_eq_getElem (l := cs) (i := k) (by rw [h1]; exact hlt)
  obtain ⟨al, cl, ac, cc, ar, cr, e, g1, g2, g3⟩ := h4 k x _ hk hc
  refine ⟨cs.set k (cs[k].set 2 (.int .i64 c)), by rw [List.length_set, List.length_set]; exact h1, fun d hd => ?_, ?_, fun j y d hy hd => ?_⟩
  · rcases List.mem_or_eq_of_mem_set hd with hd | hd
    · exact h2 d hd
    · rw [hd, List.length_set, e]; rfl
  · have h5 := own_row_set h3 (k * 4 + 2) (.int .i64 c)
    rw [flat_set1 h2 k _ _ hc] at h5
    rw [List.length_set, hn]
    exact h5
  · rw [List.getElem?_set] at hy hd
    by_cases ej : k = j
    · subst ej
      rw [if_pos rfl] at hy hd
      rw [if_pos hlt] at hy
      rw [if_pos (by rw [h1]; exact hlt)] at hd
      cases hy
      cases hd
      refine ⟨al, cl, ac, cc, ar, cr, by rw [e]; rfl, own_keep g1 hK (by decide), own_keep g2 hK (by decide), g3.keep hK (by decide) (by decide)⟩
    · rw [if_neg ej] at hy hd
      exact (h4 j y d hy hd).keep hK (by decide) (by decide)
/-- A way to stand with what the first i lakes keep. -/
def finI (en : List Int) (i : Nat) (x : Wet) : Wet := ⟨x.s, x.e + keptK en x.s.l0 x.s.l1 i, x.t⟩
theorem finI_zero (en : List Int) (x : Wet) : finI en 0 x = x := by unfold finI keptK; simp
theorem finI_step {en : List Int} {i L : Nat} {x : Wet} (hi : i < L) (hL : L ≤ 2) : (finI en (i + 1) x).e = (finI en i x).e + en.getD i 0 * (listOf x.s.l0 x.s.l1 L).getD i 0 := by
  have h : (i = 0 ∧ L = 1) ∨ (i = 0 ∧ L = 2) ∨ (i = 1 ∧ L = 2) := by omega
  rcases h with ⟨rfl, rfl⟩ | ⟨rfl, rfl⟩ | ⟨rfl, rfl⟩ <;> simp [finI, keptK, listOf, Int.mul_comm, Int.add_assoc]
def bodyBF (f : Func) : Code := ((f.body.map loopsIn).getD [])[3]?.getD .skip
def bodyEF (f : Func) : Code := (loopsIn (bodyBF f))[0]?.getD .skip
section
variable {ls : List LakeM} {L H : Nat} {ti : List (List Int)} {pr en : List Int} {al ae : Option Addr} {cl ce : Nat}
set_option maxRecDepth 1000000 in
set_option maxHeartbeats 8000000 in
theorem endE (_hL2 : L ≤ 2) {n cn G k : Nat} (u1 u2 u4 u5 u6 u7 u8 u9 u10 u11 u12 u13 u15 u16 u17 u18 u19 u20 u21 u22 u23 u24 u25 u26 u27 u28 u31 u32 u33 u34 u35 u36 u37 u38 u39 u40 u41 u42 u43 u44 u45 u46 u47 u48 u49 u50 u51 u52 u53 u54 u55 u56 u57 u58 u59 u60 u61 u62 u63 u64 u65 u66 u67 u68 u69 u70 u71 u72 u73 u74 u75 u76 u77 u78 u79 u80 u81 u82 u83 u84 u85 u86 u87 u88 u89 u90 u91 u92 u93 u94 u95 u96 u97 u98 u99 u100 u101 u102 u103 u104 u105 u106 u107 u108 u109 u110 u111 u112 u113 u114 u115 u116 u117 u118 u119 u120 u121 u122 u123 u124 u125 u126 u127 u128 u129 u130 u131 u132 u133 u134 u135 u136 u137 u138 u139 u140 u141 u142 u143 u144 u145 u146 u147 u148 u149 u150 u151 u152 u153 u154 u155 u156 u157 u158 u159 u160 u161 u162 u163 u164 u165 u166 u167 u168 u169 u170 u171 u172 u173 u174 u175 u176 u177 u178 u179 u180 u181 u182 u183 u184 u185 u186 u187 u188 u189 u190 u191 u192 u193 u194 u195 u196 u197 u198 u199 u200 u201 u202 u203 u204 u205 u206 u207 u208 u209 u210 u211 u212 u213 u214 u215 u216 u217 u218 u219 u220 u221 u222 u223 u224 u225 u226 u227 u228 u229 u230 u231 u232 u233 u234 u235 u236 u237 u238 u239 u240 u241 u242 u243 u244 u245 u246 u247 u248 u249 u250 u251 u252 u253 u254 u255 u256 u257 u258 u259 u260 u261 u262 u263 u264 u265 u266 u267 u268 u269 u270 u271 u272 u273 u274 u275 u276 u277 u278 u279 u280 u281 u282 u283 u284 u285 u286 u287 u288 u289 u290 u291 u292 u293 u294 u295 u296 u297 u298 u299 u300 u301 u302 u303 u304 u305 u306 u307 u308 u309 u310 u311 u312 u313 u314 u315 u316 : Value) (w : World)
    (K : Act → World → Prop) (Q : Exit → Act → World → Prop) (hX : ∀ (g238 g239 g240 g241 g242 g243 g244 g245 g246 g247 g248 g249 g250 g251 g252 g253 g254 g255 g256 g257 g258 g259 g260 g261 g262 g263 g264 : Value), Q (.exit 14) ⟨#[.slice al L cl, u1, u2, .slice ae L ce, u4, u5, u6, u7, u8, u9, u10, u11, u12, u13, .slice (some ⟨G, 0, none⟩) n cn, u15, u16, u17, u18, u19, u20, u21, u22, u23, u24, u25, u26, u27, u28, .int .i64 (k : Int), .int .i64 ((L : Nat) : Int), u31, u32, u33, u34, u35, u36, u37, u38, u39, u40, u41, u42, u43, u44, u45, u46, u47, u48, u49, u50, u51, u52, u53, u54, u55, u56, u57, u58, u59, u60, u61, u62, u63, u64, u65, u66, u67, u68, u69, u70, u71, u72, u73, u74, u75, u76, u77, u78, u79, u80, u81, u82, u83, u84, u85, u86, u87, u88, u89, u90, u91, u92, u93, u94, u95, u96, u97, u98, u99, u100, u101, u102, u103, u104, u105, u106, u107, u108, u109, u110, u111, u112, u113, u114, u115, u116, u117, u118, u119, u120, u121, u122, u123, u124, u125, u126, u127, u128, u129, u130, u131, u132, u133, u134, u135, u136, u137, u138, u139, u140, u141, u142, u143, u144, u145, u146, u147, u148, u149, u150, u151, u152, u153, u154, u155, u156, u157, u158, u159, u160, u161, u162, u163, u164, u165, u166, u167, u168, u169, u170, u171, u172, u173, u174, u175, u176, u177, u178, u179, u180, u181, u182, u183, u184, u185, u186, u187, u188, u189, u190, u191, u192, u193, u194, u195, u196, u197, u198, u199, u200, u201, u202, u203, u204, u205, u206, u207, u208, u209, u210, u211, u212, u213, u214, u215, u216, u217, u218, u219, u220, u221, u222, u223, u224, u225, u226, u227, u228, u229, u230, u231, u232, u233, u234, u235, u236, u237, g238, g239, g240, g241, g242, g243, g244, g245, g246, g247, g248, g249, g250, g251, g252, g253, g254, g255, g256, g257, g258, g259, g260, g261, g262, g263, g264, u265, u266, u267, u268, u269, u270, u271, u272, u273, u274, u275, u276, u277, u278, u279, u280, u281, u282, u283, u284, u285, u286, u287, u288, u289, u290, u291, u292, u293, u294, u295, u296, u297, u298, u299, u300, u301, u302, u303, u304, u305, u306, u307, u308, u309, u310, u311, u312, u313, u314, u315, u316], []⟩ w) :
    Code.wp Try.prog (bodyEF Try.f29) (Exit.then K Q) ⟨#[.slice al L cl, u1, u2, .slice ae L ce, u4, u5, u6, u7, u8, u9, u10, u11, u12, u13, .slice (some ⟨G, 0, none⟩) n cn, u15, u16, u17, u18, u19, u20, u21, u22, u23, u24, u25, u26, u27, u28, .int .i64 (k : Int), .int .i64 ((L : Nat) : Int), u31, u32, u33, u34, u35, u36, u37, u38, u39, u40, u41, u42, u43, u44, u45, u46, u47, u48, u49, u50, u51, u52, u53, u54, u55, u56, u57, u58, u59, u60, u61, u62, u63, u64, u65, u66, u67, u68, u69, u70, u71, u72, u73, u74, u75, u76, u77, u78, u79, u80, u81, u82, u83, u84, u85, u86, u87, u88, u89, u90, u91, u92, u93, u94, u95, u96, u97, u98, u99, u100, u101, u102, u103, u104, u105, u106, u107, u108, u109, u110, u111, u112, u113, u114, u115, u116, u117, u118, u119, u120, u121, u122, u123, u124, u125, u126, u127, u128, u129, u130, u131, u132, u133, u134, u135, u136, u137, u138, u139, u140, u141, u142, u143, u144, u145, u146, u147, u148, u149, u150, u151, u152, u153, u154, u155, u156, u157, u158, u159, u160, u161, u162, u163, u164, u165, u166, u167, u168, u169, u170, u171, u172, u173, u174, u175, u176, u177, u178, u179, u180, u181, u182, u183, u184, u185, u186, u187, u188, u189, u190, u191, u192, u193, u194, u195, u196, u197, u198, u199, u200, u201, u202, u203, u204, u205, u206, u207, u208, u209, u210, u211, u212, u213, u214, u215, u216, u217, u218, u219, u220, u221, u222, u223, u224, u225, u226, u227, u228, u229, u230, u231, u232, u233, u234, u235, u236, u237, u238, u239, u240, u241, u242, u243, u244, u245, u246, u247, u248, u249, u250, u251, u252, u253, u254, u255, u256, u257, u258, u259, u260, u261, u262, u263, u264, u265, u266, u267, u268, u269, u270, u271, u272, u273, u274, u275, u276, u277, u278, u279, u280, u281, u282, u283, u284, u285, u286, u287, u288, u289, u290, u291, u292, u293, u294, u295, u296, u297, u298, u299, u300, u301, u302, u303, u304, u305, u306, u307, u308, u309, u310, u311, u312, u313, u314, u315, u316], []⟩ w := by
  conv => arg 2; whnf
  have HX := hide' hX
  clear hX
  go_wp2_with fail
  exact HX.out _ _ _ _ _ _ _ _ _ _ _ _ _ _ _ _ _ _ _ _ _ _ _ _ _ _ _
set_option maxRecDepth 1000000 in
set_option maxHeartbeats 8000000 in
theorem roundE (hL2 : L ≤ 2) (W : World) (h4 : RowAt W (.slice ae L ce) L 1 (ints en)) (hel : en.length = L) (heb : ∀ x ∈ en, 0 ≤ x ∧ x ≤ 1000) {B n cn G k : Nat} {xs : List Wet} {x : Wet} (hB : B = W.heap.size) (hn : xs.length = n) (_hnb : n ≤ 152587890625) (hk : xs[k]? = some x) (hg : 0 ≤ x.s.l0 ∧ x.s.l0 ≤ 20 ∧ 0 ≤ x.s.l1 ∧ x.s.l1 ≤ 20) (hxe : 0 ≤ x.e ∧ x.e ≤ 64000000) {i : Nat} (hi : i < L) (u1 u2 u4 u5 u6 u7 u8 u9 u10 u11 u12 u13 u15 u16 u17 u18 u19 u20 u21 u22 u23 u24 u25 u26 u27 u28 u31 u32 u33 u34 u35 u36 u37 u38 u39 u40 u41 u42 u43 u44 u45 u46 u47 u48 u49 u50 u51 u52 u53 u54 u55 u56 u57 u58 u59 u60 u61 u62 u63 u64 u65 u66 u67 u68 u69 u70 u71 u72 u73 u74 u75 u76 u77 u78 u79 u80 u81 u82 u83 u84 u85 u86 u87 u88 u89 u90 u91 u92 u93 u94 u95 u96 u97 u98 u99 u100 u101 u102 u103 u104 u105 u106 u107 u108 u109 u110 u111 u112 u113 u114 u115 u116 u117 u118 u119 u120 u121 u122 u123 u124 u125 u126 u127 u128 u129 u130 u131 u132 u133 u134 u135 u136 u137 u138 u139 u140 u141 u142 u143 u144 u145 u146 u147 u148 u149 u150 u151 u152 u153 u154 u155 u156 u157 u158 u159 u160 u161 u162 u163 u164 u165 u166 u167 u168 u169 u170 u171 u172 u173 u174 u175 u176 u177 u178 u179 u180 u181 u182 u183 u184 u185 u186 u187 u188 u189 u190 u191 u192 u193 u194 u195 u196 u197 u198 u199 u200 u201 u202 u203 u204 u205 u206 u207 u208 u209 u210 u211 u212 u213 u214 u215 u216 u217 u218 u219 u220 u221 u222 u223 u224 u225 u226 u227 u228 u229 u230 u231 u232 u233 u234 u235 u236 u237 u238 u239 u240 u241 u242 u243 u244 u245 u246 u247 u248 u249 u250 u251 u252 u253 u254 u255 u256 u257 u258 u259 u260 u261 u262 u263 u264 u265 u266 u267 u268 u269 u270 u271 u272 u273 u274 u275 u276 u277 u278 u279 u280 u281 u282 u283 u284 u285 u286 u287 u288 u289 u290 u291 u292 u293 u294 u295 u296 u297 u298 u299 u300 u301 u302 u303 u304 u305 u306 u307 u308 u309 u310 u311 u312 u313 u314 u315 u316 : Value) (w : World) (hI : WetsAt w B (.slice (some ⟨G, 0, none⟩) n cn) L (xs.set k (finI en i x)) ∧ Below B W w)
    (K : Act → World → Prop) (Q : Exit → Act → World → Prop) (hQ : ∀ c a a' w, Q (.panic c) a' w → Q (.panic c) a w) (hK : ∀ (g238 g239 g240 g241 g242 g243 g244 g245 g246 g247 g248 g249 g250 g251 g252 g253 g254 g255 g256 g257 g258 g259 g260 g261 g262 g263 g264 : Value) (w' : World), (WetsAt w' B (.slice (some ⟨G, 0, none⟩) n cn) L (xs.set k (finI en (i + 1) x)) ∧ Below B W w') → K ⟨#[.slice al L cl, u1, u2, .slice ae L ce, u4, u5, u6, u7, u8, u9, u10, u11, u12, u13, .slice (some ⟨G, 0, none⟩) n cn, u15, u16, u17, u18, u19, u20, u21, u22, u23, u24, u25, u26, u27, u28, .int .i64 (k : Int), .int .i64 ((i : Int) + 1), u31, u32, u33, u34, u35, u36, u37, u38, u39, u40, u41, u42, u43, u44, u45, u46, u47, u48, u49, u50, u51, u52, u53, u54, u55, u56, u57, u58, u59, u60, u61, u62, u63, u64, u65, u66, u67, u68, u69, u70, u71, u72, u73, u74, u75, u76, u77, u78, u79, u80, u81, u82, u83, u84, u85, u86, u87, u88, u89, u90, u91, u92, u93, u94, u95, u96, u97, u98, u99, u100, u101, u102, u103, u104, u105, u106, u107, u108, u109, u110, u111, u112, u113, u114, u115, u116, u117, u118, u119, u120, u121, u122, u123, u124, u125, u126, u127, u128, u129, u130, u131, u132, u133, u134, u135, u136, u137, u138, u139, u140, u141, u142, u143, u144, u145, u146, u147, u148, u149, u150, u151, u152, u153, u154, u155, u156, u157, u158, u159, u160, u161, u162, u163, u164, u165, u166, u167, u168, u169, u170, u171, u172, u173, u174, u175, u176, u177, u178, u179, u180, u181, u182, u183, u184, u185, u186, u187, u188, u189, u190, u191, u192, u193, u194, u195, u196, u197, u198, u199, u200, u201, u202, u203, u204, u205, u206, u207, u208, u209, u210, u211, u212, u213, u214, u215, u216, u217, u218, u219, u220, u221, u222, u223, u224, u225, u226, u227, u228, u229, u230, u231, u232, u233, u234, u235, u236, u237, g238, g239, g240, g241, g242, g243, g244, g245, g246, g247, g248, g249, g250, g251, g252, g253, g254, g255, g256, g257, g258, g259, g260, g261, g262, g263, g264, u265, u266, u267, u268, u269, u270, u271, u272, u273, u274, u275, u276, u277, u278, u279, u280, u281, u282, u283, u284, u285, u286, u287, u288, u289, u290, u291, u292, u293, u294, u295, u296, u297, u298, u299, u300, u301, u302, u303, u304, u305, u306, u307, u308, u309, u310, u311, u312, u313, u314, u315, u316], []⟩ w') :
    Code.wp Try.prog (bodyEF Try.f29) (Exit.then K Q) ⟨#[.slice al L cl, u1, u2, .slice ae L ce, u4, u5, u6, u7, u8, u9, u10, u11, u12, u13, .slice (some ⟨G, 0, none⟩) n cn, u15, u16, u17, u18, u19, u20, u21, u22, u23, u24, u25, u26, u27, u28, .int .i64 (k : Int), .int .i64 (i : Int), u31, u32, u33, u34, u35, u36, u37, u38, u39, u40, u41, u42, u43, u44, u45, u46, u47, u48, u49, u50, u51, u52, u53, u54, u55, u56, u57, u58, u59, u60, u61, u62, u63, u64, u65, u66, u67, u68, u69, u70, u71, u72, u73, u74, u75, u76, u77, u78, u79, u80, u81, u82, u83, u84, u85, u86, u87, u88, u89, u90, u91, u92, u93, u94, u95, u96, u97, u98, u99, u100, u101, u102, u103, u104, u105, u106, u107, u108, u109, u110, u111, u112, u113, u114, u115, u116, u117, u118, u119, u120, u121, u122, u123, u124, u125, u126, u127, u128, u129, u130, u131, u132, u133, u134, u135, u136, u137, u138, u139, u140, u141, u142, u143, u144, u145, u146, u147, u148, u149, u150, u151, u152, u153, u154, u155, u156, u157, u158, u159, u160, u161, u162, u163, u164, u165, u166, u167, u168, u169, u170, u171, u172, u173, u174, u175, u176, u177, u178, u179, u180, u181, u182, u183, u184, u185, u186, u187, u188, u189, u190, u191, u192, u193, u194, u195, u196, u197, u198, u199, u200, u201, u202, u203, u204, u205, u206, u207, u208, u209, u210, u211, u212, u213, u214, u215, u216, u217, u218, u219, u220, u221, u222, u223, u224, u225, u226, u227, u228, u229, u230, u231, u232, u233, u234, u235, u236, u237, u238, u239, u240, u241, u242, u243, u244, u245, u246, u247, u248, u249, u250, u251, u252, u253, u254, u255, u256, u257, u258, u259, u260, u261, u262, u263, u264, u265, u266, u267, u268, u269, u270, u271, u272, u273, u274, u275, u276, u277, u278, u279, u280, u281, u282, u283, u284, u285, u286, u287, u288, u289, u290, u291, u292, u293, u294, u295, u296, u297, u298, u299, u300, u301, u302, u303, u304, u305, u306, u307, u308, u309, u310, u311, u312, u313, u314, u315, u316], []⟩ w := by
  have hlt : k < xs.length := (List.getElem?_eq_some_iff.1 hk).1
  have hkz : (0 : Int) ≤ (k : Int) ∧ (k : Int) < (n : Int) := by omega
  have hiz : (0 : Int) ≤ (i : Int) ∧ (i : Int) < (L : Int) := by omega
  have hsk : (xs.set k (finI en i x))[k]? = some (finI en i x) := by rw [List.getElem?_set, if_pos rfl, if_pos hlt]
  obtain ⟨G', cg, xl, xlc, xc, xcc, xr, xrc, en1, hG, ⟨k0, k1, k2, k3⟩, ol, oc, os, hcur⟩ := hI.1.cell hsk
  simp only [Value.slice.injEq, Option.some.injEq, Addr.mk.injEq] at en1
  obtain ⟨⟨rfl, hz1, hz2⟩, hz3, rfl⟩ := en1
  clear hz1 hz2 hz3
  obtain ⟨Lg, rfl, _⟩ := own_someZ ol (by omega)
  have o2 := (own_int ol hi).1
  obtain ⟨eb, eo, ecp, ep, hec⟩ := ints_cell2 h4 i (by rw [hel]; exact hi)
  simp only [Value.slice.injEq] at ep
  obtain ⟨rfl, hz4, rfl⟩ := ep
  clear hz4
  have hec2 := up_cell (by rw [hB] at hI; exact hI.2) hec
  have hst := finI_step (en := en) (x := x) hi hL2
  have heb2 : 0 ≤ en.getD i 0 ∧ en.getD i 0 ≤ 1000 := by
    have hl : i < en.length := by rw [hel]; exact hi
    rw [List.getD_eq_getElem?_getD, List.getElem?_eq_getElem hl]
    exact heb _ (List.getElem_mem hl)
  have hlv2 : 0 ≤ (listOf x.s.l0 x.s.l1 L).getD i 0 ∧ (listOf x.s.l0 x.s.l1 L).getD i 0 ≤ 20 := by
    have h : (i = 0 ∧ L = 1) ∨ (i = 0 ∧ L = 2) ∨ (i = 1 ∧ L = 2) := by omega
    rcases h with ⟨rfl, rfl⟩ | ⟨rfl, rfl⟩ | ⟨rfl, rfl⟩ <;> simp [listOf] <;> omega
  have hce : 0 ≤ (finI en i x).e ∧ (finI en i x).e ≤ 64000000 + 40000 := by
    have hi2 : i = 0 ∨ i = 1 := by omega
    rcases hi2 with rfl | rfl
    · rw [finI_zero]; omega
    · have q := finI_step (en := en) (x := x) (i := 0) (L := L) (by omega) hL2
      rw [finI_zero, Nat.zero_add] at q
      have q1 : 0 ≤ en.getD 0 0 ∧ en.getD 0 0 ≤ 1000 := by
        have hl : 0 < en.length := by omega
        rw [List.getD_eq_getElem?_getD, List.getElem?_eq_getElem hl]
        exact heb _ (List.getElem_mem hl)
      have q2 : 0 ≤ (listOf x.s.l0 x.s.l1 L).getD 0 0 ∧ (listOf x.s.l0 x.s.l1 L).getD 0 0 ≤ 20 := by
        have h : L = 1 ∨ L = 2 := by omega
        rcases h with rfl | rfl <;> simp [listOf] <;> omega
      have := mul_bd q1.1 q1.2 q2.1 q2.2
      omega
  obtain ⟨c, hc⟩ : ∃ q, q = (finI en i x).e := ⟨_, rfl⟩
  obtain ⟨ev, hev⟩ : ∃ q, q = en.getD i 0 := ⟨_, rfl⟩
  obtain ⟨lv, hlv⟩ : ∃ q, q = (listOf x.s.l0 x.s.l1 L).getD i 0 := ⟨_, rfl⟩
  have o3 : w.cell? ⟨Lg, i, none⟩ = some (.int .i64 lv) := by rw [hlv]; exact o2
  rw [← hev] at hec2 heb2 hst
  rw [← hlv] at hlv2 hst
  rw [← hc] at k2 hce hst
  have HST : Hid ((finI en (i + 1) x).e = c + ev * lv) := hst
  have m1 := mul_bd heb2.1 heb2.2 hlv2.1 hlv2.2
  have w1' : IntKind.i64.wrap (ev * lv) = ev * lv := wrap_ok (by omega)
  have w3' : IntKind.i64.wrap (c + ev * lv) = c + ev * lv := wrap_ok (by omega)
  obtain ⟨cur, hcu⟩ := hcur
  have z0 : w.frozen? ⟨G, k * 4 + 2, none⟩ = false := frozen_no hcu _
  have HS5 : Hid (w.cell? ⟨G, k * 4 + 2, none⟩ = some (.int .i64 c) ∧ w.cell? ⟨eb, eo + i, none⟩ = some (.int .i64 ev) ∧ w.cell? ⟨G, k * 4, none⟩ = some (.slice (some ⟨Lg, 0, none⟩) L xlc) ∧ w.cell? ⟨Lg, i, none⟩ = some (.int .i64 lv)) := ⟨k2, hec2, k0, o3⟩
  have HFN : Hid (WetsAt (w.drew.setCell ⟨G, k * 4 + 2, none⟩ (.int .i64 (c + ev * lv))) B (.slice (some ⟨G, 0, none⟩) n cn) L (xs.set k (finI en (i + 1) x)) ∧ Below B W (w.drew.setCell ⟨G, k * 4 + 2, none⟩ (.int .i64 (c + ev * lv)))) := by
    have h0 : WetsAt w.drew B (.slice (some ⟨G, 0, none⟩) n cn) L (xs.set k (finI en i x)) := hI.1.below (Below.refl _ w).drew
    have h5 := h0.setE (by rw [List.length_set]; exact hn) hsk (c + ev * lv)
    rw [List.set_set] at h5
    have e : (⟨(finI en i x).s, c + ev * lv, (finI en i x).t⟩ : Wet) = finI en (i + 1) x := by
      rw [← HST.out]
      rfl
    rw [e] at h5
    exact ⟨h5, hI.2.drew.setCell (p := ⟨G, k * 4 + 2, none⟩) hG _⟩
  have q0 := k2
  have HK := hide' hK
  have HQ := hide' hQ
  clear hK hQ hI hsk k0 k1 k2 k3 ol oc os o2 o3 hec hec2 hcu hc hev hlv hst hce heb2 hlv2 m1 heb hel h4 hg hxe hB hn hk
  conv => arg 2; whnf
  go_upto_region 50 with fail
  refine wp_region_tail (fun W' => W'.cell? ⟨G, k * 4 + 2, none⟩ = some (.int .i64 c) ∧ W'.cell? ⟨eb, eo + i, none⟩ = some (.int .i64 ev) ∧ W'.cell? ⟨G, k * 4, none⟩ = some (.slice (some ⟨Lg, 0, none⟩) L xlc) ∧ W'.cell? ⟨Lg, i, none⟩ = some (.int .i64 lv)) 21 (by kernel_rfl) ?_
  refine wpAnyD_takeAt 0 (some 244) (v := ?_) rfl (by kernel_rfl) (by kernel_rfl) (by kernel_rfl) (by kernel_rfl) (by kernel_rfl) (fun c a w h => HQ.out c _ _ w h) (by exact HS5.out) (fun o hop => ?_) ?_
  rotate_left
  · injection hop with hop
    subst hop
    refine ⟨rfl, fun W hW => ?_⟩
    obtain ⟨s0, s1, s2, s3⟩ := hW
    go_simp
    try rfl
  try simp only [Act.put, List.setIfInBounds_toArray, List.set_cons_zero, List.set_cons_succ]
  refine wpAnyD_takeAt 1 (some 245) (v := ?_) rfl (by kernel_rfl) (by kernel_rfl) (by kernel_rfl) (by kernel_rfl) (by kernel_rfl) (fun c a w h => HQ.out c _ _ w h) (by exact HS5.out) (fun o hop => ?_) ?_
  rotate_left
  · injection hop with hop
    subst hop
    refine ⟨rfl, fun W hW => ?_⟩
    obtain ⟨s0, s1, s2, s3⟩ := hW
    go_simp
    try rfl
  try simp only [Act.put, List.setIfInBounds_toArray, List.set_cons_zero, List.set_cons_succ]
  refine wpAnyD_takeAt 2 (some 246) (v := ?_) rfl (by kernel_rfl) (by kernel_rfl) (by kernel_rfl) (by kernel_rfl) (by kernel_rfl) (fun c a w h => HQ.out c _ _ w h) (by exact HS5.out) (fun o hop => ?_) ?_
  rotate_left
  · injection hop with hop
    subst hop
    refine ⟨rfl, fun W hW => ?_⟩
    obtain ⟨s0, s1, s2, s3⟩ := hW
    go_simp
    try rfl
  try simp only [Act.put, List.setIfInBounds_toArray, List.set_cons_zero, List.set_cons_succ]
  refine wpAnyD_takeAt 3 (some 247) (v := ?_) rfl (by kernel_rfl) (by kernel_rfl) (by kernel_rfl) (by kernel_rfl) (by kernel_rfl) (fun c a w h => HQ.out c _ _ w h) (by exact HS5.out) (fun o hop => ?_) ?_
  rotate_left
  · injection hop with hop
    subst hop
    refine ⟨rfl, fun W hW => ?_⟩
    obtain ⟨s0, s1, s2, s3⟩ := hW
    go_simp
    try rfl
  try simp only [Act.put, List.setIfInBounds_toArray, List.set_cons_zero, List.set_cons_succ]
  refine wpAnyD_takeAt 4 (some 248) (v := ?_) rfl (by kernel_rfl) (by kernel_rfl) (by kernel_rfl) (by kernel_rfl) (by kernel_rfl) (fun c a w h => HQ.out c _ _ w h) (by exact HS5.out) (fun o hop => ?_) ?_
  rotate_left
  · injection hop with hop
    subst hop
    refine ⟨rfl, fun W hW => ?_⟩
    obtain ⟨s0, s1, s2, s3⟩ := hW
    go_simp
    try rfl
  try simp only [Act.put, List.setIfInBounds_toArray, List.set_cons_zero, List.set_cons_succ]
  refine wpAnyD_takeAt 5 (some 249) (v := ?_) rfl (by kernel_rfl) (by kernel_rfl) (by kernel_rfl) (by kernel_rfl) (by kernel_rfl) (fun c a w h => HQ.out c _ _ w h) (by exact HS5.out) (fun o hop => ?_) ?_
  rotate_left
  · injection hop with hop
    subst hop
    refine ⟨rfl, fun W hW => ?_⟩
    obtain ⟨s0, s1, s2, s3⟩ := hW
    go_simp
    try rfl
  try simp only [Act.put, List.setIfInBounds_toArray, List.set_cons_zero, List.set_cons_succ]
  refine wpAnyD_takeAt 6 (some 250) (v := ?_) rfl (by kernel_rfl) (by kernel_rfl) (by kernel_rfl) (by kernel_rfl) (by kernel_rfl) (fun c a w h => HQ.out c _ _ w h) (by exact HS5.out) (fun o hop => ?_) ?_
  rotate_left
  · injection hop with hop
    subst hop
    refine ⟨rfl, fun W hW => ?_⟩
    obtain ⟨s0, s1, s2, s3⟩ := hW
    go_simp
    try rfl
  try simp only [Act.put, List.setIfInBounds_toArray, List.set_cons_zero, List.set_cons_succ]
  refine wpAnyD_takeAt 7 (some 251) (v := ?_) rfl (by kernel_rfl) (by kernel_rfl) (by kernel_rfl) (by kernel_rfl) (by kernel_rfl) (fun c a w h => HQ.out c _ _ w h) (by exact HS5.out) (fun o hop => ?_) ?_
  rotate_left
  · injection hop with hop
    subst hop
    refine ⟨rfl, fun W hW => ?_⟩
    obtain ⟨s0, s1, s2, s3⟩ := hW
    go_simp
    try rfl
  try simp only [Act.put, List.setIfInBounds_toArray, List.set_cons_zero, List.set_cons_succ]
  refine wpAnyD_takeAt 8 (some 252) (v := ?_) rfl (by kernel_rfl) (by kernel_rfl) (by kernel_rfl) (by kernel_rfl) (by kernel_rfl) (fun c a w h => HQ.out c _ _ w h) (by exact HS5.out) (fun o hop => ?_) ?_
  rotate_left
  · injection hop with hop
    subst hop
    refine ⟨rfl, fun W hW => ?_⟩
    obtain ⟨s0, s1, s2, s3⟩ := hW
    go_simp
    try rfl
  try simp only [Act.put, List.setIfInBounds_toArray, List.set_cons_zero, List.set_cons_succ]
  refine wpAnyD_takeAt 9 (some 253) (v := ?_) rfl (by kernel_rfl) (by kernel_rfl) (by kernel_rfl) (by kernel_rfl) (by kernel_rfl) (fun c a w h => HQ.out c _ _ w h) (by exact HS5.out) (fun o hop => ?_) ?_
  rotate_left
  · injection hop with hop
    subst hop
    refine ⟨rfl, fun W hW => ?_⟩
    obtain ⟨s0, s1, s2, s3⟩ := hW
    go_simp
    try rfl
  try simp only [Act.put, List.setIfInBounds_toArray, List.set_cons_zero, List.set_cons_succ]
  refine wpAnyD_takeAt 10 (some 254) (v := ?_) rfl (by kernel_rfl) (by kernel_rfl) (by kernel_rfl) (by kernel_rfl) (by kernel_rfl) (fun c a w h => HQ.out c _ _ w h) (by exact HS5.out) (fun o hop => ?_) ?_
  rotate_left
  · injection hop with hop
    subst hop
    refine ⟨rfl, fun W hW => ?_⟩
    obtain ⟨s0, s1, s2, s3⟩ := hW
    go_simp
    try rfl
  try simp only [Act.put, List.setIfInBounds_toArray, List.set_cons_zero, List.set_cons_succ]
  refine wpAnyD_takeAt 11 (some 255) (v := ?_) rfl (by kernel_rfl) (by kernel_rfl) (by kernel_rfl) (by kernel_rfl) (by kernel_rfl) (fun c a w h => HQ.out c _ _ w h) (by exact HS5.out) (fun o hop => ?_) ?_
  rotate_left
  · injection hop with hop
    subst hop
    refine ⟨rfl, fun W hW => ?_⟩
    obtain ⟨s0, s1, s2, s3⟩ := hW
    go_simp
    try rfl
  try simp only [Act.put, List.setIfInBounds_toArray, List.set_cons_zero, List.set_cons_succ]
  refine wpAnyD_takeAt 12 (some 256) (v := ?_) rfl (by kernel_rfl) (by kernel_rfl) (by kernel_rfl) (by kernel_rfl) (by kernel_rfl) (fun c a w h => HQ.out c _ _ w h) (by exact HS5.out) (fun o hop => ?_) ?_
  rotate_left
  · injection hop with hop
    subst hop
    refine ⟨rfl, fun W hW => ?_⟩
    obtain ⟨s0, s1, s2, s3⟩ := hW
    go_simp
    try rfl
  try simp only [Act.put, List.setIfInBounds_toArray, List.set_cons_zero, List.set_cons_succ]
  refine wpAnyD_takeAt 13 (some 257) (v := ?_) rfl (by kernel_rfl) (by kernel_rfl) (by kernel_rfl) (by kernel_rfl) (by kernel_rfl) (fun c a w h => HQ.out c _ _ w h) (by exact HS5.out) (fun o hop => ?_) ?_
  rotate_left
  · injection hop with hop
    subst hop
    refine ⟨rfl, fun W hW => ?_⟩
    obtain ⟨s0, s1, s2, s3⟩ := hW
    go_simp
    try rfl
  try simp only [Act.put, List.setIfInBounds_toArray, List.set_cons_zero, List.set_cons_succ]
  refine wpAnyD_takeAt 14 (some 258) (v := ?_) rfl (by kernel_rfl) (by kernel_rfl) (by kernel_rfl) (by kernel_rfl) (by kernel_rfl) (fun c a w h => HQ.out c _ _ w h) (by exact HS5.out) (fun o hop => ?_) ?_
  rotate_left
  · injection hop with hop
    subst hop
    refine ⟨rfl, fun W hW => ?_⟩
    obtain ⟨s0, s1, s2, s3⟩ := hW
    go_simp
    try rfl
  try simp only [Act.put, List.setIfInBounds_toArray, List.set_cons_zero, List.set_cons_succ]
  refine wpAnyD_takeAt 15 (some 259) (v := ?_) rfl (by kernel_rfl) (by kernel_rfl) (by kernel_rfl) (by kernel_rfl) (by kernel_rfl) (fun c a w h => HQ.out c _ _ w h) (by exact HS5.out) (fun o hop => ?_) ?_
  rotate_left
  · injection hop with hop
    subst hop
    refine ⟨rfl, fun W hW => ?_⟩
    obtain ⟨s0, s1, s2, s3⟩ := hW
    go_simp
    try rfl
  try simp only [Act.put, List.setIfInBounds_toArray, List.set_cons_zero, List.set_cons_succ]
  refine wpAnyD_takeAt 16 (some 260) (v := ?_) rfl (by kernel_rfl) (by kernel_rfl) (by kernel_rfl) (by kernel_rfl) (by kernel_rfl) (fun c a w h => HQ.out c _ _ w h) (by exact HS5.out) (fun o hop => ?_) ?_
  rotate_left
  · injection hop with hop
    subst hop
    refine ⟨rfl, fun W hW => ?_⟩
    obtain ⟨s0, s1, s2, s3⟩ := hW
    go_simp
    try rfl
  try simp only [Act.put, List.setIfInBounds_toArray, List.set_cons_zero, List.set_cons_succ]
  refine wpAnyD_takeAt 17 (some 261) (v := ?_) rfl (by kernel_rfl) (by kernel_rfl) (by kernel_rfl) (by kernel_rfl) (by kernel_rfl) (fun c a w h => HQ.out c _ _ w h) (by exact HS5.out) (fun o hop => ?_) ?_
  rotate_left
  · injection hop with hop
    subst hop
    refine ⟨rfl, fun W hW => ?_⟩
    obtain ⟨s0, s1, s2, s3⟩ := hW
    go_simp
    try rfl
  try simp only [Act.put, List.setIfInBounds_toArray, List.set_cons_zero, List.set_cons_succ]
  refine wpAnyD_takeAt 18 (some 262) (v := ?_) rfl (by kernel_rfl) (by kernel_rfl) (by kernel_rfl) (by kernel_rfl) (by kernel_rfl) (fun c a w h => HQ.out c _ _ w h) (by exact HS5.out) (fun o hop => ?_) ?_
  rotate_left
  · injection hop with hop
    subst hop
    refine ⟨rfl, fun W hW => ?_⟩
    obtain ⟨s0, s1, s2, s3⟩ := hW
    go_simp
    try rfl
  try simp only [Act.put, List.setIfInBounds_toArray, List.set_cons_zero, List.set_cons_succ]
  refine wpAnyT_one (i := 19) (by kernel_rfl) rfl rfl (fun K' hK => ?_)
  go_simp
  refine hK.out _ _ (fun _ => HS5.out) ?_
  clear hK K'
  try simp only [Act.put, List.setIfInBounds_toArray, List.set_cons_zero, List.set_cons_succ]
  refine wpAnyT_one (i := 20) (by kernel_rfl) rfl rfl (fun K' hK => ?_)
  go_simp
  refine hK.out _ _ (fun _ => HS5.out) ?_
  clear hK K'
  try simp only [Act.put, List.setIfInBounds_toArray, List.set_cons_zero, List.set_cons_succ]
  refine wpAnyT_one (i := 21) (by kernel_rfl) rfl rfl (fun K' hK => ?_)
  go_simp
  refine hK.out _ _ (fun h => absurd rfl h) ?_
  clear hK K'
  try simp only [Act.put, List.setIfInBounds_toArray, List.set_cons_zero, List.set_cons_succ]
  refine wpAnyT_done (by kernel_rfl) ?_ _
  clear HS5 q0 z0
  go_wp2_with fail
  exact HK.out _ _ _ _ _ _ _ _ _ _ _ _ _ _ _ _ _ _ _ _ _ _ _ _ _ _ _ _ HFN.out
set_option maxRecDepth 1000000 in
set_option maxHeartbeats 8000000 in
theorem loopE (hL2 : L ≤ 2) (W : World) (h4 : RowAt W (.slice ae L ce) L 1 (ints en)) (hel : en.length = L) (heb : ∀ x ∈ en, 0 ≤ x ∧ x ≤ 1000) {B n cn G k : Nat} {xs : List Wet} {x : Wet} (hB : B = W.heap.size) (hn : xs.length = n) (hnb : n ≤ 152587890625) (hk : xs[k]? = some x) (hg : 0 ≤ x.s.l0 ∧ x.s.l0 ≤ 20 ∧ 0 ≤ x.s.l1 ∧ x.s.l1 ≤ 20) (hxe : 0 ≤ x.e ∧ x.e ≤ 64000000) (u1 u2 u4 u5 u6 u7 u8 u9 u10 u11 u12 u13 u15 u16 u17 u18 u19 u20 u21 u22 u23 u24 u25 u26 u27 u28 u31 u32 u33 u34 u35 u36 u37 u38 u39 u40 u41 u42 u43 u44 u45 u46 u47 u48 u49 u50 u51 u52 u53 u54 u55 u56 u57 u58 u59 u60 u61 u62 u63 u64 u65 u66 u67 u68 u69 u70 u71 u72 u73 u74 u75 u76 u77 u78 u79 u80 u81 u82 u83 u84 u85 u86 u87 u88 u89 u90 u91 u92 u93 u94 u95 u96 u97 u98 u99 u100 u101 u102 u103 u104 u105 u106 u107 u108 u109 u110 u111 u112 u113 u114 u115 u116 u117 u118 u119 u120 u121 u122 u123 u124 u125 u126 u127 u128 u129 u130 u131 u132 u133 u134 u135 u136 u137 u138 u139 u140 u141 u142 u143 u144 u145 u146 u147 u148 u149 u150 u151 u152 u153 u154 u155 u156 u157 u158 u159 u160 u161 u162 u163 u164 u165 u166 u167 u168 u169 u170 u171 u172 u173 u174 u175 u176 u177 u178 u179 u180 u181 u182 u183 u184 u185 u186 u187 u188 u189 u190 u191 u192 u193 u194 u195 u196 u197 u198 u199 u200 u201 u202 u203 u204 u205 u206 u207 u208 u209 u210 u211 u212 u213 u214 u215 u216 u217 u218 u219 u220 u221 u222 u223 u224 u225 u226 u227 u228 u229 u230 u231 u232 u233 u234 u235 u236 u237 u238 u239 u240 u241 u242 u243 u244 u245 u246 u247 u248 u249 u250 u251 u252 u253 u254 u255 u256 u257 u258 u259 u260 u261 u262 u263 u264 u265 u266 u267 u268 u269 u270 u271 u272 u273 u274 u275 u276 u277 u278 u279 u280 u281 u282 u283 u284 u285 u286 u287 u288 u289 u290 u291 u292 u293 u294 u295 u296 u297 u298 u299 u300 u301 u302 u303 u304 u305 u306 u307 u308 u309 u310 u311 u312 u313 u314 u315 u316 : Value) (w : World) (hI : WetsAt w B (.slice (some ⟨G, 0, none⟩) n cn) L xs ∧ Below B W w) (Q : Exit → Act → World → Prop) (hQ : ∀ c a a' w, Q (.panic c) a' w → Q (.panic c) a w)
    (hX : ∀ (f : Nat → Value) (w' : World), (WetsAt w' B (.slice (some ⟨G, 0, none⟩) n cn) L (xs.set k (finI en L x)) ∧ Below B W w') → Q (.exit 14) ⟨#[.slice al L cl, u1, u2, .slice ae L ce, u4, u5, u6, u7, u8, u9, u10, u11, u12, u13, .slice (some ⟨G, 0, none⟩) n cn, u15, u16, u17, u18, u19, u20, u21, u22, u23, u24, u25, u26, u27, u28, .int .i64 (k : Int), .int .i64 ((L : Nat) : Int), u31, u32, u33, u34, u35, u36, u37, u38, u39, u40, u41, u42, u43, u44, u45, u46, u47, u48, u49, u50, u51, u52, u53, u54, u55, u56, u57, u58, u59, u60, u61, u62, u63, u64, u65, u66, u67, u68, u69, u70, u71, u72, u73, u74, u75, u76, u77, u78, u79, u80, u81, u82, u83, u84, u85, u86, u87, u88, u89, u90, u91, u92, u93, u94, u95, u96, u97, u98, u99, u100, u101, u102, u103, u104, u105, u106, u107, u108, u109, u110, u111, u112, u113, u114, u115, u116, u117, u118, u119, u120, u121, u122, u123, u124, u125, u126, u127, u128, u129, u130, u131, u132, u133, u134, u135, u136, u137, u138, u139, u140, u141, u142, u143, u144, u145, u146, u147, u148, u149, u150, u151, u152, u153, u154, u155, u156, u157, u158, u159, u160, u161, u162, u163, u164, u165, u166, u167, u168, u169, u170, u171, u172, u173, u174, u175, u176, u177, u178, u179, u180, u181, u182, u183, u184, u185, u186, u187, u188, u189, u190, u191, u192, u193, u194, u195, u196, u197, u198, u199, u200, u201, u202, u203, u204, u205, u206, u207, u208, u209, u210, u211, u212, u213, u214, u215, u216, u217, u218, u219, u220, u221, u222, u223, u224, u225, u226, u227, u228, u229, u230, u231, u232, u233, u234, u235, u236, u237, f 0, f 1, f 2, f 3, f 4, f 5, f 6, f 7, f 8, f 9, f 10, f 11, f 12, f 13, f 14, f 15, f 16, f 17, f 18, f 19, f 20, f 21, f 22, f 23, f 24, f 25, f 26, u265, u266, u267, u268, u269, u270, u271, u272, u273, u274, u275, u276, u277, u278, u279, u280, u281, u282, u283, u284, u285, u286, u287, u288, u289, u290, u291, u292, u293, u294, u295, u296, u297, u298, u299, u300, u301, u302, u303, u304, u305, u306, u307, u308, u309, u310, u311, u312, u313, u314, u315, u316], []⟩ w') :
    Code.wp Try.prog (Code.loop (bodyEF Try.f29)) Q ⟨#[.slice al L cl, u1, u2, .slice ae L ce, u4, u5, u6, u7, u8, u9, u10, u11, u12, u13, .slice (some ⟨G, 0, none⟩) n cn, u15, u16, u17, u18, u19, u20, u21, u22, u23, u24, u25, u26, u27, u28, .int .i64 (k : Int), .int .i64 ((0 : Nat) : Int), u31, u32, u33, u34, u35, u36, u37, u38, u39, u40, u41, u42, u43, u44, u45, u46, u47, u48, u49, u50, u51, u52, u53, u54, u55, u56, u57, u58, u59, u60, u61, u62, u63, u64, u65, u66, u67, u68, u69, u70, u71, u72, u73, u74, u75, u76, u77, u78, u79, u80, u81, u82, u83, u84, u85, u86, u87, u88, u89, u90, u91, u92, u93, u94, u95, u96, u97, u98, u99, u100, u101, u102, u103, u104, u105, u106, u107, u108, u109, u110, u111, u112, u113, u114, u115, u116, u117, u118, u119, u120, u121, u122, u123, u124, u125, u126, u127, u128, u129, u130, u131, u132, u133, u134, u135, u136, u137, u138, u139, u140, u141, u142, u143, u144, u145, u146, u147, u148, u149, u150, u151, u152, u153, u154, u155, u156, u157, u158, u159, u160, u161, u162, u163, u164, u165, u166, u167, u168, u169, u170, u171, u172, u173, u174, u175, u176, u177, u178, u179, u180, u181, u182, u183, u184, u185, u186, u187, u188, u189, u190, u191, u192, u193, u194, u195, u196, u197, u198, u199, u200, u201, u202, u203, u204, u205, u206, u207, u208, u209, u210, u211, u212, u213, u214, u215, u216, u217, u218, u219, u220, u221, u222, u223, u224, u225, u226, u227, u228, u229, u230, u231, u232, u233, u234, u235, u236, u237, u238, u239, u240, u241, u242, u243, u244, u245, u246, u247, u248, u249, u250, u251, u252, u253, u254, u255, u256, u257, u258, u259, u260, u261, u262, u263, u264, u265, u266, u267, u268, u269, u270, u271, u272, u273, u274, u275, u276, u277, u278, u279, u280, u281, u282, u283, u284, u285, u286, u287, u288, u289, u290, u291, u292, u293, u294, u295, u296, u297, u298, u299, u300, u301, u302, u303, u304, u305, u306, u307, u308, u309, u310, u311, u312, u313, u314, u315, u316], []⟩ w := by
  have h0 : xs.set k (finI en 0 x) = xs := by
    rw [finI_zero]
    refine List.ext_getElem? fun i => ?_
    rw [List.getElem?_set]
    split
    · next e => subst e; rw [hk, if_pos (List.getElem?_eq_some_iff.1 hk).1]
    · rfl
  refine wp_loop (fun a w' => ∃ (i : Nat) (f : Nat → Value), i ≤ L ∧ (WetsAt w' B (.slice (some ⟨G, 0, none⟩) n cn) L (xs.set k (finI en i x)) ∧ Below B W w') ∧ a = ⟨#[.slice al L cl, u1, u2, .slice ae L ce, u4, u5, u6, u7, u8, u9, u10, u11, u12, u13, .slice (some ⟨G, 0, none⟩) n cn, u15, u16, u17, u18, u19, u20, u21, u22, u23, u24, u25, u26, u27, u28, .int .i64 (k : Int), .int .i64 (i : Int), u31, u32, u33, u34, u35, u36, u37, u38, u39, u40, u41, u42, u43, u44, u45, u46, u47, u48, u49, u50, u51, u52, u53, u54, u55, u56, u57, u58, u59, u60, u61, u62, u63, u64, u65, u66, u67, u68, u69, u70, u71, u72, u73, u74, u75, u76, u77, u78, u79, u80, u81, u82, u83, u84, u85, u86, u87, u88, u89, u90, u91, u92, u93, u94, u95, u96, u97, u98, u99, u100, u101, u102, u103, u104, u105, u106, u107, u108, u109, u110, u111, u112, u113, u114, u115, u116, u117, u118, u119, u120, u121, u122, u123, u124, u125, u126, u127, u128, u129, u130, u131, u132, u133, u134, u135, u136, u137, u138, u139, u140, u141, u142, u143, u144, u145, u146, u147, u148, u149, u150, u151, u152, u153, u154, u155, u156, u157, u158, u159, u160, u161, u162, u163, u164, u165, u166, u167, u168, u169, u170, u171, u172, u173, u174, u175, u176, u177, u178, u179, u180, u181, u182, u183, u184, u185, u186, u187, u188, u189, u190, u191, u192, u193, u194, u195, u196, u197, u198, u199, u200, u201, u202, u203, u204, u205, u206, u207, u208, u209, u210, u211, u212, u213, u214, u215, u216, u217, u218, u219, u220, u221, u222, u223, u224, u225, u226, u227, u228, u229, u230, u231, u232, u233, u234, u235, u236, u237, f 0, f 1, f 2, f 3, f 4, f 5, f 6, f 7, f 8, f 9, f 10, f 11, f 12, f 13, f 14, f 15, f 16, f 17, f 18, f 19, f 20, f 21, f 22, f 23, f 24, f 25, f 26, u265, u266, u267, u268, u269, u270, u271, u272, u273, u274, u275, u276, u277, u278, u279, u280, u281, u282, u283, u284, u285, u286, u287, u288, u289, u290, u291, u292, u293, u294, u295, u296, u297, u298, u299, u300, u301, u302, u303, u304, u305, u306, u307, u308, u309, u310, u311, u312, u313, u314, u315, u316], []⟩) (fun a _ => L - (intOf (a.tmps.getD 30 (.bool false))).toNat) ⟨0, (fun n => ([u238, u239, u240, u241, u242, u243, u244, u245, u246, u247, u248, u249, u250, u251, u252, u253, u254, u255, u256, u257, u258, u259, u260, u261, u262, u263, u264] : List Value).getD n (.bool false)), Nat.zero_le _, (by rw [h0]; exact hI), rfl⟩ ?_
  rintro a w' ⟨i, f, hi, hI, rfl⟩
  by_cases hlt : i < L
  · refine roundE hL2 W h4 hel heb hB hn hnb hk hg hxe hlt u1 u2 u4 u5 u6 u7 u8 u9 u10 u11 u12 u13 u15 u16 u17 u18 u19 u20 u21 u22 u23 u24 u25 u26 u27 u28 u31 u32 u33 u34 u35 u36 u37 u38 u39 u40 u41 u42 u43 u44 u45 u46 u47 u48 u49 u50 u51 u52 u53 u54 u55 u56 u57 u58 u59 u60 u61 u62 u63 u64 u65 u66 u67 u68 u69 u70 u71 u72 u73 u74 u75 u76 u77 u78 u79 u80 u81 u82 u83 u84 u85 u86 u87 u88 u89 u90 u91 u92 u93 u94 u95 u96 u97 u98 u99 u100 u101 u102 u103 u104 u105 u106 u107 u108 u109 u110 u111 u112 u113 u114 u115 u116 u117 u118 u119 u120 u121 u122 u123 u124 u125 u126 u127 u128 u129 u130 u131 u132 u133 u134 u135 u136 u137 u138 u139 u140 u141 u142 u143 u144 u145 u146 u147 u148 u149 u150 u151 u152 u153 u154 u155 u156 u157 u158 u159 u160 u161 u162 u163 u164 u165 u166 u167 u168 u169 u170 u171 u172 u173 u174 u175 u176 u177 u178 u179 u180 u181 u182 u183 u184 u185 u186 u187 u188 u189 u190 u191 u192 u193 u194 u195 u196 u197 u198 u199 u200 u201 u202 u203 u204 u205 u206 u207 u208 u209 u210 u211 u212 u213 u214 u215 u216 u217 u218 u219 u220 u221 u222 u223 u224 u225 u226 u227 u228 u229 u230 u231 u232 u233 u234 u235 u236 u237 (f 0) (f 1) (f 2) (f 3) (f 4) (f 5) (f 6) (f 7) (f 8) (f 9) (f 10) (f 11) (f 12) (f 13) (f 14) (f 15) (f 16) (f 17) (f 18) (f 19) (f 20) (f 21) (f 22) (f 23) (f 24) (f 25) (f 26) u265 u266 u267 u268 u269 u270 u271 u272 u273 u274 u275 u276 u277 u278 u279 u280 u281 u282 u283 u284 u285 u286 u287 u288 u289 u290 u291 u292 u293 u294 u295 u296 u297 u298 u299 u300 u301 u302 u303 u304 u305 u306 u307 u308 u309 u310 u311 u312 u313 u314 u315 u316 w' hI _ Q hQ (fun g238 g239 g240 g241 g242 g243 g244 g245 g246 g247 g248 g249 g250 g251 g252 g253 g254 g255 g256 g257 g258 g259 g260 g261 g262 g263 g264 w'' hI'' => ⟨⟨i + 1, (fun n => ([g238, g239, g240, g241, g242, g243, g244, g245, g246, g247, g248, g249, g250, g251, g252, g253, g254, g255, g256, g257, g258, g259, g260, g261, g262, g263, g264] : List Value).getD n (.bool false)), by omega, hI'', rfl⟩, ?_⟩)
    show L - (intOf (.int .i64 ((i : Int) + 1))).toNat < L - (intOf (.int .i64 (i : Int))).toNat
    simp only [intOf]
    omega
  · obtain rfl : i = L := by omega
    exact endE hL2 u1 u2 u4 u5 u6 u7 u8 u9 u10 u11 u12 u13 u15 u16 u17 u18 u19 u20 u21 u22 u23 u24 u25 u26 u27 u28 u31 u32 u33 u34 u35 u36 u37 u38 u39 u40 u41 u42 u43 u44 u45 u46 u47 u48 u49 u50 u51 u52 u53 u54 u55 u56 u57 u58 u59 u60 u61 u62 u63 u64 u65 u66 u67 u68 u69 u70 u71 u72 u73 u74 u75 u76 u77 u78 u79 u80 u81 u82 u83 u84 u85 u86 u87 u88 u89 u90 u91 u92 u93 u94 u95 u96 u97 u98 u99 u100 u101 u102 u103 u104 u105 u106 u107 u108 u109 u110 u111 u112 u113 u114 u115 u116 u117 u118 u119 u120 u121 u122 u123 u124 u125 u126 u127 u128 u129 u130 u131 u132 u133 u134 u135 u136 u137 u138 u139 u140 u141 u142 u143 u144 u145 u146 u147 u148 u149 u150 u151 u152 u153 u154 u155 u156 u157 u158 u159 u160 u161 u162 u163 u164 u165 u166 u167 u168 u169 u170 u171 u172 u173 u174 u175 u176 u177 u178 u179 u180 u181 u182 u183 u184 u185 u186 u187 u188 u189 u190 u191 u192 u193 u194 u195 u196 u197 u198 u199 u200 u201 u202 u203 u204 u205 u206 u207 u208 u209 u210 u211 u212 u213 u214 u215 u216 u217 u218 u219 u220 u221 u222 u223 u224 u225 u226 u227 u228 u229 u230 u231 u232 u233 u234 u235 u236 u237 (f 0) (f 1) (f 2) (f 3) (f 4) (f 5) (f 6) (f 7) (f 8) (f 9) (f 10) (f 11) (f 12) (f 13) (f 14) (f 15) (f 16) (f 17) (f 18) (f 19) (f 20) (f 21) (f 22) (f 23) (f 24) (f 25) (f 26) u265 u266 u267 u268 u269 u270 u271 u272 u273 u274 u275 u276 u277 u278 u279 u280 u281 u282 u283 u284 u285 u286 u287 u288 u289 u290 u291 u292 u293 u294 u295 u296 u297 u298 u299 u300 u301 u302 u303 u304 u305 u306 u307 u308 u309 u310 u311 u312 u313 u314 u315 u316 w' _ Q (fun g238 g239 g240 g241 g242 g243 g244 g245 g246 g247 g248 g249 g250 g251 g252 g253 g254 g255 g256 g257 g258 g259 g260 g261 g262 g263 g264 => hX (fun n => ([g238, g239, g240, g241, g242, g243, g244, g245, g246, g247, g248, g249, g250, g251, g252, g253, g254, g255, g256, g257, g258, g259, g260, g261, g262, g263, g264] : List Value).getD n (.bool false)) w' hI)
end
end Go.Proofs.Ytnhddmcdmcpkeaj
namespace Go.Proofs.Ytnhddmcdmcpkeaj
open Go.RowKit Go.Shelf

/-- The first k are worth what they keep, too. -/
def doneL (en : List Int) (L k : Nat) (xs : List Wet) : List Wet := xs.mapIdx fun i x => if i < k then x.fin en L else x
theorem done_len (en : List Int) (L k : Nat) (xs : List Wet) : (doneL en L k xs).length = xs.length := by unfold doneL; simp
theorem done_at {en : List Int} {L k i : Nat} {xs : List Wet} {x : Wet} (h : xs[i]? = some x) : (doneL en L k xs)[i]? = if i < k then some (x.fin en L) else some x := by
  unfold doneL
  rw [List.getElem?_mapIdx, h]
  simp only [Option.map_some]
  split <;> rfl
theorem done_none {en : List Int} {L k i : Nat} {xs : List Wet} (h : xs[i]? = none) : (doneL en L k xs)[i]? = none := by
  unfold doneL
  rw [List.getElem?_mapIdx, h]
  rfl
theorem done_zero (en : List Int) (L : Nat) (xs : List Wet) : doneL en L 0 xs = xs := by
  refine List.ext_getElem? fun i => ?_
  cases h : xs[i]? with
  | none => exact done_none h
  | some x => rw [done_at h, if_neg (by omega)]
theorem done_set {en : List Int} {L k : Nat} {xs : List Wet} {x : Wet} (h : xs[k]? = some x) : (doneL en L k xs).set k (finI en L x) = doneL en L (k + 1) xs := by
  refine List.ext_getElem? fun i => ?_
  rw [List.getElem?_set]
  have hlt := (List.getElem?_eq_some_iff.1 h).1
  by_cases e : k = i
  · subst e
    rw [if_pos rfl, if_pos (by rw [done_len]; exact hlt), done_at h, if_pos (by omega)]
    rfl
  · rw [if_neg e]
    cases hi : xs[i]? with
    | none => rw [done_none hi, done_none hi]
    | some y =>
      rw [done_at hi, done_at hi]
      by_cases hik : i < k
      · rw [if_pos hik, if_pos (by omega)]
      · rw [if_neg hik, if_neg (by omega)]
/-- The place of the best of the first k. -/
def BestI (en : List Int) (L : Nat) (now : List Wet) (k : Nat) (bv : Value) : Prop := (k = 0 ∧ bv = .int .i64 (-1)) ∨ ∃ (b : Nat) (x : Wet), bv = .int .i64 (b : Int) ∧ b < k ∧ now[b]? = some x ∧ ∀ (i : Nat) (y : Wet), i < k → now[i]? = some y → (x.fin en L).as (y.fin en L)
theorem best_first {en : List Int} {L : Nat} {now : List Wet} {x : Wet} (h : now[0]? = some x) : BestI en L now 1 (.int .i64 ((0 : Nat) : Int)) := .inr ⟨0, x, rfl, by omega, h, fun i y hi hy => by
  obtain rfl : i = 0 := by omega
  rw [h] at hy
  cases hy
  exact Wet.as_refl _⟩
theorem best_over {en : List Int} {L k : Nat} {now : List Wet} {x y : Wet} (hx : now[k]? = some x) (hall : ∀ (i : Nat) (z : Wet), i < k → now[i]? = some z → (y.fin en L).as (z.fin en L)) (ho : (x.fin en L).over (y.fin en L)) : BestI en L now (k + 1) (.int .i64 (k : Int)) := .inr ⟨k, x, rfl, by omega, hx, fun i z hi hz => by
  by_cases e : i = k
  · subst e
    rw [hx] at hz
    cases hz
    exact Wet.as_refl _
  · exact Wet.as_trans (Wet.over_as ho) (hall i z (by omega) hz)⟩
theorem best_keep {en : List Int} {L k b : Nat} {now : List Wet} {x y : Wet} (hx : now[k]? = some x) (hb : b < k) (hy : now[b]? = some y) (hall : ∀ (i : Nat) (z : Wet), i < k → now[i]? = some z → (y.fin en L).as (z.fin en L)) (ho : ¬ (x.fin en L).over (y.fin en L)) : BestI en L now (k + 1) (.int .i64 (b : Int)) := .inr ⟨b, y, rfl, by omega, hy, fun i z hi hz => by
  by_cases e : i = k
  · subst e
    rw [hx] at hz
    cases hz
    exact ho
  · exact hall i z (by omega) hz⟩
section
variable {ls : List LakeM} {L : Nat} {ti : List (List Int)} {pr en : List Int} {al ae : Option Addr} {cl ce : Nat}
set_option maxRecDepth 1000000 in
set_option maxHeartbeats 8000000 in
theorem endB {n cn G : Nat} (_hnb : n ≤ 152587890625) (u28 u1 u2 u4 u5 u6 u7 u8 u9 u10 u11 u12 u13 u15 u16 u17 u18 u19 u20 u21 u22 u23 u24 u25 u26 u27 u30 u31 u32 u33 u34 u35 u36 u37 u38 u39 u40 u41 u42 u43 u44 u45 u46 u47 u48 u49 u50 u51 u52 u53 u54 u55 u56 u57 u58 u59 u60 u61 u62 u63 u64 u65 u66 u67 u68 u69 u70 u71 u72 u73 u74 u75 u76 u77 u78 u79 u80 u81 u82 u83 u84 u85 u86 u87 u88 u89 u90 u91 u92 u93 u94 u95 u96 u97 u98 u99 u100 u101 u102 u103 u104 u105 u106 u107 u108 u109 u110 u111 u112 u113 u114 u115 u116 u117 u118 u119 u120 u121 u122 u123 u124 u125 u126 u127 u128 u129 u130 u131 u132 u133 u134 u135 u136 u137 u138 u139 u140 u141 u142 u143 u144 u145 u146 u147 u148 u149 u150 u151 u152 u153 u154 u155 u156 u157 u158 u159 u160 u161 u162 u163 u164 u165 u166 u167 u168 u169 u170 u171 u172 u173 u174 u175 u176 u177 u178 u179 u180 u181 u182 u183 u184 u185 u186 u187 u188 u189 u190 u191 u192 u193 u194 u195 u196 u197 u198 u199 u200 u201 u202 u203 u204 u205 u206 u207 u208 u209 u210 u211 u212 u213 u214 u215 u216 u217 u218 u219 u220 u221 u222 u223 u224 u225 u226 u227 u228 u229 u230 u231 u232 u233 u234 u235 u236 u237 u238 u239 u240 u241 u242 u243 u244 u245 u246 u247 u248 u249 u250 u251 u252 u253 u254 u255 u256 u257 u258 u259 u260 u261 u262 u263 u264 u265 u266 u267 u268 u269 u270 u271 u272 u273 u274 u275 u276 u277 u278 u279 u280 u281 u282 u283 u284 u285 u286 u287 u288 u289 u290 u291 u292 u293 u294 u295 u296 u297 u298 u299 u300 u301 u302 u303 u304 u305 u306 u307 u308 u309 u310 u311 u312 u313 u314 u315 u316 : Value) (w : World)
    (K : Act → World → Prop) (Q : Exit → Act → World → Prop) (hX : ∀ (g28 g30 g232 g233 g234 g235 g236 g237 g238 g239 g240 g241 g242 g243 g244 g245 g246 g247 g248 g249 g250 g251 g252 g253 g254 g255 g256 g257 g258 g259 g260 g261 g262 g263 g264 g265 g266 g267 g268 g269 g270 g271 g272 g273 g274 g275 g276 g277 g278 g279 g280 g281 g282 g283 g284 g285 g286 g287 g288 g289 g290 g291 g292 g293 g294 g295 g296 g297 g298 g299 g300 g301 g302 g303 g304 g305 g306 : Value), g28 = u28 → Q (.exit 12) ⟨#[.slice al L cl, u1, u2, .slice ae L ce, u4, u5, u6, u7, u8, u9, u10, u11, u12, u13, .slice (some ⟨G, 0, none⟩) n cn, u15, u16, u17, u18, u19, u20, u21, u22, u23, u24, u25, u26, u27, g28, .int .i64 ((n : Nat) : Int), g30, u31, u32, u33, u34, u35, u36, u37, u38, u39, u40, u41, u42, u43, u44, u45, u46, u47, u48, u49, u50, u51, u52, u53, u54, u55, u56, u57, u58, u59, u60, u61, u62, u63, u64, u65, u66, u67, u68, u69, u70, u71, u72, u73, u74, u75, u76, u77, u78, u79, u80, u81, u82, u83, u84, u85, u86, u87, u88, u89, u90, u91, u92, u93, u94, u95, u96, u97, u98, u99, u100, u101, u102, u103, u104, u105, u106, u107, u108, u109, u110, u111, u112, u113, u114, u115, u116, u117, u118, u119, u120, u121, u122, u123, u124, u125, u126, u127, u128, u129, u130, u131, u132, u133, u134, u135, u136, u137, u138, u139, u140, u141, u142, u143, u144, u145, u146, u147, u148, u149, u150, u151, u152, u153, u154, u155, u156, u157, u158, u159, u160, u161, u162, u163, u164, u165, u166, u167, u168, u169, u170, u171, u172, u173, u174, u175, u176, u177, u178, u179, u180, u181, u182, u183, u184, u185, u186, u187, u188, u189, u190, u191, u192, u193, u194, u195, u196, u197, u198, u199, u200, u201, u202, u203, u204, u205, u206, u207, u208, u209, u210, u211, u212, u213, u214, u215, u216, u217, u218, u219, u220, u221, u222, u223, u224, u225, u226, u227, u228, u229, u230, u231, g232, g233, g234, g235, g236, g237, g238, g239, g240, g241, g242, g243, g244, g245, g246, g247, g248, g249, g250, g251, g252, g253, g254, g255, g256, g257, g258, g259, g260, g261, g262, g263, g264, g265, g266, g267, g268, g269, g270, g271, g272, g273, g274, g275, g276, g277, g278, g279, g280, g281, g282, g283, g284, g285, g286, g287, g288, g289, g290, g291, g292, g293, g294, g295, g296, g297, g298, g299, g300, g301, g302, g303, g304, g305, g306, u307, u308, u309, u310, u311, u312, u313, u314, u315, u316], []⟩ w) :
    Code.wp Try.prog (bodyBF Try.f29) (Exit.then K Q) ⟨#[.slice al L cl, u1, u2, .slice ae L ce, u4, u5, u6, u7, u8, u9, u10, u11, u12, u13, .slice (some ⟨G, 0, none⟩) n cn, u15, u16, u17, u18, u19, u20, u21, u22, u23, u24, u25, u26, u27, u28, .int .i64 ((n : Nat) : Int), u30, u31, u32, u33, u34, u35, u36, u37, u38, u39, u40, u41, u42, u43, u44, u45, u46, u47, u48, u49, u50, u51, u52, u53, u54, u55, u56, u57, u58, u59, u60, u61, u62, u63, u64, u65, u66, u67, u68, u69, u70, u71, u72, u73, u74, u75, u76, u77, u78, u79, u80, u81, u82, u83, u84, u85, u86, u87, u88, u89, u90, u91, u92, u93, u94, u95, u96, u97, u98, u99, u100, u101, u102, u103, u104, u105, u106, u107, u108, u109, u110, u111, u112, u113, u114, u115, u116, u117, u118, u119, u120, u121, u122, u123, u124, u125, u126, u127, u128, u129, u130, u131, u132, u133, u134, u135, u136, u137, u138, u139, u140, u141, u142, u143, u144, u145, u146, u147, u148, u149, u150, u151, u152, u153, u154, u155, u156, u157, u158, u159, u160, u161, u162, u163, u164, u165, u166, u167, u168, u169, u170, u171, u172, u173, u174, u175, u176, u177, u178, u179, u180, u181, u182, u183, u184, u185, u186, u187, u188, u189, u190, u191, u192, u193, u194, u195, u196, u197, u198, u199, u200, u201, u202, u203, u204, u205, u206, u207, u208, u209, u210, u211, u212, u213, u214, u215, u216, u217, u218, u219, u220, u221, u222, u223, u224, u225, u226, u227, u228, u229, u230, u231, u232, u233, u234, u235, u236, u237, u238, u239, u240, u241, u242, u243, u244, u245, u246, u247, u248, u249, u250, u251, u252, u253, u254, u255, u256, u257, u258, u259, u260, u261, u262, u263, u264, u265, u266, u267, u268, u269, u270, u271, u272, u273, u274, u275, u276, u277, u278, u279, u280, u281, u282, u283, u284, u285, u286, u287, u288, u289, u290, u291, u292, u293, u294, u295, u296, u297, u298, u299, u300, u301, u302, u303, u304, u305, u306, u307, u308, u309, u310, u311, u312, u313, u314, u315, u316], []⟩ w := by
  conv => arg 2; whnf
  have HX := hide' hX
  clear hX
  go_wp2_with fail
  exact HX.out _ _ _ _ _ _ _ _ _ _ _ _ _ _ _ _ _ _ _ _ _ _ _ _ _ _ _ _ _ _ _ _ _ _ _ _ _ _ _ _ _ _ _ _ _ _ _ _ _ _ _ _ _ _ _ _ _ _ _ _ _ _ _ _ _ _ _ _ _ _ _ _ _ _ _ _ _ rfl
set_option maxRecDepth 1000000 in
set_option maxHeartbeats 8000000 in
theorem roundB_0 (hL2 : L ≤ 2) (W : World) (h4 : RowAt W (.slice ae L ce) L 1 (ints en)) (hel : en.length = L) (heb : ∀ x ∈ en, 0 ≤ x ∧ x ≤ 1000) {B n cn G H : Nat} {now : List Wet} (hB : B = W.heap.size) (hn : now.length = n) (hnb : n ≤ 152587890625) (hH8 : H ≤ 8) (hok : ∀ y ∈ now, NowOk ls L H y) (hgb : ∀ y ∈ now, 0 ≤ y.s.l0 ∧ y.s.l0 ≤ 20 ∧ 0 ≤ y.s.l1 ∧ y.s.l1 ≤ 20) (hk : 0 < n) (u1 u2 u4 u5 u6 u7 u8 u9 u10 u11 u12 u13 u15 u16 u17 u18 u19 u20 u21 u22 u23 u24 u25 u26 u27 u30 u31 u32 u33 u34 u35 u36 u37 u38 u39 u40 u41 u42 u43 u44 u45 u46 u47 u48 u49 u50 u51 u52 u53 u54 u55 u56 u57 u58 u59 u60 u61 u62 u63 u64 u65 u66 u67 u68 u69 u70 u71 u72 u73 u74 u75 u76 u77 u78 u79 u80 u81 u82 u83 u84 u85 u86 u87 u88 u89 u90 u91 u92 u93 u94 u95 u96 u97 u98 u99 u100 u101 u102 u103 u104 u105 u106 u107 u108 u109 u110 u111 u112 u113 u114 u115 u116 u117 u118 u119 u120 u121 u122 u123 u124 u125 u126 u127 u128 u129 u130 u131 u132 u133 u134 u135 u136 u137 u138 u139 u140 u141 u142 u143 u144 u145 u146 u147 u148 u149 u150 u151 u152 u153 u154 u155 u156 u157 u158 u159 u160 u161 u162 u163 u164 u165 u166 u167 u168 u169 u170 u171 u172 u173 u174 u175 u176 u177 u178 u179 u180 u181 u182 u183 u184 u185 u186 u187 u188 u189 u190 u191 u192 u193 u194 u195 u196 u197 u198 u199 u200 u201 u202 u203 u204 u205 u206 u207 u208 u209 u210 u211 u212 u213 u214 u215 u216 u217 u218 u219 u220 u221 u222 u223 u224 u225 u226 u227 u228 u229 u230 u231 u232 u233 u234 u235 u236 u237 u238 u239 u240 u241 u242 u243 u244 u245 u246 u247 u248 u249 u250 u251 u252 u253 u254 u255 u256 u257 u258 u259 u260 u261 u262 u263 u264 u265 u266 u267 u268 u269 u270 u271 u272 u273 u274 u275 u276 u277 u278 u279 u280 u281 u282 u283 u284 u285 u286 u287 u288 u289 u290 u291 u292 u293 u294 u295 u296 u297 u298 u299 u300 u301 u302 u303 u304 u305 u306 u307 u308 u309 u310 u311 u312 u313 u314 u315 u316 : Value) (w : World) (hI : (WetsAt w B (.slice (some ⟨G, 0, none⟩) n cn) L (doneL en L 0 now) ∧ Below B W w ∧ BestI en L now 0 (.int .i64 (-1))))
    (K : Act → World → Prop) (Q : Exit → Act → World → Prop) (hQ : ∀ c a a' w, Q (.panic c) a' w → Q (.panic c) a w) (hK : ∀ (g28 g30 g232 g233 g234 g235 g236 g237 g238 g239 g240 g241 g242 g243 g244 g245 g246 g247 g248 g249 g250 g251 g252 g253 g254 g255 g256 g257 g258 g259 g260 g261 g262 g263 g264 g265 g266 g267 g268 g269 g270 g271 g272 g273 g274 g275 g276 g277 g278 g279 g280 g281 g282 g283 g284 g285 g286 g287 g288 g289 g290 g291 g292 g293 g294 g295 g296 g297 g298 g299 g300 g301 g302 g303 g304 g305 g306 : Value) (w' : World), (WetsAt w' B (.slice (some ⟨G, 0, none⟩) n cn) L (doneL en L 1 now) ∧ Below B W w' ∧ BestI en L now 1 (g28)) → K ⟨#[.slice al L cl, u1, u2, .slice ae L ce, u4, u5, u6, u7, u8, u9, u10, u11, u12, u13, .slice (some ⟨G, 0, none⟩) n cn, u15, u16, u17, u18, u19, u20, u21, u22, u23, u24, u25, u26, u27, g28, .int .i64 (((0 : Nat) : Int) + 1), g30, u31, u32, u33, u34, u35, u36, u37, u38, u39, u40, u41, u42, u43, u44, u45, u46, u47, u48, u49, u50, u51, u52, u53, u54, u55, u56, u57, u58, u59, u60, u61, u62, u63, u64, u65, u66, u67, u68, u69, u70, u71, u72, u73, u74, u75, u76, u77, u78, u79, u80, u81, u82, u83, u84, u85, u86, u87, u88, u89, u90, u91, u92, u93, u94, u95, u96, u97, u98, u99, u100, u101, u102, u103, u104, u105, u106, u107, u108, u109, u110, u111, u112, u113, u114, u115, u116, u117, u118, u119, u120, u121, u122, u123, u124, u125, u126, u127, u128, u129, u130, u131, u132, u133, u134, u135, u136, u137, u138, u139, u140, u141, u142, u143, u144, u145, u146, u147, u148, u149, u150, u151, u152, u153, u154, u155, u156, u157, u158, u159, u160, u161, u162, u163, u164, u165, u166, u167, u168, u169, u170, u171, u172, u173, u174, u175, u176, u177, u178, u179, u180, u181, u182, u183, u184, u185, u186, u187, u188, u189, u190, u191, u192, u193, u194, u195, u196, u197, u198, u199, u200, u201, u202, u203, u204, u205, u206, u207, u208, u209, u210, u211, u212, u213, u214, u215, u216, u217, u218, u219, u220, u221, u222, u223, u224, u225, u226, u227, u228, u229, u230, u231, g232, g233, g234, g235, g236, g237, g238, g239, g240, g241, g242, g243, g244, g245, g246, g247, g248, g249, g250, g251, g252, g253, g254, g255, g256, g257, g258, g259, g260, g261, g262, g263, g264, g265, g266, g267, g268, g269, g270, g271, g272, g273, g274, g275, g276, g277, g278, g279, g280, g281, g282, g283, g284, g285, g286, g287, g288, g289, g290, g291, g292, g293, g294, g295, g296, g297, g298, g299, g300, g301, g302, g303, g304, g305, g306, u307, u308, u309, u310, u311, u312, u313, u314, u315, u316], []⟩ w') :
    Code.wp Try.prog (bodyBF Try.f29) (Exit.then K Q) ⟨#[.slice al L cl, u1, u2, .slice ae L ce, u4, u5, u6, u7, u8, u9, u10, u11, u12, u13, .slice (some ⟨G, 0, none⟩) n cn, u15, u16, u17, u18, u19, u20, u21, u22, u23, u24, u25, u26, u27, .int .i64 (-1), .int .i64 ((0 : Nat) : Int), u30, u31, u32, u33, u34, u35, u36, u37, u38, u39, u40, u41, u42, u43, u44, u45, u46, u47, u48, u49, u50, u51, u52, u53, u54, u55, u56, u57, u58, u59, u60, u61, u62, u63, u64, u65, u66, u67, u68, u69, u70, u71, u72, u73, u74, u75, u76, u77, u78, u79, u80, u81, u82, u83, u84, u85, u86, u87, u88, u89, u90, u91, u92, u93, u94, u95, u96, u97, u98, u99, u100, u101, u102, u103, u104, u105, u106, u107, u108, u109, u110, u111, u112, u113, u114, u115, u116, u117, u118, u119, u120, u121, u122, u123, u124, u125, u126, u127, u128, u129, u130, u131, u132, u133, u134, u135, u136, u137, u138, u139, u140, u141, u142, u143, u144, u145, u146, u147, u148, u149, u150, u151, u152, u153, u154, u155, u156, u157, u158, u159, u160, u161, u162, u163, u164, u165, u166, u167, u168, u169, u170, u171, u172, u173, u174, u175, u176, u177, u178, u179, u180, u181, u182, u183, u184, u185, u186, u187, u188, u189, u190, u191, u192, u193, u194, u195, u196, u197, u198, u199, u200, u201, u202, u203, u204, u205, u206, u207, u208, u209, u210, u211, u212, u213, u214, u215, u216, u217, u218, u219, u220, u221, u222, u223, u224, u225, u226, u227, u228, u229, u230, u231, u232, u233, u234, u235, u236, u237, u238, u239, u240, u241, u242, u243, u244, u245, u246, u247, u248, u249, u250, u251, u252, u253, u254, u255, u256, u257, u258, u259, u260, u261, u262, u263, u264, u265, u266, u267, u268, u269, u270, u271, u272, u273, u274, u275, u276, u277, u278, u279, u280, u281, u282, u283, u284, u285, u286, u287, u288, u289, u290, u291, u292, u293, u294, u295, u296, u297, u298, u299, u300, u301, u302, u303, u304, u305, u306, u307, u308, u309, u310, u311, u312, u313, u314, u315, u316], []⟩ w := by
  have hlt : 0 < now.length := by omega
  obtain ⟨x, hx⟩ : ∃ x, now[0]? = some x := ⟨_, List.getElem?_eq_getElem hlt⟩
  have hxm := List.mem_of_getElem? hx
  have HXD := hide' hx
  have HK := hide' hK
  have HQ := hide' hQ
  have HI := hide' hI
  have H4 := hide' h4
  have HEL := hide' hel
  have HEB := hide' heb
  have HBB := hide' hB
  have HN := hide' hn
  have HG := hide' (hgb x hxm)
  have HXE : Hid (0 ≤ x.e ∧ x.e ≤ 64000000) := by have := (hok x hxm).e; show _ ∧ _; omega
  clear hK hQ hI h4 hel heb hB hn hok hgb hx hxm
  conv => arg 2; whnf
  go_wp2_with fail
  refine loopE (k := 0) (xs := doneL en L 0 now) (x := x) hL2 W H4.out HEL.out HEB.out HBB.out (by rw [done_len]; exact HN.out) hnb (by rw [done_at HXD.out, if_neg (by omega)]) HG.out HXE.out _ _ _ _ _ _ _ _ _ _ _ _ _ _ _ _ _ _ _ _ _ _ _ _ _ _ _ _ _ _ _ _ _ _ _ _ _ _ _ _ _ _ _ _ _ _ _ _ _ _ _ _ _ _ _ _ _ _ _ _ _ _ _ _ _ _ _ _ _ _ _ _ _ _ _ _ _ _ _ _ _ _ _ _ _ _ _ _ _ _ _ _ _ _ _ _ _ _ _ _ _ _ _ _ _ _ _ _ _ _ _ _ _ _ _ _ _ _ _ _ _ _ _ _ _ _ _ _ _ _ _ _ _ _ _ _ _ _ _ _ _ _ _ _ _ _ _ _ _ _ _ _ _ _ _ _ _ _ _ _ _ _ _ _ _ _ _ _ _ _ _ _ _ _ _ _ _ _ _ _ _ _ _ _ _ _ _ _ _ _ _ _ _ _ _ _ _ _ _ _ _ _ _ _ _ _ _ _ _ _ _ _ _ _ _ _ _ _ _ _ _ _ _ _ _ _ _ _ _ _ _ _ _ _ _ _ _ _ _ _ _ _ _ _ _ _ _ _ _ _ _ _ _ _ _ _ _ _ _ _ _ _ _ _ _ _ _ _ _ _ _ _ _ _ _ _ _ _ _ _ _ _ _ _ _ _ _ _ _ _ _ _ _ _ _ _ _ _ _ _ _ _ _ _ _ _ _ _ _ _ _ _ _ ⟨HI.out.1, HI.out.2.1⟩ _ (fun c a a' w h => HQ.out c _ _ w h) ?_
  intro f w1 hI1
  have HI1 : Hid (WetsAt w1 B (.slice (some ⟨G, 0, none⟩) n cn) L (doneL en L (0 + 1) now) ∧ Below B W w1) := by
    rw [← done_set HXD.out]
    exact hI1
  clear hI1 HI
  go_wp2_with fail
  go_upto_region 51 with fail
  go_quiet (fail)
  go_wp2_with fail
  refine HK.out _ _ _ _ _ _ _ _ _ _ _ _ _ _ _ _ _ _ _ _ _ _ _ _ _ _ _ _ _ _ _ _ _ _ _ _ _ _ _ _ _ _ _ _ _ _ _ _ _ _ _ _ _ _ _ _ _ _ _ _ _ _ _ _ _ _ _ _ _ _ _ _ _ _ _ _ _ _ ⟨HI1.out.1.below (below_drewN (Below.refl _ w1) _), below_drewN HI1.out.2 _, best_first HXD.out⟩
set_option maxRecDepth 1000000 in
set_option maxHeartbeats 8000000 in
theorem roundB_s (hL2 : L ≤ 2) (W : World) (h4 : RowAt W (.slice ae L ce) L 1 (ints en)) (hel : en.length = L) (heb : ∀ x ∈ en, 0 ≤ x ∧ x ≤ 1000) {B n cn G H : Nat} {now : List Wet} (hB : B = W.heap.size) (hn : now.length = n) (hnb : n ≤ 152587890625) (hH8 : H ≤ 8) (hok : ∀ y ∈ now, NowOk ls L H y) (hgb : ∀ y ∈ now, 0 ≤ y.s.l0 ∧ y.s.l0 ≤ 20 ∧ 0 ≤ y.s.l1 ∧ y.s.l1 ≤ 20) {k b : Nat} (hk : k < n) (hb : b < k) {y : Wet} (hy : now[b]? = some y) (hby : ∀ (i : Nat) (z : Wet), i < k → now[i]? = some z → (y.fin en L).as (z.fin en L)) (u1 u2 u4 u5 u6 u7 u8 u9 u10 u11 u12 u13 u15 u16 u17 u18 u19 u20 u21 u22 u23 u24 u25 u26 u27 u30 u31 u32 u33 u34 u35 u36 u37 u38 u39 u40 u41 u42 u43 u44 u45 u46 u47 u48 u49 u50 u51 u52 u53 u54 u55 u56 u57 u58 u59 u60 u61 u62 u63 u64 u65 u66 u67 u68 u69 u70 u71 u72 u73 u74 u75 u76 u77 u78 u79 u80 u81 u82 u83 u84 u85 u86 u87 u88 u89 u90 u91 u92 u93 u94 u95 u96 u97 u98 u99 u100 u101 u102 u103 u104 u105 u106 u107 u108 u109 u110 u111 u112 u113 u114 u115 u116 u117 u118 u119 u120 u121 u122 u123 u124 u125 u126 u127 u128 u129 u130 u131 u132 u133 u134 u135 u136 u137 u138 u139 u140 u141 u142 u143 u144 u145 u146 u147 u148 u149 u150 u151 u152 u153 u154 u155 u156 u157 u158 u159 u160 u161 u162 u163 u164 u165 u166 u167 u168 u169 u170 u171 u172 u173 u174 u175 u176 u177 u178 u179 u180 u181 u182 u183 u184 u185 u186 u187 u188 u189 u190 u191 u192 u193 u194 u195 u196 u197 u198 u199 u200 u201 u202 u203 u204 u205 u206 u207 u208 u209 u210 u211 u212 u213 u214 u215 u216 u217 u218 u219 u220 u221 u222 u223 u224 u225 u226 u227 u228 u229 u230 u231 u232 u233 u234 u235 u236 u237 u238 u239 u240 u241 u242 u243 u244 u245 u246 u247 u248 u249 u250 u251 u252 u253 u254 u255 u256 u257 u258 u259 u260 u261 u262 u263 u264 u265 u266 u267 u268 u269 u270 u271 u272 u273 u274 u275 u276 u277 u278 u279 u280 u281 u282 u283 u284 u285 u286 u287 u288 u289 u290 u291 u292 u293 u294 u295 u296 u297 u298 u299 u300 u301 u302 u303 u304 u305 u306 u307 u308 u309 u310 u311 u312 u313 u314 u315 u316 : Value) (w : World) (hI : WetsAt w B (.slice (some ⟨G, 0, none⟩) n cn) L (doneL en L k now) ∧ Below B W w)
    (K : Act → World → Prop) (Q : Exit → Act → World → Prop) (hQ : ∀ c a a' w, Q (.panic c) a' w → Q (.panic c) a w) (hK : ∀ (g28 g30 g232 g233 g234 g235 g236 g237 g238 g239 g240 g241 g242 g243 g244 g245 g246 g247 g248 g249 g250 g251 g252 g253 g254 g255 g256 g257 g258 g259 g260 g261 g262 g263 g264 g265 g266 g267 g268 g269 g270 g271 g272 g273 g274 g275 g276 g277 g278 g279 g280 g281 g282 g283 g284 g285 g286 g287 g288 g289 g290 g291 g292 g293 g294 g295 g296 g297 g298 g299 g300 g301 g302 g303 g304 g305 g306 : Value) (w' : World), (WetsAt w' B (.slice (some ⟨G, 0, none⟩) n cn) L (doneL en L (k + 1) now) ∧ Below B W w' ∧ BestI en L now (k + 1) (g28)) → K ⟨#[.slice al L cl, u1, u2, .slice ae L ce, u4, u5, u6, u7, u8, u9, u10, u11, u12, u13, .slice (some ⟨G, 0, none⟩) n cn, u15, u16, u17, u18, u19, u20, u21, u22, u23, u24, u25, u26, u27, g28, .int .i64 ((k : Int) + 1), g30, u31, u32, u33, u34, u35, u36, u37, u38, u39, u40, u41, u42, u43, u44, u45, u46, u47, u48, u49, u50, u51, u52, u53, u54, u55, u56, u57, u58, u59, u60, u61, u62, u63, u64, u65, u66, u67, u68, u69, u70, u71, u72, u73, u74, u75, u76, u77, u78, u79, u80, u81, u82, u83, u84, u85, u86, u87, u88, u89, u90, u91, u92, u93, u94, u95, u96, u97, u98, u99, u100, u101, u102, u103, u104, u105, u106, u107, u108, u109, u110, u111, u112, u113, u114, u115, u116, u117, u118, u119, u120, u121, u122, u123, u124, u125, u126, u127, u128, u129, u130, u131, u132, u133, u134, u135, u136, u137, u138, u139, u140, u141, u142, u143, u144, u145, u146, u147, u148, u149, u150, u151, u152, u153, u154, u155, u156, u157, u158, u159, u160, u161, u162, u163, u164, u165, u166, u167, u168, u169, u170, u171, u172, u173, u174, u175, u176, u177, u178, u179, u180, u181, u182, u183, u184, u185, u186, u187, u188, u189, u190, u191, u192, u193, u194, u195, u196, u197, u198, u199, u200, u201, u202, u203, u204, u205, u206, u207, u208, u209, u210, u211, u212, u213, u214, u215, u216, u217, u218, u219, u220, u221, u222, u223, u224, u225, u226, u227, u228, u229, u230, u231, g232, g233, g234, g235, g236, g237, g238, g239, g240, g241, g242, g243, g244, g245, g246, g247, g248, g249, g250, g251, g252, g253, g254, g255, g256, g257, g258, g259, g260, g261, g262, g263, g264, g265, g266, g267, g268, g269, g270, g271, g272, g273, g274, g275, g276, g277, g278, g279, g280, g281, g282, g283, g284, g285, g286, g287, g288, g289, g290, g291, g292, g293, g294, g295, g296, g297, g298, g299, g300, g301, g302, g303, g304, g305, g306, u307, u308, u309, u310, u311, u312, u313, u314, u315, u316], []⟩ w') :
    Code.wp Try.prog (bodyBF Try.f29) (Exit.then K Q) ⟨#[.slice al L cl, u1, u2, .slice ae L ce, u4, u5, u6, u7, u8, u9, u10, u11, u12, u13, .slice (some ⟨G, 0, none⟩) n cn, u15, u16, u17, u18, u19, u20, u21, u22, u23, u24, u25, u26, u27, .int .i64 (b : Int), .int .i64 (k : Int), u30, u31, u32, u33, u34, u35, u36, u37, u38, u39, u40, u41, u42, u43, u44, u45, u46, u47, u48, u49, u50, u51, u52, u53, u54, u55, u56, u57, u58, u59, u60, u61, u62, u63, u64, u65, u66, u67, u68, u69, u70, u71, u72, u73, u74, u75, u76, u77, u78, u79, u80, u81, u82, u83, u84, u85, u86, u87, u88, u89, u90, u91, u92, u93, u94, u95, u96, u97, u98, u99, u100, u101, u102, u103, u104, u105, u106, u107, u108, u109, u110, u111, u112, u113, u114, u115, u116, u117, u118, u119, u120, u121, u122, u123, u124, u125, u126, u127, u128, u129, u130, u131, u132, u133, u134, u135, u136, u137, u138, u139, u140, u141, u142, u143, u144, u145, u146, u147, u148, u149, u150, u151, u152, u153, u154, u155, u156, u157, u158, u159, u160, u161, u162, u163, u164, u165, u166, u167, u168, u169, u170, u171, u172, u173, u174, u175, u176, u177, u178, u179, u180, u181, u182, u183, u184, u185, u186, u187, u188, u189, u190, u191, u192, u193, u194, u195, u196, u197, u198, u199, u200, u201, u202, u203, u204, u205, u206, u207, u208, u209, u210, u211, u212, u213, u214, u215, u216, u217, u218, u219, u220, u221, u222, u223, u224, u225, u226, u227, u228, u229, u230, u231, u232, u233, u234, u235, u236, u237, u238, u239, u240, u241, u242, u243, u244, u245, u246, u247, u248, u249, u250, u251, u252, u253, u254, u255, u256, u257, u258, u259, u260, u261, u262, u263, u264, u265, u266, u267, u268, u269, u270, u271, u272, u273, u274, u275, u276, u277, u278, u279, u280, u281, u282, u283, u284, u285, u286, u287, u288, u289, u290, u291, u292, u293, u294, u295, u296, u297, u298, u299, u300, u301, u302, u303, u304, u305, u306, u307, u308, u309, u310, u311, u312, u313, u314, u315, u316], []⟩ w := by
  have hlt : k < now.length := by omega
  obtain ⟨x, hx⟩ : ∃ x, now[k]? = some x := ⟨_, List.getElem?_eq_getElem hlt⟩
  have hxm := List.mem_of_getElem? hx
  have hym := List.mem_of_getElem? hy
  have hxl : x.t.length = H := (hok x hxm).t
  have hyl : y.t.length = H := (hok y hym).t
  have HXR := hide' (hok x hxm).r
  have HYR := hide' (hok y hym).r
  have HXD := hide' hx
  have HYD := hide' hy
  have HBY := hide' hby
  have HK := hide' hK
  have HQ := hide' hQ
  have HI := hide' hI
  have H4 := hide' h4
  have HEL := hide' hel
  have HEB := hide' heb
  have HBB := hide' hB
  have HN := hide' hn
  have HG := hide' (hgb x hxm)
  have HXE : Hid (0 ≤ x.e ∧ x.e ≤ 64000000) := by have := (hok x hxm).e; show _ ∧ _; omega
  have HXL := hide' hxl
  have HYL := hide' hyl
  clear hK hQ hI h4 hel heb hB hn hok hgb hx hxm hy hym hby hxl hyl
  conv => arg 2; whnf
  go_wp2_with fail
  refine loopE (k := k) (xs := doneL en L k now) (x := x) hL2 W H4.out HEL.out HEB.out HBB.out (by rw [done_len]; exact HN.out) hnb (by rw [done_at HXD.out, if_neg (by omega)]) HG.out HXE.out _ _ _ _ _ _ _ _ _ _ _ _ _ _ _ _ _ _ _ _ _ _ _ _ _ _ _ _ _ _ _ _ _ _ _ _ _ _ _ _ _ _ _ _ _ _ _ _ _ _ _ _ _ _ _ _ _ _ _ _ _ _ _ _ _ _ _ _ _ _ _ _ _ _ _ _ _ _ _ _ _ _ _ _ _ _ _ _ _ _ _ _ _ _ _ _ _ _ _ _ _ _ _ _ _ _ _ _ _ _ _ _ _ _ _ _ _ _ _ _ _ _ _ _ _ _ _ _ _ _ _ _ _ _ _ _ _ _ _ _ _ _ _ _ _ _ _ _ _ _ _ _ _ _ _ _ _ _ _ _ _ _ _ _ _ _ _ _ _ _ _ _ _ _ _ _ _ _ _ _ _ _ _ _ _ _ _ _ _ _ _ _ _ _ _ _ _ _ _ _ _ _ _ _ _ _ _ _ _ _ _ _ _ _ _ _ _ _ _ _ _ _ _ _ _ _ _ _ _ _ _ _ _ _ _ _ _ _ _ _ _ _ _ _ _ _ _ _ _ _ _ _ _ _ _ _ _ _ _ _ _ _ _ _ _ _ _ _ _ _ _ _ _ _ _ _ _ _ _ _ _ _ _ _ _ _ _ _ _ _ _ _ _ _ _ _ _ _ _ _ _ _ _ _ _ _ _ _ _ _ _ _ _ HI.out _ (fun c a a' w h => HQ.out c _ _ w h) ?_
  intro f w1 hI1
  have HI1 : Hid (WetsAt w1 B (.slice (some ⟨G, 0, none⟩) n cn) L (doneL en L (k + 1) now) ∧ Below B W w1) := by
    rw [← done_set HXD.out]
    exact hI1
  clear hI1 HI
  obtain ⟨G1, c1, xl, xlc, xc, xcc, xr, xrc, en1, hG1, ⟨k0, k1, k2, k3⟩, _, _, os1, _⟩ := HI1.out.1.cell (k := k) (x := x.fin en L) (by rw [done_at HXD.out, if_pos (by omega)])
  obtain ⟨G2, c2, yl, ylc, yc, ycc, yr, yrc, en2, hG2, ⟨y0, y1, y2, y3⟩, _, _, os2, _⟩ := HI1.out.1.cell (k := b) (x := y.fin en L) (by rw [done_at HYD.out, if_pos (by omega)])
  simp only [Value.slice.injEq, Option.some.injEq, Addr.mk.injEq] at en1 en2
  obtain ⟨⟨rfl, hz1, hz2⟩, hz3, rfl⟩ := en1
  obtain ⟨⟨rfl, hz4, hz5⟩, hz6, hz7⟩ := en2
  clear hz1 hz2 hz3 hz4 hz5 hz6 hz7
  rw [show (x.fin en L).t.length = H from HXL.out] at k3 os1
  rw [show (y.fin en L).t.length = H from HYL.out] at y3 os2
  have HQA : Hid (∀ q, Calls Try.prog 53 #[.slice xr H xrc, .slice yr H yrc] (w1.drewN q) fun e w' => e = .returned (.bool (lxB x.t.flatten y.t.flatten)) ∧ ∃ m, w' = (w1.drewN q).drewN m) := fun q => by
    have hbn : Below w1.heap.size w1 (w1.drewN q) := below_drewN (Below.refl _ w1) q
    refine (ahead_quiet x.t y.t xr yr xrc yrc H L (w1.drewN q) (os1.below hbn).tab (os2.below hbn).tab HXL.out HYL.out (fun q hq => HXR.out _ (by rw [List.getD_eq_getElem?_getD, List.getElem?_eq_getElem (by rw [HXL.out]; exact hq)]; exact List.getElem_mem _)) (fun q hq => HYR.out _ (by rw [List.getD_eq_getElem?_getD, List.getElem?_eq_getElem (by rw [HYL.out]; exact hq)]; exact List.getElem_mem _)) hH8 hL2).mono ?_
    rintro e w' ⟨q, rfl, hq, hm⟩
    exact ⟨by rw [lxB_of hq], hm⟩
  obtain ⟨xe, HXV⟩ : ∃ q, Hid (q = (x.fin en L).e) := ⟨_, rfl⟩
  obtain ⟨ye, HYV⟩ : ∃ q, Hid (q = (y.fin en L).e) := ⟨_, rfl⟩
  rw [← HXV.out] at k2
  rw [← HYV.out] at y2
  have hkz : (0 : Int) ≤ (k : Int) ∧ (k : Int) < (n : Int) := by omega
  have hbz : (0 : Int) ≤ (b : Int) ∧ (b : Int) < (n : Int) := by omega
  have hb0 : decide ((b : Int) < 0) = false := decide_eq_false (by omega)
  clear os1 os2 k0 k1 y0 y1 hG1 hG2
  go_wp2_with fail
  go_upto_region 51 with fail
  go_cut [305] from 265 to 305 (fun p wc => Hid (p = .bool (overB (x.fin en L) (y.fin en L)) ∧ ∃ m, wc = w1.drewN m))
  case first =>
    rcases Int.lt_trichotomy xe ye with h | h | h
    · have HOV : Hid (overB (x.fin en L) (y.fin en L) = false) := overB_no fun h' => by
        unfold Wet.over at h'
        rw [← HXV.out, ← HYV.out] at h'
        rcases h' with h' | ⟨h', _⟩ <;> omega
      have hd : decide (ye < xe) = false := decide_eq_false (by omega)
      have he : (xe == ye) = false := beq_eq_false_iff_ne.2 (by omega)
      clear h
      go_quiet (fail)
      go_wp2_with fail
      go_meet
      case rel => exact ⟨by rw [HOV.out], _, rfl⟩
    · subst h
      have HOV : Hid (overB (x.fin en L) (y.fin en L) = lxB x.t.flatten y.t.flatten) := by
        show _ = _
        rw [Bool.eq_iff_iff, lxB_iff]
        constructor
        · intro h'
          have h2 := overB_iff.1 h'
          unfold Wet.over at h2
          rw [← HXV.out, ← HYV.out] at h2
          rcases h2 with h2 | ⟨_, h2⟩
          · omega
          · exact h2
        · intro h'
          exact overB_yes (.inr ⟨by rw [← HXV.out, ← HYV.out], h'⟩)
      go_quiet ((go_at_call 53; exact Calls.quiet_of (HQA.out _)))
      go_wp2_with fail
      go_meet
      case rel => exact ⟨by rw [HOV.out], _, rfl⟩
    · have HOV : Hid (overB (x.fin en L) (y.fin en L) = true) := overB_yes (.inl (by rw [← HXV.out, ← HYV.out]; exact h))
      have hd : decide (ye < xe) = true := decide_eq_true h
      go_quiet (fail)
      go_wp2_with fail
      go_meet
      case rel => exact ⟨by rw [HOV.out], _, rfl⟩
  case rest =>
    obtain ⟨rfl, m, rfl⟩ := hcut.out
    have HB2 := hide' (And.intro (HI1.out.1.below (below_drewN (Below.refl _ w1) m)) (below_drewN HI1.out.2 m))
    by_cases ho : (x.fin en L).over (y.fin en L)
    · rw [overB_yes ho]
      have HO := hide' ho
      clear ho k2 k3 y2 y3 hcut
      go_wp2_with fail
      exact HK.out _ _ _ _ _ _ _ _ _ _ _ _ _ _ _ _ _ _ _ _ _ _ _ _ _ _ _ _ _ _ _ _ _ _ _ _ _ _ _ _ _ _ _ _ _ _ _ _ _ _ _ _ _ _ _ _ _ _ _ _ _ _ _ _ _ _ _ _ _ _ _ _ _ _ _ _ _ _ ⟨HB2.out.1, HB2.out.2, best_over HXD.out HBY.out HO.out⟩
    · rw [overB_no ho]
      have HO := hide' ho
      clear ho k2 k3 y2 y3 hcut
      go_wp2_with fail
      exact HK.out _ _ _ _ _ _ _ _ _ _ _ _ _ _ _ _ _ _ _ _ _ _ _ _ _ _ _ _ _ _ _ _ _ _ _ _ _ _ _ _ _ _ _ _ _ _ _ _ _ _ _ _ _ _ _ _ _ _ _ _ _ _ _ _ _ _ _ _ _ _ _ _ _ _ _ _ _ _ ⟨HB2.out.1, HB2.out.2, best_keep HXD.out hb HYD.out HBY.out HO.out⟩
set_option maxRecDepth 1000000 in
set_option maxHeartbeats 8000000 in
theorem loopB (hL2 : L ≤ 2) (W : World) (h4 : RowAt W (.slice ae L ce) L 1 (ints en)) (hel : en.length = L) (heb : ∀ x ∈ en, 0 ≤ x ∧ x ≤ 1000) {B n cn G H : Nat} {now : List Wet} (hB : B = W.heap.size) (hn : now.length = n) (hnb : n ≤ 152587890625) (hH8 : H ≤ 8) (hok : ∀ y ∈ now, NowOk ls L H y) (hgb : ∀ y ∈ now, 0 ≤ y.s.l0 ∧ y.s.l0 ≤ 20 ∧ 0 ≤ y.s.l1 ∧ y.s.l1 ≤ 20) (u28 u1 u2 u4 u5 u6 u7 u8 u9 u10 u11 u12 u13 u15 u16 u17 u18 u19 u20 u21 u22 u23 u24 u25 u26 u27 u30 u31 u32 u33 u34 u35 u36 u37 u38 u39 u40 u41 u42 u43 u44 u45 u46 u47 u48 u49 u50 u51 u52 u53 u54 u55 u56 u57 u58 u59 u60 u61 u62 u63 u64 u65 u66 u67 u68 u69 u70 u71 u72 u73 u74 u75 u76 u77 u78 u79 u80 u81 u82 u83 u84 u85 u86 u87 u88 u89 u90 u91 u92 u93 u94 u95 u96 u97 u98 u99 u100 u101 u102 u103 u104 u105 u106 u107 u108 u109 u110 u111 u112 u113 u114 u115 u116 u117 u118 u119 u120 u121 u122 u123 u124 u125 u126 u127 u128 u129 u130 u131 u132 u133 u134 u135 u136 u137 u138 u139 u140 u141 u142 u143 u144 u145 u146 u147 u148 u149 u150 u151 u152 u153 u154 u155 u156 u157 u158 u159 u160 u161 u162 u163 u164 u165 u166 u167 u168 u169 u170 u171 u172 u173 u174 u175 u176 u177 u178 u179 u180 u181 u182 u183 u184 u185 u186 u187 u188 u189 u190 u191 u192 u193 u194 u195 u196 u197 u198 u199 u200 u201 u202 u203 u204 u205 u206 u207 u208 u209 u210 u211 u212 u213 u214 u215 u216 u217 u218 u219 u220 u221 u222 u223 u224 u225 u226 u227 u228 u229 u230 u231 u232 u233 u234 u235 u236 u237 u238 u239 u240 u241 u242 u243 u244 u245 u246 u247 u248 u249 u250 u251 u252 u253 u254 u255 u256 u257 u258 u259 u260 u261 u262 u263 u264 u265 u266 u267 u268 u269 u270 u271 u272 u273 u274 u275 u276 u277 u278 u279 u280 u281 u282 u283 u284 u285 u286 u287 u288 u289 u290 u291 u292 u293 u294 u295 u296 u297 u298 u299 u300 u301 u302 u303 u304 u305 u306 u307 u308 u309 u310 u311 u312 u313 u314 u315 u316 : Value) (w : World) (hI : (WetsAt w B (.slice (some ⟨G, 0, none⟩) n cn) L (doneL en L 0 now) ∧ Below B W w ∧ BestI en L now 0 (u28))) (Q : Exit → Act → World → Prop) (hQ : ∀ c a a' w, Q (.panic c) a' w → Q (.panic c) a w)
    (hX : ∀ (f : Nat → Value) (w' : World), (WetsAt w' B (.slice (some ⟨G, 0, none⟩) n cn) L (doneL en L n now) ∧ Below B W w' ∧ BestI en L now n (f 0)) → Q (.exit 12) ⟨#[.slice al L cl, u1, u2, .slice ae L ce, u4, u5, u6, u7, u8, u9, u10, u11, u12, u13, .slice (some ⟨G, 0, none⟩) n cn, u15, u16, u17, u18, u19, u20, u21, u22, u23, u24, u25, u26, u27, f 0, .int .i64 ((n : Nat) : Int), f 1, u31, u32, u33, u34, u35, u36, u37, u38, u39, u40, u41, u42, u43, u44, u45, u46, u47, u48, u49, u50, u51, u52, u53, u54, u55, u56, u57, u58, u59, u60, u61, u62, u63, u64, u65, u66, u67, u68, u69, u70, u71, u72, u73, u74, u75, u76, u77, u78, u79, u80, u81, u82, u83, u84, u85, u86, u87, u88, u89, u90, u91, u92, u93, u94, u95, u96, u97, u98, u99, u100, u101, u102, u103, u104, u105, u106, u107, u108, u109, u110, u111, u112, u113, u114, u115, u116, u117, u118, u119, u120, u121, u122, u123, u124, u125, u126, u127, u128, u129, u130, u131, u132, u133, u134, u135, u136, u137, u138, u139, u140, u141, u142, u143, u144, u145, u146, u147, u148, u149, u150, u151, u152, u153, u154, u155, u156, u157, u158, u159, u160, u161, u162, u163, u164, u165, u166, u167, u168, u169, u170, u171, u172, u173, u174, u175, u176, u177, u178, u179, u180, u181, u182, u183, u184, u185, u186, u187, u188, u189, u190, u191, u192, u193, u194, u195, u196, u197, u198, u199, u200, u201, u202, u203, u204, u205, u206, u207, u208, u209, u210, u211, u212, u213, u214, u215, u216, u217, u218, u219, u220, u221, u222, u223, u224, u225, u226, u227, u228, u229, u230, u231, f 2, f 3, f 4, f 5, f 6, f 7, f 8, f 9, f 10, f 11, f 12, f 13, f 14, f 15, f 16, f 17, f 18, f 19, f 20, f 21, f 22, f 23, f 24, f 25, f 26, f 27, f 28, f 29, f 30, f 31, f 32, f 33, f 34, f 35, f 36, f 37, f 38, f 39, f 40, f 41, f 42, f 43, f 44, f 45, f 46, f 47, f 48, f 49, f 50, f 51, f 52, f 53, f 54, f 55, f 56, f 57, f 58, f 59, f 60, f 61, f 62, f 63, f 64, f 65, f 66, f 67, f 68, f 69, f 70, f 71, f 72, f 73, f 74, f 75, f 76, u307, u308, u309, u310, u311, u312, u313, u314, u315, u316], []⟩ w') :
    Code.wp Try.prog (Code.loop (bodyBF Try.f29)) Q ⟨#[.slice al L cl, u1, u2, .slice ae L ce, u4, u5, u6, u7, u8, u9, u10, u11, u12, u13, .slice (some ⟨G, 0, none⟩) n cn, u15, u16, u17, u18, u19, u20, u21, u22, u23, u24, u25, u26, u27, u28, .int .i64 ((0 : Nat) : Int), u30, u31, u32, u33, u34, u35, u36, u37, u38, u39, u40, u41, u42, u43, u44, u45, u46, u47, u48, u49, u50, u51, u52, u53, u54, u55, u56, u57, u58, u59, u60, u61, u62, u63, u64, u65, u66, u67, u68, u69, u70, u71, u72, u73, u74, u75, u76, u77, u78, u79, u80, u81, u82, u83, u84, u85, u86, u87, u88, u89, u90, u91, u92, u93, u94, u95, u96, u97, u98, u99, u100, u101, u102, u103, u104, u105, u106, u107, u108, u109, u110, u111, u112, u113, u114, u115, u116, u117, u118, u119, u120, u121, u122, u123, u124, u125, u126, u127, u128, u129, u130, u131, u132, u133, u134, u135, u136, u137, u138, u139, u140, u141, u142, u143, u144, u145, u146, u147, u148, u149, u150, u151, u152, u153, u154, u155, u156, u157, u158, u159, u160, u161, u162, u163, u164, u165, u166, u167, u168, u169, u170, u171, u172, u173, u174, u175, u176, u177, u178, u179, u180, u181, u182, u183, u184, u185, u186, u187, u188, u189, u190, u191, u192, u193, u194, u195, u196, u197, u198, u199, u200, u201, u202, u203, u204, u205, u206, u207, u208, u209, u210, u211, u212, u213, u214, u215, u216, u217, u218, u219, u220, u221, u222, u223, u224, u225, u226, u227, u228, u229, u230, u231, u232, u233, u234, u235, u236, u237, u238, u239, u240, u241, u242, u243, u244, u245, u246, u247, u248, u249, u250, u251, u252, u253, u254, u255, u256, u257, u258, u259, u260, u261, u262, u263, u264, u265, u266, u267, u268, u269, u270, u271, u272, u273, u274, u275, u276, u277, u278, u279, u280, u281, u282, u283, u284, u285, u286, u287, u288, u289, u290, u291, u292, u293, u294, u295, u296, u297, u298, u299, u300, u301, u302, u303, u304, u305, u306, u307, u308, u309, u310, u311, u312, u313, u314, u315, u316], []⟩ w := by
  refine wp_loop (fun a w' => ∃ (k : Nat) (f : Nat → Value), k ≤ n ∧ (WetsAt w' B (.slice (some ⟨G, 0, none⟩) n cn) L (doneL en L k now) ∧ Below B W w' ∧ BestI en L now k (f 0)) ∧ a = ⟨#[.slice al L cl, u1, u2, .slice ae L ce, u4, u5, u6, u7, u8, u9, u10, u11, u12, u13, .slice (some ⟨G, 0, none⟩) n cn, u15, u16, u17, u18, u19, u20, u21, u22, u23, u24, u25, u26, u27, f 0, .int .i64 (k : Int), f 1, u31, u32, u33, u34, u35, u36, u37, u38, u39, u40, u41, u42, u43, u44, u45, u46, u47, u48, u49, u50, u51, u52, u53, u54, u55, u56, u57, u58, u59, u60, u61, u62, u63, u64, u65, u66, u67, u68, u69, u70, u71, u72, u73, u74, u75, u76, u77, u78, u79, u80, u81, u82, u83, u84, u85, u86, u87, u88, u89, u90, u91, u92, u93, u94, u95, u96, u97, u98, u99, u100, u101, u102, u103, u104, u105, u106, u107, u108, u109, u110, u111, u112, u113, u114, u115, u116, u117, u118, u119, u120, u121, u122, u123, u124, u125, u126, u127, u128, u129, u130, u131, u132, u133, u134, u135, u136, u137, u138, u139, u140, u141, u142, u143, u144, u145, u146, u147, u148, u149, u150, u151, u152, u153, u154, u155, u156, u157, u158, u159, u160, u161, u162, u163, u164, u165, u166, u167, u168, u169, u170, u171, u172, u173, u174, u175, u176, u177, u178, u179, u180, u181, u182, u183, u184, u185, u186, u187, u188, u189, u190, u191, u192, u193, u194, u195, u196, u197, u198, u199, u200, u201, u202, u203, u204, u205, u206, u207, u208, u209, u210, u211, u212, u213, u214, u215, u216, u217, u218, u219, u220, u221, u222, u223, u224, u225, u226, u227, u228, u229, u230, u231, f 2, f 3, f 4, f 5, f 6, f 7, f 8, f 9, f 10, f 11, f 12, f 13, f 14, f 15, f 16, f 17, f 18, f 19, f 20, f 21, f 22, f 23, f 24, f 25, f 26, f 27, f 28, f 29, f 30, f 31, f 32, f 33, f 34, f 35, f 36, f 37, f 38, f 39, f 40, f 41, f 42, f 43, f 44, f 45, f 46, f 47, f 48, f 49, f 50, f 51, f 52, f 53, f 54, f 55, f 56, f 57, f 58, f 59, f 60, f 61, f 62, f 63, f 64, f 65, f 66, f 67, f 68, f 69, f 70, f 71, f 72, f 73, f 74, f 75, f 76, u307, u308, u309, u310, u311, u312, u313, u314, u315, u316], []⟩) (fun a _ => n - (intOf (a.tmps.getD 29 (.bool false))).toNat) ⟨0, (fun n => ([u28, u30, u232, u233, u234, u235, u236, u237, u238, u239, u240, u241, u242, u243, u244, u245, u246, u247, u248, u249, u250, u251, u252, u253, u254, u255, u256, u257, u258, u259, u260, u261, u262, u263, u264, u265, u266, u267, u268, u269, u270, u271, u272, u273, u274, u275, u276, u277, u278, u279, u280, u281, u282, u283, u284, u285, u286, u287, u288, u289, u290, u291, u292, u293, u294, u295, u296, u297, u298, u299, u300, u301, u302, u303, u304, u305, u306] : List Value).getD n (.bool false)), Nat.zero_le _, hI, rfl⟩ ?_
  rintro a w' ⟨k, f, hk, hI, rfl⟩
  by_cases hlt : k < n
  · rcases hI.2.2 with ⟨hk0, hbv⟩ | ⟨b, y, hbv, hb, hy, hby⟩
    · subst hk0
      rw [hbv]
      refine roundB_0 hL2 W h4 hel heb hB hn hnb hH8 hok hgb hlt u1 u2 u4 u5 u6 u7 u8 u9 u10 u11 u12 u13 u15 u16 u17 u18 u19 u20 u21 u22 u23 u24 u25 u26 u27 (f 1) u31 u32 u33 u34 u35 u36 u37 u38 u39 u40 u41 u42 u43 u44 u45 u46 u47 u48 u49 u50 u51 u52 u53 u54 u55 u56 u57 u58 u59 u60 u61 u62 u63 u64 u65 u66 u67 u68 u69 u70 u71 u72 u73 u74 u75 u76 u77 u78 u79 u80 u81 u82 u83 u84 u85 u86 u87 u88 u89 u90 u91 u92 u93 u94 u95 u96 u97 u98 u99 u100 u101 u102 u103 u104 u105 u106 u107 u108 u109 u110 u111 u112 u113 u114 u115 u116 u117 u118 u119 u120 u121 u122 u123 u124 u125 u126 u127 u128 u129 u130 u131 u132 u133 u134 u135 u136 u137 u138 u139 u140 u141 u142 u143 u144 u145 u146 u147 u148 u149 u150 u151 u152 u153 u154 u155 u156 u157 u158 u159 u160 u161 u162 u163 u164 u165 u166 u167 u168 u169 u170 u171 u172 u173 u174 u175 u176 u177 u178 u179 u180 u181 u182 u183 u184 u185 u186 u187 u188 u189 u190 u191 u192 u193 u194 u195 u196 u197 u198 u199 u200 u201 u202 u203 u204 u205 u206 u207 u208 u209 u210 u211 u212 u213 u214 u215 u216 u217 u218 u219 u220 u221 u222 u223 u224 u225 u226 u227 u228 u229 u230 u231 (f 2) (f 3) (f 4) (f 5) (f 6) (f 7) (f 8) (f 9) (f 10) (f 11) (f 12) (f 13) (f 14) (f 15) (f 16) (f 17) (f 18) (f 19) (f 20) (f 21) (f 22) (f 23) (f 24) (f 25) (f 26) (f 27) (f 28) (f 29) (f 30) (f 31) (f 32) (f 33) (f 34) (f 35) (f 36) (f 37) (f 38) (f 39) (f 40) (f 41) (f 42) (f 43) (f 44) (f 45) (f 46) (f 47) (f 48) (f 49) (f 50) (f 51) (f 52) (f 53) (f 54) (f 55) (f 56) (f 57) (f 58) (f 59) (f 60) (f 61) (f 62) (f 63) (f 64) (f 65) (f 66) (f 67) (f 68) (f 69) (f 70) (f 71) (f 72) (f 73) (f 74) (f 75) (f 76) u307 u308 u309 u310 u311 u312 u313 u314 u315 u316 w' (by rw [← hbv]; exact hI) _ Q hQ (fun g28 g30 g232 g233 g234 g235 g236 g237 g238 g239 g240 g241 g242 g243 g244 g245 g246 g247 g248 g249 g250 g251 g252 g253 g254 g255 g256 g257 g258 g259 g260 g261 g262 g263 g264 g265 g266 g267 g268 g269 g270 g271 g272 g273 g274 g275 g276 g277 g278 g279 g280 g281 g282 g283 g284 g285 g286 g287 g288 g289 g290 g291 g292 g293 g294 g295 g296 g297 g298 g299 g300 g301 g302 g303 g304 g305 g306 w'' hI'' => ⟨⟨0 + 1, (fun n => ([g28, g30, g232, g233, g234, g235, g236, g237, g238, g239, g240, g241, g242, g243, g244, g245, g246, g247, g248, g249, g250, g251, g252, g253, g254, g255, g256, g257, g258, g259, g260, g261, g262, g263, g264, g265, g266, g267, g268, g269, g270, g271, g272, g273, g274, g275, g276, g277, g278, g279, g280, g281, g282, g283, g284, g285, g286, g287, g288, g289, g290, g291, g292, g293, g294, g295, g296, g297, g298, g299, g300, g301, g302, g303, g304, g305, g306] : List Value).getD n (.bool false)), by omega, hI'', rfl⟩, ?_⟩)
      show n - (intOf (.int .i64 (((0 : Nat) : Int) + 1))).toNat < n - (intOf (.int .i64 ((0 : Nat) : Int))).toNat
      simp only [intOf]
      omega
    · rw [hbv]
      refine roundB_s hL2 W h4 hel heb hB hn hnb hH8 hok hgb hlt hb hy hby u1 u2 u4 u5 u6 u7 u8 u9 u10 u11 u12 u13 u15 u16 u17 u18 u19 u20 u21 u22 u23 u24 u25 u26 u27 (f 1) u31 u32 u33 u34 u35 u36 u37 u38 u39 u40 u41 u42 u43 u44 u45 u46 u47 u48 u49 u50 u51 u52 u53 u54 u55 u56 u57 u58 u59 u60 u61 u62 u63 u64 u65 u66 u67 u68 u69 u70 u71 u72 u73 u74 u75 u76 u77 u78 u79 u80 u81 u82 u83 u84 u85 u86 u87 u88 u89 u90 u91 u92 u93 u94 u95 u96 u97 u98 u99 u100 u101 u102 u103 u104 u105 u106 u107 u108 u109 u110 u111 u112 u113 u114 u115 u116 u117 u118 u119 u120 u121 u122 u123 u124 u125 u126 u127 u128 u129 u130 u131 u132 u133 u134 u135 u136 u137 u138 u139 u140 u141 u142 u143 u144 u145 u146 u147 u148 u149 u150 u151 u152 u153 u154 u155 u156 u157 u158 u159 u160 u161 u162 u163 u164 u165 u166 u167 u168 u169 u170 u171 u172 u173 u174 u175 u176 u177 u178 u179 u180 u181 u182 u183 u184 u185 u186 u187 u188 u189 u190 u191 u192 u193 u194 u195 u196 u197 u198 u199 u200 u201 u202 u203 u204 u205 u206 u207 u208 u209 u210 u211 u212 u213 u214 u215 u216 u217 u218 u219 u220 u221 u222 u223 u224 u225 u226 u227 u228 u229 u230 u231 (f 2) (f 3) (f 4) (f 5) (f 6) (f 7) (f 8) (f 9) (f 10) (f 11) (f 12) (f 13) (f 14) (f 15) (f 16) (f 17) (f 18) (f 19) (f 20) (f 21) (f 22) (f 23) (f 24) (f 25) (f 26) (f 27) (f 28) (f 29) (f 30) (f 31) (f 32) (f 33) (f 34) (f 35) (f 36) (f 37) (f 38) (f 39) (f 40) (f 41) (f 42) (f 43) (f 44) (f 45) (f 46) (f 47) (f 48) (f 49) (f 50) (f 51) (f 52) (f 53) (f 54) (f 55) (f 56) (f 57) (f 58) (f 59) (f 60) (f 61) (f 62) (f 63) (f 64) (f 65) (f 66) (f 67) (f 68) (f 69) (f 70) (f 71) (f 72) (f 73) (f 74) (f 75) (f 76) u307 u308 u309 u310 u311 u312 u313 u314 u315 u316 w' ⟨hI.1, hI.2.1⟩ _ Q hQ (fun g28 g30 g232 g233 g234 g235 g236 g237 g238 g239 g240 g241 g242 g243 g244 g245 g246 g247 g248 g249 g250 g251 g252 g253 g254 g255 g256 g257 g258 g259 g260 g261 g262 g263 g264 g265 g266 g267 g268 g269 g270 g271 g272 g273 g274 g275 g276 g277 g278 g279 g280 g281 g282 g283 g284 g285 g286 g287 g288 g289 g290 g291 g292 g293 g294 g295 g296 g297 g298 g299 g300 g301 g302 g303 g304 g305 g306 w'' hI'' => ⟨⟨k + 1, (fun n => ([g28, g30, g232, g233, g234, g235, g236, g237, g238, g239, g240, g241, g242, g243, g244, g245, g246, g247, g248, g249, g250, g251, g252, g253, g254, g255, g256, g257, g258, g259, g260, g261, g262, g263, g264, g265, g266, g267, g268, g269, g270, g271, g272, g273, g274, g275, g276, g277, g278, g279, g280, g281, g282, g283, g284, g285, g286, g287, g288, g289, g290, g291, g292, g293, g294, g295, g296, g297, g298, g299, g300, g301, g302, g303, g304, g305, g306] : List Value).getD n (.bool false)), by omega, hI'', rfl⟩, ?_⟩)
      show n - (intOf (.int .i64 ((k : Int) + 1))).toNat < n - (intOf (.int .i64 (k : Int))).toNat
      simp only [intOf]
      omega
  · obtain rfl : k = n := by omega
    exact endB hnb (f 0) u1 u2 u4 u5 u6 u7 u8 u9 u10 u11 u12 u13 u15 u16 u17 u18 u19 u20 u21 u22 u23 u24 u25 u26 u27 (f 1) u31 u32 u33 u34 u35 u36 u37 u38 u39 u40 u41 u42 u43 u44 u45 u46 u47 u48 u49 u50 u51 u52 u53 u54 u55 u56 u57 u58 u59 u60 u61 u62 u63 u64 u65 u66 u67 u68 u69 u70 u71 u72 u73 u74 u75 u76 u77 u78 u79 u80 u81 u82 u83 u84 u85 u86 u87 u88 u89 u90 u91 u92 u93 u94 u95 u96 u97 u98 u99 u100 u101 u102 u103 u104 u105 u106 u107 u108 u109 u110 u111 u112 u113 u114 u115 u116 u117 u118 u119 u120 u121 u122 u123 u124 u125 u126 u127 u128 u129 u130 u131 u132 u133 u134 u135 u136 u137 u138 u139 u140 u141 u142 u143 u144 u145 u146 u147 u148 u149 u150 u151 u152 u153 u154 u155 u156 u157 u158 u159 u160 u161 u162 u163 u164 u165 u166 u167 u168 u169 u170 u171 u172 u173 u174 u175 u176 u177 u178 u179 u180 u181 u182 u183 u184 u185 u186 u187 u188 u189 u190 u191 u192 u193 u194 u195 u196 u197 u198 u199 u200 u201 u202 u203 u204 u205 u206 u207 u208 u209 u210 u211 u212 u213 u214 u215 u216 u217 u218 u219 u220 u221 u222 u223 u224 u225 u226 u227 u228 u229 u230 u231 (f 2) (f 3) (f 4) (f 5) (f 6) (f 7) (f 8) (f 9) (f 10) (f 11) (f 12) (f 13) (f 14) (f 15) (f 16) (f 17) (f 18) (f 19) (f 20) (f 21) (f 22) (f 23) (f 24) (f 25) (f 26) (f 27) (f 28) (f 29) (f 30) (f 31) (f 32) (f 33) (f 34) (f 35) (f 36) (f 37) (f 38) (f 39) (f 40) (f 41) (f 42) (f 43) (f 44) (f 45) (f 46) (f 47) (f 48) (f 49) (f 50) (f 51) (f 52) (f 53) (f 54) (f 55) (f 56) (f 57) (f 58) (f 59) (f 60) (f 61) (f 62) (f 63) (f 64) (f 65) (f 66) (f 67) (f 68) (f 69) (f 70) (f 71) (f 72) (f 73) (f 74) (f 75) (f 76) u307 u308 u309 u310 u311 u312 u313 u314 u315 u316 w' _ Q (fun g28 g30 g232 g233 g234 g235 g236 g237 g238 g239 g240 g241 g242 g243 g244 g245 g246 g247 g248 g249 g250 g251 g252 g253 g254 g255 g256 g257 g258 g259 g260 g261 g262 g263 g264 g265 g266 g267 g268 g269 g270 g271 g272 g273 g274 g275 g276 g277 g278 g279 g280 g281 g282 g283 g284 g285 g286 g287 g288 g289 g290 g291 g292 g293 g294 g295 g296 g297 g298 g299 g300 g301 g302 g303 g304 g305 g306 e => hX (fun n => ([g28, g30, g232, g233, g234, g235, g236, g237, g238, g239, g240, g241, g242, g243, g244, g245, g246, g247, g248, g249, g250, g251, g252, g253, g254, g255, g256, g257, g258, g259, g260, g261, g262, g263, g264, g265, g266, g267, g268, g269, g270, g271, g272, g273, g274, g275, g276, g277, g278, g279, g280, g281, g282, g283, g284, g285, g286, g287, g288, g289, g290, g291, g292, g293, g294, g295, g296, g297, g298, g299, g300, g301, g302, g303, g304, g305, g306] : List Value).getD n (.bool false)) w' (by rw [← e] at hI; exact hI))
end
end Go.Proofs.Ytnhddmcdmcpkeaj
