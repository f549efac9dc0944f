/- One release of one way to stand that may be and leads to a stand that is known, in the document's search. -/
import Derived.Test.YtnhddmcdmcpkeajZf
namespace Go.Proofs.Ytnhddmcdmcpkeaj
open Go.RowKit Go.Shelf

theorem lxB_of {q : Bool} {a b : List Int} (h : q = true ↔ lx a b) : q = lxB a b := Bool.eq_iff_iff.2 (h.trans lxB_iff.symm)
theorem overB_yes {x w : Wet} (h : x.over w) : overB x w = true := overB_iff.2 h
theorem overB_no {x w : Wet} (h : ¬ x.over w) : overB x w = false := Bool.eq_false_iff.2 fun h' => h (overB_iff.1 h')
section
variable {ls : List LakeM} {L H : Nat} {ti : List (List Int)} {pr en : List Int} {al ai ap : Option Addr} {cl ci cp : Nat}
set_option maxRecDepth 1000000 in
set_option maxHeartbeats 8000000 in
theorem roundJ_old (hp : PlanOk ls L H ti pr en) (W : World) (h1 : RowAt W (.slice al L cl) ls.length 5 (ls.flatMap LakeM.cells)) (h2 : TabAt W (.slice ai H ci) ti) (h3 : RowAt W (.slice ap H cp) H 1 (ints pr)) {h k j M B : Nat} (hh : h < H) {now : List Wet} {all : List (List Int)} (hnow : now = nowL ls L ti pr all h) (hall : all = relN ls L) (hk : k < now.length) (hj : j < all.length) (hok : okW ls L ti h (now.getD k ⟨⟨0, 0, 0, 0⟩, 0, []⟩) (all.getD j []) = true) (hnew : ∃ y ∈ nextP ls L ti pr h all now k j, y.s = (newW ls L ti pr h (now.getD k ⟨⟨0, 0, 0, 0⟩, 0, []⟩) (all.getD j [])).s) {an aa : Option Addr} {cn ac : Nat} (u3 u4 u5 u6 u7 u8 u9 u10 u11 u12 u13 u17 u21 u22 u23 u24 u25 u26 u27 u28 u29 u30 u31 u32 u33 u34 u35 u36 u37 u38 u39 u40 u41 u42 u43 u44 u45 u46 u47 u48 u49 u50 u51 u52 u53 u54 u55 u56 u57 u58 u59 u60 u61 u62 u63 u64 u65 u66 u67 u68 u69 u70 u71 u72 u73 u74 u75 u76 u77 u78 u79 u80 u81 u82 u83 u84 u85 u86 u87 u88 u89 u90 u91 u92 u93 u94 u95 u96 u97 u98 u99 u100 u101 u102 u103 u104 u105 u106 u107 u108 u109 u110 u111 u112 u113 u114 u115 u116 u117 u118 u119 u120 u121 u122 u123 u124 u125 u126 u127 u128 u129 u130 u131 u132 u133 u134 u135 u136 u137 u138 u139 u140 u141 u142 u143 u144 u145 u146 u147 u148 u149 u150 u151 u152 u153 u154 u155 u156 u157 u158 u159 u160 u161 u162 u163 u164 u165 u166 u167 u168 u169 u170 u171 u172 u173 u174 u175 u176 u177 u178 u179 u180 u181 u182 u183 u184 u185 u186 u187 u188 u189 u190 u191 u192 u193 u194 u195 u196 u197 u198 u199 u200 u201 u202 u203 u204 u205 u206 u207 u208 u209 u210 u211 u212 u213 u214 u215 u216 u217 u218 u219 u220 u221 u222 u223 u224 u225 u226 u227 u228 u229 u230 u231 u232 u233 u234 u235 u236 u237 u238 u239 u240 u241 u242 u243 u244 u245 u246 u247 u248 u249 u250 u251 u252 u253 u254 u255 u256 u257 u258 u259 u260 u261 u262 u263 u264 u265 u266 u267 u268 u269 u270 u271 u272 u273 u274 u275 u276 u277 u278 u279 u280 u281 u282 u283 u284 u285 u286 u287 u288 u289 u290 u291 u292 u293 u294 u295 u296 u297 u298 u299 u300 u301 u302 u303 u304 u305 u306 u307 u308 u309 u310 u311 u312 u313 u314 u315 u316 : Value) (w : World) (hI : HourI L all now W B M (.slice an now.length cn) (.slice aa all.length ac) u17 (nextP ls L ti pr h all now k j) w)
    (K : Act → World → Prop) (Q : Exit → Act → World → Prop) (hQ : ∀ c a a' w, Q (.panic c) a' w → Q (.panic c) a w) (hK : ∀ (g17 g21 g22 g23 g24 g25 g26 g27 g99 g100 g101 g102 g103 g104 g105 g106 g107 g108 g109 g110 g111 g112 g113 g114 g115 g116 g117 g118 g119 g120 g121 g122 g123 g124 g125 g126 g127 g128 g129 g130 g131 g132 g133 g134 g135 g136 g137 g138 g139 g140 g141 g142 g143 g144 g145 g146 g147 g148 g149 g150 g151 g152 g153 g154 g155 g156 g157 g158 g159 g160 g161 g162 g163 g164 g165 g166 g167 g168 g169 g170 g171 g172 g173 g174 g175 g176 g177 g178 g179 g180 g181 g182 g183 g184 g185 g186 g187 g188 g189 g190 g191 g192 g193 g194 g195 g196 g197 g198 g199 g200 g201 g202 g203 g204 g205 g206 g207 g208 g209 g210 g211 g212 g213 g214 g215 g216 g217 g218 g219 g220 g221 g222 g223 g224 g225 g226 g227 g228 g229 g230 : Value) (w' : World), HourI L all now W B M (.slice an now.length cn) (.slice aa all.length ac) g17 (nextP ls L ti pr h all now k (j + 1)) w' → K ⟨#[.slice al L cl, .slice ai H ci, .slice ap H cp, u3, u4, u5, u6, u7, u8, u9, u10, u11, u12, u13, .slice an now.length cn, .slice aa all.length ac, .int .i64 (h : Int), g17, .map (some M), .int .i64 (k : Int), .int .i64 ((j : Int) + 1), g21, g22, g23, g24, g25, g26, g27, u28, u29, u30, u31, u32, u33, u34, u35, u36, u37, u38, u39, u40, u41, u42, u43, u44, u45, u46, u47, u48, u49, u50, u51, u52, u53, u54, u55, u56, u57, u58, u59, u60, u61, u62, u63, u64, u65, u66, u67, u68, u69, u70, u71, u72, u73, u74, u75, u76, u77, u78, u79, u80, u81, u82, u83, u84, u85, u86, u87, u88, u89, u90, u91, u92, u93, u94, u95, u96, u97, u98, g99, g100, g101, g102, g103, g104, g105, g106, g107, g108, g109, g110, g111, g112, g113, g114, g115, g116, g117, g118, g119, g120, g121, g122, g123, g124, g125, g126, g127, g128, g129, g130, g131, g132, g133, g134, g135, g136, g137, g138, g139, g140, g141, g142, g143, g144, g145, g146, g147, g148, g149, g150, g151, g152, g153, g154, g155, g156, g157, g158, g159, g160, g161, g162, g163, g164, g165, g166, g167, g168, g169, g170, g171, g172, g173, g174, g175, g176, g177, g178, g179, g180, g181, g182, g183, g184, g185, g186, g187, g188, g189, g190, g191, g192, g193, g194, g195, g196, g197, g198, g199, g200, g201, g202, g203, g204, g205, g206, g207, g208, g209, g210, g211, g212, g213, g214, g215, g216, g217, g218, g219, g220, g221, g222, g223, g224, g225, g226, g227, g228, g229, g230, u231, u232, u233, u234, u235, u236, u237, u238, u239, u240, u241, u242, u243, u244, u245, u246, u247, u248, u249, u250, u251, u252, u253, u254, u255, u256, u257, u258, u259, u260, u261, u262, u263, u264, u265, u266, u267, u268, u269, u270, u271, u272, u273, u274, u275, u276, u277, u278, u279, u280, u281, u282, u283, u284, u285, u286, u287, u288, u289, u290, u291, u292, u293, u294, u295, u296, u297, u298, u299, u300, u301, u302, u303, u304, u305, u306, u307, u308, u309, u310, u311, u312, u313, u314, u315, u316], []⟩ w') :
    Code.wp Try.prog (bodyJF Try.f29) (Exit.then K Q) ⟨#[.slice al L cl, .slice ai H ci, .slice ap H cp, u3, u4, u5, u6, u7, u8, u9, u10, u11, u12, u13, .slice an now.length cn, .slice aa all.length ac, .int .i64 (h : Int), u17, .map (some M), .int .i64 (k : Int), .int .i64 (j : Int), u21, u22, u23, u24, u25, u26, u27, u28, u29, u30, u31, u32, u33, u34, u35, u36, u37, u38, u39, u40, u41, u42, u43, u44, u45, u46, u47, u48, u49, u50, u51, u52, u53, u54, u55, u56, u57, u58, u59, u60, u61, u62, u63, u64, u65, u66, u67, u68, u69, u70, u71, u72, u73, u74, u75, u76, u77, u78, u79, u80, u81, u82, u83, u84, u85, u86, u87, u88, u89, u90, u91, u92, u93, u94, u95, u96, u97, u98, u99, u100, u101, u102, u103, u104, u105, u106, u107, u108, u109, u110, u111, u112, u113, u114, u115, u116, u117, u118, u119, u120, u121, u122, u123, u124, u125, u126, u127, u128, u129, u130, u131, u132, u133, u134, u135, u136, u137, u138, u139, u140, u141, u142, u143, u144, u145, u146, u147, u148, u149, u150, u151, u152, u153, u154, u155, u156, u157, u158, u159, u160, u161, u162, u163, u164, u165, u166, u167, u168, u169, u170, u171, u172, u173, u174, u175, u176, u177, u178, u179, u180, u181, u182, u183, u184, u185, u186, u187, u188, u189, u190, u191, u192, u193, u194, u195, u196, u197, u198, u199, u200, u201, u202, u203, u204, u205, u206, u207, u208, u209, u210, u211, u212, u213, u214, u215, u216, u217, u218, u219, u220, u221, u222, u223, u224, u225, u226, u227, u228, u229, u230, u231, u232, u233, u234, u235, u236, u237, u238, u239, u240, u241, u242, u243, u244, u245, u246, u247, u248, u249, u250, u251, u252, u253, u254, u255, u256, u257, u258, u259, u260, u261, u262, u263, u264, u265, u266, u267, u268, u269, u270, u271, u272, u273, u274, u275, u276, u277, u278, u279, u280, u281, u282, u283, u284, u285, u286, u287, u288, u289, u290, u291, u292, u293, u294, u295, u296, u297, u298, u299, u300, u301, u302, u303, u304, u305, u306, u307, u308, u309, u310, u311, u312, u313, u314, u315, u316], []⟩ w := by
  conv => arg 2; whnf
  have HK := hide' hK
  have HOK := hide' hok
  have HNEW0 := hide' hnew
  clear hnew
  have HRD : Hid (all.getD j [] = all[j]) := by show _ = _; rw [List.getD_eq_getElem?_getD, List.getElem?_eq_getElem hj]; rfl
  clear hok
  obtain ⟨i39, hi39, h390, h391, h392⟩ := info_parts Try.info39'
  have HPR := hide' h3
  clear h3
  have HQ := hide' hQ
  have HI := hide' hI
  have HP := hide' hp
  have hL2 := hp.L2
  have HX := hide' h1
  have HAL := hide' hall
  have HNW := hide' hnow
  have hkb : now.length ≤ 152587890625 := by
    rw [hnow]
    exact Nat.le_trans (now_len (by rw [hall]; exact rel_25 hp.ok (by rw [hp.l]; exact hL2) (by rw [hp.l]; exact Nat.le_refl _)) h) (pow_small (by have := hp.H8; omega))
  have hab : all.length ≤ 25 := by rw [hall]; exact rel_25 hp.ok (by rw [hp.l]; exact hL2) (by rw [hp.l]; exact Nat.le_refl _)
  obtain ⟨x, hx⟩ : ∃ x, now[k]? = some x := ⟨_, List.getElem?_eq_getElem hk⟩
  obtain ⟨G, cg, xl, xlc, xc, xcc, xr, xrc, en1, hG, ⟨k0, k1, k2, k3⟩, ol, oc, os, hcur⟩ := hI.nw.cell hx
  simp only [Value.slice.injEq] at en1
  obtain ⟨rfl, hz2, rfl⟩ := en1
  clear hz2
  have hth : h < ti.length := by rw [hp.t]; exact hh
  obtain ⟨tb, tof, tcp, ta, tc, et, ht0, htr⟩ := h2.cell h hth
  simp only [Value.slice.injEq] at et
  obtain ⟨rfl, hz1, rfl⟩ := et
  clear hz1
  obtain ⟨rb, ro, rcp, ra, rc, er, hr0, hrr⟩ := hI.al.tab.cell j hj
  simp only [Value.slice.injEq] at er
  obtain ⟨rfl, hz3, rfl⟩ := er
  clear hz3
  have htl : (ti[h]).length = L := hp.tr _ (List.getElem_mem hth)
  have hrl : (all[j]).length = L := by
    have := rel_len hp.ok L (by rw [hp.l]; exact Nat.le_refl _) all[j] (by rw [← hall]; exact List.getElem_mem hj)
    exact this
  rw [htl] at ht0 htr
  have ROW := steps_row hI.al hj hr0
  rw [hrl] at hr0 hrr ROW
  have t0 := up_cell hI.bel ht0
  have HS : Hid (w.cell? ⟨G, k * 4, none⟩ = some (.slice xl L xlc) ∧ w.cell? ⟨G, k * 4 + 1, none⟩ = some (.slice xc L xcc) ∧ w.cell? ⟨tb, tof + h, none⟩ = some (.slice ta L tc) ∧ w.cell? ⟨rb, ro + j, none⟩ = some (.slice ra L rc)) := ⟨k0, k1, t0, hr0⟩
  have hbd : Below w.heap.size w w.drew := (Below.refl _ w).drew
  have HX2 := hide' ((h1.below hI.bel (Nat.le_refl _)).below hbd (Nat.le_refl _))
  have HTR2 := hide' ((htr.below hI.bel (Nat.le_refl _)).below hbd (Nat.le_refl _))
  have HRR2 := hide' (hrr.below hbd (Nat.le_refl _))
  have HOL := hide' ((rowAt_of_own ol).below hbd (Nat.le_refl _))
  have HOC := hide' ((rowAt_of_own oc).below hbd (Nat.le_refl _))
  have HGX := hide' (now_ok hp h (by omega) x (by rw [← hall, ← hnow]; exact List.mem_of_getElem? hx)).g
  have HIN : Hid (∀ i, i < L → 0 ≤ (ti[h]).getD i 0 ∧ (ti[h]).getD i 0 ≤ 10) := by
    have q := in_bd hp hh
    rw [show ti.getD h [] = ti[h] by rw [List.getD_eq_getElem?_getD, List.getElem?_eq_getElem hth]; rfl] at q
    exact q
  clear hbd
  have HTD : Hid (ti.getD h [] = ti[h]) := by show _ = _; rw [List.getD_eq_getElem?_getD, List.getElem?_eq_getElem hth]; rfl
  have HXD : Hid (now.getD k ⟨⟨0, 0, 0, 0⟩, 0, []⟩ = x) := by show _ = _; rw [List.getD_eq_getElem?_getD, hx]; rfl
  clear hI h1 h2 hK hQ hp k0 k1 t0 hr0 ht0 hrr htr hall hnow
  go_upto_region 29 with fail
  have hkz : (0 : Int) ≤ (k : Int) ∧ (k : Int) < (now.length : Int) := by omega
  refine wp_region_tail (fun W' => W'.cell? ⟨G, k * 4, none⟩ = some (.slice xl L xlc) ∧ W'.cell? ⟨G, k * 4 + 1, none⟩ = some (.slice xc L xcc) ∧ W'.cell? ⟨tb, tof + h, none⟩ = some (.slice ta L tc) ∧ W'.cell? ⟨rb, ro + j, none⟩ = some (.slice ra L rc)) 28 (by kernel_rfl) ?_
  refine wpAnyD_takeAt 0 (some 106) (v := ?_) rfl (by kernel_rfl) (by kernel_rfl) (by kernel_rfl) (by kernel_rfl) (by kernel_rfl) (fun c a w h => HQ.out c _ _ w h) (by exact HS.out) (fun o hop => ?_) ?_
  rotate_left
  · injection hop with hop
    subst hop
    refine ⟨rfl, fun W hW => ?_⟩
    obtain ⟨s0, s1, s2, s3⟩ := hW
    go_simp
    try rfl
  try simp only [Act.put, List.setIfInBounds_toArray, List.set_cons_zero, List.set_cons_succ]
  refine wpAnyD_takeAt 1 (some 107) (v := ?_) rfl (by kernel_rfl) (by kernel_rfl) (by kernel_rfl) (by kernel_rfl) (by kernel_rfl) (fun c a w h => HQ.out c _ _ w h) (by exact HS.out) (fun o hop => ?_) ?_
  rotate_left
  · injection hop with hop
    subst hop
    refine ⟨rfl, fun W hW => ?_⟩
    obtain ⟨s0, s1, s2, s3⟩ := hW
    go_simp
    try rfl
  try simp only [Act.put, List.setIfInBounds_toArray, List.set_cons_zero, List.set_cons_succ]
  refine wpAnyD_takeAt 2 (some 108) (v := ?_) rfl (by kernel_rfl) (by kernel_rfl) (by kernel_rfl) (by kernel_rfl) (by kernel_rfl) (fun c a w h => HQ.out c _ _ w h) (by exact HS.out) (fun o hop => ?_) ?_
  rotate_left
  · injection hop with hop
    subst hop
    refine ⟨rfl, fun W hW => ?_⟩
    obtain ⟨s0, s1, s2, s3⟩ := hW
    go_simp
    try rfl
  try simp only [Act.put, List.setIfInBounds_toArray, List.set_cons_zero, List.set_cons_succ]
  refine wpAnyD_takeAt 3 (some 109) (v := ?_) rfl (by kernel_rfl) (by kernel_rfl) (by kernel_rfl) (by kernel_rfl) (by kernel_rfl) (fun c a w h => HQ.out c _ _ w h) (by exact HS.out) (fun o hop => ?_) ?_
  rotate_left
  · injection hop with hop
    subst hop
    refine ⟨rfl, fun W hW => ?_⟩
    obtain ⟨s0, s1, s2, s3⟩ := hW
    go_simp
    try rfl
  try simp only [Act.put, List.setIfInBounds_toArray, List.set_cons_zero, List.set_cons_succ]
  refine wpAnyD_takeAt 4 (some 110) (v := ?_) rfl (by kernel_rfl) (by kernel_rfl) (by kernel_rfl) (by kernel_rfl) (by kernel_rfl) (fun c a w h => HQ.out c _ _ w h) (by exact HS.out) (fun o hop => ?_) ?_
  rotate_left
  · injection hop with hop
    subst hop
    refine ⟨rfl, fun W hW => ?_⟩
    obtain ⟨s0, s1, s2, s3⟩ := hW
    go_simp
    try rfl
  try simp only [Act.put, List.setIfInBounds_toArray, List.set_cons_zero, List.set_cons_succ]
  refine wpAnyD_takeAt 5 (some 111) (v := ?_) rfl (by kernel_rfl) (by kernel_rfl) (by kernel_rfl) (by kernel_rfl) (by kernel_rfl) (fun c a w h => HQ.out c _ _ w h) (by exact HS.out) (fun o hop => ?_) ?_
  rotate_left
  · injection hop with hop
    subst hop
    refine ⟨rfl, fun W hW => ?_⟩
    obtain ⟨s0, s1, s2, s3⟩ := hW
    go_simp
    try rfl
  try simp only [Act.put, List.setIfInBounds_toArray, List.set_cons_zero, List.set_cons_succ]
  refine wpAnyD_takeAt 6 (some 112) (v := ?_) rfl (by kernel_rfl) (by kernel_rfl) (by kernel_rfl) (by kernel_rfl) (by kernel_rfl) (fun c a w h => HQ.out c _ _ w h) (by exact HS.out) (fun o hop => ?_) ?_
  rotate_left
  · injection hop with hop
    subst hop
    refine ⟨rfl, fun W hW => ?_⟩
    obtain ⟨s0, s1, s2, s3⟩ := hW
    go_simp
    try rfl
  try simp only [Act.put, List.setIfInBounds_toArray, List.set_cons_zero, List.set_cons_succ]
  refine wpAnyD_takeAt 7 (some 113) (v := ?_) rfl (by kernel_rfl) (by kernel_rfl) (by kernel_rfl) (by kernel_rfl) (by kernel_rfl) (fun c a w h => HQ.out c _ _ w h) (by exact HS.out) (fun o hop => ?_) ?_
  rotate_left
  · injection hop with hop
    subst hop
    refine ⟨rfl, fun W hW => ?_⟩
    obtain ⟨s0, s1, s2, s3⟩ := hW
    go_simp
    try rfl
  try simp only [Act.put, List.setIfInBounds_toArray, List.set_cons_zero, List.set_cons_succ]
  refine wpAnyD_takeAt 8 (some 114) (v := ?_) rfl (by kernel_rfl) (by kernel_rfl) (by kernel_rfl) (by kernel_rfl) (by kernel_rfl) (fun c a w h => HQ.out c _ _ w h) (by exact HS.out) (fun o hop => ?_) ?_
  rotate_left
  · injection hop with hop
    subst hop
    refine ⟨rfl, fun W hW => ?_⟩
    obtain ⟨s0, s1, s2, s3⟩ := hW
    go_simp
    try rfl
  try simp only [Act.put, List.setIfInBounds_toArray, List.set_cons_zero, List.set_cons_succ]
  refine wpAnyD_takeAt 9 (some 115) (v := ?_) rfl (by kernel_rfl) (by kernel_rfl) (by kernel_rfl) (by kernel_rfl) (by kernel_rfl) (fun c a w h => HQ.out c _ _ w h) (by exact HS.out) (fun o hop => ?_) ?_
  rotate_left
  · injection hop with hop
    subst hop
    refine ⟨rfl, fun W hW => ?_⟩
    obtain ⟨s0, s1, s2, s3⟩ := hW
    go_simp
    try rfl
  try simp only [Act.put, List.setIfInBounds_toArray, List.set_cons_zero, List.set_cons_succ]
  refine wpAnyD_takeAt 10 (some 116) (v := ?_) rfl (by kernel_rfl) (by kernel_rfl) (by kernel_rfl) (by kernel_rfl) (by kernel_rfl) (fun c a w h => HQ.out c _ _ w h) (by exact HS.out) (fun o hop => ?_) ?_
  rotate_left
  · injection hop with hop
    subst hop
    refine ⟨rfl, fun W hW => ?_⟩
    obtain ⟨s0, s1, s2, s3⟩ := hW
    go_simp
    try rfl
  try simp only [Act.put, List.setIfInBounds_toArray, List.set_cons_zero, List.set_cons_succ]
  refine wpAnyD_takeAt 11 (some 117) (v := ?_) rfl (by kernel_rfl) (by kernel_rfl) (by kernel_rfl) (by kernel_rfl) (by kernel_rfl) (fun c a w h => HQ.out c _ _ w h) (by exact HS.out) (fun o hop => ?_) ?_
  rotate_left
  · injection hop with hop
    subst hop
    refine ⟨rfl, fun W hW => ?_⟩
    obtain ⟨s0, s1, s2, s3⟩ := hW
    go_simp
    try rfl
  try simp only [Act.put, List.setIfInBounds_toArray, List.set_cons_zero, List.set_cons_succ]
  refine wpAnyD_takeAt 12 (some 118) (v := ?_) rfl (by kernel_rfl) (by kernel_rfl) (by kernel_rfl) (by kernel_rfl) (by kernel_rfl) (fun c a w h => HQ.out c _ _ w h) (by exact HS.out) (fun o hop => ?_) ?_
  rotate_left
  · injection hop with hop
    subst hop
    refine ⟨rfl, fun W hW => ?_⟩
    obtain ⟨s0, s1, s2, s3⟩ := hW
    go_simp
    try rfl
  try simp only [Act.put, List.setIfInBounds_toArray, List.set_cons_zero, List.set_cons_succ]
  refine wpAnyD_takeAt 13 (some 119) (v := ?_) rfl (by kernel_rfl) (by kernel_rfl) (by kernel_rfl) (by kernel_rfl) (by kernel_rfl) (fun c a w h => HQ.out c _ _ w h) (by exact HS.out) (fun o hop => ?_) ?_
  rotate_left
  · injection hop with hop
    subst hop
    refine ⟨rfl, fun W hW => ?_⟩
    obtain ⟨s0, s1, s2, s3⟩ := hW
    go_simp
    try rfl
  try simp only [Act.put, List.setIfInBounds_toArray, List.set_cons_zero, List.set_cons_succ]
  refine wpAnyD_takeAt 14 (some 120) (v := ?_) rfl (by kernel_rfl) (by kernel_rfl) (by kernel_rfl) (by kernel_rfl) (by kernel_rfl) (fun c a w h => HQ.out c _ _ w h) (by exact HS.out) (fun o hop => ?_) ?_
  rotate_left
  · injection hop with hop
    subst hop
    refine ⟨rfl, fun W hW => ?_⟩
    obtain ⟨s0, s1, s2, s3⟩ := hW
    go_simp
    try rfl
  try simp only [Act.put, List.setIfInBounds_toArray, List.set_cons_zero, List.set_cons_succ]
  refine wpAnyD_takeAt 15 (some 121) (v := ?_) rfl (by kernel_rfl) (by kernel_rfl) (by kernel_rfl) (by kernel_rfl) (by kernel_rfl) (fun c a w h => HQ.out c _ _ w h) (by exact HS.out) (fun o hop => ?_) ?_
  rotate_left
  · injection hop with hop
    subst hop
    refine ⟨rfl, fun W hW => ?_⟩
    obtain ⟨s0, s1, s2, s3⟩ := hW
    go_simp
    try rfl
  try simp only [Act.put, List.setIfInBounds_toArray, List.set_cons_zero, List.set_cons_succ]
  refine wpAnyD_takeAt 16 (some 122) (v := ?_) rfl (by kernel_rfl) (by kernel_rfl) (by kernel_rfl) (by kernel_rfl) (by kernel_rfl) (fun c a w h => HQ.out c _ _ w h) (by exact HS.out) (fun o hop => ?_) ?_
  rotate_left
  · injection hop with hop
    subst hop
    refine ⟨rfl, fun W hW => ?_⟩
    obtain ⟨s0, s1, s2, s3⟩ := hW
    go_simp
    try rfl
  try simp only [Act.put, List.setIfInBounds_toArray, List.set_cons_zero, List.set_cons_succ]
  refine wpAnyD_takeAt 17 (some 123) (v := ?_) rfl (by kernel_rfl) (by kernel_rfl) (by kernel_rfl) (by kernel_rfl) (by kernel_rfl) (fun c a w h => HQ.out c _ _ w h) (by exact HS.out) (fun o hop => ?_) ?_
  rotate_left
  · injection hop with hop
    subst hop
    refine ⟨rfl, fun W hW => ?_⟩
    obtain ⟨s0, s1, s2, s3⟩ := hW
    go_simp
    try rfl
  try simp only [Act.put, List.setIfInBounds_toArray, List.set_cons_zero, List.set_cons_succ]
  refine wpAnyD_takeAt 18 (some 124) (v := ?_) rfl (by kernel_rfl) (by kernel_rfl) (by kernel_rfl) (by kernel_rfl) (by kernel_rfl) (fun c a w h => HQ.out c _ _ w h) (by exact HS.out) (fun o hop => ?_) ?_
  rotate_left
  · injection hop with hop
    subst hop
    refine ⟨rfl, fun W hW => ?_⟩
    obtain ⟨s0, s1, s2, s3⟩ := hW
    go_simp
    try rfl
  try simp only [Act.put, List.setIfInBounds_toArray, List.set_cons_zero, List.set_cons_succ]
  have HWH := hide' (waterHour_any ls HP.out.ok x.s ti[h] all[j] L HP.out.l hL2 (HGX.out) (HIN.out) htl hrl al xl xc ta ra cl xlc xcc tc rc w.drew HX2.out HOL.out HOC.out HTR2.out HRR2.out)
  refine wpAnyT_one (i := 19) (by kernel_rfl) rfl rfl (fun K' hK => ?_)
  go_simp
  go_at_call 44
  refine HWH.out.mono ?_
  intro e w1 hO
  obtain ⟨hO, hb1⟩ := hO
  have hbw : Below w.heap.size w w1 := ⟨hb1.os, hb1.tape, hb1.output, hb1.size, hb1.block⟩
  have HBW := hide' hbw
  have HS1 : Hid (w1.cell? ⟨G, k * 4, none⟩ = some (.slice xl L xlc) ∧ w1.cell? ⟨G, k * 4 + 1, none⟩ = some (.slice xc L xcc) ∧ w1.cell? ⟨tb, tof + h, none⟩ = some (.slice ta L tc) ∧ w1.cell? ⟨rb, ro + j, none⟩ = some (.slice ra L rc)) := ⟨up_cell hbw HS.out.1, up_cell hbw HS.out.2.1, up_cell hbw HS.out.2.2.1, up_cell hbw HS.out.2.2.2⟩
  have HI1 := hide' (HI.out.below hbw)
  clear hb1 hbw HS HWH HI HX2 HTR2 HRR2 HOL HOC
  rcases hO with ⟨hno, _⟩ | ⟨hyes, v1, v2, v3, rfl, o1, o2, o3⟩
  · exfalso
    have q := HOK.out
    unfold okW at q
    rw [HTD.out, HXD.out, HRD.out, hno] at q
    cases q
  · obtain ⟨va, vc, hve⟩ := own_slice o1
    obtain ⟨ua, uc, hue⟩ := own_slice o2
    subst hve hue
    have HO1 := hide' (own_mono o1 (Nat.zero_le _))
    have HO2 := hide' (own_mono o2 (Nat.zero_le _))
    have hth8 : x.t.length ≤ 8 := by have := (now_ok HP.out h (by omega) x (by rw [← HAL.out, ← HNW.out]; exact List.mem_of_getElem? hx)).t; have := HP.out.H8; omega
    obtain ⟨vals, hvl, hva, hvr⟩ := os.below HBW.out
    have HVA := hide' hva
    have HVR := hide' hvr
    have HV1C : Hid (∀ u ∈ vals, u.oneCell' = true) := fun u hu => by
      obtain ⟨i, hi⟩ := List.mem_iff_getElem?.1 hu
      have hlt : i < x.t.length := by rw [← hvl]; exact (List.getElem?_eq_some_iff.1 hi).1
      obtain ⟨_, _, e⟩ := own_slice (hvr i u x.t[i] hi (List.getElem?_eq_getElem hlt))
      rw [e]; rfl
    have HRO : Hid (w1.ownsRow 0 3 1 (.slice ra L rc) L (ints all[j])) := own_below ROW HBW.out (Nat.le_refl _)
    have HSS : Hid (∀ z, Below w1.heap.size w1 z → z.cell? ⟨G, k * 4 + 2, none⟩ = some (.int .i64 x.e) ∧ z.cell? ⟨G, k * 4 + 3, none⟩ = some (.slice xr x.t.length xrc) ∧ z.cell? ⟨rb, ro + j, none⟩ = some (.slice ra L rc)) := fun z hz => ⟨up_cell hz (up_cell HBW.out k2), up_cell hz (up_cell HBW.out k3), up_cell hz HS1.out.2.2.2⟩
    clear hyes o1 o2 o3 hva hvr os k2 k3
    refine hK.out _ _ (fun _ => HS1.out) ?_
    clear hK K'
    try simp only [Act.put, List.setIfInBounds_toArray, List.set_cons_zero, List.set_cons_succ]
    refine wpAnyT_one (i := 20) (by kernel_rfl) rfl rfl (fun K' hK => ?_)
    go_simp
    refine hK.out _ _ (fun _ => HS1.out) ?_
    clear hK K'
    try simp only [Act.put, List.setIfInBounds_toArray, List.set_cons_zero, List.set_cons_succ]
    refine wpAnyD_takeAt 21 (some 126) (v := ?_) rfl (by kernel_rfl) (by kernel_rfl) (by kernel_rfl) (by kernel_rfl) (by kernel_rfl) (fun c a w h => HQ.out c _ _ w h) (by exact HS1.out) (fun o hop => ?_) ?_
    rotate_left
    · injection hop with hop
      subst hop
      refine ⟨rfl, fun W hW => ?_⟩
      obtain ⟨s0, s1, s2, s3⟩ := hW
      go_simp
      try rfl
    try simp only [Act.put, List.setIfInBounds_toArray, List.set_cons_zero, List.set_cons_succ]
    refine wpAnyD_takeAt 22 (some 127) (v := ?_) rfl (by kernel_rfl) (by kernel_rfl) (by kernel_rfl) (by kernel_rfl) (by kernel_rfl) (fun c a w h => HQ.out c _ _ w h) (by exact HS1.out) (fun o hop => ?_) ?_
    rotate_left
    · injection hop with hop
      subst hop
      refine ⟨rfl, fun W hW => ?_⟩
      obtain ⟨s0, s1, s2, s3⟩ := hW
      go_simp
      try rfl
    try simp only [Act.put, List.setIfInBounds_toArray, List.set_cons_zero, List.set_cons_succ]
    refine wpAnyD_takeAt 23 (some 128) (v := ?_) rfl (by kernel_rfl) (by kernel_rfl) (by kernel_rfl) (by kernel_rfl) (by kernel_rfl) (fun c a w h => HQ.out c _ _ w h) (by exact HS1.out) (fun o hop => ?_) ?_
    rotate_left
    · injection hop with hop
      subst hop
      refine ⟨rfl, fun W hW => ?_⟩
      obtain ⟨s0, s1, s2, s3⟩ := hW
      go_simp
      try rfl
    try simp only [Act.put, List.setIfInBounds_toArray, List.set_cons_zero, List.set_cons_succ]
    refine wpAnyD_takeAt 24 (some 129) (v := ?_) rfl (by kernel_rfl) (by kernel_rfl) (by kernel_rfl) (by kernel_rfl) (by kernel_rfl) (fun c a w h => HQ.out c _ _ w h) (by exact HS1.out) (fun o hop => ?_) ?_
    rotate_left
    · injection hop with hop
      subst hop
      refine ⟨rfl, fun W hW => ?_⟩
      obtain ⟨s0, s1, s2, s3⟩ := hW
      go_simp
      try rfl
    try simp only [Act.put, List.setIfInBounds_toArray, List.set_cons_zero, List.set_cons_succ]
    refine wpAnyT_one (i := 25) (by kernel_rfl) rfl rfl (fun K' hK => ?_)
    go_simp
    refine hK.out _ _ (fun _ => HS1.out) ?_
    clear hK K'
    try simp only [Act.put, List.setIfInBounds_toArray, List.set_cons_zero, List.set_cons_succ]
    refine wpAnyT_one (i := 26) (by kernel_rfl) rfl rfl (fun K' hK => ?_)
    go_simp
    refine hK.out _ _ (fun _ => HS1.out) ?_
    clear hK K'
    try simp only [Act.put, List.setIfInBounds_toArray, List.set_cons_zero, List.set_cons_succ]
    refine wpAnyT_one (i := 27) (by kernel_rfl) rfl rfl (fun K' hK => ?_)
    go_simp
    refine hK.out _ _ (fun _ => HS1.out) ?_
    clear hK K'
    try simp only [Act.put, List.setIfInBounds_toArray, List.set_cons_zero, List.set_cons_succ]
    refine wpAnyT_one (i := 28) (by kernel_rfl) rfl rfl (fun K' hK => ?_)
    go_simp
    refine hK.out _ _ (fun h => absurd rfl h) ?_
    clear hK K'
    try simp only [Act.put, List.setIfInBounds_toArray, List.set_cons_zero, List.set_cons_succ]
    refine wpAnyT_done (by kernel_rfl) ?_ _
    go_upto_region 31 with fail
    go_cut [25] from 132 to 151 (fun p25 wc => ∃ (E : Nat) (qa : Option Addr) (qc : Nat), p25 = .pointer (some ⟨E, 0, none⟩) ∧ (Below w1.heap.size w1 wc ∧ wc.heap[E]? = some (.cells #[.slice va L vc, .slice ua L uc, .int .i64 x.e, .slice qa (x.t.length + 1) qc] 93 (0, 0)) ∧ w1.heap.size ≤ E ∧ StepsAt wc 0 (.slice qa (x.t.length + 1) qc) (x.t ++ [all[j]])))
    case first =>
      clear HS1
      refine wp_region_tail (fun W' => W'.cell? ⟨G, k * 4 + 2, none⟩ = some (.int .i64 x.e) ∧ W'.cell? ⟨G, k * 4 + 3, none⟩ = some (.slice xr x.t.length xrc) ∧ W'.cell? ⟨rb, ro + j, none⟩ = some (.slice ra L rc)) 21 (by kernel_rfl) ?_
      refine wpAnyT_letter (fun z => Below w1.heap.size w1 z) (Below.refl _ w1).drew ?_
      intro z0 hz
      have HB0 := hide' hz
      have HS0 := hide' (HSS.out _ hz)
      clear hz
      refine wpAnyD_takeAt 0 (some 132) (v := ?_) rfl (by kernel_rfl) (by kernel_rfl) (by kernel_rfl) (by kernel_rfl) (by kernel_rfl) (fun c a w h => HQ.out c _ _ w h) (by exact HS0.out) (fun o hop => ?_) ?_
      rotate_left
      · injection hop with hop
        subst hop
        refine ⟨rfl, fun W hW => ?_⟩
        obtain ⟨s0, s1, s2⟩ := hW
        go_simp
        try rfl
      try simp only [Act.put, List.setIfInBounds_toArray, List.set_cons_zero, List.set_cons_succ]
      refine wpAnyD_takeAt 1 (some 133) (v := ?_) rfl (by kernel_rfl) (by kernel_rfl) (by kernel_rfl) (by kernel_rfl) (by kernel_rfl) (fun c a w h => HQ.out c _ _ w h) (by exact HS0.out) (fun o hop => ?_) ?_
      rotate_left
      · injection hop with hop
        subst hop
        refine ⟨rfl, fun W hW => ?_⟩
        obtain ⟨s0, s1, s2⟩ := hW
        go_simp
        try rfl
      try simp only [Act.put, List.setIfInBounds_toArray, List.set_cons_zero, List.set_cons_succ]
      refine wpAnyD_takeAt 2 (some 134) (v := ?_) rfl (by kernel_rfl) (by kernel_rfl) (by kernel_rfl) (by kernel_rfl) (by kernel_rfl) (fun c a w h => HQ.out c _ _ w h) (by exact HS0.out) (fun o hop => ?_) ?_
      rotate_left
      · injection hop with hop
        subst hop
        refine ⟨rfl, fun W hW => ?_⟩
        obtain ⟨s0, s1, s2⟩ := hW
        go_simp
        try rfl
      try simp only [Act.put, List.setIfInBounds_toArray, List.set_cons_zero, List.set_cons_succ]
      refine wpAnyD_takeAt 3 (some 135) (v := ?_) rfl (by kernel_rfl) (by kernel_rfl) (by kernel_rfl) (by kernel_rfl) (by kernel_rfl) (fun c a w h => HQ.out c _ _ w h) (by exact HS0.out) (fun o hop => ?_) ?_
      rotate_left
      · injection hop with hop
        subst hop
        refine ⟨rfl, fun W hW => ?_⟩
        obtain ⟨s0, s1, s2⟩ := hW
        go_simp
        try rfl
      try simp only [Act.put, List.setIfInBounds_toArray, List.set_cons_zero, List.set_cons_succ]
      refine wpAnyD_takeAt 4 (some 136) (v := ?_) rfl (by kernel_rfl) (by kernel_rfl) (by kernel_rfl) (by kernel_rfl) (by kernel_rfl) (fun c a w h => HQ.out c _ _ w h) (by exact HS0.out) (fun o hop => ?_) ?_
      rotate_left
      · injection hop with hop
        subst hop
        refine ⟨rfl, fun W hW => ?_⟩
        obtain ⟨s0, s1, s2⟩ := hW
        go_simp
        try rfl
      try simp only [Act.put, List.setIfInBounds_toArray, List.set_cons_zero, List.set_cons_succ]
      refine wpAnyD_takeAt 5 (some 137) (v := ?_) rfl (by kernel_rfl) (by kernel_rfl) (by kernel_rfl) (by kernel_rfl) (by kernel_rfl) (fun c a w h => HQ.out c _ _ w h) (by exact HS0.out) (fun o hop => ?_) ?_
      rotate_left
      · injection hop with hop
        subst hop
        refine ⟨rfl, fun W hW => ?_⟩
        obtain ⟨s0, s1, s2⟩ := hW
        go_simp
        try rfl
      try simp only [Act.put, List.setIfInBounds_toArray, List.set_cons_zero, List.set_cons_succ]
      refine wpAnyD_takeAt 6 (some 138) (v := ?_) rfl (by kernel_rfl) (by kernel_rfl) (by kernel_rfl) (by kernel_rfl) (by kernel_rfl) (fun c a w h => HQ.out c _ _ w h) (by exact HS0.out) (fun o hop => ?_) ?_
      rotate_left
      · injection hop with hop
        subst hop
        refine ⟨rfl, fun W hW => ?_⟩
        obtain ⟨s0, s1, s2⟩ := hW
        go_simp
        try rfl
      try simp only [Act.put, List.setIfInBounds_toArray, List.set_cons_zero, List.set_cons_succ]
      refine wpAnyD_takeAt 7 (some 139) (v := ?_) rfl (by kernel_rfl) (by kernel_rfl) (by kernel_rfl) (by kernel_rfl) (by kernel_rfl) (fun c a w h => HQ.out c _ _ w h) (by exact HS0.out) (fun o hop => ?_) ?_
      rotate_left
      · injection hop with hop
        subst hop
        refine ⟨rfl, fun W hW => ?_⟩
        obtain ⟨s0, s1, s2⟩ := hW
        go_simp
        try rfl
      try simp only [Act.put, List.setIfInBounds_toArray, List.set_cons_zero, List.set_cons_succ]
      refine wpAnyD_takeAt 8 (some 140) (v := ?_) rfl (by kernel_rfl) (by kernel_rfl) (by kernel_rfl) (by kernel_rfl) (by kernel_rfl) (fun c a w h => HQ.out c _ _ w h) (by exact HS0.out) (fun o hop => ?_) ?_
      rotate_left
      · injection hop with hop
        subst hop
        refine ⟨rfl, fun W hW => ?_⟩
        obtain ⟨s0, s1, s2⟩ := hW
        go_simp
        try rfl
      try simp only [Act.put, List.setIfInBounds_toArray, List.set_cons_zero, List.set_cons_succ]
      refine wpAnyD_takeAt 9 (some 141) (v := ?_) rfl (by kernel_rfl) (by kernel_rfl) (by kernel_rfl) (by kernel_rfl) (by kernel_rfl) (fun c a w h => HQ.out c _ _ w h) (by exact HS0.out) (fun o hop => ?_) ?_
      rotate_left
      · injection hop with hop
        subst hop
        refine ⟨rfl, fun W hW => ?_⟩
        obtain ⟨s0, s1, s2⟩ := hW
        go_simp
        try rfl
      try simp only [Act.put, List.setIfInBounds_toArray, List.set_cons_zero, List.set_cons_succ]
      refine wpAnyD_takeAt 10 (some 142) (v := ?_) rfl (by kernel_rfl) (by kernel_rfl) (by kernel_rfl) (by kernel_rfl) (by kernel_rfl) (fun c a w h => HQ.out c _ _ w h) (by exact HS0.out) (fun o hop => ?_) ?_
      rotate_left
      · injection hop with hop
        subst hop
        refine ⟨rfl, fun W hW => ?_⟩
        obtain ⟨s0, s1, s2⟩ := hW
        go_simp
        try rfl
      try simp only [Act.put, List.setIfInBounds_toArray, List.set_cons_zero, List.set_cons_succ]
      refine wpAnyD_takeAt 11 (some 143) (v := ?_) rfl (by kernel_rfl) (by kernel_rfl) (by kernel_rfl) (by kernel_rfl) (by kernel_rfl) (fun c a w h => HQ.out c _ _ w h) (by exact HS0.out) (fun o hop => ?_) ?_
      rotate_left
      · injection hop with hop
        subst hop
        refine ⟨rfl, fun W hW => ?_⟩
        obtain ⟨s0, s1, s2⟩ := hW
        go_simp
        try rfl
      try simp only [Act.put, List.setIfInBounds_toArray, List.set_cons_zero, List.set_cons_succ]
      refine wpAnyD_takeAt 13 (some 145) (v := ?_) rfl (by kernel_rfl) (by kernel_rfl) (by kernel_rfl) (by kernel_rfl) (by kernel_rfl) (fun c a w h => HQ.out c _ _ w h) (by exact HS0.out) (fun o hop => ?_) ?_
      rotate_left
      · injection hop with hop
        subst hop
        refine ⟨rfl, fun W hW => ?_⟩
        obtain ⟨s0, s1, s2⟩ := hW
        go_simp
        try rfl
      try simp only [Act.put, List.setIfInBounds_toArray, List.set_cons_zero, List.set_cons_succ]
      refine wpAnyD_takeAt 14 (some 146) (v := ?_) rfl (by kernel_rfl) (by kernel_rfl) (by kernel_rfl) (by kernel_rfl) (by kernel_rfl) (fun c a w h => HQ.out c _ _ w h) (by exact HS0.out) (fun o hop => ?_) ?_
      rotate_left
      · injection hop with hop
        subst hop
        refine ⟨rfl, fun W hW => ?_⟩
        obtain ⟨s0, s1, s2⟩ := hW
        go_simp
        try rfl
      try simp only [Act.put, List.setIfInBounds_toArray, List.set_cons_zero, List.set_cons_succ]
      refine wpAnyD_takeAt 15 (some 147) (v := ?_) rfl (by kernel_rfl) (by kernel_rfl) (by kernel_rfl) (by kernel_rfl) (by kernel_rfl) (fun c a w h => HQ.out c _ _ w h) (by exact HS0.out) (fun o hop => ?_) ?_
      rotate_left
      · injection hop with hop
        subst hop
        refine ⟨rfl, fun W hW => ?_⟩
        obtain ⟨s0, s1, s2⟩ := hW
        go_simp
        try rfl
      try simp only [Act.put, List.setIfInBounds_toArray, List.set_cons_zero, List.set_cons_succ]
      refine wpAnyD_takeAt 16 (some 148) (v := ?_) rfl (by kernel_rfl) (by kernel_rfl) (by kernel_rfl) (by kernel_rfl) (by kernel_rfl) (fun c a w h => HQ.out c _ _ w h) (by exact HS0.out) (fun o hop => ?_) ?_
      rotate_left
      · injection hop with hop
        subst hop
        refine ⟨rfl, fun W hW => ?_⟩
        obtain ⟨s0, s1, s2⟩ := hW
        go_simp
        try rfl
      try simp only [Act.put, List.setIfInBounds_toArray, List.set_cons_zero, List.set_cons_succ]
      refine wpAnyT_three (i := 12) (j := 17) (k := 20) (by kernel_rfl) rfl rfl rfl rfl rfl rfl (fun K' hK => ?_) (fun K' hK => ?_) (fun K' hK => ?_)
      · refine step_append_any rfl _ _ 51 rfl w1.heap.size 39 i39 _ 1 24 Try.underlying51 hi39 h390 h391 h392 rfl (by decide) _ 0 [] rfl (World.ownsRow_nil _ _ _ _) (.slice xr x.t.length xrc) x.t.length vals rfl (rowAt_of_own (own_below HVA.out HB0.out (Nat.le_refl _))) HV1C.out (by unfold maxLen; omega) (by omega) HB0.out.size ?_
        intro v' z1 hown hgr
        have hb : Below z0.heap.size z0 z1 := (Below.refl _ z0).grown hgr (Nat.le_refl _) (fun k e => by cases e)
        rw [Nat.zero_add, List.nil_append] at hown
        obtain ⟨pa, pc, hpe⟩ := own_slice hown
        subst hpe
        have HA1 := hide' hown
        have HB1 : Hid (Below w1.heap.size w1 z1) := HB0.out.trans (hb.mono HB0.out.size)
        refine hK.out _ _ (fun _ => HSS.out _ HB1.out) ?_
        clear hK K' hown hgr hb HB0
        try simp only [Act.put, List.setIfInBounds_toArray]
        refine wpAnyT_two (i := 17) (j := 20) (by kernel_rfl) rfl rfl rfl rfl (fun K' hK => ?_) (fun K' hK => ?_)
        · go_simp
          refine hK.out _ _ (fun _ => HSS.out _ (HB1.out.trans ((below_al z1 (.cells #[.slice ra L rc] 39)).mono HB1.out.size))) ?_
          clear hK K'
          try simp only [Act.put, List.setIfInBounds_toArray]
          have HNEW : Hid ((z1.alloc (.cells #[.slice ra L rc] 39)).heap[z1.heap.size]? = some (.cells #[.slice ra L rc] 39 (0, 0)) ∧ w1.heap.size ≤ z1.heap.size) := ⟨alloc_new z1 _, HB1.out.size⟩
          obtain ⟨R, hE⟩ : ∃ q, q = z1.heap.size := ⟨_, rfl⟩
          rw [← hE] at HNEW
          rw [show (some ({ block := z1.heap.size, off := 0 } : Addr)) = some { block := R, off := 0 } by rw [hE]]
          clear hE
          refine wpAnyT_letter (fun z => Below w1.heap.size w1 z ∧ z.ownsRow w1.heap.size 39 1 (.slice pa x.t.length pc) x.t.length vals ∧ (z.heap[R]? = some (.cells #[.slice ra L rc] 39 (0, 0)) ∧ w1.heap.size ≤ R)) ⟨HB1.out.trans ((below_al z1 (.cells #[.slice ra L rc] 39)).mono HB1.out.size), own_below HA1.out (below_al z1 (.cells #[.slice ra L rc] 39)) (Nat.le_refl _), HNEW.out⟩ ?_
          intro z2 hz
          have HB2 := hide' hz.1
          have HA2 := hide' hz.2.1
          have HR2 := hide' hz.2.2
          clear hz HNEW HB1 HA1
          refine wpAnyT_two (i := 18) (j := 20) (by kernel_rfl) rfl rfl rfl rfl (fun K' hK => ?_) (fun K' hK => ?_)
          · refine step_append_any rfl _ _ 51 rfl w1.heap.size 39 i39 _ 1 24 Try.underlying51 hi39 h390 h391 h392 rfl (by decide) (.slice pa x.t.length pc) x.t.length vals rfl HA2.out (.slice (some ⟨R, 0, none⟩) 1 1) 1 [.slice ra L rc] rfl (row_one HR2.out.1) (one_cell rfl) (by unfold maxLen; omega) (by omega) HB2.out.size ?_
            intro v' z3 hown hgr
            have HB3 : Hid (Below w1.heap.size w1 z3) := HB2.out.grown hgr HB2.out.size (own_at HA2.out)
            obtain ⟨qa, qc, hpe⟩ := own_slice hown
            subst hpe
            have HC3 := hide' hown
            refine hK.out _ _ (fun _ => HSS.out _ HB3.out) ?_
            clear hK K' hown hgr HA2 HR2 HB2 
            try simp only [Act.put, List.setIfInBounds_toArray]
            refine wpAnyD_takeAt 19 (some 151) (v := ?_) rfl (by kernel_rfl) (by kernel_rfl) (by kernel_rfl) (by kernel_rfl) (by kernel_rfl) (fun c a w h => HQ.out c _ _ w h) (by exact (HSS.out _ HB3.out)) (fun o hop => ?_) ?_
            rotate_left
            · injection hop with hop
              subst hop
              refine ⟨rfl, fun W hW => ?_⟩
              obtain ⟨s0, s1, s2⟩ := hW
              go_simp
              try rfl
            refine wpAnyT_one (i := 20) (by kernel_rfl) rfl rfl (fun K' hK => ?_)
            go_simp
            refine hK.out _ _ (fun _ => HSS.out _ (HB3.out.trans ((below_al z3 (.cells #[.slice none 0 0, .slice none 0 0, .int .i64 0, .slice none 0 0] 93)).mono HB3.out.size))) ?_
            clear hK K'
            try simp only [Act.put, List.setIfInBounds_toArray]
            have HNEW : Hid ((z3.alloc (.cells #[.slice none 0 0, .slice none 0 0, .int .i64 0, .slice none 0 0] 93)).heap[z3.heap.size]? = some (.cells #[.slice none 0 0, .slice none 0 0, .int .i64 0, .slice none 0 0] 93 (0, 0)) ∧ w1.heap.size ≤ z3.heap.size) := ⟨alloc_new z3 _, HB3.out.size⟩
            obtain ⟨E, hE⟩ : ∃ q, q = z3.heap.size := ⟨_, rfl⟩
            rw [← hE] at HNEW
            rw [show (some ({ block := z3.heap.size, off := 0 } : Addr)) = some { block := E, off := 0 } by rw [hE]]
            clear hE
            refine wpAnyT_letter (fun z => Below w1.heap.size w1 z ∧ z.ownsRow w1.heap.size 39 1 (.slice qa (x.t.length + 1) qc) (x.t.length + 1) (vals ++ [.slice ra L rc]) ∧ (z.heap[E]? = some (.cells #[.slice none 0 0, .slice none 0 0, .int .i64 0, .slice none 0 0] 93 (0, 0)) ∧ w1.heap.size ≤ E)) ⟨HB3.out.trans ((below_al z3 (.cells #[.slice none 0 0, .slice none 0 0, .int .i64 0, .slice none 0 0] 93)).mono HB3.out.size), own_below HC3.out (below_al z3 (.cells #[.slice none 0 0, .slice none 0 0, .int .i64 0, .slice none 0 0] 93)) (Nat.le_refl _), HNEW.out⟩ ?_
            intro z4 hz
            have HB4 := hide' hz.1
            have HC4 := hide' hz.2.1
            have HE4 := hide' hz.2.2
            clear hz HNEW HB3 HC3
            have HEND := hide' (wet_end (va := va) (vc := vc) (ua := ua) (uc := uc) (e := x.e) HB4.out HE4.out.1 HE4.out.2 HC4.out HVR.out hvl HRO.out hrl)
            have b0 : z4.cell? ⟨E, 0, none⟩ = some (.slice none 0 0) := (cells_at HE4.out.1 0).trans rfl
            have f0 : z4.frozen? ⟨E, 0, none⟩ = false := frozen_no HE4.out.1 _
            have b1 : z4.cell? ⟨E, 1, none⟩ = some (.slice none 0 0) := (cells_at HE4.out.1 1).trans rfl
            have f1 : z4.frozen? ⟨E, 1, none⟩ = false := frozen_no HE4.out.1 _
            have b2 : z4.cell? ⟨E, 2, none⟩ = some (.int .i64 0) := (cells_at HE4.out.1 2).trans rfl
            have f2 : z4.frozen? ⟨E, 2, none⟩ = false := frozen_no HE4.out.1 _
            have b3 : z4.cell? ⟨E, 3, none⟩ = some (.slice none 0 0) := (cells_at HE4.out.1 3).trans rfl
            have f3 : z4.frozen? ⟨E, 3, none⟩ = false := frozen_no HE4.out.1 _
            refine wpAnyT_one (i := 21) (by kernel_rfl) rfl rfl (fun K' hK => ?_)
            go_simp
            refine hK.out _ _ (fun h => absurd rfl h) ?_
            clear hK K'
            refine wpAnyT_done (by kernel_rfl) ?_ _
            clear b0 b1 b2 b3 f0 f1 f2 f3 HE4 HC4 HB4
            go_wp2_with fail
            go_meet
            case rel => exact ⟨E, qa, qc, rfl, HEND.out⟩
          · go_simp
            refine hK.out _ _ (fun _ => HSS.out _ (HB2.out.trans ((below_al z2 (.cells #[.slice none 0 0, .slice none 0 0, .int .i64 0, .slice none 0 0] 93)).mono HB2.out.size))) ?_
            clear hK K'
            try simp only [Act.put, List.setIfInBounds_toArray]
            have HNEW : Hid ((z2.alloc (.cells #[.slice none 0 0, .slice none 0 0, .int .i64 0, .slice none 0 0] 93)).heap[z2.heap.size]? = some (.cells #[.slice none 0 0, .slice none 0 0, .int .i64 0, .slice none 0 0] 93 (0, 0)) ∧ w1.heap.size ≤ z2.heap.size) := ⟨alloc_new z2 _, HB2.out.size⟩
            obtain ⟨E, hE⟩ : ∃ q, q = z2.heap.size := ⟨_, rfl⟩
            rw [← hE] at HNEW
            rw [show (some ({ block := z2.heap.size, off := 0 } : Addr)) = some { block := E, off := 0 } by rw [hE]]
            clear hE
            refine wpAnyT_letter (fun z => Below w1.heap.size w1 z ∧ z.ownsRow w1.heap.size 39 1 (.slice pa x.t.length pc) x.t.length vals ∧ (z.heap[R]? = some (.cells #[.slice ra L rc] 39 (0, 0)) ∧ w1.heap.size ≤ R) ∧ (z.heap[E]? = some (.cells #[.slice none 0 0, .slice none 0 0, .int .i64 0, .slice none 0 0] 93 (0, 0)) ∧ w1.heap.size ≤ E)) ⟨HB2.out.trans ((below_al z2 (.cells #[.slice none 0 0, .slice none 0 0, .int .i64 0, .slice none 0 0] 93)).mono HB2.out.size), own_below HA2.out (below_al z2 (.cells #[.slice none 0 0, .slice none 0 0, .int .i64 0, .slice none 0 0] 93)) (Nat.le_refl _), ⟨((below_al z2 (.cells #[.slice none 0 0, .slice none 0 0, .int .i64 0, .slice none 0 0] 93)).block R (lt_heapZ HR2.out.1)).trans HR2.out.1, HR2.out.2⟩, HNEW.out⟩ ?_
            intro z5 hz
            have HB5 := hide' hz.1
            have HA5 := hide' hz.2.1
            have HR5 := hide' hz.2.2.1
            have HE5 := hide' hz.2.2.2
            clear hz HNEW HB2 HA2 HR2
            refine wpAnyT_one (i := 18) (by kernel_rfl) rfl rfl (fun K' hK => ?_)
            refine step_append_any rfl _ _ 51 rfl w1.heap.size 39 i39 _ 1 24 Try.underlying51 hi39 h390 h391 h392 rfl (by decide) (.slice pa x.t.length pc) x.t.length vals rfl HA5.out (.slice (some ⟨R, 0, none⟩) 1 1) 1 [.slice ra L rc] rfl (row_one HR5.out.1) (one_cell rfl) (by unfold maxLen; omega) (by omega) HB5.out.size ?_
            intro v' z6 hown hgr
            have HB6 : Hid (Below w1.heap.size w1 z6) := HB5.out.grown hgr HB5.out.size (own_at HA5.out)
            obtain ⟨qa, qc, hpe⟩ := own_slice hown
            subst hpe
            have HC6 := hide' hown
            have HE6 : Hid ((z6.heap[E]? = some (.cells #[.slice none 0 0, .slice none 0 0, .int .i64 0, .slice none 0 0] 93 (0, 0)) ∧ w1.heap.size ≤ E)) := ⟨(KeepE.grown HA5.out hgr E _ 93 (0, 0) HE5.out.1 (by decide)).trans HE5.out.1, HE5.out.2⟩
            refine hK.out _ _ (fun _ => HSS.out _ HB6.out) ?_
            clear hK K' hown hgr HA5 HR5 HB5 HE5
            try simp only [Act.put, List.setIfInBounds_toArray]
            refine wpAnyD_takeAt 19 (some 151) (v := ?_) rfl (by kernel_rfl) (by kernel_rfl) (by kernel_rfl) (by kernel_rfl) (by kernel_rfl) (fun c a w h => HQ.out c _ _ w h) (by exact (HSS.out _ HB6.out)) (fun o hop => ?_) ?_
            rotate_left
            · injection hop with hop
              subst hop
              refine ⟨rfl, fun W hW => ?_⟩
              obtain ⟨s0, s1, s2⟩ := hW
              go_simp
              try rfl
            have HEND := hide' (wet_end (va := va) (vc := vc) (ua := ua) (uc := uc) (e := x.e) HB6.out HE6.out.1 HE6.out.2 HC6.out HVR.out hvl HRO.out hrl)
            have b0 : z6.cell? ⟨E, 0, none⟩ = some (.slice none 0 0) := (cells_at HE6.out.1 0).trans rfl
            have f0 : z6.frozen? ⟨E, 0, none⟩ = false := frozen_no HE6.out.1 _
            have b1 : z6.cell? ⟨E, 1, none⟩ = some (.slice none 0 0) := (cells_at HE6.out.1 1).trans rfl
            have f1 : z6.frozen? ⟨E, 1, none⟩ = false := frozen_no HE6.out.1 _
            have b2 : z6.cell? ⟨E, 2, none⟩ = some (.int .i64 0) := (cells_at HE6.out.1 2).trans rfl
            have f2 : z6.frozen? ⟨E, 2, none⟩ = false := frozen_no HE6.out.1 _
            have b3 : z6.cell? ⟨E, 3, none⟩ = some (.slice none 0 0) := (cells_at HE6.out.1 3).trans rfl
            have f3 : z6.frozen? ⟨E, 3, none⟩ = false := frozen_no HE6.out.1 _
            refine wpAnyT_one (i := 21) (by kernel_rfl) rfl rfl (fun K' hK => ?_)
            go_simp
            refine hK.out _ _ (fun h => absurd rfl h) ?_
            clear hK K'
            refine wpAnyT_done (by kernel_rfl) ?_ _
            clear b0 b1 b2 b3 f0 f1 f2 f3 HE6 HC6 HB6
            go_wp2_with fail
            go_meet
            case rel => exact ⟨E, qa, qc, rfl, HEND.out⟩
        · go_simp
          refine hK.out _ _ (fun _ => HSS.out _ (HB1.out.trans ((below_al z1 (.cells #[.slice none 0 0, .slice none 0 0, .int .i64 0, .slice none 0 0] 93)).mono HB1.out.size))) ?_
          clear hK K'
          try simp only [Act.put, List.setIfInBounds_toArray]
          have HNEW : Hid ((z1.alloc (.cells #[.slice none 0 0, .slice none 0 0, .int .i64 0, .slice none 0 0] 93)).heap[z1.heap.size]? = some (.cells #[.slice none 0 0, .slice none 0 0, .int .i64 0, .slice none 0 0] 93 (0, 0)) ∧ w1.heap.size ≤ z1.heap.size) := ⟨alloc_new z1 _, HB1.out.size⟩
          obtain ⟨E, hE⟩ : ∃ q, q = z1.heap.size := ⟨_, rfl⟩
          rw [← hE] at HNEW
          rw [show (some ({ block := z1.heap.size, off := 0 } : Addr)) = some { block := E, off := 0 } by rw [hE]]
          clear hE
          refine wpAnyT_letter (fun z => Below w1.heap.size w1 z ∧ z.ownsRow w1.heap.size 39 1 (.slice pa x.t.length pc) x.t.length vals ∧ (z.heap[E]? = some (.cells #[.slice none 0 0, .slice none 0 0, .int .i64 0, .slice none 0 0] 93 (0, 0)) ∧ w1.heap.size ≤ E)) ⟨HB1.out.trans ((below_al z1 (.cells #[.slice none 0 0, .slice none 0 0, .int .i64 0, .slice none 0 0] 93)).mono HB1.out.size), own_below HA1.out (below_al z1 (.cells #[.slice none 0 0, .slice none 0 0, .int .i64 0, .slice none 0 0] 93)) (Nat.le_refl _), HNEW.out⟩ ?_
          intro z7 hz
          have HB7 := hide' hz.1
          have HA7 := hide' hz.2.1
          have HE7 := hide' hz.2.2
          clear hz HNEW HB1 HA1
          refine wpAnyT_one (i := 17) (by kernel_rfl) rfl rfl (fun K' hK => ?_)
          go_simp
          refine hK.out _ _ (fun _ => HSS.out _ (HB7.out.trans ((below_al z7 (.cells #[.slice ra L rc] 39)).mono HB7.out.size))) ?_
          clear hK K'
          try simp only [Act.put, List.setIfInBounds_toArray]
          have HNEW : Hid ((z7.alloc (.cells #[.slice ra L rc] 39)).heap[z7.heap.size]? = some (.cells #[.slice ra L rc] 39 (0, 0)) ∧ w1.heap.size ≤ z7.heap.size) := ⟨alloc_new z7 _, HB7.out.size⟩
          obtain ⟨R, hE⟩ : ∃ q, q = z7.heap.size := ⟨_, rfl⟩
          rw [← hE] at HNEW
          rw [show (some ({ block := z7.heap.size, off := 0 } : Addr)) = some { block := R, off := 0 } by rw [hE]]
          clear hE
          refine wpAnyT_letter (fun z => Below w1.heap.size w1 z ∧ z.ownsRow w1.heap.size 39 1 (.slice pa x.t.length pc) x.t.length vals ∧ (z.heap[E]? = some (.cells #[.slice none 0 0, .slice none 0 0, .int .i64 0, .slice none 0 0] 93 (0, 0)) ∧ w1.heap.size ≤ E) ∧ (z.heap[R]? = some (.cells #[.slice ra L rc] 39 (0, 0)) ∧ w1.heap.size ≤ R)) ⟨HB7.out.trans ((below_al z7 (.cells #[.slice ra L rc] 39)).mono HB7.out.size), own_below HA7.out (below_al z7 (.cells #[.slice ra L rc] 39)) (Nat.le_refl _), ⟨((below_al z7 (.cells #[.slice ra L rc] 39)).block E (lt_heapZ HE7.out.1)).trans HE7.out.1, HE7.out.2⟩, HNEW.out⟩ ?_
          intro z8 hz
          have HB8 := hide' hz.1
          have HA8 := hide' hz.2.1
          have HE8 := hide' hz.2.2.1
          have HR8 := hide' hz.2.2.2
          clear hz HNEW HB7 HA7 HE7
          refine wpAnyT_one (i := 18) (by kernel_rfl) rfl rfl (fun K' hK => ?_)
          refine step_append_any rfl _ _ 51 rfl w1.heap.size 39 i39 _ 1 24 Try.underlying51 hi39 h390 h391 h392 rfl (by decide) (.slice pa x.t.length pc) x.t.length vals rfl HA8.out (.slice (some ⟨R, 0, none⟩) 1 1) 1 [.slice ra L rc] rfl (row_one HR8.out.1) (one_cell rfl) (by unfold maxLen; omega) (by omega) HB8.out.size ?_
          intro v' z9 hown hgr
          have HB9 : Hid (Below w1.heap.size w1 z9) := HB8.out.grown hgr HB8.out.size (own_at HA8.out)
          obtain ⟨qa, qc, hpe⟩ := own_slice hown
          subst hpe
          have HC9 := hide' hown
          have HE9 : Hid ((z9.heap[E]? = some (.cells #[.slice none 0 0, .slice none 0 0, .int .i64 0, .slice none 0 0] 93 (0, 0)) ∧ w1.heap.size ≤ E)) := ⟨(KeepE.grown HA8.out hgr E _ 93 (0, 0) HE8.out.1 (by decide)).trans HE8.out.1, HE8.out.2⟩
          refine hK.out _ _ (fun _ => HSS.out _ HB9.out) ?_
          clear hK K' hown hgr HA8 HR8 HB8 HE8
          try simp only [Act.put, List.setIfInBounds_toArray]
          refine wpAnyD_takeAt 19 (some 151) (v := ?_) rfl (by kernel_rfl) (by kernel_rfl) (by kernel_rfl) (by kernel_rfl) (by kernel_rfl) (fun c a w h => HQ.out c _ _ w h) (by exact (HSS.out _ HB9.out)) (fun o hop => ?_) ?_
          rotate_left
          · injection hop with hop
            subst hop
            refine ⟨rfl, fun W hW => ?_⟩
            obtain ⟨s0, s1, s2⟩ := hW
            go_simp
            try rfl
          have HEND := hide' (wet_end (va := va) (vc := vc) (ua := ua) (uc := uc) (e := x.e) HB9.out HE9.out.1 HE9.out.2 HC9.out HVR.out hvl HRO.out hrl)
          have b0 : z9.cell? ⟨E, 0, none⟩ = some (.slice none 0 0) := (cells_at HE9.out.1 0).trans rfl
          have f0 : z9.frozen? ⟨E, 0, none⟩ = false := frozen_no HE9.out.1 _
          have b1 : z9.cell? ⟨E, 1, none⟩ = some (.slice none 0 0) := (cells_at HE9.out.1 1).trans rfl
          have f1 : z9.frozen? ⟨E, 1, none⟩ = false := frozen_no HE9.out.1 _
          have b2 : z9.cell? ⟨E, 2, none⟩ = some (.int .i64 0) := (cells_at HE9.out.1 2).trans rfl
          have f2 : z9.frozen? ⟨E, 2, none⟩ = false := frozen_no HE9.out.1 _
          have b3 : z9.cell? ⟨E, 3, none⟩ = some (.slice none 0 0) := (cells_at HE9.out.1 3).trans rfl
          have f3 : z9.frozen? ⟨E, 3, none⟩ = false := frozen_no HE9.out.1 _
          refine wpAnyT_one (i := 21) (by kernel_rfl) rfl rfl (fun K' hK => ?_)
          go_simp
          refine hK.out _ _ (fun h => absurd rfl h) ?_
          clear hK K'
          refine wpAnyT_done (by kernel_rfl) ?_ _
          clear b0 b1 b2 b3 f0 f1 f2 f3 HE9 HC9 HB9
          go_wp2_with fail
          go_meet
          case rel => exact ⟨E, qa, qc, rfl, HEND.out⟩
      · go_simp
        refine hK.out _ _ (fun _ => HSS.out _ (HB0.out.trans ((below_al z0 (.cells #[.slice ra L rc] 39)).mono HB0.out.size))) ?_
        clear hK K'
        try simp only [Act.put, List.setIfInBounds_toArray]
        have HNEW : Hid ((z0.alloc (.cells #[.slice ra L rc] 39)).heap[z0.heap.size]? = some (.cells #[.slice ra L rc] 39 (0, 0)) ∧ w1.heap.size ≤ z0.heap.size) := ⟨alloc_new z0 _, HB0.out.size⟩
        obtain ⟨R, hE⟩ : ∃ q, q = z0.heap.size := ⟨_, rfl⟩
        rw [← hE] at HNEW
        rw [show (some ({ block := z0.heap.size, off := 0 } : Addr)) = some { block := R, off := 0 } by rw [hE]]
        clear hE
        refine wpAnyT_letter (fun z => Below w1.heap.size w1 z ∧ (z.heap[R]? = some (.cells #[.slice ra L rc] 39 (0, 0)) ∧ w1.heap.size ≤ R)) ⟨HB0.out.trans ((below_al z0 (.cells #[.slice ra L rc] 39)).mono HB0.out.size), HNEW.out⟩ ?_
        intro z10 hz
        have HB10 := hide' hz.1
        have HR10 := hide' hz.2
        clear hz HNEW HB0
        refine wpAnyT_two (i := 12) (j := 20) (by kernel_rfl) rfl rfl rfl rfl (fun K' hK => ?_) (fun K' hK => ?_)
        · refine step_append_any rfl _ _ 51 rfl w1.heap.size 39 i39 _ 1 24 Try.underlying51 hi39 h390 h391 h392 rfl (by decide) _ 0 [] rfl (World.ownsRow_nil _ _ _ _) (.slice xr x.t.length xrc) x.t.length vals rfl (rowAt_of_own (own_below HVA.out HB10.out (Nat.le_refl _))) HV1C.out (by unfold maxLen; omega) (by omega) HB10.out.size ?_
          intro v' z11 hown hgr
          have hb : Below z10.heap.size z10 z11 := (Below.refl _ z10).grown hgr (Nat.le_refl _) (fun k e => by cases e)
          rw [Nat.zero_add, List.nil_append] at hown
          obtain ⟨pa, pc, hpe⟩ := own_slice hown
          subst hpe
          have HA11 := hide' hown
          have HB11 : Hid (Below w1.heap.size w1 z11) := HB10.out.trans (hb.mono HB10.out.size)
          have HR11 : Hid ((z11.heap[R]? = some (.cells #[.slice ra L rc] 39 (0, 0)) ∧ w1.heap.size ≤ R)) := ⟨(hb.block R (lt_heapZ HR10.out.1)).trans HR10.out.1, HR10.out.2⟩
          refine hK.out _ _ (fun _ => HSS.out _ HB11.out) ?_
          clear hK K' hown hgr hb HB10 HR10
          try simp only [Act.put, List.setIfInBounds_toArray]
          refine wpAnyT_two (i := 18) (j := 20) (by kernel_rfl) rfl rfl rfl rfl (fun K' hK => ?_) (fun K' hK => ?_)
          · refine step_append_any rfl _ _ 51 rfl w1.heap.size 39 i39 _ 1 24 Try.underlying51 hi39 h390 h391 h392 rfl (by decide) (.slice pa x.t.length pc) x.t.length vals rfl HA11.out (.slice (some ⟨R, 0, none⟩) 1 1) 1 [.slice ra L rc] rfl (row_one HR11.out.1) (one_cell rfl) (by unfold maxLen; omega) (by omega) HB11.out.size ?_
            intro v' z12 hown hgr
            have HB12 : Hid (Below w1.heap.size w1 z12) := HB11.out.grown hgr HB11.out.size (own_at HA11.out)
            obtain ⟨qa, qc, hpe⟩ := own_slice hown
            subst hpe
            have HC12 := hide' hown
            refine hK.out _ _ (fun _ => HSS.out _ HB12.out) ?_
            clear hK K' hown hgr HA11 HR11 HB11 
            try simp only [Act.put]
            refine wpAnyD_takeAt 19 (some 151) (v := ?_) rfl (by kernel_rfl) (by kernel_rfl) (by kernel_rfl) (by kernel_rfl) (by kernel_rfl) (fun c a w h => HQ.out c _ _ w h) (by exact (HSS.out _ HB12.out)) (fun o hop => ?_) ?_
            rotate_left
            · injection hop with hop
              subst hop
              refine ⟨rfl, fun W hW => ?_⟩
              obtain ⟨s0, s1, s2⟩ := hW
              go_simp
              try rfl
            refine wpAnyT_one (i := 20) (by kernel_rfl) rfl rfl (fun K' hK => ?_)
            go_simp
            refine hK.out _ _ (fun _ => HSS.out _ (HB12.out.trans ((below_al z12 (.cells #[.slice none 0 0, .slice none 0 0, .int .i64 0, .slice none 0 0] 93)).mono HB12.out.size))) ?_
            clear hK K'
            try simp only [Act.put, List.setIfInBounds_toArray]
            have HNEW : Hid ((z12.alloc (.cells #[.slice none 0 0, .slice none 0 0, .int .i64 0, .slice none 0 0] 93)).heap[z12.heap.size]? = some (.cells #[.slice none 0 0, .slice none 0 0, .int .i64 0, .slice none 0 0] 93 (0, 0)) ∧ w1.heap.size ≤ z12.heap.size) := ⟨alloc_new z12 _, HB12.out.size⟩
            obtain ⟨E, hE⟩ : ∃ q, q = z12.heap.size := ⟨_, rfl⟩
            rw [← hE] at HNEW
            rw [show (some ({ block := z12.heap.size, off := 0 } : Addr)) = some { block := E, off := 0 } by rw [hE]]
            clear hE
            refine wpAnyT_letter (fun z => Below w1.heap.size w1 z ∧ z.ownsRow w1.heap.size 39 1 (.slice qa (x.t.length + 1) qc) (x.t.length + 1) (vals ++ [.slice ra L rc]) ∧ (z.heap[E]? = some (.cells #[.slice none 0 0, .slice none 0 0, .int .i64 0, .slice none 0 0] 93 (0, 0)) ∧ w1.heap.size ≤ E)) ⟨HB12.out.trans ((below_al z12 (.cells #[.slice none 0 0, .slice none 0 0, .int .i64 0, .slice none 0 0] 93)).mono HB12.out.size), own_below HC12.out (below_al z12 (.cells #[.slice none 0 0, .slice none 0 0, .int .i64 0, .slice none 0 0] 93)) (Nat.le_refl _), HNEW.out⟩ ?_
            intro z13 hz
            have HB13 := hide' hz.1
            have HC13 := hide' hz.2.1
            have HE13 := hide' hz.2.2
            clear hz HNEW HB12 HC12
            have HEND := hide' (wet_end (va := va) (vc := vc) (ua := ua) (uc := uc) (e := x.e) HB13.out HE13.out.1 HE13.out.2 HC13.out HVR.out hvl HRO.out hrl)
            have b0 : z13.cell? ⟨E, 0, none⟩ = some (.slice none 0 0) := (cells_at HE13.out.1 0).trans rfl
            have f0 : z13.frozen? ⟨E, 0, none⟩ = false := frozen_no HE13.out.1 _
            have b1 : z13.cell? ⟨E, 1, none⟩ = some (.slice none 0 0) := (cells_at HE13.out.1 1).trans rfl
            have f1 : z13.frozen? ⟨E, 1, none⟩ = false := frozen_no HE13.out.1 _
            have b2 : z13.cell? ⟨E, 2, none⟩ = some (.int .i64 0) := (cells_at HE13.out.1 2).trans rfl
            have f2 : z13.frozen? ⟨E, 2, none⟩ = false := frozen_no HE13.out.1 _
            have b3 : z13.cell? ⟨E, 3, none⟩ = some (.slice none 0 0) := (cells_at HE13.out.1 3).trans rfl
            have f3 : z13.frozen? ⟨E, 3, none⟩ = false := frozen_no HE13.out.1 _
            refine wpAnyT_one (i := 21) (by kernel_rfl) rfl rfl (fun K' hK => ?_)
            go_simp
            refine hK.out _ _ (fun h => absurd rfl h) ?_
            clear hK K'
            refine wpAnyT_done (by kernel_rfl) ?_ _
            clear b0 b1 b2 b3 f0 f1 f2 f3 HE13 HC13 HB13
            go_wp2_with fail
            go_meet
            case rel => exact ⟨E, qa, qc, rfl, HEND.out⟩
          · go_simp
            refine hK.out _ _ (fun _ => HSS.out _ (HB11.out.trans ((below_al z11 (.cells #[.slice none 0 0, .slice none 0 0, .int .i64 0, .slice none 0 0] 93)).mono HB11.out.size))) ?_
            clear hK K'
            try simp only [Act.put, List.setIfInBounds_toArray]
            have HNEW : Hid ((z11.alloc (.cells #[.slice none 0 0, .slice none 0 0, .int .i64 0, .slice none 0 0] 93)).heap[z11.heap.size]? = some (.cells #[.slice none 0 0, .slice none 0 0, .int .i64 0, .slice none 0 0] 93 (0, 0)) ∧ w1.heap.size ≤ z11.heap.size) := ⟨alloc_new z11 _, HB11.out.size⟩
            obtain ⟨E, hE⟩ : ∃ q, q = z11.heap.size := ⟨_, rfl⟩
            rw [← hE] at HNEW
            rw [show (some ({ block := z11.heap.size, off := 0 } : Addr)) = some { block := E, off := 0 } by rw [hE]]
            clear hE
            refine wpAnyT_letter (fun z => Below w1.heap.size w1 z ∧ z.ownsRow w1.heap.size 39 1 (.slice pa x.t.length pc) x.t.length vals ∧ (z.heap[R]? = some (.cells #[.slice ra L rc] 39 (0, 0)) ∧ w1.heap.size ≤ R) ∧ (z.heap[E]? = some (.cells #[.slice none 0 0, .slice none 0 0, .int .i64 0, .slice none 0 0] 93 (0, 0)) ∧ w1.heap.size ≤ E)) ⟨HB11.out.trans ((below_al z11 (.cells #[.slice none 0 0, .slice none 0 0, .int .i64 0, .slice none 0 0] 93)).mono HB11.out.size), own_below HA11.out (below_al z11 (.cells #[.slice none 0 0, .slice none 0 0, .int .i64 0, .slice none 0 0] 93)) (Nat.le_refl _), ⟨((below_al z11 (.cells #[.slice none 0 0, .slice none 0 0, .int .i64 0, .slice none 0 0] 93)).block R (lt_heapZ HR11.out.1)).trans HR11.out.1, HR11.out.2⟩, HNEW.out⟩ ?_
            intro z14 hz
            have HB14 := hide' hz.1
            have HA14 := hide' hz.2.1
            have HR14 := hide' hz.2.2.1
            have HE14 := hide' hz.2.2.2
            clear hz HNEW HB11 HA11 HR11
            refine wpAnyT_one (i := 18) (by kernel_rfl) rfl rfl (fun K' hK => ?_)
            refine step_append_any rfl _ _ 51 rfl w1.heap.size 39 i39 _ 1 24 Try.underlying51 hi39 h390 h391 h392 rfl (by decide) (.slice pa x.t.length pc) x.t.length vals rfl HA14.out (.slice (some ⟨R, 0, none⟩) 1 1) 1 [.slice ra L rc] rfl (row_one HR14.out.1) (one_cell rfl) (by unfold maxLen; omega) (by omega) HB14.out.size ?_
            intro v' z15 hown hgr
            have HB15 : Hid (Below w1.heap.size w1 z15) := HB14.out.grown hgr HB14.out.size (own_at HA14.out)
            obtain ⟨qa, qc, hpe⟩ := own_slice hown
            subst hpe
            have HC15 := hide' hown
            have HE15 : Hid ((z15.heap[E]? = some (.cells #[.slice none 0 0, .slice none 0 0, .int .i64 0, .slice none 0 0] 93 (0, 0)) ∧ w1.heap.size ≤ E)) := ⟨(KeepE.grown HA14.out hgr E _ 93 (0, 0) HE14.out.1 (by decide)).trans HE14.out.1, HE14.out.2⟩
            refine hK.out _ _ (fun _ => HSS.out _ HB15.out) ?_
            clear hK K' hown hgr HA14 HR14 HB14 HE14
            try simp only [Act.put, List.setIfInBounds_toArray]
            refine wpAnyD_takeAt 19 (some 151) (v := ?_) rfl (by kernel_rfl) (by kernel_rfl) (by kernel_rfl) (by kernel_rfl) (by kernel_rfl) (fun c a w h => HQ.out c _ _ w h) (by exact (HSS.out _ HB15.out)) (fun o hop => ?_) ?_
            rotate_left
            · injection hop with hop
              subst hop
              refine ⟨rfl, fun W hW => ?_⟩
              obtain ⟨s0, s1, s2⟩ := hW
              go_simp
              try rfl
            have HEND := hide' (wet_end (va := va) (vc := vc) (ua := ua) (uc := uc) (e := x.e) HB15.out HE15.out.1 HE15.out.2 HC15.out HVR.out hvl HRO.out hrl)
            have b0 : z15.cell? ⟨E, 0, none⟩ = some (.slice none 0 0) := (cells_at HE15.out.1 0).trans rfl
            have f0 : z15.frozen? ⟨E, 0, none⟩ = false := frozen_no HE15.out.1 _
            have b1 : z15.cell? ⟨E, 1, none⟩ = some (.slice none 0 0) := (cells_at HE15.out.1 1).trans rfl
            have f1 : z15.frozen? ⟨E, 1, none⟩ = false := frozen_no HE15.out.1 _
            have b2 : z15.cell? ⟨E, 2, none⟩ = some (.int .i64 0) := (cells_at HE15.out.1 2).trans rfl
            have f2 : z15.frozen? ⟨E, 2, none⟩ = false := frozen_no HE15.out.1 _
            have b3 : z15.cell? ⟨E, 3, none⟩ = some (.slice none 0 0) := (cells_at HE15.out.1 3).trans rfl
            have f3 : z15.frozen? ⟨E, 3, none⟩ = false := frozen_no HE15.out.1 _
            refine wpAnyT_one (i := 21) (by kernel_rfl) rfl rfl (fun K' hK => ?_)
            go_simp
            refine hK.out _ _ (fun h => absurd rfl h) ?_
            clear hK K'
            refine wpAnyT_done (by kernel_rfl) ?_ _
            clear b0 b1 b2 b3 f0 f1 f2 f3 HE15 HC15 HB15
            go_wp2_with fail
            go_meet
            case rel => exact ⟨E, qa, qc, rfl, HEND.out⟩
        · go_simp
          refine hK.out _ _ (fun _ => HSS.out _ (HB10.out.trans ((below_al z10 (.cells #[.slice none 0 0, .slice none 0 0, .int .i64 0, .slice none 0 0] 93)).mono HB10.out.size))) ?_
          clear hK K'
          try simp only [Act.put, List.setIfInBounds_toArray]
          have HNEW : Hid ((z10.alloc (.cells #[.slice none 0 0, .slice none 0 0, .int .i64 0, .slice none 0 0] 93)).heap[z10.heap.size]? = some (.cells #[.slice none 0 0, .slice none 0 0, .int .i64 0, .slice none 0 0] 93 (0, 0)) ∧ w1.heap.size ≤ z10.heap.size) := ⟨alloc_new z10 _, HB10.out.size⟩
          obtain ⟨E, hE⟩ : ∃ q, q = z10.heap.size := ⟨_, rfl⟩
          rw [← hE] at HNEW
          rw [show (some ({ block := z10.heap.size, off := 0 } : Addr)) = some { block := E, off := 0 } by rw [hE]]
          clear hE
          refine wpAnyT_letter (fun z => Below w1.heap.size w1 z ∧ (z.heap[R]? = some (.cells #[.slice ra L rc] 39 (0, 0)) ∧ w1.heap.size ≤ R) ∧ (z.heap[E]? = some (.cells #[.slice none 0 0, .slice none 0 0, .int .i64 0, .slice none 0 0] 93 (0, 0)) ∧ w1.heap.size ≤ E)) ⟨HB10.out.trans ((below_al z10 (.cells #[.slice none 0 0, .slice none 0 0, .int .i64 0, .slice none 0 0] 93)).mono HB10.out.size), ⟨((below_al z10 (.cells #[.slice none 0 0, .slice none 0 0, .int .i64 0, .slice none 0 0] 93)).block R (lt_heapZ HR10.out.1)).trans HR10.out.1, HR10.out.2⟩, HNEW.out⟩ ?_
          intro z16 hz
          have HB16 := hide' hz.1
          have HR16 := hide' hz.2.1
          have HE16 := hide' hz.2.2
          clear hz HNEW HB10 HR10
          refine wpAnyT_one (i := 12) (by kernel_rfl) rfl rfl (fun K' hK => ?_)
          refine step_append_any rfl _ _ 51 rfl w1.heap.size 39 i39 _ 1 24 Try.underlying51 hi39 h390 h391 h392 rfl (by decide) _ 0 [] rfl (World.ownsRow_nil _ _ _ _) (.slice xr x.t.length xrc) x.t.length vals rfl (rowAt_of_own (own_below HVA.out HB16.out (Nat.le_refl _))) HV1C.out (by unfold maxLen; omega) (by omega) HB16.out.size ?_
          intro v' z17 hown hgr
          have hb : Below z16.heap.size z16 z17 := (Below.refl _ z16).grown hgr (Nat.le_refl _) (fun k e => by cases e)
          rw [Nat.zero_add, List.nil_append] at hown
          obtain ⟨pa, pc, hpe⟩ := own_slice hown
          subst hpe
          have HA17 := hide' hown
          have HB17 : Hid (Below w1.heap.size w1 z17) := HB16.out.trans (hb.mono HB16.out.size)
          have HR17 : Hid ((z17.heap[R]? = some (.cells #[.slice ra L rc] 39 (0, 0)) ∧ w1.heap.size ≤ R)) := ⟨(hb.block R (lt_heapZ HR16.out.1)).trans HR16.out.1, HR16.out.2⟩
          have HE17 : Hid ((z17.heap[E]? = some (.cells #[.slice none 0 0, .slice none 0 0, .int .i64 0, .slice none 0 0] 93 (0, 0)) ∧ w1.heap.size ≤ E)) := ⟨(hb.block E (lt_heapZ HE16.out.1)).trans HE16.out.1, HE16.out.2⟩
          refine hK.out _ _ (fun _ => HSS.out _ HB17.out) ?_
          clear hK K' hown hgr hb HB16 HR16 HE16
          try simp only [Act.put, List.setIfInBounds_toArray]
          refine wpAnyT_one (i := 18) (by kernel_rfl) rfl rfl (fun K' hK => ?_)
          refine step_append_any rfl _ _ 51 rfl w1.heap.size 39 i39 _ 1 24 Try.underlying51 hi39 h390 h391 h392 rfl (by decide) (.slice pa x.t.length pc) x.t.length vals rfl HA17.out (.slice (some ⟨R, 0, none⟩) 1 1) 1 [.slice ra L rc] rfl (row_one HR17.out.1) (one_cell rfl) (by unfold maxLen; omega) (by omega) HB17.out.size ?_
          intro v' z18 hown hgr
          have HB18 : Hid (Below w1.heap.size w1 z18) := HB17.out.grown hgr HB17.out.size (own_at HA17.out)
          obtain ⟨qa, qc, hpe⟩ := own_slice hown
          subst hpe
          have HC18 := hide' hown
          have HE18 : Hid ((z18.heap[E]? = some (.cells #[.slice none 0 0, .slice none 0 0, .int .i64 0, .slice none 0 0] 93 (0, 0)) ∧ w1.heap.size ≤ E)) := ⟨(KeepE.grown HA17.out hgr E _ 93 (0, 0) HE17.out.1 (by decide)).trans HE17.out.1, HE17.out.2⟩
          refine hK.out _ _ (fun _ => HSS.out _ HB18.out) ?_
          clear hK K' hown hgr HA17 HR17 HB17 HE17
          try simp only [Act.put]
          refine wpAnyD_takeAt 19 (some 151) (v := ?_) rfl (by kernel_rfl) (by kernel_rfl) (by kernel_rfl) (by kernel_rfl) (by kernel_rfl) (fun c a w h => HQ.out c _ _ w h) (by exact (HSS.out _ HB18.out)) (fun o hop => ?_) ?_
          rotate_left
          · injection hop with hop
            subst hop
            refine ⟨rfl, fun W hW => ?_⟩
            obtain ⟨s0, s1, s2⟩ := hW
            go_simp
            try rfl
          have HEND := hide' (wet_end (va := va) (vc := vc) (ua := ua) (uc := uc) (e := x.e) HB18.out HE18.out.1 HE18.out.2 HC18.out HVR.out hvl HRO.out hrl)
          have b0 : z18.cell? ⟨E, 0, none⟩ = some (.slice none 0 0) := (cells_at HE18.out.1 0).trans rfl
          have f0 : z18.frozen? ⟨E, 0, none⟩ = false := frozen_no HE18.out.1 _
          have b1 : z18.cell? ⟨E, 1, none⟩ = some (.slice none 0 0) := (cells_at HE18.out.1 1).trans rfl
          have f1 : z18.frozen? ⟨E, 1, none⟩ = false := frozen_no HE18.out.1 _
          have b2 : z18.cell? ⟨E, 2, none⟩ = some (.int .i64 0) := (cells_at HE18.out.1 2).trans rfl
          have f2 : z18.frozen? ⟨E, 2, none⟩ = false := frozen_no HE18.out.1 _
          have b3 : z18.cell? ⟨E, 3, none⟩ = some (.slice none 0 0) := (cells_at HE18.out.1 3).trans rfl
          have f3 : z18.frozen? ⟨E, 3, none⟩ = false := frozen_no HE18.out.1 _
          refine wpAnyT_one (i := 21) (by kernel_rfl) rfl rfl (fun K' hK => ?_)
          go_simp
          refine hK.out _ _ (fun h => absurd rfl h) ?_
          clear hK K'
          refine wpAnyT_done (by kernel_rfl) ?_ _
          clear b0 b1 b2 b3 f0 f1 f2 f3 HE18 HC18 HB18
          go_wp2_with fail
          go_meet
          case rel => exact ⟨E, qa, qc, rfl, HEND.out⟩
      · go_simp
        refine hK.out _ _ (fun _ => HSS.out _ (HB0.out.trans ((below_al z0 (.cells #[.slice none 0 0, .slice none 0 0, .int .i64 0, .slice none 0 0] 93)).mono HB0.out.size))) ?_
        clear hK K'
        try simp only [Act.put, List.setIfInBounds_toArray]
        have HNEW : Hid ((z0.alloc (.cells #[.slice none 0 0, .slice none 0 0, .int .i64 0, .slice none 0 0] 93)).heap[z0.heap.size]? = some (.cells #[.slice none 0 0, .slice none 0 0, .int .i64 0, .slice none 0 0] 93 (0, 0)) ∧ w1.heap.size ≤ z0.heap.size) := ⟨alloc_new z0 _, HB0.out.size⟩
        obtain ⟨E, hE⟩ : ∃ q, q = z0.heap.size := ⟨_, rfl⟩
        rw [← hE] at HNEW
        rw [show (some ({ block := z0.heap.size, off := 0 } : Addr)) = some { block := E, off := 0 } by rw [hE]]
        clear hE
        refine wpAnyT_letter (fun z => Below w1.heap.size w1 z ∧ (z.heap[E]? = some (.cells #[.slice none 0 0, .slice none 0 0, .int .i64 0, .slice none 0 0] 93 (0, 0)) ∧ w1.heap.size ≤ E)) ⟨HB0.out.trans ((below_al z0 (.cells #[.slice none 0 0, .slice none 0 0, .int .i64 0, .slice none 0 0] 93)).mono HB0.out.size), HNEW.out⟩ ?_
        intro z19 hz
        have HB19 := hide' hz.1
        have HE19 := hide' hz.2
        clear hz HNEW HB0
        refine wpAnyT_two (i := 12) (j := 17) (by kernel_rfl) rfl rfl rfl rfl (fun K' hK => ?_) (fun K' hK => ?_)
        · refine step_append_any rfl _ _ 51 rfl w1.heap.size 39 i39 _ 1 24 Try.underlying51 hi39 h390 h391 h392 rfl (by decide) _ 0 [] rfl (World.ownsRow_nil _ _ _ _) (.slice xr x.t.length xrc) x.t.length vals rfl (rowAt_of_own (own_below HVA.out HB19.out (Nat.le_refl _))) HV1C.out (by unfold maxLen; omega) (by omega) HB19.out.size ?_
          intro v' z20 hown hgr
          have hb : Below z19.heap.size z19 z20 := (Below.refl _ z19).grown hgr (Nat.le_refl _) (fun k e => by cases e)
          rw [Nat.zero_add, List.nil_append] at hown
          obtain ⟨pa, pc, hpe⟩ := own_slice hown
          subst hpe
          have HA20 := hide' hown
          have HB20 : Hid (Below w1.heap.size w1 z20) := HB19.out.trans (hb.mono HB19.out.size)
          have HE20 : Hid ((z20.heap[E]? = some (.cells #[.slice none 0 0, .slice none 0 0, .int .i64 0, .slice none 0 0] 93 (0, 0)) ∧ w1.heap.size ≤ E)) := ⟨(hb.block E (lt_heapZ HE19.out.1)).trans HE19.out.1, HE19.out.2⟩
          refine hK.out _ _ (fun _ => HSS.out _ HB20.out) ?_
          clear hK K' hown hgr hb HB19 HE19
          try simp only [Act.put, List.setIfInBounds_toArray]
          refine wpAnyT_one (i := 17) (by kernel_rfl) rfl rfl (fun K' hK => ?_)
          go_simp
          refine hK.out _ _ (fun _ => HSS.out _ (HB20.out.trans ((below_al z20 (.cells #[.slice ra L rc] 39)).mono HB20.out.size))) ?_
          clear hK K'
          try simp only [Act.put, List.setIfInBounds_toArray]
          have HNEW : Hid ((z20.alloc (.cells #[.slice ra L rc] 39)).heap[z20.heap.size]? = some (.cells #[.slice ra L rc] 39 (0, 0)) ∧ w1.heap.size ≤ z20.heap.size) := ⟨alloc_new z20 _, HB20.out.size⟩
          obtain ⟨R, hE⟩ : ∃ q, q = z20.heap.size := ⟨_, rfl⟩
          rw [← hE] at HNEW
          rw [show (some ({ block := z20.heap.size, off := 0 } : Addr)) = some { block := R, off := 0 } by rw [hE]]
          clear hE
          refine wpAnyT_letter (fun z => Below w1.heap.size w1 z ∧ z.ownsRow w1.heap.size 39 1 (.slice pa x.t.length pc) x.t.length vals ∧ (z.heap[E]? = some (.cells #[.slice none 0 0, .slice none 0 0, .int .i64 0, .slice none 0 0] 93 (0, 0)) ∧ w1.heap.size ≤ E) ∧ (z.heap[R]? = some (.cells #[.slice ra L rc] 39 (0, 0)) ∧ w1.heap.size ≤ R)) ⟨HB20.out.trans ((below_al z20 (.cells #[.slice ra L rc] 39)).mono HB20.out.size), own_below HA20.out (below_al z20 (.cells #[.slice ra L rc] 39)) (Nat.le_refl _), ⟨((below_al z20 (.cells #[.slice ra L rc] 39)).block E (lt_heapZ HE20.out.1)).trans HE20.out.1, HE20.out.2⟩, HNEW.out⟩ ?_
          intro z21 hz
          have HB21 := hide' hz.1
          have HA21 := hide' hz.2.1
          have HE21 := hide' hz.2.2.1
          have HR21 := hide' hz.2.2.2
          clear hz HNEW HB20 HA20 HE20
          refine wpAnyT_one (i := 18) (by kernel_rfl) rfl rfl (fun K' hK => ?_)
          refine step_append_any rfl _ _ 51 rfl w1.heap.size 39 i39 _ 1 24 Try.underlying51 hi39 h390 h391 h392 rfl (by decide) (.slice pa x.t.length pc) x.t.length vals rfl HA21.out (.slice (some ⟨R, 0, none⟩) 1 1) 1 [.slice ra L rc] rfl (row_one HR21.out.1) (one_cell rfl) (by unfold maxLen; omega) (by omega) HB21.out.size ?_
          intro v' z22 hown hgr
          have HB22 : Hid (Below w1.heap.size w1 z22) := HB21.out.grown hgr HB21.out.size (own_at HA21.out)
          obtain ⟨qa, qc, hpe⟩ := own_slice hown
          subst hpe
          have HC22 := hide' hown
          have HE22 : Hid ((z22.heap[E]? = some (.cells #[.slice none 0 0, .slice none 0 0, .int .i64 0, .slice none 0 0] 93 (0, 0)) ∧ w1.heap.size ≤ E)) := ⟨(KeepE.grown HA21.out hgr E _ 93 (0, 0) HE21.out.1 (by decide)).trans HE21.out.1, HE21.out.2⟩
          refine hK.out _ _ (fun _ => HSS.out _ HB22.out) ?_
          clear hK K' hown hgr HA21 HR21 HB21 HE21
          try simp only [Act.put, List.setIfInBounds_toArray]
          refine wpAnyD_takeAt 19 (some 151) (v := ?_) rfl (by kernel_rfl) (by kernel_rfl) (by kernel_rfl) (by kernel_rfl) (by kernel_rfl) (fun c a w h => HQ.out c _ _ w h) (by exact (HSS.out _ HB22.out)) (fun o hop => ?_) ?_
          rotate_left
          · injection hop with hop
            subst hop
            refine ⟨rfl, fun W hW => ?_⟩
            obtain ⟨s0, s1, s2⟩ := hW
            go_simp
            try rfl
          have HEND := hide' (wet_end (va := va) (vc := vc) (ua := ua) (uc := uc) (e := x.e) HB22.out HE22.out.1 HE22.out.2 HC22.out HVR.out hvl HRO.out hrl)
          have b0 : z22.cell? ⟨E, 0, none⟩ = some (.slice none 0 0) := (cells_at HE22.out.1 0).trans rfl
          have f0 : z22.frozen? ⟨E, 0, none⟩ = false := frozen_no HE22.out.1 _
          have b1 : z22.cell? ⟨E, 1, none⟩ = some (.slice none 0 0) := (cells_at HE22.out.1 1).trans rfl
          have f1 : z22.frozen? ⟨E, 1, none⟩ = false := frozen_no HE22.out.1 _
          have b2 : z22.cell? ⟨E, 2, none⟩ = some (.int .i64 0) := (cells_at HE22.out.1 2).trans rfl
          have f2 : z22.frozen? ⟨E, 2, none⟩ = false := frozen_no HE22.out.1 _
          have b3 : z22.cell? ⟨E, 3, none⟩ = some (.slice none 0 0) := (cells_at HE22.out.1 3).trans rfl
          have f3 : z22.frozen? ⟨E, 3, none⟩ = false := frozen_no HE22.out.1 _
          refine wpAnyT_one (i := 21) (by kernel_rfl) rfl rfl (fun K' hK => ?_)
          go_simp
          refine hK.out _ _ (fun h => absurd rfl h) ?_
          clear hK K'
          refine wpAnyT_done (by kernel_rfl) ?_ _
          clear b0 b1 b2 b3 f0 f1 f2 f3 HE22 HC22 HB22
          go_wp2_with fail
          go_meet
          case rel => exact ⟨E, qa, qc, rfl, HEND.out⟩
        · go_simp
          refine hK.out _ _ (fun _ => HSS.out _ (HB19.out.trans ((below_al z19 (.cells #[.slice ra L rc] 39)).mono HB19.out.size))) ?_
          clear hK K'
          try simp only [Act.put, List.setIfInBounds_toArray]
          have HNEW : Hid ((z19.alloc (.cells #[.slice ra L rc] 39)).heap[z19.heap.size]? = some (.cells #[.slice ra L rc] 39 (0, 0)) ∧ w1.heap.size ≤ z19.heap.size) := ⟨alloc_new z19 _, HB19.out.size⟩
          obtain ⟨R, hE⟩ : ∃ q, q = z19.heap.size := ⟨_, rfl⟩
          rw [← hE] at HNEW
          rw [show (some ({ block := z19.heap.size, off := 0 } : Addr)) = some { block := R, off := 0 } by rw [hE]]
          clear hE
          refine wpAnyT_letter (fun z => Below w1.heap.size w1 z ∧ (z.heap[E]? = some (.cells #[.slice none 0 0, .slice none 0 0, .int .i64 0, .slice none 0 0] 93 (0, 0)) ∧ w1.heap.size ≤ E) ∧ (z.heap[R]? = some (.cells #[.slice ra L rc] 39 (0, 0)) ∧ w1.heap.size ≤ R)) ⟨HB19.out.trans ((below_al z19 (.cells #[.slice ra L rc] 39)).mono HB19.out.size), ⟨((below_al z19 (.cells #[.slice ra L rc] 39)).block E (lt_heapZ HE19.out.1)).trans HE19.out.1, HE19.out.2⟩, HNEW.out⟩ ?_
          intro z23 hz
          have HB23 := hide' hz.1
          have HE23 := hide' hz.2.1
          have HR23 := hide' hz.2.2
          clear hz HNEW HB19 HE19
          refine wpAnyT_one (i := 12) (by kernel_rfl) rfl rfl (fun K' hK => ?_)
          refine step_append_any rfl _ _ 51 rfl w1.heap.size 39 i39 _ 1 24 Try.underlying51 hi39 h390 h391 h392 rfl (by decide) _ 0 [] rfl (World.ownsRow_nil _ _ _ _) (.slice xr x.t.length xrc) x.t.length vals rfl (rowAt_of_own (own_below HVA.out HB23.out (Nat.le_refl _))) HV1C.out (by unfold maxLen; omega) (by omega) HB23.out.size ?_
          intro v' z24 hown hgr
          have hb : Below z23.heap.size z23 z24 := (Below.refl _ z23).grown hgr (Nat.le_refl _) (fun k e => by cases e)
          rw [Nat.zero_add, List.nil_append] at hown
          obtain ⟨pa, pc, hpe⟩ := own_slice hown
          subst hpe
          have HA24 := hide' hown
          have HB24 : Hid (Below w1.heap.size w1 z24) := HB23.out.trans (hb.mono HB23.out.size)
          have HR24 : Hid ((z24.heap[R]? = some (.cells #[.slice ra L rc] 39 (0, 0)) ∧ w1.heap.size ≤ R)) := ⟨(hb.block R (lt_heapZ HR23.out.1)).trans HR23.out.1, HR23.out.2⟩
          have HE24 : Hid ((z24.heap[E]? = some (.cells #[.slice none 0 0, .slice none 0 0, .int .i64 0, .slice none 0 0] 93 (0, 0)) ∧ w1.heap.size ≤ E)) := ⟨(hb.block E (lt_heapZ HE23.out.1)).trans HE23.out.1, HE23.out.2⟩
          refine hK.out _ _ (fun _ => HSS.out _ HB24.out) ?_
          clear hK K' hown hgr hb HB23 HR23 HE23
          try simp only [Act.put, List.setIfInBounds_toArray]
          refine wpAnyT_one (i := 18) (by kernel_rfl) rfl rfl (fun K' hK => ?_)
          refine step_append_any rfl _ _ 51 rfl w1.heap.size 39 i39 _ 1 24 Try.underlying51 hi39 h390 h391 h392 rfl (by decide) (.slice pa x.t.length pc) x.t.length vals rfl HA24.out (.slice (some ⟨R, 0, none⟩) 1 1) 1 [.slice ra L rc] rfl (row_one HR24.out.1) (one_cell rfl) (by unfold maxLen; omega) (by omega) HB24.out.size ?_
          intro v' z25 hown hgr
          have HB25 : Hid (Below w1.heap.size w1 z25) := HB24.out.grown hgr HB24.out.size (own_at HA24.out)
          obtain ⟨qa, qc, hpe⟩ := own_slice hown
          subst hpe
          have HC25 := hide' hown
          have HE25 : Hid ((z25.heap[E]? = some (.cells #[.slice none 0 0, .slice none 0 0, .int .i64 0, .slice none 0 0] 93 (0, 0)) ∧ w1.heap.size ≤ E)) := ⟨(KeepE.grown HA24.out hgr E _ 93 (0, 0) HE24.out.1 (by decide)).trans HE24.out.1, HE24.out.2⟩
          refine hK.out _ _ (fun _ => HSS.out _ HB25.out) ?_
          clear hK K' hown hgr HA24 HR24 HB24 HE24
          try simp only [Act.put]
          refine wpAnyD_takeAt 19 (some 151) (v := ?_) rfl (by kernel_rfl) (by kernel_rfl) (by kernel_rfl) (by kernel_rfl) (by kernel_rfl) (fun c a w h => HQ.out c _ _ w h) (by exact (HSS.out _ HB25.out)) (fun o hop => ?_) ?_
          rotate_left
          · injection hop with hop
            subst hop
            refine ⟨rfl, fun W hW => ?_⟩
            obtain ⟨s0, s1, s2⟩ := hW
            go_simp
            try rfl
          have HEND := hide' (wet_end (va := va) (vc := vc) (ua := ua) (uc := uc) (e := x.e) HB25.out HE25.out.1 HE25.out.2 HC25.out HVR.out hvl HRO.out hrl)
          have b0 : z25.cell? ⟨E, 0, none⟩ = some (.slice none 0 0) := (cells_at HE25.out.1 0).trans rfl
          have f0 : z25.frozen? ⟨E, 0, none⟩ = false := frozen_no HE25.out.1 _
          have b1 : z25.cell? ⟨E, 1, none⟩ = some (.slice none 0 0) := (cells_at HE25.out.1 1).trans rfl
          have f1 : z25.frozen? ⟨E, 1, none⟩ = false := frozen_no HE25.out.1 _
          have b2 : z25.cell? ⟨E, 2, none⟩ = some (.int .i64 0) := (cells_at HE25.out.1 2).trans rfl
          have f2 : z25.frozen? ⟨E, 2, none⟩ = false := frozen_no HE25.out.1 _
          have b3 : z25.cell? ⟨E, 3, none⟩ = some (.slice none 0 0) := (cells_at HE25.out.1 3).trans rfl
          have f3 : z25.frozen? ⟨E, 3, none⟩ = false := frozen_no HE25.out.1 _
          refine wpAnyT_one (i := 21) (by kernel_rfl) rfl rfl (fun K' hK => ?_)
          go_simp
          refine hK.out _ _ (fun h => absurd rfl h) ?_
          clear hK K'
          refine wpAnyT_done (by kernel_rfl) ?_ _
          clear b0 b1 b2 b3 f0 f1 f2 f3 HE25 HC25 HB25
          go_wp2_with fail
          go_meet
          case rel => exact ⟨E, qa, qc, rfl, HEND.out⟩
    case rest =>
      obtain ⟨E, qa, qc, rfl, hcE⟩ := hcut
      have HCE := hide' hcE
      have HGE : Hid (w1.heap.size ≤ E) := hcE.2.2.1
      clear hcE
      obtain ⟨pb, po, pcp, ep, hpc⟩ := ints_cell2 HPR.out h (by rw [HP.out.p]; exact hh)
      simp only [Value.slice.injEq] at ep
      obtain ⟨rfl, hz4, rfl⟩ := ep
      clear hz4
      have HPC := hide' (up_cell HI1.out.bel hpc)
      have HPB : Hid (0 ≤ pr.getD h 0 ∧ pr.getD h 0 ≤ 1000) := by
        have hl : h < pr.length := by rw [HP.out.p]; exact hh
        rw [List.getD_eq_getElem?_getD, List.getElem?_eq_getElem hl]
        exact HP.out.pb _ (List.getElem_mem hl)
      have HRB := hide' (rel_bd HP.out.ok L (by rw [HP.out.l]; exact Nat.le_refl _) all[j] (by rw [← HAL.out]; exact List.getElem_mem hj))
      have HXE := hide' (now_ok HP.out h (by omega) x (by rw [← HAL.out, ← HNW.out]; exact List.mem_of_getElem? hx)).e
      have hH8 := HP.out.H8
      clear hpc
      go_wp2_with fail
      go_loopw [26] (fun iv wr => ∃ (i : Nat) (c : Int), iv = .int .i64 i ∧ i ≤ L ∧ Hid (c = x.e + earnK ls (pr.getD h 0) ((all[j]).getD 0 0) ((all[j]).getD 1 0) i) ∧ Hid (0 ≤ c ∧ c ≤ 64000000 + 4000000 * (i : Nat)) ∧ Hid (Below w1.heap.size w1 wr ∧ wr.heap[E]? = some (.cells #[.slice va L vc, .slice ua L uc, .int .i64 c, .slice qa (x.t.length + 1) qc] 93 (0, 0)) ∧ StepsAt wr 0 (.slice qa (x.t.length + 1) qc) (x.t ++ [all[j]]))) (fun iv _ => L - (intOf iv).toNat)
      case atStart => exact ⟨0, x.e, rfl, Nat.zero_le _, (by show _ = _; unfold earnK; simp), (by have := HXE.out; show _ ∧ _; omega), HCE.out.1, HCE.out.2.1, HCE.out.2.2.2⟩
      case round =>
        obtain ⟨i, c, rfl, hi, HC, HCB, HW⟩ := hrel
        by_cases hlt : i < L
        · obtain ⟨lb, lo, rfl, hlb, c0, c1, c2, c3, c4⟩ := lake_cells HX.out (k := i) (by rw [HP.out.l]; exact hlt)
          have hwb := (lkD_ok HP.out.ok (i := i) (by rw [HP.out.l]; exact hlt)).w
          obtain ⟨Rg, rfl, _⟩ := own_someZ HRO.out (by omega)
          have q0 : wr.cell? ⟨E, 2, none⟩ = some (.int .i64 c) := (cells_at HW.out.2.1 2).trans rfl
          have z0 : wr.frozen? ⟨E, 2, none⟩ = false := frozen_no HW.out.2.1 _
          have q1 : wr.cell? ⟨rb, ro + j, none⟩ = some (.slice (some ⟨Rg, 0, none⟩) L rc) := up_cell HW.out.1 HS1.out.2.2.2
          have q2 := up_cell HW.out.1 (own_int HRO.out hlt).1
          have q3 := up_cell HW.out.1 (up_cell HI1.out.bel c4)
          have q4 := up_cell HW.out.1 HPC.out
          have hri := getD_bd HRB.out i
          have HEK : Hid (c + (all[j]).getD i 0 * (lkD ls i).worth * pr.getD h 0 = x.e + earnK ls (pr.getD h 0) ((all[j]).getD 0 0) ((all[j]).getD 1 0) (i + 1)) := by
            have hi2 : i = 0 ∨ i = 1 := by omega
            have hc := HC.out
            rcases hi2 with rfl | rfl
            · have e1 := earn1 ls (pr.getD h 0) ((all[j]).getD 0 0) ((all[j]).getD 1 0)
              show _ = _
              omega
            · have e1 := earn2 ls (pr.getD h 0) ((all[j]).getD 0 0) ((all[j]).getD 1 0)
              show _ = _
              omega
          obtain ⟨ri, hriq⟩ : ∃ q, q = (all[j]).getD i 0 := ⟨_, rfl⟩
          obtain ⟨wo, hwoq⟩ : ∃ q, q = (lkD ls i).worth := ⟨_, rfl⟩
          obtain ⟨p, hpq⟩ : ∃ q, q = pr.getD h 0 := ⟨_, rfl⟩
          have hpb := HPB.out
          rw [← hriq] at q2 hri HEK
          rw [← hwoq] at q3 hwb HEK
          rw [← hpq] at q4 hpb
          have HEK2 : Hid (c + ri * wo * p = x.e + earnK ls (pr.getD h 0) ((all[j]).getD 0 0) ((all[j]).getD 1 0) (i + 1)) := by rw [hpq]; exact HEK.out
          have m1 := mul_bd hri.1 hri.2 hwb.1 hwb.2
          have m2 := mul_bd m1.1 m1.2 hpb.1 hpb.2
          have w1' : IntKind.i64.wrap (ri * wo) = ri * wo := wrap_ok (by omega)
          have w2' : IntKind.i64.wrap (ri * wo * p) = ri * wo * p := wrap_ok (by omega)
          have w3' : IntKind.i64.wrap (c + ri * wo * p) = c + ri * wo * p := wrap_ok (by have := HCB.out; omega)
          have HS5 := hide' (And.intro q0 (And.intro q1 (And.intro q2 (And.intro q3 q4))))
          have HCN : Hid (0 ≤ c + ri * wo * p ∧ c + ri * wo * p ≤ 64000000 + 4000000 * ((i + 1 : Nat) : Int)) := by have := HCB.out; show _ ∧ _; omega
          clear c0 c1 c2 c3 c4 q1 q2 q3 q4 hriq hwoq hpq HEK HC HCB hlb m1 m2 hri hwb hpb
          go_upto_region 35 with fail
          refine wp_region_tail (fun W' => W'.cell? ⟨E, 2, none⟩ = some (.int .i64 c) ∧ W'.cell? ⟨rb, ro + j, none⟩ = some (.slice (some ⟨Rg, 0, none⟩) L rc) ∧ W'.cell? ⟨Rg, i, none⟩ = some (.int .i64 ri) ∧ W'.cell? ⟨lb, lo + i * 5 + 4, none⟩ = some (.int .i64 wo) ∧ W'.cell? ⟨pb, po + h, none⟩ = some (.int .i64 p)) 22 (by kernel_rfl) ?_
          refine wpAnyD_takeAt 0 (some 158) (v := ?_) rfl (by kernel_rfl) (by kernel_rfl) (by kernel_rfl) (by kernel_rfl) (by kernel_rfl) (fun c a w h => HQ.out c _ _ w h) (by exact HS5.out) (fun o hop => ?_) ?_
          rotate_left
          · injection hop with hop
            subst hop
            refine ⟨rfl, fun W hW => ?_⟩
            obtain ⟨s0, s1, s2, s3, s4⟩ := hW
            go_simp
            try rfl
          try simp only [Act.put, List.setIfInBounds_toArray, List.set_cons_zero, List.set_cons_succ]
          refine wpAnyD_takeAt 1 (some 159) (v := ?_) rfl (by kernel_rfl) (by kernel_rfl) (by kernel_rfl) (by kernel_rfl) (by kernel_rfl) (fun c a w h => HQ.out c _ _ w h) (by exact HS5.out) (fun o hop => ?_) ?_
          rotate_left
          · injection hop with hop
            subst hop
            refine ⟨rfl, fun W hW => ?_⟩
            obtain ⟨s0, s1, s2, s3, s4⟩ := hW
            go_simp
            try rfl
          try simp only [Act.put, List.setIfInBounds_toArray, List.set_cons_zero, List.set_cons_succ]
          refine wpAnyD_takeAt 2 (some 160) (v := ?_) rfl (by kernel_rfl) (by kernel_rfl) (by kernel_rfl) (by kernel_rfl) (by kernel_rfl) (fun c a w h => HQ.out c _ _ w h) (by exact HS5.out) (fun o hop => ?_) ?_
          rotate_left
          · injection hop with hop
            subst hop
            refine ⟨rfl, fun W hW => ?_⟩
            obtain ⟨s0, s1, s2, s3, s4⟩ := hW
            go_simp
            try rfl
          try simp only [Act.put, List.setIfInBounds_toArray, List.set_cons_zero, List.set_cons_succ]
          refine wpAnyD_takeAt 3 (some 161) (v := ?_) rfl (by kernel_rfl) (by kernel_rfl) (by kernel_rfl) (by kernel_rfl) (by kernel_rfl) (fun c a w h => HQ.out c _ _ w h) (by exact HS5.out) (fun o hop => ?_) ?_
          rotate_left
          · injection hop with hop
            subst hop
            refine ⟨rfl, fun W hW => ?_⟩
            obtain ⟨s0, s1, s2, s3, s4⟩ := hW
            go_simp
            try rfl
          try simp only [Act.put, List.setIfInBounds_toArray, List.set_cons_zero, List.set_cons_succ]
          refine wpAnyD_takeAt 4 (some 162) (v := ?_) rfl (by kernel_rfl) (by kernel_rfl) (by kernel_rfl) (by kernel_rfl) (by kernel_rfl) (fun c a w h => HQ.out c _ _ w h) (by exact HS5.out) (fun o hop => ?_) ?_
          rotate_left
          · injection hop with hop
            subst hop
            refine ⟨rfl, fun W hW => ?_⟩
            obtain ⟨s0, s1, s2, s3, s4⟩ := hW
            go_simp
            try rfl
          try simp only [Act.put, List.setIfInBounds_toArray, List.set_cons_zero, List.set_cons_succ]
          refine wpAnyD_takeAt 5 (some 163) (v := ?_) rfl (by kernel_rfl) (by kernel_rfl) (by kernel_rfl) (by kernel_rfl) (by kernel_rfl) (fun c a w h => HQ.out c _ _ w h) (by exact HS5.out) (fun o hop => ?_) ?_
          rotate_left
          · injection hop with hop
            subst hop
            refine ⟨rfl, fun W hW => ?_⟩
            obtain ⟨s0, s1, s2, s3, s4⟩ := hW
            go_simp
            try rfl
          try simp only [Act.put, List.setIfInBounds_toArray, List.set_cons_zero, List.set_cons_succ]
          refine wpAnyD_takeAt 6 (some 164) (v := ?_) rfl (by kernel_rfl) (by kernel_rfl) (by kernel_rfl) (by kernel_rfl) (by kernel_rfl) (fun c a w h => HQ.out c _ _ w h) (by exact HS5.out) (fun o hop => ?_) ?_
          rotate_left
          · injection hop with hop
            subst hop
            refine ⟨rfl, fun W hW => ?_⟩
            obtain ⟨s0, s1, s2, s3, s4⟩ := hW
            go_simp
            try rfl
          try simp only [Act.put, List.setIfInBounds_toArray, List.set_cons_zero, List.set_cons_succ]
          refine wpAnyD_takeAt 7 (some 165) (v := ?_) rfl (by kernel_rfl) (by kernel_rfl) (by kernel_rfl) (by kernel_rfl) (by kernel_rfl) (fun c a w h => HQ.out c _ _ w h) (by exact HS5.out) (fun o hop => ?_) ?_
          rotate_left
          · injection hop with hop
            subst hop
            refine ⟨rfl, fun W hW => ?_⟩
            obtain ⟨s0, s1, s2, s3, s4⟩ := hW
            go_simp
            try rfl
          try simp only [Act.put, List.setIfInBounds_toArray, List.set_cons_zero, List.set_cons_succ]
          refine wpAnyD_takeAt 8 (some 166) (v := ?_) rfl (by kernel_rfl) (by kernel_rfl) (by kernel_rfl) (by kernel_rfl) (by kernel_rfl) (fun c a w h => HQ.out c _ _ w h) (by exact HS5.out) (fun o hop => ?_) ?_
          rotate_left
          · injection hop with hop
            subst hop
            refine ⟨rfl, fun W hW => ?_⟩
            obtain ⟨s0, s1, s2, s3, s4⟩ := hW
            go_simp
            try rfl
          try simp only [Act.put, List.setIfInBounds_toArray, List.set_cons_zero, List.set_cons_succ]
          refine wpAnyD_takeAt 9 (some 167) (v := ?_) rfl (by kernel_rfl) (by kernel_rfl) (by kernel_rfl) (by kernel_rfl) (by kernel_rfl) (fun c a w h => HQ.out c _ _ w h) (by exact HS5.out) (fun o hop => ?_) ?_
          rotate_left
          · injection hop with hop
            subst hop
            refine ⟨rfl, fun W hW => ?_⟩
            obtain ⟨s0, s1, s2, s3, s4⟩ := hW
            go_simp
            try rfl
          try simp only [Act.put, List.setIfInBounds_toArray, List.set_cons_zero, List.set_cons_succ]
          refine wpAnyD_takeAt 10 (some 168) (v := ?_) rfl (by kernel_rfl) (by kernel_rfl) (by kernel_rfl) (by kernel_rfl) (by kernel_rfl) (fun c a w h => HQ.out c _ _ w h) (by exact HS5.out) (fun o hop => ?_) ?_
          rotate_left
          · injection hop with hop
            subst hop
            refine ⟨rfl, fun W hW => ?_⟩
            obtain ⟨s0, s1, s2, s3, s4⟩ := hW
            go_simp
            try rfl
          try simp only [Act.put, List.setIfInBounds_toArray, List.set_cons_zero, List.set_cons_succ]
          refine wpAnyD_takeAt 11 (some 169) (v := ?_) rfl (by kernel_rfl) (by kernel_rfl) (by kernel_rfl) (by kernel_rfl) (by kernel_rfl) (fun c a w h => HQ.out c _ _ w h) (by exact HS5.out) (fun o hop => ?_) ?_
          rotate_left
          · injection hop with hop
            subst hop
            refine ⟨rfl, fun W hW => ?_⟩
            obtain ⟨s0, s1, s2, s3, s4⟩ := hW
            go_simp
            try rfl
          try simp only [Act.put, List.setIfInBounds_toArray, List.set_cons_zero, List.set_cons_succ]
          refine wpAnyD_takeAt 12 (some 170) (v := ?_) rfl (by kernel_rfl) (by kernel_rfl) (by kernel_rfl) (by kernel_rfl) (by kernel_rfl) (fun c a w h => HQ.out c _ _ w h) (by exact HS5.out) (fun o hop => ?_) ?_
          rotate_left
          · injection hop with hop
            subst hop
            refine ⟨rfl, fun W hW => ?_⟩
            obtain ⟨s0, s1, s2, s3, s4⟩ := hW
            go_simp
            try rfl
          try simp only [Act.put, List.setIfInBounds_toArray, List.set_cons_zero, List.set_cons_succ]
          refine wpAnyD_takeAt 13 (some 171) (v := ?_) rfl (by kernel_rfl) (by kernel_rfl) (by kernel_rfl) (by kernel_rfl) (by kernel_rfl) (fun c a w h => HQ.out c _ _ w h) (by exact HS5.out) (fun o hop => ?_) ?_
          rotate_left
          · injection hop with hop
            subst hop
            refine ⟨rfl, fun W hW => ?_⟩
            obtain ⟨s0, s1, s2, s3, s4⟩ := hW
            go_simp
            try rfl
          try simp only [Act.put, List.setIfInBounds_toArray, List.set_cons_zero, List.set_cons_succ]
          refine wpAnyD_takeAt 14 (some 172) (v := ?_) rfl (by kernel_rfl) (by kernel_rfl) (by kernel_rfl) (by kernel_rfl) (by kernel_rfl) (fun c a w h => HQ.out c _ _ w h) (by exact HS5.out) (fun o hop => ?_) ?_
          rotate_left
          · injection hop with hop
            subst hop
            refine ⟨rfl, fun W hW => ?_⟩
            obtain ⟨s0, s1, s2, s3, s4⟩ := hW
            go_simp
            try rfl
          try simp only [Act.put, List.setIfInBounds_toArray, List.set_cons_zero, List.set_cons_succ]
          refine wpAnyD_takeAt 15 (some 173) (v := ?_) rfl (by kernel_rfl) (by kernel_rfl) (by kernel_rfl) (by kernel_rfl) (by kernel_rfl) (fun c a w h => HQ.out c _ _ w h) (by exact HS5.out) (fun o hop => ?_) ?_
          rotate_left
          · injection hop with hop
            subst hop
            refine ⟨rfl, fun W hW => ?_⟩
            obtain ⟨s0, s1, s2, s3, s4⟩ := hW
            go_simp
            try rfl
          try simp only [Act.put, List.setIfInBounds_toArray, List.set_cons_zero, List.set_cons_succ]
          refine wpAnyD_takeAt 16 (some 174) (v := ?_) rfl (by kernel_rfl) (by kernel_rfl) (by kernel_rfl) (by kernel_rfl) (by kernel_rfl) (fun c a w h => HQ.out c _ _ w h) (by exact HS5.out) (fun o hop => ?_) ?_
          rotate_left
          · injection hop with hop
            subst hop
            refine ⟨rfl, fun W hW => ?_⟩
            obtain ⟨s0, s1, s2, s3, s4⟩ := hW
            go_simp
            try rfl
          try simp only [Act.put, List.setIfInBounds_toArray, List.set_cons_zero, List.set_cons_succ]
          refine wpAnyD_takeAt 17 (some 175) (v := ?_) rfl (by kernel_rfl) (by kernel_rfl) (by kernel_rfl) (by kernel_rfl) (by kernel_rfl) (fun c a w h => HQ.out c _ _ w h) (by exact HS5.out) (fun o hop => ?_) ?_
          rotate_left
          · injection hop with hop
            subst hop
            refine ⟨rfl, fun W hW => ?_⟩
            obtain ⟨s0, s1, s2, s3, s4⟩ := hW
            go_simp
            try rfl
          try simp only [Act.put, List.setIfInBounds_toArray, List.set_cons_zero, List.set_cons_succ]
          refine wpAnyD_takeAt 18 (some 176) (v := ?_) rfl (by kernel_rfl) (by kernel_rfl) (by kernel_rfl) (by kernel_rfl) (by kernel_rfl) (fun c a w h => HQ.out c _ _ w h) (by exact HS5.out) (fun o hop => ?_) ?_
          rotate_left
          · injection hop with hop
            subst hop
            refine ⟨rfl, fun W hW => ?_⟩
            obtain ⟨s0, s1, s2, s3, s4⟩ := hW
            go_simp
            try rfl
          try simp only [Act.put, List.setIfInBounds_toArray, List.set_cons_zero, List.set_cons_succ]
          refine wpAnyD_takeAt 19 (some 177) (v := ?_) rfl (by kernel_rfl) (by kernel_rfl) (by kernel_rfl) (by kernel_rfl) (by kernel_rfl) (fun c a w h => HQ.out c _ _ w h) (by exact HS5.out) (fun o hop => ?_) ?_
          rotate_left
          · injection hop with hop
            subst hop
            refine ⟨rfl, fun W hW => ?_⟩
            obtain ⟨s0, s1, s2, s3, s4⟩ := hW
            go_simp
            try rfl
          try simp only [Act.put, List.setIfInBounds_toArray, List.set_cons_zero, List.set_cons_succ]
          refine wpAnyD_takeAt 20 (some 178) (v := ?_) rfl (by kernel_rfl) (by kernel_rfl) (by kernel_rfl) (by kernel_rfl) (by kernel_rfl) (fun c a w h => HQ.out c _ _ w h) (by exact HS5.out) (fun o hop => ?_) ?_
          rotate_left
          · injection hop with hop
            subst hop
            refine ⟨rfl, fun W hW => ?_⟩
            obtain ⟨s0, s1, s2, s3, s4⟩ := hW
            go_simp
            try rfl
          try simp only [Act.put, List.setIfInBounds_toArray, List.set_cons_zero, List.set_cons_succ]
          refine wpAnyT_one (i := 21) (by kernel_rfl) rfl rfl (fun K' hK => ?_)
          go_simp
          refine hK.out _ _ (fun _ => HS5.out) ?_
          clear hK K'
          try simp only [Act.put, List.setIfInBounds_toArray, List.set_cons_zero, List.set_cons_succ]
          refine wpAnyT_one (i := 22) (by kernel_rfl) rfl rfl (fun K' hK => ?_)
          go_simp
          refine hK.out _ _ (fun h => absurd rfl h) ?_
          clear hK K'
          try simp only [Act.put, List.setIfInBounds_toArray, List.set_cons_zero, List.set_cons_succ]
          refine wpAnyT_done (by kernel_rfl) ?_ _
          have HFN : Hid (Below w1.heap.size w1 (wr.drew.setCell ⟨E, 2, none⟩ (.int .i64 (c + ri * wo * p))) ∧ (wr.drew.setCell ⟨E, 2, none⟩ (.int .i64 (c + ri * wo * p))).heap[E]? = some (.cells #[.slice va L vc, .slice ua L uc, .int .i64 (c + ri * wo * p), .slice qa (x.t.length + 1) qc] 93 (0, 0)) ∧ StepsAt (wr.drew.setCell ⟨E, 2, none⟩ (.int .i64 (c + ri * wo * p))) 0 (.slice qa (x.t.length + 1) qc) (x.t ++ [all[j]])) := by
            have hd : wr.drew.heap[E]? = some (.cells #[.slice va L vc, .slice ua L uc, .int .i64 c, .slice qa (x.t.length + 1) qc] 93 (0, 0)) := HW.out.2.1
            refine ⟨HW.out.1.drew.setCell (p := ⟨E, 2, none⟩) HGE.out _, (set_any hd 2 _).trans (by simp only [List.setIfInBounds_toArray, List.set_cons_zero, List.set_cons_succ]), ?_⟩
            exact (HW.out.2.2.below (Below.refl _ wr).drew).keep (keep_set hd 2 _) (by decide) (by decide)
          clear HW HS5 q0 z0
          go_wp2_with fail
          go_roundw
          case rel => exact ⟨i + 1, _, by go_num, by omega, HEK2.out, HCN.out, HFN.out⟩
          case measure => simp [intOf]; omega
        · have HE4 : Hid (c = x.e + earnK ls (pr.getD h 0) ((all[j]).getD 0 0) ((all[j]).getD 1 0) L) := by
            have hc := HC.out
            rw [show i = L by omega] at hc
            exact hc
          have HIW := hide' (HI1.out.below HW.out.1)
          have HXB := hide' (wets_lt HI1.out.nxt)
          have HV1 := hide' (own_below HO1.out HW.out.1 (Nat.le_refl _))
          have HV2 := hide' (own_below HO2.out HW.out.1 (Nat.le_refl _))
          have HQ3 := hide' HW.out.2
          obtain ⟨nw, HNWW⟩ : ∃ q, Hid (q = newW ls L ti pr h x all[j]) := ⟨newW ls L ti pr h x all[j], hide' rfl⟩
          have HNOK : Hid (NowOk ls L (h + 1) nw) := by
            rw [HNWW.out]
            exact new_ok HP.out hh (now_ok HP.out h (by omega) x (by rw [← HAL.out, ← HNW.out]; exact List.mem_of_getElem? hx)) (by rw [← HAL.out]; exact List.getElem_mem hj) (by have q := HOK.out; rw [HXD.out, HRD.out] at q; exact q)
          have HNS : Hid (hourS ls L x.s ti[h] all[j] = nw.s ∧ c = nw.e ∧ x.t ++ [all[j]] = nw.t ∧ x.t.length + 1 = nw.t.length) := by
            rw [HNWW.out]
            unfold newW
            rw [HTD.out]
            exact ⟨rfl, HE4.out, rfl, by rw [List.length_append]; rfl⟩
          have HNX : Hid (nextP ls L ti pr h all now k (j + 1) = putW (nextP ls L ti pr h all now k j) nw) := by
            have q := next_yes (ls := ls) (L := L) (ti := ti) (pr := pr) (h := h) (k := k) (now := now) hj (by have q := HOK.out; rw [HRD.out] at q; exact q)
            rw [HXD.out] at q
            rw [HNWW.out]
            exact q
          have HNXO := hide' (next_ok (j := j) HP.out hh (k := k) (by rw [← HAL.out, ← HNW.out]; exact hk))
          rw [← HAL.out, ← HNW.out] at HNXO
          have HNXL : Hid ((nextP ls L ti pr h all now k j).length ≤ 152587890650) := by
            have q := next_len (ls := ls) (L := L) (ti := ti) (pr := pr) (h := h) (k := k) (j := j) hab
            have q2 : 25 ^ h ≤ 25 ^ 7 := Nat.pow_le_pow_right (by omega) (by omega)
            rw [← HNW.out] at q
            show _ ≤ _
            omega
          have HNE2 := hide' HNEW0.out
          rw [HXD.out, HRD.out, ← HNWW.out] at HNE2
          obtain ⟨nx, HNQ⟩ : ∃ q, Hid (q = nextP ls L ti pr h all now k j) := ⟨_, rfl⟩
          rw [← HNQ.out] at HIW HNX HNXO HNXL HNE2
          rw [HNS.out.1] at HV1 HV2
          rw [HNS.out.2.2.1, HNS.out.2.2.2, HNS.out.2.1] at HQ3
          clear HW HE4 HC HCB HI1 HO1 HO2 HVA HVR HV1C HSS HRO HPC HPB HRB HXE HCE hth8 hvl HS1 HOK HXD HRD HTD HBW HIN HGX
          obtain ⟨ws, hws⟩ : ∃ q, q = nw.s := ⟨_, rfl⟩
          have HGB := hide' (good_bounds HP.out.ok HP.out.l HNOK.out.g)
          have HWC : Hid (∀ w', Below wr.heap.size wr w' → Calls Try.prog 52 #[.agg #[.slice va L vc, .slice ua L uc, .int .i64 nw.e, .slice qa nw.t.length qc]] w' fun e w2 => e = .returned (.int .i64 (codeS L nw.s)) ∧ Below w'.heap.size w' w2) := (fun w' (hb : Below wr.heap.size wr w') => wetCode_any (listOf nw.s.l0 nw.s.l1 L) (listOf nw.s.u0 nw.s.u1 L) va ua qa L vc uc nw.t.length qc nw.e w' (rowAt_of_own (own_below HV1.out hb (Nat.le_refl _))) (rowAt_of_own (own_below HV2.out hb (Nat.le_refl _))) (list_len _ _ hL2) (list_len _ _ hL2) hL2 (wet_lv hL2 HGB.out) (wet_cm hL2 HGB.out))
          obtain ⟨i93, hi93, h930, h931, h932⟩ := info_parts Try.info93'
          have b0 : wr.cell? ⟨E, 0, none⟩ = some (.slice va L vc) := (cells_at HQ3.out.1 0).trans rfl
          have b1 : wr.cell? ⟨E, 1, none⟩ = some (.slice ua L uc) := (cells_at HQ3.out.1 1).trans rfl
          have b2 : wr.cell? ⟨E, 2, none⟩ = some (.int .i64 nw.e) := (cells_at HQ3.out.1 2).trans rfl
          have b3 : wr.cell? ⟨E, 3, none⟩ = some (.slice qa nw.t.length qc) := (cells_at HQ3.out.1 3).trans rfl
          clear hws ws
          go_wp2_with fail
          refine (HWC.out wr (Below.refl _ wr)).mono ?_
          rintro e w7 ⟨rfl, hb7⟩
          have HB7 := hide' hb7
          have HI7 := hide' (HIW.out.below hb7)
          have HE7 := hide' ((hb7.block E (lt_heapZ HQ3.out.1)).trans HQ3.out.1)
          have HT7 := hide' (HQ3.out.2.below hb7)
          have HR7 := hide' (own_below HV1.out hb7 (Nat.le_refl _))
          have HU7 := hide' (own_below HV2.out hb7 (Nat.le_refl _))
          clear hb7 b0 b1 b2 b3
          have b0 : w7.cell? ⟨E, 0, none⟩ = some (.slice va L vc) := (cells_at HE7.out 0).trans rfl
          have b1 : w7.cell? ⟨E, 1, none⟩ = some (.slice ua L uc) := (cells_at HE7.out 1).trans rfl
          have b2 : w7.cell? ⟨E, 2, none⟩ = some (.int .i64 nw.e) := (cells_at HE7.out 2).trans rfl
          have b3 : w7.cell? ⟨E, 3, none⟩ = some (.slice qa nw.t.length qc) := (cells_at HE7.out 3).trans rfl
          obtain ⟨es, clock, hM7, hPl⟩ := HI7.out.mp
          have HM7 := hide' hM7
          have HPL := hide' hPl
          have hcs : I6 (codeS L nw.s) := by have q := code_bd HP.out HNOK.out.g; unfold I6; omega
          have hcx : ∀ y ∈ nx, I6 (codeS L y.s) := fun y hy => by have q := code_bd HP.out (HNXO.out y hy).g; unfold I6; omega
          rcases place_look hM7 hPl hcx hcs with ⟨hnone, _⟩ | ⟨jj, y, hy, hcode, hlk⟩
          · exfalso
            obtain ⟨y, hym, hys⟩ := HNE2.out
            exact hnone y hym (by rw [hys])
          · have hym := List.mem_of_getElem? hy
            have HYS := hide' ((code_alike HP.out (HNXO.out y hym).g HNOK.out.g).1 hcode)
            have hyl : y.t.length = nw.t.length := by rw [(HNXO.out y hym).t, HNOK.out.t]
            have HYI := hide' hy
            have hjl : jj < nx.length := (List.getElem?_eq_some_iff.1 hy).1
            have hjb : (0 : Int) ≤ (jj : Int) ∧ (jj : Int) < (nx.length : Int) := by omega
            have hnl : nx.length ≤ 152587890650 := HNXL.out
            obtain ⟨G2, cg2, yl, ylc, yc, ycc, yr, yrc, en2, hG2, ⟨y0, y1, y2, y3⟩, _, _, os2, cur2, hcur2⟩ := HI7.out.nxt.cell hy
            subst en2
            rw [hyl] at y3 os2
            have HQA : Hid (∀ n, Calls Try.prog 53 #[.slice qa nw.t.length qc, .slice yr nw.t.length yrc] (w7.drewN n) fun e w' => e = .returned (.bool (lxB nw.t.flatten y.t.flatten)) ∧ ∃ m, w' = (w7.drewN n).drewN m) := fun n => by
              have hbn : Below w7.heap.size w7 (w7.drewN n) := below_drewN (Below.refl _ w7) n
              have r1 := HNOK.out
              have r2 := HNXO.out y hym
              refine (ahead_quiet nw.t y.t qa yr qc yrc nw.t.length L (w7.drewN n) (HT7.out.below hbn).tab (os2.below hbn).tab rfl hyl (fun q hq => r1.r _ (by rw [List.getD_eq_getElem?_getD, List.getElem?_eq_getElem hq]; exact List.getElem_mem hq)) (fun q hq => r2.r _ (by rw [List.getD_eq_getElem?_getD, List.getElem?_eq_getElem (by omega)]; exact List.getElem_mem _)) (by rw [r1.t]; omega) hL2).mono ?_
              rintro e w' ⟨q, rfl, hq, hm⟩
              exact ⟨by rw [lxB_of hq], hm⟩
            have HCUR2 := hide' hcur2
            have HG2 := hide' hG2
            have hjw : IntKind.i64.wrap ((jj : Int) + 1 - 1) = (jj : Int) := by rw [show (jj : Int) + 1 - 1 = (jj : Int) by omega]; exact wrap_ok (by omega)
            have hj0 : ¬ ((jj : Int) + 1 = 0) := by omega
            have hj1 : ((jj : Int) + 1 == 0) = false := beq_eq_false_iff_ne.2 hj0
            obtain ⟨ev, HEV⟩ : ∃ q, Hid (q = nw.e) := ⟨_, rfl⟩
            obtain ⟨yv, HYV⟩ : ∃ q, Hid (q = y.e) := ⟨_, rfl⟩
            have b2' : w7.cell? ⟨E, 2, none⟩ = some (.int .i64 ev) := by rw [HEV.out]; exact b2
            rw [← HYV.out] at y2
            clear b2 hcs hcx hM7 hPl hy hym hcode hyl hcur2 hG2 os2 HWC HIW HQ3 HV1 HV2 HB7 HPL HM7
            go_wp2_with fail
            go_upto_region 40 with fail
            go_cut [225] from 195 to 225 (fun p wc => Hid (p = .bool (overB nw y) ∧ ∃ m, wc = w7.drewN m))
            case first =>
              rcases Int.lt_trichotomy ev yv with h | h | h
              · have HOV : Hid (overB nw y = false) := overB_no fun h' => by
                  unfold Wet.over at h'
                  rw [← HEV.out, ← HYV.out] at h'
                  rcases h' with h' | ⟨h', _⟩ <;> omega
                have hd : decide (yv < ev) = false := decide_eq_false (by omega)
                have he : (ev == yv) = false := beq_eq_false_iff_ne.2 (by omega)
                clear h
                go_quiet (fail)
                go_wp2_with fail
                go_meet
                case rel => exact ⟨by rw [HOV.out], _, rfl⟩
              · subst h
                have HOV : Hid (overB nw y = lxB nw.t.flatten y.t.flatten) := by
                  show _ = _
                  rw [Bool.eq_iff_iff, lxB_iff]
                  constructor
                  · intro h'
                    have h2 := overB_iff.1 h'
                    unfold Wet.over at h2
                    rw [← HEV.out, ← HYV.out] at h2
                    rcases h2 with h2 | ⟨_, h2⟩
                    · omega
                    · exact h2
                  · intro h'
                    exact overB_yes (.inr ⟨by rw [← HEV.out, ← HYV.out], h'⟩)
                go_quiet ((go_at_call 53; exact Calls.quiet_of (HQA.out _)))
                go_wp2_with fail
                go_meet
                case rel => exact ⟨by rw [HOV.out], _, rfl⟩
              · have HOV : Hid (overB nw y = true) := overB_yes (.inl (by rw [← HEV.out, ← HYV.out]; exact h))
                have hd : decide (yv < ev) = true := decide_eq_true h
                go_quiet (fail)
                go_wp2_with fail
                go_meet
                case rel => exact ⟨by rw [HOV.out], _, rfl⟩
            case rest =>
              obtain ⟨hp9, m9, hw9⟩ := hcut.out
              subst hp9
              have hb9 : Below w7.heap.size w7 wc := by rw [hw9]; exact below_drewN (Below.refl _ w7) m9
              have HI9 := hide' (HI7.out.below hb9)
              have HE9 := hide' ((hb9.block E (lt_heapZ HE7.out)).trans HE7.out)
              have HC9 := hide' ((hb9.block G2 (lt_heapZ HCUR2.out)).trans HCUR2.out)
              have HT9 := hide' (HT7.out.below hb9)
              have HR9 := hide' (own_below HR7.out hb9 (Nat.le_refl _))
              have HU9 := hide' (own_below HU7.out hb9 (Nat.le_refl _))
              have d0 : wc.cell? ⟨E, 0, none⟩ = some (.slice va L vc) := (cells_at HE9.out 0).trans rfl
              have d1 : wc.cell? ⟨E, 1, none⟩ = some (.slice ua L uc) := (cells_at HE9.out 1).trans rfl
              have d2 : wc.cell? ⟨E, 2, none⟩ = some (.int .i64 nw.e) := (cells_at HE9.out 2).trans rfl
              have d3 : wc.cell? ⟨E, 3, none⟩ = some (.slice qa nw.t.length qc) := (cells_at HE9.out 3).trans rfl
              have v0 : wc.cell? ⟨G2, jj * 4, none⟩ = some (.slice yl L ylc) := up_cell hb9 y0
              have v1 : wc.cell? ⟨G2, jj * 4 + 1, none⟩ = some (.slice yc L ycc) := up_cell hb9 y1
              have v2 : wc.cell? ⟨G2, jj * 4 + 2, none⟩ = some (.int .i64 yv) := up_cell hb9 y2
              have v3 : wc.cell? ⟨G2, jj * 4 + 3, none⟩ = some (.slice yr nw.t.length yrc) := up_cell hb9 y3
              have f0 : wc.frozen? ⟨G2, jj * 4, none⟩ = false := frozen_no HC9.out _
              have f1 : wc.frozen? ⟨G2, jj * 4 + 1, none⟩ = false := frozen_no HC9.out _
              have f2 : wc.frozen? ⟨G2, jj * 4 + 2, none⟩ = false := frozen_no HC9.out _
              have f3 : wc.frozen? ⟨G2, jj * 4 + 3, none⟩ = false := frozen_no HC9.out _
              clear hb9 hw9 hcut HI7 HE7 HT7 HR7 HU7 HCUR2 y0 y1 y2 y3 b0 b1 b2' b3 hlk HQA
              by_cases ho : nw.over y
              · rw [overB_yes ho]
                have HNEXT : Hid (nextP ls L ti pr h all now k (j + 1) = nx.set jj nw) := by
                  show _ = _
                  rw [HNX.out]
                  exact put_over HYI.out HYS.out (HI9.out.ap.first HYI.out HYS.out) ho
                clear ho
                go_wp2_with fail
                refine HK.out _ _ _ _ _ _ _ _ _ _ _ _ _ _ _ _ _ _ _ _ _ _ _ _ _ _ _ _ _ _ _ _ _ _ _ _ _ _ _ _ _ _ _ _ _ _ _ _ _ _ _ _ _ _ _ _ _ _ _ _ _ _ _ _ _ _ _ _ _ _ _ _ _ _ _ _ _ _ _ _ _ _ _ _ _ _ _ _ _ _ _ _ _ _ _ _ _ _ _ _ _ _ _ _ _ _ _ _ _ _ _ _ _ _ _ _ _ _ _ _ _ _ _ _ _ _ _ _ _ _ _ _ _ _ _ _ _ _ _ _ _ ?_
                rw [HNEXT.out]
                have hK4 := keep4 HC9.out (jj * 4) (.slice va L vc) (.slice ua L uc) (.int .i64 nw.e) (.slice qa nw.t.length qc)
                have hBB : Below B wc ((((wc.setCell ⟨G2, jj * 4, none⟩ (.slice va L vc)).setCell ⟨G2, jj * 4 + 1, none⟩ (.slice ua L uc)).setCell ⟨G2, jj * 4 + 2, none⟩ (.int .i64 nw.e)).setCell ⟨G2, jj * 4 + 3, none⟩ (.slice qa nw.t.length qc)) := ((((Below.refl B wc).setCell (p := ⟨G2, jj * 4, none⟩) HG2.out _).setCell (p := ⟨G2, jj * 4 + 1, none⟩) HG2.out _).setCell (p := ⟨G2, jj * 4 + 2, none⟩) HG2.out _).setCell (p := ⟨G2, jj * 4 + 3, none⟩) HG2.out _
                obtain ⟨es9, cl9, hm9, hpl9⟩ := HI9.out.mp
                have hMG : M ≠ G2 := fun e => by
                  have q := HC9.out
                  rw [← e, hm9] at q
                  cases q
                exact ⟨HI9.out.nw.stays HI9.out.nwb hBB hK4, HI9.out.nwb, HI9.out.al.keep hK4 (by decide) (by decide), HI9.out.nxt.set rfl hjl ⟨va, vc, ua, uc, qa, qc, rfl, HR9.out, HU9.out, HT9.out⟩, ⟨es9, cl9, by rw [Below.heap_setCell _ _ _ _ hMG, Below.heap_setCell _ _ _ _ hMG, Below.heap_setCell _ _ _ _ hMG, Below.heap_setCell _ _ _ _ hMG]; exact hm9, hpl9.set HYI.out HYS.out⟩, HI9.out.ap.set HYI.out HYS.out, HI9.out.bel.trans (hBB.mono HI9.out.bge), HI9.out.bge, HI9.out.mge⟩
              · rw [overB_no ho]
                have HNEXT : Hid (nextP ls L ti pr h all now k (j + 1) = nx) := by
                  show _ = _
                  rw [HNX.out]
                  exact put_keep HYI.out HYS.out (HI9.out.ap.first HYI.out HYS.out) ho
                clear ho
                go_wp2_with fail
                refine HK.out _ _ _ _ _ _ _ _ _ _ _ _ _ _ _ _ _ _ _ _ _ _ _ _ _ _ _ _ _ _ _ _ _ _ _ _ _ _ _ _ _ _ _ _ _ _ _ _ _ _ _ _ _ _ _ _ _ _ _ _ _ _ _ _ _ _ _ _ _ _ _ _ _ _ _ _ _ _ _ _ _ _ _ _ _ _ _ _ _ _ _ _ _ _ _ _ _ _ _ _ _ _ _ _ _ _ _ _ _ _ _ _ _ _ _ _ _ _ _ _ _ _ _ _ _ _ _ _ _ _ _ _ _ _ _ _ _ _ _ _ _ ?_
                rw [HNEXT.out]
                exact HI9.out
end
end Go.Proofs.Ytnhddmcdmcpkeaj
