/- One release of one way to stand, in the document's search. -/
import Derived.Test.YtnhddmcdmcpkeajGD
import Derived.Test.YtnhddmcdmcpkeajX6
namespace Go.Proofs.Ytnhddmcdmcpkeaj
open Go.RowKit Go.Shelf

def loopsIn : Code → List Code
  | .loop c => [c]
  | .seq a b => loopsIn a ++ loopsIn b
  | .block _ c => loopsIn c
  | .scope c => loopsIn c
  | .cond _ a b => loopsIn a ++ loopsIn b
  | _ => []
def bodyHF (f : Func) : Code := ((f.body.map loopsIn).getD [])[2]?.getD .skip
def bodyKF (f : Func) : Code := (loopsIn (bodyHF f))[0]?.getD .skip
def bodyJF (f : Func) : Code := (loopsIn (bodyKF f))[0]?.getD .skip
theorem HourI.below {L : Nat} {all : List (List Int)} {now : List Wet} {W : World} {B M : Nat} {nv av xv : Value} {nx : List Wet} {w w' : World} (h : HourI L all now W B M nv av xv nx w) (hb : Below w.heap.size w w') : HourI L all now W B M nv av xv nx w' := by
  obtain ⟨es, clock, h1, h2⟩ := h.mp
  exact ⟨h.nw.below hb, h.nwb, h.al.below hb, h.nxt.below hb, ⟨es, clock, (hb.block M (Array.getElem?_eq_some_iff.1 h1).1).trans h1, h2⟩, h.ap, h.bel.trans (hb.mono h.bel.size), h.bge, h.mge⟩
section
variable {ls : List LakeM} {L H : Nat} {ti : List (List Int)} {pr en : List Int} {al ai ap : Option Addr} {cl ci cp : Nat}
set_option maxRecDepth 1000000 in
set_option maxHeartbeats 8000000 in
theorem roundJ_no (hp : PlanOk ls L H ti pr en) (W : World) (h1 : RowAt W (.slice al L cl) ls.length 5 (ls.flatMap LakeM.cells)) (h2 : TabAt W (.slice ai H ci) ti) {h k j M B : Nat} (hh : h < H) {now : List Wet} {all : List (List Int)} (hnow : now = nowL ls L ti pr all h) (hall : all = relN ls L) (hk : k < now.length) (hj : j < all.length) (hok : okW ls L ti h (now.getD k ⟨⟨0, 0, 0, 0⟩, 0, []⟩) (all.getD j []) = false) {an aa : Option Addr} {cn ac : Nat} (u3 u4 u5 u6 u7 u8 u9 u10 u11 u12 u13 u17 u21 u22 u23 u24 u25 u26 u27 u28 u29 u30 u31 u32 u33 u34 u35 u36 u37 u38 u39 u40 u41 u42 u43 u44 u45 u46 u47 u48 u49 u50 u51 u52 u53 u54 u55 u56 u57 u58 u59 u60 u61 u62 u63 u64 u65 u66 u67 u68 u69 u70 u71 u72 u73 u74 u75 u76 u77 u78 u79 u80 u81 u82 u83 u84 u85 u86 u87 u88 u89 u90 u91 u92 u93 u94 u95 u96 u97 u98 u99 u100 u101 u102 u103 u104 u105 u106 u107 u108 u109 u110 u111 u112 u113 u114 u115 u116 u117 u118 u119 u120 u121 u122 u123 u124 u125 u126 u127 u128 u129 u130 u131 u132 u133 u134 u135 u136 u137 u138 u139 u140 u141 u142 u143 u144 u145 u146 u147 u148 u149 u150 u151 u152 u153 u154 u155 u156 u157 u158 u159 u160 u161 u162 u163 u164 u165 u166 u167 u168 u169 u170 u171 u172 u173 u174 u175 u176 u177 u178 u179 u180 u181 u182 u183 u184 u185 u186 u187 u188 u189 u190 u191 u192 u193 u194 u195 u196 u197 u198 u199 u200 u201 u202 u203 u204 u205 u206 u207 u208 u209 u210 u211 u212 u213 u214 u215 u216 u217 u218 u219 u220 u221 u222 u223 u224 u225 u226 u227 u228 u229 u230 u231 u232 u233 u234 u235 u236 u237 u238 u239 u240 u241 u242 u243 u244 u245 u246 u247 u248 u249 u250 u251 u252 u253 u254 u255 u256 u257 u258 u259 u260 u261 u262 u263 u264 u265 u266 u267 u268 u269 u270 u271 u272 u273 u274 u275 u276 u277 u278 u279 u280 u281 u282 u283 u284 u285 u286 u287 u288 u289 u290 u291 u292 u293 u294 u295 u296 u297 u298 u299 u300 u301 u302 u303 u304 u305 u306 u307 u308 u309 u310 u311 u312 u313 u314 u315 u316 : Value) (w : World) (hI : HourI L all now W B M (.slice an now.length cn) (.slice aa all.length ac) u17 (nextP ls L ti pr h all now k j) w)
    (K : Act → World → Prop) (Q : Exit → Act → World → Prop) (hQ : ∀ c a a' w, Q (.panic c) a' w → Q (.panic c) a w) (hK : ∀ (g17 g21 g22 g23 g24 g25 g26 g27 g99 g100 g101 g102 g103 g104 g105 g106 g107 g108 g109 g110 g111 g112 g113 g114 g115 g116 g117 g118 g119 g120 g121 g122 g123 g124 g125 g126 g127 g128 g129 g130 g131 g132 g133 g134 g135 g136 g137 g138 g139 g140 g141 g142 g143 g144 g145 g146 g147 g148 g149 g150 g151 g152 g153 g154 g155 g156 g157 g158 g159 g160 g161 g162 g163 g164 g165 g166 g167 g168 g169 g170 g171 g172 g173 g174 g175 g176 g177 g178 g179 g180 g181 g182 g183 g184 g185 g186 g187 g188 g189 g190 g191 g192 g193 g194 g195 g196 g197 g198 g199 g200 g201 g202 g203 g204 g205 g206 g207 g208 g209 g210 g211 g212 g213 g214 g215 g216 g217 g218 g219 g220 g221 g222 g223 g224 g225 g226 g227 g228 g229 g230 : Value) (w' : World), HourI L all now W B M (.slice an now.length cn) (.slice aa all.length ac) g17 (nextP ls L ti pr h all now k (j + 1)) w' → K ⟨#[.slice al L cl, .slice ai H ci, .slice ap H cp, u3, u4, u5, u6, u7, u8, u9, u10, u11, u12, u13, .slice an now.length cn, .slice aa all.length ac, .int .i64 (h : Int), g17, .map (some M), .int .i64 (k : Int), .int .i64 ((j : Int) + 1), g21, g22, g23, g24, g25, g26, g27, u28, u29, u30, u31, u32, u33, u34, u35, u36, u37, u38, u39, u40, u41, u42, u43, u44, u45, u46, u47, u48, u49, u50, u51, u52, u53, u54, u55, u56, u57, u58, u59, u60, u61, u62, u63, u64, u65, u66, u67, u68, u69, u70, u71, u72, u73, u74, u75, u76, u77, u78, u79, u80, u81, u82, u83, u84, u85, u86, u87, u88, u89, u90, u91, u92, u93, u94, u95, u96, u97, u98, g99, g100, g101, g102, g103, g104, g105, g106, g107, g108, g109, g110, g111, g112, g113, g114, g115, g116, g117, g118, g119, g120, g121, g122, g123, g124, g125, g126, g127, g128, g129, g130, g131, g132, g133, g134, g135, g136, g137, g138, g139, g140, g141, g142, g143, g144, g145, g146, g147, g148, g149, g150, g151, g152, g153, g154, g155, g156, g157, g158, g159, g160, g161, g162, g163, g164, g165, g166, g167, g168, g169, g170, g171, g172, g173, g174, g175, g176, g177, g178, g179, g180, g181, g182, g183, g184, g185, g186, g187, g188, g189, g190, g191, g192, g193, g194, g195, g196, g197, g198, g199, g200, g201, g202, g203, g204, g205, g206, g207, g208, g209, g210, g211, g212, g213, g214, g215, g216, g217, g218, g219, g220, g221, g222, g223, g224, g225, g226, g227, g228, g229, g230, u231, u232, u233, u234, u235, u236, u237, u238, u239, u240, u241, u242, u243, u244, u245, u246, u247, u248, u249, u250, u251, u252, u253, u254, u255, u256, u257, u258, u259, u260, u261, u262, u263, u264, u265, u266, u267, u268, u269, u270, u271, u272, u273, u274, u275, u276, u277, u278, u279, u280, u281, u282, u283, u284, u285, u286, u287, u288, u289, u290, u291, u292, u293, u294, u295, u296, u297, u298, u299, u300, u301, u302, u303, u304, u305, u306, u307, u308, u309, u310, u311, u312, u313, u314, u315, u316], []⟩ w') :
    Code.wp Try.prog (bodyJF Try.f29) (Exit.then K Q) ⟨#[.slice al L cl, .slice ai H ci, .slice ap H cp, u3, u4, u5, u6, u7, u8, u9, u10, u11, u12, u13, .slice an now.length cn, .slice aa all.length ac, .int .i64 (h : Int), u17, .map (some M), .int .i64 (k : Int), .int .i64 (j : Int), u21, u22, u23, u24, u25, u26, u27, u28, u29, u30, u31, u32, u33, u34, u35, u36, u37, u38, u39, u40, u41, u42, u43, u44, u45, u46, u47, u48, u49, u50, u51, u52, u53, u54, u55, u56, u57, u58, u59, u60, u61, u62, u63, u64, u65, u66, u67, u68, u69, u70, u71, u72, u73, u74, u75, u76, u77, u78, u79, u80, u81, u82, u83, u84, u85, u86, u87, u88, u89, u90, u91, u92, u93, u94, u95, u96, u97, u98, u99, u100, u101, u102, u103, u104, u105, u106, u107, u108, u109, u110, u111, u112, u113, u114, u115, u116, u117, u118, u119, u120, u121, u122, u123, u124, u125, u126, u127, u128, u129, u130, u131, u132, u133, u134, u135, u136, u137, u138, u139, u140, u141, u142, u143, u144, u145, u146, u147, u148, u149, u150, u151, u152, u153, u154, u155, u156, u157, u158, u159, u160, u161, u162, u163, u164, u165, u166, u167, u168, u169, u170, u171, u172, u173, u174, u175, u176, u177, u178, u179, u180, u181, u182, u183, u184, u185, u186, u187, u188, u189, u190, u191, u192, u193, u194, u195, u196, u197, u198, u199, u200, u201, u202, u203, u204, u205, u206, u207, u208, u209, u210, u211, u212, u213, u214, u215, u216, u217, u218, u219, u220, u221, u222, u223, u224, u225, u226, u227, u228, u229, u230, u231, u232, u233, u234, u235, u236, u237, u238, u239, u240, u241, u242, u243, u244, u245, u246, u247, u248, u249, u250, u251, u252, u253, u254, u255, u256, u257, u258, u259, u260, u261, u262, u263, u264, u265, u266, u267, u268, u269, u270, u271, u272, u273, u274, u275, u276, u277, u278, u279, u280, u281, u282, u283, u284, u285, u286, u287, u288, u289, u290, u291, u292, u293, u294, u295, u296, u297, u298, u299, u300, u301, u302, u303, u304, u305, u306, u307, u308, u309, u310, u311, u312, u313, u314, u315, u316], []⟩ w := by
  conv => arg 2; whnf
  have HK := hide' hK
  have HOK := hide' hok
  have HRD : Hid (all.getD j [] = all[j]) := by show _ = _; rw [List.getD_eq_getElem?_getD, List.getElem?_eq_getElem hj]; rfl
  clear hok
  have HQ := hide' hQ
  have HI := hide' hI
  have HP := hide' hp
  have hL2 := hp.L2
  have HX := hide' h1
  have HAL := hide' hall
  have HNW := hide' hnow
  have hkb : now.length ≤ 152587890625 := by
    rw [hnow]
    exact Nat.le_trans (now_len (by rw [hall]; exact rel_25 hp.ok (by rw [hp.l]; exact hL2) (by rw [hp.l]; exact Nat.le_refl _)) h) (pow_small (by have := hp.H8; omega))
  have hab : all.length ≤ 25 := by rw [hall]; exact rel_25 hp.ok (by rw [hp.l]; exact hL2) (by rw [hp.l]; exact Nat.le_refl _)
  obtain ⟨x, hx⟩ : ∃ x, now[k]? = some x := ⟨_, List.getElem?_eq_getElem hk⟩
  obtain ⟨G, cg, xl, xlc, xc, xcc, xr, xrc, en1, hG, ⟨k0, k1, k2, k3⟩, ol, oc, os, hcur⟩ := hI.nw.cell hx
  simp only [Value.slice.injEq] at en1
  obtain ⟨rfl, hz2, rfl⟩ := en1
  clear hz2
  have hth : h < ti.length := by rw [hp.t]; exact hh
  obtain ⟨tb, tof, tcp, ta, tc, et, ht0, htr⟩ := h2.cell h hth
  simp only [Value.slice.injEq] at et
  obtain ⟨rfl, hz1, rfl⟩ := et
  clear hz1
  obtain ⟨rb, ro, rcp, ra, rc, er, hr0, hrr⟩ := hI.al.tab.cell j hj
  simp only [Value.slice.injEq] at er
  obtain ⟨rfl, hz3, rfl⟩ := er
  clear hz3
  have htl : (ti[h]).length = L := hp.tr _ (List.getElem_mem hth)
  have hrl : (all[j]).length = L := by
    have := rel_len hp.ok L (by rw [hp.l]; exact Nat.le_refl _) all[j] (by rw [← hall]; exact List.getElem_mem hj)
    exact this
  rw [htl] at ht0 htr
  rw [hrl] at hr0 hrr
  have t0 := up_cell hI.bel ht0
  have HS : Hid (w.cell? ⟨G, k * 4, none⟩ = some (.slice xl L xlc) ∧ w.cell? ⟨G, k * 4 + 1, none⟩ = some (.slice xc L xcc) ∧ w.cell? ⟨tb, tof + h, none⟩ = some (.slice ta L tc) ∧ w.cell? ⟨rb, ro + j, none⟩ = some (.slice ra L rc)) := ⟨k0, k1, t0, hr0⟩
  have hbd : Below w.heap.size w w.drew := (Below.refl _ w).drew
  have HX2 := hide' ((h1.below hI.bel (Nat.le_refl _)).below hbd (Nat.le_refl _))
  have HTR2 := hide' ((htr.below hI.bel (Nat.le_refl _)).below hbd (Nat.le_refl _))
  have HRR2 := hide' (hrr.below hbd (Nat.le_refl _))
  have HOL := hide' ((rowAt_of_own ol).below hbd (Nat.le_refl _))
  have HOC := hide' ((rowAt_of_own oc).below hbd (Nat.le_refl _))
  have HGX := hide' (now_ok hp h (by omega) x (by rw [← hall, ← hnow]; exact List.mem_of_getElem? hx)).g
  have HIN : Hid (∀ i, i < L → 0 ≤ (ti[h]).getD i 0 ∧ (ti[h]).getD i 0 ≤ 10) := by
    have q := in_bd hp hh
    rw [show ti.getD h [] = ti[h] by rw [List.getD_eq_getElem?_getD, List.getElem?_eq_getElem hth]; rfl] at q
    exact q
  clear hbd
  have HTD : Hid (ti.getD h [] = ti[h]) := by show _ = _; rw [List.getD_eq_getElem?_getD, List.getElem?_eq_getElem hth]; rfl
  have HXD : Hid (now.getD k ⟨⟨0, 0, 0, 0⟩, 0, []⟩ = x) := by show _ = _; rw [List.getD_eq_getElem?_getD, hx]; rfl
  clear hI h1 h2 hK hQ hp k0 k1 t0 hr0 ht0 hrr htr hall hnow
  go_upto_region 29 with fail
  have hkz : (0 : Int) ≤ (k : Int) ∧ (k : Int) < (now.length : Int) := by omega
  refine wp_region_tail (fun W' => W'.cell? ⟨G, k * 4, none⟩ = some (.slice xl L xlc) ∧ W'.cell? ⟨G, k * 4 + 1, none⟩ = some (.slice xc L xcc) ∧ W'.cell? ⟨tb, tof + h, none⟩ = some (.slice ta L tc) ∧ W'.cell? ⟨rb, ro + j, none⟩ = some (.slice ra L rc)) 28 (by kernel_rfl) ?_
  refine wpAnyD_takeAt 0 (some 106) (v := ?_) rfl (by kernel_rfl) (by kernel_rfl) (by kernel_rfl) (by kernel_rfl) (by kernel_rfl) (fun c a w h => HQ.out c _ _ w h) (by exact HS.out) (fun o hop => ?_) ?_
  rotate_left
  · injection hop with hop
    subst hop
    refine ⟨rfl, fun W hW => ?_⟩
    obtain ⟨s0, s1, s2, s3⟩ := hW
    go_simp
    try rfl
  try simp only [Act.put, List.setIfInBounds_toArray, List.set_cons_zero, List.set_cons_succ]
  refine wpAnyD_takeAt 1 (some 107) (v := ?_) rfl (by kernel_rfl) (by kernel_rfl) (by kernel_rfl) (by kernel_rfl) (by kernel_rfl) (fun c a w h => HQ.out c _ _ w h) (by exact HS.out) (fun o hop => ?_) ?_
  rotate_left
  · injection hop with hop
    subst hop
    refine ⟨rfl, fun W hW => ?_⟩
    obtain ⟨s0, s1, s2, s3⟩ := hW
    go_simp
    try rfl
  try simp only [Act.put, List.setIfInBounds_toArray, List.set_cons_zero, List.set_cons_succ]
  refine wpAnyD_takeAt 2 (some 108) (v := ?_) rfl (by kernel_rfl) (by kernel_rfl) (by kernel_rfl) (by kernel_rfl) (by kernel_rfl) (fun c a w h => HQ.out c _ _ w h) (by exact HS.out) (fun o hop => ?_) ?_
  rotate_left
  · injection hop with hop
    subst hop
    refine ⟨rfl, fun W hW => ?_⟩
    obtain ⟨s0, s1, s2, s3⟩ := hW
    go_simp
    try rfl
  try simp only [Act.put, List.setIfInBounds_toArray, List.set_cons_zero, List.set_cons_succ]
  refine wpAnyD_takeAt 3 (some 109) (v := ?_) rfl (by kernel_rfl) (by kernel_rfl) (by kernel_rfl) (by kernel_rfl) (by kernel_rfl) (fun c a w h => HQ.out c _ _ w h) (by exact HS.out) (fun o hop => ?_) ?_
  rotate_left
  · injection hop with hop
    subst hop
    refine ⟨rfl, fun W hW => ?_⟩
    obtain ⟨s0, s1, s2, s3⟩ := hW
    go_simp
    try rfl
  try simp only [Act.put, List.setIfInBounds_toArray, List.set_cons_zero, List.set_cons_succ]
  refine wpAnyD_takeAt 4 (some 110) (v := ?_) rfl (by kernel_rfl) (by kernel_rfl) (by kernel_rfl) (by kernel_rfl) (by kernel_rfl) (fun c a w h => HQ.out c _ _ w h) (by exact HS.out) (fun o hop => ?_) ?_
  rotate_left
  · injection hop with hop
    subst hop
    refine ⟨rfl, fun W hW => ?_⟩
    obtain ⟨s0, s1, s2, s3⟩ := hW
    go_simp
    try rfl
  try simp only [Act.put, List.setIfInBounds_toArray, List.set_cons_zero, List.set_cons_succ]
  refine wpAnyD_takeAt 5 (some 111) (v := ?_) rfl (by kernel_rfl) (by kernel_rfl) (by kernel_rfl) (by kernel_rfl) (by kernel_rfl) (fun c a w h => HQ.out c _ _ w h) (by exact HS.out) (fun o hop => ?_) ?_
  rotate_left
  · injection hop with hop
    subst hop
    refine ⟨rfl, fun W hW => ?_⟩
    obtain ⟨s0, s1, s2, s3⟩ := hW
    go_simp
    try rfl
  try simp only [Act.put, List.setIfInBounds_toArray, List.set_cons_zero, List.set_cons_succ]
  refine wpAnyD_takeAt 6 (some 112) (v := ?_) rfl (by kernel_rfl) (by kernel_rfl) (by kernel_rfl) (by kernel_rfl) (by kernel_rfl) (fun c a w h => HQ.out c _ _ w h) (by exact HS.out) (fun o hop => ?_) ?_
  rotate_left
  · injection hop with hop
    subst hop
    refine ⟨rfl, fun W hW => ?_⟩
    obtain ⟨s0, s1, s2, s3⟩ := hW
    go_simp
    try rfl
  try simp only [Act.put, List.setIfInBounds_toArray, List.set_cons_zero, List.set_cons_succ]
  refine wpAnyD_takeAt 7 (some 113) (v := ?_) rfl (by kernel_rfl) (by kernel_rfl) (by kernel_rfl) (by kernel_rfl) (by kernel_rfl) (fun c a w h => HQ.out c _ _ w h) (by exact HS.out) (fun o hop => ?_) ?_
  rotate_left
  · injection hop with hop
    subst hop
    refine ⟨rfl, fun W hW => ?_⟩
    obtain ⟨s0, s1, s2, s3⟩ := hW
    go_simp
    try rfl
  try simp only [Act.put, List.setIfInBounds_toArray, List.set_cons_zero, List.set_cons_succ]
  refine wpAnyD_takeAt 8 (some 114) (v := ?_) rfl (by kernel_rfl) (by kernel_rfl) (by kernel_rfl) (by kernel_rfl) (by kernel_rfl) (fun c a w h => HQ.out c _ _ w h) (by exact HS.out) (fun o hop => ?_) ?_
  rotate_left
  · injection hop with hop
    subst hop
    refine ⟨rfl, fun W hW => ?_⟩
    obtain ⟨s0, s1, s2, s3⟩ := hW
    go_simp
    try rfl
  try simp only [Act.put, List.setIfInBounds_toArray, List.set_cons_zero, List.set_cons_succ]
  refine wpAnyD_takeAt 9 (some 115) (v := ?_) rfl (by kernel_rfl) (by kernel_rfl) (by kernel_rfl) (by kernel_rfl) (by kernel_rfl) (fun c a w h => HQ.out c _ _ w h) (by exact HS.out) (fun o hop => ?_) ?_
  rotate_left
  · injection hop with hop
    subst hop
    refine ⟨rfl, fun W hW => ?_⟩
    obtain ⟨s0, s1, s2, s3⟩ := hW
    go_simp
    try rfl
  try simp only [Act.put, List.setIfInBounds_toArray, List.set_cons_zero, List.set_cons_succ]
  refine wpAnyD_takeAt 10 (some 116) (v := ?_) rfl (by kernel_rfl) (by kernel_rfl) (by kernel_rfl) (by kernel_rfl) (by kernel_rfl) (fun c a w h => HQ.out c _ _ w h) (by exact HS.out) (fun o hop => ?_) ?_
  rotate_left
  · injection hop with hop
    subst hop
    refine ⟨rfl, fun W hW => ?_⟩
    obtain ⟨s0, s1, s2, s3⟩ := hW
    go_simp
    try rfl
  try simp only [Act.put, List.setIfInBounds_toArray, List.set_cons_zero, List.set_cons_succ]
  refine wpAnyD_takeAt 11 (some 117) (v := ?_) rfl (by kernel_rfl) (by kernel_rfl) (by kernel_rfl) (by kernel_rfl) (by kernel_rfl) (fun c a w h => HQ.out c _ _ w h) (by exact HS.out) (fun o hop => ?_) ?_
  rotate_left
  · injection hop with hop
    subst hop
    refine ⟨rfl, fun W hW => ?_⟩
    obtain ⟨s0, s1, s2, s3⟩ := hW
    go_simp
    try rfl
  try simp only [Act.put, List.setIfInBounds_toArray, List.set_cons_zero, List.set_cons_succ]
  refine wpAnyD_takeAt 12 (some 118) (v := ?_) rfl (by kernel_rfl) (by kernel_rfl) (by kernel_rfl) (by kernel_rfl) (by kernel_rfl) (fun c a w h => HQ.out c _ _ w h) (by exact HS.out) (fun o hop => ?_) ?_
  rotate_left
  · injection hop with hop
    subst hop
    refine ⟨rfl, fun W hW => ?_⟩
    obtain ⟨s0, s1, s2, s3⟩ := hW
    go_simp
    try rfl
  try simp only [Act.put, List.setIfInBounds_toArray, List.set_cons_zero, List.set_cons_succ]
  refine wpAnyD_takeAt 13 (some 119) (v := ?_) rfl (by kernel_rfl) (by kernel_rfl) (by kernel_rfl) (by kernel_rfl) (by kernel_rfl) (fun c a w h => HQ.out c _ _ w h) (by exact HS.out) (fun o hop => ?_) ?_
  rotate_left
  · injection hop with hop
    subst hop
    refine ⟨rfl, fun W hW => ?_⟩
    obtain ⟨s0, s1, s2, s3⟩ := hW
    go_simp
    try rfl
  try simp only [Act.put, List.setIfInBounds_toArray, List.set_cons_zero, List.set_cons_succ]
  refine wpAnyD_takeAt 14 (some 120) (v := ?_) rfl (by kernel_rfl) (by kernel_rfl) (by kernel_rfl) (by kernel_rfl) (by kernel_rfl) (fun c a w h => HQ.out c _ _ w h) (by exact HS.out) (fun o hop => ?_) ?_
  rotate_left
  · injection hop with hop
    subst hop
    refine ⟨rfl, fun W hW => ?_⟩
    obtain ⟨s0, s1, s2, s3⟩ := hW
    go_simp
    try rfl
  try simp only [Act.put, List.setIfInBounds_toArray, List.set_cons_zero, List.set_cons_succ]
  refine wpAnyD_takeAt 15 (some 121) (v := ?_) rfl (by kernel_rfl) (by kernel_rfl) (by kernel_rfl) (by kernel_rfl) (by kernel_rfl) (fun c a w h => HQ.out c _ _ w h) (by exact HS.out) (fun o hop => ?_) ?_
  rotate_left
  · injection hop with hop
    subst hop
    refine ⟨rfl, fun W hW => ?_⟩
    obtain ⟨s0, s1, s2, s3⟩ := hW
    go_simp
    try rfl
  try simp only [Act.put, List.setIfInBounds_toArray, List.set_cons_zero, List.set_cons_succ]
  refine wpAnyD_takeAt 16 (some 122) (v := ?_) rfl (by kernel_rfl) (by kernel_rfl) (by kernel_rfl) (by kernel_rfl) (by kernel_rfl) (fun c a w h => HQ.out c _ _ w h) (by exact HS.out) (fun o hop => ?_) ?_
  rotate_left
  · injection hop with hop
    subst hop
    refine ⟨rfl, fun W hW => ?_⟩
    obtain ⟨s0, s1, s2, s3⟩ := hW
    go_simp
    try rfl
  try simp only [Act.put, List.setIfInBounds_toArray, List.set_cons_zero, List.set_cons_succ]
  refine wpAnyD_takeAt 17 (some 123) (v := ?_) rfl (by kernel_rfl) (by kernel_rfl) (by kernel_rfl) (by kernel_rfl) (by kernel_rfl) (fun c a w h => HQ.out c _ _ w h) (by exact HS.out) (fun o hop => ?_) ?_
  rotate_left
  · injection hop with hop
    subst hop
    refine ⟨rfl, fun W hW => ?_⟩
    obtain ⟨s0, s1, s2, s3⟩ := hW
    go_simp
    try rfl
  try simp only [Act.put, List.setIfInBounds_toArray, List.set_cons_zero, List.set_cons_succ]
  refine wpAnyD_takeAt 18 (some 124) (v := ?_) rfl (by kernel_rfl) (by kernel_rfl) (by kernel_rfl) (by kernel_rfl) (by kernel_rfl) (fun c a w h => HQ.out c _ _ w h) (by exact HS.out) (fun o hop => ?_) ?_
  rotate_left
  · injection hop with hop
    subst hop
    refine ⟨rfl, fun W hW => ?_⟩
    obtain ⟨s0, s1, s2, s3⟩ := hW
    go_simp
    try rfl
  try simp only [Act.put, List.setIfInBounds_toArray, List.set_cons_zero, List.set_cons_succ]
  have HWH := hide' (waterHour_any ls HP.out.ok x.s ti[h] all[j] L HP.out.l hL2 (HGX.out) (HIN.out) htl hrl al xl xc ta ra cl xlc xcc tc rc w.drew HX2.out HOL.out HOC.out HTR2.out HRR2.out)
  refine wpAnyT_one (i := 19) (by kernel_rfl) rfl rfl (fun K' hK => ?_)
  go_simp
  go_at_call 44
  refine HWH.out.mono ?_
  intro e w1 hO
  obtain ⟨hO, hb1⟩ := hO
  have hbw : Below w.heap.size w w1 := ⟨hb1.os, hb1.tape, hb1.output, hb1.size, hb1.block⟩
  have HBW := hide' hbw
  have HS1 : Hid (w1.cell? ⟨G, k * 4, none⟩ = some (.slice xl L xlc) ∧ w1.cell? ⟨G, k * 4 + 1, none⟩ = some (.slice xc L xcc) ∧ w1.cell? ⟨tb, tof + h, none⟩ = some (.slice ta L tc) ∧ w1.cell? ⟨rb, ro + j, none⟩ = some (.slice ra L rc)) := ⟨up_cell hbw HS.out.1, up_cell hbw HS.out.2.1, up_cell hbw HS.out.2.2.1, up_cell hbw HS.out.2.2.2⟩
  have HI1 := hide' (HI.out.below hbw)
  clear hb1 hbw HS HWH HI HX2 HTR2 HRR2 HOL HOC
  rcases hO with ⟨hno, rfl⟩ | ⟨hyes, _⟩
  · have HNO : Hid (nextP ls L ti pr h all now k (j + 1) = nextP ls L ti pr h all now k j) := next_no hj (by
      unfold okW
      rw [HTD.out, HXD.out]
      exact hno)
    clear hno
    refine hK.out _ _ (fun _ => HS1.out) ?_
    clear hK K'
    try simp only [Act.put, List.setIfInBounds_toArray, List.set_cons_zero, List.set_cons_succ]
    refine wpAnyT_one (i := 20) (by kernel_rfl) rfl rfl (fun K' hK => ?_)
    go_simp
    refine hK.out _ _ (fun _ => HS1.out) ?_
    clear hK K'
    try simp only [Act.put, List.setIfInBounds_toArray, List.set_cons_zero, List.set_cons_succ]
    refine wpAnyD_takeAt 21 (some 126) (v := ?_) rfl (by kernel_rfl) (by kernel_rfl) (by kernel_rfl) (by kernel_rfl) (by kernel_rfl) (fun c a w h => HQ.out c _ _ w h) (by exact HS1.out) (fun o hop => ?_) ?_
    rotate_left
    · injection hop with hop
      subst hop
      refine ⟨rfl, fun W hW => ?_⟩
      obtain ⟨s0, s1, s2, s3⟩ := hW
      go_simp
      try rfl
    try simp only [Act.put, List.setIfInBounds_toArray, List.set_cons_zero, List.set_cons_succ]
    refine wpAnyD_takeAt 22 (some 127) (v := ?_) rfl (by kernel_rfl) (by kernel_rfl) (by kernel_rfl) (by kernel_rfl) (by kernel_rfl) (fun c a w h => HQ.out c _ _ w h) (by exact HS1.out) (fun o hop => ?_) ?_
    rotate_left
    · injection hop with hop
      subst hop
      refine ⟨rfl, fun W hW => ?_⟩
      obtain ⟨s0, s1, s2, s3⟩ := hW
      go_simp
      try rfl
    try simp only [Act.put, List.setIfInBounds_toArray, List.set_cons_zero, List.set_cons_succ]
    refine wpAnyD_takeAt 23 (some 128) (v := ?_) rfl (by kernel_rfl) (by kernel_rfl) (by kernel_rfl) (by kernel_rfl) (by kernel_rfl) (fun c a w h => HQ.out c _ _ w h) (by exact HS1.out) (fun o hop => ?_) ?_
    rotate_left
    · injection hop with hop
      subst hop
      refine ⟨rfl, fun W hW => ?_⟩
      obtain ⟨s0, s1, s2, s3⟩ := hW
      go_simp
      try rfl
    try simp only [Act.put, List.setIfInBounds_toArray, List.set_cons_zero, List.set_cons_succ]
    refine wpAnyD_takeAt 24 (some 129) (v := ?_) rfl (by kernel_rfl) (by kernel_rfl) (by kernel_rfl) (by kernel_rfl) (by kernel_rfl) (fun c a w h => HQ.out c _ _ w h) (by exact HS1.out) (fun o hop => ?_) ?_
    rotate_left
    · injection hop with hop
      subst hop
      refine ⟨rfl, fun W hW => ?_⟩
      obtain ⟨s0, s1, s2, s3⟩ := hW
      go_simp
      try rfl
    try simp only [Act.put, List.setIfInBounds_toArray, List.set_cons_zero, List.set_cons_succ]
    refine wpAnyT_one (i := 25) (by kernel_rfl) rfl rfl (fun K' hK => ?_)
    go_simp
    refine hK.out _ _ (fun _ => HS1.out) ?_
    clear hK K'
    try simp only [Act.put, List.setIfInBounds_toArray, List.set_cons_zero, List.set_cons_succ]
    refine wpAnyT_one (i := 26) (by kernel_rfl) rfl rfl (fun K' hK => ?_)
    go_simp
    refine hK.out _ _ (fun _ => HS1.out) ?_
    clear hK K'
    try simp only [Act.put, List.setIfInBounds_toArray, List.set_cons_zero, List.set_cons_succ]
    refine wpAnyT_one (i := 27) (by kernel_rfl) rfl rfl (fun K' hK => ?_)
    go_simp
    refine hK.out _ _ (fun _ => HS1.out) ?_
    clear hK K'
    try simp only [Act.put, List.setIfInBounds_toArray, List.set_cons_zero, List.set_cons_succ]
    refine wpAnyT_one (i := 28) (by kernel_rfl) rfl rfl (fun K' hK => ?_)
    go_simp
    refine hK.out _ _ (fun h => absurd rfl h) ?_
    clear hK K'
    try simp only [Act.put, List.setIfInBounds_toArray, List.set_cons_zero, List.set_cons_succ]
    refine wpAnyT_done (by kernel_rfl) ?_ _
    go_wp2_with fail
    refine HK.out _ _ _ _ _ _ _ _ _ _ _ _ _ _ _ _ _ _ _ _ _ _ _ _ _ _ _ _ _ _ _ _ _ _ _ _ _ _ _ _ _ _ _ _ _ _ _ _ _ _ _ _ _ _ _ _ _ _ _ _ _ _ _ _ _ _ _ _ _ _ _ _ _ _ _ _ _ _ _ _ _ _ _ _ _ _ _ _ _ _ _ _ _ _ _ _ _ _ _ _ _ _ _ _ _ _ _ _ _ _ _ _ _ _ _ _ _ _ _ _ _ _ _ _ _ _ _ _ _ _ _ _ _ _ _ _ _ _ _ _ _ ?_
    rw [HNO.out]
    exact HI1.out
  · exfalso
    have q := HOK.out
    unfold okW at q
    rw [HTD.out, HXD.out, HRD.out, hyes] at q
    cases q
end
end Go.Proofs.Ytnhddmcdmcpkeaj
