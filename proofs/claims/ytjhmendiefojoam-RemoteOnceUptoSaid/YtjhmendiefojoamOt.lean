/- A tick in which a master at rest is asked. -/
import Derived.Test.YtjhmendiefojoamYc
import Derived.Test.YtjhmendiefojoamOr
namespace Go.Proofs.Ytjhmendiefojoam
open Go.RowKit Go.Shelf

set_option maxRecDepth 1000000 in
set_option maxHeartbeats 8000000 in
theorem ask_rest1 (w : World) {B K Tb : Nat} {ask : Int} {want : Bool} {come lose again mix : Int} {deaf : Bool} (V : Wl) {pat lim P : Int} {T : Nat} (hI : Inv pat lim P T V) (hT : T ≤ 900) (hsi : I6 ask) (bb1 : V.down.length + V.up.length ≤ 80000) (bb2 : V.old.length ≤ 600000) (u1 u2 u4 u5 u6 u7 u8 u9 u10 u11 u12 u13 u14 u15 u16 u17 u18 u19 u20 u21 u22 u23 u24 u25 u26 u27 u28 u29 u30 u31 u32 u33 u34 u35 u36 u37 u38 u39 u40 u41 u42 u43 u44 u45 u46 u47 u48 u49 u50 u51 u52 u53 u54 u55 u56 u57 u58 u59 u60 u61 u62 u63 u64 u65 u66 u67 u68 u69 u70 u71 u72 u73 u74 u75 u76 u77 u78 u79 u80 u81 u82 u83 u84 u85 u86 u87 u88 u89 u90 u91 u92 u93 u94 u95 u96 u97 u98 u99 u100 u101 u102 u103 u104 u105 u106 u107 u108 u109 u110 u111 u112 u113 u114 u115 u116 u117 u118 u119 u120 u121 u122 u123 u124 u125 u126 u127 u128 u129 u130 u131 u132 u133 u134 u135 u136 u137 u138 u139 u140 u141 u142 u143 u144 u145 u146 u147 u148 u149 u150 u151 u152 u153 u154 u155 u156 u157 u158 u159 u160 u161 u162 u163 u164 u165 u166 u167 u168 u169 u170 u171 u172 u173 u174 u175 u176 u177 u178 u179 u180 u181 u182 u183 u184 u185 u186 u187 u188 u189 u190 u191 u192 u193 u194 u195 u196 u197 u198 u199 u200 u201 u202 u203 u204 u205 u206 u207 u208 u209 u210 u211 u212 u213 u214 u215 u216 u217 u218 u219 u220 u221 u222 u223 u224 u225 u226 u227 u228 u229 u230 u231 u232 : Value) (z : World) (hA : TkAt w z B K Tb ⟨ask, want, come, lose, again, mix, deaf⟩ V)
    (Q : Exit → Act → World → Prop) (hQ : ∀ c a a' w, Q (.panic c) a' w → Q (.panic c) a w) (c2 : Code) (hT2 : ∀ (v1 v2 v4 v5 v6 v7 v8 v9 v10 v11 v12 v13 v14 v15 v16 v17 v18 v19 v20 v21 v22 v23 v24 v25 v26 v27 v28 v29 v30 v31 v32 v33 v34 v35 v36 v37 v38 v39 v40 v41 v42 v43 v44 v45 v46 v47 v48 v49 v50 v51 v52 v53 v54 v55 v56 v57 v58 v59 v60 v61 v62 v63 v64 v65 v66 v67 v68 v69 v70 v71 v72 v73 v74 v75 v76 v77 v78 v79 v80 v81 v82 v83 v84 v85 v86 v87 v88 v89 v90 v91 v92 v93 v94 v95 v96 v97 v98 v99 v100 v101 v102 v103 v104 v105 v106 v107 v108 v109 v110 v111 v112 v113 v114 v115 v116 v117 v118 v119 v120 v121 v122 v123 v124 v125 v126 v127 v128 v129 v130 v131 v132 v133 v134 v135 v136 v137 v138 v139 v140 v141 v142 v143 v144 v145 v146 v147 v148 v149 v150 v151 v152 v153 v154 v155 v156 v157 v158 v159 v160 v161 v162 v163 v164 v165 v166 v167 v168 v169 v170 v171 v172 v173 v174 v175 v176 v177 v178 v179 v180 v181 v182 v183 v184 v185 v186 v187 v188 v189 v190 v191 v192 v193 v194 v195 v196 v197 v198 v199 v200 v201 v202 v203 v204 v205 v206 v207 v208 v209 v210 v211 v212 v213 v214 v215 v216 v217 v218 v219 v220 v221 v222 v223 v224 v225 v226 v227 v228 v229 v230 v231 v232 : Value) (z' : World), TkAt w z' B K Tb ⟨ask, want, come, lose, again, mix, deaf⟩ (askW V ⟨ask, want, come, lose, again, mix, deaf⟩) → Code.wp Try.prog c2 Q ⟨#[.pointer (some ⟨K, 0, none⟩), v1, v2, .pointer (some ⟨Tb, 0, none⟩), v4, v5, v6, v7, v8, v9, v10, v11, v12, v13, v14, v15, v16, v17, v18, v19, v20, v21, v22, v23, v24, v25, v26, v27, v28, v29, v30, v31, v32, v33, v34, v35, v36, v37, v38, v39, v40, v41, v42, v43, v44, v45, v46, v47, v48, v49, v50, v51, v52, v53, v54, v55, v56, v57, v58, v59, v60, v61, v62, v63, v64, v65, v66, v67, v68, v69, v70, v71, v72, v73, v74, v75, v76, v77, v78, v79, v80, v81, v82, v83, v84, v85, v86, v87, v88, v89, v90, v91, v92, v93, v94, v95, v96, v97, v98, v99, v100, v101, v102, v103, v104, v105, v106, v107, v108, v109, v110, v111, v112, v113, v114, v115, v116, v117, v118, v119, v120, v121, v122, v123, v124, v125, v126, v127, v128, v129, v130, v131, v132, v133, v134, v135, v136, v137, v138, v139, v140, v141, v142, v143, v144, v145, v146, v147, v148, v149, v150, v151, v152, v153, v154, v155, v156, v157, v158, v159, v160, v161, v162, v163, v164, v165, v166, v167, v168, v169, v170, v171, v172, v173, v174, v175, v176, v177, v178, v179, v180, v181, v182, v183, v184, v185, v186, v187, v188, v189, v190, v191, v192, v193, v194, v195, v196, v197, v198, v199, v200, v201, v202, v203, v204, v205, v206, v207, v208, v209, v210, v211, v212, v213, v214, v215, v216, v217, v218, v219, v220, v221, v222, v223, v224, v225, v226, v227, v228, v229, v230, v231, v232], []⟩ z') (h1 : ask.tmod 2 = 1) (hph : V.m.ph = 0) :
    Code.wp Try.prog (Code.seq (headC 1 Try.f22) c2) Q ⟨#[.pointer (some ⟨K, 0, none⟩), u1, u2, .pointer (some ⟨Tb, 0, none⟩), u4, u5, u6, u7, u8, u9, u10, u11, u12, u13, u14, u15, u16, u17, u18, u19, u20, u21, u22, u23, u24, u25, u26, u27, u28, u29, u30, u31, u32, u33, u34, u35, u36, u37, u38, u39, u40, u41, u42, u43, u44, u45, u46, u47, u48, u49, u50, u51, u52, u53, u54, u55, u56, u57, u58, u59, u60, u61, u62, u63, u64, u65, u66, u67, u68, u69, u70, u71, u72, u73, u74, u75, u76, u77, u78, u79, u80, u81, u82, u83, u84, u85, u86, u87, u88, u89, u90, u91, u92, u93, u94, u95, u96, u97, u98, u99, u100, u101, u102, u103, u104, u105, u106, u107, u108, u109, u110, u111, u112, u113, u114, u115, u116, u117, u118, u119, u120, u121, u122, u123, u124, u125, u126, u127, u128, u129, u130, u131, u132, u133, u134, u135, u136, u137, u138, u139, u140, u141, u142, u143, u144, u145, u146, u147, u148, u149, u150, u151, u152, u153, u154, u155, u156, u157, u158, u159, u160, u161, u162, u163, u164, u165, u166, u167, u168, u169, u170, u171, u172, u173, u174, u175, u176, u177, u178, u179, u180, u181, u182, u183, u184, u185, u186, u187, u188, u189, u190, u191, u192, u193, u194, u195, u196, u197, u198, u199, u200, u201, u202, u203, u204, u205, u206, u207, u208, u209, u210, u211, u212, u213, u214, u215, u216, u217, u218, u219, u220, u221, u222, u223, u224, u225, u226, u227, u228, u229, u230, u231, u232], []⟩ z := by
    refine wp_seq_k fun Kn hKn => ?_
    have HKn := hide' hKn
    have HT2 := hide' hT2
    have HQ := hide' hQ
    have HI := hide' hI
    have HA := hide' hA
    clear hKn hT2 hQ hI hA
    obtain ⟨i39, hi39, h390, h391, h392⟩ := info_parts Try.info39'
    obtain ⟨pv, dv, uv, ov, av, cv, hW⟩ := HA.out.wat
    obtain ⟨pa, pc, hpe⟩ := own_slice hW.pts
    subst hpe
    obtain ⟨qa, qc, hqe⟩ := own_slice hW.ak
    subst hqe
    have HW := hide' hW
    clear hW
    have hakb : V.asked.length ≤ 900 := Nat.le_trans HI.out.nT hT
    have c0 : z.cell? ⟨Tb, 0, none⟩ = some (.int .i64 ask) := (cells_at HA.out.box 0).trans rfl
    have hq2 : wrap64 (ask.tdiv 2) = ask.tdiv 2 := wrap64_ok (tdiv_bd (by decide) hsi)
    have hq1 : IntKind.i64.wrap (ask.tdiv 2) = ask.tdiv 2 := (IntWalk.i64_left _).trans hq2
    obtain ⟨pp, hpp⟩ : ∃ p, pickedI (ask.tdiv 2) (V.l.length : Int) = p := ⟨_, rfl⟩
    have HPP : Hid (pickedI (ask.tdiv 2) 4 = pp ∧ (0 ≤ pp ∧ pp ≤ 3) ∧ 0 < V.l.length ∧ V.l.length ≤ 3000000) := by
      have h4 := HI.out.l4
      have hb := picked_bd (n := ask.tdiv 2) (f := V.l.length) (by omega)
      rw [hpp] at hb
      rw [h4] at hpp hb
      exact ⟨hpp, by omega, by omega, by omega⟩
    conv => arg 2; whnf
    have hodd : ask.tmod 2 = 1 ∨ ask.tmod 2 = -1 := .inl h1
    obtain ⟨⟨n0, n1, n2, n3, n4, n5, n6, n7, n8, n9⟩, hM⟩ : ∃ M, M = askM V.m pp want := ⟨_, rfl⟩
    obtain ⟨os, hos⟩ : ∃ l, l = [(askM V.m pp want).msg] := ⟨_, rfl⟩
    have HAK : Hid (askW V ⟨ask, want, come, lose, again, mix, deaf⟩ = (⟨V.m, V.l, V.s, V.down, V.up, V.old, V.asked ++ [(⟨0, (V.asked.length : Int), pp, want⟩ : MsM)], V.acted⟩ : Wl).sent ⟨n0, n1, n2, n3, n4, n5, n6, n7, n8, n9⟩ os) := by
      show askW V ⟨ask, want, come, lose, again, mix, deaf⟩ = _
      unfold askW
      rw [if_pos ⟨hodd, hph⟩]
      simp only
      rw [HPP.out.1, hM, hos]
    have HMM : Hid (os.length ≤ 1) := by show os.length ≤ 1; rw [hos]; exact Nat.le_refl _
    have HC : Hid (∀ q, Calls Try.prog 12 #[.agg #[.int .i64 V.m.no, .int .i64 V.m.ph, .int .i64 V.m.now, .int .i64 V.m.pt, .bool V.m.want, .int .i64 V.m.timer, .int .i64 V.m.pat, .int .i64 V.m.tries, .int .i64 V.m.lim, .bool V.m.gave], .int .i64 pp, .bool want] q (fun e q' => ∃ v, e = .returned (.tuple #[.agg #[.int .i64 n0, .int .i64 n1, .int .i64 n2, .int .i64 n3, .bool n4, .int .i64 n5, .int .i64 n6, .int .i64 n7, .int .i64 n8, .bool n9], v, .int .i64 0]) ∧ q'.ownsRow q.heap.size 39 4 v os.length (msgs os) ∧ Below q.heap.size q q')) := fun q => by
      have h0 := Ask_rest V.m pp want q HI.out.may hph (by have := HPP.out.2.1; omega) (by have q1 := HI.out.no; have q2 := HI.out.nT; omega)
      rw [← hos, ← hM] at h0
      exact h0
    clear hM hos hodd hph
    go_upto_region 2 with fail
    clear c0
    have HS1 : Hid (z.drew.heap[K]? = some (.cells #[.int .i64 V.m.no, .int .i64 V.m.ph, .int .i64 V.m.now, .int .i64 V.m.pt, .bool V.m.want, .int .i64 V.m.timer, .int .i64 V.m.pat, .int .i64 V.m.tries, .int .i64 V.m.lim, .bool V.m.gave, .slice pa V.l.length pc, .int .i64 V.s.last, .int .i64 V.s.armed, .int .i64 V.s.point, .bool V.s.want, .int .i64 V.s.left, .int .i64 V.s.pat, dv, uv, ov, .slice qa V.asked.length qc, cv] 52 (0, 0)) ∧ z.drew.heap[Tb]? = some (.cells #[.int .i64 ask, .bool want, .int .i64 come, .int .i64 lose, .int .i64 again, .int .i64 mix, .bool deaf] 55 (0, 0))) := ⟨HW.out.cell, HA.out.box⟩
    refine wp_region_tail (fun W' => W'.heap[K]? = some (.cells #[.int .i64 V.m.no, .int .i64 V.m.ph, .int .i64 V.m.now, .int .i64 V.m.pt, .bool V.m.want, .int .i64 V.m.timer, .int .i64 V.m.pat, .int .i64 V.m.tries, .int .i64 V.m.lim, .bool V.m.gave, .slice pa V.l.length pc, .int .i64 V.s.last, .int .i64 V.s.armed, .int .i64 V.s.point, .bool V.s.want, .int .i64 V.s.left, .int .i64 V.s.pat, dv, uv, ov, .slice qa V.asked.length qc, cv] 52 (0, 0)) ∧ W'.heap[Tb]? = some (.cells #[.int .i64 ask, .bool want, .int .i64 come, .int .i64 lose, .int .i64 again, .int .i64 mix, .bool deaf] 55 (0, 0))) 10 (by kernel_rfl) ?_
    refine wpAnyD_takeAt 0 (some 30) (v := ?_) rfl (by kernel_rfl) (by kernel_rfl) (by kernel_rfl) (by kernel_rfl) (by kernel_rfl) (fun c a w h => HQ.out c _ _ w h) (by exact HS1.out) (fun o hop => ?_) ?_
    rotate_left
    · injection hop with hop
      subst hop
      refine ⟨rfl, fun W' hW => ?_⟩
      have g10 : W'.cell? ⟨K, 10, none⟩ = some (.slice pa V.l.length pc) := (cells_at hW.1 10).trans rfl
      have t0 : W'.cell? ⟨Tb, 0, none⟩ = some (.int .i64 ask) := (cells_at hW.2 0).trans rfl
      go_simp
      first
      | rfl
      | (constructor <;> rfl)
    try simp only [Act.put, List.setIfInBounds_toArray]
    refine wpAnyD_takeAt 1 (some 31) (v := ?_) rfl (by kernel_rfl) (by kernel_rfl) (by kernel_rfl) (by kernel_rfl) (by kernel_rfl) (fun c a w h => HQ.out c _ _ w h) (by exact HS1.out) (fun o hop => ?_) ?_
    rotate_left
    · injection hop with hop
      subst hop
      refine ⟨rfl, fun W' hW => ?_⟩
      have g10 : W'.cell? ⟨K, 10, none⟩ = some (.slice pa V.l.length pc) := (cells_at hW.1 10).trans rfl
      have t0 : W'.cell? ⟨Tb, 0, none⟩ = some (.int .i64 ask) := (cells_at hW.2 0).trans rfl
      go_simp
      first
      | rfl
      | (constructor <;> rfl)
    try simp only [Act.put, List.setIfInBounds_toArray]
    refine wpAnyD_takeAt 2 (some 32) (v := ?_) rfl (by kernel_rfl) (by kernel_rfl) (by kernel_rfl) (by kernel_rfl) (by kernel_rfl) (fun c a w h => HQ.out c _ _ w h) (by exact HS1.out) (fun o hop => ?_) ?_
    rotate_left
    · injection hop with hop
      subst hop
      refine ⟨rfl, fun W' hW => ?_⟩
      have g10 : W'.cell? ⟨K, 10, none⟩ = some (.slice pa V.l.length pc) := (cells_at hW.1 10).trans rfl
      have t0 : W'.cell? ⟨Tb, 0, none⟩ = some (.int .i64 ask) := (cells_at hW.2 0).trans rfl
      go_simp
      first
      | rfl
      | (constructor <;> rfl)
    try simp only [Act.put, List.setIfInBounds_toArray]
    refine wpAnyD_takeAt 3 (some 33) (v := ?_) rfl (by kernel_rfl) (by kernel_rfl) (by kernel_rfl) (by kernel_rfl) (by kernel_rfl) (fun c a w h => HQ.out c _ _ w h) (by exact HS1.out) (fun o hop => ?_) ?_
    rotate_left
    · injection hop with hop
      subst hop
      refine ⟨rfl, fun W' hW => ?_⟩
      have g10 : W'.cell? ⟨K, 10, none⟩ = some (.slice pa V.l.length pc) := (cells_at hW.1 10).trans rfl
      have t0 : W'.cell? ⟨Tb, 0, none⟩ = some (.int .i64 ask) := (cells_at hW.2 0).trans rfl
      go_simp
      first
      | rfl
      | (constructor <;> rfl)
    try simp only [Act.put, List.setIfInBounds_toArray]
    refine wpAnyD_takeAt 4 (some 34) (v := ?_) rfl (by kernel_rfl) (by kernel_rfl) (by kernel_rfl) (by kernel_rfl) (by kernel_rfl) (fun c a w h => HQ.out c _ _ w h) (by exact HS1.out) (fun o hop => ?_) ?_
    rotate_left
    · injection hop with hop
      subst hop
      refine ⟨rfl, fun W' hW => ?_⟩
      have g10 : W'.cell? ⟨K, 10, none⟩ = some (.slice pa V.l.length pc) := (cells_at hW.1 10).trans rfl
      have t0 : W'.cell? ⟨Tb, 0, none⟩ = some (.int .i64 ask) := (cells_at hW.2 0).trans rfl
      go_simp
      first
      | rfl
      | (constructor <;> rfl)
    try simp only [Act.put, List.setIfInBounds_toArray]
    refine wpAnyD_takeAt 5 (some 35) (v := ?_) rfl (by kernel_rfl) (by kernel_rfl) (by kernel_rfl) (by kernel_rfl) (by kernel_rfl) (fun c a w h => HQ.out c _ _ w h) (by exact HS1.out) (fun o hop => ?_) ?_
    rotate_left
    · injection hop with hop
      subst hop
      refine ⟨rfl, fun W' hW => ?_⟩
      have g10 : W'.cell? ⟨K, 10, none⟩ = some (.slice pa V.l.length pc) := (cells_at hW.1 10).trans rfl
      have t0 : W'.cell? ⟨Tb, 0, none⟩ = some (.int .i64 ask) := (cells_at hW.2 0).trans rfl
      go_simp
      first
      | rfl
      | (constructor <;> rfl)
    try simp only [Act.put, List.setIfInBounds_toArray]
    refine wpAnyD_takeAt 6 (some 36) (v := ?_) rfl (by kernel_rfl) (by kernel_rfl) (by kernel_rfl) (by kernel_rfl) (by kernel_rfl) (fun c a w h => HQ.out c _ _ w h) (by exact HS1.out) (fun o hop => ?_) ?_
    rotate_left
    · injection hop with hop
      subst hop
      refine ⟨rfl, fun W' hW => ?_⟩
      have g10 : W'.cell? ⟨K, 10, none⟩ = some (.slice pa V.l.length pc) := (cells_at hW.1 10).trans rfl
      have t0 : W'.cell? ⟨Tb, 0, none⟩ = some (.int .i64 ask) := (cells_at hW.2 0).trans rfl
      go_simp
      first
      | rfl
      | (constructor <;> rfl)
    try simp only [Act.put, List.setIfInBounds_toArray]
    refine wpAnyD_takeAt 7 (some 37) (v := ?_) rfl (by kernel_rfl) (by kernel_rfl) (by kernel_rfl) (by kernel_rfl) (by kernel_rfl) (fun c a w h => HQ.out c _ _ w h) (by exact HS1.out) (fun o hop => ?_) ?_
    rotate_left
    · injection hop with hop
      subst hop
      refine ⟨rfl, fun W' hW => ?_⟩
      have g10 : W'.cell? ⟨K, 10, none⟩ = some (.slice pa V.l.length pc) := (cells_at hW.1 10).trans rfl
      have t0 : W'.cell? ⟨Tb, 0, none⟩ = some (.int .i64 ask) := (cells_at hW.2 0).trans rfl
      go_simp
      first
      | rfl
      | (constructor <;> rfl)
    try simp only [Act.put, List.setIfInBounds_toArray]
    refine wpAnyD_takeAt 8 (some 38) (v := ?_) rfl (by kernel_rfl) (by kernel_rfl) (by kernel_rfl) (by kernel_rfl) (by kernel_rfl) (fun c a w h => HQ.out c _ _ w h) (by exact HS1.out) (fun o hop => ?_) ?_
    rotate_left
    · injection hop with hop
      subst hop
      refine ⟨rfl, fun W' hW => ?_⟩
      have g10 : W'.cell? ⟨K, 10, none⟩ = some (.slice pa V.l.length pc) := (cells_at hW.1 10).trans rfl
      have t0 : W'.cell? ⟨Tb, 0, none⟩ = some (.int .i64 ask) := (cells_at hW.2 0).trans rfl
      go_simp
      first
      | rfl
      | (constructor <;> rfl)
    try simp only [Act.put, List.setIfInBounds_toArray]
    refine wpAnyT_one (i := 9) (by kernel_rfl) rfl rfl (fun K' hK => ?_)
    go_simp
    go_at_call 20
    refine (picked_any (ask.tdiv 2) V.l.length (tdiv_bd (by decide) hsi) HPP.out.2.2.1 HPP.out.2.2.2 z.drew).mono ?_
    rintro e zz ⟨rfl, rfl⟩
    rw [hpp]
    refine hK.out _ _ (fun _ => HS1.out) ?_
    clear hK K'
    try simp only [Act.put, List.setIfInBounds_toArray]
    refine wpAnyT_one (i := 10) (by kernel_rfl) rfl rfl (fun K' hK => ?_)
    go_simp
    refine hK.out _ _ (fun h => absurd rfl h) ?_
    clear hK K'
    try simp only [Act.put, List.setIfInBounds_toArray]
    refine wpAnyT_done (by kernel_rfl) ?_ _
    clear HS1
    have HFN : Hid (WAt z.drew B K V (.slice pa V.l.length pc) dv uv ov (.slice qa V.asked.length qc) cv ∧ TkAt w z.drew B K Tb ⟨ask, want, come, lose, again, mix, deaf⟩ V) := ⟨HW.out.below (Below.refl _ z).drew, HA.out.below (Below.refl _ z).drew⟩
    clear HW HA
    go_upto_region 3 with fail
    refine code_letter (fun q => Hid (WAt q B K V (.slice pa V.l.length pc) dv uv ov (.slice qa V.asked.length qc) cv ∧ TkAt w q B K Tb ⟨ask, want, come, lose, again, mix, deaf⟩ V)) HFN.out ?_
    clear HFN
    intro z5 H5
    have HS1 : Hid (z5.drew.heap[K]? = some (.cells #[.int .i64 V.m.no, .int .i64 V.m.ph, .int .i64 V.m.now, .int .i64 V.m.pt, .bool V.m.want, .int .i64 V.m.timer, .int .i64 V.m.pat, .int .i64 V.m.tries, .int .i64 V.m.lim, .bool V.m.gave, .slice pa V.l.length pc, .int .i64 V.s.last, .int .i64 V.s.armed, .int .i64 V.s.point, .bool V.s.want, .int .i64 V.s.left, .int .i64 V.s.pat, dv, uv, ov, .slice qa V.asked.length qc, cv] 52 (0, 0)) ∧ z5.drew.heap[Tb]? = some (.cells #[.int .i64 ask, .bool want, .int .i64 come, .int .i64 lose, .int .i64 again, .int .i64 mix, .bool deaf] 55 (0, 0))) := ⟨H5.out.1.cell, H5.out.2.box⟩
    refine wp_region_tail (fun W' => W'.heap[K]? = some (.cells #[.int .i64 V.m.no, .int .i64 V.m.ph, .int .i64 V.m.now, .int .i64 V.m.pt, .bool V.m.want, .int .i64 V.m.timer, .int .i64 V.m.pat, .int .i64 V.m.tries, .int .i64 V.m.lim, .bool V.m.gave, .slice pa V.l.length pc, .int .i64 V.s.last, .int .i64 V.s.armed, .int .i64 V.s.point, .bool V.s.want, .int .i64 V.s.left, .int .i64 V.s.pat, dv, uv, ov, .slice qa V.asked.length qc, cv] 52 (0, 0)) ∧ W'.heap[Tb]? = some (.cells #[.int .i64 ask, .bool want, .int .i64 come, .int .i64 lose, .int .i64 again, .int .i64 mix, .bool deaf] 55 (0, 0))) 15 (by kernel_rfl) ?_
    refine wpAnyD_takeAt 0 (some 41) (v := ?_) rfl (by kernel_rfl) (by kernel_rfl) (by kernel_rfl) (by kernel_rfl) (by kernel_rfl) (fun c a w h => HQ.out c _ _ w h) (by exact HS1.out) (fun o hop => ?_) ?_
    rotate_left
    · injection hop with hop
      subst hop
      refine ⟨rfl, fun W' hW => ?_⟩
      obtain ⟨g0, g1, g2, g3, g4, g5, g6, g7, g8, g9⟩ := cellsP10 hW.1
      have t1 : W'.cell? ⟨Tb, 1, none⟩ = some (.bool want) := (cells_at hW.2 1).trans rfl
      go_simp
      first
      | rfl
      | (constructor <;> rfl)
    try simp only [Act.put, List.setIfInBounds_toArray]
    refine wpAnyD_takeAt 1 (some 42) (v := ?_) rfl (by kernel_rfl) (by kernel_rfl) (by kernel_rfl) (by kernel_rfl) (by kernel_rfl) (fun c a w h => HQ.out c _ _ w h) (by exact HS1.out) (fun o hop => ?_) ?_
    rotate_left
    · injection hop with hop
      subst hop
      refine ⟨rfl, fun W' hW => ?_⟩
      obtain ⟨g0, g1, g2, g3, g4, g5, g6, g7, g8, g9⟩ := cellsP10 hW.1
      have t1 : W'.cell? ⟨Tb, 1, none⟩ = some (.bool want) := (cells_at hW.2 1).trans rfl
      go_simp
      first
      | rfl
      | (constructor <;> rfl)
    try simp only [Act.put, List.setIfInBounds_toArray]
    refine wpAnyD_takeAt 2 (some 43) (v := ?_) rfl (by kernel_rfl) (by kernel_rfl) (by kernel_rfl) (by kernel_rfl) (by kernel_rfl) (fun c a w h => HQ.out c _ _ w h) (by exact HS1.out) (fun o hop => ?_) ?_
    rotate_left
    · injection hop with hop
      subst hop
      refine ⟨rfl, fun W' hW => ?_⟩
      obtain ⟨g0, g1, g2, g3, g4, g5, g6, g7, g8, g9⟩ := cellsP10 hW.1
      have t1 : W'.cell? ⟨Tb, 1, none⟩ = some (.bool want) := (cells_at hW.2 1).trans rfl
      go_simp
      first
      | rfl
      | (constructor <;> rfl)
    try simp only [Act.put, List.setIfInBounds_toArray]
    refine wpAnyD_takeAt 3 (some 44) (v := ?_) rfl (by kernel_rfl) (by kernel_rfl) (by kernel_rfl) (by kernel_rfl) (by kernel_rfl) (fun c a w h => HQ.out c _ _ w h) (by exact HS1.out) (fun o hop => ?_) ?_
    rotate_left
    · injection hop with hop
      subst hop
      refine ⟨rfl, fun W' hW => ?_⟩
      obtain ⟨g0, g1, g2, g3, g4, g5, g6, g7, g8, g9⟩ := cellsP10 hW.1
      have t1 : W'.cell? ⟨Tb, 1, none⟩ = some (.bool want) := (cells_at hW.2 1).trans rfl
      go_simp
      first
      | rfl
      | (constructor <;> rfl)
    try simp only [Act.put, List.setIfInBounds_toArray]
    refine wpAnyD_takeAt 4 (some 45) (v := ?_) rfl (by kernel_rfl) (by kernel_rfl) (by kernel_rfl) (by kernel_rfl) (by kernel_rfl) (fun c a w h => HQ.out c _ _ w h) (by exact HS1.out) (fun o hop => ?_) ?_
    rotate_left
    · injection hop with hop
      subst hop
      refine ⟨rfl, fun W' hW => ?_⟩
      obtain ⟨g0, g1, g2, g3, g4, g5, g6, g7, g8, g9⟩ := cellsP10 hW.1
      have t1 : W'.cell? ⟨Tb, 1, none⟩ = some (.bool want) := (cells_at hW.2 1).trans rfl
      go_simp
      first
      | rfl
      | (constructor <;> rfl)
    try simp only [Act.put, List.setIfInBounds_toArray]
    refine wpAnyD_takeAt 5 (some 46) (v := ?_) rfl (by kernel_rfl) (by kernel_rfl) (by kernel_rfl) (by kernel_rfl) (by kernel_rfl) (fun c a w h => HQ.out c _ _ w h) (by exact HS1.out) (fun o hop => ?_) ?_
    rotate_left
    · injection hop with hop
      subst hop
      refine ⟨rfl, fun W' hW => ?_⟩
      obtain ⟨g0, g1, g2, g3, g4, g5, g6, g7, g8, g9⟩ := cellsP10 hW.1
      have t1 : W'.cell? ⟨Tb, 1, none⟩ = some (.bool want) := (cells_at hW.2 1).trans rfl
      go_simp
      first
      | rfl
      | (constructor <;> rfl)
    try simp only [Act.put, List.setIfInBounds_toArray]
    refine wpAnyD_takeAt 6 (some 47) (v := ?_) rfl (by kernel_rfl) (by kernel_rfl) (by kernel_rfl) (by kernel_rfl) (by kernel_rfl) (fun c a w h => HQ.out c _ _ w h) (by exact HS1.out) (fun o hop => ?_) ?_
    rotate_left
    · injection hop with hop
      subst hop
      refine ⟨rfl, fun W' hW => ?_⟩
      obtain ⟨g0, g1, g2, g3, g4, g5, g6, g7, g8, g9⟩ := cellsP10 hW.1
      have t1 : W'.cell? ⟨Tb, 1, none⟩ = some (.bool want) := (cells_at hW.2 1).trans rfl
      go_simp
      first
      | rfl
      | (constructor <;> rfl)
    try simp only [Act.put, List.setIfInBounds_toArray]
    refine wpAnyT_two (i := 7) (j := 12) (by kernel_rfl) rfl rfl rfl rfl (fun K' hK => ?_) (fun K' hK => ?_)
    · go_simp
      go_at_call 12
      refine (HC.out z5.drew).mono ?_
      rintro e z6 ⟨v, rfl, hrb, hb6⟩
      obtain ⟨la, lc, hve⟩ := own_slice hrb
      subst hve
      have hb1 : Below z5.heap.size z5 z6 := ⟨hb6.os, hb6.tape, hb6.output, hb6.size, hb6.block⟩
      have HS4 : Hid (z6.heap[K]? = some (.cells #[.int .i64 V.m.no, .int .i64 V.m.ph, .int .i64 V.m.now, .int .i64 V.m.pt, .bool V.m.want, .int .i64 V.m.timer, .int .i64 V.m.pat, .int .i64 V.m.tries, .int .i64 V.m.lim, .bool V.m.gave, .slice pa V.l.length pc, .int .i64 V.s.last, .int .i64 V.s.armed, .int .i64 V.s.point, .bool V.s.want, .int .i64 V.s.left, .int .i64 V.s.pat, dv, uv, ov, .slice qa V.asked.length qc, cv] 52 (0, 0)) ∧ z6.heap[Tb]? = some (.cells #[.int .i64 ask, .bool want, .int .i64 come, .int .i64 lose, .int .i64 again, .int .i64 mix, .bool deaf] 55 (0, 0))) := ⟨(hb1.block K (lt_heap HS1.out.1)).trans HS1.out.1, (hb1.block Tb (lt_heap HS1.out.2)).trans HS1.out.2⟩
      refine hK.out _ _ (fun _ => HS4.out) ?_
      clear hK K'
      try simp only [Act.put, List.setIfInBounds_toArray]
      refine wpAnyD_takeAt 8 (some 40) (v := ?_) rfl (by kernel_rfl) (by kernel_rfl) (by kernel_rfl) (by kernel_rfl) (by kernel_rfl) (fun c a w h => HQ.out c _ _ w h) (by exact HS4.out) (fun o hop => ?_) ?_
      rotate_left
      · injection hop with hop
        subst hop
        refine ⟨rfl, fun W' hW => ?_⟩
        obtain ⟨g0, g1, g2, g3, g4, g5, g6, g7, g8, g9⟩ := cellsP10 hW.1
        have t1 : W'.cell? ⟨Tb, 1, none⟩ = some (.bool want) := (cells_at hW.2 1).trans rfl
        go_simp
        first
        | rfl
        | (constructor <;> rfl)
      try simp only [Act.put, List.setIfInBounds_toArray]
      refine wpAnyD_takeAt 9 (some 49) (v := ?_) rfl (by kernel_rfl) (by kernel_rfl) (by kernel_rfl) (by kernel_rfl) (by kernel_rfl) (fun c a w h => HQ.out c _ _ w h) (by exact HS4.out) (fun o hop => ?_) ?_
      rotate_left
      · injection hop with hop
        subst hop
        refine ⟨rfl, fun W' hW => ?_⟩
        obtain ⟨g0, g1, g2, g3, g4, g5, g6, g7, g8, g9⟩ := cellsP10 hW.1
        have t1 : W'.cell? ⟨Tb, 1, none⟩ = some (.bool want) := (cells_at hW.2 1).trans rfl
        go_simp
        first
        | rfl
        | (constructor <;> rfl)
      try simp only [Act.put, List.setIfInBounds_toArray]
      refine wpAnyD_takeAt 10 (some 50) (v := ?_) rfl (by kernel_rfl) (by kernel_rfl) (by kernel_rfl) (by kernel_rfl) (by kernel_rfl) (fun c a w h => HQ.out c _ _ w h) (by exact HS4.out) (fun o hop => ?_) ?_
      rotate_left
      · injection hop with hop
        subst hop
        refine ⟨rfl, fun W' hW => ?_⟩
        obtain ⟨g0, g1, g2, g3, g4, g5, g6, g7, g8, g9⟩ := cellsP10 hW.1
        have t1 : W'.cell? ⟨Tb, 1, none⟩ = some (.bool want) := (cells_at hW.2 1).trans rfl
        go_simp
        first
        | rfl
        | (constructor <;> rfl)
      try simp only [Act.put, List.setIfInBounds_toArray]
      refine wpAnyD_takeAt 11 (some 51) (v := ?_) rfl (by kernel_rfl) (by kernel_rfl) (by kernel_rfl) (by kernel_rfl) (by kernel_rfl) (fun c a w h => HQ.out c _ _ w h) (by exact HS4.out) (fun o hop => ?_) ?_
      rotate_left
      · injection hop with hop
        subst hop
        refine ⟨rfl, fun W' hW => ?_⟩
        obtain ⟨g0, g1, g2, g3, g4, g5, g6, g7, g8, g9⟩ := cellsP10 hW.1
        have t1 : W'.cell? ⟨Tb, 1, none⟩ = some (.bool want) := (cells_at hW.2 1).trans rfl
        go_simp
        first
        | rfl
        | (constructor <;> rfl)
      try simp only [Act.put, List.setIfInBounds_toArray]
      have hba := below_al z6 (.cells #[.int .i64 0, .int .i64 0, .int .i64 0, .int .i64 0, .bool false, .int .i64 0, .int .i64 0, .int .i64 0, .int .i64 0, .bool false] 32)
      have HEz := hide' (alloc_new z6 (.cells #[.int .i64 0, .int .i64 0, .int .i64 0, .int .i64 0, .bool false, .int .i64 0, .int .i64 0, .int .i64 0, .int .i64 0, .bool false] 32))
      refine wpAnyT_one (i := 12) (by kernel_rfl) rfl rfl (fun K' hK => ?_)
      go_simp
      have HSz : Hid ((z6.alloc (.cells #[.int .i64 0, .int .i64 0, .int .i64 0, .int .i64 0, .bool false, .int .i64 0, .int .i64 0, .int .i64 0, .int .i64 0, .bool false] 32)).heap[K]? = some (.cells #[.int .i64 V.m.no, .int .i64 V.m.ph, .int .i64 V.m.now, .int .i64 V.m.pt, .bool V.m.want, .int .i64 V.m.timer, .int .i64 V.m.pat, .int .i64 V.m.tries, .int .i64 V.m.lim, .bool V.m.gave, .slice pa V.l.length pc, .int .i64 V.s.last, .int .i64 V.s.armed, .int .i64 V.s.point, .bool V.s.want, .int .i64 V.s.left, .int .i64 V.s.pat, dv, uv, ov, .slice qa V.asked.length qc, cv] 52 (0, 0)) ∧ (z6.alloc (.cells #[.int .i64 0, .int .i64 0, .int .i64 0, .int .i64 0, .bool false, .int .i64 0, .int .i64 0, .int .i64 0, .int .i64 0, .bool false] 32)).heap[Tb]? = some (.cells #[.int .i64 ask, .bool want, .int .i64 come, .int .i64 lose, .int .i64 again, .int .i64 mix, .bool deaf] 55 (0, 0))) := ⟨(hba.block K (lt_heap HS4.out.1)).trans HS4.out.1, (hba.block Tb (lt_heap HS4.out.2)).trans HS4.out.2⟩
      refine hK.out _ _ (fun _ => HSz.out) ?_
      clear hK K'
      try simp only [Act.put, List.setIfInBounds_toArray]
      have HRB := hide' (own_mono (own_below hrb hba (Nat.le_refl _)) (Nat.zero_le _))
      have HLV : Hid (Apart (.slice la os.length lc) dv ∧ Apart (.slice la os.length lc) (.slice qa V.asked.length qc)) := ⟨apart_late H5.out.1.dn hrb, apart_late H5.out.1.ak hrb⟩
      have HWz := hide' ((H5.out.1.below hb1).below hba)
      have HBz := hide' ((H5.out.2.below hb1).below hba)
      obtain ⟨E, hE⟩ : ∃ q, q = z6.heap.size := ⟨_, rfl⟩
      have HEK : Hid (K ≠ E ∧ Tb ≠ E ∧ B ≤ E) := by have q1 := lt_heap HS4.out.1; have q2 := lt_heap HS4.out.2; have q3 := (H5.out.2.below hb1).bs; show _ ∧ _ ∧ _; omega
      obtain ⟨y, hz⟩ : ∃ q, q = z6.alloc (.cells #[.int .i64 0, .int .i64 0, .int .i64 0, .int .i64 0, .bool false, .int .i64 0, .int .i64 0, .int .i64 0, .int .i64 0, .bool false] 32) := ⟨_, rfl⟩
      rw [← hE, ← hz] at HEz
      rw [← hz] at HSz HRB HWz HBz ⊢
      rw [show (Value.pointer (some { block := z6.heap.size, off := 0 })) = Value.pointer (some { block := E, off := 0 }) by rw [hE]]
      clear hE hz hba hrb hb6 hb1 HS4 HS1 H5 HC
      obtain ⟨b0, b1, b2, b3, b4, b5, b6, b7, b8, b9⟩ := cellsP10 HEz.out
      obtain ⟨e0, e1, e2, e3, e4, e5, e6, e7, e8, e9⟩ := frozenP10 HEz.out
      have HPE := hide' (put10 HEz.out (.int .i64 n0) (.int .i64 n1) (.int .i64 n2) (.int .i64 n3) (.bool n4) (.int .i64 n5) (.int .i64 n6) (.int .i64 n7) (.int .i64 n8) (.bool n9))
      have HSF : Hid (((((((((((y.setCell ⟨E, 0, none⟩ (.int .i64 n0)).setCell ⟨E, 1, none⟩ (.int .i64 n1)).setCell ⟨E, 2, none⟩ (.int .i64 n2)).setCell ⟨E, 3, none⟩ (.int .i64 n3)).setCell ⟨E, 4, none⟩ (.bool n4)).setCell ⟨E, 5, none⟩ (.int .i64 n5)).setCell ⟨E, 6, none⟩ (.int .i64 n6)).setCell ⟨E, 7, none⟩ (.int .i64 n7)).setCell ⟨E, 8, none⟩ (.int .i64 n8)).setCell ⟨E, 9, none⟩ (.bool n9)).heap[K]? = some (.cells #[.int .i64 V.m.no, .int .i64 V.m.ph, .int .i64 V.m.now, .int .i64 V.m.pt, .bool V.m.want, .int .i64 V.m.timer, .int .i64 V.m.pat, .int .i64 V.m.tries, .int .i64 V.m.lim, .bool V.m.gave, .slice pa V.l.length pc, .int .i64 V.s.last, .int .i64 V.s.armed, .int .i64 V.s.point, .bool V.s.want, .int .i64 V.s.left, .int .i64 V.s.pat, dv, uv, ov, .slice qa V.asked.length qc, cv] 52 (0, 0)) ∧ ((((((((((y.setCell ⟨E, 0, none⟩ (.int .i64 n0)).setCell ⟨E, 1, none⟩ (.int .i64 n1)).setCell ⟨E, 2, none⟩ (.int .i64 n2)).setCell ⟨E, 3, none⟩ (.int .i64 n3)).setCell ⟨E, 4, none⟩ (.bool n4)).setCell ⟨E, 5, none⟩ (.int .i64 n5)).setCell ⟨E, 6, none⟩ (.int .i64 n6)).setCell ⟨E, 7, none⟩ (.int .i64 n7)).setCell ⟨E, 8, none⟩ (.int .i64 n8)).setCell ⟨E, 9, none⟩ (.bool n9)).heap[Tb]? = some (.cells #[.int .i64 ask, .bool want, .int .i64 come, .int .i64 lose, .int .i64 again, .int .i64 mix, .bool deaf] 55 (0, 0))) := ⟨(HPE.out.2.block K (lt_heap HSz.out.1) HEK.out.1).trans HSz.out.1, (HPE.out.2.block Tb (lt_heap HSz.out.2) HEK.out.2.1).trans HSz.out.2⟩
      have HFN : Hid (((((((((((y.setCell ⟨E, 0, none⟩ (.int .i64 n0)).setCell ⟨E, 1, none⟩ (.int .i64 n1)).setCell ⟨E, 2, none⟩ (.int .i64 n2)).setCell ⟨E, 3, none⟩ (.int .i64 n3)).setCell ⟨E, 4, none⟩ (.bool n4)).setCell ⟨E, 5, none⟩ (.int .i64 n5)).setCell ⟨E, 6, none⟩ (.int .i64 n6)).setCell ⟨E, 7, none⟩ (.int .i64 n7)).setCell ⟨E, 8, none⟩ (.int .i64 n8)).setCell ⟨E, 9, none⟩ (.bool n9)).heap[E]? = some (.cells #[.int .i64 n0, .int .i64 n1, .int .i64 n2, .int .i64 n3, .bool n4, .int .i64 n5, .int .i64 n6, .int .i64 n7, .int .i64 n8, .bool n9] 32 (0, 0)) ∧ ((((((((((y.setCell ⟨E, 0, none⟩ (.int .i64 n0)).setCell ⟨E, 1, none⟩ (.int .i64 n1)).setCell ⟨E, 2, none⟩ (.int .i64 n2)).setCell ⟨E, 3, none⟩ (.int .i64 n3)).setCell ⟨E, 4, none⟩ (.bool n4)).setCell ⟨E, 5, none⟩ (.int .i64 n5)).setCell ⟨E, 6, none⟩ (.int .i64 n6)).setCell ⟨E, 7, none⟩ (.int .i64 n7)).setCell ⟨E, 8, none⟩ (.int .i64 n8)).setCell ⟨E, 9, none⟩ (.bool n9)).ownsRow 0 39 4 (.slice la os.length lc) os.length (msgs os) ∧ WAt ((((((((((y.setCell ⟨E, 0, none⟩ (.int .i64 n0)).setCell ⟨E, 1, none⟩ (.int .i64 n1)).setCell ⟨E, 2, none⟩ (.int .i64 n2)).setCell ⟨E, 3, none⟩ (.int .i64 n3)).setCell ⟨E, 4, none⟩ (.bool n4)).setCell ⟨E, 5, none⟩ (.int .i64 n5)).setCell ⟨E, 6, none⟩ (.int .i64 n6)).setCell ⟨E, 7, none⟩ (.int .i64 n7)).setCell ⟨E, 8, none⟩ (.int .i64 n8)).setCell ⟨E, 9, none⟩ (.bool n9)) B K V (.slice pa V.l.length pc) dv uv ov (.slice qa V.asked.length qc) cv ∧ TkAt w ((((((((((y.setCell ⟨E, 0, none⟩ (.int .i64 n0)).setCell ⟨E, 1, none⟩ (.int .i64 n1)).setCell ⟨E, 2, none⟩ (.int .i64 n2)).setCell ⟨E, 3, none⟩ (.int .i64 n3)).setCell ⟨E, 4, none⟩ (.bool n4)).setCell ⟨E, 5, none⟩ (.int .i64 n5)).setCell ⟨E, 6, none⟩ (.int .i64 n6)).setCell ⟨E, 7, none⟩ (.int .i64 n7)).setCell ⟨E, 8, none⟩ (.int .i64 n8)).setCell ⟨E, 9, none⟩ (.bool n9)) B K Tb ⟨ask, want, come, lose, again, mix, deaf⟩ V) := ⟨HPE.out.1, own_putE HRB.out HEz.out HPE.out.2 (by decide), HWz.out.putE HEz.out HPE.out.2 HEK.out.1 (by decide) (by decide) (by decide), HBz.out.next ⟨_, _, _, _, _, _, HWz.out.putE HEz.out HPE.out.2 HEK.out.1 (by decide) (by decide) (by decide)⟩ (but_bl HPE.out.2 HEz.out (by decide) HEK.out.2.2 HBz.out.bs)⟩
      clear HRB HWz HBz
      refine wpAnyT_one (i := 13) (by kernel_rfl) rfl rfl (fun K' hK => ?_)
      go_simp
      refine hK.out _ _ (fun _ => HSF.out) ?_
      clear hK K'
      try simp only [Act.put, List.setIfInBounds_toArray]
      refine wpAnyT_one (i := 14) (by kernel_rfl) rfl rfl (fun K' hK => ?_)
      go_simp
      refine hK.out _ _ (fun _ => HSF.out) ?_
      clear hK K'
      try simp only [Act.put, List.setIfInBounds_toArray]
      refine wpAnyT_one (i := 15) (by kernel_rfl) rfl rfl (fun K' hK => ?_)
      go_simp
      refine hK.out _ _ (fun h => absurd rfl h) ?_
      clear hK K'
      try simp only [Act.put, List.setIfInBounds_toArray]
      refine wpAnyT_done (by kernel_rfl) ?_ _
      clear b0 b1 b2 b3 b4 b5 b6 b7 b8 b9 e0 e1 e2 e3 e4 e5 e6 e7 e8 e9 HPE HEz HSz HSF
      go_upto_region 4 with fail
      refine code_letter (fun q => Hid (q.heap[E]? = some (.cells #[.int .i64 n0, .int .i64 n1, .int .i64 n2, .int .i64 n3, .bool n4, .int .i64 n5, .int .i64 n6, .int .i64 n7, .int .i64 n8, .bool n9] 32 (0, 0)) ∧ q.ownsRow 0 39 4 (.slice la os.length lc) os.length (msgs os) ∧ WAt q B K V (.slice pa V.l.length pc) dv uv ov (.slice qa V.asked.length qc) cv ∧ TkAt w q B K Tb ⟨ask, want, come, lose, again, mix, deaf⟩ V)) HFN.out ?_
      clear HFN
      intro z7 H7
      go_upto_region 5 with fail
      have HS1 : Hid (z7.drew.heap[K]? = some (.cells #[.int .i64 V.m.no, .int .i64 V.m.ph, .int .i64 V.m.now, .int .i64 V.m.pt, .bool V.m.want, .int .i64 V.m.timer, .int .i64 V.m.pat, .int .i64 V.m.tries, .int .i64 V.m.lim, .bool V.m.gave, .slice pa V.l.length pc, .int .i64 V.s.last, .int .i64 V.s.armed, .int .i64 V.s.point, .bool V.s.want, .int .i64 V.s.left, .int .i64 V.s.pat, dv, uv, ov, .slice qa V.asked.length qc, cv] 52 (0, 0)) ∧ z7.drew.heap[Tb]? = some (.cells #[.int .i64 ask, .bool want, .int .i64 come, .int .i64 lose, .int .i64 again, .int .i64 mix, .bool deaf] 55 (0, 0))) := ⟨H7.out.2.2.1.cell, H7.out.2.2.2.box⟩
      refine wp_region_tail (fun W' => W'.heap[K]? = some (.cells #[.int .i64 V.m.no, .int .i64 V.m.ph, .int .i64 V.m.now, .int .i64 V.m.pt, .bool V.m.want, .int .i64 V.m.timer, .int .i64 V.m.pat, .int .i64 V.m.tries, .int .i64 V.m.lim, .bool V.m.gave, .slice pa V.l.length pc, .int .i64 V.s.last, .int .i64 V.s.armed, .int .i64 V.s.point, .bool V.s.want, .int .i64 V.s.left, .int .i64 V.s.pat, dv, uv, ov, .slice qa V.asked.length qc, cv] 52 (0, 0)) ∧ W'.heap[Tb]? = some (.cells #[.int .i64 ask, .bool want, .int .i64 come, .int .i64 lose, .int .i64 again, .int .i64 mix, .bool deaf] 55 (0, 0))) 18 (by kernel_rfl) ?_
      refine wpAnyD_takeAt 0 (some 54) (v := ?_) rfl (by kernel_rfl) (by kernel_rfl) (by kernel_rfl) (by kernel_rfl) (by kernel_rfl) (fun c a w h => HQ.out c _ _ w h) (by exact HS1.out) (fun o hop => ?_) ?_
      rotate_left
      · injection hop with hop
        subst hop
        refine ⟨rfl, fun W' hW => ?_⟩
        have g20 : W'.cell? ⟨K, 20, none⟩ = some (.slice qa V.asked.length qc) := (cells_at hW.1 20).trans rfl
        have t1 : W'.cell? ⟨Tb, 1, none⟩ = some (.bool want) := (cells_at hW.2 1).trans rfl
        go_simp
        first
        | rfl
        | (constructor <;> rfl)
      try simp only [Act.put, List.setIfInBounds_toArray]
      refine wpAnyD_takeAt 1 (some 55) (v := ?_) rfl (by kernel_rfl) (by kernel_rfl) (by kernel_rfl) (by kernel_rfl) (by kernel_rfl) (fun c a w h => HQ.out c _ _ w h) (by exact HS1.out) (fun o hop => ?_) ?_
      rotate_left
      · injection hop with hop
        subst hop
        refine ⟨rfl, fun W' hW => ?_⟩
        have g20 : W'.cell? ⟨K, 20, none⟩ = some (.slice qa V.asked.length qc) := (cells_at hW.1 20).trans rfl
        have t1 : W'.cell? ⟨Tb, 1, none⟩ = some (.bool want) := (cells_at hW.2 1).trans rfl
        go_simp
        first
        | rfl
        | (constructor <;> rfl)
      try simp only [Act.put, List.setIfInBounds_toArray]
      refine wpAnyD_takeAt 2 (some 56) (v := ?_) rfl (by kernel_rfl) (by kernel_rfl) (by kernel_rfl) (by kernel_rfl) (by kernel_rfl) (fun c a w h => HQ.out c _ _ w h) (by exact HS1.out) (fun o hop => ?_) ?_
      rotate_left
      · injection hop with hop
        subst hop
        refine ⟨rfl, fun W' hW => ?_⟩
        have g20 : W'.cell? ⟨K, 20, none⟩ = some (.slice qa V.asked.length qc) := (cells_at hW.1 20).trans rfl
        have t1 : W'.cell? ⟨Tb, 1, none⟩ = some (.bool want) := (cells_at hW.2 1).trans rfl
        go_simp
        first
        | rfl
        | (constructor <;> rfl)
      try simp only [Act.put, List.setIfInBounds_toArray]
      refine wpAnyD_takeAt 3 (some 57) (v := ?_) rfl (by kernel_rfl) (by kernel_rfl) (by kernel_rfl) (by kernel_rfl) (by kernel_rfl) (fun c a w h => HQ.out c _ _ w h) (by exact HS1.out) (fun o hop => ?_) ?_
      rotate_left
      · injection hop with hop
        subst hop
        refine ⟨rfl, fun W' hW => ?_⟩
        have g20 : W'.cell? ⟨K, 20, none⟩ = some (.slice qa V.asked.length qc) := (cells_at hW.1 20).trans rfl
        have t1 : W'.cell? ⟨Tb, 1, none⟩ = some (.bool want) := (cells_at hW.2 1).trans rfl
        go_simp
        first
        | rfl
        | (constructor <;> rfl)
      try simp only [Act.put, List.setIfInBounds_toArray]
      refine wpAnyD_takeAt 4 (some 58) (v := ?_) rfl (by kernel_rfl) (by kernel_rfl) (by kernel_rfl) (by kernel_rfl) (by kernel_rfl) (fun c a w h => HQ.out c _ _ w h) (by exact HS1.out) (fun o hop => ?_) ?_
      rotate_left
      · injection hop with hop
        subst hop
        refine ⟨rfl, fun W' hW => ?_⟩
        have g20 : W'.cell? ⟨K, 20, none⟩ = some (.slice qa V.asked.length qc) := (cells_at hW.1 20).trans rfl
        have t1 : W'.cell? ⟨Tb, 1, none⟩ = some (.bool want) := (cells_at hW.2 1).trans rfl
        go_simp
        first
        | rfl
        | (constructor <;> rfl)
      try simp only [Act.put, List.setIfInBounds_toArray]
      refine wpAnyD_takeAt 5 (some 59) (v := ?_) rfl (by kernel_rfl) (by kernel_rfl) (by kernel_rfl) (by kernel_rfl) (by kernel_rfl) (fun c a w h => HQ.out c _ _ w h) (by exact HS1.out) (fun o hop => ?_) ?_
      rotate_left
      · injection hop with hop
        subst hop
        refine ⟨rfl, fun W' hW => ?_⟩
        have g20 : W'.cell? ⟨K, 20, none⟩ = some (.slice qa V.asked.length qc) := (cells_at hW.1 20).trans rfl
        have t1 : W'.cell? ⟨Tb, 1, none⟩ = some (.bool want) := (cells_at hW.2 1).trans rfl
        go_simp
        first
        | rfl
        | (constructor <;> rfl)
      try simp only [Act.put, List.setIfInBounds_toArray]
      refine wpAnyD_takeAt 6 (some 60) (v := ?_) rfl (by kernel_rfl) (by kernel_rfl) (by kernel_rfl) (by kernel_rfl) (by kernel_rfl) (fun c a w h => HQ.out c _ _ w h) (by exact HS1.out) (fun o hop => ?_) ?_
      rotate_left
      · injection hop with hop
        subst hop
        refine ⟨rfl, fun W' hW => ?_⟩
        have g20 : W'.cell? ⟨K, 20, none⟩ = some (.slice qa V.asked.length qc) := (cells_at hW.1 20).trans rfl
        have t1 : W'.cell? ⟨Tb, 1, none⟩ = some (.bool want) := (cells_at hW.2 1).trans rfl
        go_simp
        first
        | rfl
        | (constructor <;> rfl)
      try simp only [Act.put, List.setIfInBounds_toArray]
      refine wpAnyD_takeAt 7 (some 61) (v := ?_) rfl (by kernel_rfl) (by kernel_rfl) (by kernel_rfl) (by kernel_rfl) (by kernel_rfl) (fun c a w h => HQ.out c _ _ w h) (by exact HS1.out) (fun o hop => ?_) ?_
      rotate_left
      · injection hop with hop
        subst hop
        refine ⟨rfl, fun W' hW => ?_⟩
        have g20 : W'.cell? ⟨K, 20, none⟩ = some (.slice qa V.asked.length qc) := (cells_at hW.1 20).trans rfl
        have t1 : W'.cell? ⟨Tb, 1, none⟩ = some (.bool want) := (cells_at hW.2 1).trans rfl
        go_simp
        first
        | rfl
        | (constructor <;> rfl)
      try simp only [Act.put, List.setIfInBounds_toArray]
      refine wpAnyD_takeAt 8 (some 62) (v := ?_) rfl (by kernel_rfl) (by kernel_rfl) (by kernel_rfl) (by kernel_rfl) (by kernel_rfl) (fun c a w h => HQ.out c _ _ w h) (by exact HS1.out) (fun o hop => ?_) ?_
      rotate_left
      · injection hop with hop
        subst hop
        refine ⟨rfl, fun W' hW => ?_⟩
        have g20 : W'.cell? ⟨K, 20, none⟩ = some (.slice qa V.asked.length qc) := (cells_at hW.1 20).trans rfl
        have t1 : W'.cell? ⟨Tb, 1, none⟩ = some (.bool want) := (cells_at hW.2 1).trans rfl
        go_simp
        first
        | rfl
        | (constructor <;> rfl)
      try simp only [Act.put, List.setIfInBounds_toArray]
      refine wpAnyD_takeAt 9 (some 63) (v := ?_) rfl (by kernel_rfl) (by kernel_rfl) (by kernel_rfl) (by kernel_rfl) (by kernel_rfl) (fun c a w h => HQ.out c _ _ w h) (by exact HS1.out) (fun o hop => ?_) ?_
      rotate_left
      · injection hop with hop
        subst hop
        refine ⟨rfl, fun W' hW => ?_⟩
        have g20 : W'.cell? ⟨K, 20, none⟩ = some (.slice qa V.asked.length qc) := (cells_at hW.1 20).trans rfl
        have t1 : W'.cell? ⟨Tb, 1, none⟩ = some (.bool want) := (cells_at hW.2 1).trans rfl
        go_simp
        first
        | rfl
        | (constructor <;> rfl)
      try simp only [Act.put, List.setIfInBounds_toArray]
      refine wpAnyD_takeAt 10 (some 64) (v := ?_) rfl (by kernel_rfl) (by kernel_rfl) (by kernel_rfl) (by kernel_rfl) (by kernel_rfl) (fun c a w h => HQ.out c _ _ w h) (by exact HS1.out) (fun o hop => ?_) ?_
      rotate_left
      · injection hop with hop
        subst hop
        refine ⟨rfl, fun W' hW => ?_⟩
        have g20 : W'.cell? ⟨K, 20, none⟩ = some (.slice qa V.asked.length qc) := (cells_at hW.1 20).trans rfl
        have t1 : W'.cell? ⟨Tb, 1, none⟩ = some (.bool want) := (cells_at hW.2 1).trans rfl
        go_simp
        first
        | rfl
        | (constructor <;> rfl)
      try simp only [Act.put, List.setIfInBounds_toArray]
      refine wpAnyD_takeAt 11 (some 65) (v := ?_) rfl (by kernel_rfl) (by kernel_rfl) (by kernel_rfl) (by kernel_rfl) (by kernel_rfl) (fun c a w h => HQ.out c _ _ w h) (by exact HS1.out) (fun o hop => ?_) ?_
      rotate_left
      · injection hop with hop
        subst hop
        refine ⟨rfl, fun W' hW => ?_⟩
        have g20 : W'.cell? ⟨K, 20, none⟩ = some (.slice qa V.asked.length qc) := (cells_at hW.1 20).trans rfl
        have t1 : W'.cell? ⟨Tb, 1, none⟩ = some (.bool want) := (cells_at hW.2 1).trans rfl
        go_simp
        first
        | rfl
        | (constructor <;> rfl)
      try simp only [Act.put, List.setIfInBounds_toArray]
      refine wpAnyD_takeAt 12 (some 66) (v := ?_) rfl (by kernel_rfl) (by kernel_rfl) (by kernel_rfl) (by kernel_rfl) (by kernel_rfl) (fun c a w h => HQ.out c _ _ w h) (by exact HS1.out) (fun o hop => ?_) ?_
      rotate_left
      · injection hop with hop
        subst hop
        refine ⟨rfl, fun W' hW => ?_⟩
        have g20 : W'.cell? ⟨K, 20, none⟩ = some (.slice qa V.asked.length qc) := (cells_at hW.1 20).trans rfl
        have t1 : W'.cell? ⟨Tb, 1, none⟩ = some (.bool want) := (cells_at hW.2 1).trans rfl
        go_simp
        first
        | rfl
        | (constructor <;> rfl)
      try simp only [Act.put, List.setIfInBounds_toArray]
      refine wpAnyD_takeAt 13 (some 67) (v := ?_) rfl (by kernel_rfl) (by kernel_rfl) (by kernel_rfl) (by kernel_rfl) (by kernel_rfl) (fun c a w h => HQ.out c _ _ w h) (by exact HS1.out) (fun o hop => ?_) ?_
      rotate_left
      · injection hop with hop
        subst hop
        refine ⟨rfl, fun W' hW => ?_⟩
        have g20 : W'.cell? ⟨K, 20, none⟩ = some (.slice qa V.asked.length qc) := (cells_at hW.1 20).trans rfl
        have t1 : W'.cell? ⟨Tb, 1, none⟩ = some (.bool want) := (cells_at hW.2 1).trans rfl
        go_simp
        first
        | rfl
        | (constructor <;> rfl)
      try simp only [Act.put, List.setIfInBounds_toArray]
      have hba := below_al z7.drew (.cells #[.int .i64 0, .int .i64 (V.asked.length : Int), .int .i64 pp, .bool want] 39)
      have hb1 : Below z7.heap.size z7 (z7.drew.alloc (.cells #[.int .i64 0, .int .i64 (V.asked.length : Int), .int .i64 pp, .bool want] 39)) := (Below.refl _ z7).drew.trans hba
      have HNW := hide' (alloc_new z7.drew (.cells #[.int .i64 0, .int .i64 (V.asked.length : Int), .int .i64 pp, .bool want] 39))
      have HS2 : Hid ((z7.drew.alloc (.cells #[.int .i64 0, .int .i64 (V.asked.length : Int), .int .i64 pp, .bool want] 39)).heap[K]? = some (.cells #[.int .i64 V.m.no, .int .i64 V.m.ph, .int .i64 V.m.now, .int .i64 V.m.pt, .bool V.m.want, .int .i64 V.m.timer, .int .i64 V.m.pat, .int .i64 V.m.tries, .int .i64 V.m.lim, .bool V.m.gave, .slice pa V.l.length pc, .int .i64 V.s.last, .int .i64 V.s.armed, .int .i64 V.s.point, .bool V.s.want, .int .i64 V.s.left, .int .i64 V.s.pat, dv, uv, ov, .slice qa V.asked.length qc, cv] 52 (0, 0)) ∧ (z7.drew.alloc (.cells #[.int .i64 0, .int .i64 (V.asked.length : Int), .int .i64 pp, .bool want] 39)).heap[Tb]? = some (.cells #[.int .i64 ask, .bool want, .int .i64 come, .int .i64 lose, .int .i64 again, .int .i64 mix, .bool deaf] 55 (0, 0))) := ⟨(hb1.block K (lt_heap HS1.out.1)).trans HS1.out.1, (hb1.block Tb (lt_heap HS1.out.2)).trans HS1.out.2⟩
      refine wpAnyT_one (i := 14) (by kernel_rfl) rfl rfl (fun K' hK => ?_)
      go_simp
      refine hK.out _ _ (fun _ => HS2.out) ?_
      clear hK K'
      try simp only [Act.put, List.setIfInBounds_toArray]
      refine wpAnyT_letter (fun q => Hid (q.heap[z7.heap.size]? = some (.cells #[.int .i64 0, .int .i64 (V.asked.length : Int), .int .i64 pp, .bool want] 39 (0, 0)) ∧ q.heap[E]? = some (.cells #[.int .i64 n0, .int .i64 n1, .int .i64 n2, .int .i64 n3, .bool n4, .int .i64 n5, .int .i64 n6, .int .i64 n7, .int .i64 n8, .bool n9] 32 (0, 0)) ∧ q.ownsRow 0 39 4 (.slice la os.length lc) os.length (msgs os) ∧ WAt q B K V (.slice pa V.l.length pc) dv uv ov (.slice qa V.asked.length qc) cv ∧ TkAt w q B K Tb ⟨ask, want, come, lose, again, mix, deaf⟩ V)) ⟨HNW.out, (hb1.block E (lt_heap H7.out.1)).trans H7.out.1, own_below H7.out.2.1 hb1 (Nat.le_refl _), H7.out.2.2.1.below hb1, H7.out.2.2.2.below hb1⟩ ?_
      clear HNW HS2 HS1 hba hb1 H7
      intro z1 H1
      have hs1 : B ≤ z1.heap.size := H1.out.2.2.2.2.bs
      have HDN : Hid (z1.ownsRow B 39 4 (.slice qa V.asked.length qc) V.asked.length (msgs V.asked)) := H1.out.2.2.2.1.ak
      refine wpAnyT_one (i := 15) (by kernel_rfl) rfl rfl (fun K' hK => ?_)
      refine step_append_anyAt rfl _ _ 33 rfl B 39 i39 _ 4 32 Try.underlying33 hi39 h390 h391 h392 rfl (by decide) _ _ _ rfl HDN.out _ 1 [.int .i64 0, .int .i64 (V.asked.length : Int), .int .i64 pp, .bool want] rfl (row_one4 H1.out.1) (by intro u hu; simp at hu; rcases hu with rfl | rfl | rfl | rfl <;> rfl) (by unfold maxLen; omega) (by omega) hs1 ?_
      intro v2 z2 ho2 hg2 ha2
      have HT3 := hide' (WAt.ak' H1.out.2.2.2.1 (d := V.asked ++ [⟨0, V.asked.length, pp, want⟩]) (by rw [msgs_app]; exact ho2) (by rw [List.length_append]; rfl) hg2 ha2)
      obtain ⟨va2, vc2, hve2⟩ := own_slice ho2
      subst hve2
      have HKE := hide' (KeepE.grown HDN.out hg2)
      have HC2 : Hid (z2.heap[K]? = some (.cells #[.int .i64 V.m.no, .int .i64 V.m.ph, .int .i64 V.m.now, .int .i64 V.m.pt, .bool V.m.want, .int .i64 V.m.timer, .int .i64 V.m.pat, .int .i64 V.m.tries, .int .i64 V.m.lim, .bool V.m.gave, .slice pa V.l.length pc, .int .i64 V.s.last, .int .i64 V.s.armed, .int .i64 V.s.point, .bool V.s.want, .int .i64 V.s.left, .int .i64 V.s.pat, dv, uv, ov, .slice qa V.asked.length qc, cv] 52 (0, 0)) ∧ z2.heap[Tb]? = some (.cells #[.int .i64 ask, .bool want, .int .i64 come, .int .i64 lose, .int .i64 again, .int .i64 mix, .bool deaf] 55 (0, 0))) := ⟨(HKE.out K _ 52 (0, 0) H1.out.2.2.2.1.cell (by decide)).trans H1.out.2.2.2.1.cell, (HKE.out Tb _ 55 (0, 0) H1.out.2.2.2.2.box (by decide)).trans H1.out.2.2.2.2.box⟩
      have k20 : z2.cell? ⟨K, 20, none⟩ = some (.slice qa V.asked.length qc) := (cells_at HC2.out.1 20).trans rfl
      have e20 : z2.frozen? ⟨K, 20, none⟩ = false := frozen_no HC2.out.1 _
      have HF : Hid ((z2.setCell ⟨K, 20, none⟩ (.slice va2 (V.asked.length + 1) vc2)).heap[E]? = some (.cells #[.int .i64 n0, .int .i64 n1, .int .i64 n2, .int .i64 n3, .bool n4, .int .i64 n5, .int .i64 n6, .int .i64 n7, .int .i64 n8, .bool n9] 32 (0, 0)) ∧ (z2.setCell ⟨K, 20, none⟩ (.slice va2 (V.asked.length + 1) vc2)).ownsRow 0 39 4 (.slice la os.length lc) os.length (msgs os) ∧ WAt (z2.setCell ⟨K, 20, none⟩ (.slice va2 (V.asked.length + 1) vc2)) B K ⟨V.m, V.l, V.s, V.down, V.up, V.old, V.asked ++ [(⟨0, (V.asked.length : Int), pp, want⟩ : MsM)], V.acted⟩ (.slice pa V.l.length pc) dv uv ov (.slice va2 (V.asked.length + 1) vc2) cv ∧ TkAt w (z2.setCell ⟨K, 20, none⟩ (.slice va2 (V.asked.length + 1) vc2)) B K Tb ⟨ask, want, come, lose, again, mix, deaf⟩ ⟨V.m, V.l, V.s, V.down, V.up, V.old, V.asked ++ [(⟨0, (V.asked.length : Int), pp, want⟩ : MsM)], V.acted⟩) := ⟨(keep_set HC2.out.1 20 _ E _ 32 (0, 0) ((HKE.out E _ 32 (0, 0) H1.out.2.1 (by decide)).trans H1.out.2.1) (by decide)).trans ((HKE.out E _ 32 (0, 0) H1.out.2.1 (by decide)).trans H1.out.2.1), own_keep (own_other H1.out.2.2.1 (fun k ek => hg2.block k (own_lt H1.out.2.2.1 ek) (fun e => HLV.out.2 k ek e.symm))) (keep_set HC2.out.1 20 _) (by decide), HT3.out.1, H1.out.2.2.2.2.next ⟨_, _, _, _, _, _, HT3.out.1⟩ HT3.out.2⟩
      refine hK.out _ _ (fun _ => HC2.out) ?_
      clear hK K' ho2 hg2 ha2 HDN HT3 HKE H1
      try simp only [Act.put, List.setIfInBounds_toArray]
      refine wpAnyD_takeAt 16 (some 70) (v := ?_) rfl (by kernel_rfl) (by kernel_rfl) (by kernel_rfl) (by kernel_rfl) (by kernel_rfl) (fun c a w h => HQ.out c _ _ w h) (by exact HC2.out) (fun o hop => ?_) ?_
      rotate_left
      · injection hop with hop
        subst hop
        refine ⟨rfl, fun W' hW => ?_⟩
        have g20 : W'.cell? ⟨K, 20, none⟩ = some (.slice qa V.asked.length qc) := (cells_at hW.1 20).trans rfl
        have t1 : W'.cell? ⟨Tb, 1, none⟩ = some (.bool want) := (cells_at hW.2 1).trans rfl
        go_simp
        first
        | rfl
        | (constructor <;> rfl)
      try simp only [Act.put]
      refine wpAnyD_takeAt 17 (some 71) (v := ?_) rfl (by kernel_rfl) (by kernel_rfl) (by kernel_rfl) (by kernel_rfl) (by kernel_rfl) (fun c a w h => HQ.out c _ _ w h) (by exact HC2.out) (fun o hop => ?_) ?_
      rotate_left
      · injection hop with hop
        subst hop
        refine ⟨rfl, fun W' hW => ?_⟩
        have g20 : W'.cell? ⟨K, 20, none⟩ = some (.slice qa V.asked.length qc) := (cells_at hW.1 20).trans rfl
        have t1 : W'.cell? ⟨Tb, 1, none⟩ = some (.bool want) := (cells_at hW.2 1).trans rfl
        go_simp
        first
        | rfl
        | (constructor <;> rfl)
      try simp only [Act.put]
      refine wpAnyT_one (i := 18) (by kernel_rfl) rfl rfl (fun K' hK => ?_)
      go_simp
      refine hK.out _ _ (fun h => absurd rfl h) ?_
      clear hK K' k20 e20 HC2
      try simp only [Act.put, List.setIfInBounds_toArray]
      refine wpAnyT_done (by kernel_rfl) ?_ _
      go_upto_region 6 with fail
      refine code_letter (fun q => Hid (q.heap[E]? = some (.cells #[.int .i64 n0, .int .i64 n1, .int .i64 n2, .int .i64 n3, .bool n4, .int .i64 n5, .int .i64 n6, .int .i64 n7, .int .i64 n8, .bool n9] 32 (0, 0)) ∧ q.ownsRow 0 39 4 (.slice la os.length lc) os.length (msgs os) ∧ WAt q B K ⟨V.m, V.l, V.s, V.down, V.up, V.old, V.asked ++ [(⟨0, (V.asked.length : Int), pp, want⟩ : MsM)], V.acted⟩ (.slice pa V.l.length pc) dv uv ov (.slice va2 (V.asked.length + 1) vc2) cv ∧ TkAt w q B K Tb ⟨ask, want, come, lose, again, mix, deaf⟩ ⟨V.m, V.l, V.s, V.down, V.up, V.old, V.asked ++ [(⟨0, (V.asked.length : Int), pp, want⟩ : MsM)], V.acted⟩)) HF.out ?_
      clear HF HEK
      intro z8 H8
      obtain ⟨b0, b1, b2, b3, b4, b5, b6, b7, b8, b9⟩ := cellsP10 H8.out.1
      go_wp2_with fail
      refine (sent_any ⟨V.m, V.l, V.s, V.down, V.up, V.old, V.asked ++ [(⟨0, (V.asked.length : Int), pp, want⟩ : MsM)], V.acted⟩ B K (.slice pa V.l.length pc) dv uv ov _ cv (.slice la os.length lc) ⟨n0, n1, n2, n3, n4, n5, n6, n7, n8, n9⟩ os z8 H8.out.2.2.1 H8.out.2.1 HLV.out.1 ⟨by show V.down.length ≤ _; omega, by show V.old.length ≤ _; omega, HMM.out⟩).mono ?_
      rintro e z9 ⟨rfl, ⟨dv', ov', q1⟩, q2⟩
      have HF : Hid (TkAt w z9 B K Tb ⟨ask, want, come, lose, again, mix, deaf⟩ (askW V ⟨ask, want, come, lose, again, mix, deaf⟩)) := by
        show TkAt w _ B K Tb _ _
        rw [HAK.out]
        exact H8.out.2.2.2.next ⟨_, _, _, _, _, _, q1⟩ q2
      clear q1 q2 H8 b0 b1 b2 b3 b4 b5 b6 b7 b8 b9 HLV
      go_wp2_with fail
      refine HKn.out _ _ ?_
      exact HT2.out _ _ _ _ _ _ _ _ _ _ _ _ _ _ _ _ _ _ _ _ _ _ _ _ _ _ _ _ _ _ _ _ _ _ _ _ _ _ _ _ _ _ _ _ _ _ _ _ _ _ _ _ _ _ _ _ _ _ _ _ _ _ _ _ _ _ _ _ _ _ _ _ _ _ _ _ _ _ _ _ _ _ _ _ _ _ _ _ _ _ _ _ _ _ _ _ _ _ _ _ _ _ _ _ _ _ _ _ _ _ _ _ _ _ _ _ _ _ _ _ _ _ _ _ _ _ _ _ _ _ _ _ _ _ _ _ _ _ _ _ _ _ _ _ _ _ _ _ _ _ _ _ _ _ _ _ _ _ _ _ _ _ _ _ _ _ _ _ _ _ _ _ _ _ _ _ _ _ _ _ _ _ _ _ _ _ _ _ _ _ _ _ _ _ _ _ _ _ _ _ _ _ _ _ _ _ _ _ _ _ _ _ _ _ _ _ _ _ _ _ _ _ _ _ _ _ _ _ _ _ _ _ HF.out
    · go_simp
      have hba := below_al z5.drew (.cells #[.int .i64 0, .int .i64 0, .int .i64 0, .int .i64 0, .bool false, .int .i64 0, .int .i64 0, .int .i64 0, .int .i64 0, .bool false] 32)
      have hb1 : Below z5.heap.size z5 (z5.drew.alloc (.cells #[.int .i64 0, .int .i64 0, .int .i64 0, .int .i64 0, .bool false, .int .i64 0, .int .i64 0, .int .i64 0, .int .i64 0, .bool false] 32)) := (Below.refl _ z5).drew.trans hba
      have HEq := hide' (alloc_new z5.drew (.cells #[.int .i64 0, .int .i64 0, .int .i64 0, .int .i64 0, .bool false, .int .i64 0, .int .i64 0, .int .i64 0, .int .i64 0, .bool false] 32))
      have HSq : Hid ((z5.drew.alloc (.cells #[.int .i64 0, .int .i64 0, .int .i64 0, .int .i64 0, .bool false, .int .i64 0, .int .i64 0, .int .i64 0, .int .i64 0, .bool false] 32)).heap[K]? = some (.cells #[.int .i64 V.m.no, .int .i64 V.m.ph, .int .i64 V.m.now, .int .i64 V.m.pt, .bool V.m.want, .int .i64 V.m.timer, .int .i64 V.m.pat, .int .i64 V.m.tries, .int .i64 V.m.lim, .bool V.m.gave, .slice pa V.l.length pc, .int .i64 V.s.last, .int .i64 V.s.armed, .int .i64 V.s.point, .bool V.s.want, .int .i64 V.s.left, .int .i64 V.s.pat, dv, uv, ov, .slice qa V.asked.length qc, cv] 52 (0, 0)) ∧ (z5.drew.alloc (.cells #[.int .i64 0, .int .i64 0, .int .i64 0, .int .i64 0, .bool false, .int .i64 0, .int .i64 0, .int .i64 0, .int .i64 0, .bool false] 32)).heap[Tb]? = some (.cells #[.int .i64 ask, .bool want, .int .i64 come, .int .i64 lose, .int .i64 again, .int .i64 mix, .bool deaf] 55 (0, 0))) := ⟨(hba.block K (lt_heap HS1.out.1)).trans HS1.out.1, (hba.block Tb (lt_heap HS1.out.2)).trans HS1.out.2⟩
      refine hK.out _ _ (fun _ => HSq.out) ?_
      clear hK K'
      try simp only [Act.put, List.setIfInBounds_toArray]
      obtain ⟨E, hE⟩ : ∃ q, q = z5.heap.size := ⟨_, rfl⟩
      have HEK : Hid (K ≠ E ∧ Tb ≠ E ∧ B ≤ E) := by have q1 := lt_heap HS1.out.1; have q2 := lt_heap HS1.out.2; have q3 := H5.out.2.bs; have q4 : z5.drew.heap.size = z5.heap.size := rfl; show _ ∧ _ ∧ _; omega
      have HEq2 : Hid ((z5.drew.alloc (.cells #[.int .i64 0, .int .i64 0, .int .i64 0, .int .i64 0, .bool false, .int .i64 0, .int .i64 0, .int .i64 0, .int .i64 0, .bool false] 32)).heap[E]? = some (.cells #[.int .i64 0, .int .i64 0, .int .i64 0, .int .i64 0, .bool false, .int .i64 0, .int .i64 0, .int .i64 0, .int .i64 0, .bool false] 32 (0, 0))) := by rw [hE]; exact HEq.out
      rw [show (Value.pointer (some { block := z5.heap.size, off := 0 })) = Value.pointer (some { block := E, off := 0 }) by rw [hE]]
      refine wpAnyT_letter (fun z => Hid (Below z5.heap.size z5 z ∧ z.heap[E]? = some (.cells #[.int .i64 0, .int .i64 0, .int .i64 0, .int .i64 0, .bool false, .int .i64 0, .int .i64 0, .int .i64 0, .int .i64 0, .bool false] 32 (0, 0)) ∧ (z.heap[K]? = some (.cells #[.int .i64 V.m.no, .int .i64 V.m.ph, .int .i64 V.m.now, .int .i64 V.m.pt, .bool V.m.want, .int .i64 V.m.timer, .int .i64 V.m.pat, .int .i64 V.m.tries, .int .i64 V.m.lim, .bool V.m.gave, .slice pa V.l.length pc, .int .i64 V.s.last, .int .i64 V.s.armed, .int .i64 V.s.point, .bool V.s.want, .int .i64 V.s.left, .int .i64 V.s.pat, dv, uv, ov, .slice qa V.asked.length qc, cv] 52 (0, 0)) ∧ z.heap[Tb]? = some (.cells #[.int .i64 ask, .bool want, .int .i64 come, .int .i64 lose, .int .i64 again, .int .i64 mix, .bool deaf] 55 (0, 0))))) ⟨hb1, HEq2.out, HSq.out⟩ ?_
      clear HSq HEq2 HEq hE hba hb1
      intro z6 HZ
      have HSq := hide' HZ.out.2.2
      refine wpAnyT_one (i := 7) (by kernel_rfl) rfl rfl (fun K' hK => ?_)
      go_simp
      go_at_call 12
      refine (HC.out z6).mono ?_
      rintro e y ⟨v, rfl, hrb, hb6⟩
      obtain ⟨la, lc, hve⟩ := own_slice hrb
      subst hve
      have HSz : Hid (y.heap[K]? = some (.cells #[.int .i64 V.m.no, .int .i64 V.m.ph, .int .i64 V.m.now, .int .i64 V.m.pt, .bool V.m.want, .int .i64 V.m.timer, .int .i64 V.m.pat, .int .i64 V.m.tries, .int .i64 V.m.lim, .bool V.m.gave, .slice pa V.l.length pc, .int .i64 V.s.last, .int .i64 V.s.armed, .int .i64 V.s.point, .bool V.s.want, .int .i64 V.s.left, .int .i64 V.s.pat, dv, uv, ov, .slice qa V.asked.length qc, cv] 52 (0, 0)) ∧ y.heap[Tb]? = some (.cells #[.int .i64 ask, .bool want, .int .i64 come, .int .i64 lose, .int .i64 again, .int .i64 mix, .bool deaf] 55 (0, 0))) := ⟨(hb6.block K (lt_heap HSq.out.1)).trans HSq.out.1, (hb6.block Tb (lt_heap HSq.out.2)).trans HSq.out.2⟩
      refine hK.out _ _ (fun _ => HSz.out) ?_
      clear hK K'
      try simp only [Act.put, List.setIfInBounds_toArray]
      refine wpAnyD_takeAt 8 (some 40) (v := ?_) rfl (by kernel_rfl) (by kernel_rfl) (by kernel_rfl) (by kernel_rfl) (by kernel_rfl) (fun c a w h => HQ.out c _ _ w h) (by exact HSz.out) (fun o hop => ?_) ?_
      rotate_left
      · injection hop with hop
        subst hop
        refine ⟨rfl, fun W' hW => ?_⟩
        obtain ⟨g0, g1, g2, g3, g4, g5, g6, g7, g8, g9⟩ := cellsP10 hW.1
        have t1 : W'.cell? ⟨Tb, 1, none⟩ = some (.bool want) := (cells_at hW.2 1).trans rfl
        go_simp
        first
        | rfl
        | (constructor <;> rfl)
      try simp only [Act.put, List.setIfInBounds_toArray]
      refine wpAnyD_takeAt 9 (some 49) (v := ?_) rfl (by kernel_rfl) (by kernel_rfl) (by kernel_rfl) (by kernel_rfl) (by kernel_rfl) (fun c a w h => HQ.out c _ _ w h) (by exact HSz.out) (fun o hop => ?_) ?_
      rotate_left
      · injection hop with hop
        subst hop
        refine ⟨rfl, fun W' hW => ?_⟩
        obtain ⟨g0, g1, g2, g3, g4, g5, g6, g7, g8, g9⟩ := cellsP10 hW.1
        have t1 : W'.cell? ⟨Tb, 1, none⟩ = some (.bool want) := (cells_at hW.2 1).trans rfl
        go_simp
        first
        | rfl
        | (constructor <;> rfl)
      try simp only [Act.put, List.setIfInBounds_toArray]
      refine wpAnyD_takeAt 10 (some 50) (v := ?_) rfl (by kernel_rfl) (by kernel_rfl) (by kernel_rfl) (by kernel_rfl) (by kernel_rfl) (fun c a w h => HQ.out c _ _ w h) (by exact HSz.out) (fun o hop => ?_) ?_
      rotate_left
      · injection hop with hop
        subst hop
        refine ⟨rfl, fun W' hW => ?_⟩
        obtain ⟨g0, g1, g2, g3, g4, g5, g6, g7, g8, g9⟩ := cellsP10 hW.1
        have t1 : W'.cell? ⟨Tb, 1, none⟩ = some (.bool want) := (cells_at hW.2 1).trans rfl
        go_simp
        first
        | rfl
        | (constructor <;> rfl)
      try simp only [Act.put, List.setIfInBounds_toArray]
      refine wpAnyD_takeAt 11 (some 51) (v := ?_) rfl (by kernel_rfl) (by kernel_rfl) (by kernel_rfl) (by kernel_rfl) (by kernel_rfl) (fun c a w h => HQ.out c _ _ w h) (by exact HSz.out) (fun o hop => ?_) ?_
      rotate_left
      · injection hop with hop
        subst hop
        refine ⟨rfl, fun W' hW => ?_⟩
        obtain ⟨g0, g1, g2, g3, g4, g5, g6, g7, g8, g9⟩ := cellsP10 hW.1
        have t1 : W'.cell? ⟨Tb, 1, none⟩ = some (.bool want) := (cells_at hW.2 1).trans rfl
        go_simp
        first
        | rfl
        | (constructor <;> rfl)
      try simp only [Act.put, List.setIfInBounds_toArray]
      have HEz := hide' ((hb6.block E (lt_heap HZ.out.2.1)).trans HZ.out.2.1)
      have HRB := hide' (own_mono hrb (Nat.zero_le _))
      have HWz := hide' ((H5.out.1.below HZ.out.1).below hb6)
      have HBz := hide' ((H5.out.2.below HZ.out.1).below hb6)
      have HLV : Hid (Apart (.slice la os.length lc) dv ∧ Apart (.slice la os.length lc) (.slice qa V.asked.length qc)) := ⟨apart_late (H5.out.1.below HZ.out.1).dn hrb, apart_late (H5.out.1.below HZ.out.1).ak hrb⟩
      clear hrb hb6 HSq HZ HS1 H5 HC
      obtain ⟨b0, b1, b2, b3, b4, b5, b6, b7, b8, b9⟩ := cellsP10 HEz.out
      obtain ⟨e0, e1, e2, e3, e4, e5, e6, e7, e8, e9⟩ := frozenP10 HEz.out
      have HPE := hide' (put10 HEz.out (.int .i64 n0) (.int .i64 n1) (.int .i64 n2) (.int .i64 n3) (.bool n4) (.int .i64 n5) (.int .i64 n6) (.int .i64 n7) (.int .i64 n8) (.bool n9))
      have HSF : Hid (((((((((((y.setCell ⟨E, 0, none⟩ (.int .i64 n0)).setCell ⟨E, 1, none⟩ (.int .i64 n1)).setCell ⟨E, 2, none⟩ (.int .i64 n2)).setCell ⟨E, 3, none⟩ (.int .i64 n3)).setCell ⟨E, 4, none⟩ (.bool n4)).setCell ⟨E, 5, none⟩ (.int .i64 n5)).setCell ⟨E, 6, none⟩ (.int .i64 n6)).setCell ⟨E, 7, none⟩ (.int .i64 n7)).setCell ⟨E, 8, none⟩ (.int .i64 n8)).setCell ⟨E, 9, none⟩ (.bool n9)).heap[K]? = some (.cells #[.int .i64 V.m.no, .int .i64 V.m.ph, .int .i64 V.m.now, .int .i64 V.m.pt, .bool V.m.want, .int .i64 V.m.timer, .int .i64 V.m.pat, .int .i64 V.m.tries, .int .i64 V.m.lim, .bool V.m.gave, .slice pa V.l.length pc, .int .i64 V.s.last, .int .i64 V.s.armed, .int .i64 V.s.point, .bool V.s.want, .int .i64 V.s.left, .int .i64 V.s.pat, dv, uv, ov, .slice qa V.asked.length qc, cv] 52 (0, 0)) ∧ ((((((((((y.setCell ⟨E, 0, none⟩ (.int .i64 n0)).setCell ⟨E, 1, none⟩ (.int .i64 n1)).setCell ⟨E, 2, none⟩ (.int .i64 n2)).setCell ⟨E, 3, none⟩ (.int .i64 n3)).setCell ⟨E, 4, none⟩ (.bool n4)).setCell ⟨E, 5, none⟩ (.int .i64 n5)).setCell ⟨E, 6, none⟩ (.int .i64 n6)).setCell ⟨E, 7, none⟩ (.int .i64 n7)).setCell ⟨E, 8, none⟩ (.int .i64 n8)).setCell ⟨E, 9, none⟩ (.bool n9)).heap[Tb]? = some (.cells #[.int .i64 ask, .bool want, .int .i64 come, .int .i64 lose, .int .i64 again, .int .i64 mix, .bool deaf] 55 (0, 0))) := ⟨(HPE.out.2.block K (lt_heap HSz.out.1) HEK.out.1).trans HSz.out.1, (HPE.out.2.block Tb (lt_heap HSz.out.2) HEK.out.2.1).trans HSz.out.2⟩
      have HFN : Hid (((((((((((y.setCell ⟨E, 0, none⟩ (.int .i64 n0)).setCell ⟨E, 1, none⟩ (.int .i64 n1)).setCell ⟨E, 2, none⟩ (.int .i64 n2)).setCell ⟨E, 3, none⟩ (.int .i64 n3)).setCell ⟨E, 4, none⟩ (.bool n4)).setCell ⟨E, 5, none⟩ (.int .i64 n5)).setCell ⟨E, 6, none⟩ (.int .i64 n6)).setCell ⟨E, 7, none⟩ (.int .i64 n7)).setCell ⟨E, 8, none⟩ (.int .i64 n8)).setCell ⟨E, 9, none⟩ (.bool n9)).heap[E]? = some (.cells #[.int .i64 n0, .int .i64 n1, .int .i64 n2, .int .i64 n3, .bool n4, .int .i64 n5, .int .i64 n6, .int .i64 n7, .int .i64 n8, .bool n9] 32 (0, 0)) ∧ ((((((((((y.setCell ⟨E, 0, none⟩ (.int .i64 n0)).setCell ⟨E, 1, none⟩ (.int .i64 n1)).setCell ⟨E, 2, none⟩ (.int .i64 n2)).setCell ⟨E, 3, none⟩ (.int .i64 n3)).setCell ⟨E, 4, none⟩ (.bool n4)).setCell ⟨E, 5, none⟩ (.int .i64 n5)).setCell ⟨E, 6, none⟩ (.int .i64 n6)).setCell ⟨E, 7, none⟩ (.int .i64 n7)).setCell ⟨E, 8, none⟩ (.int .i64 n8)).setCell ⟨E, 9, none⟩ (.bool n9)).ownsRow 0 39 4 (.slice la os.length lc) os.length (msgs os) ∧ WAt ((((((((((y.setCell ⟨E, 0, none⟩ (.int .i64 n0)).setCell ⟨E, 1, none⟩ (.int .i64 n1)).setCell ⟨E, 2, none⟩ (.int .i64 n2)).setCell ⟨E, 3, none⟩ (.int .i64 n3)).setCell ⟨E, 4, none⟩ (.bool n4)).setCell ⟨E, 5, none⟩ (.int .i64 n5)).setCell ⟨E, 6, none⟩ (.int .i64 n6)).setCell ⟨E, 7, none⟩ (.int .i64 n7)).setCell ⟨E, 8, none⟩ (.int .i64 n8)).setCell ⟨E, 9, none⟩ (.bool n9)) B K V (.slice pa V.l.length pc) dv uv ov (.slice qa V.asked.length qc) cv ∧ TkAt w ((((((((((y.setCell ⟨E, 0, none⟩ (.int .i64 n0)).setCell ⟨E, 1, none⟩ (.int .i64 n1)).setCell ⟨E, 2, none⟩ (.int .i64 n2)).setCell ⟨E, 3, none⟩ (.int .i64 n3)).setCell ⟨E, 4, none⟩ (.bool n4)).setCell ⟨E, 5, none⟩ (.int .i64 n5)).setCell ⟨E, 6, none⟩ (.int .i64 n6)).setCell ⟨E, 7, none⟩ (.int .i64 n7)).setCell ⟨E, 8, none⟩ (.int .i64 n8)).setCell ⟨E, 9, none⟩ (.bool n9)) B K Tb ⟨ask, want, come, lose, again, mix, deaf⟩ V) := ⟨HPE.out.1, own_putE HRB.out HEz.out HPE.out.2 (by decide), HWz.out.putE HEz.out HPE.out.2 HEK.out.1 (by decide) (by decide) (by decide), HBz.out.next ⟨_, _, _, _, _, _, HWz.out.putE HEz.out HPE.out.2 HEK.out.1 (by decide) (by decide) (by decide)⟩ (but_bl HPE.out.2 HEz.out (by decide) HEK.out.2.2 HBz.out.bs)⟩
      clear HRB HWz HBz
      refine wpAnyT_one (i := 13) (by kernel_rfl) rfl rfl (fun K' hK => ?_)
      go_simp
      refine hK.out _ _ (fun _ => HSF.out) ?_
      clear hK K'
      try simp only [Act.put, List.setIfInBounds_toArray]
      refine wpAnyT_one (i := 14) (by kernel_rfl) rfl rfl (fun K' hK => ?_)
      go_simp
      refine hK.out _ _ (fun _ => HSF.out) ?_
      clear hK K'
      try simp only [Act.put, List.setIfInBounds_toArray]
      refine wpAnyT_one (i := 15) (by kernel_rfl) rfl rfl (fun K' hK => ?_)
      go_simp
      refine hK.out _ _ (fun h => absurd rfl h) ?_
      clear hK K'
      try simp only [Act.put, List.setIfInBounds_toArray]
      refine wpAnyT_done (by kernel_rfl) ?_ _
      clear b0 b1 b2 b3 b4 b5 b6 b7 b8 b9 e0 e1 e2 e3 e4 e5 e6 e7 e8 e9 HPE HEz HSz HSF
      go_upto_region 4 with fail
      refine code_letter (fun q => Hid (q.heap[E]? = some (.cells #[.int .i64 n0, .int .i64 n1, .int .i64 n2, .int .i64 n3, .bool n4, .int .i64 n5, .int .i64 n6, .int .i64 n7, .int .i64 n8, .bool n9] 32 (0, 0)) ∧ q.ownsRow 0 39 4 (.slice la os.length lc) os.length (msgs os) ∧ WAt q B K V (.slice pa V.l.length pc) dv uv ov (.slice qa V.asked.length qc) cv ∧ TkAt w q B K Tb ⟨ask, want, come, lose, again, mix, deaf⟩ V)) HFN.out ?_
      clear HFN
      intro z7 H7
      go_upto_region 5 with fail
      have HS1 : Hid (z7.drew.heap[K]? = some (.cells #[.int .i64 V.m.no, .int .i64 V.m.ph, .int .i64 V.m.now, .int .i64 V.m.pt, .bool V.m.want, .int .i64 V.m.timer, .int .i64 V.m.pat, .int .i64 V.m.tries, .int .i64 V.m.lim, .bool V.m.gave, .slice pa V.l.length pc, .int .i64 V.s.last, .int .i64 V.s.armed, .int .i64 V.s.point, .bool V.s.want, .int .i64 V.s.left, .int .i64 V.s.pat, dv, uv, ov, .slice qa V.asked.length qc, cv] 52 (0, 0)) ∧ z7.drew.heap[Tb]? = some (.cells #[.int .i64 ask, .bool want, .int .i64 come, .int .i64 lose, .int .i64 again, .int .i64 mix, .bool deaf] 55 (0, 0))) := ⟨H7.out.2.2.1.cell, H7.out.2.2.2.box⟩
      refine wp_region_tail (fun W' => W'.heap[K]? = some (.cells #[.int .i64 V.m.no, .int .i64 V.m.ph, .int .i64 V.m.now, .int .i64 V.m.pt, .bool V.m.want, .int .i64 V.m.timer, .int .i64 V.m.pat, .int .i64 V.m.tries, .int .i64 V.m.lim, .bool V.m.gave, .slice pa V.l.length pc, .int .i64 V.s.last, .int .i64 V.s.armed, .int .i64 V.s.point, .bool V.s.want, .int .i64 V.s.left, .int .i64 V.s.pat, dv, uv, ov, .slice qa V.asked.length qc, cv] 52 (0, 0)) ∧ W'.heap[Tb]? = some (.cells #[.int .i64 ask, .bool want, .int .i64 come, .int .i64 lose, .int .i64 again, .int .i64 mix, .bool deaf] 55 (0, 0))) 18 (by kernel_rfl) ?_
      refine wpAnyD_takeAt 0 (some 54) (v := ?_) rfl (by kernel_rfl) (by kernel_rfl) (by kernel_rfl) (by kernel_rfl) (by kernel_rfl) (fun c a w h => HQ.out c _ _ w h) (by exact HS1.out) (fun o hop => ?_) ?_
      rotate_left
      · injection hop with hop
        subst hop
        refine ⟨rfl, fun W' hW => ?_⟩
        have g20 : W'.cell? ⟨K, 20, none⟩ = some (.slice qa V.asked.length qc) := (cells_at hW.1 20).trans rfl
        have t1 : W'.cell? ⟨Tb, 1, none⟩ = some (.bool want) := (cells_at hW.2 1).trans rfl
        go_simp
        first
        | rfl
        | (constructor <;> rfl)
      try simp only [Act.put, List.setIfInBounds_toArray]
      refine wpAnyD_takeAt 1 (some 55) (v := ?_) rfl (by kernel_rfl) (by kernel_rfl) (by kernel_rfl) (by kernel_rfl) (by kernel_rfl) (fun c a w h => HQ.out c _ _ w h) (by exact HS1.out) (fun o hop => ?_) ?_
      rotate_left
      · injection hop with hop
        subst hop
        refine ⟨rfl, fun W' hW => ?_⟩
        have g20 : W'.cell? ⟨K, 20, none⟩ = some (.slice qa V.asked.length qc) := (cells_at hW.1 20).trans rfl
        have t1 : W'.cell? ⟨Tb, 1, none⟩ = some (.bool want) := (cells_at hW.2 1).trans rfl
        go_simp
        first
        | rfl
        | (constructor <;> rfl)
      try simp only [Act.put, List.setIfInBounds_toArray]
      refine wpAnyD_takeAt 2 (some 56) (v := ?_) rfl (by kernel_rfl) (by kernel_rfl) (by kernel_rfl) (by kernel_rfl) (by kernel_rfl) (fun c a w h => HQ.out c _ _ w h) (by exact HS1.out) (fun o hop => ?_) ?_
      rotate_left
      · injection hop with hop
        subst hop
        refine ⟨rfl, fun W' hW => ?_⟩
        have g20 : W'.cell? ⟨K, 20, none⟩ = some (.slice qa V.asked.length qc) := (cells_at hW.1 20).trans rfl
        have t1 : W'.cell? ⟨Tb, 1, none⟩ = some (.bool want) := (cells_at hW.2 1).trans rfl
        go_simp
        first
        | rfl
        | (constructor <;> rfl)
      try simp only [Act.put, List.setIfInBounds_toArray]
      refine wpAnyD_takeAt 3 (some 57) (v := ?_) rfl (by kernel_rfl) (by kernel_rfl) (by kernel_rfl) (by kernel_rfl) (by kernel_rfl) (fun c a w h => HQ.out c _ _ w h) (by exact HS1.out) (fun o hop => ?_) ?_
      rotate_left
      · injection hop with hop
        subst hop
        refine ⟨rfl, fun W' hW => ?_⟩
        have g20 : W'.cell? ⟨K, 20, none⟩ = some (.slice qa V.asked.length qc) := (cells_at hW.1 20).trans rfl
        have t1 : W'.cell? ⟨Tb, 1, none⟩ = some (.bool want) := (cells_at hW.2 1).trans rfl
        go_simp
        first
        | rfl
        | (constructor <;> rfl)
      try simp only [Act.put, List.setIfInBounds_toArray]
      refine wpAnyD_takeAt 4 (some 58) (v := ?_) rfl (by kernel_rfl) (by kernel_rfl) (by kernel_rfl) (by kernel_rfl) (by kernel_rfl) (fun c a w h => HQ.out c _ _ w h) (by exact HS1.out) (fun o hop => ?_) ?_
      rotate_left
      · injection hop with hop
        subst hop
        refine ⟨rfl, fun W' hW => ?_⟩
        have g20 : W'.cell? ⟨K, 20, none⟩ = some (.slice qa V.asked.length qc) := (cells_at hW.1 20).trans rfl
        have t1 : W'.cell? ⟨Tb, 1, none⟩ = some (.bool want) := (cells_at hW.2 1).trans rfl
        go_simp
        first
        | rfl
        | (constructor <;> rfl)
      try simp only [Act.put, List.setIfInBounds_toArray]
      refine wpAnyD_takeAt 5 (some 59) (v := ?_) rfl (by kernel_rfl) (by kernel_rfl) (by kernel_rfl) (by kernel_rfl) (by kernel_rfl) (fun c a w h => HQ.out c _ _ w h) (by exact HS1.out) (fun o hop => ?_) ?_
      rotate_left
      · injection hop with hop
        subst hop
        refine ⟨rfl, fun W' hW => ?_⟩
        have g20 : W'.cell? ⟨K, 20, none⟩ = some (.slice qa V.asked.length qc) := (cells_at hW.1 20).trans rfl
        have t1 : W'.cell? ⟨Tb, 1, none⟩ = some (.bool want) := (cells_at hW.2 1).trans rfl
        go_simp
        first
        | rfl
        | (constructor <;> rfl)
      try simp only [Act.put, List.setIfInBounds_toArray]
      refine wpAnyD_takeAt 6 (some 60) (v := ?_) rfl (by kernel_rfl) (by kernel_rfl) (by kernel_rfl) (by kernel_rfl) (by kernel_rfl) (fun c a w h => HQ.out c _ _ w h) (by exact HS1.out) (fun o hop => ?_) ?_
      rotate_left
      · injection hop with hop
        subst hop
        refine ⟨rfl, fun W' hW => ?_⟩
        have g20 : W'.cell? ⟨K, 20, none⟩ = some (.slice qa V.asked.length qc) := (cells_at hW.1 20).trans rfl
        have t1 : W'.cell? ⟨Tb, 1, none⟩ = some (.bool want) := (cells_at hW.2 1).trans rfl
        go_simp
        first
        | rfl
        | (constructor <;> rfl)
      try simp only [Act.put, List.setIfInBounds_toArray]
      refine wpAnyD_takeAt 7 (some 61) (v := ?_) rfl (by kernel_rfl) (by kernel_rfl) (by kernel_rfl) (by kernel_rfl) (by kernel_rfl) (fun c a w h => HQ.out c _ _ w h) (by exact HS1.out) (fun o hop => ?_) ?_
      rotate_left
      · injection hop with hop
        subst hop
        refine ⟨rfl, fun W' hW => ?_⟩
        have g20 : W'.cell? ⟨K, 20, none⟩ = some (.slice qa V.asked.length qc) := (cells_at hW.1 20).trans rfl
        have t1 : W'.cell? ⟨Tb, 1, none⟩ = some (.bool want) := (cells_at hW.2 1).trans rfl
        go_simp
        first
        | rfl
        | (constructor <;> rfl)
      try simp only [Act.put, List.setIfInBounds_toArray]
      refine wpAnyD_takeAt 8 (some 62) (v := ?_) rfl (by kernel_rfl) (by kernel_rfl) (by kernel_rfl) (by kernel_rfl) (by kernel_rfl) (fun c a w h => HQ.out c _ _ w h) (by exact HS1.out) (fun o hop => ?_) ?_
      rotate_left
      · injection hop with hop
        subst hop
        refine ⟨rfl, fun W' hW => ?_⟩
        have g20 : W'.cell? ⟨K, 20, none⟩ = some (.slice qa V.asked.length qc) := (cells_at hW.1 20).trans rfl
        have t1 : W'.cell? ⟨Tb, 1, none⟩ = some (.bool want) := (cells_at hW.2 1).trans rfl
        go_simp
        first
        | rfl
        | (constructor <;> rfl)
      try simp only [Act.put, List.setIfInBounds_toArray]
      refine wpAnyD_takeAt 9 (some 63) (v := ?_) rfl (by kernel_rfl) (by kernel_rfl) (by kernel_rfl) (by kernel_rfl) (by kernel_rfl) (fun c a w h => HQ.out c _ _ w h) (by exact HS1.out) (fun o hop => ?_) ?_
      rotate_left
      · injection hop with hop
        subst hop
        refine ⟨rfl, fun W' hW => ?_⟩
        have g20 : W'.cell? ⟨K, 20, none⟩ = some (.slice qa V.asked.length qc) := (cells_at hW.1 20).trans rfl
        have t1 : W'.cell? ⟨Tb, 1, none⟩ = some (.bool want) := (cells_at hW.2 1).trans rfl
        go_simp
        first
        | rfl
        | (constructor <;> rfl)
      try simp only [Act.put, List.setIfInBounds_toArray]
      refine wpAnyD_takeAt 10 (some 64) (v := ?_) rfl (by kernel_rfl) (by kernel_rfl) (by kernel_rfl) (by kernel_rfl) (by kernel_rfl) (fun c a w h => HQ.out c _ _ w h) (by exact HS1.out) (fun o hop => ?_) ?_
      rotate_left
      · injection hop with hop
        subst hop
        refine ⟨rfl, fun W' hW => ?_⟩
        have g20 : W'.cell? ⟨K, 20, none⟩ = some (.slice qa V.asked.length qc) := (cells_at hW.1 20).trans rfl
        have t1 : W'.cell? ⟨Tb, 1, none⟩ = some (.bool want) := (cells_at hW.2 1).trans rfl
        go_simp
        first
        | rfl
        | (constructor <;> rfl)
      try simp only [Act.put, List.setIfInBounds_toArray]
      refine wpAnyD_takeAt 11 (some 65) (v := ?_) rfl (by kernel_rfl) (by kernel_rfl) (by kernel_rfl) (by kernel_rfl) (by kernel_rfl) (fun c a w h => HQ.out c _ _ w h) (by exact HS1.out) (fun o hop => ?_) ?_
      rotate_left
      · injection hop with hop
        subst hop
        refine ⟨rfl, fun W' hW => ?_⟩
        have g20 : W'.cell? ⟨K, 20, none⟩ = some (.slice qa V.asked.length qc) := (cells_at hW.1 20).trans rfl
        have t1 : W'.cell? ⟨Tb, 1, none⟩ = some (.bool want) := (cells_at hW.2 1).trans rfl
        go_simp
        first
        | rfl
        | (constructor <;> rfl)
      try simp only [Act.put, List.setIfInBounds_toArray]
      refine wpAnyD_takeAt 12 (some 66) (v := ?_) rfl (by kernel_rfl) (by kernel_rfl) (by kernel_rfl) (by kernel_rfl) (by kernel_rfl) (fun c a w h => HQ.out c _ _ w h) (by exact HS1.out) (fun o hop => ?_) ?_
      rotate_left
      · injection hop with hop
        subst hop
        refine ⟨rfl, fun W' hW => ?_⟩
        have g20 : W'.cell? ⟨K, 20, none⟩ = some (.slice qa V.asked.length qc) := (cells_at hW.1 20).trans rfl
        have t1 : W'.cell? ⟨Tb, 1, none⟩ = some (.bool want) := (cells_at hW.2 1).trans rfl
        go_simp
        first
        | rfl
        | (constructor <;> rfl)
      try simp only [Act.put, List.setIfInBounds_toArray]
      refine wpAnyD_takeAt 13 (some 67) (v := ?_) rfl (by kernel_rfl) (by kernel_rfl) (by kernel_rfl) (by kernel_rfl) (by kernel_rfl) (fun c a w h => HQ.out c _ _ w h) (by exact HS1.out) (fun o hop => ?_) ?_
      rotate_left
      · injection hop with hop
        subst hop
        refine ⟨rfl, fun W' hW => ?_⟩
        have g20 : W'.cell? ⟨K, 20, none⟩ = some (.slice qa V.asked.length qc) := (cells_at hW.1 20).trans rfl
        have t1 : W'.cell? ⟨Tb, 1, none⟩ = some (.bool want) := (cells_at hW.2 1).trans rfl
        go_simp
        first
        | rfl
        | (constructor <;> rfl)
      try simp only [Act.put, List.setIfInBounds_toArray]
      have hba := below_al z7.drew (.cells #[.int .i64 0, .int .i64 (V.asked.length : Int), .int .i64 pp, .bool want] 39)
      have hb1 : Below z7.heap.size z7 (z7.drew.alloc (.cells #[.int .i64 0, .int .i64 (V.asked.length : Int), .int .i64 pp, .bool want] 39)) := (Below.refl _ z7).drew.trans hba
      have HNW := hide' (alloc_new z7.drew (.cells #[.int .i64 0, .int .i64 (V.asked.length : Int), .int .i64 pp, .bool want] 39))
      have HS2 : Hid ((z7.drew.alloc (.cells #[.int .i64 0, .int .i64 (V.asked.length : Int), .int .i64 pp, .bool want] 39)).heap[K]? = some (.cells #[.int .i64 V.m.no, .int .i64 V.m.ph, .int .i64 V.m.now, .int .i64 V.m.pt, .bool V.m.want, .int .i64 V.m.timer, .int .i64 V.m.pat, .int .i64 V.m.tries, .int .i64 V.m.lim, .bool V.m.gave, .slice pa V.l.length pc, .int .i64 V.s.last, .int .i64 V.s.armed, .int .i64 V.s.point, .bool V.s.want, .int .i64 V.s.left, .int .i64 V.s.pat, dv, uv, ov, .slice qa V.asked.length qc, cv] 52 (0, 0)) ∧ (z7.drew.alloc (.cells #[.int .i64 0, .int .i64 (V.asked.length : Int), .int .i64 pp, .bool want] 39)).heap[Tb]? = some (.cells #[.int .i64 ask, .bool want, .int .i64 come, .int .i64 lose, .int .i64 again, .int .i64 mix, .bool deaf] 55 (0, 0))) := ⟨(hb1.block K (lt_heap HS1.out.1)).trans HS1.out.1, (hb1.block Tb (lt_heap HS1.out.2)).trans HS1.out.2⟩
      refine wpAnyT_one (i := 14) (by kernel_rfl) rfl rfl (fun K' hK => ?_)
      go_simp
      refine hK.out _ _ (fun _ => HS2.out) ?_
      clear hK K'
      try simp only [Act.put, List.setIfInBounds_toArray]
      refine wpAnyT_letter (fun q => Hid (q.heap[z7.heap.size]? = some (.cells #[.int .i64 0, .int .i64 (V.asked.length : Int), .int .i64 pp, .bool want] 39 (0, 0)) ∧ q.heap[E]? = some (.cells #[.int .i64 n0, .int .i64 n1, .int .i64 n2, .int .i64 n3, .bool n4, .int .i64 n5, .int .i64 n6, .int .i64 n7, .int .i64 n8, .bool n9] 32 (0, 0)) ∧ q.ownsRow 0 39 4 (.slice la os.length lc) os.length (msgs os) ∧ WAt q B K V (.slice pa V.l.length pc) dv uv ov (.slice qa V.asked.length qc) cv ∧ TkAt w q B K Tb ⟨ask, want, come, lose, again, mix, deaf⟩ V)) ⟨HNW.out, (hb1.block E (lt_heap H7.out.1)).trans H7.out.1, own_below H7.out.2.1 hb1 (Nat.le_refl _), H7.out.2.2.1.below hb1, H7.out.2.2.2.below hb1⟩ ?_
      clear HNW HS2 HS1 hba hb1 H7
      intro z1 H1
      have hs1 : B ≤ z1.heap.size := H1.out.2.2.2.2.bs
      have HDN : Hid (z1.ownsRow B 39 4 (.slice qa V.asked.length qc) V.asked.length (msgs V.asked)) := H1.out.2.2.2.1.ak
      refine wpAnyT_one (i := 15) (by kernel_rfl) rfl rfl (fun K' hK => ?_)
      refine step_append_anyAt rfl _ _ 33 rfl B 39 i39 _ 4 32 Try.underlying33 hi39 h390 h391 h392 rfl (by decide) _ _ _ rfl HDN.out _ 1 [.int .i64 0, .int .i64 (V.asked.length : Int), .int .i64 pp, .bool want] rfl (row_one4 H1.out.1) (by intro u hu; simp at hu; rcases hu with rfl | rfl | rfl | rfl <;> rfl) (by unfold maxLen; omega) (by omega) hs1 ?_
      intro v2 z2 ho2 hg2 ha2
      have HT3 := hide' (WAt.ak' H1.out.2.2.2.1 (d := V.asked ++ [⟨0, V.asked.length, pp, want⟩]) (by rw [msgs_app]; exact ho2) (by rw [List.length_append]; rfl) hg2 ha2)
      obtain ⟨va2, vc2, hve2⟩ := own_slice ho2
      subst hve2
      have HKE := hide' (KeepE.grown HDN.out hg2)
      have HC2 : Hid (z2.heap[K]? = some (.cells #[.int .i64 V.m.no, .int .i64 V.m.ph, .int .i64 V.m.now, .int .i64 V.m.pt, .bool V.m.want, .int .i64 V.m.timer, .int .i64 V.m.pat, .int .i64 V.m.tries, .int .i64 V.m.lim, .bool V.m.gave, .slice pa V.l.length pc, .int .i64 V.s.last, .int .i64 V.s.armed, .int .i64 V.s.point, .bool V.s.want, .int .i64 V.s.left, .int .i64 V.s.pat, dv, uv, ov, .slice qa V.asked.length qc, cv] 52 (0, 0)) ∧ z2.heap[Tb]? = some (.cells #[.int .i64 ask, .bool want, .int .i64 come, .int .i64 lose, .int .i64 again, .int .i64 mix, .bool deaf] 55 (0, 0))) := ⟨(HKE.out K _ 52 (0, 0) H1.out.2.2.2.1.cell (by decide)).trans H1.out.2.2.2.1.cell, (HKE.out Tb _ 55 (0, 0) H1.out.2.2.2.2.box (by decide)).trans H1.out.2.2.2.2.box⟩
      have k20 : z2.cell? ⟨K, 20, none⟩ = some (.slice qa V.asked.length qc) := (cells_at HC2.out.1 20).trans rfl
      have e20 : z2.frozen? ⟨K, 20, none⟩ = false := frozen_no HC2.out.1 _
      have HF : Hid ((z2.setCell ⟨K, 20, none⟩ (.slice va2 (V.asked.length + 1) vc2)).heap[E]? = some (.cells #[.int .i64 n0, .int .i64 n1, .int .i64 n2, .int .i64 n3, .bool n4, .int .i64 n5, .int .i64 n6, .int .i64 n7, .int .i64 n8, .bool n9] 32 (0, 0)) ∧ (z2.setCell ⟨K, 20, none⟩ (.slice va2 (V.asked.length + 1) vc2)).ownsRow 0 39 4 (.slice la os.length lc) os.length (msgs os) ∧ WAt (z2.setCell ⟨K, 20, none⟩ (.slice va2 (V.asked.length + 1) vc2)) B K ⟨V.m, V.l, V.s, V.down, V.up, V.old, V.asked ++ [(⟨0, (V.asked.length : Int), pp, want⟩ : MsM)], V.acted⟩ (.slice pa V.l.length pc) dv uv ov (.slice va2 (V.asked.length + 1) vc2) cv ∧ TkAt w (z2.setCell ⟨K, 20, none⟩ (.slice va2 (V.asked.length + 1) vc2)) B K Tb ⟨ask, want, come, lose, again, mix, deaf⟩ ⟨V.m, V.l, V.s, V.down, V.up, V.old, V.asked ++ [(⟨0, (V.asked.length : Int), pp, want⟩ : MsM)], V.acted⟩) := ⟨(keep_set HC2.out.1 20 _ E _ 32 (0, 0) ((HKE.out E _ 32 (0, 0) H1.out.2.1 (by decide)).trans H1.out.2.1) (by decide)).trans ((HKE.out E _ 32 (0, 0) H1.out.2.1 (by decide)).trans H1.out.2.1), own_keep (own_other H1.out.2.2.1 (fun k ek => hg2.block k (own_lt H1.out.2.2.1 ek) (fun e => HLV.out.2 k ek e.symm))) (keep_set HC2.out.1 20 _) (by decide), HT3.out.1, H1.out.2.2.2.2.next ⟨_, _, _, _, _, _, HT3.out.1⟩ HT3.out.2⟩
      refine hK.out _ _ (fun _ => HC2.out) ?_
      clear hK K' ho2 hg2 ha2 HDN HT3 HKE H1
      try simp only [Act.put, List.setIfInBounds_toArray]
      refine wpAnyD_takeAt 16 (some 70) (v := ?_) rfl (by kernel_rfl) (by kernel_rfl) (by kernel_rfl) (by kernel_rfl) (by kernel_rfl) (fun c a w h => HQ.out c _ _ w h) (by exact HC2.out) (fun o hop => ?_) ?_
      rotate_left
      · injection hop with hop
        subst hop
        refine ⟨rfl, fun W' hW => ?_⟩
        have g20 : W'.cell? ⟨K, 20, none⟩ = some (.slice qa V.asked.length qc) := (cells_at hW.1 20).trans rfl
        have t1 : W'.cell? ⟨Tb, 1, none⟩ = some (.bool want) := (cells_at hW.2 1).trans rfl
        go_simp
        first
        | rfl
        | (constructor <;> rfl)
      try simp only [Act.put]
      refine wpAnyD_takeAt 17 (some 71) (v := ?_) rfl (by kernel_rfl) (by kernel_rfl) (by kernel_rfl) (by kernel_rfl) (by kernel_rfl) (fun c a w h => HQ.out c _ _ w h) (by exact HC2.out) (fun o hop => ?_) ?_
      rotate_left
      · injection hop with hop
        subst hop
        refine ⟨rfl, fun W' hW => ?_⟩
        have g20 : W'.cell? ⟨K, 20, none⟩ = some (.slice qa V.asked.length qc) := (cells_at hW.1 20).trans rfl
        have t1 : W'.cell? ⟨Tb, 1, none⟩ = some (.bool want) := (cells_at hW.2 1).trans rfl
        go_simp
        first
        | rfl
        | (constructor <;> rfl)
      try simp only [Act.put]
      refine wpAnyT_one (i := 18) (by kernel_rfl) rfl rfl (fun K' hK => ?_)
      go_simp
      refine hK.out _ _ (fun h => absurd rfl h) ?_
      clear hK K' k20 e20 HC2
      try simp only [Act.put, List.setIfInBounds_toArray]
      refine wpAnyT_done (by kernel_rfl) ?_ _
      go_upto_region 6 with fail
      refine code_letter (fun q => Hid (q.heap[E]? = some (.cells #[.int .i64 n0, .int .i64 n1, .int .i64 n2, .int .i64 n3, .bool n4, .int .i64 n5, .int .i64 n6, .int .i64 n7, .int .i64 n8, .bool n9] 32 (0, 0)) ∧ q.ownsRow 0 39 4 (.slice la os.length lc) os.length (msgs os) ∧ WAt q B K ⟨V.m, V.l, V.s, V.down, V.up, V.old, V.asked ++ [(⟨0, (V.asked.length : Int), pp, want⟩ : MsM)], V.acted⟩ (.slice pa V.l.length pc) dv uv ov (.slice va2 (V.asked.length + 1) vc2) cv ∧ TkAt w q B K Tb ⟨ask, want, come, lose, again, mix, deaf⟩ ⟨V.m, V.l, V.s, V.down, V.up, V.old, V.asked ++ [(⟨0, (V.asked.length : Int), pp, want⟩ : MsM)], V.acted⟩)) HF.out ?_
      clear HF HEK
      intro z8 H8
      obtain ⟨b0, b1, b2, b3, b4, b5, b6, b7, b8, b9⟩ := cellsP10 H8.out.1
      go_wp2_with fail
      refine (sent_any ⟨V.m, V.l, V.s, V.down, V.up, V.old, V.asked ++ [(⟨0, (V.asked.length : Int), pp, want⟩ : MsM)], V.acted⟩ B K (.slice pa V.l.length pc) dv uv ov _ cv (.slice la os.length lc) ⟨n0, n1, n2, n3, n4, n5, n6, n7, n8, n9⟩ os z8 H8.out.2.2.1 H8.out.2.1 HLV.out.1 ⟨by show V.down.length ≤ _; omega, by show V.old.length ≤ _; omega, HMM.out⟩).mono ?_
      rintro e z9 ⟨rfl, ⟨dv', ov', q1⟩, q2⟩
      have HF : Hid (TkAt w z9 B K Tb ⟨ask, want, come, lose, again, mix, deaf⟩ (askW V ⟨ask, want, come, lose, again, mix, deaf⟩)) := by
        show TkAt w _ B K Tb _ _
        rw [HAK.out]
        exact H8.out.2.2.2.next ⟨_, _, _, _, _, _, q1⟩ q2
      clear q1 q2 H8 b0 b1 b2 b3 b4 b5 b6 b7 b8 b9 HLV
      go_wp2_with fail
      refine HKn.out _ _ ?_
      exact HT2.out _ _ _ _ _ _ _ _ _ _ _ _ _ _ _ _ _ _ _ _ _ _ _ _ _ _ _ _ _ _ _ _ _ _ _ _ _ _ _ _ _ _ _ _ _ _ _ _ _ _ _ _ _ _ _ _ _ _ _ _ _ _ _ _ _ _ _ _ _ _ _ _ _ _ _ _ _ _ _ _ _ _ _ _ _ _ _ _ _ _ _ _ _ _ _ _ _ _ _ _ _ _ _ _ _ _ _ _ _ _ _ _ _ _ _ _ _ _ _ _ _ _ _ _ _ _ _ _ _ _ _ _ _ _ _ _ _ _ _ _ _ _ _ _ _ _ _ _ _ _ _ _ _ _ _ _ _ _ _ _ _ _ _ _ _ _ _ _ _ _ _ _ _ _ _ _ _ _ _ _ _ _ _ _ _ _ _ _ _ _ _ _ _ _ _ _ _ _ _ _ _ _ _ _ _ _ _ _ _ _ _ _ _ _ _ _ _ _ _ _ _ _ _ _ _ _ _ _ _ _ _ _ HF.out

set_option maxRecDepth 1000000 in
set_option maxHeartbeats 8000000 in
theorem ask_rest2 (w : World) {B K Tb : Nat} {ask : Int} {want : Bool} {come lose again mix : Int} {deaf : Bool} (V : Wl) {pat lim P : Int} {T : Nat} (hI : Inv pat lim P T V) (hT : T ≤ 900) (hsi : I6 ask) (bb1 : V.down.length + V.up.length ≤ 80000) (bb2 : V.old.length ≤ 600000) (u1 u2 u4 u5 u6 u7 u8 u9 u10 u11 u12 u13 u14 u15 u16 u17 u18 u19 u20 u21 u22 u23 u24 u25 u26 u27 u28 u29 u30 u31 u32 u33 u34 u35 u36 u37 u38 u39 u40 u41 u42 u43 u44 u45 u46 u47 u48 u49 u50 u51 u52 u53 u54 u55 u56 u57 u58 u59 u60 u61 u62 u63 u64 u65 u66 u67 u68 u69 u70 u71 u72 u73 u74 u75 u76 u77 u78 u79 u80 u81 u82 u83 u84 u85 u86 u87 u88 u89 u90 u91 u92 u93 u94 u95 u96 u97 u98 u99 u100 u101 u102 u103 u104 u105 u106 u107 u108 u109 u110 u111 u112 u113 u114 u115 u116 u117 u118 u119 u120 u121 u122 u123 u124 u125 u126 u127 u128 u129 u130 u131 u132 u133 u134 u135 u136 u137 u138 u139 u140 u141 u142 u143 u144 u145 u146 u147 u148 u149 u150 u151 u152 u153 u154 u155 u156 u157 u158 u159 u160 u161 u162 u163 u164 u165 u166 u167 u168 u169 u170 u171 u172 u173 u174 u175 u176 u177 u178 u179 u180 u181 u182 u183 u184 u185 u186 u187 u188 u189 u190 u191 u192 u193 u194 u195 u196 u197 u198 u199 u200 u201 u202 u203 u204 u205 u206 u207 u208 u209 u210 u211 u212 u213 u214 u215 u216 u217 u218 u219 u220 u221 u222 u223 u224 u225 u226 u227 u228 u229 u230 u231 u232 : Value) (z : World) (hA : TkAt w z B K Tb ⟨ask, want, come, lose, again, mix, deaf⟩ V)
    (Q : Exit → Act → World → Prop) (hQ : ∀ c a a' w, Q (.panic c) a' w → Q (.panic c) a w) (c2 : Code) (hT2 : ∀ (v1 v2 v4 v5 v6 v7 v8 v9 v10 v11 v12 v13 v14 v15 v16 v17 v18 v19 v20 v21 v22 v23 v24 v25 v26 v27 v28 v29 v30 v31 v32 v33 v34 v35 v36 v37 v38 v39 v40 v41 v42 v43 v44 v45 v46 v47 v48 v49 v50 v51 v52 v53 v54 v55 v56 v57 v58 v59 v60 v61 v62 v63 v64 v65 v66 v67 v68 v69 v70 v71 v72 v73 v74 v75 v76 v77 v78 v79 v80 v81 v82 v83 v84 v85 v86 v87 v88 v89 v90 v91 v92 v93 v94 v95 v96 v97 v98 v99 v100 v101 v102 v103 v104 v105 v106 v107 v108 v109 v110 v111 v112 v113 v114 v115 v116 v117 v118 v119 v120 v121 v122 v123 v124 v125 v126 v127 v128 v129 v130 v131 v132 v133 v134 v135 v136 v137 v138 v139 v140 v141 v142 v143 v144 v145 v146 v147 v148 v149 v150 v151 v152 v153 v154 v155 v156 v157 v158 v159 v160 v161 v162 v163 v164 v165 v166 v167 v168 v169 v170 v171 v172 v173 v174 v175 v176 v177 v178 v179 v180 v181 v182 v183 v184 v185 v186 v187 v188 v189 v190 v191 v192 v193 v194 v195 v196 v197 v198 v199 v200 v201 v202 v203 v204 v205 v206 v207 v208 v209 v210 v211 v212 v213 v214 v215 v216 v217 v218 v219 v220 v221 v222 v223 v224 v225 v226 v227 v228 v229 v230 v231 v232 : Value) (z' : World), TkAt w z' B K Tb ⟨ask, want, come, lose, again, mix, deaf⟩ (askW V ⟨ask, want, come, lose, again, mix, deaf⟩) → Code.wp Try.prog c2 Q ⟨#[.pointer (some ⟨K, 0, none⟩), v1, v2, .pointer (some ⟨Tb, 0, none⟩), v4, v5, v6, v7, v8, v9, v10, v11, v12, v13, v14, v15, v16, v17, v18, v19, v20, v21, v22, v23, v24, v25, v26, v27, v28, v29, v30, v31, v32, v33, v34, v35, v36, v37, v38, v39, v40, v41, v42, v43, v44, v45, v46, v47, v48, v49, v50, v51, v52, v53, v54, v55, v56, v57, v58, v59, v60, v61, v62, v63, v64, v65, v66, v67, v68, v69, v70, v71, v72, v73, v74, v75, v76, v77, v78, v79, v80, v81, v82, v83, v84, v85, v86, v87, v88, v89, v90, v91, v92, v93, v94, v95, v96, v97, v98, v99, v100, v101, v102, v103, v104, v105, v106, v107, v108, v109, v110, v111, v112, v113, v114, v115, v116, v117, v118, v119, v120, v121, v122, v123, v124, v125, v126, v127, v128, v129, v130, v131, v132, v133, v134, v135, v136, v137, v138, v139, v140, v141, v142, v143, v144, v145, v146, v147, v148, v149, v150, v151, v152, v153, v154, v155, v156, v157, v158, v159, v160, v161, v162, v163, v164, v165, v166, v167, v168, v169, v170, v171, v172, v173, v174, v175, v176, v177, v178, v179, v180, v181, v182, v183, v184, v185, v186, v187, v188, v189, v190, v191, v192, v193, v194, v195, v196, v197, v198, v199, v200, v201, v202, v203, v204, v205, v206, v207, v208, v209, v210, v211, v212, v213, v214, v215, v216, v217, v218, v219, v220, v221, v222, v223, v224, v225, v226, v227, v228, v229, v230, v231, v232], []⟩ z') (h2 : ask.tmod 2 = -1) (hph : V.m.ph = 0) :
    Code.wp Try.prog (Code.seq (headC 1 Try.f22) c2) Q ⟨#[.pointer (some ⟨K, 0, none⟩), u1, u2, .pointer (some ⟨Tb, 0, none⟩), u4, u5, u6, u7, u8, u9, u10, u11, u12, u13, u14, u15, u16, u17, u18, u19, u20, u21, u22, u23, u24, u25, u26, u27, u28, u29, u30, u31, u32, u33, u34, u35, u36, u37, u38, u39, u40, u41, u42, u43, u44, u45, u46, u47, u48, u49, u50, u51, u52, u53, u54, u55, u56, u57, u58, u59, u60, u61, u62, u63, u64, u65, u66, u67, u68, u69, u70, u71, u72, u73, u74, u75, u76, u77, u78, u79, u80, u81, u82, u83, u84, u85, u86, u87, u88, u89, u90, u91, u92, u93, u94, u95, u96, u97, u98, u99, u100, u101, u102, u103, u104, u105, u106, u107, u108, u109, u110, u111, u112, u113, u114, u115, u116, u117, u118, u119, u120, u121, u122, u123, u124, u125, u126, u127, u128, u129, u130, u131, u132, u133, u134, u135, u136, u137, u138, u139, u140, u141, u142, u143, u144, u145, u146, u147, u148, u149, u150, u151, u152, u153, u154, u155, u156, u157, u158, u159, u160, u161, u162, u163, u164, u165, u166, u167, u168, u169, u170, u171, u172, u173, u174, u175, u176, u177, u178, u179, u180, u181, u182, u183, u184, u185, u186, u187, u188, u189, u190, u191, u192, u193, u194, u195, u196, u197, u198, u199, u200, u201, u202, u203, u204, u205, u206, u207, u208, u209, u210, u211, u212, u213, u214, u215, u216, u217, u218, u219, u220, u221, u222, u223, u224, u225, u226, u227, u228, u229, u230, u231, u232], []⟩ z := by
    refine wp_seq_k fun Kn hKn => ?_
    have HKn := hide' hKn
    have HT2 := hide' hT2
    have HQ := hide' hQ
    have HI := hide' hI
    have HA := hide' hA
    clear hKn hT2 hQ hI hA
    obtain ⟨i39, hi39, h390, h391, h392⟩ := info_parts Try.info39'
    obtain ⟨pv, dv, uv, ov, av, cv, hW⟩ := HA.out.wat
    obtain ⟨pa, pc, hpe⟩ := own_slice hW.pts
    subst hpe
    obtain ⟨qa, qc, hqe⟩ := own_slice hW.ak
    subst hqe
    have HW := hide' hW
    clear hW
    have hakb : V.asked.length ≤ 900 := Nat.le_trans HI.out.nT hT
    have c0 : z.cell? ⟨Tb, 0, none⟩ = some (.int .i64 ask) := (cells_at HA.out.box 0).trans rfl
    have hq2 : wrap64 (ask.tdiv 2) = ask.tdiv 2 := wrap64_ok (tdiv_bd (by decide) hsi)
    have hq1 : IntKind.i64.wrap (ask.tdiv 2) = ask.tdiv 2 := (IntWalk.i64_left _).trans hq2
    obtain ⟨pp, hpp⟩ : ∃ p, pickedI (ask.tdiv 2) (V.l.length : Int) = p := ⟨_, rfl⟩
    have HPP : Hid (pickedI (ask.tdiv 2) 4 = pp ∧ (0 ≤ pp ∧ pp ≤ 3) ∧ 0 < V.l.length ∧ V.l.length ≤ 3000000) := by
      have h4 := HI.out.l4
      have hb := picked_bd (n := ask.tdiv 2) (f := V.l.length) (by omega)
      rw [hpp] at hb
      rw [h4] at hpp hb
      exact ⟨hpp, by omega, by omega, by omega⟩
    conv => arg 2; whnf
    have hodd : ask.tmod 2 = 1 ∨ ask.tmod 2 = -1 := .inr h2
    obtain ⟨⟨n0, n1, n2, n3, n4, n5, n6, n7, n8, n9⟩, hM⟩ : ∃ M, M = askM V.m pp want := ⟨_, rfl⟩
    obtain ⟨os, hos⟩ : ∃ l, l = [(askM V.m pp want).msg] := ⟨_, rfl⟩
    have HAK : Hid (askW V ⟨ask, want, come, lose, again, mix, deaf⟩ = (⟨V.m, V.l, V.s, V.down, V.up, V.old, V.asked ++ [(⟨0, (V.asked.length : Int), pp, want⟩ : MsM)], V.acted⟩ : Wl).sent ⟨n0, n1, n2, n3, n4, n5, n6, n7, n8, n9⟩ os) := by
      show askW V ⟨ask, want, come, lose, again, mix, deaf⟩ = _
      unfold askW
      rw [if_pos ⟨hodd, hph⟩]
      simp only
      rw [HPP.out.1, hM, hos]
    have HMM : Hid (os.length ≤ 1) := by show os.length ≤ 1; rw [hos]; exact Nat.le_refl _
    have HC : Hid (∀ q, Calls Try.prog 12 #[.agg #[.int .i64 V.m.no, .int .i64 V.m.ph, .int .i64 V.m.now, .int .i64 V.m.pt, .bool V.m.want, .int .i64 V.m.timer, .int .i64 V.m.pat, .int .i64 V.m.tries, .int .i64 V.m.lim, .bool V.m.gave], .int .i64 pp, .bool want] q (fun e q' => ∃ v, e = .returned (.tuple #[.agg #[.int .i64 n0, .int .i64 n1, .int .i64 n2, .int .i64 n3, .bool n4, .int .i64 n5, .int .i64 n6, .int .i64 n7, .int .i64 n8, .bool n9], v, .int .i64 0]) ∧ q'.ownsRow q.heap.size 39 4 v os.length (msgs os) ∧ Below q.heap.size q q')) := fun q => by
      have h0 := Ask_rest V.m pp want q HI.out.may hph (by have := HPP.out.2.1; omega) (by have q1 := HI.out.no; have q2 := HI.out.nT; omega)
      rw [← hos, ← hM] at h0
      exact h0
    clear hM hos hodd hph
    go_upto_region 2 with fail
    clear c0
    have HS1 : Hid (z.drew.heap[K]? = some (.cells #[.int .i64 V.m.no, .int .i64 V.m.ph, .int .i64 V.m.now, .int .i64 V.m.pt, .bool V.m.want, .int .i64 V.m.timer, .int .i64 V.m.pat, .int .i64 V.m.tries, .int .i64 V.m.lim, .bool V.m.gave, .slice pa V.l.length pc, .int .i64 V.s.last, .int .i64 V.s.armed, .int .i64 V.s.point, .bool V.s.want, .int .i64 V.s.left, .int .i64 V.s.pat, dv, uv, ov, .slice qa V.asked.length qc, cv] 52 (0, 0)) ∧ z.drew.heap[Tb]? = some (.cells #[.int .i64 ask, .bool want, .int .i64 come, .int .i64 lose, .int .i64 again, .int .i64 mix, .bool deaf] 55 (0, 0))) := ⟨HW.out.cell, HA.out.box⟩
    refine wp_region_tail (fun W' => W'.heap[K]? = some (.cells #[.int .i64 V.m.no, .int .i64 V.m.ph, .int .i64 V.m.now, .int .i64 V.m.pt, .bool V.m.want, .int .i64 V.m.timer, .int .i64 V.m.pat, .int .i64 V.m.tries, .int .i64 V.m.lim, .bool V.m.gave, .slice pa V.l.length pc, .int .i64 V.s.last, .int .i64 V.s.armed, .int .i64 V.s.point, .bool V.s.want, .int .i64 V.s.left, .int .i64 V.s.pat, dv, uv, ov, .slice qa V.asked.length qc, cv] 52 (0, 0)) ∧ W'.heap[Tb]? = some (.cells #[.int .i64 ask, .bool want, .int .i64 come, .int .i64 lose, .int .i64 again, .int .i64 mix, .bool deaf] 55 (0, 0))) 10 (by kernel_rfl) ?_
    refine wpAnyD_takeAt 0 (some 30) (v := ?_) rfl (by kernel_rfl) (by kernel_rfl) (by kernel_rfl) (by kernel_rfl) (by kernel_rfl) (fun c a w h => HQ.out c _ _ w h) (by exact HS1.out) (fun o hop => ?_) ?_
    rotate_left
    · injection hop with hop
      subst hop
      refine ⟨rfl, fun W' hW => ?_⟩
      have g10 : W'.cell? ⟨K, 10, none⟩ = some (.slice pa V.l.length pc) := (cells_at hW.1 10).trans rfl
      have t0 : W'.cell? ⟨Tb, 0, none⟩ = some (.int .i64 ask) := (cells_at hW.2 0).trans rfl
      go_simp
      first
      | rfl
      | (constructor <;> rfl)
    try simp only [Act.put, List.setIfInBounds_toArray]
    refine wpAnyD_takeAt 1 (some 31) (v := ?_) rfl (by kernel_rfl) (by kernel_rfl) (by kernel_rfl) (by kernel_rfl) (by kernel_rfl) (fun c a w h => HQ.out c _ _ w h) (by exact HS1.out) (fun o hop => ?_) ?_
    rotate_left
    · injection hop with hop
      subst hop
      refine ⟨rfl, fun W' hW => ?_⟩
      have g10 : W'.cell? ⟨K, 10, none⟩ = some (.slice pa V.l.length pc) := (cells_at hW.1 10).trans rfl
      have t0 : W'.cell? ⟨Tb, 0, none⟩ = some (.int .i64 ask) := (cells_at hW.2 0).trans rfl
      go_simp
      first
      | rfl
      | (constructor <;> rfl)
    try simp only [Act.put, List.setIfInBounds_toArray]
    refine wpAnyD_takeAt 2 (some 32) (v := ?_) rfl (by kernel_rfl) (by kernel_rfl) (by kernel_rfl) (by kernel_rfl) (by kernel_rfl) (fun c a w h => HQ.out c _ _ w h) (by exact HS1.out) (fun o hop => ?_) ?_
    rotate_left
    · injection hop with hop
      subst hop
      refine ⟨rfl, fun W' hW => ?_⟩
      have g10 : W'.cell? ⟨K, 10, none⟩ = some (.slice pa V.l.length pc) := (cells_at hW.1 10).trans rfl
      have t0 : W'.cell? ⟨Tb, 0, none⟩ = some (.int .i64 ask) := (cells_at hW.2 0).trans rfl
      go_simp
      first
      | rfl
      | (constructor <;> rfl)
    try simp only [Act.put, List.setIfInBounds_toArray]
    refine wpAnyD_takeAt 3 (some 33) (v := ?_) rfl (by kernel_rfl) (by kernel_rfl) (by kernel_rfl) (by kernel_rfl) (by kernel_rfl) (fun c a w h => HQ.out c _ _ w h) (by exact HS1.out) (fun o hop => ?_) ?_
    rotate_left
    · injection hop with hop
      subst hop
      refine ⟨rfl, fun W' hW => ?_⟩
      have g10 : W'.cell? ⟨K, 10, none⟩ = some (.slice pa V.l.length pc) := (cells_at hW.1 10).trans rfl
      have t0 : W'.cell? ⟨Tb, 0, none⟩ = some (.int .i64 ask) := (cells_at hW.2 0).trans rfl
      go_simp
      first
      | rfl
      | (constructor <;> rfl)
    try simp only [Act.put, List.setIfInBounds_toArray]
    refine wpAnyD_takeAt 4 (some 34) (v := ?_) rfl (by kernel_rfl) (by kernel_rfl) (by kernel_rfl) (by kernel_rfl) (by kernel_rfl) (fun c a w h => HQ.out c _ _ w h) (by exact HS1.out) (fun o hop => ?_) ?_
    rotate_left
    · injection hop with hop
      subst hop
      refine ⟨rfl, fun W' hW => ?_⟩
      have g10 : W'.cell? ⟨K, 10, none⟩ = some (.slice pa V.l.length pc) := (cells_at hW.1 10).trans rfl
      have t0 : W'.cell? ⟨Tb, 0, none⟩ = some (.int .i64 ask) := (cells_at hW.2 0).trans rfl
      go_simp
      first
      | rfl
      | (constructor <;> rfl)
    try simp only [Act.put, List.setIfInBounds_toArray]
    refine wpAnyD_takeAt 5 (some 35) (v := ?_) rfl (by kernel_rfl) (by kernel_rfl) (by kernel_rfl) (by kernel_rfl) (by kernel_rfl) (fun c a w h => HQ.out c _ _ w h) (by exact HS1.out) (fun o hop => ?_) ?_
    rotate_left
    · injection hop with hop
      subst hop
      refine ⟨rfl, fun W' hW => ?_⟩
      have g10 : W'.cell? ⟨K, 10, none⟩ = some (.slice pa V.l.length pc) := (cells_at hW.1 10).trans rfl
      have t0 : W'.cell? ⟨Tb, 0, none⟩ = some (.int .i64 ask) := (cells_at hW.2 0).trans rfl
      go_simp
      first
      | rfl
      | (constructor <;> rfl)
    try simp only [Act.put, List.setIfInBounds_toArray]
    refine wpAnyD_takeAt 6 (some 36) (v := ?_) rfl (by kernel_rfl) (by kernel_rfl) (by kernel_rfl) (by kernel_rfl) (by kernel_rfl) (fun c a w h => HQ.out c _ _ w h) (by exact HS1.out) (fun o hop => ?_) ?_
    rotate_left
    · injection hop with hop
      subst hop
      refine ⟨rfl, fun W' hW => ?_⟩
      have g10 : W'.cell? ⟨K, 10, none⟩ = some (.slice pa V.l.length pc) := (cells_at hW.1 10).trans rfl
      have t0 : W'.cell? ⟨Tb, 0, none⟩ = some (.int .i64 ask) := (cells_at hW.2 0).trans rfl
      go_simp
      first
      | rfl
      | (constructor <;> rfl)
    try simp only [Act.put, List.setIfInBounds_toArray]
    refine wpAnyD_takeAt 7 (some 37) (v := ?_) rfl (by kernel_rfl) (by kernel_rfl) (by kernel_rfl) (by kernel_rfl) (by kernel_rfl) (fun c a w h => HQ.out c _ _ w h) (by exact HS1.out) (fun o hop => ?_) ?_
    rotate_left
    · injection hop with hop
      subst hop
      refine ⟨rfl, fun W' hW => ?_⟩
      have g10 : W'.cell? ⟨K, 10, none⟩ = some (.slice pa V.l.length pc) := (cells_at hW.1 10).trans rfl
      have t0 : W'.cell? ⟨Tb, 0, none⟩ = some (.int .i64 ask) := (cells_at hW.2 0).trans rfl
      go_simp
      first
      | rfl
      | (constructor <;> rfl)
    try simp only [Act.put, List.setIfInBounds_toArray]
    refine wpAnyD_takeAt 8 (some 38) (v := ?_) rfl (by kernel_rfl) (by kernel_rfl) (by kernel_rfl) (by kernel_rfl) (by kernel_rfl) (fun c a w h => HQ.out c _ _ w h) (by exact HS1.out) (fun o hop => ?_) ?_
    rotate_left
    · injection hop with hop
      subst hop
      refine ⟨rfl, fun W' hW => ?_⟩
      have g10 : W'.cell? ⟨K, 10, none⟩ = some (.slice pa V.l.length pc) := (cells_at hW.1 10).trans rfl
      have t0 : W'.cell? ⟨Tb, 0, none⟩ = some (.int .i64 ask) := (cells_at hW.2 0).trans rfl
      go_simp
      first
      | rfl
      | (constructor <;> rfl)
    try simp only [Act.put, List.setIfInBounds_toArray]
    refine wpAnyT_one (i := 9) (by kernel_rfl) rfl rfl (fun K' hK => ?_)
    go_simp
    go_at_call 20
    refine (picked_any (ask.tdiv 2) V.l.length (tdiv_bd (by decide) hsi) HPP.out.2.2.1 HPP.out.2.2.2 z.drew).mono ?_
    rintro e zz ⟨rfl, rfl⟩
    rw [hpp]
    refine hK.out _ _ (fun _ => HS1.out) ?_
    clear hK K'
    try simp only [Act.put, List.setIfInBounds_toArray]
    refine wpAnyT_one (i := 10) (by kernel_rfl) rfl rfl (fun K' hK => ?_)
    go_simp
    refine hK.out _ _ (fun h => absurd rfl h) ?_
    clear hK K'
    try simp only [Act.put, List.setIfInBounds_toArray]
    refine wpAnyT_done (by kernel_rfl) ?_ _
    clear HS1
    have HFN : Hid (WAt z.drew B K V (.slice pa V.l.length pc) dv uv ov (.slice qa V.asked.length qc) cv ∧ TkAt w z.drew B K Tb ⟨ask, want, come, lose, again, mix, deaf⟩ V) := ⟨HW.out.below (Below.refl _ z).drew, HA.out.below (Below.refl _ z).drew⟩
    clear HW HA
    go_upto_region 3 with fail
    refine code_letter (fun q => Hid (WAt q B K V (.slice pa V.l.length pc) dv uv ov (.slice qa V.asked.length qc) cv ∧ TkAt w q B K Tb ⟨ask, want, come, lose, again, mix, deaf⟩ V)) HFN.out ?_
    clear HFN
    intro z5 H5
    have HS1 : Hid (z5.drew.heap[K]? = some (.cells #[.int .i64 V.m.no, .int .i64 V.m.ph, .int .i64 V.m.now, .int .i64 V.m.pt, .bool V.m.want, .int .i64 V.m.timer, .int .i64 V.m.pat, .int .i64 V.m.tries, .int .i64 V.m.lim, .bool V.m.gave, .slice pa V.l.length pc, .int .i64 V.s.last, .int .i64 V.s.armed, .int .i64 V.s.point, .bool V.s.want, .int .i64 V.s.left, .int .i64 V.s.pat, dv, uv, ov, .slice qa V.asked.length qc, cv] 52 (0, 0)) ∧ z5.drew.heap[Tb]? = some (.cells #[.int .i64 ask, .bool want, .int .i64 come, .int .i64 lose, .int .i64 again, .int .i64 mix, .bool deaf] 55 (0, 0))) := ⟨H5.out.1.cell, H5.out.2.box⟩
    refine wp_region_tail (fun W' => W'.heap[K]? = some (.cells #[.int .i64 V.m.no, .int .i64 V.m.ph, .int .i64 V.m.now, .int .i64 V.m.pt, .bool V.m.want, .int .i64 V.m.timer, .int .i64 V.m.pat, .int .i64 V.m.tries, .int .i64 V.m.lim, .bool V.m.gave, .slice pa V.l.length pc, .int .i64 V.s.last, .int .i64 V.s.armed, .int .i64 V.s.point, .bool V.s.want, .int .i64 V.s.left, .int .i64 V.s.pat, dv, uv, ov, .slice qa V.asked.length qc, cv] 52 (0, 0)) ∧ W'.heap[Tb]? = some (.cells #[.int .i64 ask, .bool want, .int .i64 come, .int .i64 lose, .int .i64 again, .int .i64 mix, .bool deaf] 55 (0, 0))) 15 (by kernel_rfl) ?_
    refine wpAnyD_takeAt 0 (some 41) (v := ?_) rfl (by kernel_rfl) (by kernel_rfl) (by kernel_rfl) (by kernel_rfl) (by kernel_rfl) (fun c a w h => HQ.out c _ _ w h) (by exact HS1.out) (fun o hop => ?_) ?_
    rotate_left
    · injection hop with hop
      subst hop
      refine ⟨rfl, fun W' hW => ?_⟩
      obtain ⟨g0, g1, g2, g3, g4, g5, g6, g7, g8, g9⟩ := cellsP10 hW.1
      have t1 : W'.cell? ⟨Tb, 1, none⟩ = some (.bool want) := (cells_at hW.2 1).trans rfl
      go_simp
      first
      | rfl
      | (constructor <;> rfl)
    try simp only [Act.put, List.setIfInBounds_toArray]
    refine wpAnyD_takeAt 1 (some 42) (v := ?_) rfl (by kernel_rfl) (by kernel_rfl) (by kernel_rfl) (by kernel_rfl) (by kernel_rfl) (fun c a w h => HQ.out c _ _ w h) (by exact HS1.out) (fun o hop => ?_) ?_
    rotate_left
    · injection hop with hop
      subst hop
      refine ⟨rfl, fun W' hW => ?_⟩
      obtain ⟨g0, g1, g2, g3, g4, g5, g6, g7, g8, g9⟩ := cellsP10 hW.1
      have t1 : W'.cell? ⟨Tb, 1, none⟩ = some (.bool want) := (cells_at hW.2 1).trans rfl
      go_simp
      first
      | rfl
      | (constructor <;> rfl)
    try simp only [Act.put, List.setIfInBounds_toArray]
    refine wpAnyD_takeAt 2 (some 43) (v := ?_) rfl (by kernel_rfl) (by kernel_rfl) (by kernel_rfl) (by kernel_rfl) (by kernel_rfl) (fun c a w h => HQ.out c _ _ w h) (by exact HS1.out) (fun o hop => ?_) ?_
    rotate_left
    · injection hop with hop
      subst hop
      refine ⟨rfl, fun W' hW => ?_⟩
      obtain ⟨g0, g1, g2, g3, g4, g5, g6, g7, g8, g9⟩ := cellsP10 hW.1
      have t1 : W'.cell? ⟨Tb, 1, none⟩ = some (.bool want) := (cells_at hW.2 1).trans rfl
      go_simp
      first
      | rfl
      | (constructor <;> rfl)
    try simp only [Act.put, List.setIfInBounds_toArray]
    refine wpAnyD_takeAt 3 (some 44) (v := ?_) rfl (by kernel_rfl) (by kernel_rfl) (by kernel_rfl) (by kernel_rfl) (by kernel_rfl) (fun c a w h => HQ.out c _ _ w h) (by exact HS1.out) (fun o hop => ?_) ?_
    rotate_left
    · injection hop with hop
      subst hop
      refine ⟨rfl, fun W' hW => ?_⟩
      obtain ⟨g0, g1, g2, g3, g4, g5, g6, g7, g8, g9⟩ := cellsP10 hW.1
      have t1 : W'.cell? ⟨Tb, 1, none⟩ = some (.bool want) := (cells_at hW.2 1).trans rfl
      go_simp
      first
      | rfl
      | (constructor <;> rfl)
    try simp only [Act.put, List.setIfInBounds_toArray]
    refine wpAnyD_takeAt 4 (some 45) (v := ?_) rfl (by kernel_rfl) (by kernel_rfl) (by kernel_rfl) (by kernel_rfl) (by kernel_rfl) (fun c a w h => HQ.out c _ _ w h) (by exact HS1.out) (fun o hop => ?_) ?_
    rotate_left
    · injection hop with hop
      subst hop
      refine ⟨rfl, fun W' hW => ?_⟩
      obtain ⟨g0, g1, g2, g3, g4, g5, g6, g7, g8, g9⟩ := cellsP10 hW.1
      have t1 : W'.cell? ⟨Tb, 1, none⟩ = some (.bool want) := (cells_at hW.2 1).trans rfl
      go_simp
      first
      | rfl
      | (constructor <;> rfl)
    try simp only [Act.put, List.setIfInBounds_toArray]
    refine wpAnyD_takeAt 5 (some 46) (v := ?_) rfl (by kernel_rfl) (by kernel_rfl) (by kernel_rfl) (by kernel_rfl) (by kernel_rfl) (fun c a w h => HQ.out c _ _ w h) (by exact HS1.out) (fun o hop => ?_) ?_
    rotate_left
    · injection hop with hop
      subst hop
      refine ⟨rfl, fun W' hW => ?_⟩
      obtain ⟨g0, g1, g2, g3, g4, g5, g6, g7, g8, g9⟩ := cellsP10 hW.1
      have t1 : W'.cell? ⟨Tb, 1, none⟩ = some (.bool want) := (cells_at hW.2 1).trans rfl
      go_simp
      first
      | rfl
      | (constructor <;> rfl)
    try simp only [Act.put, List.setIfInBounds_toArray]
    refine wpAnyD_takeAt 6 (some 47) (v := ?_) rfl (by kernel_rfl) (by kernel_rfl) (by kernel_rfl) (by kernel_rfl) (by kernel_rfl) (fun c a w h => HQ.out c _ _ w h) (by exact HS1.out) (fun o hop => ?_) ?_
    rotate_left
    · injection hop with hop
      subst hop
      refine ⟨rfl, fun W' hW => ?_⟩
      obtain ⟨g0, g1, g2, g3, g4, g5, g6, g7, g8, g9⟩ := cellsP10 hW.1
      have t1 : W'.cell? ⟨Tb, 1, none⟩ = some (.bool want) := (cells_at hW.2 1).trans rfl
      go_simp
      first
      | rfl
      | (constructor <;> rfl)
    try simp only [Act.put, List.setIfInBounds_toArray]
    refine wpAnyT_two (i := 7) (j := 12) (by kernel_rfl) rfl rfl rfl rfl (fun K' hK => ?_) (fun K' hK => ?_)
    · go_simp
      go_at_call 12
      refine (HC.out z5.drew).mono ?_
      rintro e z6 ⟨v, rfl, hrb, hb6⟩
      obtain ⟨la, lc, hve⟩ := own_slice hrb
      subst hve
      have hb1 : Below z5.heap.size z5 z6 := ⟨hb6.os, hb6.tape, hb6.output, hb6.size, hb6.block⟩
      have HS4 : Hid (z6.heap[K]? = some (.cells #[.int .i64 V.m.no, .int .i64 V.m.ph, .int .i64 V.m.now, .int .i64 V.m.pt, .bool V.m.want, .int .i64 V.m.timer, .int .i64 V.m.pat, .int .i64 V.m.tries, .int .i64 V.m.lim, .bool V.m.gave, .slice pa V.l.length pc, .int .i64 V.s.last, .int .i64 V.s.armed, .int .i64 V.s.point, .bool V.s.want, .int .i64 V.s.left, .int .i64 V.s.pat, dv, uv, ov, .slice qa V.asked.length qc, cv] 52 (0, 0)) ∧ z6.heap[Tb]? = some (.cells #[.int .i64 ask, .bool want, .int .i64 come, .int .i64 lose, .int .i64 again, .int .i64 mix, .bool deaf] 55 (0, 0))) := ⟨(hb1.block K (lt_heap HS1.out.1)).trans HS1.out.1, (hb1.block Tb (lt_heap HS1.out.2)).trans HS1.out.2⟩
      refine hK.out _ _ (fun _ => HS4.out) ?_
      clear hK K'
      try simp only [Act.put, List.setIfInBounds_toArray]
      refine wpAnyD_takeAt 8 (some 40) (v := ?_) rfl (by kernel_rfl) (by kernel_rfl) (by kernel_rfl) (by kernel_rfl) (by kernel_rfl) (fun c a w h => HQ.out c _ _ w h) (by exact HS4.out) (fun o hop => ?_) ?_
      rotate_left
      · injection hop with hop
        subst hop
        refine ⟨rfl, fun W' hW => ?_⟩
        obtain ⟨g0, g1, g2, g3, g4, g5, g6, g7, g8, g9⟩ := cellsP10 hW.1
        have t1 : W'.cell? ⟨Tb, 1, none⟩ = some (.bool want) := (cells_at hW.2 1).trans rfl
        go_simp
        first
        | rfl
        | (constructor <;> rfl)
      try simp only [Act.put, List.setIfInBounds_toArray]
      refine wpAnyD_takeAt 9 (some 49) (v := ?_) rfl (by kernel_rfl) (by kernel_rfl) (by kernel_rfl) (by kernel_rfl) (by kernel_rfl) (fun c a w h => HQ.out c _ _ w h) (by exact HS4.out) (fun o hop => ?_) ?_
      rotate_left
      · injection hop with hop
        subst hop
        refine ⟨rfl, fun W' hW => ?_⟩
        obtain ⟨g0, g1, g2, g3, g4, g5, g6, g7, g8, g9⟩ := cellsP10 hW.1
        have t1 : W'.cell? ⟨Tb, 1, none⟩ = some (.bool want) := (cells_at hW.2 1).trans rfl
        go_simp
        first
        | rfl
        | (constructor <;> rfl)
      try simp only [Act.put, List.setIfInBounds_toArray]
      refine wpAnyD_takeAt 10 (some 50) (v := ?_) rfl (by kernel_rfl) (by kernel_rfl) (by kernel_rfl) (by kernel_rfl) (by kernel_rfl) (fun c a w h => HQ.out c _ _ w h) (by exact HS4.out) (fun o hop => ?_) ?_
      rotate_left
      · injection hop with hop
        subst hop
        refine ⟨rfl, fun W' hW => ?_⟩
        obtain ⟨g0, g1, g2, g3, g4, g5, g6, g7, g8, g9⟩ := cellsP10 hW.1
        have t1 : W'.cell? ⟨Tb, 1, none⟩ = some (.bool want) := (cells_at hW.2 1).trans rfl
        go_simp
        first
        | rfl
        | (constructor <;> rfl)
      try simp only [Act.put, List.setIfInBounds_toArray]
      refine wpAnyD_takeAt 11 (some 51) (v := ?_) rfl (by kernel_rfl) (by kernel_rfl) (by kernel_rfl) (by kernel_rfl) (by kernel_rfl) (fun c a w h => HQ.out c _ _ w h) (by exact HS4.out) (fun o hop => ?_) ?_
      rotate_left
      · injection hop with hop
        subst hop
        refine ⟨rfl, fun W' hW => ?_⟩
        obtain ⟨g0, g1, g2, g3, g4, g5, g6, g7, g8, g9⟩ := cellsP10 hW.1
        have t1 : W'.cell? ⟨Tb, 1, none⟩ = some (.bool want) := (cells_at hW.2 1).trans rfl
        go_simp
        first
        | rfl
        | (constructor <;> rfl)
      try simp only [Act.put, List.setIfInBounds_toArray]
      have hba := below_al z6 (.cells #[.int .i64 0, .int .i64 0, .int .i64 0, .int .i64 0, .bool false, .int .i64 0, .int .i64 0, .int .i64 0, .int .i64 0, .bool false] 32)
      have HEz := hide' (alloc_new z6 (.cells #[.int .i64 0, .int .i64 0, .int .i64 0, .int .i64 0, .bool false, .int .i64 0, .int .i64 0, .int .i64 0, .int .i64 0, .bool false] 32))
      refine wpAnyT_one (i := 12) (by kernel_rfl) rfl rfl (fun K' hK => ?_)
      go_simp
      have HSz : Hid ((z6.alloc (.cells #[.int .i64 0, .int .i64 0, .int .i64 0, .int .i64 0, .bool false, .int .i64 0, .int .i64 0, .int .i64 0, .int .i64 0, .bool false] 32)).heap[K]? = some (.cells #[.int .i64 V.m.no, .int .i64 V.m.ph, .int .i64 V.m.now, .int .i64 V.m.pt, .bool V.m.want, .int .i64 V.m.timer, .int .i64 V.m.pat, .int .i64 V.m.tries, .int .i64 V.m.lim, .bool V.m.gave, .slice pa V.l.length pc, .int .i64 V.s.last, .int .i64 V.s.armed, .int .i64 V.s.point, .bool V.s.want, .int .i64 V.s.left, .int .i64 V.s.pat, dv, uv, ov, .slice qa V.asked.length qc, cv] 52 (0, 0)) ∧ (z6.alloc (.cells #[.int .i64 0, .int .i64 0, .int .i64 0, .int .i64 0, .bool false, .int .i64 0, .int .i64 0, .int .i64 0, .int .i64 0, .bool false] 32)).heap[Tb]? = some (.cells #[.int .i64 ask, .bool want, .int .i64 come, .int .i64 lose, .int .i64 again, .int .i64 mix, .bool deaf] 55 (0, 0))) := ⟨(hba.block K (lt_heap HS4.out.1)).trans HS4.out.1, (hba.block Tb (lt_heap HS4.out.2)).trans HS4.out.2⟩
      refine hK.out _ _ (fun _ => HSz.out) ?_
      clear hK K'
      try simp only [Act.put, List.setIfInBounds_toArray]
      have HRB := hide' (own_mono (own_below hrb hba (Nat.le_refl _)) (Nat.zero_le _))
      have HLV : Hid (Apart (.slice la os.length lc) dv ∧ Apart (.slice la os.length lc) (.slice qa V.asked.length qc)) := ⟨apart_late H5.out.1.dn hrb, apart_late H5.out.1.ak hrb⟩
      have HWz := hide' ((H5.out.1.below hb1).below hba)
      have HBz := hide' ((H5.out.2.below hb1).below hba)
      obtain ⟨E, hE⟩ : ∃ q, q = z6.heap.size := ⟨_, rfl⟩
      have HEK : Hid (K ≠ E ∧ Tb ≠ E ∧ B ≤ E) := by have q1 := lt_heap HS4.out.1; have q2 := lt_heap HS4.out.2; have q3 := (H5.out.2.below hb1).bs; show _ ∧ _ ∧ _; omega
      obtain ⟨y, hz⟩ : ∃ q, q = z6.alloc (.cells #[.int .i64 0, .int .i64 0, .int .i64 0, .int .i64 0, .bool false, .int .i64 0, .int .i64 0, .int .i64 0, .int .i64 0, .bool false] 32) := ⟨_, rfl⟩
      rw [← hE, ← hz] at HEz
      rw [← hz] at HSz HRB HWz HBz ⊢
      rw [show (Value.pointer (some { block := z6.heap.size, off := 0 })) = Value.pointer (some { block := E, off := 0 }) by rw [hE]]
      clear hE hz hba hrb hb6 hb1 HS4 HS1 H5 HC
      obtain ⟨b0, b1, b2, b3, b4, b5, b6, b7, b8, b9⟩ := cellsP10 HEz.out
      obtain ⟨e0, e1, e2, e3, e4, e5, e6, e7, e8, e9⟩ := frozenP10 HEz.out
      have HPE := hide' (put10 HEz.out (.int .i64 n0) (.int .i64 n1) (.int .i64 n2) (.int .i64 n3) (.bool n4) (.int .i64 n5) (.int .i64 n6) (.int .i64 n7) (.int .i64 n8) (.bool n9))
      have HSF : Hid (((((((((((y.setCell ⟨E, 0, none⟩ (.int .i64 n0)).setCell ⟨E, 1, none⟩ (.int .i64 n1)).setCell ⟨E, 2, none⟩ (.int .i64 n2)).setCell ⟨E, 3, none⟩ (.int .i64 n3)).setCell ⟨E, 4, none⟩ (.bool n4)).setCell ⟨E, 5, none⟩ (.int .i64 n5)).setCell ⟨E, 6, none⟩ (.int .i64 n6)).setCell ⟨E, 7, none⟩ (.int .i64 n7)).setCell ⟨E, 8, none⟩ (.int .i64 n8)).setCell ⟨E, 9, none⟩ (.bool n9)).heap[K]? = some (.cells #[.int .i64 V.m.no, .int .i64 V.m.ph, .int .i64 V.m.now, .int .i64 V.m.pt, .bool V.m.want, .int .i64 V.m.timer, .int .i64 V.m.pat, .int .i64 V.m.tries, .int .i64 V.m.lim, .bool V.m.gave, .slice pa V.l.length pc, .int .i64 V.s.last, .int .i64 V.s.armed, .int .i64 V.s.point, .bool V.s.want, .int .i64 V.s.left, .int .i64 V.s.pat, dv, uv, ov, .slice qa V.asked.length qc, cv] 52 (0, 0)) ∧ ((((((((((y.setCell ⟨E, 0, none⟩ (.int .i64 n0)).setCell ⟨E, 1, none⟩ (.int .i64 n1)).setCell ⟨E, 2, none⟩ (.int .i64 n2)).setCell ⟨E, 3, none⟩ (.int .i64 n3)).setCell ⟨E, 4, none⟩ (.bool n4)).setCell ⟨E, 5, none⟩ (.int .i64 n5)).setCell ⟨E, 6, none⟩ (.int .i64 n6)).setCell ⟨E, 7, none⟩ (.int .i64 n7)).setCell ⟨E, 8, none⟩ (.int .i64 n8)).setCell ⟨E, 9, none⟩ (.bool n9)).heap[Tb]? = some (.cells #[.int .i64 ask, .bool want, .int .i64 come, .int .i64 lose, .int .i64 again, .int .i64 mix, .bool deaf] 55 (0, 0))) := ⟨(HPE.out.2.block K (lt_heap HSz.out.1) HEK.out.1).trans HSz.out.1, (HPE.out.2.block Tb (lt_heap HSz.out.2) HEK.out.2.1).trans HSz.out.2⟩
      have HFN : Hid (((((((((((y.setCell ⟨E, 0, none⟩ (.int .i64 n0)).setCell ⟨E, 1, none⟩ (.int .i64 n1)).setCell ⟨E, 2, none⟩ (.int .i64 n2)).setCell ⟨E, 3, none⟩ (.int .i64 n3)).setCell ⟨E, 4, none⟩ (.bool n4)).setCell ⟨E, 5, none⟩ (.int .i64 n5)).setCell ⟨E, 6, none⟩ (.int .i64 n6)).setCell ⟨E, 7, none⟩ (.int .i64 n7)).setCell ⟨E, 8, none⟩ (.int .i64 n8)).setCell ⟨E, 9, none⟩ (.bool n9)).heap[E]? = some (.cells #[.int .i64 n0, .int .i64 n1, .int .i64 n2, .int .i64 n3, .bool n4, .int .i64 n5, .int .i64 n6, .int .i64 n7, .int .i64 n8, .bool n9] 32 (0, 0)) ∧ ((((((((((y.setCell ⟨E, 0, none⟩ (.int .i64 n0)).setCell ⟨E, 1, none⟩ (.int .i64 n1)).setCell ⟨E, 2, none⟩ (.int .i64 n2)).setCell ⟨E, 3, none⟩ (.int .i64 n3)).setCell ⟨E, 4, none⟩ (.bool n4)).setCell ⟨E, 5, none⟩ (.int .i64 n5)).setCell ⟨E, 6, none⟩ (.int .i64 n6)).setCell ⟨E, 7, none⟩ (.int .i64 n7)).setCell ⟨E, 8, none⟩ (.int .i64 n8)).setCell ⟨E, 9, none⟩ (.bool n9)).ownsRow 0 39 4 (.slice la os.length lc) os.length (msgs os) ∧ WAt ((((((((((y.setCell ⟨E, 0, none⟩ (.int .i64 n0)).setCell ⟨E, 1, none⟩ (.int .i64 n1)).setCell ⟨E, 2, none⟩ (.int .i64 n2)).setCell ⟨E, 3, none⟩ (.int .i64 n3)).setCell ⟨E, 4, none⟩ (.bool n4)).setCell ⟨E, 5, none⟩ (.int .i64 n5)).setCell ⟨E, 6, none⟩ (.int .i64 n6)).setCell ⟨E, 7, none⟩ (.int .i64 n7)).setCell ⟨E, 8, none⟩ (.int .i64 n8)).setCell ⟨E, 9, none⟩ (.bool n9)) B K V (.slice pa V.l.length pc) dv uv ov (.slice qa V.asked.length qc) cv ∧ TkAt w ((((((((((y.setCell ⟨E, 0, none⟩ (.int .i64 n0)).setCell ⟨E, 1, none⟩ (.int .i64 n1)).setCell ⟨E, 2, none⟩ (.int .i64 n2)).setCell ⟨E, 3, none⟩ (.int .i64 n3)).setCell ⟨E, 4, none⟩ (.bool n4)).setCell ⟨E, 5, none⟩ (.int .i64 n5)).setCell ⟨E, 6, none⟩ (.int .i64 n6)).setCell ⟨E, 7, none⟩ (.int .i64 n7)).setCell ⟨E, 8, none⟩ (.int .i64 n8)).setCell ⟨E, 9, none⟩ (.bool n9)) B K Tb ⟨ask, want, come, lose, again, mix, deaf⟩ V) := ⟨HPE.out.1, own_putE HRB.out HEz.out HPE.out.2 (by decide), HWz.out.putE HEz.out HPE.out.2 HEK.out.1 (by decide) (by decide) (by decide), HBz.out.next ⟨_, _, _, _, _, _, HWz.out.putE HEz.out HPE.out.2 HEK.out.1 (by decide) (by decide) (by decide)⟩ (but_bl HPE.out.2 HEz.out (by decide) HEK.out.2.2 HBz.out.bs)⟩
      clear HRB HWz HBz
      refine wpAnyT_one (i := 13) (by kernel_rfl) rfl rfl (fun K' hK => ?_)
      go_simp
      refine hK.out _ _ (fun _ => HSF.out) ?_
      clear hK K'
      try simp only [Act.put, List.setIfInBounds_toArray]
      refine wpAnyT_one (i := 14) (by kernel_rfl) rfl rfl (fun K' hK => ?_)
      go_simp
      refine hK.out _ _ (fun _ => HSF.out) ?_
      clear hK K'
      try simp only [Act.put, List.setIfInBounds_toArray]
      refine wpAnyT_one (i := 15) (by kernel_rfl) rfl rfl (fun K' hK => ?_)
      go_simp
      refine hK.out _ _ (fun h => absurd rfl h) ?_
      clear hK K'
      try simp only [Act.put, List.setIfInBounds_toArray]
      refine wpAnyT_done (by kernel_rfl) ?_ _
      clear b0 b1 b2 b3 b4 b5 b6 b7 b8 b9 e0 e1 e2 e3 e4 e5 e6 e7 e8 e9 HPE HEz HSz HSF
      go_upto_region 4 with fail
      refine code_letter (fun q => Hid (q.heap[E]? = some (.cells #[.int .i64 n0, .int .i64 n1, .int .i64 n2, .int .i64 n3, .bool n4, .int .i64 n5, .int .i64 n6, .int .i64 n7, .int .i64 n8, .bool n9] 32 (0, 0)) ∧ q.ownsRow 0 39 4 (.slice la os.length lc) os.length (msgs os) ∧ WAt q B K V (.slice pa V.l.length pc) dv uv ov (.slice qa V.asked.length qc) cv ∧ TkAt w q B K Tb ⟨ask, want, come, lose, again, mix, deaf⟩ V)) HFN.out ?_
      clear HFN
      intro z7 H7
      go_upto_region 5 with fail
      have HS1 : Hid (z7.drew.heap[K]? = some (.cells #[.int .i64 V.m.no, .int .i64 V.m.ph, .int .i64 V.m.now, .int .i64 V.m.pt, .bool V.m.want, .int .i64 V.m.timer, .int .i64 V.m.pat, .int .i64 V.m.tries, .int .i64 V.m.lim, .bool V.m.gave, .slice pa V.l.length pc, .int .i64 V.s.last, .int .i64 V.s.armed, .int .i64 V.s.point, .bool V.s.want, .int .i64 V.s.left, .int .i64 V.s.pat, dv, uv, ov, .slice qa V.asked.length qc, cv] 52 (0, 0)) ∧ z7.drew.heap[Tb]? = some (.cells #[.int .i64 ask, .bool want, .int .i64 come, .int .i64 lose, .int .i64 again, .int .i64 mix, .bool deaf] 55 (0, 0))) := ⟨H7.out.2.2.1.cell, H7.out.2.2.2.box⟩
      refine wp_region_tail (fun W' => W'.heap[K]? = some (.cells #[.int .i64 V.m.no, .int .i64 V.m.ph, .int .i64 V.m.now, .int .i64 V.m.pt, .bool V.m.want, .int .i64 V.m.timer, .int .i64 V.m.pat, .int .i64 V.m.tries, .int .i64 V.m.lim, .bool V.m.gave, .slice pa V.l.length pc, .int .i64 V.s.last, .int .i64 V.s.armed, .int .i64 V.s.point, .bool V.s.want, .int .i64 V.s.left, .int .i64 V.s.pat, dv, uv, ov, .slice qa V.asked.length qc, cv] 52 (0, 0)) ∧ W'.heap[Tb]? = some (.cells #[.int .i64 ask, .bool want, .int .i64 come, .int .i64 lose, .int .i64 again, .int .i64 mix, .bool deaf] 55 (0, 0))) 18 (by kernel_rfl) ?_
      refine wpAnyD_takeAt 0 (some 54) (v := ?_) rfl (by kernel_rfl) (by kernel_rfl) (by kernel_rfl) (by kernel_rfl) (by kernel_rfl) (fun c a w h => HQ.out c _ _ w h) (by exact HS1.out) (fun o hop => ?_) ?_
      rotate_left
      · injection hop with hop
        subst hop
        refine ⟨rfl, fun W' hW => ?_⟩
        have g20 : W'.cell? ⟨K, 20, none⟩ = some (.slice qa V.asked.length qc) := (cells_at hW.1 20).trans rfl
        have t1 : W'.cell? ⟨Tb, 1, none⟩ = some (.bool want) := (cells_at hW.2 1).trans rfl
        go_simp
        first
        | rfl
        | (constructor <;> rfl)
      try simp only [Act.put, List.setIfInBounds_toArray]
      refine wpAnyD_takeAt 1 (some 55) (v := ?_) rfl (by kernel_rfl) (by kernel_rfl) (by kernel_rfl) (by kernel_rfl) (by kernel_rfl) (fun c a w h => HQ.out c _ _ w h) (by exact HS1.out) (fun o hop => ?_) ?_
      rotate_left
      · injection hop with hop
        subst hop
        refine ⟨rfl, fun W' hW => ?_⟩
        have g20 : W'.cell? ⟨K, 20, none⟩ = some (.slice qa V.asked.length qc) := (cells_at hW.1 20).trans rfl
        have t1 : W'.cell? ⟨Tb, 1, none⟩ = some (.bool want) := (cells_at hW.2 1).trans rfl
        go_simp
        first
        | rfl
        | (constructor <;> rfl)
      try simp only [Act.put, List.setIfInBounds_toArray]
      refine wpAnyD_takeAt 2 (some 56) (v := ?_) rfl (by kernel_rfl) (by kernel_rfl) (by kernel_rfl) (by kernel_rfl) (by kernel_rfl) (fun c a w h => HQ.out c _ _ w h) (by exact HS1.out) (fun o hop => ?_) ?_
      rotate_left
      · injection hop with hop
        subst hop
        refine ⟨rfl, fun W' hW => ?_⟩
        have g20 : W'.cell? ⟨K, 20, none⟩ = some (.slice qa V.asked.length qc) := (cells_at hW.1 20).trans rfl
        have t1 : W'.cell? ⟨Tb, 1, none⟩ = some (.bool want) := (cells_at hW.2 1).trans rfl
        go_simp
        first
        | rfl
        | (constructor <;> rfl)
      try simp only [Act.put, List.setIfInBounds_toArray]
      refine wpAnyD_takeAt 3 (some 57) (v := ?_) rfl (by kernel_rfl) (by kernel_rfl) (by kernel_rfl) (by kernel_rfl) (by kernel_rfl) (fun c a w h => HQ.out c _ _ w h) (by exact HS1.out) (fun o hop => ?_) ?_
      rotate_left
      · injection hop with hop
        subst hop
        refine ⟨rfl, fun W' hW => ?_⟩
        have g20 : W'.cell? ⟨K, 20, none⟩ = some (.slice qa V.asked.length qc) := (cells_at hW.1 20).trans rfl
        have t1 : W'.cell? ⟨Tb, 1, none⟩ = some (.bool want) := (cells_at hW.2 1).trans rfl
        go_simp
        first
        | rfl
        | (constructor <;> rfl)
      try simp only [Act.put, List.setIfInBounds_toArray]
      refine wpAnyD_takeAt 4 (some 58) (v := ?_) rfl (by kernel_rfl) (by kernel_rfl) (by kernel_rfl) (by kernel_rfl) (by kernel_rfl) (fun c a w h => HQ.out c _ _ w h) (by exact HS1.out) (fun o hop => ?_) ?_
      rotate_left
      · injection hop with hop
        subst hop
        refine ⟨rfl, fun W' hW => ?_⟩
        have g20 : W'.cell? ⟨K, 20, none⟩ = some (.slice qa V.asked.length qc) := (cells_at hW.1 20).trans rfl
        have t1 : W'.cell? ⟨Tb, 1, none⟩ = some (.bool want) := (cells_at hW.2 1).trans rfl
        go_simp
        first
        | rfl
        | (constructor <;> rfl)
      try simp only [Act.put, List.setIfInBounds_toArray]
      refine wpAnyD_takeAt 5 (some 59) (v := ?_) rfl (by kernel_rfl) (by kernel_rfl) (by kernel_rfl) (by kernel_rfl) (by kernel_rfl) (fun c a w h => HQ.out c _ _ w h) (by exact HS1.out) (fun o hop => ?_) ?_
      rotate_left
      · injection hop with hop
        subst hop
        refine ⟨rfl, fun W' hW => ?_⟩
        have g20 : W'.cell? ⟨K, 20, none⟩ = some (.slice qa V.asked.length qc) := (cells_at hW.1 20).trans rfl
        have t1 : W'.cell? ⟨Tb, 1, none⟩ = some (.bool want) := (cells_at hW.2 1).trans rfl
        go_simp
        first
        | rfl
        | (constructor <;> rfl)
      try simp only [Act.put, List.setIfInBounds_toArray]
      refine wpAnyD_takeAt 6 (some 60) (v := ?_) rfl (by kernel_rfl) (by kernel_rfl) (by kernel_rfl) (by kernel_rfl) (by kernel_rfl) (fun c a w h => HQ.out c _ _ w h) (by exact HS1.out) (fun o hop => ?_) ?_
      rotate_left
      · injection hop with hop
        subst hop
        refine ⟨rfl, fun W' hW => ?_⟩
        have g20 : W'.cell? ⟨K, 20, none⟩ = some (.slice qa V.asked.length qc) := (cells_at hW.1 20).trans rfl
        have t1 : W'.cell? ⟨Tb, 1, none⟩ = some (.bool want) := (cells_at hW.2 1).trans rfl
        go_simp
        first
        | rfl
        | (constructor <;> rfl)
      try simp only [Act.put, List.setIfInBounds_toArray]
      refine wpAnyD_takeAt 7 (some 61) (v := ?_) rfl (by kernel_rfl) (by kernel_rfl) (by kernel_rfl) (by kernel_rfl) (by kernel_rfl) (fun c a w h => HQ.out c _ _ w h) (by exact HS1.out) (fun o hop => ?_) ?_
      rotate_left
      · injection hop with hop
        subst hop
        refine ⟨rfl, fun W' hW => ?_⟩
        have g20 : W'.cell? ⟨K, 20, none⟩ = some (.slice qa V.asked.length qc) := (cells_at hW.1 20).trans rfl
        have t1 : W'.cell? ⟨Tb, 1, none⟩ = some (.bool want) := (cells_at hW.2 1).trans rfl
        go_simp
        first
        | rfl
        | (constructor <;> rfl)
      try simp only [Act.put, List.setIfInBounds_toArray]
      refine wpAnyD_takeAt 8 (some 62) (v := ?_) rfl (by kernel_rfl) (by kernel_rfl) (by kernel_rfl) (by kernel_rfl) (by kernel_rfl) (fun c a w h => HQ.out c _ _ w h) (by exact HS1.out) (fun o hop => ?_) ?_
      rotate_left
      · injection hop with hop
        subst hop
        refine ⟨rfl, fun W' hW => ?_⟩
        have g20 : W'.cell? ⟨K, 20, none⟩ = some (.slice qa V.asked.length qc) := (cells_at hW.1 20).trans rfl
        have t1 : W'.cell? ⟨Tb, 1, none⟩ = some (.bool want) := (cells_at hW.2 1).trans rfl
        go_simp
        first
        | rfl
        | (constructor <;> rfl)
      try simp only [Act.put, List.setIfInBounds_toArray]
      refine wpAnyD_takeAt 9 (some 63) (v := ?_) rfl (by kernel_rfl) (by kernel_rfl) (by kernel_rfl) (by kernel_rfl) (by kernel_rfl) (fun c a w h => HQ.out c _ _ w h) (by exact HS1.out) (fun o hop => ?_) ?_
      rotate_left
      · injection hop with hop
        subst hop
        refine ⟨rfl, fun W' hW => ?_⟩
        have g20 : W'.cell? ⟨K, 20, none⟩ = some (.slice qa V.asked.length qc) := (cells_at hW.1 20).trans rfl
        have t1 : W'.cell? ⟨Tb, 1, none⟩ = some (.bool want) := (cells_at hW.2 1).trans rfl
        go_simp
        first
        | rfl
        | (constructor <;> rfl)
      try simp only [Act.put, List.setIfInBounds_toArray]
      refine wpAnyD_takeAt 10 (some 64) (v := ?_) rfl (by kernel_rfl) (by kernel_rfl) (by kernel_rfl) (by kernel_rfl) (by kernel_rfl) (fun c a w h => HQ.out c _ _ w h) (by exact HS1.out) (fun o hop => ?_) ?_
      rotate_left
      · injection hop with hop
        subst hop
        refine ⟨rfl, fun W' hW => ?_⟩
        have g20 : W'.cell? ⟨K, 20, none⟩ = some (.slice qa V.asked.length qc) := (cells_at hW.1 20).trans rfl
        have t1 : W'.cell? ⟨Tb, 1, none⟩ = some (.bool want) := (cells_at hW.2 1).trans rfl
        go_simp
        first
        | rfl
        | (constructor <;> rfl)
      try simp only [Act.put, List.setIfInBounds_toArray]
      refine wpAnyD_takeAt 11 (some 65) (v := ?_) rfl (by kernel_rfl) (by kernel_rfl) (by kernel_rfl) (by kernel_rfl) (by kernel_rfl) (fun c a w h => HQ.out c _ _ w h) (by exact HS1.out) (fun o hop => ?_) ?_
      rotate_left
      · injection hop with hop
        subst hop
        refine ⟨rfl, fun W' hW => ?_⟩
        have g20 : W'.cell? ⟨K, 20, none⟩ = some (.slice qa V.asked.length qc) := (cells_at hW.1 20).trans rfl
        have t1 : W'.cell? ⟨Tb, 1, none⟩ = some (.bool want) := (cells_at hW.2 1).trans rfl
        go_simp
        first
        | rfl
        | (constructor <;> rfl)
      try simp only [Act.put, List.setIfInBounds_toArray]
      refine wpAnyD_takeAt 12 (some 66) (v := ?_) rfl (by kernel_rfl) (by kernel_rfl) (by kernel_rfl) (by kernel_rfl) (by kernel_rfl) (fun c a w h => HQ.out c _ _ w h) (by exact HS1.out) (fun o hop => ?_) ?_
      rotate_left
      · injection hop with hop
        subst hop
        refine ⟨rfl, fun W' hW => ?_⟩
        have g20 : W'.cell? ⟨K, 20, none⟩ = some (.slice qa V.asked.length qc) := (cells_at hW.1 20).trans rfl
        have t1 : W'.cell? ⟨Tb, 1, none⟩ = some (.bool want) := (cells_at hW.2 1).trans rfl
        go_simp
        first
        | rfl
        | (constructor <;> rfl)
      try simp only [Act.put, List.setIfInBounds_toArray]
      refine wpAnyD_takeAt 13 (some 67) (v := ?_) rfl (by kernel_rfl) (by kernel_rfl) (by kernel_rfl) (by kernel_rfl) (by kernel_rfl) (fun c a w h => HQ.out c _ _ w h) (by exact HS1.out) (fun o hop => ?_) ?_
      rotate_left
      · injection hop with hop
        subst hop
        refine ⟨rfl, fun W' hW => ?_⟩
        have g20 : W'.cell? ⟨K, 20, none⟩ = some (.slice qa V.asked.length qc) := (cells_at hW.1 20).trans rfl
        have t1 : W'.cell? ⟨Tb, 1, none⟩ = some (.bool want) := (cells_at hW.2 1).trans rfl
        go_simp
        first
        | rfl
        | (constructor <;> rfl)
      try simp only [Act.put, List.setIfInBounds_toArray]
      have hba := below_al z7.drew (.cells #[.int .i64 0, .int .i64 (V.asked.length : Int), .int .i64 pp, .bool want] 39)
      have hb1 : Below z7.heap.size z7 (z7.drew.alloc (.cells #[.int .i64 0, .int .i64 (V.asked.length : Int), .int .i64 pp, .bool want] 39)) := (Below.refl _ z7).drew.trans hba
      have HNW := hide' (alloc_new z7.drew (.cells #[.int .i64 0, .int .i64 (V.asked.length : Int), .int .i64 pp, .bool want] 39))
      have HS2 : Hid ((z7.drew.alloc (.cells #[.int .i64 0, .int .i64 (V.asked.length : Int), .int .i64 pp, .bool want] 39)).heap[K]? = some (.cells #[.int .i64 V.m.no, .int .i64 V.m.ph, .int .i64 V.m.now, .int .i64 V.m.pt, .bool V.m.want, .int .i64 V.m.timer, .int .i64 V.m.pat, .int .i64 V.m.tries, .int .i64 V.m.lim, .bool V.m.gave, .slice pa V.l.length pc, .int .i64 V.s.last, .int .i64 V.s.armed, .int .i64 V.s.point, .bool V.s.want, .int .i64 V.s.left, .int .i64 V.s.pat, dv, uv, ov, .slice qa V.asked.length qc, cv] 52 (0, 0)) ∧ (z7.drew.alloc (.cells #[.int .i64 0, .int .i64 (V.asked.length : Int), .int .i64 pp, .bool want] 39)).heap[Tb]? = some (.cells #[.int .i64 ask, .bool want, .int .i64 come, .int .i64 lose, .int .i64 again, .int .i64 mix, .bool deaf] 55 (0, 0))) := ⟨(hb1.block K (lt_heap HS1.out.1)).trans HS1.out.1, (hb1.block Tb (lt_heap HS1.out.2)).trans HS1.out.2⟩
      refine wpAnyT_one (i := 14) (by kernel_rfl) rfl rfl (fun K' hK => ?_)
      go_simp
      refine hK.out _ _ (fun _ => HS2.out) ?_
      clear hK K'
      try simp only [Act.put, List.setIfInBounds_toArray]
      refine wpAnyT_letter (fun q => Hid (q.heap[z7.heap.size]? = some (.cells #[.int .i64 0, .int .i64 (V.asked.length : Int), .int .i64 pp, .bool want] 39 (0, 0)) ∧ q.heap[E]? = some (.cells #[.int .i64 n0, .int .i64 n1, .int .i64 n2, .int .i64 n3, .bool n4, .int .i64 n5, .int .i64 n6, .int .i64 n7, .int .i64 n8, .bool n9] 32 (0, 0)) ∧ q.ownsRow 0 39 4 (.slice la os.length lc) os.length (msgs os) ∧ WAt q B K V (.slice pa V.l.length pc) dv uv ov (.slice qa V.asked.length qc) cv ∧ TkAt w q B K Tb ⟨ask, want, come, lose, again, mix, deaf⟩ V)) ⟨HNW.out, (hb1.block E (lt_heap H7.out.1)).trans H7.out.1, own_below H7.out.2.1 hb1 (Nat.le_refl _), H7.out.2.2.1.below hb1, H7.out.2.2.2.below hb1⟩ ?_
      clear HNW HS2 HS1 hba hb1 H7
      intro z1 H1
      have hs1 : B ≤ z1.heap.size := H1.out.2.2.2.2.bs
      have HDN : Hid (z1.ownsRow B 39 4 (.slice qa V.asked.length qc) V.asked.length (msgs V.asked)) := H1.out.2.2.2.1.ak
      refine wpAnyT_one (i := 15) (by kernel_rfl) rfl rfl (fun K' hK => ?_)
      refine step_append_anyAt rfl _ _ 33 rfl B 39 i39 _ 4 32 Try.underlying33 hi39 h390 h391 h392 rfl (by decide) _ _ _ rfl HDN.out _ 1 [.int .i64 0, .int .i64 (V.asked.length : Int), .int .i64 pp, .bool want] rfl (row_one4 H1.out.1) (by intro u hu; simp at hu; rcases hu with rfl | rfl | rfl | rfl <;> rfl) (by unfold maxLen; omega) (by omega) hs1 ?_
      intro v2 z2 ho2 hg2 ha2
      have HT3 := hide' (WAt.ak' H1.out.2.2.2.1 (d := V.asked ++ [⟨0, V.asked.length, pp, want⟩]) (by rw [msgs_app]; exact ho2) (by rw [List.length_append]; rfl) hg2 ha2)
      obtain ⟨va2, vc2, hve2⟩ := own_slice ho2
      subst hve2
      have HKE := hide' (KeepE.grown HDN.out hg2)
      have HC2 : Hid (z2.heap[K]? = some (.cells #[.int .i64 V.m.no, .int .i64 V.m.ph, .int .i64 V.m.now, .int .i64 V.m.pt, .bool V.m.want, .int .i64 V.m.timer, .int .i64 V.m.pat, .int .i64 V.m.tries, .int .i64 V.m.lim, .bool V.m.gave, .slice pa V.l.length pc, .int .i64 V.s.last, .int .i64 V.s.armed, .int .i64 V.s.point, .bool V.s.want, .int .i64 V.s.left, .int .i64 V.s.pat, dv, uv, ov, .slice qa V.asked.length qc, cv] 52 (0, 0)) ∧ z2.heap[Tb]? = some (.cells #[.int .i64 ask, .bool want, .int .i64 come, .int .i64 lose, .int .i64 again, .int .i64 mix, .bool deaf] 55 (0, 0))) := ⟨(HKE.out K _ 52 (0, 0) H1.out.2.2.2.1.cell (by decide)).trans H1.out.2.2.2.1.cell, (HKE.out Tb _ 55 (0, 0) H1.out.2.2.2.2.box (by decide)).trans H1.out.2.2.2.2.box⟩
      have k20 : z2.cell? ⟨K, 20, none⟩ = some (.slice qa V.asked.length qc) := (cells_at HC2.out.1 20).trans rfl
      have e20 : z2.frozen? ⟨K, 20, none⟩ = false := frozen_no HC2.out.1 _
      have HF : Hid ((z2.setCell ⟨K, 20, none⟩ (.slice va2 (V.asked.length + 1) vc2)).heap[E]? = some (.cells #[.int .i64 n0, .int .i64 n1, .int .i64 n2, .int .i64 n3, .bool n4, .int .i64 n5, .int .i64 n6, .int .i64 n7, .int .i64 n8, .bool n9] 32 (0, 0)) ∧ (z2.setCell ⟨K, 20, none⟩ (.slice va2 (V.asked.length + 1) vc2)).ownsRow 0 39 4 (.slice la os.length lc) os.length (msgs os) ∧ WAt (z2.setCell ⟨K, 20, none⟩ (.slice va2 (V.asked.length + 1) vc2)) B K ⟨V.m, V.l, V.s, V.down, V.up, V.old, V.asked ++ [(⟨0, (V.asked.length : Int), pp, want⟩ : MsM)], V.acted⟩ (.slice pa V.l.length pc) dv uv ov (.slice va2 (V.asked.length + 1) vc2) cv ∧ TkAt w (z2.setCell ⟨K, 20, none⟩ (.slice va2 (V.asked.length + 1) vc2)) B K Tb ⟨ask, want, come, lose, again, mix, deaf⟩ ⟨V.m, V.l, V.s, V.down, V.up, V.old, V.asked ++ [(⟨0, (V.asked.length : Int), pp, want⟩ : MsM)], V.acted⟩) := ⟨(keep_set HC2.out.1 20 _ E _ 32 (0, 0) ((HKE.out E _ 32 (0, 0) H1.out.2.1 (by decide)).trans H1.out.2.1) (by decide)).trans ((HKE.out E _ 32 (0, 0) H1.out.2.1 (by decide)).trans H1.out.2.1), own_keep (own_other H1.out.2.2.1 (fun k ek => hg2.block k (own_lt H1.out.2.2.1 ek) (fun e => HLV.out.2 k ek e.symm))) (keep_set HC2.out.1 20 _) (by decide), HT3.out.1, H1.out.2.2.2.2.next ⟨_, _, _, _, _, _, HT3.out.1⟩ HT3.out.2⟩
      refine hK.out _ _ (fun _ => HC2.out) ?_
      clear hK K' ho2 hg2 ha2 HDN HT3 HKE H1
      try simp only [Act.put, List.setIfInBounds_toArray]
      refine wpAnyD_takeAt 16 (some 70) (v := ?_) rfl (by kernel_rfl) (by kernel_rfl) (by kernel_rfl) (by kernel_rfl) (by kernel_rfl) (fun c a w h => HQ.out c _ _ w h) (by exact HC2.out) (fun o hop => ?_) ?_
      rotate_left
      · injection hop with hop
        subst hop
        refine ⟨rfl, fun W' hW => ?_⟩
        have g20 : W'.cell? ⟨K, 20, none⟩ = some (.slice qa V.asked.length qc) := (cells_at hW.1 20).trans rfl
        have t1 : W'.cell? ⟨Tb, 1, none⟩ = some (.bool want) := (cells_at hW.2 1).trans rfl
        go_simp
        first
        | rfl
        | (constructor <;> rfl)
      try simp only [Act.put]
      refine wpAnyD_takeAt 17 (some 71) (v := ?_) rfl (by kernel_rfl) (by kernel_rfl) (by kernel_rfl) (by kernel_rfl) (by kernel_rfl) (fun c a w h => HQ.out c _ _ w h) (by exact HC2.out) (fun o hop => ?_) ?_
      rotate_left
      · injection hop with hop
        subst hop
        refine ⟨rfl, fun W' hW => ?_⟩
        have g20 : W'.cell? ⟨K, 20, none⟩ = some (.slice qa V.asked.length qc) := (cells_at hW.1 20).trans rfl
        have t1 : W'.cell? ⟨Tb, 1, none⟩ = some (.bool want) := (cells_at hW.2 1).trans rfl
        go_simp
        first
        | rfl
        | (constructor <;> rfl)
      try simp only [Act.put]
      refine wpAnyT_one (i := 18) (by kernel_rfl) rfl rfl (fun K' hK => ?_)
      go_simp
      refine hK.out _ _ (fun h => absurd rfl h) ?_
      clear hK K' k20 e20 HC2
      try simp only [Act.put, List.setIfInBounds_toArray]
      refine wpAnyT_done (by kernel_rfl) ?_ _
      go_upto_region 6 with fail
      refine code_letter (fun q => Hid (q.heap[E]? = some (.cells #[.int .i64 n0, .int .i64 n1, .int .i64 n2, .int .i64 n3, .bool n4, .int .i64 n5, .int .i64 n6, .int .i64 n7, .int .i64 n8, .bool n9] 32 (0, 0)) ∧ q.ownsRow 0 39 4 (.slice la os.length lc) os.length (msgs os) ∧ WAt q B K ⟨V.m, V.l, V.s, V.down, V.up, V.old, V.asked ++ [(⟨0, (V.asked.length : Int), pp, want⟩ : MsM)], V.acted⟩ (.slice pa V.l.length pc) dv uv ov (.slice va2 (V.asked.length + 1) vc2) cv ∧ TkAt w q B K Tb ⟨ask, want, come, lose, again, mix, deaf⟩ ⟨V.m, V.l, V.s, V.down, V.up, V.old, V.asked ++ [(⟨0, (V.asked.length : Int), pp, want⟩ : MsM)], V.acted⟩)) HF.out ?_
      clear HF HEK
      intro z8 H8
      obtain ⟨b0, b1, b2, b3, b4, b5, b6, b7, b8, b9⟩ := cellsP10 H8.out.1
      go_wp2_with fail
      refine (sent_any ⟨V.m, V.l, V.s, V.down, V.up, V.old, V.asked ++ [(⟨0, (V.asked.length : Int), pp, want⟩ : MsM)], V.acted⟩ B K (.slice pa V.l.length pc) dv uv ov _ cv (.slice la os.length lc) ⟨n0, n1, n2, n3, n4, n5, n6, n7, n8, n9⟩ os z8 H8.out.2.2.1 H8.out.2.1 HLV.out.1 ⟨by show V.down.length ≤ _; omega, by show V.old.length ≤ _; omega, HMM.out⟩).mono ?_
      rintro e z9 ⟨rfl, ⟨dv', ov', q1⟩, q2⟩
      have HF : Hid (TkAt w z9 B K Tb ⟨ask, want, come, lose, again, mix, deaf⟩ (askW V ⟨ask, want, come, lose, again, mix, deaf⟩)) := by
        show TkAt w _ B K Tb _ _
        rw [HAK.out]
        exact H8.out.2.2.2.next ⟨_, _, _, _, _, _, q1⟩ q2
      clear q1 q2 H8 b0 b1 b2 b3 b4 b5 b6 b7 b8 b9 HLV
      go_wp2_with fail
      refine HKn.out _ _ ?_
      exact HT2.out _ _ _ _ _ _ _ _ _ _ _ _ _ _ _ _ _ _ _ _ _ _ _ _ _ _ _ _ _ _ _ _ _ _ _ _ _ _ _ _ _ _ _ _ _ _ _ _ _ _ _ _ _ _ _ _ _ _ _ _ _ _ _ _ _ _ _ _ _ _ _ _ _ _ _ _ _ _ _ _ _ _ _ _ _ _ _ _ _ _ _ _ _ _ _ _ _ _ _ _ _ _ _ _ _ _ _ _ _ _ _ _ _ _ _ _ _ _ _ _ _ _ _ _ _ _ _ _ _ _ _ _ _ _ _ _ _ _ _ _ _ _ _ _ _ _ _ _ _ _ _ _ _ _ _ _ _ _ _ _ _ _ _ _ _ _ _ _ _ _ _ _ _ _ _ _ _ _ _ _ _ _ _ _ _ _ _ _ _ _ _ _ _ _ _ _ _ _ _ _ _ _ _ _ _ _ _ _ _ _ _ _ _ _ _ _ _ _ _ _ _ _ _ _ _ _ _ _ _ _ _ _ HF.out
    · go_simp
      have hba := below_al z5.drew (.cells #[.int .i64 0, .int .i64 0, .int .i64 0, .int .i64 0, .bool false, .int .i64 0, .int .i64 0, .int .i64 0, .int .i64 0, .bool false] 32)
      have hb1 : Below z5.heap.size z5 (z5.drew.alloc (.cells #[.int .i64 0, .int .i64 0, .int .i64 0, .int .i64 0, .bool false, .int .i64 0, .int .i64 0, .int .i64 0, .int .i64 0, .bool false] 32)) := (Below.refl _ z5).drew.trans hba
      have HEq := hide' (alloc_new z5.drew (.cells #[.int .i64 0, .int .i64 0, .int .i64 0, .int .i64 0, .bool false, .int .i64 0, .int .i64 0, .int .i64 0, .int .i64 0, .bool false] 32))
      have HSq : Hid ((z5.drew.alloc (.cells #[.int .i64 0, .int .i64 0, .int .i64 0, .int .i64 0, .bool false, .int .i64 0, .int .i64 0, .int .i64 0, .int .i64 0, .bool false] 32)).heap[K]? = some (.cells #[.int .i64 V.m.no, .int .i64 V.m.ph, .int .i64 V.m.now, .int .i64 V.m.pt, .bool V.m.want, .int .i64 V.m.timer, .int .i64 V.m.pat, .int .i64 V.m.tries, .int .i64 V.m.lim, .bool V.m.gave, .slice pa V.l.length pc, .int .i64 V.s.last, .int .i64 V.s.armed, .int .i64 V.s.point, .bool V.s.want, .int .i64 V.s.left, .int .i64 V.s.pat, dv, uv, ov, .slice qa V.asked.length qc, cv] 52 (0, 0)) ∧ (z5.drew.alloc (.cells #[.int .i64 0, .int .i64 0, .int .i64 0, .int .i64 0, .bool false, .int .i64 0, .int .i64 0, .int .i64 0, .int .i64 0, .bool false] 32)).heap[Tb]? = some (.cells #[.int .i64 ask, .bool want, .int .i64 come, .int .i64 lose, .int .i64 again, .int .i64 mix, .bool deaf] 55 (0, 0))) := ⟨(hba.block K (lt_heap HS1.out.1)).trans HS1.out.1, (hba.block Tb (lt_heap HS1.out.2)).trans HS1.out.2⟩
      refine hK.out _ _ (fun _ => HSq.out) ?_
      clear hK K'
      try simp only [Act.put, List.setIfInBounds_toArray]
      obtain ⟨E, hE⟩ : ∃ q, q = z5.heap.size := ⟨_, rfl⟩
      have HEK : Hid (K ≠ E ∧ Tb ≠ E ∧ B ≤ E) := by have q1 := lt_heap HS1.out.1; have q2 := lt_heap HS1.out.2; have q3 := H5.out.2.bs; have q4 : z5.drew.heap.size = z5.heap.size := rfl; show _ ∧ _ ∧ _; omega
      have HEq2 : Hid ((z5.drew.alloc (.cells #[.int .i64 0, .int .i64 0, .int .i64 0, .int .i64 0, .bool false, .int .i64 0, .int .i64 0, .int .i64 0, .int .i64 0, .bool false] 32)).heap[E]? = some (.cells #[.int .i64 0, .int .i64 0, .int .i64 0, .int .i64 0, .bool false, .int .i64 0, .int .i64 0, .int .i64 0, .int .i64 0, .bool false] 32 (0, 0))) := by rw [hE]; exact HEq.out
      rw [show (Value.pointer (some { block := z5.heap.size, off := 0 })) = Value.pointer (some { block := E, off := 0 }) by rw [hE]]
      refine wpAnyT_letter (fun z => Hid (Below z5.heap.size z5 z ∧ z.heap[E]? = some (.cells #[.int .i64 0, .int .i64 0, .int .i64 0, .int .i64 0, .bool false, .int .i64 0, .int .i64 0, .int .i64 0, .int .i64 0, .bool false] 32 (0, 0)) ∧ (z.heap[K]? = some (.cells #[.int .i64 V.m.no, .int .i64 V.m.ph, .int .i64 V.m.now, .int .i64 V.m.pt, .bool V.m.want, .int .i64 V.m.timer, .int .i64 V.m.pat, .int .i64 V.m.tries, .int .i64 V.m.lim, .bool V.m.gave, .slice pa V.l.length pc, .int .i64 V.s.last, .int .i64 V.s.armed, .int .i64 V.s.point, .bool V.s.want, .int .i64 V.s.left, .int .i64 V.s.pat, dv, uv, ov, .slice qa V.asked.length qc, cv] 52 (0, 0)) ∧ z.heap[Tb]? = some (.cells #[.int .i64 ask, .bool want, .int .i64 come, .int .i64 lose, .int .i64 again, .int .i64 mix, .bool deaf] 55 (0, 0))))) ⟨hb1, HEq2.out, HSq.out⟩ ?_
      clear HSq HEq2 HEq hE hba hb1
      intro z6 HZ
      have HSq := hide' HZ.out.2.2
      refine wpAnyT_one (i := 7) (by kernel_rfl) rfl rfl (fun K' hK => ?_)
      go_simp
      go_at_call 12
      refine (HC.out z6).mono ?_
      rintro e y ⟨v, rfl, hrb, hb6⟩
      obtain ⟨la, lc, hve⟩ := own_slice hrb
      subst hve
      have HSz : Hid (y.heap[K]? = some (.cells #[.int .i64 V.m.no, .int .i64 V.m.ph, .int .i64 V.m.now, .int .i64 V.m.pt, .bool V.m.want, .int .i64 V.m.timer, .int .i64 V.m.pat, .int .i64 V.m.tries, .int .i64 V.m.lim, .bool V.m.gave, .slice pa V.l.length pc, .int .i64 V.s.last, .int .i64 V.s.armed, .int .i64 V.s.point, .bool V.s.want, .int .i64 V.s.left, .int .i64 V.s.pat, dv, uv, ov, .slice qa V.asked.length qc, cv] 52 (0, 0)) ∧ y.heap[Tb]? = some (.cells #[.int .i64 ask, .bool want, .int .i64 come, .int .i64 lose, .int .i64 again, .int .i64 mix, .bool deaf] 55 (0, 0))) := ⟨(hb6.block K (lt_heap HSq.out.1)).trans HSq.out.1, (hb6.block Tb (lt_heap HSq.out.2)).trans HSq.out.2⟩
      refine hK.out _ _ (fun _ => HSz.out) ?_
      clear hK K'
      try simp only [Act.put, List.setIfInBounds_toArray]
      refine wpAnyD_takeAt 8 (some 40) (v := ?_) rfl (by kernel_rfl) (by kernel_rfl) (by kernel_rfl) (by kernel_rfl) (by kernel_rfl) (fun c a w h => HQ.out c _ _ w h) (by exact HSz.out) (fun o hop => ?_) ?_
      rotate_left
      · injection hop with hop
        subst hop
        refine ⟨rfl, fun W' hW => ?_⟩
        obtain ⟨g0, g1, g2, g3, g4, g5, g6, g7, g8, g9⟩ := cellsP10 hW.1
        have t1 : W'.cell? ⟨Tb, 1, none⟩ = some (.bool want) := (cells_at hW.2 1).trans rfl
        go_simp
        first
        | rfl
        | (constructor <;> rfl)
      try simp only [Act.put, List.setIfInBounds_toArray]
      refine wpAnyD_takeAt 9 (some 49) (v := ?_) rfl (by kernel_rfl) (by kernel_rfl) (by kernel_rfl) (by kernel_rfl) (by kernel_rfl) (fun c a w h => HQ.out c _ _ w h) (by exact HSz.out) (fun o hop => ?_) ?_
      rotate_left
      · injection hop with hop
        subst hop
        refine ⟨rfl, fun W' hW => ?_⟩
        obtain ⟨g0, g1, g2, g3, g4, g5, g6, g7, g8, g9⟩ := cellsP10 hW.1
        have t1 : W'.cell? ⟨Tb, 1, none⟩ = some (.bool want) := (cells_at hW.2 1).trans rfl
        go_simp
        first
        | rfl
        | (constructor <;> rfl)
      try simp only [Act.put, List.setIfInBounds_toArray]
      refine wpAnyD_takeAt 10 (some 50) (v := ?_) rfl (by kernel_rfl) (by kernel_rfl) (by kernel_rfl) (by kernel_rfl) (by kernel_rfl) (fun c a w h => HQ.out c _ _ w h) (by exact HSz.out) (fun o hop => ?_) ?_
      rotate_left
      · injection hop with hop
        subst hop
        refine ⟨rfl, fun W' hW => ?_⟩
        obtain ⟨g0, g1, g2, g3, g4, g5, g6, g7, g8, g9⟩ := cellsP10 hW.1
        have t1 : W'.cell? ⟨Tb, 1, none⟩ = some (.bool want) := (cells_at hW.2 1).trans rfl
        go_simp
        first
        | rfl
        | (constructor <;> rfl)
      try simp only [Act.put, List.setIfInBounds_toArray]
      refine wpAnyD_takeAt 11 (some 51) (v := ?_) rfl (by kernel_rfl) (by kernel_rfl) (by kernel_rfl) (by kernel_rfl) (by kernel_rfl) (fun c a w h => HQ.out c _ _ w h) (by exact HSz.out) (fun o hop => ?_) ?_
      rotate_left
      · injection hop with hop
        subst hop
        refine ⟨rfl, fun W' hW => ?_⟩
        obtain ⟨g0, g1, g2, g3, g4, g5, g6, g7, g8, g9⟩ := cellsP10 hW.1
        have t1 : W'.cell? ⟨Tb, 1, none⟩ = some (.bool want) := (cells_at hW.2 1).trans rfl
        go_simp
        first
        | rfl
        | (constructor <;> rfl)
      try simp only [Act.put, List.setIfInBounds_toArray]
      have HEz := hide' ((hb6.block E (lt_heap HZ.out.2.1)).trans HZ.out.2.1)
      have HRB := hide' (own_mono hrb (Nat.zero_le _))
      have HWz := hide' ((H5.out.1.below HZ.out.1).below hb6)
      have HBz := hide' ((H5.out.2.below HZ.out.1).below hb6)
      have HLV : Hid (Apart (.slice la os.length lc) dv ∧ Apart (.slice la os.length lc) (.slice qa V.asked.length qc)) := ⟨apart_late (H5.out.1.below HZ.out.1).dn hrb, apart_late (H5.out.1.below HZ.out.1).ak hrb⟩
      clear hrb hb6 HSq HZ HS1 H5 HC
      obtain ⟨b0, b1, b2, b3, b4, b5, b6, b7, b8, b9⟩ := cellsP10 HEz.out
      obtain ⟨e0, e1, e2, e3, e4, e5, e6, e7, e8, e9⟩ := frozenP10 HEz.out
      have HPE := hide' (put10 HEz.out (.int .i64 n0) (.int .i64 n1) (.int .i64 n2) (.int .i64 n3) (.bool n4) (.int .i64 n5) (.int .i64 n6) (.int .i64 n7) (.int .i64 n8) (.bool n9))
      have HSF : Hid (((((((((((y.setCell ⟨E, 0, none⟩ (.int .i64 n0)).setCell ⟨E, 1, none⟩ (.int .i64 n1)).setCell ⟨E, 2, none⟩ (.int .i64 n2)).setCell ⟨E, 3, none⟩ (.int .i64 n3)).setCell ⟨E, 4, none⟩ (.bool n4)).setCell ⟨E, 5, none⟩ (.int .i64 n5)).setCell ⟨E, 6, none⟩ (.int .i64 n6)).setCell ⟨E, 7, none⟩ (.int .i64 n7)).setCell ⟨E, 8, none⟩ (.int .i64 n8)).setCell ⟨E, 9, none⟩ (.bool n9)).heap[K]? = some (.cells #[.int .i64 V.m.no, .int .i64 V.m.ph, .int .i64 V.m.now, .int .i64 V.m.pt, .bool V.m.want, .int .i64 V.m.timer, .int .i64 V.m.pat, .int .i64 V.m.tries, .int .i64 V.m.lim, .bool V.m.gave, .slice pa V.l.length pc, .int .i64 V.s.last, .int .i64 V.s.armed, .int .i64 V.s.point, .bool V.s.want, .int .i64 V.s.left, .int .i64 V.s.pat, dv, uv, ov, .slice qa V.asked.length qc, cv] 52 (0, 0)) ∧ ((((((((((y.setCell ⟨E, 0, none⟩ (.int .i64 n0)).setCell ⟨E, 1, none⟩ (.int .i64 n1)).setCell ⟨E, 2, none⟩ (.int .i64 n2)).setCell ⟨E, 3, none⟩ (.int .i64 n3)).setCell ⟨E, 4, none⟩ (.bool n4)).setCell ⟨E, 5, none⟩ (.int .i64 n5)).setCell ⟨E, 6, none⟩ (.int .i64 n6)).setCell ⟨E, 7, none⟩ (.int .i64 n7)).setCell ⟨E, 8, none⟩ (.int .i64 n8)).setCell ⟨E, 9, none⟩ (.bool n9)).heap[Tb]? = some (.cells #[.int .i64 ask, .bool want, .int .i64 come, .int .i64 lose, .int .i64 again, .int .i64 mix, .bool deaf] 55 (0, 0))) := ⟨(HPE.out.2.block K (lt_heap HSz.out.1) HEK.out.1).trans HSz.out.1, (HPE.out.2.block Tb (lt_heap HSz.out.2) HEK.out.2.1).trans HSz.out.2⟩
      have HFN : Hid (((((((((((y.setCell ⟨E, 0, none⟩ (.int .i64 n0)).setCell ⟨E, 1, none⟩ (.int .i64 n1)).setCell ⟨E, 2, none⟩ (.int .i64 n2)).setCell ⟨E, 3, none⟩ (.int .i64 n3)).setCell ⟨E, 4, none⟩ (.bool n4)).setCell ⟨E, 5, none⟩ (.int .i64 n5)).setCell ⟨E, 6, none⟩ (.int .i64 n6)).setCell ⟨E, 7, none⟩ (.int .i64 n7)).setCell ⟨E, 8, none⟩ (.int .i64 n8)).setCell ⟨E, 9, none⟩ (.bool n9)).heap[E]? = some (.cells #[.int .i64 n0, .int .i64 n1, .int .i64 n2, .int .i64 n3, .bool n4, .int .i64 n5, .int .i64 n6, .int .i64 n7, .int .i64 n8, .bool n9] 32 (0, 0)) ∧ ((((((((((y.setCell ⟨E, 0, none⟩ (.int .i64 n0)).setCell ⟨E, 1, none⟩ (.int .i64 n1)).setCell ⟨E, 2, none⟩ (.int .i64 n2)).setCell ⟨E, 3, none⟩ (.int .i64 n3)).setCell ⟨E, 4, none⟩ (.bool n4)).setCell ⟨E, 5, none⟩ (.int .i64 n5)).setCell ⟨E, 6, none⟩ (.int .i64 n6)).setCell ⟨E, 7, none⟩ (.int .i64 n7)).setCell ⟨E, 8, none⟩ (.int .i64 n8)).setCell ⟨E, 9, none⟩ (.bool n9)).ownsRow 0 39 4 (.slice la os.length lc) os.length (msgs os) ∧ WAt ((((((((((y.setCell ⟨E, 0, none⟩ (.int .i64 n0)).setCell ⟨E, 1, none⟩ (.int .i64 n1)).setCell ⟨E, 2, none⟩ (.int .i64 n2)).setCell ⟨E, 3, none⟩ (.int .i64 n3)).setCell ⟨E, 4, none⟩ (.bool n4)).setCell ⟨E, 5, none⟩ (.int .i64 n5)).setCell ⟨E, 6, none⟩ (.int .i64 n6)).setCell ⟨E, 7, none⟩ (.int .i64 n7)).setCell ⟨E, 8, none⟩ (.int .i64 n8)).setCell ⟨E, 9, none⟩ (.bool n9)) B K V (.slice pa V.l.length pc) dv uv ov (.slice qa V.asked.length qc) cv ∧ TkAt w ((((((((((y.setCell ⟨E, 0, none⟩ (.int .i64 n0)).setCell ⟨E, 1, none⟩ (.int .i64 n1)).setCell ⟨E, 2, none⟩ (.int .i64 n2)).setCell ⟨E, 3, none⟩ (.int .i64 n3)).setCell ⟨E, 4, none⟩ (.bool n4)).setCell ⟨E, 5, none⟩ (.int .i64 n5)).setCell ⟨E, 6, none⟩ (.int .i64 n6)).setCell ⟨E, 7, none⟩ (.int .i64 n7)).setCell ⟨E, 8, none⟩ (.int .i64 n8)).setCell ⟨E, 9, none⟩ (.bool n9)) B K Tb ⟨ask, want, come, lose, again, mix, deaf⟩ V) := ⟨HPE.out.1, own_putE HRB.out HEz.out HPE.out.2 (by decide), HWz.out.putE HEz.out HPE.out.2 HEK.out.1 (by decide) (by decide) (by decide), HBz.out.next ⟨_, _, _, _, _, _, HWz.out.putE HEz.out HPE.out.2 HEK.out.1 (by decide) (by decide) (by decide)⟩ (but_bl HPE.out.2 HEz.out (by decide) HEK.out.2.2 HBz.out.bs)⟩
      clear HRB HWz HBz
      refine wpAnyT_one (i := 13) (by kernel_rfl) rfl rfl (fun K' hK => ?_)
      go_simp
      refine hK.out _ _ (fun _ => HSF.out) ?_
      clear hK K'
      try simp only [Act.put, List.setIfInBounds_toArray]
      refine wpAnyT_one (i := 14) (by kernel_rfl) rfl rfl (fun K' hK => ?_)
      go_simp
      refine hK.out _ _ (fun _ => HSF.out) ?_
      clear hK K'
      try simp only [Act.put, List.setIfInBounds_toArray]
      refine wpAnyT_one (i := 15) (by kernel_rfl) rfl rfl (fun K' hK => ?_)
      go_simp
      refine hK.out _ _ (fun h => absurd rfl h) ?_
      clear hK K'
      try simp only [Act.put, List.setIfInBounds_toArray]
      refine wpAnyT_done (by kernel_rfl) ?_ _
      clear b0 b1 b2 b3 b4 b5 b6 b7 b8 b9 e0 e1 e2 e3 e4 e5 e6 e7 e8 e9 HPE HEz HSz HSF
      go_upto_region 4 with fail
      refine code_letter (fun q => Hid (q.heap[E]? = some (.cells #[.int .i64 n0, .int .i64 n1, .int .i64 n2, .int .i64 n3, .bool n4, .int .i64 n5, .int .i64 n6, .int .i64 n7, .int .i64 n8, .bool n9] 32 (0, 0)) ∧ q.ownsRow 0 39 4 (.slice la os.length lc) os.length (msgs os) ∧ WAt q B K V (.slice pa V.l.length pc) dv uv ov (.slice qa V.asked.length qc) cv ∧ TkAt w q B K Tb ⟨ask, want, come, lose, again, mix, deaf⟩ V)) HFN.out ?_
      clear HFN
      intro z7 H7
      go_upto_region 5 with fail
      have HS1 : Hid (z7.drew.heap[K]? = some (.cells #[.int .i64 V.m.no, .int .i64 V.m.ph, .int .i64 V.m.now, .int .i64 V.m.pt, .bool V.m.want, .int .i64 V.m.timer, .int .i64 V.m.pat, .int .i64 V.m.tries, .int .i64 V.m.lim, .bool V.m.gave, .slice pa V.l.length pc, .int .i64 V.s.last, .int .i64 V.s.armed, .int .i64 V.s.point, .bool V.s.want, .int .i64 V.s.left, .int .i64 V.s.pat, dv, uv, ov, .slice qa V.asked.length qc, cv] 52 (0, 0)) ∧ z7.drew.heap[Tb]? = some (.cells #[.int .i64 ask, .bool want, .int .i64 come, .int .i64 lose, .int .i64 again, .int .i64 mix, .bool deaf] 55 (0, 0))) := ⟨H7.out.2.2.1.cell, H7.out.2.2.2.box⟩
      refine wp_region_tail (fun W' => W'.heap[K]? = some (.cells #[.int .i64 V.m.no, .int .i64 V.m.ph, .int .i64 V.m.now, .int .i64 V.m.pt, .bool V.m.want, .int .i64 V.m.timer, .int .i64 V.m.pat, .int .i64 V.m.tries, .int .i64 V.m.lim, .bool V.m.gave, .slice pa V.l.length pc, .int .i64 V.s.last, .int .i64 V.s.armed, .int .i64 V.s.point, .bool V.s.want, .int .i64 V.s.left, .int .i64 V.s.pat, dv, uv, ov, .slice qa V.asked.length qc, cv] 52 (0, 0)) ∧ W'.heap[Tb]? = some (.cells #[.int .i64 ask, .bool want, .int .i64 come, .int .i64 lose, .int .i64 again, .int .i64 mix, .bool deaf] 55 (0, 0))) 18 (by kernel_rfl) ?_
      refine wpAnyD_takeAt 0 (some 54) (v := ?_) rfl (by kernel_rfl) (by kernel_rfl) (by kernel_rfl) (by kernel_rfl) (by kernel_rfl) (fun c a w h => HQ.out c _ _ w h) (by exact HS1.out) (fun o hop => ?_) ?_
      rotate_left
      · injection hop with hop
        subst hop
        refine ⟨rfl, fun W' hW => ?_⟩
        have g20 : W'.cell? ⟨K, 20, none⟩ = some (.slice qa V.asked.length qc) := (cells_at hW.1 20).trans rfl
        have t1 : W'.cell? ⟨Tb, 1, none⟩ = some (.bool want) := (cells_at hW.2 1).trans rfl
        go_simp
        first
        | rfl
        | (constructor <;> rfl)
      try simp only [Act.put, List.setIfInBounds_toArray]
      refine wpAnyD_takeAt 1 (some 55) (v := ?_) rfl (by kernel_rfl) (by kernel_rfl) (by kernel_rfl) (by kernel_rfl) (by kernel_rfl) (fun c a w h => HQ.out c _ _ w h) (by exact HS1.out) (fun o hop => ?_) ?_
      rotate_left
      · injection hop with hop
        subst hop
        refine ⟨rfl, fun W' hW => ?_⟩
        have g20 : W'.cell? ⟨K, 20, none⟩ = some (.slice qa V.asked.length qc) := (cells_at hW.1 20).trans rfl
        have t1 : W'.cell? ⟨Tb, 1, none⟩ = some (.bool want) := (cells_at hW.2 1).trans rfl
        go_simp
        first
        | rfl
        | (constructor <;> rfl)
      try simp only [Act.put, List.setIfInBounds_toArray]
      refine wpAnyD_takeAt 2 (some 56) (v := ?_) rfl (by kernel_rfl) (by kernel_rfl) (by kernel_rfl) (by kernel_rfl) (by kernel_rfl) (fun c a w h => HQ.out c _ _ w h) (by exact HS1.out) (fun o hop => ?_) ?_
      rotate_left
      · injection hop with hop
        subst hop
        refine ⟨rfl, fun W' hW => ?_⟩
        have g20 : W'.cell? ⟨K, 20, none⟩ = some (.slice qa V.asked.length qc) := (cells_at hW.1 20).trans rfl
        have t1 : W'.cell? ⟨Tb, 1, none⟩ = some (.bool want) := (cells_at hW.2 1).trans rfl
        go_simp
        first
        | rfl
        | (constructor <;> rfl)
      try simp only [Act.put, List.setIfInBounds_toArray]
      refine wpAnyD_takeAt 3 (some 57) (v := ?_) rfl (by kernel_rfl) (by kernel_rfl) (by kernel_rfl) (by kernel_rfl) (by kernel_rfl) (fun c a w h => HQ.out c _ _ w h) (by exact HS1.out) (fun o hop => ?_) ?_
      rotate_left
      · injection hop with hop
        subst hop
        refine ⟨rfl, fun W' hW => ?_⟩
        have g20 : W'.cell? ⟨K, 20, none⟩ = some (.slice qa V.asked.length qc) := (cells_at hW.1 20).trans rfl
        have t1 : W'.cell? ⟨Tb, 1, none⟩ = some (.bool want) := (cells_at hW.2 1).trans rfl
        go_simp
        first
        | rfl
        | (constructor <;> rfl)
      try simp only [Act.put, List.setIfInBounds_toArray]
      refine wpAnyD_takeAt 4 (some 58) (v := ?_) rfl (by kernel_rfl) (by kernel_rfl) (by kernel_rfl) (by kernel_rfl) (by kernel_rfl) (fun c a w h => HQ.out c _ _ w h) (by exact HS1.out) (fun o hop => ?_) ?_
      rotate_left
      · injection hop with hop
        subst hop
        refine ⟨rfl, fun W' hW => ?_⟩
        have g20 : W'.cell? ⟨K, 20, none⟩ = some (.slice qa V.asked.length qc) := (cells_at hW.1 20).trans rfl
        have t1 : W'.cell? ⟨Tb, 1, none⟩ = some (.bool want) := (cells_at hW.2 1).trans rfl
        go_simp
        first
        | rfl
        | (constructor <;> rfl)
      try simp only [Act.put, List.setIfInBounds_toArray]
      refine wpAnyD_takeAt 5 (some 59) (v := ?_) rfl (by kernel_rfl) (by kernel_rfl) (by kernel_rfl) (by kernel_rfl) (by kernel_rfl) (fun c a w h => HQ.out c _ _ w h) (by exact HS1.out) (fun o hop => ?_) ?_
      rotate_left
      · injection hop with hop
        subst hop
        refine ⟨rfl, fun W' hW => ?_⟩
        have g20 : W'.cell? ⟨K, 20, none⟩ = some (.slice qa V.asked.length qc) := (cells_at hW.1 20).trans rfl
        have t1 : W'.cell? ⟨Tb, 1, none⟩ = some (.bool want) := (cells_at hW.2 1).trans rfl
        go_simp
        first
        | rfl
        | (constructor <;> rfl)
      try simp only [Act.put, List.setIfInBounds_toArray]
      refine wpAnyD_takeAt 6 (some 60) (v := ?_) rfl (by kernel_rfl) (by kernel_rfl) (by kernel_rfl) (by kernel_rfl) (by kernel_rfl) (fun c a w h => HQ.out c _ _ w h) (by exact HS1.out) (fun o hop => ?_) ?_
      rotate_left
      · injection hop with hop
        subst hop
        refine ⟨rfl, fun W' hW => ?_⟩
        have g20 : W'.cell? ⟨K, 20, none⟩ = some (.slice qa V.asked.length qc) := (cells_at hW.1 20).trans rfl
        have t1 : W'.cell? ⟨Tb, 1, none⟩ = some (.bool want) := (cells_at hW.2 1).trans rfl
        go_simp
        first
        | rfl
        | (constructor <;> rfl)
      try simp only [Act.put, List.setIfInBounds_toArray]
      refine wpAnyD_takeAt 7 (some 61) (v := ?_) rfl (by kernel_rfl) (by kernel_rfl) (by kernel_rfl) (by kernel_rfl) (by kernel_rfl) (fun c a w h => HQ.out c _ _ w h) (by exact HS1.out) (fun o hop => ?_) ?_
      rotate_left
      · injection hop with hop
        subst hop
        refine ⟨rfl, fun W' hW => ?_⟩
        have g20 : W'.cell? ⟨K, 20, none⟩ = some (.slice qa V.asked.length qc) := (cells_at hW.1 20).trans rfl
        have t1 : W'.cell? ⟨Tb, 1, none⟩ = some (.bool want) := (cells_at hW.2 1).trans rfl
        go_simp
        first
        | rfl
        | (constructor <;> rfl)
      try simp only [Act.put, List.setIfInBounds_toArray]
      refine wpAnyD_takeAt 8 (some 62) (v := ?_) rfl (by kernel_rfl) (by kernel_rfl) (by kernel_rfl) (by kernel_rfl) (by kernel_rfl) (fun c a w h => HQ.out c _ _ w h) (by exact HS1.out) (fun o hop => ?_) ?_
      rotate_left
      · injection hop with hop
        subst hop
        refine ⟨rfl, fun W' hW => ?_⟩
        have g20 : W'.cell? ⟨K, 20, none⟩ = some (.slice qa V.asked.length qc) := (cells_at hW.1 20).trans rfl
        have t1 : W'.cell? ⟨Tb, 1, none⟩ = some (.bool want) := (cells_at hW.2 1).trans rfl
        go_simp
        first
        | rfl
        | (constructor <;> rfl)
      try simp only [Act.put, List.setIfInBounds_toArray]
      refine wpAnyD_takeAt 9 (some 63) (v := ?_) rfl (by kernel_rfl) (by kernel_rfl) (by kernel_rfl) (by kernel_rfl) (by kernel_rfl) (fun c a w h => HQ.out c _ _ w h) (by exact HS1.out) (fun o hop => ?_) ?_
      rotate_left
      · injection hop with hop
        subst hop
        refine ⟨rfl, fun W' hW => ?_⟩
        have g20 : W'.cell? ⟨K, 20, none⟩ = some (.slice qa V.asked.length qc) := (cells_at hW.1 20).trans rfl
        have t1 : W'.cell? ⟨Tb, 1, none⟩ = some (.bool want) := (cells_at hW.2 1).trans rfl
        go_simp
        first
        | rfl
        | (constructor <;> rfl)
      try simp only [Act.put, List.setIfInBounds_toArray]
      refine wpAnyD_takeAt 10 (some 64) (v := ?_) rfl (by kernel_rfl) (by kernel_rfl) (by kernel_rfl) (by kernel_rfl) (by kernel_rfl) (fun c a w h => HQ.out c _ _ w h) (by exact HS1.out) (fun o hop => ?_) ?_
      rotate_left
      · injection hop with hop
        subst hop
        refine ⟨rfl, fun W' hW => ?_⟩
        have g20 : W'.cell? ⟨K, 20, none⟩ = some (.slice qa V.asked.length qc) := (cells_at hW.1 20).trans rfl
        have t1 : W'.cell? ⟨Tb, 1, none⟩ = some (.bool want) := (cells_at hW.2 1).trans rfl
        go_simp
        first
        | rfl
        | (constructor <;> rfl)
      try simp only [Act.put, List.setIfInBounds_toArray]
      refine wpAnyD_takeAt 11 (some 65) (v := ?_) rfl (by kernel_rfl) (by kernel_rfl) (by kernel_rfl) (by kernel_rfl) (by kernel_rfl) (fun c a w h => HQ.out c _ _ w h) (by exact HS1.out) (fun o hop => ?_) ?_
      rotate_left
      · injection hop with hop
        subst hop
        refine ⟨rfl, fun W' hW => ?_⟩
        have g20 : W'.cell? ⟨K, 20, none⟩ = some (.slice qa V.asked.length qc) := (cells_at hW.1 20).trans rfl
        have t1 : W'.cell? ⟨Tb, 1, none⟩ = some (.bool want) := (cells_at hW.2 1).trans rfl
        go_simp
        first
        | rfl
        | (constructor <;> rfl)
      try simp only [Act.put, List.setIfInBounds_toArray]
      refine wpAnyD_takeAt 12 (some 66) (v := ?_) rfl (by kernel_rfl) (by kernel_rfl) (by kernel_rfl) (by kernel_rfl) (by kernel_rfl) (fun c a w h => HQ.out c _ _ w h) (by exact HS1.out) (fun o hop => ?_) ?_
      rotate_left
      · injection hop with hop
        subst hop
        refine ⟨rfl, fun W' hW => ?_⟩
        have g20 : W'.cell? ⟨K, 20, none⟩ = some (.slice qa V.asked.length qc) := (cells_at hW.1 20).trans rfl
        have t1 : W'.cell? ⟨Tb, 1, none⟩ = some (.bool want) := (cells_at hW.2 1).trans rfl
        go_simp
        first
        | rfl
        | (constructor <;> rfl)
      try simp only [Act.put, List.setIfInBounds_toArray]
      refine wpAnyD_takeAt 13 (some 67) (v := ?_) rfl (by kernel_rfl) (by kernel_rfl) (by kernel_rfl) (by kernel_rfl) (by kernel_rfl) (fun c a w h => HQ.out c _ _ w h) (by exact HS1.out) (fun o hop => ?_) ?_
      rotate_left
      · injection hop with hop
        subst hop
        refine ⟨rfl, fun W' hW => ?_⟩
        have g20 : W'.cell? ⟨K, 20, none⟩ = some (.slice qa V.asked.length qc) := (cells_at hW.1 20).trans rfl
        have t1 : W'.cell? ⟨Tb, 1, none⟩ = some (.bool want) := (cells_at hW.2 1).trans rfl
        go_simp
        first
        | rfl
        | (constructor <;> rfl)
      try simp only [Act.put, List.setIfInBounds_toArray]
      have hba := below_al z7.drew (.cells #[.int .i64 0, .int .i64 (V.asked.length : Int), .int .i64 pp, .bool want] 39)
      have hb1 : Below z7.heap.size z7 (z7.drew.alloc (.cells #[.int .i64 0, .int .i64 (V.asked.length : Int), .int .i64 pp, .bool want] 39)) := (Below.refl _ z7).drew.trans hba
      have HNW := hide' (alloc_new z7.drew (.cells #[.int .i64 0, .int .i64 (V.asked.length : Int), .int .i64 pp, .bool want] 39))
      have HS2 : Hid ((z7.drew.alloc (.cells #[.int .i64 0, .int .i64 (V.asked.length : Int), .int .i64 pp, .bool want] 39)).heap[K]? = some (.cells #[.int .i64 V.m.no, .int .i64 V.m.ph, .int .i64 V.m.now, .int .i64 V.m.pt, .bool V.m.want, .int .i64 V.m.timer, .int .i64 V.m.pat, .int .i64 V.m.tries, .int .i64 V.m.lim, .bool V.m.gave, .slice pa V.l.length pc, .int .i64 V.s.last, .int .i64 V.s.armed, .int .i64 V.s.point, .bool V.s.want, .int .i64 V.s.left, .int .i64 V.s.pat, dv, uv, ov, .slice qa V.asked.length qc, cv] 52 (0, 0)) ∧ (z7.drew.alloc (.cells #[.int .i64 0, .int .i64 (V.asked.length : Int), .int .i64 pp, .bool want] 39)).heap[Tb]? = some (.cells #[.int .i64 ask, .bool want, .int .i64 come, .int .i64 lose, .int .i64 again, .int .i64 mix, .bool deaf] 55 (0, 0))) := ⟨(hb1.block K (lt_heap HS1.out.1)).trans HS1.out.1, (hb1.block Tb (lt_heap HS1.out.2)).trans HS1.out.2⟩
      refine wpAnyT_one (i := 14) (by kernel_rfl) rfl rfl (fun K' hK => ?_)
      go_simp
      refine hK.out _ _ (fun _ => HS2.out) ?_
      clear hK K'
      try simp only [Act.put, List.setIfInBounds_toArray]
      refine wpAnyT_letter (fun q => Hid (q.heap[z7.heap.size]? = some (.cells #[.int .i64 0, .int .i64 (V.asked.length : Int), .int .i64 pp, .bool want] 39 (0, 0)) ∧ q.heap[E]? = some (.cells #[.int .i64 n0, .int .i64 n1, .int .i64 n2, .int .i64 n3, .bool n4, .int .i64 n5, .int .i64 n6, .int .i64 n7, .int .i64 n8, .bool n9] 32 (0, 0)) ∧ q.ownsRow 0 39 4 (.slice la os.length lc) os.length (msgs os) ∧ WAt q B K V (.slice pa V.l.length pc) dv uv ov (.slice qa V.asked.length qc) cv ∧ TkAt w q B K Tb ⟨ask, want, come, lose, again, mix, deaf⟩ V)) ⟨HNW.out, (hb1.block E (lt_heap H7.out.1)).trans H7.out.1, own_below H7.out.2.1 hb1 (Nat.le_refl _), H7.out.2.2.1.below hb1, H7.out.2.2.2.below hb1⟩ ?_
      clear HNW HS2 HS1 hba hb1 H7
      intro z1 H1
      have hs1 : B ≤ z1.heap.size := H1.out.2.2.2.2.bs
      have HDN : Hid (z1.ownsRow B 39 4 (.slice qa V.asked.length qc) V.asked.length (msgs V.asked)) := H1.out.2.2.2.1.ak
      refine wpAnyT_one (i := 15) (by kernel_rfl) rfl rfl (fun K' hK => ?_)
      refine step_append_anyAt rfl _ _ 33 rfl B 39 i39 _ 4 32 Try.underlying33 hi39 h390 h391 h392 rfl (by decide) _ _ _ rfl HDN.out _ 1 [.int .i64 0, .int .i64 (V.asked.length : Int), .int .i64 pp, .bool want] rfl (row_one4 H1.out.1) (by intro u hu; simp at hu; rcases hu with rfl | rfl | rfl | rfl <;> rfl) (by unfold maxLen; omega) (by omega) hs1 ?_
      intro v2 z2 ho2 hg2 ha2
      have HT3 := hide' (WAt.ak' H1.out.2.2.2.1 (d := V.asked ++ [⟨0, V.asked.length, pp, want⟩]) (by rw [msgs_app]; exact ho2) (by rw [List.length_append]; rfl) hg2 ha2)
      obtain ⟨va2, vc2, hve2⟩ := own_slice ho2
      subst hve2
      have HKE := hide' (KeepE.grown HDN.out hg2)
      have HC2 : Hid (z2.heap[K]? = some (.cells #[.int .i64 V.m.no, .int .i64 V.m.ph, .int .i64 V.m.now, .int .i64 V.m.pt, .bool V.m.want, .int .i64 V.m.timer, .int .i64 V.m.pat, .int .i64 V.m.tries, .int .i64 V.m.lim, .bool V.m.gave, .slice pa V.l.length pc, .int .i64 V.s.last, .int .i64 V.s.armed, .int .i64 V.s.point, .bool V.s.want, .int .i64 V.s.left, .int .i64 V.s.pat, dv, uv, ov, .slice qa V.asked.length qc, cv] 52 (0, 0)) ∧ z2.heap[Tb]? = some (.cells #[.int .i64 ask, .bool want, .int .i64 come, .int .i64 lose, .int .i64 again, .int .i64 mix, .bool deaf] 55 (0, 0))) := ⟨(HKE.out K _ 52 (0, 0) H1.out.2.2.2.1.cell (by decide)).trans H1.out.2.2.2.1.cell, (HKE.out Tb _ 55 (0, 0) H1.out.2.2.2.2.box (by decide)).trans H1.out.2.2.2.2.box⟩
      have k20 : z2.cell? ⟨K, 20, none⟩ = some (.slice qa V.asked.length qc) := (cells_at HC2.out.1 20).trans rfl
      have e20 : z2.frozen? ⟨K, 20, none⟩ = false := frozen_no HC2.out.1 _
      have HF : Hid ((z2.setCell ⟨K, 20, none⟩ (.slice va2 (V.asked.length + 1) vc2)).heap[E]? = some (.cells #[.int .i64 n0, .int .i64 n1, .int .i64 n2, .int .i64 n3, .bool n4, .int .i64 n5, .int .i64 n6, .int .i64 n7, .int .i64 n8, .bool n9] 32 (0, 0)) ∧ (z2.setCell ⟨K, 20, none⟩ (.slice va2 (V.asked.length + 1) vc2)).ownsRow 0 39 4 (.slice la os.length lc) os.length (msgs os) ∧ WAt (z2.setCell ⟨K, 20, none⟩ (.slice va2 (V.asked.length + 1) vc2)) B K ⟨V.m, V.l, V.s, V.down, V.up, V.old, V.asked ++ [(⟨0, (V.asked.length : Int), pp, want⟩ : MsM)], V.acted⟩ (.slice pa V.l.length pc) dv uv ov (.slice va2 (V.asked.length + 1) vc2) cv ∧ TkAt w (z2.setCell ⟨K, 20, none⟩ (.slice va2 (V.asked.length + 1) vc2)) B K Tb ⟨ask, want, come, lose, again, mix, deaf⟩ ⟨V.m, V.l, V.s, V.down, V.up, V.old, V.asked ++ [(⟨0, (V.asked.length : Int), pp, want⟩ : MsM)], V.acted⟩) := ⟨(keep_set HC2.out.1 20 _ E _ 32 (0, 0) ((HKE.out E _ 32 (0, 0) H1.out.2.1 (by decide)).trans H1.out.2.1) (by decide)).trans ((HKE.out E _ 32 (0, 0) H1.out.2.1 (by decide)).trans H1.out.2.1), own_keep (own_other H1.out.2.2.1 (fun k ek => hg2.block k (own_lt H1.out.2.2.1 ek) (fun e => HLV.out.2 k ek e.symm))) (keep_set HC2.out.1 20 _) (by decide), HT3.out.1, H1.out.2.2.2.2.next ⟨_, _, _, _, _, _, HT3.out.1⟩ HT3.out.2⟩
      refine hK.out _ _ (fun _ => HC2.out) ?_
      clear hK K' ho2 hg2 ha2 HDN HT3 HKE H1
      try simp only [Act.put, List.setIfInBounds_toArray]
      refine wpAnyD_takeAt 16 (some 70) (v := ?_) rfl (by kernel_rfl) (by kernel_rfl) (by kernel_rfl) (by kernel_rfl) (by kernel_rfl) (fun c a w h => HQ.out c _ _ w h) (by exact HC2.out) (fun o hop => ?_) ?_
      rotate_left
      · injection hop with hop
        subst hop
        refine ⟨rfl, fun W' hW => ?_⟩
        have g20 : W'.cell? ⟨K, 20, none⟩ = some (.slice qa V.asked.length qc) := (cells_at hW.1 20).trans rfl
        have t1 : W'.cell? ⟨Tb, 1, none⟩ = some (.bool want) := (cells_at hW.2 1).trans rfl
        go_simp
        first
        | rfl
        | (constructor <;> rfl)
      try simp only [Act.put]
      refine wpAnyD_takeAt 17 (some 71) (v := ?_) rfl (by kernel_rfl) (by kernel_rfl) (by kernel_rfl) (by kernel_rfl) (by kernel_rfl) (fun c a w h => HQ.out c _ _ w h) (by exact HC2.out) (fun o hop => ?_) ?_
      rotate_left
      · injection hop with hop
        subst hop
        refine ⟨rfl, fun W' hW => ?_⟩
        have g20 : W'.cell? ⟨K, 20, none⟩ = some (.slice qa V.asked.length qc) := (cells_at hW.1 20).trans rfl
        have t1 : W'.cell? ⟨Tb, 1, none⟩ = some (.bool want) := (cells_at hW.2 1).trans rfl
        go_simp
        first
        | rfl
        | (constructor <;> rfl)
      try simp only [Act.put]
      refine wpAnyT_one (i := 18) (by kernel_rfl) rfl rfl (fun K' hK => ?_)
      go_simp
      refine hK.out _ _ (fun h => absurd rfl h) ?_
      clear hK K' k20 e20 HC2
      try simp only [Act.put, List.setIfInBounds_toArray]
      refine wpAnyT_done (by kernel_rfl) ?_ _
      go_upto_region 6 with fail
      refine code_letter (fun q => Hid (q.heap[E]? = some (.cells #[.int .i64 n0, .int .i64 n1, .int .i64 n2, .int .i64 n3, .bool n4, .int .i64 n5, .int .i64 n6, .int .i64 n7, .int .i64 n8, .bool n9] 32 (0, 0)) ∧ q.ownsRow 0 39 4 (.slice la os.length lc) os.length (msgs os) ∧ WAt q B K ⟨V.m, V.l, V.s, V.down, V.up, V.old, V.asked ++ [(⟨0, (V.asked.length : Int), pp, want⟩ : MsM)], V.acted⟩ (.slice pa V.l.length pc) dv uv ov (.slice va2 (V.asked.length + 1) vc2) cv ∧ TkAt w q B K Tb ⟨ask, want, come, lose, again, mix, deaf⟩ ⟨V.m, V.l, V.s, V.down, V.up, V.old, V.asked ++ [(⟨0, (V.asked.length : Int), pp, want⟩ : MsM)], V.acted⟩)) HF.out ?_
      clear HF HEK
      intro z8 H8
      obtain ⟨b0, b1, b2, b3, b4, b5, b6, b7, b8, b9⟩ := cellsP10 H8.out.1
      go_wp2_with fail
      refine (sent_any ⟨V.m, V.l, V.s, V.down, V.up, V.old, V.asked ++ [(⟨0, (V.asked.length : Int), pp, want⟩ : MsM)], V.acted⟩ B K (.slice pa V.l.length pc) dv uv ov _ cv (.slice la os.length lc) ⟨n0, n1, n2, n3, n4, n5, n6, n7, n8, n9⟩ os z8 H8.out.2.2.1 H8.out.2.1 HLV.out.1 ⟨by show V.down.length ≤ _; omega, by show V.old.length ≤ _; omega, HMM.out⟩).mono ?_
      rintro e z9 ⟨rfl, ⟨dv', ov', q1⟩, q2⟩
      have HF : Hid (TkAt w z9 B K Tb ⟨ask, want, come, lose, again, mix, deaf⟩ (askW V ⟨ask, want, come, lose, again, mix, deaf⟩)) := by
        show TkAt w _ B K Tb _ _
        rw [HAK.out]
        exact H8.out.2.2.2.next ⟨_, _, _, _, _, _, q1⟩ q2
      clear q1 q2 H8 b0 b1 b2 b3 b4 b5 b6 b7 b8 b9 HLV
      go_wp2_with fail
      refine HKn.out _ _ ?_
      exact HT2.out _ _ _ _ _ _ _ _ _ _ _ _ _ _ _ _ _ _ _ _ _ _ _ _ _ _ _ _ _ _ _ _ _ _ _ _ _ _ _ _ _ _ _ _ _ _ _ _ _ _ _ _ _ _ _ _ _ _ _ _ _ _ _ _ _ _ _ _ _ _ _ _ _ _ _ _ _ _ _ _ _ _ _ _ _ _ _ _ _ _ _ _ _ _ _ _ _ _ _ _ _ _ _ _ _ _ _ _ _ _ _ _ _ _ _ _ _ _ _ _ _ _ _ _ _ _ _ _ _ _ _ _ _ _ _ _ _ _ _ _ _ _ _ _ _ _ _ _ _ _ _ _ _ _ _ _ _ _ _ _ _ _ _ _ _ _ _ _ _ _ _ _ _ _ _ _ _ _ _ _ _ _ _ _ _ _ _ _ _ _ _ _ _ _ _ _ _ _ _ _ _ _ _ _ _ _ _ _ _ _ _ _ _ _ _ _ _ _ _ _ _ _ _ _ _ _ _ _ _ _ _ _ HF.out
end Go.Proofs.Ytjhmendiefojoam
