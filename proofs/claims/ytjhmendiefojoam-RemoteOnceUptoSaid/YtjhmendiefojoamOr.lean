/- From what comes again on, in a tick. -/
import Derived.Test.YtjhmendiefojoamYc
import Derived.Test.YtjhmendiefojoamOq
namespace Go.Proofs.Ytjhmendiefojoam
open Go.RowKit Go.Shelf

theorem row_one4 {w : World} {R : Nat} {u0 u1 u2 u3 : Value} {e : TypeId} (h : w.heap[R]? = some (.cells #[u0, u1, u2, u3] e (0, 0))) : RowAt w (.slice (some ⟨R, 0, none⟩) 1 1) 1 4 [u0, u1, u2, u3] := ⟨rfl, _, _, rfl, fun j v hj => ⟨_, _, rfl, by
  rw [Nat.zero_add]
  exact (cells_at h j).trans (by rw [List.getElem?_toArray]; exact hj)⟩⟩
set_option maxRecDepth 1000000 in
set_option maxHeartbeats 8000000 in
theorem tail2 (w : World) {B K Tb : Nat} {t : TuM} (V : Wl) {pat lim P : Int} {T : Nat} (hI : Inv pat lim P T V) (hT : T ≤ 1000) (hmi : I6 t.mix) (hls : I6 t.lose) (hai : I6 t.again) (bb1 : V.down.length + V.up.length ≤ 90000) (bb2 : V.old.length ≤ 700000) (bb3 : V.acted.length ≤ 700000) (u1 u2 u4 u5 u6 u7 u8 u9 u10 u11 u12 u13 u14 u15 u16 u17 u18 u19 u20 u21 u22 u23 u24 u25 u26 u27 u28 u29 u30 u31 u32 u33 u34 u35 u36 u37 u38 u39 u40 u41 u42 u43 u44 u45 u46 u47 u48 u49 u50 u51 u52 u53 u54 u55 u56 u57 u58 u59 u60 u61 u62 u63 u64 u65 u66 u67 u68 u69 u70 u71 u72 u73 u74 u75 u76 u77 u78 u79 u80 u81 u82 u83 u84 u85 u86 u87 u88 u89 u90 u91 u92 u93 u94 u95 u96 u97 u98 u99 u100 u101 u102 u103 u104 u105 u106 u107 u108 u109 u110 u111 u112 u113 u114 u115 u116 u117 u118 u119 u120 u121 u122 u123 u124 u125 u126 u127 u128 u129 u130 u131 u132 u133 u134 u135 u136 u137 u138 u139 u140 u141 u142 u143 u144 u145 u146 u147 u148 u149 u150 u151 u152 u153 u154 u155 u156 u157 u158 u159 u160 u161 u162 u163 u164 u165 u166 u167 u168 u169 u170 u171 u172 u173 u174 u175 u176 u177 u178 u179 u180 u181 u182 u183 u184 u185 u186 u187 u188 u189 u190 u191 u192 u193 u194 u195 u196 u197 u198 u199 u200 u201 u202 u203 u204 u205 u206 u207 u208 u209 u210 u211 u212 u213 u214 u215 u216 u217 u218 u219 u220 u221 u222 u223 u224 u225 u226 u227 u228 u229 u230 u231 u232 : Value) (z : World) (hA : TkAt w z B K Tb t V)
    (Q : Exit → Act → World → Prop) (hQ : ∀ c a a' w, Q (.panic c) a' w → Q (.panic c) a w) (hR : ∀ (g9 g10 g11 g12 g13 g14 g15 g16 g17 g18 g19 g78 g79 g80 g81 g82 g83 g84 g85 g86 g87 g88 g89 g90 g91 g92 g93 g94 g95 g96 g97 g98 g99 g100 g101 g102 g103 g104 g105 g106 g107 g108 g109 g110 g111 g112 g113 g114 g115 g116 g117 g118 g119 g120 g121 g122 g123 g124 g125 g126 g127 g128 g129 g130 g131 g132 g133 g134 g135 g136 g137 g138 g139 g140 g141 g142 g143 g144 g145 g146 g147 g148 g149 g150 g151 g152 g153 g154 g155 g156 g157 g158 g159 g160 g161 g162 g163 g164 g165 g166 g167 g168 g169 g170 g171 g172 g173 g174 g175 g176 g177 g178 g179 g180 g181 g182 g183 g184 g185 g186 g187 g188 g189 g190 g191 g192 g193 g194 g195 g196 g197 g198 g199 g200 g201 g202 g203 g204 g205 g206 g207 g208 g209 g210 g211 g212 g213 g214 g215 g216 g217 g218 g219 g220 g221 g222 g223 g224 g225 g226 g227 g228 g229 g230 g231 g232 : Value) (z' : World), TkAt w z' B K Tb t ((tickUp (downW t.come t.mix t.lose (againW V t).down.length 0 (againW V t)).tickS t).sent (waitM (tickUp (downW t.come t.mix t.lose (againW V t).down.length 0 (againW V t)).tickS t).m) (waitL (tickUp (downW t.come t.mix t.lose (againW V t).down.length 0 (againW V t)).tickS t).m)) → Q .ret ⟨#[.pointer (some ⟨K, 0, none⟩), u1, u2, .pointer (some ⟨Tb, 0, none⟩), .bool true, u5, u6, u7, u8, g9, g10, g11, g12, g13, g14, g15, g16, g17, g18, g19, u20, u21, u22, u23, u24, u25, u26, u27, u28, u29, u30, u31, u32, u33, u34, u35, u36, u37, u38, u39, u40, u41, u42, u43, u44, u45, u46, u47, u48, u49, u50, u51, u52, u53, u54, u55, u56, u57, u58, u59, u60, u61, u62, u63, u64, u65, u66, u67, u68, u69, u70, u71, u72, u73, u74, u75, u76, u77, g78, g79, g80, g81, g82, g83, g84, g85, g86, g87, g88, g89, g90, g91, g92, g93, g94, g95, g96, g97, g98, g99, g100, g101, g102, g103, g104, g105, g106, g107, g108, g109, g110, g111, g112, g113, g114, g115, g116, g117, g118, g119, g120, g121, g122, g123, g124, g125, g126, g127, g128, g129, g130, g131, g132, g133, g134, g135, g136, g137, g138, g139, g140, g141, g142, g143, g144, g145, g146, g147, g148, g149, g150, g151, g152, g153, g154, g155, g156, g157, g158, g159, g160, g161, g162, g163, g164, g165, g166, g167, g168, g169, g170, g171, g172, g173, g174, g175, g176, g177, g178, g179, g180, g181, g182, g183, g184, g185, g186, g187, g188, g189, g190, g191, g192, g193, g194, g195, g196, g197, g198, g199, g200, g201, g202, g203, g204, g205, g206, g207, g208, g209, g210, g211, g212, g213, g214, g215, g216, g217, g218, g219, g220, g221, g222, g223, g224, g225, g226, g227, g228, g229, g230, g231, g232], []⟩ z') :
    Code.wp Try.prog (tickTail 2 Try.f22) Q ⟨#[.pointer (some ⟨K, 0, none⟩), u1, u2, .pointer (some ⟨Tb, 0, none⟩), u4, u5, u6, u7, u8, u9, u10, u11, u12, u13, u14, u15, u16, u17, u18, u19, u20, u21, u22, u23, u24, u25, u26, u27, u28, u29, u30, u31, u32, u33, u34, u35, u36, u37, u38, u39, u40, u41, u42, u43, u44, u45, u46, u47, u48, u49, u50, u51, u52, u53, u54, u55, u56, u57, u58, u59, u60, u61, u62, u63, u64, u65, u66, u67, u68, u69, u70, u71, u72, u73, u74, u75, u76, u77, u78, u79, u80, u81, u82, u83, u84, u85, u86, u87, u88, u89, u90, u91, u92, u93, u94, u95, u96, u97, u98, u99, u100, u101, u102, u103, u104, u105, u106, u107, u108, u109, u110, u111, u112, u113, u114, u115, u116, u117, u118, u119, u120, u121, u122, u123, u124, u125, u126, u127, u128, u129, u130, u131, u132, u133, u134, u135, u136, u137, u138, u139, u140, u141, u142, u143, u144, u145, u146, u147, u148, u149, u150, u151, u152, u153, u154, u155, u156, u157, u158, u159, u160, u161, u162, u163, u164, u165, u166, u167, u168, u169, u170, u171, u172, u173, u174, u175, u176, u177, u178, u179, u180, u181, u182, u183, u184, u185, u186, u187, u188, u189, u190, u191, u192, u193, u194, u195, u196, u197, u198, u199, u200, u201, u202, u203, u204, u205, u206, u207, u208, u209, u210, u211, u212, u213, u214, u215, u216, u217, u218, u219, u220, u221, u222, u223, u224, u225, u226, u227, u228, u229, u230, u231, u232], []⟩ z := by
  have h : Code.wp Try.prog (Code.seq (headC 2 Try.f22) (tickTail 3 Try.f22)) Q ⟨#[.pointer (some ⟨K, 0, none⟩), u1, u2, .pointer (some ⟨Tb, 0, none⟩), u4, u5, u6, u7, u8, u9, u10, u11, u12, u13, u14, u15, u16, u17, u18, u19, u20, u21, u22, u23, u24, u25, u26, u27, u28, u29, u30, u31, u32, u33, u34, u35, u36, u37, u38, u39, u40, u41, u42, u43, u44, u45, u46, u47, u48, u49, u50, u51, u52, u53, u54, u55, u56, u57, u58, u59, u60, u61, u62, u63, u64, u65, u66, u67, u68, u69, u70, u71, u72, u73, u74, u75, u76, u77, u78, u79, u80, u81, u82, u83, u84, u85, u86, u87, u88, u89, u90, u91, u92, u93, u94, u95, u96, u97, u98, u99, u100, u101, u102, u103, u104, u105, u106, u107, u108, u109, u110, u111, u112, u113, u114, u115, u116, u117, u118, u119, u120, u121, u122, u123, u124, u125, u126, u127, u128, u129, u130, u131, u132, u133, u134, u135, u136, u137, u138, u139, u140, u141, u142, u143, u144, u145, u146, u147, u148, u149, u150, u151, u152, u153, u154, u155, u156, u157, u158, u159, u160, u161, u162, u163, u164, u165, u166, u167, u168, u169, u170, u171, u172, u173, u174, u175, u176, u177, u178, u179, u180, u181, u182, u183, u184, u185, u186, u187, u188, u189, u190, u191, u192, u193, u194, u195, u196, u197, u198, u199, u200, u201, u202, u203, u204, u205, u206, u207, u208, u209, u210, u211, u212, u213, u214, u215, u216, u217, u218, u219, u220, u221, u222, u223, u224, u225, u226, u227, u228, u229, u230, u231, u232], []⟩ z := by
    obtain ⟨i39, hi39, h390, h391, h392⟩ := info_parts Try.info39'
    obtain ⟨ask, want, come, lose, again, mix, deaf⟩ := t
    simp only at hmi hls hai
    refine wp_seq_k fun Kn hKn => ?_
    have HKn := hide' hKn
    have HR := hide' hR
    have HQ := hide' hQ
    have HI := hide' hI
    have HA := hide' hA
    clear hKn hR hQ hI hA
    obtain ⟨pv, dv, uv, ov, av, cv, hW⟩ := HA.out.wat
    obtain ⟨da, dc, hde⟩ := own_slice hW.dn
    subst hde
    have HW := hide' hW
    clear hW
    have c4 : z.cell? ⟨Tb, 4, none⟩ = some (.int .i64 again) := (cells_at HA.out.box 4).trans rfl
    have hq2 : wrap64 (again.tdiv 3) = again.tdiv 3 := wrap64_ok (tdiv_bd (by decide) hai)
    have hq1 : IntKind.i64.wrap (again.tdiv 3) = again.tdiv 3 := (IntWalk.i64_left _).trans hq2
    conv => arg 2; whnf
    by_cases hol : 0 < V.old.length
    · by_cases hag : again.tmod 3 = 1
      · obtain ⟨oa, oc, hoe⟩ := own_slice HW.out.od
        subst hoe
        obtain ⟨Gb, hGb, hGB⟩ := own_some HW.out.od (by omega)
        subst hGb
        obtain ⟨kk, hkk⟩ : ∃ kk : Nat, pickedI (again.tdiv 3) V.old.length = (kk : Int) := ⟨(pickedI (again.tdiv 3) V.old.length).toNat, by have := picked_bd (n := again.tdiv 3) (f := V.old.length) (by omega); omega⟩
        have hkl : kk < V.old.length := by have := picked_bd (n := again.tdiv 3) (f := V.old.length) (by omega); omega
        obtain ⟨⟨xk, xn, xp, xw⟩, hx⟩ : ∃ x, V.old[kk]? = some x := ⟨_, List.getElem?_eq_getElem hkl⟩
        have HXX : Hid (againW V ⟨ask, want, come, lose, again, mix, deaf⟩ = V.down1 (V.down ++ [⟨xk, xn, xp, xw⟩])) := by
          unfold againW
          rw [if_pos ⟨by omega, hag⟩]
          simp only
          rw [hkk, Int.toNat_natCast, List.getD_eq_getElem?_getD, hx]
          rfl
        have c0 : z.cell? ⟨Gb, kk * 4, none⟩ = some (.int .i64 xk) := (own_cell HW.out.od ((msgs_at hx 0 (by decide)).trans rfl)).1
        have c1 : z.cell? ⟨Gb, kk * 4 + 1, none⟩ = some (.int .i64 xn) := (own_cell HW.out.od ((msgs_at hx 1 (by decide)).trans rfl)).1
        have c2 : z.cell? ⟨Gb, kk * 4 + 2, none⟩ = some (.int .i64 xp) := (own_cell HW.out.od ((msgs_at hx 2 (by decide)).trans rfl)).1
        have c3 : z.cell? ⟨Gb, kk * 4 + 3, none⟩ = some (.bool xw) := (own_cell HW.out.od ((msgs_at hx 3 (by decide)).trans rfl)).1
        obtain ⟨-, -, -, -, -, -, -, -, -, -, -, -, -, -, -, -, -, k17, -, k19⟩ := cellsP20 HW.out.cell
        have HS : Hid (z.drew.cell? ⟨K, 17, none⟩ = some (.slice da V.down.length dc) ∧ z.drew.cell? ⟨K, 19, none⟩ = some (.slice (some ⟨Gb, 0, none⟩) V.old.length oc) ∧ z.drew.cell? ⟨Tb, 4, none⟩ = some (.int .i64 again) ∧ z.drew.cell? ⟨Gb, kk * 4, none⟩ = some (.int .i64 xk) ∧ z.drew.cell? ⟨Gb, kk * 4 + 1, none⟩ = some (.int .i64 xn) ∧ z.drew.cell? ⟨Gb, kk * 4 + 2, none⟩ = some (.int .i64 xp) ∧ z.drew.cell? ⟨Gb, kk * 4 + 3, none⟩ = some (.bool xw)) := ⟨k17, k19, c4, c0, c1, c2, c3⟩
        have HLT : Hid (Gb < z.heap.size ∧ K < z.heap.size ∧ Tb < z.heap.size) := ⟨own_lt HW.out.od rfl, lt_heap HW.out.cell, lt_heap HA.out.box⟩
        have h1 : decide ((0 : Int) < (V.old.length : Int)) = true := decide_eq_true (by omega)
        have h2 : decide (0 < V.old.length) = true := decide_eq_true (by omega)
        go_upto_region 10 with fail
        clear c0 c1 c2 c3 k17 k19
        have hg0 : decide ((kk : Int) < 0) = false := decide_eq_false (by omega)
        have hg1 : decide ((V.old.length : Int) ≤ (kk : Int)) = false := decide_eq_false (by omega)
        have hg2 : decide (V.old.length ≤ kk) = false := decide_eq_false (by omega)
        have hg3 : ¬ ((V.old.length : Int) ≤ (kk : Int)) := by omega
        have hg4 : ¬ (V.old.length ≤ kk) := by omega
        have hg5 : kk < V.old.length := hkl
        have hg6 : (kk : Int) < (V.old.length : Int) := by omega
        refine wp_region_tail (fun W' => W'.cell? ⟨K, 17, none⟩ = some (.slice da V.down.length dc) ∧ W'.cell? ⟨K, 19, none⟩ = some (.slice (some ⟨Gb, 0, none⟩) V.old.length oc) ∧ W'.cell? ⟨Tb, 4, none⟩ = some (.int .i64 again) ∧ W'.cell? ⟨Gb, kk * 4, none⟩ = some (.int .i64 xk) ∧ W'.cell? ⟨Gb, kk * 4 + 1, none⟩ = some (.int .i64 xn) ∧ W'.cell? ⟨Gb, kk * 4 + 2, none⟩ = some (.int .i64 xp) ∧ W'.cell? ⟨Gb, kk * 4 + 3, none⟩ = some (.bool xw)) 24 (by kernel_rfl) ?_
        refine wpAnyD_takeAt 0 (some 90) (v := ?_) rfl (by kernel_rfl) (by kernel_rfl) (by kernel_rfl) (by kernel_rfl) (by kernel_rfl) (fun c a w h => HQ.out c _ _ w h) (by exact HS.out) (fun o hop => ?_) ?_
        rotate_left
        · injection hop with hop
          subst hop
          refine ⟨rfl, fun W' hW => ?_⟩
          obtain ⟨s0, s1, s2, s3, s4, s5, s6⟩ := hW
          go_simp
          first
          | rfl
          | (constructor <;> rfl)
        try simp only [Act.put, List.setIfInBounds_toArray]
        refine wpAnyD_takeAt 1 (some 91) (v := ?_) rfl (by kernel_rfl) (by kernel_rfl) (by kernel_rfl) (by kernel_rfl) (by kernel_rfl) (fun c a w h => HQ.out c _ _ w h) (by exact HS.out) (fun o hop => ?_) ?_
        rotate_left
        · injection hop with hop
          subst hop
          refine ⟨rfl, fun W' hW => ?_⟩
          obtain ⟨s0, s1, s2, s3, s4, s5, s6⟩ := hW
          go_simp
          first
          | rfl
          | (constructor <;> rfl)
        try simp only [Act.put, List.setIfInBounds_toArray]
        refine wpAnyD_takeAt 2 (some 92) (v := ?_) rfl (by kernel_rfl) (by kernel_rfl) (by kernel_rfl) (by kernel_rfl) (by kernel_rfl) (fun c a w h => HQ.out c _ _ w h) (by exact HS.out) (fun o hop => ?_) ?_
        rotate_left
        · injection hop with hop
          subst hop
          refine ⟨rfl, fun W' hW => ?_⟩
          obtain ⟨s0, s1, s2, s3, s4, s5, s6⟩ := hW
          go_simp
          first
          | rfl
          | (constructor <;> rfl)
        try simp only [Act.put, List.setIfInBounds_toArray]
        refine wpAnyD_takeAt 3 (some 93) (v := ?_) rfl (by kernel_rfl) (by kernel_rfl) (by kernel_rfl) (by kernel_rfl) (by kernel_rfl) (fun c a w h => HQ.out c _ _ w h) (by exact HS.out) (fun o hop => ?_) ?_
        rotate_left
        · injection hop with hop
          subst hop
          refine ⟨rfl, fun W' hW => ?_⟩
          obtain ⟨s0, s1, s2, s3, s4, s5, s6⟩ := hW
          go_simp
          first
          | rfl
          | (constructor <;> rfl)
        try simp only [Act.put, List.setIfInBounds_toArray]
        refine wpAnyD_takeAt 4 (some 94) (v := ?_) rfl (by kernel_rfl) (by kernel_rfl) (by kernel_rfl) (by kernel_rfl) (by kernel_rfl) (fun c a w h => HQ.out c _ _ w h) (by exact HS.out) (fun o hop => ?_) ?_
        rotate_left
        · injection hop with hop
          subst hop
          refine ⟨rfl, fun W' hW => ?_⟩
          obtain ⟨s0, s1, s2, s3, s4, s5, s6⟩ := hW
          go_simp
          first
          | rfl
          | (constructor <;> rfl)
        try simp only [Act.put, List.setIfInBounds_toArray]
        refine wpAnyD_takeAt 5 (some 95) (v := ?_) rfl (by kernel_rfl) (by kernel_rfl) (by kernel_rfl) (by kernel_rfl) (by kernel_rfl) (fun c a w h => HQ.out c _ _ w h) (by exact HS.out) (fun o hop => ?_) ?_
        rotate_left
        · injection hop with hop
          subst hop
          refine ⟨rfl, fun W' hW => ?_⟩
          obtain ⟨s0, s1, s2, s3, s4, s5, s6⟩ := hW
          go_simp
          first
          | rfl
          | (constructor <;> rfl)
        try simp only [Act.put, List.setIfInBounds_toArray]
        refine wpAnyD_takeAt 6 (some 96) (v := ?_) rfl (by kernel_rfl) (by kernel_rfl) (by kernel_rfl) (by kernel_rfl) (by kernel_rfl) (fun c a w h => HQ.out c _ _ w h) (by exact HS.out) (fun o hop => ?_) ?_
        rotate_left
        · injection hop with hop
          subst hop
          refine ⟨rfl, fun W' hW => ?_⟩
          obtain ⟨s0, s1, s2, s3, s4, s5, s6⟩ := hW
          go_simp
          first
          | rfl
          | (constructor <;> rfl)
        try simp only [Act.put, List.setIfInBounds_toArray]
        refine wpAnyD_takeAt 7 (some 97) (v := ?_) rfl (by kernel_rfl) (by kernel_rfl) (by kernel_rfl) (by kernel_rfl) (by kernel_rfl) (fun c a w h => HQ.out c _ _ w h) (by exact HS.out) (fun o hop => ?_) ?_
        rotate_left
        · injection hop with hop
          subst hop
          refine ⟨rfl, fun W' hW => ?_⟩
          obtain ⟨s0, s1, s2, s3, s4, s5, s6⟩ := hW
          go_simp
          first
          | rfl
          | (constructor <;> rfl)
        try simp only [Act.put, List.setIfInBounds_toArray]
        refine wpAnyD_takeAt 8 (some 98) (v := ?_) rfl (by kernel_rfl) (by kernel_rfl) (by kernel_rfl) (by kernel_rfl) (by kernel_rfl) (fun c a w h => HQ.out c _ _ w h) (by exact HS.out) (fun o hop => ?_) ?_
        rotate_left
        · injection hop with hop
          subst hop
          refine ⟨rfl, fun W' hW => ?_⟩
          obtain ⟨s0, s1, s2, s3, s4, s5, s6⟩ := hW
          go_simp
          first
          | rfl
          | (constructor <;> rfl)
        try simp only [Act.put, List.setIfInBounds_toArray]
        refine wpAnyD_takeAt 9 (some 99) (v := ?_) rfl (by kernel_rfl) (by kernel_rfl) (by kernel_rfl) (by kernel_rfl) (by kernel_rfl) (fun c a w h => HQ.out c _ _ w h) (by exact HS.out) (fun o hop => ?_) ?_
        rotate_left
        · injection hop with hop
          subst hop
          refine ⟨rfl, fun W' hW => ?_⟩
          obtain ⟨s0, s1, s2, s3, s4, s5, s6⟩ := hW
          go_simp
          first
          | rfl
          | (constructor <;> rfl)
        try simp only [Act.put, List.setIfInBounds_toArray]
        refine wpAnyD_takeAt 10 (some 100) (v := ?_) rfl (by kernel_rfl) (by kernel_rfl) (by kernel_rfl) (by kernel_rfl) (by kernel_rfl) (fun c a w h => HQ.out c _ _ w h) (by exact HS.out) (fun o hop => ?_) ?_
        rotate_left
        · injection hop with hop
          subst hop
          refine ⟨rfl, fun W' hW => ?_⟩
          obtain ⟨s0, s1, s2, s3, s4, s5, s6⟩ := hW
          go_simp
          first
          | rfl
          | (constructor <;> rfl)
        try simp only [Act.put, List.setIfInBounds_toArray]
        refine wpAnyD_takeAt 11 (some 101) (v := ?_) rfl (by kernel_rfl) (by kernel_rfl) (by kernel_rfl) (by kernel_rfl) (by kernel_rfl) (fun c a w h => HQ.out c _ _ w h) (by exact HS.out) (fun o hop => ?_) ?_
        rotate_left
        · injection hop with hop
          subst hop
          refine ⟨rfl, fun W' hW => ?_⟩
          obtain ⟨s0, s1, s2, s3, s4, s5, s6⟩ := hW
          go_simp
          first
          | rfl
          | (constructor <;> rfl)
        try simp only [Act.put, List.setIfInBounds_toArray]
        refine wpAnyD_takeAt 12 (some 102) (v := ?_) rfl (by kernel_rfl) (by kernel_rfl) (by kernel_rfl) (by kernel_rfl) (by kernel_rfl) (fun c a w h => HQ.out c _ _ w h) (by exact HS.out) (fun o hop => ?_) ?_
        rotate_left
        · injection hop with hop
          subst hop
          refine ⟨rfl, fun W' hW => ?_⟩
          obtain ⟨s0, s1, s2, s3, s4, s5, s6⟩ := hW
          go_simp
          first
          | rfl
          | (constructor <;> rfl)
        try simp only [Act.put, List.setIfInBounds_toArray]
        refine wpAnyD_takeAt 13 (some 103) (v := ?_) rfl (by kernel_rfl) (by kernel_rfl) (by kernel_rfl) (by kernel_rfl) (by kernel_rfl) (fun c a w h => HQ.out c _ _ w h) (by exact HS.out) (fun o hop => ?_) ?_
        rotate_left
        · injection hop with hop
          subst hop
          refine ⟨rfl, fun W' hW => ?_⟩
          obtain ⟨s0, s1, s2, s3, s4, s5, s6⟩ := hW
          go_simp
          first
          | rfl
          | (constructor <;> rfl)
        try simp only [Act.put, List.setIfInBounds_toArray]
        refine wpAnyD_takeAt 14 (some 104) (v := ?_) rfl (by kernel_rfl) (by kernel_rfl) (by kernel_rfl) (by kernel_rfl) (by kernel_rfl) (fun c a w h => HQ.out c _ _ w h) (by exact HS.out) (fun o hop => ?_) ?_
        rotate_left
        · injection hop with hop
          subst hop
          refine ⟨rfl, fun W' hW => ?_⟩
          obtain ⟨s0, s1, s2, s3, s4, s5, s6⟩ := hW
          go_simp
          first
          | rfl
          | (constructor <;> rfl)
        try simp only [Act.put, List.setIfInBounds_toArray]
        refine wpAnyD_takeAt 15 (some 105) (v := ?_) rfl (by kernel_rfl) (by kernel_rfl) (by kernel_rfl) (by kernel_rfl) (by kernel_rfl) (fun c a w h => HQ.out c _ _ w h) (by exact HS.out) (fun o hop => ?_) ?_
        rotate_left
        · injection hop with hop
          subst hop
          refine ⟨rfl, fun W' hW => ?_⟩
          obtain ⟨s0, s1, s2, s3, s4, s5, s6⟩ := hW
          go_simp
          first
          | rfl
          | (constructor <;> rfl)
        try simp only [Act.put, List.setIfInBounds_toArray]
        refine wpAnyD_takeAt 16 (some 106) (v := ?_) rfl (by kernel_rfl) (by kernel_rfl) (by kernel_rfl) (by kernel_rfl) (by kernel_rfl) (fun c a w h => HQ.out c _ _ w h) (by exact HS.out) (fun o hop => ?_) ?_
        rotate_left
        · injection hop with hop
          subst hop
          refine ⟨rfl, fun W' hW => ?_⟩
          obtain ⟨s0, s1, s2, s3, s4, s5, s6⟩ := hW
          go_simp
          first
          | rfl
          | (constructor <;> rfl)
        try simp only [Act.put, List.setIfInBounds_toArray]
        refine wpAnyT_one (i := 17) (by kernel_rfl) rfl rfl (fun K' hK => ?_)
        go_simp
        go_at_call 20
        refine (picked_any (again.tdiv 3) V.old.length (tdiv_bd (by decide) hai) (by omega) (by omega) z.drew).mono ?_
        rintro e zz ⟨rfl, rfl⟩
        rw [hkk]
        refine hK.out _ _ (fun _ => HS.out) ?_
        clear hK K'
        try simp only [Act.put, List.setIfInBounds_toArray]
        refine wpAnyD_takeAt 18 (some 108) (v := ?_) rfl (by kernel_rfl) (by kernel_rfl) (by kernel_rfl) (by kernel_rfl) (by kernel_rfl) (fun c a w h => HQ.out c _ _ w h) (by exact HS.out) (fun o hop => ?_) ?_
        rotate_left
        · injection hop with hop
          subst hop
          refine ⟨rfl, fun W' hW => ?_⟩
          obtain ⟨s0, s1, s2, s3, s4, s5, s6⟩ := hW
          go_simp
          first
          | rfl
          | (constructor <;> rfl)
        try simp only [Act.put, List.setIfInBounds_toArray]
        refine wpAnyD_takeAt 19 (some 109) (v := ?_) rfl (by kernel_rfl) (by kernel_rfl) (by kernel_rfl) (by kernel_rfl) (by kernel_rfl) (fun c a w h => HQ.out c _ _ w h) (by exact HS.out) (fun o hop => ?_) ?_
        rotate_left
        · injection hop with hop
          subst hop
          refine ⟨rfl, fun W' hW => ?_⟩
          obtain ⟨s0, s1, s2, s3, s4, s5, s6⟩ := hW
          go_simp
          first
          | rfl
          | (constructor <;> rfl)
        try simp only [Act.put, List.setIfInBounds_toArray]
        have hba := below_al z.drew (.cells #[.int .i64 xk, .int .i64 xn, .int .i64 xp, .bool xw] 39)
        have hb1 : Below z.heap.size z (z.drew.alloc (.cells #[.int .i64 xk, .int .i64 xn, .int .i64 xp, .bool xw] 39)) := (Below.refl _ z).drew.trans hba
        have HNW := hide' (alloc_new z.drew (.cells #[.int .i64 xk, .int .i64 xn, .int .i64 xp, .bool xw] 39))
        have HS1 : Hid ((z.drew.alloc (.cells #[.int .i64 xk, .int .i64 xn, .int .i64 xp, .bool xw] 39)).cell? ⟨K, 17, none⟩ = some (.slice da V.down.length dc) ∧ (z.drew.alloc (.cells #[.int .i64 xk, .int .i64 xn, .int .i64 xp, .bool xw] 39)).cell? ⟨K, 19, none⟩ = some (.slice (some ⟨Gb, 0, none⟩) V.old.length oc) ∧ (z.drew.alloc (.cells #[.int .i64 xk, .int .i64 xn, .int .i64 xp, .bool xw] 39)).cell? ⟨Tb, 4, none⟩ = some (.int .i64 again) ∧ (z.drew.alloc (.cells #[.int .i64 xk, .int .i64 xn, .int .i64 xp, .bool xw] 39)).cell? ⟨Gb, kk * 4, none⟩ = some (.int .i64 xk) ∧ (z.drew.alloc (.cells #[.int .i64 xk, .int .i64 xn, .int .i64 xp, .bool xw] 39)).cell? ⟨Gb, kk * 4 + 1, none⟩ = some (.int .i64 xn) ∧ (z.drew.alloc (.cells #[.int .i64 xk, .int .i64 xn, .int .i64 xp, .bool xw] 39)).cell? ⟨Gb, kk * 4 + 2, none⟩ = some (.int .i64 xp) ∧ (z.drew.alloc (.cells #[.int .i64 xk, .int .i64 xn, .int .i64 xp, .bool xw] 39)).cell? ⟨Gb, kk * 4 + 3, none⟩ = some (.bool xw)) := by
          obtain ⟨s0, s1, s2, s3, s4, s5, s6⟩ := HS.out
          exact ⟨(hb1.cell HLT.out.2.1).trans s0, (hb1.cell HLT.out.2.1).trans s1, (hb1.cell HLT.out.2.2).trans s2, (hb1.cell HLT.out.1).trans s3, (hb1.cell HLT.out.1).trans s4, (hb1.cell HLT.out.1).trans s5, (hb1.cell HLT.out.1).trans s6⟩
        refine wpAnyT_one (i := 20) (by kernel_rfl) rfl rfl (fun K' hK => ?_)
        go_simp
        refine hK.out _ _ (fun _ => HS1.out) ?_
        clear hK K'
        try simp only [Act.put, List.setIfInBounds_toArray]
        refine wpAnyT_letter (fun q => Hid (q.heap[z.heap.size]? = some (.cells #[.int .i64 xk, .int .i64 xn, .int .i64 xp, .bool xw] 39 (0, 0)) ∧ WAt q B K V pv (.slice da V.down.length dc) uv (.slice (some ⟨Gb, 0, none⟩) V.old.length oc) av cv ∧ TkAt w q B K Tb ⟨ask, want, come, lose, again, mix, deaf⟩ V ∧ (q.cell? ⟨K, 17, none⟩ = some (.slice da V.down.length dc) ∧ q.cell? ⟨K, 19, none⟩ = some (.slice (some ⟨Gb, 0, none⟩) V.old.length oc) ∧ q.cell? ⟨Tb, 4, none⟩ = some (.int .i64 again) ∧ q.cell? ⟨Gb, kk * 4, none⟩ = some (.int .i64 xk) ∧ q.cell? ⟨Gb, kk * 4 + 1, none⟩ = some (.int .i64 xn) ∧ q.cell? ⟨Gb, kk * 4 + 2, none⟩ = some (.int .i64 xp) ∧ q.cell? ⟨Gb, kk * 4 + 3, none⟩ = some (.bool xw)))) ⟨HNW.out, HW.out.below hb1, HA.out.below hb1, HS1.out⟩ ?_
        clear HNW HS1 HS hba hb1 HLT
        intro z1 H1
        have hs1 : B ≤ z1.heap.size := H1.out.2.2.1.bs
        have HDN : Hid (z1.ownsRow B 39 4 (.slice da V.down.length dc) V.down.length (msgs V.down)) := H1.out.2.1.dn
        refine wpAnyT_one (i := 21) (by kernel_rfl) rfl rfl (fun K' hK => ?_)
        refine step_append_anyAt rfl _ _ 33 rfl B 39 i39 _ 4 32 Try.underlying33 hi39 h390 h391 h392 rfl (by decide) _ _ _ rfl HDN.out _ 1 [.int .i64 xk, .int .i64 xn, .int .i64 xp, .bool xw] rfl (row_one4 H1.out.1) (by intro u hu; simp at hu; rcases hu with rfl | rfl | rfl | rfl <;> rfl) (by unfold maxLen; omega) (by omega) hs1 ?_
        intro v2 z2 ho2 hg2 ha2
        have HT2 := hide' (WAt.dn' H1.out.2.1 (d := V.down ++ [⟨xk, xn, xp, xw⟩]) (by rw [msgs_app]; exact ho2) (by rw [List.length_append]; rfl) hg2 ha2)
        obtain ⟨va2, vc2, hve2⟩ := own_slice ho2
        subst hve2
        have HC2 : Hid (z2.heap[K]? = z1.heap[K]?) := KeepE.grown HDN.out hg2 K _ 52 (0, 0) H1.out.2.1.cell (by decide)
        have k17 : z2.cell? ⟨K, 17, none⟩ = some (.slice da V.down.length dc) := (cells_at (HC2.out.trans H1.out.2.1.cell) 17).trans rfl
        have e17 : z2.frozen? ⟨K, 17, none⟩ = false := frozen_no (HC2.out.trans H1.out.2.1.cell) _
        have HF : Hid (TkAt w (z2.setCell ⟨K, 17, none⟩ (.slice va2 (V.down.length + 1) vc2)) B K Tb ⟨ask, want, come, lose, again, mix, deaf⟩ (againW V ⟨ask, want, come, lose, again, mix, deaf⟩)) := by
          show TkAt w _ B K Tb _ _
          rw [HXX.out]
          exact H1.out.2.2.1.next ⟨_, _, _, _, _, _, HT2.out.1⟩ HT2.out.2
        have HS2 : Hid (z2.cell? ⟨K, 17, none⟩ = some (.slice da V.down.length dc) ∧ z2.cell? ⟨K, 19, none⟩ = some (.slice (some ⟨Gb, 0, none⟩) V.old.length oc) ∧ z2.cell? ⟨Tb, 4, none⟩ = some (.int .i64 again) ∧ z2.cell? ⟨Gb, kk * 4, none⟩ = some (.int .i64 xk) ∧ z2.cell? ⟨Gb, kk * 4 + 1, none⟩ = some (.int .i64 xn) ∧ z2.cell? ⟨Gb, kk * 4 + 2, none⟩ = some (.int .i64 xp) ∧ z2.cell? ⟨Gb, kk * 4 + 3, none⟩ = some (.bool xw)) := by
          obtain ⟨s0, s1, s2, s3, s4, s5, s6⟩ := H1.out.2.2.2
          have gb := hg2.block Gb (own_lt H1.out.2.1.od rfl) (fun e => H1.out.2.1.ado Gb e.symm rfl)
          exact ⟨k17, (cells_at (HC2.out.trans H1.out.2.1.cell) 19).trans rfl, (World.cell?_of_block (KeepE.grown HDN.out hg2 Tb _ 55 (0, 0) H1.out.2.2.1.box (by decide))).trans s2, (World.cell?_of_block gb).trans s3, (World.cell?_of_block gb).trans s4, (World.cell?_of_block gb).trans s5, (World.cell?_of_block gb).trans s6⟩
        refine hK.out _ _ (fun _ => HS2.out) ?_
        clear hK K' ho2 hg2 ha2 HDN HT2 HC2 H1
        try simp only [Act.put, List.setIfInBounds_toArray]
        refine wpAnyD_takeAt 22 (some 112) (v := ?_) rfl (by kernel_rfl) (by kernel_rfl) (by kernel_rfl) (by kernel_rfl) (by kernel_rfl) (fun c a w h => HQ.out c _ _ w h) (by exact HS2.out) (fun o hop => ?_) ?_
        rotate_left
        · injection hop with hop
          subst hop
          refine ⟨rfl, fun W' hW => ?_⟩
          obtain ⟨s0, s1, s2, s3, s4, s5, s6⟩ := hW
          go_simp
          first
          | rfl
          | (constructor <;> rfl)
        try simp only [Act.put]
        refine wpAnyD_takeAt 23 (some 113) (v := ?_) rfl (by kernel_rfl) (by kernel_rfl) (by kernel_rfl) (by kernel_rfl) (by kernel_rfl) (fun c a w h => HQ.out c _ _ w h) (by exact HS2.out) (fun o hop => ?_) ?_
        rotate_left
        · injection hop with hop
          subst hop
          refine ⟨rfl, fun W' hW => ?_⟩
          obtain ⟨s0, s1, s2, s3, s4, s5, s6⟩ := hW
          go_simp
          first
          | rfl
          | (constructor <;> rfl)
        try simp only [Act.put]
        refine wpAnyT_one (i := 24) (by kernel_rfl) rfl rfl (fun K' hK => ?_)
        go_simp
        refine hK.out _ _ (fun h => absurd rfl h) ?_
        clear hK K' k17 e17 HS2
        try simp only [Act.put, List.setIfInBounds_toArray]
        refine wpAnyT_done (by kernel_rfl) ?_ _
        go_wp2_with fail
        refine HKn.out _ _ ?_
        exact tail3 w (againW V ⟨ask, want, come, lose, again, mix, deaf⟩) (HI.out.again _) hT hmi hls (by rw [HXX.out]; show (V.down ++ [_]).length + V.up.length ≤ _; rw [List.length_append]; show V.down.length + 1 + V.up.length ≤ _; omega) (by rw [HXX.out]; exact bb2) (by rw [HXX.out]; exact bb3) _ _ _ _ _ _ _ _ _ _ _ _ _ _ _ _ _ _ _ _ _ _ _ _ _ _ _ _ _ _ _ _ _ _ _ _ _ _ _ _ _ _ _ _ _ _ _ _ _ _ _ _ _ _ _ _ _ _ _ _ _ _ _ _ _ _ _ _ _ _ _ _ _ _ _ _ _ _ _ _ _ _ _ _ _ _ _ _ _ _ _ _ _ _ _ _ _ _ _ _ _ _ _ _ _ _ _ _ _ _ _ _ _ _ _ _ _ _ _ _ _ _ _ _ _ _ _ _ _ _ _ _ _ _ _ _ _ _ _ _ _ _ _ _ _ _ _ _ _ _ _ _ _ _ _ _ _ _ _ _ _ _ _ _ _ _ _ _ _ _ _ _ _ _ _ _ _ _ _ _ _ _ _ _ _ _ _ _ _ _ _ _ _ _ _ _ _ _ _ _ _ _ _ _ _ _ _ _ _ _ _ _ _ _ _ _ _ _ _ _ _ _ _ _ _ _ _ _ _ _ _ _ HF.out Q HQ.out (fun g9 g10 g11 g12 g13 g14 g15 g16 g17 g18 g19 g114 g115 g116 g117 g118 g119 g120 g121 g122 g123 g124 g125 g126 g127 g128 g129 g130 g131 g132 g133 g134 g135 g136 g137 g138 g139 g140 g141 g142 g143 g144 g145 g146 g147 g148 g149 g150 g151 g152 g153 g154 g155 g156 g157 g158 g159 g160 g161 g162 g163 g164 g165 g166 g167 g168 g169 g170 g171 g172 g173 g174 g175 g176 g177 g178 g179 g180 g181 g182 g183 g184 g185 g186 g187 g188 g189 g190 g191 g192 g193 g194 g195 g196 g197 g198 g199 g200 g201 g202 g203 g204 g205 g206 g207 g208 g209 g210 g211 g212 g213 g214 g215 g216 g217 g218 g219 g220 g221 g222 g223 g224 g225 g226 g227 g228 g229 g230 g231 g232 z'' h => HR.out _ _ _ _ _ _ _ _ _ _ _ _ _ _ _ _ _ _ _ _ _ _ _ _ _ _ _ _ _ _ _ _ _ _ _ _ _ _ _ _ _ _ _ _ _ _ _ _ _ _ _ _ _ _ _ _ _ _ _ _ _ _ _ _ _ _ _ _ _ _ _ _ _ _ _ _ _ _ _ _ _ _ _ _ _ _ _ _ _ _ _ _ _ _ _ _ _ _ _ _ _ _ _ _ _ _ _ _ _ _ _ _ _ _ _ _ _ _ _ _ _ _ _ _ _ _ _ _ _ _ _ _ _ _ _ _ _ _ _ _ _ _ _ _ _ _ _ _ _ _ _ _ _ _ _ _ _ _ _ _ _ _ _ _ _ _ z'' h)
      · have HAG : Hid (againW V ⟨ask, want, come, lose, again, mix, deaf⟩ = V) := if_neg (fun q => hag q.2)
        have HF : Hid (TkAt w z B K Tb ⟨ask, want, come, lose, again, mix, deaf⟩ (againW V ⟨ask, want, come, lose, again, mix, deaf⟩)) := by
          show TkAt w _ B K Tb _ _
          rw [HAG.out]
          exact HA.out
        have HB3 : Hid ((againW V ⟨ask, want, come, lose, again, mix, deaf⟩).down.length + (againW V ⟨ask, want, come, lose, again, mix, deaf⟩).up.length ≤ 100000 ∧ (againW V ⟨ask, want, come, lose, again, mix, deaf⟩).old.length ≤ 700000 ∧ (againW V ⟨ask, want, come, lose, again, mix, deaf⟩).acted.length ≤ 700000) := by
          show _ ∧ _ ∧ _
          rw [HAG.out]
          exact ⟨by omega, bb2, bb3⟩
        obtain ⟨oa, oc, hoe⟩ := own_slice HW.out.od
        subst hoe
        have k19 : z.cell? ⟨K, 19, none⟩ = some (.slice oa V.old.length oc) := (cells_at HW.out.cell 19).trans rfl
        have h1 : decide ((0 : Int) < (V.old.length : Int)) = true := decide_eq_true (by omega)
        have h2 : decide (0 < V.old.length) = true := decide_eq_true hol
        go_wp2_with fail
        refine HKn.out _ _ ?_
        exact tail3 w (againW V ⟨ask, want, come, lose, again, mix, deaf⟩) (HI.out.again _) hT hmi hls HB3.out.1 HB3.out.2.1 HB3.out.2.2 _ _ _ _ _ _ _ _ _ _ _ _ _ _ _ _ _ _ _ _ _ _ _ _ _ _ _ _ _ _ _ _ _ _ _ _ _ _ _ _ _ _ _ _ _ _ _ _ _ _ _ _ _ _ _ _ _ _ _ _ _ _ _ _ _ _ _ _ _ _ _ _ _ _ _ _ _ _ _ _ _ _ _ _ _ _ _ _ _ _ _ _ _ _ _ _ _ _ _ _ _ _ _ _ _ _ _ _ _ _ _ _ _ _ _ _ _ _ _ _ _ _ _ _ _ _ _ _ _ _ _ _ _ _ _ _ _ _ _ _ _ _ _ _ _ _ _ _ _ _ _ _ _ _ _ _ _ _ _ _ _ _ _ _ _ _ _ _ _ _ _ _ _ _ _ _ _ _ _ _ _ _ _ _ _ _ _ _ _ _ _ _ _ _ _ _ _ _ _ _ _ _ _ _ _ _ _ _ _ _ _ _ _ _ _ _ _ _ _ _ _ _ _ _ _ _ _ _ _ _ _ _ HF.out Q HQ.out (fun g9 g10 g11 g12 g13 g14 g15 g16 g17 g18 g19 g114 g115 g116 g117 g118 g119 g120 g121 g122 g123 g124 g125 g126 g127 g128 g129 g130 g131 g132 g133 g134 g135 g136 g137 g138 g139 g140 g141 g142 g143 g144 g145 g146 g147 g148 g149 g150 g151 g152 g153 g154 g155 g156 g157 g158 g159 g160 g161 g162 g163 g164 g165 g166 g167 g168 g169 g170 g171 g172 g173 g174 g175 g176 g177 g178 g179 g180 g181 g182 g183 g184 g185 g186 g187 g188 g189 g190 g191 g192 g193 g194 g195 g196 g197 g198 g199 g200 g201 g202 g203 g204 g205 g206 g207 g208 g209 g210 g211 g212 g213 g214 g215 g216 g217 g218 g219 g220 g221 g222 g223 g224 g225 g226 g227 g228 g229 g230 g231 g232 z'' h => HR.out _ _ _ _ _ _ _ _ _ _ _ _ _ _ _ _ _ _ _ _ _ _ _ _ _ _ _ _ _ _ _ _ _ _ _ _ _ _ _ _ _ _ _ _ _ _ _ _ _ _ _ _ _ _ _ _ _ _ _ _ _ _ _ _ _ _ _ _ _ _ _ _ _ _ _ _ _ _ _ _ _ _ _ _ _ _ _ _ _ _ _ _ _ _ _ _ _ _ _ _ _ _ _ _ _ _ _ _ _ _ _ _ _ _ _ _ _ _ _ _ _ _ _ _ _ _ _ _ _ _ _ _ _ _ _ _ _ _ _ _ _ _ _ _ _ _ _ _ _ _ _ _ _ _ _ _ _ _ _ _ _ _ _ _ _ _ z'' h)
    · have HAG : Hid (againW V ⟨ask, want, come, lose, again, mix, deaf⟩ = V) := if_neg (fun q => hol q.1)
      have HF : Hid (TkAt w z B K Tb ⟨ask, want, come, lose, again, mix, deaf⟩ (againW V ⟨ask, want, come, lose, again, mix, deaf⟩)) := by
        show TkAt w _ B K Tb _ _
        rw [HAG.out]
        exact HA.out
      have HB3 : Hid ((againW V ⟨ask, want, come, lose, again, mix, deaf⟩).down.length + (againW V ⟨ask, want, come, lose, again, mix, deaf⟩).up.length ≤ 100000 ∧ (againW V ⟨ask, want, come, lose, again, mix, deaf⟩).old.length ≤ 700000 ∧ (againW V ⟨ask, want, come, lose, again, mix, deaf⟩).acted.length ≤ 700000) := by
        show _ ∧ _ ∧ _
        rw [HAG.out]
        exact ⟨by omega, bb2, bb3⟩
      obtain ⟨oa, oc, hoe⟩ := own_slice HW.out.od
      subst hoe
      have k19 : z.cell? ⟨K, 19, none⟩ = some (.slice oa V.old.length oc) := (cells_at HW.out.cell 19).trans rfl
      have h1 : decide ((0 : Int) < (V.old.length : Int)) = false := decide_eq_false (by omega)
      have h2 : decide (0 < V.old.length) = false := decide_eq_false hol
      go_wp2_with fail
      refine HKn.out _ _ ?_
      exact tail3 w (againW V ⟨ask, want, come, lose, again, mix, deaf⟩) (HI.out.again _) hT hmi hls HB3.out.1 HB3.out.2.1 HB3.out.2.2 _ _ _ _ _ _ _ _ _ _ _ _ _ _ _ _ _ _ _ _ _ _ _ _ _ _ _ _ _ _ _ _ _ _ _ _ _ _ _ _ _ _ _ _ _ _ _ _ _ _ _ _ _ _ _ _ _ _ _ _ _ _ _ _ _ _ _ _ _ _ _ _ _ _ _ _ _ _ _ _ _ _ _ _ _ _ _ _ _ _ _ _ _ _ _ _ _ _ _ _ _ _ _ _ _ _ _ _ _ _ _ _ _ _ _ _ _ _ _ _ _ _ _ _ _ _ _ _ _ _ _ _ _ _ _ _ _ _ _ _ _ _ _ _ _ _ _ _ _ _ _ _ _ _ _ _ _ _ _ _ _ _ _ _ _ _ _ _ _ _ _ _ _ _ _ _ _ _ _ _ _ _ _ _ _ _ _ _ _ _ _ _ _ _ _ _ _ _ _ _ _ _ _ _ _ _ _ _ _ _ _ _ _ _ _ _ _ _ _ _ _ _ _ _ _ _ _ _ _ _ _ _ HF.out Q HQ.out (fun g9 g10 g11 g12 g13 g14 g15 g16 g17 g18 g19 g114 g115 g116 g117 g118 g119 g120 g121 g122 g123 g124 g125 g126 g127 g128 g129 g130 g131 g132 g133 g134 g135 g136 g137 g138 g139 g140 g141 g142 g143 g144 g145 g146 g147 g148 g149 g150 g151 g152 g153 g154 g155 g156 g157 g158 g159 g160 g161 g162 g163 g164 g165 g166 g167 g168 g169 g170 g171 g172 g173 g174 g175 g176 g177 g178 g179 g180 g181 g182 g183 g184 g185 g186 g187 g188 g189 g190 g191 g192 g193 g194 g195 g196 g197 g198 g199 g200 g201 g202 g203 g204 g205 g206 g207 g208 g209 g210 g211 g212 g213 g214 g215 g216 g217 g218 g219 g220 g221 g222 g223 g224 g225 g226 g227 g228 g229 g230 g231 g232 z'' h => HR.out _ _ _ _ _ _ _ _ _ _ _ _ _ _ _ _ _ _ _ _ _ _ _ _ _ _ _ _ _ _ _ _ _ _ _ _ _ _ _ _ _ _ _ _ _ _ _ _ _ _ _ _ _ _ _ _ _ _ _ _ _ _ _ _ _ _ _ _ _ _ _ _ _ _ _ _ _ _ _ _ _ _ _ _ _ _ _ _ _ _ _ _ _ _ _ _ _ _ _ _ _ _ _ _ _ _ _ _ _ _ _ _ _ _ _ _ _ _ _ _ _ _ _ _ _ _ _ _ _ _ _ _ _ _ _ _ _ _ _ _ _ _ _ _ _ _ _ _ _ _ _ _ _ _ _ _ _ _ _ _ _ _ _ _ _ _ z'' h)
  exact h
end Go.Proofs.Ytjhmendiefojoam
