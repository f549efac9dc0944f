/- One answer comes up, in a tick. -/
import Derived.Test.YtjhmendiefojoamYc
import Derived.Test.YtjhmendiefojoamOk
namespace Go.Proofs.Ytjhmendiefojoam
open Go.RowKit Go.Shelf

set_option maxRecDepth 1000000 in
set_option maxHeartbeats 8000000 in
theorem roundU (w : World) {B K Tb : Nat} {t : TuM} (V : Wl) {pat lim P : Int} {T : Nat} (hI : Inv pat lim P T V) (hn : 0 < V.up.length) (hnb : V.up.length ≤ 1000000) (hdb : V.down.length ≤ 1000000) (hob : V.old.length ≤ 1000000) (i : Nat) (hi : (i : Int) < t.come) (hib : i ≤ 1000000) (hmi : I6 t.mix) (u1 u2 u4 u5 u6 u7 u8 u9 u10 u11 u12 u14 u15 u16 u17 u18 u19 u20 u21 u22 u23 u24 u25 u26 u27 u28 u29 u30 u31 u32 u33 u34 u35 u36 u37 u38 u39 u40 u41 u42 u43 u44 u45 u46 u47 u48 u49 u50 u51 u52 u53 u54 u55 u56 u57 u58 u59 u60 u61 u62 u63 u64 u65 u66 u67 u68 u69 u70 u71 u72 u73 u74 u75 u76 u77 u78 u79 u80 u81 u82 u83 u84 u85 u86 u87 u88 u89 u90 u91 u92 u93 u94 u95 u96 u97 u98 u99 u100 u101 u102 u103 u104 u105 u106 u107 u108 u109 u110 u111 u112 u113 u114 u115 u116 u117 u118 u119 u120 u121 u122 u123 u124 u125 u126 u127 u128 u129 u130 u131 u132 u133 u134 u135 u136 u137 u138 u139 u140 u141 u142 u143 u144 u145 u146 u147 u148 u149 u150 u151 u152 u153 u154 u155 u156 u157 u158 u159 u160 u161 u162 u163 u164 u165 u166 u167 u168 u169 u170 u171 u172 u173 u174 u175 u176 u177 u178 u179 u180 u181 u182 u183 u184 u185 u186 u187 u188 u189 u190 u191 u192 u193 u194 u195 u196 u197 u198 u199 u200 u201 u202 u203 u204 u205 u206 u207 u208 u209 u210 u211 u212 u213 u214 u215 u216 u217 u218 u219 u220 u221 u222 u223 u224 u225 u226 u227 u228 u229 u230 u231 u232 : Value) (z : World) (hA : TkAt w z B K Tb t V)
    (Kc : Act → World → Prop) (Q : Exit → Act → World → Prop) (hQ : ∀ c a a' w, Q (.panic c) a' w → Q (.panic c) a w) (hK : ∀ (g14 g15 g16 g17 g170 g171 g172 g173 g174 g175 g176 g177 g178 g179 g180 g181 g182 g183 g184 g185 g186 g187 g188 g189 g190 g191 g192 g193 g194 g195 g196 g197 g198 g199 g200 g201 g202 g203 g204 g205 g206 g207 g208 g209 g210 g211 g212 g213 g214 g215 g216 g217 : Value) (z' : World), TkAt w z' B K Tb t (upStep t.mix t.deaf i V) → Kc ⟨#[.pointer (some ⟨K, 0, none⟩), u1, u2, .pointer (some ⟨Tb, 0, none⟩), u4, u5, u6, u7, u8, u9, u10, u11, u12, .int .i64 ((i : Int) + 1), g14, g15, g16, g17, u18, u19, u20, u21, u22, u23, u24, u25, u26, u27, u28, u29, u30, u31, u32, u33, u34, u35, u36, u37, u38, u39, u40, u41, u42, u43, u44, u45, u46, u47, u48, u49, u50, u51, u52, u53, u54, u55, u56, u57, u58, u59, u60, u61, u62, u63, u64, u65, u66, u67, u68, u69, u70, u71, u72, u73, u74, u75, u76, u77, u78, u79, u80, u81, u82, u83, u84, u85, u86, u87, u88, u89, u90, u91, u92, u93, u94, u95, u96, u97, u98, u99, u100, u101, u102, u103, u104, u105, u106, u107, u108, u109, u110, u111, u112, u113, u114, u115, u116, u117, u118, u119, u120, u121, u122, u123, u124, u125, u126, u127, u128, u129, u130, u131, u132, u133, u134, u135, u136, u137, u138, u139, u140, u141, u142, u143, u144, u145, u146, u147, u148, u149, u150, u151, u152, u153, u154, u155, u156, u157, u158, u159, u160, u161, u162, u163, u164, u165, u166, u167, u168, u169, g170, g171, g172, g173, g174, g175, g176, g177, g178, g179, g180, g181, g182, g183, g184, g185, g186, g187, g188, g189, g190, g191, g192, g193, g194, g195, g196, g197, g198, g199, g200, g201, g202, g203, g204, g205, g206, g207, g208, g209, g210, g211, g212, g213, g214, g215, g216, g217, u218, u219, u220, u221, u222, u223, u224, u225, u226, u227, u228, u229, u230, u231, u232], []⟩ z') :
    Code.wp Try.prog (bodyUF Try.f22) (Exit.then Kc Q) ⟨#[.pointer (some ⟨K, 0, none⟩), u1, u2, .pointer (some ⟨Tb, 0, none⟩), u4, u5, u6, u7, u8, u9, u10, u11, u12, .int .i64 (i : Int), u14, u15, u16, u17, u18, u19, u20, u21, u22, u23, u24, u25, u26, u27, u28, u29, u30, u31, u32, u33, u34, u35, u36, u37, u38, u39, u40, u41, u42, u43, u44, u45, u46, u47, u48, u49, u50, u51, u52, u53, u54, u55, u56, u57, u58, u59, u60, u61, u62, u63, u64, u65, u66, u67, u68, u69, u70, u71, u72, u73, u74, u75, u76, u77, u78, u79, u80, u81, u82, u83, u84, u85, u86, u87, u88, u89, u90, u91, u92, u93, u94, u95, u96, u97, u98, u99, u100, u101, u102, u103, u104, u105, u106, u107, u108, u109, u110, u111, u112, u113, u114, u115, u116, u117, u118, u119, u120, u121, u122, u123, u124, u125, u126, u127, u128, u129, u130, u131, u132, u133, u134, u135, u136, u137, u138, u139, u140, u141, u142, u143, u144, u145, u146, u147, u148, u149, u150, u151, u152, u153, u154, u155, u156, u157, u158, u159, u160, u161, u162, u163, u164, u165, u166, u167, u168, u169, u170, u171, u172, u173, u174, u175, u176, u177, u178, u179, u180, u181, u182, u183, u184, u185, u186, u187, u188, u189, u190, u191, u192, u193, u194, u195, u196, u197, u198, u199, u200, u201, u202, u203, u204, u205, u206, u207, u208, u209, u210, u211, u212, u213, u214, u215, u216, u217, u218, u219, u220, u221, u222, u223, u224, u225, u226, u227, u228, u229, u230, u231, u232], []⟩ z := by
  obtain ⟨ask, want, come, lose, again, mix, deaf⟩ := t
  simp only at hi hmi hK
  have HK := hide' hK
  have HI := hide' hI
  have HQ := hide' hQ
  clear hQ hK hI
  conv => arg 2; whnf
  have HA := hide' hA
  clear hA
  obtain ⟨pv, dv, uv, ov, av, cv, hW⟩ := HA.out.wat
  obtain ⟨da, dc, hde⟩ := own_slice hW.up
  subst hde
  have HW := hide' hW
  clear hW
  have k18 : z.cell? ⟨K, 18, none⟩ = some (.slice da V.up.length dc) := (cells_at HW.out.cell 18).trans rfl
  have c2 : z.cell? ⟨Tb, 2, none⟩ = some (.int .i64 come) := (cells_at HA.out.box 2).trans rfl
  have h1 : decide ((i : Int) < come) = true := decide_eq_true hi
  have h2 : decide ((0 : Int) < (V.up.length : Int)) = true := decide_eq_true (by omega)
  have h3 : decide (0 < V.up.length) = true := decide_eq_true hn
  have hq2 : wrap64 (mix.tdiv 7) = mix.tdiv 7 := wrap64_ok (tdiv_bd (by decide) hmi)
  have hq1 : IntKind.i64.wrap (mix.tdiv 7) = mix.tdiv 7 := (IntWalk.i64_left _).trans hq2
  obtain ⟨mx, hmx⟩ : ∃ m, IntKind.i64.wrap (mix.tdiv 7 + (i : Int)) = m := ⟨_, rfl⟩
  have HMX : Hid (wrap64 (mix.tdiv 7 + i) = mx ∧ I6 mx) := by
    rw [IntWalk.i64_left] at hmx
    exact ⟨hmx, by rw [← hmx]; exact wrap64_I6 _⟩
  have hmx2 : wrap64 (mix.tdiv 7 + (i : Int)) = mx := HMX.out.1
  go_upto_region 26 with fail
  have hbC := below_al z (.cells #[.int .i64 0, .int .i64 0, .int .i64 0, .bool false] 39)
  have hqC := alloc_new z (.cells #[.int .i64 0, .int .i64 0, .int .i64 0, .bool false] 39)
  obtain ⟨Cb, hCb⟩ : ∃ q, q = z.heap.size := ⟨_, rfl⟩
  obtain ⟨z1, hz1⟩ : ∃ q, q = z.alloc (.cells #[.int .i64 0, .int .i64 0, .int .i64 0, .bool false] 39) := ⟨_, rfl⟩
  rw [← hz1] at hbC
  rw [← hz1, ← hCb] at hqC
  rw [← hz1]
  rw [show (Value.pointer (some { block := z.heap.size, off := 0 })) = Value.pointer (some { block := Cb, off := 0 }) by rw [hCb]]
  have H1 := hide' (HA.out.below hbC)
  have HWT := hide' (HW.out.below hbC)
  have HQC := hide' hqC
  have HCE : Hid (K ≠ Cb ∧ Tb ≠ Cb ∧ B ≤ Cb ∧ (∀ g, (Value.slice da V.up.length dc).ownBlock = some g → g ≠ Cb) ∧ (∀ g, pv.ownBlock = some g → g ≠ Cb) ∧ (∀ g, dv.ownBlock = some g → g ≠ Cb) ∧ (∀ g, ov.ownBlock = some g → g ≠ Cb) ∧ (∀ g, av.ownBlock = some g → g ≠ Cb) ∧ (∀ g, cv.ownBlock = some g → g ≠ Cb)) := by
    have q1 := lt_heap HW.out.cell
    have q2 := lt_heap HA.out.box
    have q3 := HW.out.bk
    refine ⟨by omega, by omega, by omega, fun g hg => ?_, fun g hg => ?_, fun g hg => ?_, fun g hg => ?_, fun g hg => ?_, fun g hg => ?_⟩
    · have := own_lt HW.out.up hg; omega
    · have := own_lt HW.out.pts hg; omega
    · have := own_lt HW.out.dn hg; omega
    · have := own_lt HW.out.od hg; omega
    · have := own_lt HW.out.ak hg; omega
    · have := own_lt HW.out.ac hg; omega
  clear hbC hqC hz1 hCb k18 c2 HA HW
  have HS1 : Hid (z1.drew.heap[K]? = some (.cells #[.int .i64 V.m.no, .int .i64 V.m.ph, .int .i64 V.m.now, .int .i64 V.m.pt, .bool V.m.want, .int .i64 V.m.timer, .int .i64 V.m.pat, .int .i64 V.m.tries, .int .i64 V.m.lim, .bool V.m.gave, pv, .int .i64 V.s.last, .int .i64 V.s.armed, .int .i64 V.s.point, .bool V.s.want, .int .i64 V.s.left, .int .i64 V.s.pat, dv, .slice da V.up.length dc, ov, av, cv] 52 (0, 0)) ∧ z1.drew.heap[Tb]? = some (.cells #[.int .i64 ask, .bool want, .int .i64 come, .int .i64 lose, .int .i64 again, .int .i64 mix, .bool deaf] 55 (0, 0))) := ⟨HWT.out.cell, H1.out.box⟩
  refine wp_region_tail (fun W' => W'.heap[K]? = some (.cells #[.int .i64 V.m.no, .int .i64 V.m.ph, .int .i64 V.m.now, .int .i64 V.m.pt, .bool V.m.want, .int .i64 V.m.timer, .int .i64 V.m.pat, .int .i64 V.m.tries, .int .i64 V.m.lim, .bool V.m.gave, pv, .int .i64 V.s.last, .int .i64 V.s.armed, .int .i64 V.s.point, .bool V.s.want, .int .i64 V.s.left, .int .i64 V.s.pat, dv, .slice da V.up.length dc, ov, av, cv] 52 (0, 0)) ∧ W'.heap[Tb]? = some (.cells #[.int .i64 ask, .bool want, .int .i64 come, .int .i64 lose, .int .i64 again, .int .i64 mix, .bool deaf] 55 (0, 0))) 17 (by kernel_rfl) ?_
  refine wpAnyD_takeAt 0 (some 185) (v := ?_) rfl (by kernel_rfl) (by kernel_rfl) (by kernel_rfl) (by kernel_rfl) (by kernel_rfl) (fun c a w h => HQ.out c _ _ w h) (by exact HS1.out) (fun o hop => ?_) ?_
  rotate_left
  · injection hop with hop
    subst hop
    refine ⟨rfl, fun W' hW => ?_⟩
    have g18 : W'.cell? ⟨K, 18, none⟩ = some (.slice da V.up.length dc) := (cells_at hW.1 18).trans rfl
    have g5 : W'.cell? ⟨Tb, 5, none⟩ = some (.int .i64 mix) := (cells_at hW.2 5).trans rfl
    go_simp
    first
    | rfl
    | (constructor <;> rfl)
  try simp only [Act.put, List.setIfInBounds_toArray]
  refine wpAnyD_takeAt 1 (some 186) (v := ?_) rfl (by kernel_rfl) (by kernel_rfl) (by kernel_rfl) (by kernel_rfl) (by kernel_rfl) (fun c a w h => HQ.out c _ _ w h) (by exact HS1.out) (fun o hop => ?_) ?_
  rotate_left
  · injection hop with hop
    subst hop
    refine ⟨rfl, fun W' hW => ?_⟩
    have g18 : W'.cell? ⟨K, 18, none⟩ = some (.slice da V.up.length dc) := (cells_at hW.1 18).trans rfl
    have g5 : W'.cell? ⟨Tb, 5, none⟩ = some (.int .i64 mix) := (cells_at hW.2 5).trans rfl
    go_simp
    first
    | rfl
    | (constructor <;> rfl)
  try simp only [Act.put, List.setIfInBounds_toArray]
  refine wpAnyD_takeAt 2 (some 187) (v := ?_) rfl (by kernel_rfl) (by kernel_rfl) (by kernel_rfl) (by kernel_rfl) (by kernel_rfl) (fun c a w h => HQ.out c _ _ w h) (by exact HS1.out) (fun o hop => ?_) ?_
  rotate_left
  · injection hop with hop
    subst hop
    refine ⟨rfl, fun W' hW => ?_⟩
    have g18 : W'.cell? ⟨K, 18, none⟩ = some (.slice da V.up.length dc) := (cells_at hW.1 18).trans rfl
    have g5 : W'.cell? ⟨Tb, 5, none⟩ = some (.int .i64 mix) := (cells_at hW.2 5).trans rfl
    go_simp
    first
    | rfl
    | (constructor <;> rfl)
  try simp only [Act.put, List.setIfInBounds_toArray]
  refine wpAnyD_takeAt 3 (some 188) (v := ?_) rfl (by kernel_rfl) (by kernel_rfl) (by kernel_rfl) (by kernel_rfl) (by kernel_rfl) (fun c a w h => HQ.out c _ _ w h) (by exact HS1.out) (fun o hop => ?_) ?_
  rotate_left
  · injection hop with hop
    subst hop
    refine ⟨rfl, fun W' hW => ?_⟩
    have g18 : W'.cell? ⟨K, 18, none⟩ = some (.slice da V.up.length dc) := (cells_at hW.1 18).trans rfl
    have g5 : W'.cell? ⟨Tb, 5, none⟩ = some (.int .i64 mix) := (cells_at hW.2 5).trans rfl
    go_simp
    first
    | rfl
    | (constructor <;> rfl)
  try simp only [Act.put, List.setIfInBounds_toArray]
  refine wpAnyD_takeAt 4 (some 189) (v := ?_) rfl (by kernel_rfl) (by kernel_rfl) (by kernel_rfl) (by kernel_rfl) (by kernel_rfl) (fun c a w h => HQ.out c _ _ w h) (by exact HS1.out) (fun o hop => ?_) ?_
  rotate_left
  · injection hop with hop
    subst hop
    refine ⟨rfl, fun W' hW => ?_⟩
    have g18 : W'.cell? ⟨K, 18, none⟩ = some (.slice da V.up.length dc) := (cells_at hW.1 18).trans rfl
    have g5 : W'.cell? ⟨Tb, 5, none⟩ = some (.int .i64 mix) := (cells_at hW.2 5).trans rfl
    go_simp
    first
    | rfl
    | (constructor <;> rfl)
  try simp only [Act.put, List.setIfInBounds_toArray]
  refine wpAnyD_takeAt 5 (some 190) (v := ?_) rfl (by kernel_rfl) (by kernel_rfl) (by kernel_rfl) (by kernel_rfl) (by kernel_rfl) (fun c a w h => HQ.out c _ _ w h) (by exact HS1.out) (fun o hop => ?_) ?_
  rotate_left
  · injection hop with hop
    subst hop
    refine ⟨rfl, fun W' hW => ?_⟩
    have g18 : W'.cell? ⟨K, 18, none⟩ = some (.slice da V.up.length dc) := (cells_at hW.1 18).trans rfl
    have g5 : W'.cell? ⟨Tb, 5, none⟩ = some (.int .i64 mix) := (cells_at hW.2 5).trans rfl
    go_simp
    first
    | rfl
    | (constructor <;> rfl)
  try simp only [Act.put, List.setIfInBounds_toArray]
  refine wpAnyD_takeAt 6 (some 191) (v := ?_) rfl (by kernel_rfl) (by kernel_rfl) (by kernel_rfl) (by kernel_rfl) (by kernel_rfl) (fun c a w h => HQ.out c _ _ w h) (by exact HS1.out) (fun o hop => ?_) ?_
  rotate_left
  · injection hop with hop
    subst hop
    refine ⟨rfl, fun W' hW => ?_⟩
    have g18 : W'.cell? ⟨K, 18, none⟩ = some (.slice da V.up.length dc) := (cells_at hW.1 18).trans rfl
    have g5 : W'.cell? ⟨Tb, 5, none⟩ = some (.int .i64 mix) := (cells_at hW.2 5).trans rfl
    go_simp
    first
    | rfl
    | (constructor <;> rfl)
  try simp only [Act.put, List.setIfInBounds_toArray]
  refine wpAnyD_takeAt 7 (some 192) (v := ?_) rfl (by kernel_rfl) (by kernel_rfl) (by kernel_rfl) (by kernel_rfl) (by kernel_rfl) (fun c a w h => HQ.out c _ _ w h) (by exact HS1.out) (fun o hop => ?_) ?_
  rotate_left
  · injection hop with hop
    subst hop
    refine ⟨rfl, fun W' hW => ?_⟩
    have g18 : W'.cell? ⟨K, 18, none⟩ = some (.slice da V.up.length dc) := (cells_at hW.1 18).trans rfl
    have g5 : W'.cell? ⟨Tb, 5, none⟩ = some (.int .i64 mix) := (cells_at hW.2 5).trans rfl
    go_simp
    first
    | rfl
    | (constructor <;> rfl)
  try simp only [Act.put, List.setIfInBounds_toArray]
  refine wpAnyD_takeAt 8 (some 193) (v := ?_) rfl (by kernel_rfl) (by kernel_rfl) (by kernel_rfl) (by kernel_rfl) (by kernel_rfl) (fun c a w h => HQ.out c _ _ w h) (by exact HS1.out) (fun o hop => ?_) ?_
  rotate_left
  · injection hop with hop
    subst hop
    refine ⟨rfl, fun W' hW => ?_⟩
    have g18 : W'.cell? ⟨K, 18, none⟩ = some (.slice da V.up.length dc) := (cells_at hW.1 18).trans rfl
    have g5 : W'.cell? ⟨Tb, 5, none⟩ = some (.int .i64 mix) := (cells_at hW.2 5).trans rfl
    go_simp
    first
    | rfl
    | (constructor <;> rfl)
  try simp only [Act.put, List.setIfInBounds_toArray]
  refine wpAnyD_takeAt 9 (some 194) (v := ?_) rfl (by kernel_rfl) (by kernel_rfl) (by kernel_rfl) (by kernel_rfl) (by kernel_rfl) (fun c a w h => HQ.out c _ _ w h) (by exact HS1.out) (fun o hop => ?_) ?_
  rotate_left
  · injection hop with hop
    subst hop
    refine ⟨rfl, fun W' hW => ?_⟩
    have g18 : W'.cell? ⟨K, 18, none⟩ = some (.slice da V.up.length dc) := (cells_at hW.1 18).trans rfl
    have g5 : W'.cell? ⟨Tb, 5, none⟩ = some (.int .i64 mix) := (cells_at hW.2 5).trans rfl
    go_simp
    first
    | rfl
    | (constructor <;> rfl)
  try simp only [Act.put, List.setIfInBounds_toArray]
  refine wpAnyT_one (i := 10) (by kernel_rfl) rfl rfl (fun K' hK => ?_)
  go_simp
  go_at_call 39
  refine (pick_any V.up da V.up.length dc mx z1.drew B (own_below HWT.out.up (Below.refl _ z1).drew (Nat.le_refl _)) rfl hn hnb HMX.out.2).mono ?_
  rintro e z2 ⟨v, he, hov, hb2⟩
  obtain ⟨⟨xk, xn, xp, xw⟩, hx⟩ : ∃ x, x = V.up.getD (pickK V.up.length mx) noMsg := ⟨_, rfl⟩
  obtain ⟨dl, hdl⟩ : ∃ x, x = V.up.eraseIdx (pickK V.up.length mx) := ⟨_, rfl⟩
  rw [← hx] at he
  rw [← hdl] at hov
  unfold MsM.cells at he
  simp only at he
  subst he
  have HXD := hide' (And.intro hx hdl)
  clear hx hdl
  obtain ⟨va, vc, hve⟩ := own_slice hov
  subst hve
  have hb12 : Below z1.heap.size z1 z2 := ⟨hb2.os, hb2.tape, hb2.output, hb2.size, hb2.block⟩
  have HS2 : Hid (z2.heap[K]? = some (.cells #[.int .i64 V.m.no, .int .i64 V.m.ph, .int .i64 V.m.now, .int .i64 V.m.pt, .bool V.m.want, .int .i64 V.m.timer, .int .i64 V.m.pat, .int .i64 V.m.tries, .int .i64 V.m.lim, .bool V.m.gave, pv, .int .i64 V.s.last, .int .i64 V.s.armed, .int .i64 V.s.point, .bool V.s.want, .int .i64 V.s.left, .int .i64 V.s.pat, dv, .slice da V.up.length dc, ov, av, cv] 52 (0, 0)) ∧ z2.heap[Tb]? = some (.cells #[.int .i64 ask, .bool want, .int .i64 come, .int .i64 lose, .int .i64 again, .int .i64 mix, .bool deaf] 55 (0, 0))) := ⟨(hb12.block K (lt_heap HS1.out.1)).trans HS1.out.1, (hb12.block Tb (lt_heap HS1.out.2)).trans HS1.out.2⟩
  refine hK.out _ _ (fun _ => HS2.out) ?_
  clear hK K'
  try simp only [Act.put, List.setIfInBounds_toArray]
  have HQ2 := hide' ((hb12.block Cb (lt_heap HQC.out)).trans HQC.out)
  have H2 := hide' (H1.out.below hb12)
  have HW2 := hide' (HWT.out.below hb12)
  have HOV : Hid (z2.ownsRow B 39 4 (.slice va dl.length vc) dl.length (msgs dl)) := own_mono hov H1.out.bs
  have HAP : Hid (Apart dv (.slice va dl.length vc) ∧ Apart (.slice va dl.length vc) ov ∧ Apart (.slice va dl.length vc) av ∧ ∀ g, (Value.slice va dl.length vc).ownBlock = some g → g ≠ Cb) := ⟨Apart.symm (apart_late HWT.out.dn hov), apart_late HWT.out.od hov, apart_late HWT.out.ak hov, fun g hg => by have q1 := own_at hov g hg; have q2 := lt_heap HQC.out; have q3 : z1.drew.heap.size = z1.heap.size := rfl; omega⟩
  clear hov hb2 hb12 HS1 HQC H1 HWT
  refine wpAnyD_takeAt 11 (some 184) (v := ?_) rfl (by kernel_rfl) (by kernel_rfl) (by kernel_rfl) (by kernel_rfl) (by kernel_rfl) (fun c a w h => HQ.out c _ _ w h) (by exact HS2.out) (fun o hop => ?_) ?_
  rotate_left
  · injection hop with hop
    subst hop
    refine ⟨rfl, fun W' hW => ?_⟩
    have g18 : W'.cell? ⟨K, 18, none⟩ = some (.slice da V.up.length dc) := (cells_at hW.1 18).trans rfl
    have g5 : W'.cell? ⟨Tb, 5, none⟩ = some (.int .i64 mix) := (cells_at hW.2 5).trans rfl
    go_simp
    first
    | rfl
    | (constructor <;> rfl)
  try simp only [Act.put, List.setIfInBounds_toArray]
  refine wpAnyD_takeAt 12 (some 196) (v := ?_) rfl (by kernel_rfl) (by kernel_rfl) (by kernel_rfl) (by kernel_rfl) (by kernel_rfl) (fun c a w h => HQ.out c _ _ w h) (by exact HS2.out) (fun o hop => ?_) ?_
  rotate_left
  · injection hop with hop
    subst hop
    refine ⟨rfl, fun W' hW => ?_⟩
    have g18 : W'.cell? ⟨K, 18, none⟩ = some (.slice da V.up.length dc) := (cells_at hW.1 18).trans rfl
    have g5 : W'.cell? ⟨Tb, 5, none⟩ = some (.int .i64 mix) := (cells_at hW.2 5).trans rfl
    go_simp
    first
    | rfl
    | (constructor <;> rfl)
  try simp only [Act.put, List.setIfInBounds_toArray]
  refine wpAnyD_takeAt 13 (some 197) (v := ?_) rfl (by kernel_rfl) (by kernel_rfl) (by kernel_rfl) (by kernel_rfl) (by kernel_rfl) (fun c a w h => HQ.out c _ _ w h) (by exact HS2.out) (fun o hop => ?_) ?_
  rotate_left
  · injection hop with hop
    subst hop
    refine ⟨rfl, fun W' hW => ?_⟩
    have g18 : W'.cell? ⟨K, 18, none⟩ = some (.slice da V.up.length dc) := (cells_at hW.1 18).trans rfl
    have g5 : W'.cell? ⟨Tb, 5, none⟩ = some (.int .i64 mix) := (cells_at hW.2 5).trans rfl
    go_simp
    first
    | rfl
    | (constructor <;> rfl)
  try simp only [Act.put, List.setIfInBounds_toArray]
  obtain ⟨b0, b1, b2, b3⟩ := cellsP4 HQ2.out
  obtain ⟨e0, e1, e2, e3⟩ := frozenP4 HQ2.out
  have HP := hide' (put4 HQ2.out (.int .i64 xk) (.int .i64 xn) (.int .i64 xp) (.bool xw))
  have HS3 : Hid (((((z2.setCell ⟨Cb, 0, none⟩ (.int .i64 xk)).setCell ⟨Cb, 1, none⟩ (.int .i64 xn)).setCell ⟨Cb, 2, none⟩ (.int .i64 xp)).setCell ⟨Cb, 3, none⟩ (.bool xw)).heap[K]? = some (.cells #[.int .i64 V.m.no, .int .i64 V.m.ph, .int .i64 V.m.now, .int .i64 V.m.pt, .bool V.m.want, .int .i64 V.m.timer, .int .i64 V.m.pat, .int .i64 V.m.tries, .int .i64 V.m.lim, .bool V.m.gave, pv, .int .i64 V.s.last, .int .i64 V.s.armed, .int .i64 V.s.point, .bool V.s.want, .int .i64 V.s.left, .int .i64 V.s.pat, dv, .slice da V.up.length dc, ov, av, cv] 52 (0, 0)) ∧ ((((z2.setCell ⟨Cb, 0, none⟩ (.int .i64 xk)).setCell ⟨Cb, 1, none⟩ (.int .i64 xn)).setCell ⟨Cb, 2, none⟩ (.int .i64 xp)).setCell ⟨Cb, 3, none⟩ (.bool xw)).heap[Tb]? = some (.cells #[.int .i64 ask, .bool want, .int .i64 come, .int .i64 lose, .int .i64 again, .int .i64 mix, .bool deaf] 55 (0, 0))) := ⟨(HP.out.2.block K (lt_heap HS2.out.1) HCE.out.1).trans HS2.out.1, (HP.out.2.block Tb (lt_heap HS2.out.2) HCE.out.2.1).trans HS2.out.2⟩
  refine wpAnyT_one (i := 14) (by kernel_rfl) rfl rfl (fun K' hK => ?_)
  go_simp
  refine hK.out _ _ (fun _ => HS3.out) ?_
  clear hK K' b0 b1 b2 b3 e0 e1 e2 e3
  try simp only [Act.put, List.setIfInBounds_toArray]
  refine wpAnyT_letter (fun q => Hid (q.heap[Cb]? = some (.cells #[.int .i64 xk, .int .i64 xn, .int .i64 xp, .bool xw] 39 (0, 0)) ∧ TkAt w q B K Tb ⟨ask, want, come, lose, again, mix, deaf⟩ V ∧ WAt q B K V pv dv (.slice da V.up.length dc) ov av cv ∧ q.ownsRow B 39 4 (.slice va dl.length vc) dl.length (msgs dl) ∧ (q.heap[K]? = some (.cells #[.int .i64 V.m.no, .int .i64 V.m.ph, .int .i64 V.m.now, .int .i64 V.m.pt, .bool V.m.want, .int .i64 V.m.timer, .int .i64 V.m.pat, .int .i64 V.m.tries, .int .i64 V.m.lim, .bool V.m.gave, pv, .int .i64 V.s.last, .int .i64 V.s.armed, .int .i64 V.s.point, .bool V.s.want, .int .i64 V.s.left, .int .i64 V.s.pat, dv, .slice da V.up.length dc, ov, av, cv] 52 (0, 0)) ∧ q.heap[Tb]? = some (.cells #[.int .i64 ask, .bool want, .int .i64 come, .int .i64 lose, .int .i64 again, .int .i64 mix, .bool deaf] 55 (0, 0))))) ⟨HP.out.1, H2.out.next ⟨_, _, _, _, _, _, HW2.out.but' HP.out.2 HCE.out.1 HCE.out.2.2.2.2.1 HCE.out.2.2.2.2.2.1 HCE.out.2.2.2.1 HCE.out.2.2.2.2.2.2.1 HCE.out.2.2.2.2.2.2.2.1 HCE.out.2.2.2.2.2.2.2.2⟩ (but_bl HP.out.2 HQ2.out (by decide) HCE.out.2.2.1 H2.out.bs), HW2.out.but' HP.out.2 HCE.out.1 HCE.out.2.2.2.2.1 HCE.out.2.2.2.2.2.1 HCE.out.2.2.2.1 HCE.out.2.2.2.2.2.2.1 HCE.out.2.2.2.2.2.2.2.1 HCE.out.2.2.2.2.2.2.2.2, own_other HOV.out (fun k ek => HP.out.2.block k (own_lt HOV.out ek) (HAP.out.2.2.2 k ek)), HS3.out⟩ ?_
  clear HP HS3 HS2 HQ2 H2 HW2 HOV
  intro z3 H3
  refine wpAnyD_takeAt 15 (some 198) (v := ?_) rfl (by kernel_rfl) (by kernel_rfl) (by kernel_rfl) (by kernel_rfl) (by kernel_rfl) (fun c a w h => HQ.out c _ _ w h) (by exact H3.out.2.2.2.2) (fun o hop => ?_) ?_
  rotate_left
  · injection hop with hop
    subst hop
    refine ⟨rfl, fun W' hW => ?_⟩
    have g18 : W'.cell? ⟨K, 18, none⟩ = some (.slice da V.up.length dc) := (cells_at hW.1 18).trans rfl
    have g5 : W'.cell? ⟨Tb, 5, none⟩ = some (.int .i64 mix) := (cells_at hW.2 5).trans rfl
    go_simp
    first
    | rfl
    | (constructor <;> rfl)
  try simp only [Act.put, List.setIfInBounds_toArray]
  refine wpAnyD_takeAt 16 (some 199) (v := ?_) rfl (by kernel_rfl) (by kernel_rfl) (by kernel_rfl) (by kernel_rfl) (by kernel_rfl) (fun c a w h => HQ.out c _ _ w h) (by exact H3.out.2.2.2.2) (fun o hop => ?_) ?_
  rotate_left
  · injection hop with hop
    subst hop
    refine ⟨rfl, fun W' hW => ?_⟩
    have g18 : W'.cell? ⟨K, 18, none⟩ = some (.slice da V.up.length dc) := (cells_at hW.1 18).trans rfl
    have g5 : W'.cell? ⟨Tb, 5, none⟩ = some (.int .i64 mix) := (cells_at hW.2 5).trans rfl
    go_simp
    first
    | rfl
    | (constructor <;> rfl)
  try simp only [Act.put, List.setIfInBounds_toArray]
  have k18 : z3.cell? ⟨K, 18, none⟩ = some (.slice da V.up.length dc) := (cells_at H3.out.2.2.2.2.1 18).trans rfl
  have e18 : z3.frozen? ⟨K, 18, none⟩ = false := frozen_no H3.out.2.2.2.2.1 _
  have HN := hide' (H3.out.2.2.1.upN (d := dl) H3.out.2.2.2.1 rfl HAP.out.1 HAP.out.2.1 HAP.out.2.2.1)
  refine wpAnyT_one (i := 17) (by kernel_rfl) rfl rfl (fun K' hK => ?_)
  go_simp
  refine hK.out _ _ (fun h => absurd rfl h) ?_
  clear hK K' k18 e18
  try simp only [Act.put, List.setIfInBounds_toArray]
  refine wpAnyT_done (by kernel_rfl) ?_ _
  have H4 : Hid ((z3.setCell ⟨K, 18, none⟩ (.slice va dl.length vc)).heap[Cb]? = some (.cells #[.int .i64 xk, .int .i64 xn, .int .i64 xp, .bool xw] 39 (0, 0)) ∧ TkAt w (z3.setCell ⟨K, 18, none⟩ (.slice va dl.length vc)) B K Tb ⟨ask, want, come, lose, again, mix, deaf⟩ (V.up1 dl) ∧ WAt (z3.setCell ⟨K, 18, none⟩ (.slice va dl.length vc)) B K (V.up1 dl) pv dv (.slice va dl.length vc) ov av cv) := ⟨(Below.heap_setCell _ _ _ _ HCE.out.1.symm).trans H3.out.1, H3.out.2.1.next ⟨_, _, _, _, _, _, HN.out.1⟩ HN.out.2, HN.out.1⟩
  clear H3 HN HAP HCE
  go_upto_region 27 with fail
  refine code_letter (fun q => Hid (q.heap[Cb]? = some (.cells #[.int .i64 xk, .int .i64 xn, .int .i64 xp, .bool xw] 39 (0, 0)) ∧ TkAt w q B K Tb ⟨ask, want, come, lose, again, mix, deaf⟩ (V.up1 dl) ∧ WAt q B K (V.up1 dl) pv dv (.slice va dl.length vc) ov av cv)) H4.out ?_
  clear H4
  intro z5 H5
  have c6 : z5.cell? ⟨Tb, 6, none⟩ = some (.bool deaf) := (cells_at H5.out.2.1.box 6).trans rfl

  have HXU : Hid (xk = 2 ∨ xk = 4 ∨ xk = 5) := by
    have h0 := HI.out.up _ (getD_msg (pickK_lt (mix := mx) hn))
    rw [← HXD.out.1] at h0
    exact h0
  cases hd : deaf
  · rw [hd] at c6
    go_upto_region 28 with fail
    clear c6
    obtain ⟨⟨n0, n1, n2, n3, n4, n5, n6, n7, n8, n9⟩, hM⟩ : ∃ M, M = heardM V.m ⟨xk, xn, xp, xw⟩ := ⟨_, rfl⟩
    obtain ⟨os, hos⟩ : ∃ l, l = heardL V.m ⟨xk, xn, xp, xw⟩ := ⟨_, rfl⟩
    have HMM : Hid (heardM V.m ⟨xk, xn, xp, xw⟩ = ⟨n0, n1, n2, n3, n4, n5, n6, n7, n8, n9⟩ ∧ heardL V.m ⟨xk, xn, xp, xw⟩ = os ∧ os.length ≤ 1) := ⟨hM.symm, hos.symm, by rw [hos]; exact heard_one _ _⟩
    have HC : Hid (∀ q, Calls Try.prog 15 #[.agg #[.int .i64 V.m.no, .int .i64 V.m.ph, .int .i64 V.m.now, .int .i64 V.m.pt, .bool V.m.want, .int .i64 V.m.timer, .int .i64 V.m.pat, .int .i64 V.m.tries, .int .i64 V.m.lim, .bool V.m.gave], .agg #[.int .i64 xk, .int .i64 xn, .int .i64 xp, .bool xw]] q (fun e q' => ∃ v, e = .returned (.tuple #[.agg #[.int .i64 n0, .int .i64 n1, .int .i64 n2, .int .i64 n3, .bool n4, .int .i64 n5, .int .i64 n6, .int .i64 n7, .int .i64 n8, .bool n9], v, .int .i64 0]) ∧ q'.ownsRow q.heap.size 39 4 v os.length (msgs os) ∧ Below q.heap.size q q')) := fun q => by
      have h0 := Heard_any V.m ⟨xk, xn, xp, xw⟩ q HI.out.may HXU.out
      rw [← hM, ← hos] at h0
      exact h0
    clear hM hos
    have HSz0 : Hid (z5.drew.heap[K]? = some (.cells #[.int .i64 V.m.no, .int .i64 V.m.ph, .int .i64 V.m.now, .int .i64 V.m.pt, .bool V.m.want, .int .i64 V.m.timer, .int .i64 V.m.pat, .int .i64 V.m.tries, .int .i64 V.m.lim, .bool V.m.gave, pv, .int .i64 V.s.last, .int .i64 V.s.armed, .int .i64 V.s.point, .bool V.s.want, .int .i64 V.s.left, .int .i64 V.s.pat, dv, .slice va dl.length vc, ov, av, cv] 52 (0, 0)) ∧ z5.drew.heap[Cb]? = some (.cells #[.int .i64 xk, .int .i64 xn, .int .i64 xp, .bool xw] 39 (0, 0))) := ⟨H5.out.2.2.cell, H5.out.1⟩
    refine wp_region_tail (fun W' => W'.heap[K]? = some (.cells #[.int .i64 V.m.no, .int .i64 V.m.ph, .int .i64 V.m.now, .int .i64 V.m.pt, .bool V.m.want, .int .i64 V.m.timer, .int .i64 V.m.pat, .int .i64 V.m.tries, .int .i64 V.m.lim, .bool V.m.gave, pv, .int .i64 V.s.last, .int .i64 V.s.armed, .int .i64 V.s.point, .bool V.s.want, .int .i64 V.s.left, .int .i64 V.s.pat, dv, .slice va dl.length vc, ov, av, cv] 52 (0, 0)) ∧ W'.heap[Cb]? = some (.cells #[.int .i64 xk, .int .i64 xn, .int .i64 xp, .bool xw] 39 (0, 0))) 13 (by kernel_rfl) ?_
    refine wpAnyD_takeAt 0 (some 203) (v := ?_) rfl (by kernel_rfl) (by kernel_rfl) (by kernel_rfl) (by kernel_rfl) (by kernel_rfl) (fun c a w h => HQ.out c _ _ w h) (by exact HSz0.out) (fun o hop => ?_) ?_
    rotate_left
    · injection hop with hop
      subst hop
      refine ⟨rfl, fun W' hW => ?_⟩
      obtain ⟨g0, g1, g2, g3, g4, g5, g6, g7, g8, g9⟩ := cellsP10 hW.1
      obtain ⟨z0, z1, z2, z3⟩ := cellsP4 hW.2
      go_simp
      first
      | rfl
      | (constructor <;> rfl)
    try simp only [Act.put, List.setIfInBounds_toArray]
    refine wpAnyD_takeAt 1 (some 204) (v := ?_) rfl (by kernel_rfl) (by kernel_rfl) (by kernel_rfl) (by kernel_rfl) (by kernel_rfl) (fun c a w h => HQ.out c _ _ w h) (by exact HSz0.out) (fun o hop => ?_) ?_
    rotate_left
    · injection hop with hop
      subst hop
      refine ⟨rfl, fun W' hW => ?_⟩
      obtain ⟨g0, g1, g2, g3, g4, g5, g6, g7, g8, g9⟩ := cellsP10 hW.1
      obtain ⟨z0, z1, z2, z3⟩ := cellsP4 hW.2
      go_simp
      first
      | rfl
      | (constructor <;> rfl)
    try simp only [Act.put, List.setIfInBounds_toArray]
    refine wpAnyD_takeAt 2 (some 205) (v := ?_) rfl (by kernel_rfl) (by kernel_rfl) (by kernel_rfl) (by kernel_rfl) (by kernel_rfl) (fun c a w h => HQ.out c _ _ w h) (by exact HSz0.out) (fun o hop => ?_) ?_
    rotate_left
    · injection hop with hop
      subst hop
      refine ⟨rfl, fun W' hW => ?_⟩
      obtain ⟨g0, g1, g2, g3, g4, g5, g6, g7, g8, g9⟩ := cellsP10 hW.1
      obtain ⟨z0, z1, z2, z3⟩ := cellsP4 hW.2
      go_simp
      first
      | rfl
      | (constructor <;> rfl)
    try simp only [Act.put, List.setIfInBounds_toArray]
    refine wpAnyD_takeAt 3 (some 206) (v := ?_) rfl (by kernel_rfl) (by kernel_rfl) (by kernel_rfl) (by kernel_rfl) (by kernel_rfl) (fun c a w h => HQ.out c _ _ w h) (by exact HSz0.out) (fun o hop => ?_) ?_
    rotate_left
    · injection hop with hop
      subst hop
      refine ⟨rfl, fun W' hW => ?_⟩
      obtain ⟨g0, g1, g2, g3, g4, g5, g6, g7, g8, g9⟩ := cellsP10 hW.1
      obtain ⟨z0, z1, z2, z3⟩ := cellsP4 hW.2
      go_simp
      first
      | rfl
      | (constructor <;> rfl)
    try simp only [Act.put, List.setIfInBounds_toArray]
    refine wpAnyD_takeAt 4 (some 207) (v := ?_) rfl (by kernel_rfl) (by kernel_rfl) (by kernel_rfl) (by kernel_rfl) (by kernel_rfl) (fun c a w h => HQ.out c _ _ w h) (by exact HSz0.out) (fun o hop => ?_) ?_
    rotate_left
    · injection hop with hop
      subst hop
      refine ⟨rfl, fun W' hW => ?_⟩
      obtain ⟨g0, g1, g2, g3, g4, g5, g6, g7, g8, g9⟩ := cellsP10 hW.1
      obtain ⟨z0, z1, z2, z3⟩ := cellsP4 hW.2
      go_simp
      first
      | rfl
      | (constructor <;> rfl)
    try simp only [Act.put, List.setIfInBounds_toArray]
    refine wpAnyT_two (i := 5) (j := 10) (by kernel_rfl) rfl rfl rfl rfl (fun K' hK => ?_) (fun K' hK => ?_)
    · go_simp
      go_at_call 15
      refine (HC.out z5.drew).mono ?_
      rintro e z6 ⟨v, rfl, hrb, hb6⟩
      obtain ⟨la, lc, hve⟩ := own_slice hrb
      subst hve
      have hb1 : Below z5.heap.size z5 z6 := ⟨hb6.os, hb6.tape, hb6.output, hb6.size, hb6.block⟩
      have HS4 : Hid (z6.heap[K]? = some (.cells #[.int .i64 V.m.no, .int .i64 V.m.ph, .int .i64 V.m.now, .int .i64 V.m.pt, .bool V.m.want, .int .i64 V.m.timer, .int .i64 V.m.pat, .int .i64 V.m.tries, .int .i64 V.m.lim, .bool V.m.gave, pv, .int .i64 V.s.last, .int .i64 V.s.armed, .int .i64 V.s.point, .bool V.s.want, .int .i64 V.s.left, .int .i64 V.s.pat, dv, .slice va dl.length vc, ov, av, cv] 52 (0, 0)) ∧ z6.heap[Cb]? = some (.cells #[.int .i64 xk, .int .i64 xn, .int .i64 xp, .bool xw] 39 (0, 0))) := ⟨(hb1.block K (lt_heap HSz0.out.1)).trans HSz0.out.1, (hb1.block Cb (lt_heap HSz0.out.2)).trans HSz0.out.2⟩
      refine hK.out _ _ (fun _ => HS4.out) ?_
      clear hK K'
      try simp only [Act.put, List.setIfInBounds_toArray]
      refine wpAnyD_takeAt 6 (some 202) (v := ?_) rfl (by kernel_rfl) (by kernel_rfl) (by kernel_rfl) (by kernel_rfl) (by kernel_rfl) (fun c a w h => HQ.out c _ _ w h) (by exact HS4.out) (fun o hop => ?_) ?_
      rotate_left
      · injection hop with hop
        subst hop
        refine ⟨rfl, fun W' hW => ?_⟩
        obtain ⟨g0, g1, g2, g3, g4, g5, g6, g7, g8, g9⟩ := cellsP10 hW.1
        obtain ⟨z0, z1, z2, z3⟩ := cellsP4 hW.2
        go_simp
        first
        | rfl
        | (constructor <;> rfl)
      try simp only [Act.put, List.setIfInBounds_toArray]
      refine wpAnyD_takeAt 7 (some 209) (v := ?_) rfl (by kernel_rfl) (by kernel_rfl) (by kernel_rfl) (by kernel_rfl) (by kernel_rfl) (fun c a w h => HQ.out c _ _ w h) (by exact HS4.out) (fun o hop => ?_) ?_
      rotate_left
      · injection hop with hop
        subst hop
        refine ⟨rfl, fun W' hW => ?_⟩
        obtain ⟨g0, g1, g2, g3, g4, g5, g6, g7, g8, g9⟩ := cellsP10 hW.1
        obtain ⟨z0, z1, z2, z3⟩ := cellsP4 hW.2
        go_simp
        first
        | rfl
        | (constructor <;> rfl)
      try simp only [Act.put, List.setIfInBounds_toArray]
      refine wpAnyD_takeAt 8 (some 210) (v := ?_) rfl (by kernel_rfl) (by kernel_rfl) (by kernel_rfl) (by kernel_rfl) (by kernel_rfl) (fun c a w h => HQ.out c _ _ w h) (by exact HS4.out) (fun o hop => ?_) ?_
      rotate_left
      · injection hop with hop
        subst hop
        refine ⟨rfl, fun W' hW => ?_⟩
        obtain ⟨g0, g1, g2, g3, g4, g5, g6, g7, g8, g9⟩ := cellsP10 hW.1
        obtain ⟨z0, z1, z2, z3⟩ := cellsP4 hW.2
        go_simp
        first
        | rfl
        | (constructor <;> rfl)
      try simp only [Act.put, List.setIfInBounds_toArray]
      refine wpAnyD_takeAt 9 (some 211) (v := ?_) rfl (by kernel_rfl) (by kernel_rfl) (by kernel_rfl) (by kernel_rfl) (by kernel_rfl) (fun c a w h => HQ.out c _ _ w h) (by exact HS4.out) (fun o hop => ?_) ?_
      rotate_left
      · injection hop with hop
        subst hop
        refine ⟨rfl, fun W' hW => ?_⟩
        obtain ⟨g0, g1, g2, g3, g4, g5, g6, g7, g8, g9⟩ := cellsP10 hW.1
        obtain ⟨z0, z1, z2, z3⟩ := cellsP4 hW.2
        go_simp
        first
        | rfl
        | (constructor <;> rfl)
      try simp only [Act.put, List.setIfInBounds_toArray]
      have hba := below_al z6 (.cells #[.int .i64 0, .int .i64 0, .int .i64 0, .int .i64 0, .bool false, .int .i64 0, .int .i64 0, .int .i64 0, .int .i64 0, .bool false] 32)
      have HEz := hide' (alloc_new z6 (.cells #[.int .i64 0, .int .i64 0, .int .i64 0, .int .i64 0, .bool false, .int .i64 0, .int .i64 0, .int .i64 0, .int .i64 0, .bool false] 32))
      refine wpAnyT_one (i := 10) (by kernel_rfl) rfl rfl (fun K' hK => ?_)
      go_simp
      have HSz : Hid ((z6.alloc (.cells #[.int .i64 0, .int .i64 0, .int .i64 0, .int .i64 0, .bool false, .int .i64 0, .int .i64 0, .int .i64 0, .int .i64 0, .bool false] 32)).heap[K]? = some (.cells #[.int .i64 V.m.no, .int .i64 V.m.ph, .int .i64 V.m.now, .int .i64 V.m.pt, .bool V.m.want, .int .i64 V.m.timer, .int .i64 V.m.pat, .int .i64 V.m.tries, .int .i64 V.m.lim, .bool V.m.gave, pv, .int .i64 V.s.last, .int .i64 V.s.armed, .int .i64 V.s.point, .bool V.s.want, .int .i64 V.s.left, .int .i64 V.s.pat, dv, .slice va dl.length vc, ov, av, cv] 52 (0, 0)) ∧ (z6.alloc (.cells #[.int .i64 0, .int .i64 0, .int .i64 0, .int .i64 0, .bool false, .int .i64 0, .int .i64 0, .int .i64 0, .int .i64 0, .bool false] 32)).heap[Cb]? = some (.cells #[.int .i64 xk, .int .i64 xn, .int .i64 xp, .bool xw] 39 (0, 0))) := ⟨(hba.block K (lt_heap HS4.out.1)).trans HS4.out.1, (hba.block Cb (lt_heap HS4.out.2)).trans HS4.out.2⟩
      refine hK.out _ _ (fun _ => HSz.out) ?_
      clear hK K'
      try simp only [Act.put, List.setIfInBounds_toArray]
      have HRB := hide' (own_mono (own_below hrb hba (Nat.le_refl _)) (Nat.zero_le _))
      have HLV : Hid (Apart (.slice la os.length lc) dv) := apart_late H5.out.2.2.dn hrb
      have HWz := hide' ((H5.out.2.2.below hb1).below hba)
      have HBz := hide' ((H5.out.2.1.below hb1).below hba)
      obtain ⟨E, hE⟩ : ∃ q, q = z6.heap.size := ⟨_, rfl⟩
      have HEK : Hid (K ≠ E ∧ Cb ≠ E ∧ B ≤ E) := by have q1 := lt_heap HS4.out.1; have q2 := lt_heap HS4.out.2; have q3 := (H5.out.2.1.below hb1).bs; show _ ∧ _ ∧ _; omega
      obtain ⟨z, hz⟩ : ∃ q, q = z6.alloc (.cells #[.int .i64 0, .int .i64 0, .int .i64 0, .int .i64 0, .bool false, .int .i64 0, .int .i64 0, .int .i64 0, .int .i64 0, .bool false] 32) := ⟨_, rfl⟩
      rw [← hE, ← hz] at HEz
      rw [← hz] at HSz HRB HWz HBz ⊢
      rw [show (Value.pointer (some { block := z6.heap.size, off := 0 })) = Value.pointer (some { block := E, off := 0 }) by rw [hE]]
      clear hE hz hba hrb hb6 hb1 HS4 HSz0 H5 HC
      obtain ⟨b0, b1, b2, b3, b4, b5, b6, b7, b8, b9⟩ := cellsP10 HEz.out
      obtain ⟨e0, e1, e2, e3, e4, e5, e6, e7, e8, e9⟩ := frozenP10 HEz.out
      have HPE := hide' (put10 HEz.out (.int .i64 n0) (.int .i64 n1) (.int .i64 n2) (.int .i64 n3) (.bool n4) (.int .i64 n5) (.int .i64 n6) (.int .i64 n7) (.int .i64 n8) (.bool n9))
      have HSF : Hid (((((((((((z.setCell ⟨E, 0, none⟩ (.int .i64 n0)).setCell ⟨E, 1, none⟩ (.int .i64 n1)).setCell ⟨E, 2, none⟩ (.int .i64 n2)).setCell ⟨E, 3, none⟩ (.int .i64 n3)).setCell ⟨E, 4, none⟩ (.bool n4)).setCell ⟨E, 5, none⟩ (.int .i64 n5)).setCell ⟨E, 6, none⟩ (.int .i64 n6)).setCell ⟨E, 7, none⟩ (.int .i64 n7)).setCell ⟨E, 8, none⟩ (.int .i64 n8)).setCell ⟨E, 9, none⟩ (.bool n9)).heap[K]? = some (.cells #[.int .i64 V.m.no, .int .i64 V.m.ph, .int .i64 V.m.now, .int .i64 V.m.pt, .bool V.m.want, .int .i64 V.m.timer, .int .i64 V.m.pat, .int .i64 V.m.tries, .int .i64 V.m.lim, .bool V.m.gave, pv, .int .i64 V.s.last, .int .i64 V.s.armed, .int .i64 V.s.point, .bool V.s.want, .int .i64 V.s.left, .int .i64 V.s.pat, dv, .slice va dl.length vc, ov, av, cv] 52 (0, 0)) ∧ ((((((((((z.setCell ⟨E, 0, none⟩ (.int .i64 n0)).setCell ⟨E, 1, none⟩ (.int .i64 n1)).setCell ⟨E, 2, none⟩ (.int .i64 n2)).setCell ⟨E, 3, none⟩ (.int .i64 n3)).setCell ⟨E, 4, none⟩ (.bool n4)).setCell ⟨E, 5, none⟩ (.int .i64 n5)).setCell ⟨E, 6, none⟩ (.int .i64 n6)).setCell ⟨E, 7, none⟩ (.int .i64 n7)).setCell ⟨E, 8, none⟩ (.int .i64 n8)).setCell ⟨E, 9, none⟩ (.bool n9)).heap[Cb]? = some (.cells #[.int .i64 xk, .int .i64 xn, .int .i64 xp, .bool xw] 39 (0, 0))) := ⟨(HPE.out.2.block K (lt_heap HSz.out.1) HEK.out.1).trans HSz.out.1, (HPE.out.2.block Cb (lt_heap HSz.out.2) HEK.out.2.1).trans HSz.out.2⟩
      have HFN : Hid (((((((((((z.setCell ⟨E, 0, none⟩ (.int .i64 n0)).setCell ⟨E, 1, none⟩ (.int .i64 n1)).setCell ⟨E, 2, none⟩ (.int .i64 n2)).setCell ⟨E, 3, none⟩ (.int .i64 n3)).setCell ⟨E, 4, none⟩ (.bool n4)).setCell ⟨E, 5, none⟩ (.int .i64 n5)).setCell ⟨E, 6, none⟩ (.int .i64 n6)).setCell ⟨E, 7, none⟩ (.int .i64 n7)).setCell ⟨E, 8, none⟩ (.int .i64 n8)).setCell ⟨E, 9, none⟩ (.bool n9)).heap[E]? = some (.cells #[.int .i64 n0, .int .i64 n1, .int .i64 n2, .int .i64 n3, .bool n4, .int .i64 n5, .int .i64 n6, .int .i64 n7, .int .i64 n8, .bool n9] 32 (0, 0)) ∧ ((((((((((z.setCell ⟨E, 0, none⟩ (.int .i64 n0)).setCell ⟨E, 1, none⟩ (.int .i64 n1)).setCell ⟨E, 2, none⟩ (.int .i64 n2)).setCell ⟨E, 3, none⟩ (.int .i64 n3)).setCell ⟨E, 4, none⟩ (.bool n4)).setCell ⟨E, 5, none⟩ (.int .i64 n5)).setCell ⟨E, 6, none⟩ (.int .i64 n6)).setCell ⟨E, 7, none⟩ (.int .i64 n7)).setCell ⟨E, 8, none⟩ (.int .i64 n8)).setCell ⟨E, 9, none⟩ (.bool n9)).ownsRow 0 39 4 (.slice la os.length lc) os.length (msgs os) ∧ WAt ((((((((((z.setCell ⟨E, 0, none⟩ (.int .i64 n0)).setCell ⟨E, 1, none⟩ (.int .i64 n1)).setCell ⟨E, 2, none⟩ (.int .i64 n2)).setCell ⟨E, 3, none⟩ (.int .i64 n3)).setCell ⟨E, 4, none⟩ (.bool n4)).setCell ⟨E, 5, none⟩ (.int .i64 n5)).setCell ⟨E, 6, none⟩ (.int .i64 n6)).setCell ⟨E, 7, none⟩ (.int .i64 n7)).setCell ⟨E, 8, none⟩ (.int .i64 n8)).setCell ⟨E, 9, none⟩ (.bool n9)) B K (V.up1 dl) pv dv (.slice va dl.length vc) ov av cv ∧ TkAt w ((((((((((z.setCell ⟨E, 0, none⟩ (.int .i64 n0)).setCell ⟨E, 1, none⟩ (.int .i64 n1)).setCell ⟨E, 2, none⟩ (.int .i64 n2)).setCell ⟨E, 3, none⟩ (.int .i64 n3)).setCell ⟨E, 4, none⟩ (.bool n4)).setCell ⟨E, 5, none⟩ (.int .i64 n5)).setCell ⟨E, 6, none⟩ (.int .i64 n6)).setCell ⟨E, 7, none⟩ (.int .i64 n7)).setCell ⟨E, 8, none⟩ (.int .i64 n8)).setCell ⟨E, 9, none⟩ (.bool n9)) B K Tb ⟨ask, want, come, lose, again, mix, deaf⟩ (V.up1 dl)) := ⟨HPE.out.1, own_putE HRB.out HEz.out HPE.out.2 (by decide), HWz.out.putE HEz.out HPE.out.2 HEK.out.1 (by decide) (by decide) (by decide), HBz.out.next ⟨_, _, _, _, _, _, HWz.out.putE HEz.out HPE.out.2 HEK.out.1 (by decide) (by decide) (by decide)⟩ (but_bl HPE.out.2 HEz.out (by decide) HEK.out.2.2 HBz.out.bs)⟩
      clear HRB HWz HBz
      refine wpAnyT_one (i := 11) (by kernel_rfl) rfl rfl (fun K' hK => ?_)
      go_simp
      refine hK.out _ _ (fun _ => HSF.out) ?_
      clear hK K'
      try simp only [Act.put, List.setIfInBounds_toArray]
      refine wpAnyT_one (i := 12) (by kernel_rfl) rfl rfl (fun K' hK => ?_)
      go_simp
      refine hK.out _ _ (fun _ => HSF.out) ?_
      clear hK K'
      try simp only [Act.put, List.setIfInBounds_toArray]
      refine wpAnyT_one (i := 13) (by kernel_rfl) rfl rfl (fun K' hK => ?_)
      go_simp
      refine hK.out _ _ (fun h => absurd rfl h) ?_
      clear hK K'
      try simp only [Act.put, List.setIfInBounds_toArray]
      refine wpAnyT_done (by kernel_rfl) ?_ _
      clear b0 b1 b2 b3 b4 b5 b6 b7 b8 b9 e0 e1 e2 e3 e4 e5 e6 e7 e8 e9 HPE HEz HSz HSF
      go_upto_region 29 with fail
      refine code_letter (fun q => Hid (q.heap[E]? = some (.cells #[.int .i64 n0, .int .i64 n1, .int .i64 n2, .int .i64 n3, .bool n4, .int .i64 n5, .int .i64 n6, .int .i64 n7, .int .i64 n8, .bool n9] 32 (0, 0)) ∧ q.ownsRow 0 39 4 (.slice la os.length lc) os.length (msgs os) ∧ WAt q B K (V.up1 dl) pv dv (.slice va dl.length vc) ov av cv ∧ TkAt w q B K Tb ⟨ask, want, come, lose, again, mix, deaf⟩ (V.up1 dl))) HFN.out ?_
      clear HFN HEK
      intro z7 H7
      obtain ⟨b0, b1, b2, b3, b4, b5, b6, b7, b8, b9⟩ := cellsP10 H7.out.1
      go_wp2_with fail
      refine (sent_any (V.up1 dl) B K pv dv (.slice va dl.length vc) ov av cv (.slice la os.length lc) ⟨n0, n1, n2, n3, n4, n5, n6, n7, n8, n9⟩ os z7 H7.out.2.2.1 H7.out.2.1 HLV.out ⟨hdb, hob, HMM.out.2.2⟩).mono ?_
      rintro e z8 ⟨rfl, ⟨dv', ov', q1⟩, q2⟩
      have HF : Hid (TkAt w z8 B K Tb ⟨ask, want, come, lose, again, mix, deaf⟩ (upStep mix deaf i V)) := by
        have h0 : upStep mix deaf i V = (V.up1 dl).sent ⟨n0, n1, n2, n3, n4, n5, n6, n7, n8, n9⟩ os := by
          unfold upStep
          rw [hd, HMX.out.1, ← HXD.out.1, ← HXD.out.2, HMM.out.1, HMM.out.2.1]
          rfl
        show TkAt w z8 B K Tb _ _
        rw [h0]
        exact H7.out.2.2.2.next ⟨_, _, _, _, _, _, q1⟩ q2
      clear q1 q2 H7 b0 b1 b2 b3 b4 b5 b6 b7 b8 b9
      go_wp2_with fail
      exact HK.out _ _ _ _ _ _ _ _ _ _ _ _ _ _ _ _ _ _ _ _ _ _ _ _ _ _ _ _ _ _ _ _ _ _ _ _ _ _ _ _ _ _ _ _ _ _ _ _ _ _ _ _ _ HF.out
    · go_simp
      have hba := below_al z5.drew (.cells #[.int .i64 0, .int .i64 0, .int .i64 0, .int .i64 0, .bool false, .int .i64 0, .int .i64 0, .int .i64 0, .int .i64 0, .bool false] 32)
      have hb1 : Below z5.heap.size z5 (z5.drew.alloc (.cells #[.int .i64 0, .int .i64 0, .int .i64 0, .int .i64 0, .bool false, .int .i64 0, .int .i64 0, .int .i64 0, .int .i64 0, .bool false] 32)) := (Below.refl _ z5).drew.trans hba
      have HEq := hide' (alloc_new z5.drew (.cells #[.int .i64 0, .int .i64 0, .int .i64 0, .int .i64 0, .bool false, .int .i64 0, .int .i64 0, .int .i64 0, .int .i64 0, .bool false] 32))
      have HSq : Hid ((z5.drew.alloc (.cells #[.int .i64 0, .int .i64 0, .int .i64 0, .int .i64 0, .bool false, .int .i64 0, .int .i64 0, .int .i64 0, .int .i64 0, .bool false] 32)).heap[K]? = some (.cells #[.int .i64 V.m.no, .int .i64 V.m.ph, .int .i64 V.m.now, .int .i64 V.m.pt, .bool V.m.want, .int .i64 V.m.timer, .int .i64 V.m.pat, .int .i64 V.m.tries, .int .i64 V.m.lim, .bool V.m.gave, pv, .int .i64 V.s.last, .int .i64 V.s.armed, .int .i64 V.s.point, .bool V.s.want, .int .i64 V.s.left, .int .i64 V.s.pat, dv, .slice va dl.length vc, ov, av, cv] 52 (0, 0)) ∧ (z5.drew.alloc (.cells #[.int .i64 0, .int .i64 0, .int .i64 0, .int .i64 0, .bool false, .int .i64 0, .int .i64 0, .int .i64 0, .int .i64 0, .bool false] 32)).heap[Cb]? = some (.cells #[.int .i64 xk, .int .i64 xn, .int .i64 xp, .bool xw] 39 (0, 0))) := ⟨(hba.block K (lt_heap HSz0.out.1)).trans HSz0.out.1, (hba.block Cb (lt_heap HSz0.out.2)).trans HSz0.out.2⟩
      refine hK.out _ _ (fun _ => HSq.out) ?_
      clear hK K'
      try simp only [Act.put, List.setIfInBounds_toArray]
      obtain ⟨E, hE⟩ : ∃ q, q = z5.heap.size := ⟨_, rfl⟩
      have HEK : Hid (K ≠ E ∧ Cb ≠ E ∧ B ≤ E) := by have q1 := lt_heap HSz0.out.1; have q2 := lt_heap HSz0.out.2; have q3 := H5.out.2.1.bs; have q4 : z5.drew.heap.size = z5.heap.size := rfl; show _ ∧ _ ∧ _; omega
      have HEq2 : Hid ((z5.drew.alloc (.cells #[.int .i64 0, .int .i64 0, .int .i64 0, .int .i64 0, .bool false, .int .i64 0, .int .i64 0, .int .i64 0, .int .i64 0, .bool false] 32)).heap[E]? = some (.cells #[.int .i64 0, .int .i64 0, .int .i64 0, .int .i64 0, .bool false, .int .i64 0, .int .i64 0, .int .i64 0, .int .i64 0, .bool false] 32 (0, 0))) := by rw [hE]; exact HEq.out
      rw [show (Value.pointer (some { block := z5.heap.size, off := 0 })) = Value.pointer (some { block := E, off := 0 }) by rw [hE]]
      refine wpAnyT_letter (fun z => Hid (Below z5.heap.size z5 z ∧ z.heap[E]? = some (.cells #[.int .i64 0, .int .i64 0, .int .i64 0, .int .i64 0, .bool false, .int .i64 0, .int .i64 0, .int .i64 0, .int .i64 0, .bool false] 32 (0, 0)) ∧ (z.heap[K]? = some (.cells #[.int .i64 V.m.no, .int .i64 V.m.ph, .int .i64 V.m.now, .int .i64 V.m.pt, .bool V.m.want, .int .i64 V.m.timer, .int .i64 V.m.pat, .int .i64 V.m.tries, .int .i64 V.m.lim, .bool V.m.gave, pv, .int .i64 V.s.last, .int .i64 V.s.armed, .int .i64 V.s.point, .bool V.s.want, .int .i64 V.s.left, .int .i64 V.s.pat, dv, .slice va dl.length vc, ov, av, cv] 52 (0, 0)) ∧ z.heap[Cb]? = some (.cells #[.int .i64 xk, .int .i64 xn, .int .i64 xp, .bool xw] 39 (0, 0))))) ⟨hb1, HEq2.out, HSq.out⟩ ?_
      clear HSq HEq2 HEq hE hba hb1
      intro z6 HZ
      have HSq := hide' HZ.out.2.2
      refine wpAnyT_one (i := 5) (by kernel_rfl) rfl rfl (fun K' hK => ?_)
      go_simp
      go_at_call 15
      refine (HC.out z6).mono ?_
      rintro e z ⟨v, rfl, hrb, hb6⟩
      obtain ⟨la, lc, hve⟩ := own_slice hrb
      subst hve
      have HSz : Hid (z.heap[K]? = some (.cells #[.int .i64 V.m.no, .int .i64 V.m.ph, .int .i64 V.m.now, .int .i64 V.m.pt, .bool V.m.want, .int .i64 V.m.timer, .int .i64 V.m.pat, .int .i64 V.m.tries, .int .i64 V.m.lim, .bool V.m.gave, pv, .int .i64 V.s.last, .int .i64 V.s.armed, .int .i64 V.s.point, .bool V.s.want, .int .i64 V.s.left, .int .i64 V.s.pat, dv, .slice va dl.length vc, ov, av, cv] 52 (0, 0)) ∧ z.heap[Cb]? = some (.cells #[.int .i64 xk, .int .i64 xn, .int .i64 xp, .bool xw] 39 (0, 0))) := ⟨(hb6.block K (lt_heap HSq.out.1)).trans HSq.out.1, (hb6.block Cb (lt_heap HSq.out.2)).trans HSq.out.2⟩
      refine hK.out _ _ (fun _ => HSz.out) ?_
      clear hK K'
      try simp only [Act.put, List.setIfInBounds_toArray]
      refine wpAnyD_takeAt 6 (some 202) (v := ?_) rfl (by kernel_rfl) (by kernel_rfl) (by kernel_rfl) (by kernel_rfl) (by kernel_rfl) (fun c a w h => HQ.out c _ _ w h) (by exact HSz.out) (fun o hop => ?_) ?_
      rotate_left
      · injection hop with hop
        subst hop
        refine ⟨rfl, fun W' hW => ?_⟩
        obtain ⟨g0, g1, g2, g3, g4, g5, g6, g7, g8, g9⟩ := cellsP10 hW.1
        obtain ⟨z0, z1, z2, z3⟩ := cellsP4 hW.2
        go_simp
        first
        | rfl
        | (constructor <;> rfl)
      try simp only [Act.put, List.setIfInBounds_toArray]
      refine wpAnyD_takeAt 7 (some 209) (v := ?_) rfl (by kernel_rfl) (by kernel_rfl) (by kernel_rfl) (by kernel_rfl) (by kernel_rfl) (fun c a w h => HQ.out c _ _ w h) (by exact HSz.out) (fun o hop => ?_) ?_
      rotate_left
      · injection hop with hop
        subst hop
        refine ⟨rfl, fun W' hW => ?_⟩
        obtain ⟨g0, g1, g2, g3, g4, g5, g6, g7, g8, g9⟩ := cellsP10 hW.1
        obtain ⟨z0, z1, z2, z3⟩ := cellsP4 hW.2
        go_simp
        first
        | rfl
        | (constructor <;> rfl)
      try simp only [Act.put, List.setIfInBounds_toArray]
      refine wpAnyD_takeAt 8 (some 210) (v := ?_) rfl (by kernel_rfl) (by kernel_rfl) (by kernel_rfl) (by kernel_rfl) (by kernel_rfl) (fun c a w h => HQ.out c _ _ w h) (by exact HSz.out) (fun o hop => ?_) ?_
      rotate_left
      · injection hop with hop
        subst hop
        refine ⟨rfl, fun W' hW => ?_⟩
        obtain ⟨g0, g1, g2, g3, g4, g5, g6, g7, g8, g9⟩ := cellsP10 hW.1
        obtain ⟨z0, z1, z2, z3⟩ := cellsP4 hW.2
        go_simp
        first
        | rfl
        | (constructor <;> rfl)
      try simp only [Act.put, List.setIfInBounds_toArray]
      refine wpAnyD_takeAt 9 (some 211) (v := ?_) rfl (by kernel_rfl) (by kernel_rfl) (by kernel_rfl) (by kernel_rfl) (by kernel_rfl) (fun c a w h => HQ.out c _ _ w h) (by exact HSz.out) (fun o hop => ?_) ?_
      rotate_left
      · injection hop with hop
        subst hop
        refine ⟨rfl, fun W' hW => ?_⟩
        obtain ⟨g0, g1, g2, g3, g4, g5, g6, g7, g8, g9⟩ := cellsP10 hW.1
        obtain ⟨z0, z1, z2, z3⟩ := cellsP4 hW.2
        go_simp
        first
        | rfl
        | (constructor <;> rfl)
      try simp only [Act.put, List.setIfInBounds_toArray]
      have HEz := hide' ((hb6.block E (lt_heap HZ.out.2.1)).trans HZ.out.2.1)
      have HRB := hide' (own_mono hrb (Nat.zero_le _))
      have HWz := hide' ((H5.out.2.2.below HZ.out.1).below hb6)
      have HBz := hide' ((H5.out.2.1.below HZ.out.1).below hb6)
      have HLV : Hid (Apart (.slice la os.length lc) dv) := apart_late (H5.out.2.2.below HZ.out.1).dn hrb
      clear hrb hb6 HSq HZ HSz0 H5 HC
      obtain ⟨b0, b1, b2, b3, b4, b5, b6, b7, b8, b9⟩ := cellsP10 HEz.out
      obtain ⟨e0, e1, e2, e3, e4, e5, e6, e7, e8, e9⟩ := frozenP10 HEz.out
      have HPE := hide' (put10 HEz.out (.int .i64 n0) (.int .i64 n1) (.int .i64 n2) (.int .i64 n3) (.bool n4) (.int .i64 n5) (.int .i64 n6) (.int .i64 n7) (.int .i64 n8) (.bool n9))
      have HSF : Hid (((((((((((z.setCell ⟨E, 0, none⟩ (.int .i64 n0)).setCell ⟨E, 1, none⟩ (.int .i64 n1)).setCell ⟨E, 2, none⟩ (.int .i64 n2)).setCell ⟨E, 3, none⟩ (.int .i64 n3)).setCell ⟨E, 4, none⟩ (.bool n4)).setCell ⟨E, 5, none⟩ (.int .i64 n5)).setCell ⟨E, 6, none⟩ (.int .i64 n6)).setCell ⟨E, 7, none⟩ (.int .i64 n7)).setCell ⟨E, 8, none⟩ (.int .i64 n8)).setCell ⟨E, 9, none⟩ (.bool n9)).heap[K]? = some (.cells #[.int .i64 V.m.no, .int .i64 V.m.ph, .int .i64 V.m.now, .int .i64 V.m.pt, .bool V.m.want, .int .i64 V.m.timer, .int .i64 V.m.pat, .int .i64 V.m.tries, .int .i64 V.m.lim, .bool V.m.gave, pv, .int .i64 V.s.last, .int .i64 V.s.armed, .int .i64 V.s.point, .bool V.s.want, .int .i64 V.s.left, .int .i64 V.s.pat, dv, .slice va dl.length vc, ov, av, cv] 52 (0, 0)) ∧ ((((((((((z.setCell ⟨E, 0, none⟩ (.int .i64 n0)).setCell ⟨E, 1, none⟩ (.int .i64 n1)).setCell ⟨E, 2, none⟩ (.int .i64 n2)).setCell ⟨E, 3, none⟩ (.int .i64 n3)).setCell ⟨E, 4, none⟩ (.bool n4)).setCell ⟨E, 5, none⟩ (.int .i64 n5)).setCell ⟨E, 6, none⟩ (.int .i64 n6)).setCell ⟨E, 7, none⟩ (.int .i64 n7)).setCell ⟨E, 8, none⟩ (.int .i64 n8)).setCell ⟨E, 9, none⟩ (.bool n9)).heap[Cb]? = some (.cells #[.int .i64 xk, .int .i64 xn, .int .i64 xp, .bool xw] 39 (0, 0))) := ⟨(HPE.out.2.block K (lt_heap HSz.out.1) HEK.out.1).trans HSz.out.1, (HPE.out.2.block Cb (lt_heap HSz.out.2) HEK.out.2.1).trans HSz.out.2⟩
      have HFN : Hid (((((((((((z.setCell ⟨E, 0, none⟩ (.int .i64 n0)).setCell ⟨E, 1, none⟩ (.int .i64 n1)).setCell ⟨E, 2, none⟩ (.int .i64 n2)).setCell ⟨E, 3, none⟩ (.int .i64 n3)).setCell ⟨E, 4, none⟩ (.bool n4)).setCell ⟨E, 5, none⟩ (.int .i64 n5)).setCell ⟨E, 6, none⟩ (.int .i64 n6)).setCell ⟨E, 7, none⟩ (.int .i64 n7)).setCell ⟨E, 8, none⟩ (.int .i64 n8)).setCell ⟨E, 9, none⟩ (.bool n9)).heap[E]? = some (.cells #[.int .i64 n0, .int .i64 n1, .int .i64 n2, .int .i64 n3, .bool n4, .int .i64 n5, .int .i64 n6, .int .i64 n7, .int .i64 n8, .bool n9] 32 (0, 0)) ∧ ((((((((((z.setCell ⟨E, 0, none⟩ (.int .i64 n0)).setCell ⟨E, 1, none⟩ (.int .i64 n1)).setCell ⟨E, 2, none⟩ (.int .i64 n2)).setCell ⟨E, 3, none⟩ (.int .i64 n3)).setCell ⟨E, 4, none⟩ (.bool n4)).setCell ⟨E, 5, none⟩ (.int .i64 n5)).setCell ⟨E, 6, none⟩ (.int .i64 n6)).setCell ⟨E, 7, none⟩ (.int .i64 n7)).setCell ⟨E, 8, none⟩ (.int .i64 n8)).setCell ⟨E, 9, none⟩ (.bool n9)).ownsRow 0 39 4 (.slice la os.length lc) os.length (msgs os) ∧ WAt ((((((((((z.setCell ⟨E, 0, none⟩ (.int .i64 n0)).setCell ⟨E, 1, none⟩ (.int .i64 n1)).setCell ⟨E, 2, none⟩ (.int .i64 n2)).setCell ⟨E, 3, none⟩ (.int .i64 n3)).setCell ⟨E, 4, none⟩ (.bool n4)).setCell ⟨E, 5, none⟩ (.int .i64 n5)).setCell ⟨E, 6, none⟩ (.int .i64 n6)).setCell ⟨E, 7, none⟩ (.int .i64 n7)).setCell ⟨E, 8, none⟩ (.int .i64 n8)).setCell ⟨E, 9, none⟩ (.bool n9)) B K (V.up1 dl) pv dv (.slice va dl.length vc) ov av cv ∧ TkAt w ((((((((((z.setCell ⟨E, 0, none⟩ (.int .i64 n0)).setCell ⟨E, 1, none⟩ (.int .i64 n1)).setCell ⟨E, 2, none⟩ (.int .i64 n2)).setCell ⟨E, 3, none⟩ (.int .i64 n3)).setCell ⟨E, 4, none⟩ (.bool n4)).setCell ⟨E, 5, none⟩ (.int .i64 n5)).setCell ⟨E, 6, none⟩ (.int .i64 n6)).setCell ⟨E, 7, none⟩ (.int .i64 n7)).setCell ⟨E, 8, none⟩ (.int .i64 n8)).setCell ⟨E, 9, none⟩ (.bool n9)) B K Tb ⟨ask, want, come, lose, again, mix, deaf⟩ (V.up1 dl)) := ⟨HPE.out.1, own_putE HRB.out HEz.out HPE.out.2 (by decide), HWz.out.putE HEz.out HPE.out.2 HEK.out.1 (by decide) (by decide) (by decide), HBz.out.next ⟨_, _, _, _, _, _, HWz.out.putE HEz.out HPE.out.2 HEK.out.1 (by decide) (by decide) (by decide)⟩ (but_bl HPE.out.2 HEz.out (by decide) HEK.out.2.2 HBz.out.bs)⟩
      clear HRB HWz HBz
      refine wpAnyT_one (i := 11) (by kernel_rfl) rfl rfl (fun K' hK => ?_)
      go_simp
      refine hK.out _ _ (fun _ => HSF.out) ?_
      clear hK K'
      try simp only [Act.put, List.setIfInBounds_toArray]
      refine wpAnyT_one (i := 12) (by kernel_rfl) rfl rfl (fun K' hK => ?_)
      go_simp
      refine hK.out _ _ (fun _ => HSF.out) ?_
      clear hK K'
      try simp only [Act.put, List.setIfInBounds_toArray]
      refine wpAnyT_one (i := 13) (by kernel_rfl) rfl rfl (fun K' hK => ?_)
      go_simp
      refine hK.out _ _ (fun h => absurd rfl h) ?_
      clear hK K'
      try simp only [Act.put, List.setIfInBounds_toArray]
      refine wpAnyT_done (by kernel_rfl) ?_ _
      clear b0 b1 b2 b3 b4 b5 b6 b7 b8 b9 e0 e1 e2 e3 e4 e5 e6 e7 e8 e9 HPE HEz HSz HSF
      go_upto_region 29 with fail
      refine code_letter (fun q => Hid (q.heap[E]? = some (.cells #[.int .i64 n0, .int .i64 n1, .int .i64 n2, .int .i64 n3, .bool n4, .int .i64 n5, .int .i64 n6, .int .i64 n7, .int .i64 n8, .bool n9] 32 (0, 0)) ∧ q.ownsRow 0 39 4 (.slice la os.length lc) os.length (msgs os) ∧ WAt q B K (V.up1 dl) pv dv (.slice va dl.length vc) ov av cv ∧ TkAt w q B K Tb ⟨ask, want, come, lose, again, mix, deaf⟩ (V.up1 dl))) HFN.out ?_
      clear HFN HEK
      intro z7 H7
      obtain ⟨b0, b1, b2, b3, b4, b5, b6, b7, b8, b9⟩ := cellsP10 H7.out.1
      go_wp2_with fail
      refine (sent_any (V.up1 dl) B K pv dv (.slice va dl.length vc) ov av cv (.slice la os.length lc) ⟨n0, n1, n2, n3, n4, n5, n6, n7, n8, n9⟩ os z7 H7.out.2.2.1 H7.out.2.1 HLV.out ⟨hdb, hob, HMM.out.2.2⟩).mono ?_
      rintro e z8 ⟨rfl, ⟨dv', ov', q1⟩, q2⟩
      have HF : Hid (TkAt w z8 B K Tb ⟨ask, want, come, lose, again, mix, deaf⟩ (upStep mix deaf i V)) := by
        have h0 : upStep mix deaf i V = (V.up1 dl).sent ⟨n0, n1, n2, n3, n4, n5, n6, n7, n8, n9⟩ os := by
          unfold upStep
          rw [hd, HMX.out.1, ← HXD.out.1, ← HXD.out.2, HMM.out.1, HMM.out.2.1]
          rfl
        show TkAt w z8 B K Tb _ _
        rw [h0]
        exact H7.out.2.2.2.next ⟨_, _, _, _, _, _, q1⟩ q2
      clear q1 q2 H7 b0 b1 b2 b3 b4 b5 b6 b7 b8 b9
      go_wp2_with fail
      exact HK.out _ _ _ _ _ _ _ _ _ _ _ _ _ _ _ _ _ _ _ _ _ _ _ _ _ _ _ _ _ _ _ _ _ _ _ _ _ _ _ _ _ _ _ _ _ _ _ _ _ _ _ _ _ HF.out
  · rw [hd] at c6
    have HF : Hid (TkAt w z5 B K Tb ⟨ask, want, come, lose, again, mix, deaf⟩ (upStep mix deaf i V)) := by
      have h0 : upStep mix deaf i V = V.up1 dl := by
        unfold upStep
        rw [hd, HMX.out.1, ← HXD.out.2]
        rfl
      show TkAt w z5 B K Tb _ _
      rw [h0]
      exact H5.out.2.1
    rw [hd] at HF HK
    go_wp2_with fail
    exact HK.out _ _ _ _ _ _ _ _ _ _ _ _ _ _ _ _ _ _ _ _ _ _ _ _ _ _ _ _ _ _ _ _ _ _ _ _ _ _ _ _ _ _ _ _ _ _ _ _ _ _ _ _ _ HF.out
end Go.Proofs.Ytjhmendiefojoam
