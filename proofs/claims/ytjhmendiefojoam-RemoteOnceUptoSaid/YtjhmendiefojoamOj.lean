/- One message comes down, in a tick. -/
import Derived.Test.YtjhmendiefojoamYc
import Derived.Test.YtjhmendiefojoamOi
import Derived.Test.YtjhmendiefojoamOh
namespace Go.Proofs.Ytjhmendiefojoam
open Go.RowKit Go.Shelf

theorem wrap64_I6 (x : Int) : I6 (wrap64 x) := by unfold I6 wrap64; omega
set_option maxRecDepth 1000000 in
set_option maxHeartbeats 8000000 in
theorem roundD (w : World) {B K Tb : Nat} {t : TuM} (V : Wl) {pat lim P : Int} {T : Nat} (hI : Inv pat lim P T V) (hT : T ≤ 1000) (hn : 0 < V.down.length) (hnb : V.down.length ≤ 1000000) (hub : V.up.length ≤ 1000000) (hcb : V.acted.length ≤ 1000000) (i : Nat) (hi : (i : Int) < t.come) (hib : i ≤ 1000000) (hls : I6 t.lose) (u1 u2 u4 u5 u6 u7 u8 u10 u11 u12 u13 u14 u15 u16 u17 u18 u19 u20 u21 u22 u23 u24 u25 u26 u27 u28 u29 u30 u31 u32 u33 u34 u35 u36 u37 u38 u39 u40 u41 u42 u43 u44 u45 u46 u47 u48 u49 u50 u51 u52 u53 u54 u55 u56 u57 u58 u59 u60 u61 u62 u63 u64 u65 u66 u67 u68 u69 u70 u71 u72 u73 u74 u75 u76 u77 u78 u79 u80 u81 u82 u83 u84 u85 u86 u87 u88 u89 u90 u91 u92 u93 u94 u95 u96 u97 u98 u99 u100 u101 u102 u103 u104 u105 u106 u107 u108 u109 u110 u111 u112 u113 u114 u115 u116 u117 u118 u119 u120 u121 u122 u123 u124 u125 u126 u127 u128 u129 u130 u131 u132 u133 u134 u135 u136 u137 u138 u139 u140 u141 u142 u143 u144 u145 u146 u147 u148 u149 u150 u151 u152 u153 u154 u155 u156 u157 u158 u159 u160 u161 u162 u163 u164 u165 u166 u167 u168 u169 u170 u171 u172 u173 u174 u175 u176 u177 u178 u179 u180 u181 u182 u183 u184 u185 u186 u187 u188 u189 u190 u191 u192 u193 u194 u195 u196 u197 u198 u199 u200 u201 u202 u203 u204 u205 u206 u207 u208 u209 u210 u211 u212 u213 u214 u215 u216 u217 u218 u219 u220 u221 u222 u223 u224 u225 u226 u227 u228 u229 u230 u231 u232 : Value) (z : World) (hA : TkAt w z B K Tb t V)
    (Kc : Act → World → Prop) (Q : Exit → Act → World → Prop) (hQ : ∀ c a a' w, Q (.panic c) a' w → Q (.panic c) a w) (hK : ∀ (g10 g114 g115 g116 g117 g118 g119 g120 g121 g122 g123 g124 g125 g126 g127 g128 g129 g130 g131 g132 g133 g134 g135 g136 g137 g138 g139 g140 g141 g142 g143 g144 g145 g146 g147 g148 g149 g150 g151 g152 g153 g154 g155 : Value) (z' : World), TkAt w z' B K Tb t (dnStep t.mix t.lose i V) → Kc ⟨#[.pointer (some ⟨K, 0, none⟩), u1, u2, .pointer (some ⟨Tb, 0, none⟩), u4, u5, u6, u7, u8, .int .i64 ((i : Int) + 1), g10, u11, u12, u13, u14, u15, u16, u17, u18, u19, u20, u21, u22, u23, u24, u25, u26, u27, u28, u29, u30, u31, u32, u33, u34, u35, u36, u37, u38, u39, u40, u41, u42, u43, u44, u45, u46, u47, u48, u49, u50, u51, u52, u53, u54, u55, u56, u57, u58, u59, u60, u61, u62, u63, u64, u65, u66, u67, u68, u69, u70, u71, u72, u73, u74, u75, u76, u77, u78, u79, u80, u81, u82, u83, u84, u85, u86, u87, u88, u89, u90, u91, u92, u93, u94, u95, u96, u97, u98, u99, u100, u101, u102, u103, u104, u105, u106, u107, u108, u109, u110, u111, u112, u113, g114, g115, g116, g117, g118, g119, g120, g121, g122, g123, g124, g125, g126, g127, g128, g129, g130, g131, g132, g133, g134, g135, g136, g137, g138, g139, g140, g141, g142, g143, g144, g145, g146, g147, g148, g149, g150, g151, g152, g153, g154, g155, u156, u157, u158, u159, u160, u161, u162, u163, u164, u165, u166, u167, u168, u169, u170, u171, u172, u173, u174, u175, u176, u177, u178, u179, u180, u181, u182, u183, u184, u185, u186, u187, u188, u189, u190, u191, u192, u193, u194, u195, u196, u197, u198, u199, u200, u201, u202, u203, u204, u205, u206, u207, u208, u209, u210, u211, u212, u213, u214, u215, u216, u217, u218, u219, u220, u221, u222, u223, u224, u225, u226, u227, u228, u229, u230, u231, u232], []⟩ z') :
    Code.wp Try.prog (bodyDF Try.f22) (Exit.then Kc Q) ⟨#[.pointer (some ⟨K, 0, none⟩), u1, u2, .pointer (some ⟨Tb, 0, none⟩), u4, u5, u6, u7, u8, .int .i64 (i : Int), u10, u11, u12, u13, u14, u15, u16, u17, u18, u19, u20, u21, u22, u23, u24, u25, u26, u27, u28, u29, u30, u31, u32, u33, u34, u35, u36, u37, u38, u39, u40, u41, u42, u43, u44, u45, u46, u47, u48, u49, u50, u51, u52, u53, u54, u55, u56, u57, u58, u59, u60, u61, u62, u63, u64, u65, u66, u67, u68, u69, u70, u71, u72, u73, u74, u75, u76, u77, u78, u79, u80, u81, u82, u83, u84, u85, u86, u87, u88, u89, u90, u91, u92, u93, u94, u95, u96, u97, u98, u99, u100, u101, u102, u103, u104, u105, u106, u107, u108, u109, u110, u111, u112, u113, u114, u115, u116, u117, u118, u119, u120, u121, u122, u123, u124, u125, u126, u127, u128, u129, u130, u131, u132, u133, u134, u135, u136, u137, u138, u139, u140, u141, u142, u143, u144, u145, u146, u147, u148, u149, u150, u151, u152, u153, u154, u155, u156, u157, u158, u159, u160, u161, u162, u163, u164, u165, u166, u167, u168, u169, u170, u171, u172, u173, u174, u175, u176, u177, u178, u179, u180, u181, u182, u183, u184, u185, u186, u187, u188, u189, u190, u191, u192, u193, u194, u195, u196, u197, u198, u199, u200, u201, u202, u203, u204, u205, u206, u207, u208, u209, u210, u211, u212, u213, u214, u215, u216, u217, u218, u219, u220, u221, u222, u223, u224, u225, u226, u227, u228, u229, u230, u231, u232], []⟩ z := by
  obtain ⟨ask, want, come, lose, again, mix, deaf⟩ := t
  simp only at hi hls hK
  have HK := hide' hK
  have HI := hide' hI
  have HQ := hide' hQ
  clear hQ
  clear hK hI
  conv => arg 2; whnf
  have HA := hide' hA
  clear hA
  obtain ⟨pv, dv, uv, ov, av, cv, hW⟩ := HA.out.wat
  obtain ⟨da, dc, hde⟩ := own_slice hW.dn
  subst hde
  have HW := hide' hW
  clear hW
  have k17 : z.cell? ⟨K, 17, none⟩ = some (.slice da V.down.length dc) := (cells_at HW.out.cell 17).trans rfl
  have c2 : z.cell? ⟨Tb, 2, none⟩ = some (.int .i64 come) := (cells_at HA.out.box 2).trans rfl
  have h1 : decide ((i : Int) < come) = true := decide_eq_true hi
  have h2 : decide ((0 : Int) < (V.down.length : Int)) = true := decide_eq_true (by omega)
  have h3 : decide (0 < V.down.length) = true := decide_eq_true hn
  obtain ⟨mx, hmx⟩ : ∃ m, IntKind.i64.wrap (mix + (i : Int)) = m := ⟨_, rfl⟩
  have HMX : Hid (wrap64 (mix + i) = mx ∧ I6 mx) := by
    rw [IntWalk.i64_left] at hmx
    exact ⟨hmx, by rw [← hmx]; exact wrap64_I6 _⟩
  go_upto_region 15 with fail
  have hbC := below_al z (.cells #[.int .i64 0, .int .i64 0, .int .i64 0, .bool false] 39)
  have hqC := alloc_new z (.cells #[.int .i64 0, .int .i64 0, .int .i64 0, .bool false] 39)
  obtain ⟨Cb, hCb⟩ : ∃ q, q = z.heap.size := ⟨_, rfl⟩
  obtain ⟨z1, hz1⟩ : ∃ q, q = z.alloc (.cells #[.int .i64 0, .int .i64 0, .int .i64 0, .bool false] 39) := ⟨_, rfl⟩
  rw [← hz1] at hbC
  rw [← hz1, ← hCb] at hqC
  rw [← hz1]
  rw [show (Value.pointer (some { block := z.heap.size, off := 0 })) = Value.pointer (some { block := Cb, off := 0 }) by rw [hCb]]
  have H1 := hide' (HA.out.below hbC)
  have HWT := hide' (HW.out.below hbC)
  have HQC := hide' hqC
  have HCE : Hid (K ≠ Cb ∧ Tb ≠ Cb ∧ B ≤ Cb ∧ (∀ g, (Value.slice da V.down.length dc).ownBlock = some g → g ≠ Cb) ∧ (∀ g, pv.ownBlock = some g → g ≠ Cb) ∧ (∀ g, uv.ownBlock = some g → g ≠ Cb) ∧ (∀ g, ov.ownBlock = some g → g ≠ Cb) ∧ (∀ g, av.ownBlock = some g → g ≠ Cb) ∧ (∀ g, cv.ownBlock = some g → g ≠ Cb)) := by
    have q1 := lt_heap HW.out.cell
    have q2 := lt_heap HA.out.box
    have q3 := HW.out.bk
    refine ⟨by omega, by omega, by omega, fun g hg => ?_, fun g hg => ?_, fun g hg => ?_, fun g hg => ?_, fun g hg => ?_, fun g hg => ?_⟩
    · have := own_lt HW.out.dn hg; omega
    · have := own_lt HW.out.pts hg; omega
    · have := own_lt HW.out.up hg; omega
    · have := own_lt HW.out.od hg; omega
    · have := own_lt HW.out.ak hg; omega
    · have := own_lt HW.out.ac hg; omega
  clear hbC hqC hz1 hCb k17 c2 HA HW
  have HS1 : Hid (z1.drew.heap[K]? = some (.cells #[.int .i64 V.m.no, .int .i64 V.m.ph, .int .i64 V.m.now, .int .i64 V.m.pt, .bool V.m.want, .int .i64 V.m.timer, .int .i64 V.m.pat, .int .i64 V.m.tries, .int .i64 V.m.lim, .bool V.m.gave, pv, .int .i64 V.s.last, .int .i64 V.s.armed, .int .i64 V.s.point, .bool V.s.want, .int .i64 V.s.left, .int .i64 V.s.pat, .slice da V.down.length dc, uv, ov, av, cv] 52 (0, 0)) ∧ z1.drew.heap[Tb]? = some (.cells #[.int .i64 ask, .bool want, .int .i64 come, .int .i64 lose, .int .i64 again, .int .i64 mix, .bool deaf] 55 (0, 0))) := ⟨HWT.out.cell, H1.out.box⟩
  refine wp_region_tail (fun W' => W'.heap[K]? = some (.cells #[.int .i64 V.m.no, .int .i64 V.m.ph, .int .i64 V.m.now, .int .i64 V.m.pt, .bool V.m.want, .int .i64 V.m.timer, .int .i64 V.m.pat, .int .i64 V.m.tries, .int .i64 V.m.lim, .bool V.m.gave, pv, .int .i64 V.s.last, .int .i64 V.s.armed, .int .i64 V.s.point, .bool V.s.want, .int .i64 V.s.left, .int .i64 V.s.pat, .slice da V.down.length dc, uv, ov, av, cv] 52 (0, 0)) ∧ W'.heap[Tb]? = some (.cells #[.int .i64 ask, .bool want, .int .i64 come, .int .i64 lose, .int .i64 again, .int .i64 mix, .bool deaf] 55 (0, 0))) 16 (by kernel_rfl) ?_
  refine wpAnyD_takeAt 0 (some 129) (v := ?_) rfl (by kernel_rfl) (by kernel_rfl) (by kernel_rfl) (by kernel_rfl) (by kernel_rfl) (fun c a w h => HQ.out c _ _ w h) (by exact HS1.out) (fun o hop => ?_) ?_
  rotate_left
  · injection hop with hop
    subst hop
    refine ⟨rfl, fun W' hW => ?_⟩
    have g17 : W'.cell? ⟨K, 17, none⟩ = some (.slice da V.down.length dc) := (cells_at hW.1 17).trans rfl
    have g5 : W'.cell? ⟨Tb, 5, none⟩ = some (.int .i64 mix) := (cells_at hW.2 5).trans rfl
    go_simp
    first
    | rfl
    | (constructor <;> rfl)
  try simp only [Act.put, List.setIfInBounds_toArray]
  refine wpAnyD_takeAt 1 (some 130) (v := ?_) rfl (by kernel_rfl) (by kernel_rfl) (by kernel_rfl) (by kernel_rfl) (by kernel_rfl) (fun c a w h => HQ.out c _ _ w h) (by exact HS1.out) (fun o hop => ?_) ?_
  rotate_left
  · injection hop with hop
    subst hop
    refine ⟨rfl, fun W' hW => ?_⟩
    have g17 : W'.cell? ⟨K, 17, none⟩ = some (.slice da V.down.length dc) := (cells_at hW.1 17).trans rfl
    have g5 : W'.cell? ⟨Tb, 5, none⟩ = some (.int .i64 mix) := (cells_at hW.2 5).trans rfl
    go_simp
    first
    | rfl
    | (constructor <;> rfl)
  try simp only [Act.put, List.setIfInBounds_toArray]
  refine wpAnyD_takeAt 2 (some 131) (v := ?_) rfl (by kernel_rfl) (by kernel_rfl) (by kernel_rfl) (by kernel_rfl) (by kernel_rfl) (fun c a w h => HQ.out c _ _ w h) (by exact HS1.out) (fun o hop => ?_) ?_
  rotate_left
  · injection hop with hop
    subst hop
    refine ⟨rfl, fun W' hW => ?_⟩
    have g17 : W'.cell? ⟨K, 17, none⟩ = some (.slice da V.down.length dc) := (cells_at hW.1 17).trans rfl
    have g5 : W'.cell? ⟨Tb, 5, none⟩ = some (.int .i64 mix) := (cells_at hW.2 5).trans rfl
    go_simp
    first
    | rfl
    | (constructor <;> rfl)
  try simp only [Act.put, List.setIfInBounds_toArray]
  refine wpAnyD_takeAt 3 (some 132) (v := ?_) rfl (by kernel_rfl) (by kernel_rfl) (by kernel_rfl) (by kernel_rfl) (by kernel_rfl) (fun c a w h => HQ.out c _ _ w h) (by exact HS1.out) (fun o hop => ?_) ?_
  rotate_left
  · injection hop with hop
    subst hop
    refine ⟨rfl, fun W' hW => ?_⟩
    have g17 : W'.cell? ⟨K, 17, none⟩ = some (.slice da V.down.length dc) := (cells_at hW.1 17).trans rfl
    have g5 : W'.cell? ⟨Tb, 5, none⟩ = some (.int .i64 mix) := (cells_at hW.2 5).trans rfl
    go_simp
    first
    | rfl
    | (constructor <;> rfl)
  try simp only [Act.put, List.setIfInBounds_toArray]
  refine wpAnyD_takeAt 4 (some 133) (v := ?_) rfl (by kernel_rfl) (by kernel_rfl) (by kernel_rfl) (by kernel_rfl) (by kernel_rfl) (fun c a w h => HQ.out c _ _ w h) (by exact HS1.out) (fun o hop => ?_) ?_
  rotate_left
  · injection hop with hop
    subst hop
    refine ⟨rfl, fun W' hW => ?_⟩
    have g17 : W'.cell? ⟨K, 17, none⟩ = some (.slice da V.down.length dc) := (cells_at hW.1 17).trans rfl
    have g5 : W'.cell? ⟨Tb, 5, none⟩ = some (.int .i64 mix) := (cells_at hW.2 5).trans rfl
    go_simp
    first
    | rfl
    | (constructor <;> rfl)
  try simp only [Act.put, List.setIfInBounds_toArray]
  refine wpAnyD_takeAt 5 (some 134) (v := ?_) rfl (by kernel_rfl) (by kernel_rfl) (by kernel_rfl) (by kernel_rfl) (by kernel_rfl) (fun c a w h => HQ.out c _ _ w h) (by exact HS1.out) (fun o hop => ?_) ?_
  rotate_left
  · injection hop with hop
    subst hop
    refine ⟨rfl, fun W' hW => ?_⟩
    have g17 : W'.cell? ⟨K, 17, none⟩ = some (.slice da V.down.length dc) := (cells_at hW.1 17).trans rfl
    have g5 : W'.cell? ⟨Tb, 5, none⟩ = some (.int .i64 mix) := (cells_at hW.2 5).trans rfl
    go_simp
    first
    | rfl
    | (constructor <;> rfl)
  try simp only [Act.put, List.setIfInBounds_toArray]
  refine wpAnyD_takeAt 6 (some 135) (v := ?_) rfl (by kernel_rfl) (by kernel_rfl) (by kernel_rfl) (by kernel_rfl) (by kernel_rfl) (fun c a w h => HQ.out c _ _ w h) (by exact HS1.out) (fun o hop => ?_) ?_
  rotate_left
  · injection hop with hop
    subst hop
    refine ⟨rfl, fun W' hW => ?_⟩
    have g17 : W'.cell? ⟨K, 17, none⟩ = some (.slice da V.down.length dc) := (cells_at hW.1 17).trans rfl
    have g5 : W'.cell? ⟨Tb, 5, none⟩ = some (.int .i64 mix) := (cells_at hW.2 5).trans rfl
    go_simp
    first
    | rfl
    | (constructor <;> rfl)
  try simp only [Act.put, List.setIfInBounds_toArray]
  refine wpAnyD_takeAt 7 (some 136) (v := ?_) rfl (by kernel_rfl) (by kernel_rfl) (by kernel_rfl) (by kernel_rfl) (by kernel_rfl) (fun c a w h => HQ.out c _ _ w h) (by exact HS1.out) (fun o hop => ?_) ?_
  rotate_left
  · injection hop with hop
    subst hop
    refine ⟨rfl, fun W' hW => ?_⟩
    have g17 : W'.cell? ⟨K, 17, none⟩ = some (.slice da V.down.length dc) := (cells_at hW.1 17).trans rfl
    have g5 : W'.cell? ⟨Tb, 5, none⟩ = some (.int .i64 mix) := (cells_at hW.2 5).trans rfl
    go_simp
    first
    | rfl
    | (constructor <;> rfl)
  try simp only [Act.put, List.setIfInBounds_toArray]
  refine wpAnyD_takeAt 8 (some 137) (v := ?_) rfl (by kernel_rfl) (by kernel_rfl) (by kernel_rfl) (by kernel_rfl) (by kernel_rfl) (fun c a w h => HQ.out c _ _ w h) (by exact HS1.out) (fun o hop => ?_) ?_
  rotate_left
  · injection hop with hop
    subst hop
    refine ⟨rfl, fun W' hW => ?_⟩
    have g17 : W'.cell? ⟨K, 17, none⟩ = some (.slice da V.down.length dc) := (cells_at hW.1 17).trans rfl
    have g5 : W'.cell? ⟨Tb, 5, none⟩ = some (.int .i64 mix) := (cells_at hW.2 5).trans rfl
    go_simp
    first
    | rfl
    | (constructor <;> rfl)
  try simp only [Act.put, List.setIfInBounds_toArray]
  refine wpAnyT_one (i := 9) (by kernel_rfl) rfl rfl (fun K' hK => ?_)
  go_simp
  go_at_call 39
  refine (pick_any V.down da V.down.length dc mx z1.drew B (own_below HWT.out.dn (Below.refl _ z1).drew (Nat.le_refl _)) rfl hn hnb HMX.out.2).mono ?_
  rintro e z2 ⟨v, he, hov, hb2⟩
  obtain ⟨⟨xk, xn, xp, xw⟩, hx⟩ : ∃ x, x = V.down.getD (pickK V.down.length mx) noMsg := ⟨_, rfl⟩
  obtain ⟨dl, hdl⟩ : ∃ x, x = V.down.eraseIdx (pickK V.down.length mx) := ⟨_, rfl⟩
  rw [← hx] at he
  rw [← hdl] at hov
  unfold MsM.cells at he
  simp only at he
  subst he
  have HXD := hide' (And.intro hx hdl)
  clear hx hdl
  obtain ⟨va, vc, hve⟩ := own_slice hov
  subst hve
  have hb12 : Below z1.heap.size z1 z2 := ⟨hb2.os, hb2.tape, hb2.output, hb2.size, hb2.block⟩
  have HS2 : Hid (z2.heap[K]? = some (.cells #[.int .i64 V.m.no, .int .i64 V.m.ph, .int .i64 V.m.now, .int .i64 V.m.pt, .bool V.m.want, .int .i64 V.m.timer, .int .i64 V.m.pat, .int .i64 V.m.tries, .int .i64 V.m.lim, .bool V.m.gave, pv, .int .i64 V.s.last, .int .i64 V.s.armed, .int .i64 V.s.point, .bool V.s.want, .int .i64 V.s.left, .int .i64 V.s.pat, .slice da V.down.length dc, uv, ov, av, cv] 52 (0, 0)) ∧ z2.heap[Tb]? = some (.cells #[.int .i64 ask, .bool want, .int .i64 come, .int .i64 lose, .int .i64 again, .int .i64 mix, .bool deaf] 55 (0, 0))) := ⟨(hb12.block K (lt_heap HS1.out.1)).trans HS1.out.1, (hb12.block Tb (lt_heap HS1.out.2)).trans HS1.out.2⟩
  refine hK.out _ _ (fun _ => HS2.out) ?_
  clear hK K'
  try simp only [Act.put, List.setIfInBounds_toArray]
  have HQ2 := hide' ((hb12.block Cb (lt_heap HQC.out)).trans HQC.out)
  have H2 := hide' (H1.out.below hb12)
  have HW2 := hide' (HWT.out.below hb12)
  have HOV : Hid (z2.ownsRow B 39 4 (.slice va dl.length vc) dl.length (msgs dl)) := own_mono hov H1.out.bs
  have HAP : Hid (Apart (.slice va dl.length vc) uv ∧ Apart (.slice va dl.length vc) ov ∧ Apart (.slice va dl.length vc) av ∧ ∀ g, (Value.slice va dl.length vc).ownBlock = some g → g ≠ Cb) := ⟨apart_late HWT.out.up hov, apart_late HWT.out.od hov, apart_late HWT.out.ak hov, fun g hg => by have q1 := own_at hov g hg; have q2 := lt_heap HQC.out; have q3 : z1.drew.heap.size = z1.heap.size := rfl; omega⟩
  clear hov hb2 hb12 HS1 HQC H1 HWT
  refine wpAnyD_takeAt 10 (some 128) (v := ?_) rfl (by kernel_rfl) (by kernel_rfl) (by kernel_rfl) (by kernel_rfl) (by kernel_rfl) (fun c a w h => HQ.out c _ _ w h) (by exact HS2.out) (fun o hop => ?_) ?_
  rotate_left
  · injection hop with hop
    subst hop
    refine ⟨rfl, fun W' hW => ?_⟩
    have g17 : W'.cell? ⟨K, 17, none⟩ = some (.slice da V.down.length dc) := (cells_at hW.1 17).trans rfl
    have g5 : W'.cell? ⟨Tb, 5, none⟩ = some (.int .i64 mix) := (cells_at hW.2 5).trans rfl
    go_simp
    first
    | rfl
    | (constructor <;> rfl)
  try simp only [Act.put, List.setIfInBounds_toArray]
  refine wpAnyD_takeAt 11 (some 139) (v := ?_) rfl (by kernel_rfl) (by kernel_rfl) (by kernel_rfl) (by kernel_rfl) (by kernel_rfl) (fun c a w h => HQ.out c _ _ w h) (by exact HS2.out) (fun o hop => ?_) ?_
  rotate_left
  · injection hop with hop
    subst hop
    refine ⟨rfl, fun W' hW => ?_⟩
    have g17 : W'.cell? ⟨K, 17, none⟩ = some (.slice da V.down.length dc) := (cells_at hW.1 17).trans rfl
    have g5 : W'.cell? ⟨Tb, 5, none⟩ = some (.int .i64 mix) := (cells_at hW.2 5).trans rfl
    go_simp
    first
    | rfl
    | (constructor <;> rfl)
  try simp only [Act.put, List.setIfInBounds_toArray]
  refine wpAnyD_takeAt 12 (some 140) (v := ?_) rfl (by kernel_rfl) (by kernel_rfl) (by kernel_rfl) (by kernel_rfl) (by kernel_rfl) (fun c a w h => HQ.out c _ _ w h) (by exact HS2.out) (fun o hop => ?_) ?_
  rotate_left
  · injection hop with hop
    subst hop
    refine ⟨rfl, fun W' hW => ?_⟩
    have g17 : W'.cell? ⟨K, 17, none⟩ = some (.slice da V.down.length dc) := (cells_at hW.1 17).trans rfl
    have g5 : W'.cell? ⟨Tb, 5, none⟩ = some (.int .i64 mix) := (cells_at hW.2 5).trans rfl
    go_simp
    first
    | rfl
    | (constructor <;> rfl)
  try simp only [Act.put, List.setIfInBounds_toArray]
  obtain ⟨b0, b1, b2, b3⟩ := cellsP4 HQ2.out
  obtain ⟨e0, e1, e2, e3⟩ := frozenP4 HQ2.out
  have HP := hide' (put4 HQ2.out (.int .i64 xk) (.int .i64 xn) (.int .i64 xp) (.bool xw))
  have HS3 : Hid (((((z2.setCell ⟨Cb, 0, none⟩ (.int .i64 xk)).setCell ⟨Cb, 1, none⟩ (.int .i64 xn)).setCell ⟨Cb, 2, none⟩ (.int .i64 xp)).setCell ⟨Cb, 3, none⟩ (.bool xw)).heap[K]? = some (.cells #[.int .i64 V.m.no, .int .i64 V.m.ph, .int .i64 V.m.now, .int .i64 V.m.pt, .bool V.m.want, .int .i64 V.m.timer, .int .i64 V.m.pat, .int .i64 V.m.tries, .int .i64 V.m.lim, .bool V.m.gave, pv, .int .i64 V.s.last, .int .i64 V.s.armed, .int .i64 V.s.point, .bool V.s.want, .int .i64 V.s.left, .int .i64 V.s.pat, .slice da V.down.length dc, uv, ov, av, cv] 52 (0, 0)) ∧ ((((z2.setCell ⟨Cb, 0, none⟩ (.int .i64 xk)).setCell ⟨Cb, 1, none⟩ (.int .i64 xn)).setCell ⟨Cb, 2, none⟩ (.int .i64 xp)).setCell ⟨Cb, 3, none⟩ (.bool xw)).heap[Tb]? = some (.cells #[.int .i64 ask, .bool want, .int .i64 come, .int .i64 lose, .int .i64 again, .int .i64 mix, .bool deaf] 55 (0, 0))) := ⟨(HP.out.2.block K (lt_heap HS2.out.1) HCE.out.1).trans HS2.out.1, (HP.out.2.block Tb (lt_heap HS2.out.2) HCE.out.2.1).trans HS2.out.2⟩
  refine wpAnyT_one (i := 13) (by kernel_rfl) rfl rfl (fun K' hK => ?_)
  go_simp
  refine hK.out _ _ (fun _ => HS3.out) ?_
  clear hK K' b0 b1 b2 b3 e0 e1 e2 e3
  try simp only [Act.put, List.setIfInBounds_toArray]
  refine wpAnyT_letter (fun q => Hid (q.heap[Cb]? = some (.cells #[.int .i64 xk, .int .i64 xn, .int .i64 xp, .bool xw] 39 (0, 0)) ∧ TkAt w q B K Tb ⟨ask, want, come, lose, again, mix, deaf⟩ V ∧ WAt q B K V pv (.slice da V.down.length dc) uv ov av cv ∧ q.ownsRow B 39 4 (.slice va dl.length vc) dl.length (msgs dl) ∧ (q.heap[K]? = some (.cells #[.int .i64 V.m.no, .int .i64 V.m.ph, .int .i64 V.m.now, .int .i64 V.m.pt, .bool V.m.want, .int .i64 V.m.timer, .int .i64 V.m.pat, .int .i64 V.m.tries, .int .i64 V.m.lim, .bool V.m.gave, pv, .int .i64 V.s.last, .int .i64 V.s.armed, .int .i64 V.s.point, .bool V.s.want, .int .i64 V.s.left, .int .i64 V.s.pat, .slice da V.down.length dc, uv, ov, av, cv] 52 (0, 0)) ∧ q.heap[Tb]? = some (.cells #[.int .i64 ask, .bool want, .int .i64 come, .int .i64 lose, .int .i64 again, .int .i64 mix, .bool deaf] 55 (0, 0))))) ⟨HP.out.1, H2.out.next ⟨_, _, _, _, _, _, HW2.out.but' HP.out.2 HCE.out.1 HCE.out.2.2.2.2.1 HCE.out.2.2.2.1 HCE.out.2.2.2.2.2.1 HCE.out.2.2.2.2.2.2.1 HCE.out.2.2.2.2.2.2.2.1 HCE.out.2.2.2.2.2.2.2.2⟩ (but_bl HP.out.2 HQ2.out (by decide) HCE.out.2.2.1 H2.out.bs), HW2.out.but' HP.out.2 HCE.out.1 HCE.out.2.2.2.2.1 HCE.out.2.2.2.1 HCE.out.2.2.2.2.2.1 HCE.out.2.2.2.2.2.2.1 HCE.out.2.2.2.2.2.2.2.1 HCE.out.2.2.2.2.2.2.2.2, own_other HOV.out (fun k ek => HP.out.2.block k (own_lt HOV.out ek) (HAP.out.2.2.2 k ek)), HS3.out⟩ ?_
  clear HP HS3 HS2 HQ2 H2 HW2 HOV
  intro z3 H3
  refine wpAnyD_takeAt 14 (some 141) (v := ?_) rfl (by kernel_rfl) (by kernel_rfl) (by kernel_rfl) (by kernel_rfl) (by kernel_rfl) (fun c a w h => HQ.out c _ _ w h) (by exact H3.out.2.2.2.2) (fun o hop => ?_) ?_
  rotate_left
  · injection hop with hop
    subst hop
    refine ⟨rfl, fun W' hW => ?_⟩
    have g17 : W'.cell? ⟨K, 17, none⟩ = some (.slice da V.down.length dc) := (cells_at hW.1 17).trans rfl
    have g5 : W'.cell? ⟨Tb, 5, none⟩ = some (.int .i64 mix) := (cells_at hW.2 5).trans rfl
    go_simp
    first
    | rfl
    | (constructor <;> rfl)
  try simp only [Act.put, List.setIfInBounds_toArray]
  refine wpAnyD_takeAt 15 (some 142) (v := ?_) rfl (by kernel_rfl) (by kernel_rfl) (by kernel_rfl) (by kernel_rfl) (by kernel_rfl) (fun c a w h => HQ.out c _ _ w h) (by exact H3.out.2.2.2.2) (fun o hop => ?_) ?_
  rotate_left
  · injection hop with hop
    subst hop
    refine ⟨rfl, fun W' hW => ?_⟩
    have g17 : W'.cell? ⟨K, 17, none⟩ = some (.slice da V.down.length dc) := (cells_at hW.1 17).trans rfl
    have g5 : W'.cell? ⟨Tb, 5, none⟩ = some (.int .i64 mix) := (cells_at hW.2 5).trans rfl
    go_simp
    first
    | rfl
    | (constructor <;> rfl)
  try simp only [Act.put, List.setIfInBounds_toArray]
  have k17 : z3.cell? ⟨K, 17, none⟩ = some (.slice da V.down.length dc) := (cells_at H3.out.2.2.2.2.1 17).trans rfl
  have e17 : z3.frozen? ⟨K, 17, none⟩ = false := frozen_no H3.out.2.2.2.2.1 _
  have HN := hide' (H3.out.2.2.1.dnN (d := dl) H3.out.2.2.2.1 rfl HAP.out.1 HAP.out.2.1 HAP.out.2.2.1)
  refine wpAnyT_one (i := 16) (by kernel_rfl) rfl rfl (fun K' hK => ?_)
  go_simp
  refine hK.out _ _ (fun h => absurd rfl h) ?_
  clear hK K' k17 e17
  try simp only [Act.put, List.setIfInBounds_toArray]
  refine wpAnyT_done (by kernel_rfl) ?_ _
  have H4 : Hid ((z3.setCell ⟨K, 17, none⟩ (.slice va dl.length vc)).heap[Cb]? = some (.cells #[.int .i64 xk, .int .i64 xn, .int .i64 xp, .bool xw] 39 (0, 0)) ∧ TkAt w (z3.setCell ⟨K, 17, none⟩ (.slice va dl.length vc)) B K Tb ⟨ask, want, come, lose, again, mix, deaf⟩ (V.down1 dl) ∧ WAt (z3.setCell ⟨K, 17, none⟩ (.slice va dl.length vc)) B K (V.down1 dl) pv (.slice va dl.length vc) uv ov av cv) := ⟨(Below.heap_setCell _ _ _ _ HCE.out.1.symm).trans H3.out.1, H3.out.2.1.next ⟨_, _, _, _, _, _, HN.out.1⟩ HN.out.2, HN.out.1⟩
  clear H3 HN HAP
  go_upto_region 16 with fail
  refine code_letter (fun q => Hid (q.heap[Cb]? = some (.cells #[.int .i64 xk, .int .i64 xn, .int .i64 xp, .bool xw] 39 (0, 0)) ∧ TkAt w q B K Tb ⟨ask, want, come, lose, again, mix, deaf⟩ (V.down1 dl) ∧ WAt q B K (V.down1 dl) pv (.slice va dl.length vc) uv ov av cv)) H4.out ?_
  clear H4
  intro z5 H5

  have c3 : z5.cell? ⟨Tb, 3, none⟩ = some (.int .i64 lose) := (cells_at H5.out.2.1.box 3).trans rfl
  obtain ⟨b0, b1, b2, b3⟩ := cellsP4 H5.out.1
  have HIN : Hid (Inv pat lim P T (V.down1 dl) ∧ OkM V.asked ⟨xk, xn, xp, xw⟩ ∧ dl.length ≤ V.down.length) := by
    obtain ⟨h1, h2⟩ := HXD.out
    refine ⟨HI.out.less (fun x hx => .inl ?_), ?_, ?_⟩
    · rw [h2] at hx
      exact List.mem_of_mem_eraseIdx hx
    · rw [h1]
      exact HI.out.dn _ (getD_msg (pickK_lt hn))
    · rw [h2]
      exact List.length_eraseIdx_le _ _
  rcases Decidable.em (bits BinOp.and IntKind.i64 (lose / 2 ^ (i % 60)) 1 = 0) with hb | hb
  · go_wp2_with fail
    refine (hear_any (V.down1 dl) B K pv (.slice va dl.length vc) uv ov av cv ⟨xk, xn, xp, xw⟩ z5 H5.out.2.2 HIN.out.1 hT HIN.out.2.1 hub hcb).mono ?_
    rintro e z6 ⟨rfl, ⟨pv', uv', cv', q1⟩, q2⟩
    have HF : Hid (TkAt w z6 B K Tb ⟨ask, want, come, lose, again, mix, deaf⟩ (dnStep mix lose i V)) := by
      have h0 : dnStep mix lose i V = (V.down1 dl).hear ⟨xk, xn, xp, xw⟩ := by
        unfold dnStep
        rw [bit_lost, decide_eq_false (fun q => q hb), HMX.out.1, ← HXD.out.1, ← HXD.out.2]
        rfl
      show TkAt w z6 B K Tb _ _
      rw [h0]
      exact H5.out.2.1.next ⟨_, _, _, _, _, _, q1⟩ q2
    clear q1 q2 c3 b0 b1 b2 b3 H5
    go_wp2_with fail
    exact HK.out _ _ _ _ _ _ _ _ _ _ _ _ _ _ _ _ _ _ _ _ _ _ _ _ _ _ _ _ _ _ _ _ _ _ _ _ _ _ _ _ _ _ _ _ HF.out
  · have HF : Hid (TkAt w z5 B K Tb ⟨ask, want, come, lose, again, mix, deaf⟩ (dnStep mix lose i V)) := by
      have h0 : dnStep mix lose i V = V.down1 dl := by
        unfold dnStep
        rw [bit_lost, decide_eq_true hb, HMX.out.1, ← HXD.out.2]
        rfl
      show TkAt w z5 B K Tb _ _
      rw [h0]
      exact H5.out.2.1
    go_wp2_with fail
    exact HK.out _ _ _ _ _ _ _ _ _ _ _ _ _ _ _ _ _ _ _ _ _ _ _ _ _ _ _ _ _ _ _ _ _ _ _ _ _ _ _ _ _ _ _ _ HF.out
end Go.Proofs.Ytjhmendiefojoam
