/- From the station's tick on, in a tick. -/
import Derived.Test.YtjhmendiefojoamYc
import Derived.Test.YtjhmendiefojoamOo
namespace Go.Proofs.Ytjhmendiefojoam
open Go.RowKit Go.Shelf

set_option maxRecDepth 1000000 in
set_option maxHeartbeats 8000000 in
theorem tail4 (w : World) {B K Tb : Nat} {t : TuM} (V : Wl) {pat lim P : Int} {T : Nat} (hI : Inv pat lim P T V) (hmi : I6 t.mix) (bb1 : V.down.length + V.up.length ≤ 100000) (bb2 : V.old.length + V.up.length ≤ 900000) (u1 u2 u4 u5 u6 u7 u8 u9 u10 u11 u12 u13 u14 u15 u16 u17 u18 u19 u20 u21 u22 u23 u24 u25 u26 u27 u28 u29 u30 u31 u32 u33 u34 u35 u36 u37 u38 u39 u40 u41 u42 u43 u44 u45 u46 u47 u48 u49 u50 u51 u52 u53 u54 u55 u56 u57 u58 u59 u60 u61 u62 u63 u64 u65 u66 u67 u68 u69 u70 u71 u72 u73 u74 u75 u76 u77 u78 u79 u80 u81 u82 u83 u84 u85 u86 u87 u88 u89 u90 u91 u92 u93 u94 u95 u96 u97 u98 u99 u100 u101 u102 u103 u104 u105 u106 u107 u108 u109 u110 u111 u112 u113 u114 u115 u116 u117 u118 u119 u120 u121 u122 u123 u124 u125 u126 u127 u128 u129 u130 u131 u132 u133 u134 u135 u136 u137 u138 u139 u140 u141 u142 u143 u144 u145 u146 u147 u148 u149 u150 u151 u152 u153 u154 u155 u156 u157 u158 u159 u160 u161 u162 u163 u164 u165 u166 u167 u168 u169 u170 u171 u172 u173 u174 u175 u176 u177 u178 u179 u180 u181 u182 u183 u184 u185 u186 u187 u188 u189 u190 u191 u192 u193 u194 u195 u196 u197 u198 u199 u200 u201 u202 u203 u204 u205 u206 u207 u208 u209 u210 u211 u212 u213 u214 u215 u216 u217 u218 u219 u220 u221 u222 u223 u224 u225 u226 u227 u228 u229 u230 u231 u232 : Value) (z : World) (hA : TkAt w z B K Tb t V)
    (Q : Exit → Act → World → Prop) (hQ : ∀ c a a' w, Q (.panic c) a' w → Q (.panic c) a w) (hR : ∀ (g11 g12 g13 g14 g15 g16 g17 g18 g19 g156 g157 g158 g159 g160 g161 g162 g163 g164 g165 g166 g167 g168 g169 g170 g171 g172 g173 g174 g175 g176 g177 g178 g179 g180 g181 g182 g183 g184 g185 g186 g187 g188 g189 g190 g191 g192 g193 g194 g195 g196 g197 g198 g199 g200 g201 g202 g203 g204 g205 g206 g207 g208 g209 g210 g211 g212 g213 g214 g215 g216 g217 g218 g219 g220 g221 g222 g223 g224 g225 g226 g227 g228 g229 g230 g231 g232 : Value) (z' : World), TkAt w z' B K Tb t ((tickUp V.tickS t).sent (waitM (tickUp V.tickS t).m) (waitL (tickUp V.tickS t).m)) → Q .ret ⟨#[.pointer (some ⟨K, 0, none⟩), u1, u2, .pointer (some ⟨Tb, 0, none⟩), .bool true, u5, u6, u7, u8, u9, u10, g11, g12, g13, g14, g15, g16, g17, g18, g19, u20, u21, u22, u23, u24, u25, u26, u27, u28, u29, u30, u31, u32, u33, u34, u35, u36, u37, u38, u39, u40, u41, u42, u43, u44, u45, u46, u47, u48, u49, u50, u51, u52, u53, u54, u55, u56, u57, u58, u59, u60, u61, u62, u63, u64, u65, u66, u67, u68, u69, u70, u71, u72, u73, u74, u75, u76, u77, u78, u79, u80, u81, u82, u83, u84, u85, u86, u87, u88, u89, u90, u91, u92, u93, u94, u95, u96, u97, u98, u99, u100, u101, u102, u103, u104, u105, u106, u107, u108, u109, u110, u111, u112, u113, u114, u115, u116, u117, u118, u119, u120, u121, u122, u123, u124, u125, u126, u127, u128, u129, u130, u131, u132, u133, u134, u135, u136, u137, u138, u139, u140, u141, u142, u143, u144, u145, u146, u147, u148, u149, u150, u151, u152, u153, u154, u155, g156, g157, g158, g159, g160, g161, g162, g163, g164, g165, g166, g167, g168, g169, g170, g171, g172, g173, g174, g175, g176, g177, g178, g179, g180, g181, g182, g183, g184, g185, g186, g187, g188, g189, g190, g191, g192, g193, g194, g195, g196, g197, g198, g199, g200, g201, g202, g203, g204, g205, g206, g207, g208, g209, g210, g211, g212, g213, g214, g215, g216, g217, g218, g219, g220, g221, g222, g223, g224, g225, g226, g227, g228, g229, g230, g231, g232], []⟩ z') :
    Code.wp Try.prog (tickTail 4 Try.f22) Q ⟨#[.pointer (some ⟨K, 0, none⟩), u1, u2, .pointer (some ⟨Tb, 0, none⟩), u4, u5, u6, u7, u8, u9, u10, u11, u12, u13, u14, u15, u16, u17, u18, u19, u20, u21, u22, u23, u24, u25, u26, u27, u28, u29, u30, u31, u32, u33, u34, u35, u36, u37, u38, u39, u40, u41, u42, u43, u44, u45, u46, u47, u48, u49, u50, u51, u52, u53, u54, u55, u56, u57, u58, u59, u60, u61, u62, u63, u64, u65, u66, u67, u68, u69, u70, u71, u72, u73, u74, u75, u76, u77, u78, u79, u80, u81, u82, u83, u84, u85, u86, u87, u88, u89, u90, u91, u92, u93, u94, u95, u96, u97, u98, u99, u100, u101, u102, u103, u104, u105, u106, u107, u108, u109, u110, u111, u112, u113, u114, u115, u116, u117, u118, u119, u120, u121, u122, u123, u124, u125, u126, u127, u128, u129, u130, u131, u132, u133, u134, u135, u136, u137, u138, u139, u140, u141, u142, u143, u144, u145, u146, u147, u148, u149, u150, u151, u152, u153, u154, u155, u156, u157, u158, u159, u160, u161, u162, u163, u164, u165, u166, u167, u168, u169, u170, u171, u172, u173, u174, u175, u176, u177, u178, u179, u180, u181, u182, u183, u184, u185, u186, u187, u188, u189, u190, u191, u192, u193, u194, u195, u196, u197, u198, u199, u200, u201, u202, u203, u204, u205, u206, u207, u208, u209, u210, u211, u212, u213, u214, u215, u216, u217, u218, u219, u220, u221, u222, u223, u224, u225, u226, u227, u228, u229, u230, u231, u232], []⟩ z := by
  have h : Code.wp Try.prog (Code.seq (headC 4 Try.f22) (Code.seq (headC 5 Try.f22) (Code.seq (headC 6 Try.f22) (tickTail 7 Try.f22)))) Q ⟨#[.pointer (some ⟨K, 0, none⟩), u1, u2, .pointer (some ⟨Tb, 0, none⟩), u4, u5, u6, u7, u8, u9, u10, u11, u12, u13, u14, u15, u16, u17, u18, u19, u20, u21, u22, u23, u24, u25, u26, u27, u28, u29, u30, u31, u32, u33, u34, u35, u36, u37, u38, u39, u40, u41, u42, u43, u44, u45, u46, u47, u48, u49, u50, u51, u52, u53, u54, u55, u56, u57, u58, u59, u60, u61, u62, u63, u64, u65, u66, u67, u68, u69, u70, u71, u72, u73, u74, u75, u76, u77, u78, u79, u80, u81, u82, u83, u84, u85, u86, u87, u88, u89, u90, u91, u92, u93, u94, u95, u96, u97, u98, u99, u100, u101, u102, u103, u104, u105, u106, u107, u108, u109, u110, u111, u112, u113, u114, u115, u116, u117, u118, u119, u120, u121, u122, u123, u124, u125, u126, u127, u128, u129, u130, u131, u132, u133, u134, u135, u136, u137, u138, u139, u140, u141, u142, u143, u144, u145, u146, u147, u148, u149, u150, u151, u152, u153, u154, u155, u156, u157, u158, u159, u160, u161, u162, u163, u164, u165, u166, u167, u168, u169, u170, u171, u172, u173, u174, u175, u176, u177, u178, u179, u180, u181, u182, u183, u184, u185, u186, u187, u188, u189, u190, u191, u192, u193, u194, u195, u196, u197, u198, u199, u200, u201, u202, u203, u204, u205, u206, u207, u208, u209, u210, u211, u212, u213, u214, u215, u216, u217, u218, u219, u220, u221, u222, u223, u224, u225, u226, u227, u228, u229, u230, u231, u232], []⟩ z := by
    refine wp_seq_k fun K1 hK1 => ?_
    have HK1 := hide' hK1
    have HR := hide' hR
    have HQ := hide' hQ
    have HI := hide' hI
    have HA := hide' hA
    clear hK1 hR hQ hI hA
    obtain ⟨pv, dv, uv, ov, av, cv, hW⟩ := HA.out.wat
    obtain ⟨pa, pc, hpe⟩ := own_slice hW.pts
    rw [HI.out.l4] at hpe
    subst hpe
    have HW := hide' hW
    clear hW
    obtain ⟨⟨tl, ta, tp, tw, tf, tq⟩, hS⟩ : ∃ S, S = Ytjhmendiefojoam.tickS V.s := ⟨_, rfl⟩
    have HTS := hide' hS
    have HC : Hid (∀ q, Below z.heap.size z q → Calls Try.prog 8 #[.agg #[.slice pa 4 pc, .int .i64 V.s.last, .int .i64 V.s.armed, .int .i64 V.s.point, .bool V.s.want, .int .i64 V.s.left, .int .i64 V.s.pat]] q (fun e q' => ∃ a1 c1, e = .returned (.tuple #[.agg #[.slice a1 4 c1, .int .i64 tl, .int .i64 ta, .int .i64 tp, .bool tw, .int .i64 tf, .int .i64 tq], .int .i64 0]) ∧ q'.ownsRow 0 4 1 (.slice a1 4 c1) 4 (V.l.map Value.bool) ∧ Below q.heap.size q q')) := fun q hq => by
      have hp := own_below HW.out.pts hq (Nat.le_refl _)
      rw [HI.out.l4] at hp
      refine (Tick_own V.s V.l 4 pc pa q (rowAt_of_own hp) (by decide)).mono ?_
      intro e q' h0
      rw [if_pos HI.out.sm] at h0
      unfold StaP at h0
      rw [← hS, HI.out.l4] at h0
      exact h0
    clear hS
    have HSz0 : Hid (z.heap[K]? = some (.cells #[.int .i64 V.m.no, .int .i64 V.m.ph, .int .i64 V.m.now, .int .i64 V.m.pt, .bool V.m.want, .int .i64 V.m.timer, .int .i64 V.m.pat, .int .i64 V.m.tries, .int .i64 V.m.lim, .bool V.m.gave, .slice pa 4 pc, .int .i64 V.s.last, .int .i64 V.s.armed, .int .i64 V.s.point, .bool V.s.want, .int .i64 V.s.left, .int .i64 V.s.pat, dv, uv, ov, av, cv] 52 (0, 0))) := HW.out.cell
    obtain ⟨-, -, -, -, -, -, -, -, -, -, k10, k11, k12, k13, k14, k15, k16⟩ := cellsP17 HSz0.out
    conv => arg 2; whnf
    go_wp2_with fail
    refine (HC.out z (Below.refl _ z)).mono ?_
    rintro e z6 ⟨a1, c1, rfl, hrb, hb6⟩
    have HW6 := hide' (HW.out.below hb6)
    have HA6 := hide' (HA.out.below hb6)
    clear HW HA HC HSz0 hb6 k10 k11 k12 k13 k14 k15 k16
    have hba := below_al z6 (.cells #[.slice a1 4 c1, .int .i64 tl, .int .i64 ta, .int .i64 tp, .bool tw, .int .i64 tf, .int .i64 tq] 24)
    have HFN : Hid ((z6.alloc (.cells #[.slice a1 4 c1, .int .i64 tl, .int .i64 ta, .int .i64 tp, .bool tw, .int .i64 tf, .int .i64 tq] 24)).heap[z6.heap.size]? = some (.cells #[.slice a1 4 c1, .int .i64 tl, .int .i64 ta, .int .i64 tp, .bool tw, .int .i64 tf, .int .i64 tq] 24 (0, 0)) ∧ (z6.alloc (.cells #[.slice a1 4 c1, .int .i64 tl, .int .i64 ta, .int .i64 tp, .bool tw, .int .i64 tf, .int .i64 tq] 24)).ownsRow 0 4 1 (.slice a1 4 c1) 4 (V.l.map Value.bool) ∧ WAt (z6.alloc (.cells #[.slice a1 4 c1, .int .i64 tl, .int .i64 ta, .int .i64 tp, .bool tw, .int .i64 tf, .int .i64 tq] 24)) B K V (.slice pa 4 pc) dv uv ov av cv ∧ TkAt w (z6.alloc (.cells #[.slice a1 4 c1, .int .i64 tl, .int .i64 ta, .int .i64 tp, .bool tw, .int .i64 tf, .int .i64 tq] 24)) B K Tb t V) := ⟨alloc_new z6 (.cells #[.slice a1 4 c1, .int .i64 tl, .int .i64 ta, .int .i64 tp, .bool tw, .int .i64 tf, .int .i64 tq] 24), own_below hrb hba (Nat.le_refl _), HW6.out.below hba, HA6.out.below hba⟩
    clear hba hrb HW6 HA6
    go_wp2_with fail
    refine HK1.out _ _ ?_
    clear HK1
    refine code_letter (fun q => Hid (q.heap[z6.heap.size]? = some (.cells #[.slice a1 4 c1, .int .i64 tl, .int .i64 ta, .int .i64 tp, .bool tw, .int .i64 tf, .int .i64 tq] 24 (0, 0)) ∧ q.ownsRow 0 4 1 (.slice a1 4 c1) 4 (V.l.map Value.bool) ∧ WAt q B K V (.slice pa 4 pc) dv uv ov av cv ∧ TkAt w q B K Tb t V)) HFN.out ?_
    clear HFN
    intro z7 H7
    obtain ⟨E, hE⟩ : ∃ q, q = z6.heap.size := ⟨_, rfl⟩
    rw [← hE] at H7 ⊢
    clear hE
    refine wp_seq_k fun K2 hK2 => ?_
    have HK2 := hide' hK2
    clear hK2
    conv => arg 2; whnf
    go_wp2_with fail
    refine HK2.out _ _ ?_
    clear HK2
    refine wp_seq_k fun K3 hK3 => ?_
    have HK3 := hide' hK3
    clear hK3
    have HC7 : Hid (z7.heap[K]? = some (.cells #[.int .i64 V.m.no, .int .i64 V.m.ph, .int .i64 V.m.now, .int .i64 V.m.pt, .bool V.m.want, .int .i64 V.m.timer, .int .i64 V.m.pat, .int .i64 V.m.tries, .int .i64 V.m.lim, .bool V.m.gave, .slice pa 4 pc, .int .i64 V.s.last, .int .i64 V.s.armed, .int .i64 V.s.point, .bool V.s.want, .int .i64 V.s.left, .int .i64 V.s.pat, dv, uv, ov, av, cv] 52 (0, 0))) := H7.out.2.2.1.cell
    obtain ⟨b0, b1, b2, b3, b4, b5, b6⟩ := cellsP7 H7.out.1
    obtain ⟨-, -, -, -, -, -, -, -, -, -, k10, k11, k12, k13, k14, k15, k16⟩ := cellsP17 HC7.out
    obtain ⟨-, -, -, -, -, -, -, -, -, -, e10, e11, e12, e13, e14, e15, e16⟩ := frozenP17 HC7.out
    have HPS := hide' (putS HC7.out (.slice a1 4 c1) (.int .i64 tl) (.int .i64 ta) (.int .i64 tp) (.bool tw) (.int .i64 tf) (.int .i64 tq))
    have HTT := hide' (H7.out.2.2.1.turn HPS.out.2 (m := V.m) (l := V.l) (s := ⟨tl, ta, tp, tw, tf, tq⟩) (pv' := .slice a1 4 c1) HPS.out.1 (by rw [HI.out.l4]; exact own_keep H7.out.2.1 (but_keep HPS.out.2 HC7.out) (by decide)))
    have HF : Hid (TkAt w (((((((z7.setCell ⟨K, 10, none⟩ (.slice a1 4 c1)).setCell ⟨K, 11, none⟩ (.int .i64 tl)).setCell ⟨K, 12, none⟩ (.int .i64 ta)).setCell ⟨K, 13, none⟩ (.int .i64 tp)).setCell ⟨K, 14, none⟩ (.bool tw)).setCell ⟨K, 15, none⟩ (.int .i64 tf)).setCell ⟨K, 16, none⟩ (.int .i64 tq)) B K Tb t V.tickS) := by
      have h0 : V.tickS = ⟨V.m, V.l, ⟨tl, ta, tp, tw, tf, tq⟩, V.down, V.up, V.old, V.asked, V.acted⟩ := by
        unfold Wl.tickS
        rw [← HTS.out]
      show TkAt w _ B K Tb _ _
      rw [h0]
      exact H7.out.2.2.2.next ⟨_, _, _, _, _, _, HTT.out.1⟩ HTT.out.2
    clear HTT HPS HC7 H7
    conv => arg 2; whnf
    go_wp2_with fail
    exact HK3.out _ _ (tail7 w V.tickS HI.out.tickS hmi bb1 bb2 _ _ _ _ _ _ _ _ _ _ _ _ _ _ _ _ _ _ _ _ _ _ _ _ _ _ _ _ _ _ _ _ _ _ _ _ _ _ _ _ _ _ _ _ _ _ _ _ _ _ _ _ _ _ _ _ _ _ _ _ _ _ _ _ _ _ _ _ _ _ _ _ _ _ _ _ _ _ _ _ _ _ _ _ _ _ _ _ _ _ _ _ _ _ _ _ _ _ _ _ _ _ _ _ _ _ _ _ _ _ _ _ _ _ _ _ _ _ _ _ _ _ _ _ _ _ _ _ _ _ _ _ _ _ _ _ _ _ _ _ _ _ _ _ _ _ _ _ _ _ _ _ _ _ _ _ _ _ _ _ _ _ _ _ _ _ _ _ _ _ _ _ _ _ _ _ _ _ _ _ _ _ _ _ _ _ _ _ _ _ _ _ _ _ _ _ _ _ _ _ _ _ _ _ _ _ _ _ _ _ _ _ _ _ _ _ _ _ _ _ _ _ _ _ _ _ _ _ _ _ _ _ HF.out Q HQ.out (fun g12 g13 g14 g15 g16 g17 g18 g19 g170 g171 g172 g173 g174 g175 g176 g177 g178 g179 g180 g181 g182 g183 g184 g185 g186 g187 g188 g189 g190 g191 g192 g193 g194 g195 g196 g197 g198 g199 g200 g201 g202 g203 g204 g205 g206 g207 g208 g209 g210 g211 g212 g213 g214 g215 g216 g217 g218 g219 g220 g221 g222 g223 g224 g225 g226 g227 g228 g229 g230 g231 g232 z'' h => HR.out _ _ _ _ _ _ _ _ _ _ _ _ _ _ _ _ _ _ _ _ _ _ _ _ _ _ _ _ _ _ _ _ _ _ _ _ _ _ _ _ _ _ _ _ _ _ _ _ _ _ _ _ _ _ _ _ _ _ _ _ _ _ _ _ _ _ _ _ _ _ _ _ _ _ _ _ _ _ _ _ _ _ _ _ _ _ z'' h))
  exact h
end Go.Proofs.Ytjhmendiefojoam
