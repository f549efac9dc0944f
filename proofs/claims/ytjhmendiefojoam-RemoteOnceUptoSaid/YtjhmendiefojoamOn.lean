/- The end of a tick: the master waits. -/
import Derived.Test.YtjhmendiefojoamYc
import Derived.Test.YtjhmendiefojoamOm
namespace Go.Proofs.Ytjhmendiefojoam
open Go.RowKit Go.Shelf

def dropC : Nat → Code → Code
  | 0, c => c
  | n + 1, .seq _ b => dropC n b
  | _ + 1, c => c
def tickTail (n : Nat) (f : Func) : Code := dropC n (f.body.getD .skip)
set_option maxRecDepth 1000000 in
set_option maxHeartbeats 8000000 in
theorem tail8 (w : World) {B K Tb : Nat} {t : TuM} (V : Wl) {pat lim P : Int} {T : Nat} (hI : Inv pat lim P T V) (hdb : V.down.length ≤ 1000000) (hob : V.old.length ≤ 1000000) (u1 u2 u4 u5 u6 u7 u8 u9 u10 u11 u12 u13 u14 u15 u16 u17 u18 u19 u20 u21 u22 u23 u24 u25 u26 u27 u28 u29 u30 u31 u32 u33 u34 u35 u36 u37 u38 u39 u40 u41 u42 u43 u44 u45 u46 u47 u48 u49 u50 u51 u52 u53 u54 u55 u56 u57 u58 u59 u60 u61 u62 u63 u64 u65 u66 u67 u68 u69 u70 u71 u72 u73 u74 u75 u76 u77 u78 u79 u80 u81 u82 u83 u84 u85 u86 u87 u88 u89 u90 u91 u92 u93 u94 u95 u96 u97 u98 u99 u100 u101 u102 u103 u104 u105 u106 u107 u108 u109 u110 u111 u112 u113 u114 u115 u116 u117 u118 u119 u120 u121 u122 u123 u124 u125 u126 u127 u128 u129 u130 u131 u132 u133 u134 u135 u136 u137 u138 u139 u140 u141 u142 u143 u144 u145 u146 u147 u148 u149 u150 u151 u152 u153 u154 u155 u156 u157 u158 u159 u160 u161 u162 u163 u164 u165 u166 u167 u168 u169 u170 u171 u172 u173 u174 u175 u176 u177 u178 u179 u180 u181 u182 u183 u184 u185 u186 u187 u188 u189 u190 u191 u192 u193 u194 u195 u196 u197 u198 u199 u200 u201 u202 u203 u204 u205 u206 u207 u208 u209 u210 u211 u212 u213 u214 u215 u216 u217 u218 u219 u220 u221 u222 u223 u224 u225 u226 u227 u228 u229 u230 u231 u232 : Value) (z5 : World) (hA : TkAt w z5 B K Tb t V)
    (Q : Exit → Act → World → Prop) (hR : ∀ (g12 g18 g19 g218 g219 g220 g221 g222 g223 g224 g225 g226 g227 g228 g229 g230 g231 g232 : Value) (z' : World), TkAt w z' B K Tb t (V.sent (waitM V.m) (waitL V.m)) → Q .ret ⟨#[.pointer (some ⟨K, 0, none⟩), u1, u2, .pointer (some ⟨Tb, 0, none⟩), .bool true, u5, u6, u7, u8, u9, u10, u11, g12, u13, u14, u15, u16, u17, g18, g19, u20, u21, u22, u23, u24, u25, u26, u27, u28, u29, u30, u31, u32, u33, u34, u35, u36, u37, u38, u39, u40, u41, u42, u43, u44, u45, u46, u47, u48, u49, u50, u51, u52, u53, u54, u55, u56, u57, u58, u59, u60, u61, u62, u63, u64, u65, u66, u67, u68, u69, u70, u71, u72, u73, u74, u75, u76, u77, u78, u79, u80, u81, u82, u83, u84, u85, u86, u87, u88, u89, u90, u91, u92, u93, u94, u95, u96, u97, u98, u99, u100, u101, u102, u103, u104, u105, u106, u107, u108, u109, u110, u111, u112, u113, u114, u115, u116, u117, u118, u119, u120, u121, u122, u123, u124, u125, u126, u127, u128, u129, u130, u131, u132, u133, u134, u135, u136, u137, u138, u139, u140, u141, u142, u143, u144, u145, u146, u147, u148, u149, u150, u151, u152, u153, u154, u155, u156, u157, u158, u159, u160, u161, u162, u163, u164, u165, u166, u167, u168, u169, u170, u171, u172, u173, u174, u175, u176, u177, u178, u179, u180, u181, u182, u183, u184, u185, u186, u187, u188, u189, u190, u191, u192, u193, u194, u195, u196, u197, u198, u199, u200, u201, u202, u203, u204, u205, u206, u207, u208, u209, u210, u211, u212, u213, u214, u215, u216, u217, g218, g219, g220, g221, g222, g223, g224, g225, g226, g227, g228, g229, g230, g231, g232], []⟩ z') :
    Code.wp Try.prog (tickTail 8 Try.f22) Q ⟨#[.pointer (some ⟨K, 0, none⟩), u1, u2, .pointer (some ⟨Tb, 0, none⟩), u4, u5, u6, u7, u8, u9, u10, u11, u12, u13, u14, u15, u16, u17, u18, u19, u20, u21, u22, u23, u24, u25, u26, u27, u28, u29, u30, u31, u32, u33, u34, u35, u36, u37, u38, u39, u40, u41, u42, u43, u44, u45, u46, u47, u48, u49, u50, u51, u52, u53, u54, u55, u56, u57, u58, u59, u60, u61, u62, u63, u64, u65, u66, u67, u68, u69, u70, u71, u72, u73, u74, u75, u76, u77, u78, u79, u80, u81, u82, u83, u84, u85, u86, u87, u88, u89, u90, u91, u92, u93, u94, u95, u96, u97, u98, u99, u100, u101, u102, u103, u104, u105, u106, u107, u108, u109, u110, u111, u112, u113, u114, u115, u116, u117, u118, u119, u120, u121, u122, u123, u124, u125, u126, u127, u128, u129, u130, u131, u132, u133, u134, u135, u136, u137, u138, u139, u140, u141, u142, u143, u144, u145, u146, u147, u148, u149, u150, u151, u152, u153, u154, u155, u156, u157, u158, u159, u160, u161, u162, u163, u164, u165, u166, u167, u168, u169, u170, u171, u172, u173, u174, u175, u176, u177, u178, u179, u180, u181, u182, u183, u184, u185, u186, u187, u188, u189, u190, u191, u192, u193, u194, u195, u196, u197, u198, u199, u200, u201, u202, u203, u204, u205, u206, u207, u208, u209, u210, u211, u212, u213, u214, u215, u216, u217, u218, u219, u220, u221, u222, u223, u224, u225, u226, u227, u228, u229, u230, u231, u232], []⟩ z5 := by
  have HR := hide' hR
  have HI := hide' hI
  have HA := hide' hA
  clear hR hI hA
  conv => arg 2; whnf
  obtain ⟨pv, dv, uv, ov, av, cv, hW⟩ := HA.out.wat
  have HW := hide' hW
  clear hW
  obtain ⟨⟨n0, n1, n2, n3, n4, n5, n6, n7, n8, n9⟩, hM⟩ : ∃ M, M = waitM V.m := ⟨_, rfl⟩
  obtain ⟨os, hos⟩ : ∃ l, l = waitL V.m := ⟨_, rfl⟩
  have HMM : Hid (waitM V.m = ⟨n0, n1, n2, n3, n4, n5, n6, n7, n8, n9⟩ ∧ waitL V.m = os ∧ os.length ≤ 1) := ⟨hM.symm, hos.symm, by rw [hos]; exact wait_one _⟩
  have HC : Hid (∀ q, Calls Try.prog 17 #[.agg #[.int .i64 V.m.no, .int .i64 V.m.ph, .int .i64 V.m.now, .int .i64 V.m.pt, .bool V.m.want, .int .i64 V.m.timer, .int .i64 V.m.pat, .int .i64 V.m.tries, .int .i64 V.m.lim, .bool V.m.gave]] q (fun e q' => ∃ v, e = .returned (.tuple #[.agg #[.int .i64 n0, .int .i64 n1, .int .i64 n2, .int .i64 n3, .bool n4, .int .i64 n5, .int .i64 n6, .int .i64 n7, .int .i64 n8, .bool n9], v, .int .i64 0]) ∧ q'.ownsRow q.heap.size 39 4 v os.length (msgs os) ∧ Below q.heap.size q q')) := fun q => by
    have h0 := Wait_any V.m q HI.out.may
    rw [← hM, ← hos] at h0
    exact h0
  clear hM hos
  have HSz0 : Hid (z5.heap[K]? = some (.cells #[.int .i64 V.m.no, .int .i64 V.m.ph, .int .i64 V.m.now, .int .i64 V.m.pt, .bool V.m.want, .int .i64 V.m.timer, .int .i64 V.m.pat, .int .i64 V.m.tries, .int .i64 V.m.lim, .bool V.m.gave, pv, .int .i64 V.s.last, .int .i64 V.s.armed, .int .i64 V.s.point, .bool V.s.want, .int .i64 V.s.left, .int .i64 V.s.pat, dv, uv, ov, av, cv] 52 (0, 0))) := HW.out.cell
  obtain ⟨k0, k1, k2, k3, k4, k5, k6, k7, k8, k9⟩ := cellsP10 HSz0.out
  go_wp2_with fail
  refine (HC.out z5).mono ?_
  rintro e z6 ⟨v, rfl, hrb, hb6⟩
  obtain ⟨la, lc, hve⟩ := own_slice hrb
  subst hve
  have HW6 := hide' (HW.out.below hb6)
  have HA6 := hide' (HA.out.below hb6)
  have HLV : Hid (Apart (.slice la os.length lc) dv) := apart_late HW.out.dn hrb
  clear HW HA HC HSz0 hb6 k0 k1 k2 k3 k4 k5 k6 k7 k8 k9
  have hba := below_al z6 (.cells #[.int .i64 n0, .int .i64 n1, .int .i64 n2, .int .i64 n3, .bool n4, .int .i64 n5, .int .i64 n6, .int .i64 n7, .int .i64 n8, .bool n9] 32)
  have HFN : Hid ((z6.alloc (.cells #[.int .i64 n0, .int .i64 n1, .int .i64 n2, .int .i64 n3, .bool n4, .int .i64 n5, .int .i64 n6, .int .i64 n7, .int .i64 n8, .bool n9] 32)).heap[z6.heap.size]? = some (.cells #[.int .i64 n0, .int .i64 n1, .int .i64 n2, .int .i64 n3, .bool n4, .int .i64 n5, .int .i64 n6, .int .i64 n7, .int .i64 n8, .bool n9] 32 (0, 0)) ∧ (z6.alloc (.cells #[.int .i64 n0, .int .i64 n1, .int .i64 n2, .int .i64 n3, .bool n4, .int .i64 n5, .int .i64 n6, .int .i64 n7, .int .i64 n8, .bool n9] 32)).ownsRow 0 39 4 (.slice la os.length lc) os.length (msgs os) ∧ WAt (z6.alloc (.cells #[.int .i64 n0, .int .i64 n1, .int .i64 n2, .int .i64 n3, .bool n4, .int .i64 n5, .int .i64 n6, .int .i64 n7, .int .i64 n8, .bool n9] 32)) B K V pv dv uv ov av cv ∧ TkAt w (z6.alloc (.cells #[.int .i64 n0, .int .i64 n1, .int .i64 n2, .int .i64 n3, .bool n4, .int .i64 n5, .int .i64 n6, .int .i64 n7, .int .i64 n8, .bool n9] 32)) B K Tb t V) := ⟨alloc_new z6 (.cells #[.int .i64 n0, .int .i64 n1, .int .i64 n2, .int .i64 n3, .bool n4, .int .i64 n5, .int .i64 n6, .int .i64 n7, .int .i64 n8, .bool n9] 32), own_mono (own_below hrb hba (Nat.le_refl _)) (Nat.zero_le _), HW6.out.below hba, HA6.out.below hba⟩
  clear hba hrb HW6 HA6
  go_upto_region 33 with fail
  refine code_letter (fun q => Hid (q.heap[z6.heap.size]? = some (.cells #[.int .i64 n0, .int .i64 n1, .int .i64 n2, .int .i64 n3, .bool n4, .int .i64 n5, .int .i64 n6, .int .i64 n7, .int .i64 n8, .bool n9] 32 (0, 0)) ∧ q.ownsRow 0 39 4 (.slice la os.length lc) os.length (msgs os) ∧ WAt q B K V pv dv uv ov av cv ∧ TkAt w q B K Tb t V)) HFN.out ?_
  clear HFN
  intro z7 H7
  obtain ⟨E, hE⟩ : ∃ q, q = z6.heap.size := ⟨_, rfl⟩
  rw [← hE] at H7 ⊢
  clear hE
  obtain ⟨b0, b1, b2, b3, b4, b5, b6, b7, b8, b9⟩ := cellsP10 H7.out.1
  go_wp2_with fail
  refine (sent_any V B K pv dv uv ov av cv (.slice la os.length lc) ⟨n0, n1, n2, n3, n4, n5, n6, n7, n8, n9⟩ os z7 H7.out.2.2.1 H7.out.2.1 HLV.out ⟨hdb, hob, HMM.out.2.2⟩).mono ?_
  rintro e z8 ⟨rfl, ⟨dv', ov', q1⟩, q2⟩
  have HF : Hid (TkAt w z8 B K Tb t (V.sent (waitM V.m) (waitL V.m))) := by
    show TkAt w z8 B K Tb _ _
    rw [HMM.out.1, HMM.out.2.1]
    exact H7.out.2.2.2.next ⟨_, _, _, _, _, _, q1⟩ q2
  clear q1 q2 H7 b0 b1 b2 b3 b4 b5 b6 b7 b8 b9
  go_wp2_with fail
  exact HR.out _ _ _ _ _ _ _ _ _ _ _ _ _ _ _ _ _ _ _ HF.out
end Go.Proofs.Ytjhmendiefojoam
