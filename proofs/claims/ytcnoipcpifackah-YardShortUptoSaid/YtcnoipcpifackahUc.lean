/- A plan is short: no other row of moves is shorter. -/
import Derived.Test.YtcnoipcpifackahUb
namespace Go.Proofs.Ytcnoipcpifackah
open Go.RowKit Go.Shelf

set_option maxRecDepth 100000 in
set_option maxHeartbeats 4000000 in
theorem shortE (w w1 : World) (n lf ls Fb : Nat) (y0 : YardM) (ff fd fs : Option Addr) (fF fD fS : Nat) (ga : Option Addr) (gc : Nat) (goal : List Bool) (p : List Nat) (hgl : goal.length = ls) (hp : runK (leadF y0) y0.code p = some (codeB goal)) (_hpl : p.length ≤ 2000000) (hF : LP w w1 Fb n lf ls y0 ff fd fs fF fD fS) (hg : w1.ownsRow w.heap.size 4 1 (.slice ga ls gc) ls (goal.map Value.bool)) (x0 x1 x2 x3 x4 x5 x6 x7 x9 x11 x12 x13 x15 x16 x17 x18 x19 x20 x21 x22 x23 x24 x25 x26 x27 x28 x29 x30 x31 x32 x33 x34 x35 x36 x37 x38 x39 x40 x41 x42 x43 x44 x45 x46 x47 x48 x49 x50 x51 x52 x53 x54 x55 x56 x57 x58 x59 x60 x61 x62 x63 x64 x65 x66 x67 x68 x69 x70 x71 x72 x73 x74 x75 x76 x77 x78 x79 x80 x81 x82 x83 x84 x85 x86 x87 x88 x89 x90 x91 x92 x93 x94 x95 x96 x97 x98 x99 x100 x101 x102 x103 x104 x105 x106 x107 x108 x109 x110 x111 x112 x113 x114 x115 x116 x117 x118 x119 x120 x121 x122 x123 x124 x125 x126 x127 x128 x129 x130 x131 x132 x133 x134 x135 x136 x137 x138 x139 x140 x141 x142 x143 x144 x145 x146 x147 x148 x149 x150 x151 x152 x153 x154 x155 x156 x157 x158 x159 x160 x161 x162 x163 x164 x165 x166 x167 x168 x169 x170 x171 x172 x173 x174 x175 x176 x177 x178 x179 x180 : Value) : Code.wp Try.prog (dropC 10 (Try.f6.body.getD .skip)) (bodyPost Try.prog Try.f6 (fun e w' => e = .returned (.bool true) ∧ Below w.heap.size w w')) ⟨#[x0, x1, x2, x3, x4, x5, x6, x7, .pointer (some ⟨Fb, 0, none⟩), x9, .int .i64 (p.length : Int), x11, x12, x13, .slice ga ls gc, x15, x16, x17, x18, x19, x20, x21, x22, x23, x24, x25, x26, x27, x28, x29, x30, x31, x32, x33, x34, x35, x36, x37, x38, x39, x40, x41, x42, x43, x44, x45, x46, x47, x48, x49, x50, x51, x52, x53, x54, x55, x56, x57, x58, x59, x60, x61, x62, x63, x64, x65, x66, x67, x68, x69, x70, x71, x72, x73, x74, x75, x76, x77, x78, x79, x80, x81, x82, x83, x84, x85, x86, x87, x88, x89, x90, x91, x92, x93, x94, x95, x96, x97, x98, x99, x100, x101, x102, x103, x104, x105, x106, x107, x108, x109, x110, x111, x112, x113, x114, x115, x116, x117, x118, x119, x120, x121, x122, x123, x124, x125, x126, x127, x128, x129, x130, x131, x132, x133, x134, x135, x136, x137, x138, x139, x140, x141, x142, x143, x144, x145, x146, x147, x148, x149, x150, x151, x152, x153, x154, x155, x156, x157, x158, x159, x160, x161, x162, x163, x164, x165, x166, x167, x168, x169, x170, x171, x172, x173, x174, x175, x176, x177, x178, x179, x180], []⟩ w1 := by
  have hls10 : ls ≤ 10 := by have := hF.yl.may.d; have := hF.yl.es; omega
  have HPC : Hid (Calls Try.prog 11 #[.agg #[.int .i64 (n : Int), .slice ff lf fF, .slice fd 1 fD, .slice fs ls fS], .slice ga ls gc] w1 (PlanAns y0 goal w1)) := by
    have h1 := rising_small hF.yl.may.f (by have := hF.yl.may.p; omega)
    have h2 := hF.yl.may.d
    have h3 := Plan_any y0 goal (.slice ga ls gc) ff fd fs fF fD fS w1 hF.lies (by omega) (by rw [hF.yl.ed]; decide) (by omega) (by rw [hgl]; exact rowAt_of_own hg) (by omega)
    rw [hF.yl.en, hF.yl.ef, hF.yl.ed, hF.yl.es] at h3
    exact h3
  have HOK : Hid ((mayYB y0 && soundB y0) = true ∧ goal.length = y0.devs.length) := ⟨by rw [mayYB_iff.2 hF.yl.may, hF.yl.snd]; rfl, by rw [hgl, hF.yl.es]⟩
  have HF := hide' hF
  have HG := hide' hg
  have HP := hide' hp
  have HGL := hide' hgl
  have f0 : w1.cell? ⟨Fb, 0, none⟩ = some (.int .i64 (n : Int)) := (cells_at hF.hA 0).trans rfl
  have f1 : w1.cell? ⟨Fb, 1, none⟩ = some (.slice ff lf fF) := (cells_at hF.hA 1).trans rfl
  have f2 : w1.cell? ⟨Fb, 2, none⟩ = some (.slice fd 1 fD) := (cells_at hF.hA 2).trans rfl
  have f3 : w1.cell? ⟨Fb, 3, none⟩ = some (.slice fs ls fS) := (cells_at hF.hA 3).trans rfl
  clear hF hg hp hgl
  conv => arg 2; whnf
  refine wp_seq_k fun K0 hK0 => ?_
  have HK0 := hide' hK0
  clear hK0
  go_wp2_with fail
  refine HPC.out.mono ?_
  clear HPC
  intro e w2 hpa
  rcases hpa with ⟨h1, _⟩ | ⟨_, h1, _⟩ | ⟨_, _, ⟨q, v, hq, rfl, hv⟩ | ⟨hq, _⟩, hb2⟩
  · rw [HOK.out.1] at h1; cases h1
  · exact absurd HOK.out.2 h1
  · obtain ⟨la, lc, rfl⟩ := own_slice hv
    have hlen : q.length ≤ p.length := by
      rcases hq.2 p HP.out with h | ⟨h, _⟩ <;> omega
    have HQ := hide' hq.1
    have HS2 : Hid (SH w w2 Fb n lf ls y0 ff fd fs fF fD fS (.slice ga ls gc) goal (.slice la q.length lc) q) := ⟨HF.out.more hb2, own_below HG.out hb2 (Nat.le_refl _), own_mono hv HF.out.bel.size⟩
    clear hq hv hb2 HF HG HP f0 f1 f2 f3 HOK
    go_wp2_with fail
    refine HK0.out _ _ ?_
    clear HK0
    refine wp_seq_k fun K1 hK1 => ?_
    have HK1 := hide' hK1
    clear hK1
    go_wp2_with fail
    refine HK1.out _ _ ?_
    exact shortF w w2 n lf ls Fb y0 ff fd fs fF fD fS ga la gc lc goal q HGL.out HQ.out HS2.out _ _ _ _ _ _ _ _ _ _ _ _ _ _ _ _ _ _ _ _ _ _ _ _ _ _ _ _ _ _ _ _ _ _ _ _ _ _ _ _ _ _ _ _ _ _ _ _ _ _ _ _ _ _ _ _ _ _ _ _ _ _ _ _ _ _ _ _ _ _ _ _ _ _ _ _ _ _ _ _ _ _ _ _ _ _ _ _ _ _ _ _ _ _ _ _ _ _ _ _ _ _ _ _ _ _ _ _ _ _ _ _ _ _ _ _ _ _ _ _ _ _ _ _ _ _ _ _ _ _ _ _ _ _ _ _ _ _ _ _ _ _ _ _ _ _ _ _ _ _ _ _ _ _ _ _ _ _ _ _ _ _ _ _ _ _ _ _ _ _ _ _ _ _ _ _ _ _
  · exact absurd HP.out (hq p)
set_option maxRecDepth 100000 in
set_option maxHeartbeats 4000000 in
theorem shortD (w w1 : World) (n lf ls Fb A : Nat) (y0 : YardM) (ff fd fs : Option Addr) (fF fD fS : Nat) (bf bd bs : Option Addr) (bF bD bS : Nat) (c : Nat) (p : List Nat) (hp : runK (leadF y0) y0.code p = some c) (hc : c < 2 ^ ls) (hpl : p.length ≤ 2000000) (hF : LP w w1 Fb n lf ls y0 ff fd fs fF fD fS) (hA : LP w w1 A n lf ls (y0.at c) bf bd bs bF bD bS) (x0 x1 x2 x3 x4 x5 x6 x7 x11 x12 x13 x14 x15 x16 x17 x18 x19 x20 x21 x22 x23 x24 x25 x26 x27 x28 x29 x30 x31 x32 x33 x34 x35 x36 x37 x38 x39 x40 x41 x42 x43 x44 x45 x46 x47 x48 x49 x50 x51 x52 x53 x54 x55 x56 x57 x58 x59 x60 x61 x62 x63 x64 x65 x66 x67 x68 x69 x70 x71 x72 x73 x74 x75 x76 x77 x78 x79 x80 x81 x82 x83 x84 x85 x86 x87 x88 x89 x90 x91 x92 x93 x94 x95 x96 x97 x98 x99 x100 x101 x102 x103 x104 x105 x106 x107 x108 x109 x110 x111 x112 x113 x114 x115 x116 x117 x118 x119 x120 x121 x122 x123 x124 x125 x126 x127 x128 x129 x130 x131 x132 x133 x134 x135 x136 x137 x138 x139 x140 x141 x142 x143 x144 x145 x146 x147 x148 x149 x150 x151 x152 x153 x154 x155 x156 x157 x158 x159 x160 x161 x162 x163 x164 x165 x166 x167 x168 x169 x170 x171 x172 x173 x174 x175 x176 x177 x178 x179 x180 : Value) : Code.wp Try.prog (dropC 8 (Try.f6.body.getD .skip)) (bodyPost Try.prog Try.f6 (fun e w' => e = .returned (.bool true) ∧ Below w.heap.size w w')) ⟨#[x0, x1, x2, x3, x4, x5, x6, x7, .pointer (some ⟨Fb, 0, none⟩), .pointer (some ⟨A, 0, none⟩), .int .i64 (p.length : Int), x11, x12, x13, x14, x15, x16, x17, x18, x19, x20, x21, x22, x23, x24, x25, x26, x27, x28, x29, x30, x31, x32, x33, x34, x35, x36, x37, x38, x39, x40, x41, x42, x43, x44, x45, x46, x47, x48, x49, x50, x51, x52, x53, x54, x55, x56, x57, x58, x59, x60, x61, x62, x63, x64, x65, x66, x67, x68, x69, x70, x71, x72, x73, x74, x75, x76, x77, x78, x79, x80, x81, x82, x83, x84, x85, x86, x87, x88, x89, x90, x91, x92, x93, x94, x95, x96, x97, x98, x99, x100, x101, x102, x103, x104, x105, x106, x107, x108, x109, x110, x111, x112, x113, x114, x115, x116, x117, x118, x119, x120, x121, x122, x123, x124, x125, x126, x127, x128, x129, x130, x131, x132, x133, x134, x135, x136, x137, x138, x139, x140, x141, x142, x143, x144, x145, x146, x147, x148, x149, x150, x151, x152, x153, x154, x155, x156, x157, x158, x159, x160, x161, x162, x163, x164, x165, x166, x167, x168, x169, x170, x171, x172, x173, x174, x175, x176, x177, x178, x179, x180], []⟩ w1 := by
  obtain ⟨i4, hi4, h40, h41, h42⟩ := info_parts Try.info4
  have hls10 : ls ≤ 10 := by have := hF.yl.may.d; have := hF.yl.es; omega
  obtain ⟨z, hz⟩ : ∃ z, z = y0.at c := ⟨_, rfl⟩
  have HCZ : Hid (codeB (shuts z.devs) = c) := by
    show _ = _
    rw [hz]
    exact code_at y0 (by rw [hF.yl.es]; exact hc)
  rw [← hz] at hA
  have HZL : Hid ((shuts z.devs).length = ls) := by show _ = _; rw [shuts_len, hA.yl.es]
  have HF := hide' hF
  have HA := hide' hA
  have HP := hide' hp
  clear hF hA hp hc hz
  conv => arg 2; whnf
  refine wp_seq_k fun K0 hK0 => ?_
  have HK0 := hide' hK0
  clear hK0
  go_wp2_with fail
  refine HK0.out _ _ ?_
  clear HK0 K0
  refine wp_seq_k fun K1 hK1 => ?_
  have HK1 := hide' hK1
  clear hK1
  go_wp2_with fail
  go_loopw [14, 15] (fun gv kv wr => ∃ (k : Nat), kv = .int .i64 k ∧ k ≤ ls ∧ Hid (wr.ownsRow w1.heap.size 4 1 gv k (((shuts z.devs).take k).map Value.bool) ∧ Below w1.heap.size w1 wr)) (fun _ kv _ => ls - (intOf kv).toNat)
  case atStart => exact ⟨0, rfl, Nat.zero_le _, World.ownsRow_nil _ _ _ _, Below.refl _ w1⟩
  case round =>
    obtain ⟨k, rfl, hk, HW⟩ := hrel
    have hAw := (HW.out.2.block A (lt_heap HA.out.hA)).trans HA.out.hA
    have a3 : wr.cell? ⟨A, 3, none⟩ = some (.slice bs ls bS) := (cells_at hAw 3).trans rfl
    by_cases hkl : k < ls
    · obtain ⟨db, do', hbs, _, d3⟩ := dev_at HA.out.lies HA.out.yl.es hkl
      have e1 := up_cell HW.out.2 d3
      have HTK : Hid ((shuts z.devs).take (k + 1) = (shuts z.devs).take k ++ [(z.dev k).shut]) := by
        show _ = _
        have hkk : k < (shuts z.devs).length := by rw [HZL.out]; exact hkl
        rw [List.take_add_one, List.getElem?_eq_getElem hkk]
        have h1 := shuts_dev z k (by rw [HA.out.yl.es]; exact hkl)
        rw [List.getD_eq_getElem?_getD, List.getElem?_eq_getElem hkk] at h1
        rw [← h1]
        rfl
      obtain ⟨x, hx⟩ : ∃ x, x = (z.dev k).shut := ⟨_, rfl⟩
      rw [← hx] at e1 HTK
      rw [hbs] at a3
      clear d3 hx hAw
      go_wp2_with (at_builtin; refine wpList_append_own _ rfl _ _ 32 rfl w1.heap.size 4 i4 (.bool false) 1 1 Try.underlying32 hi4 h40 h41 h42 rfl (by decide) _ _ _ rfl (own_below HW.out.1 (below_al _ _) (Nat.le_refl _)) ⟨wr.heap.size, 0, none⟩ 1 1 [.bool x] rfl rfl (cell_one_new _ _ _) (one_cell rfl) (by unfold maxLen; omega) (by omega) (Nat.le_trans HW.out.2.size (below_al _ _).size) ?_; intro v' w8 hown' hgrow _; refine Still.go ?_)
      unfold Still
      have HNW : Hid (w8.ownsRow w1.heap.size 4 1 v' (k + 1) (((shuts z.devs).take (k + 1)).map Value.bool) ∧ Below w1.heap.size w1 w8) := ⟨by rw [HTK.out, List.map_append]; exact hown', below_app HW.out.2 HW.out.1 (Nat.le_refl _) HW.out.2.size hgrow⟩
      clear hown' hgrow HW HTK e1 a3
      go_wp2_with fail
      go_roundw
      case rel => exact ⟨k + 1, by go_num, by omega, HNW.out⟩
      case measure => simp only [intOf]; omega
    · have hke : k = ls := by omega
      subst hke
      obtain ⟨ga, gc, hgv⟩ := own_slice HW.out.1
      subst hgv
      clear hAw
      go_wp2_with fail
      refine HK1.out _ _ ?_
      exact shortE w wr n lf k Fb y0 ff fd fs fF fD fS ga gc (shuts z.devs) p HZL.out (by rw [HCZ.out]; exact HP.out) hpl (HF.out.more HW.out.2) (by have h1 := HW.out.1; rw [List.take_of_length_le (by rw [HZL.out]; exact Nat.le_refl _)] at h1; exact own_mono h1 HF.out.bel.size) _ _ _ _ _ _ _ _ _ _ _ _ _ _ _ _ _ _ _ _ _ _ _ _ _ _ _ _ _ _ _ _ _ _ _ _ _ _ _ _ _ _ _ _ _ _ _ _ _ _ _ _ _ _ _ _ _ _ _ _ _ _ _ _ _ _ _ _ _ _ _ _ _ _ _ _ _ _ _ _ _ _ _ _ _ _ _ _ _ _ _ _ _ _ _ _ _ _ _ _ _ _ _ _ _ _ _ _ _ _ _ _ _ _ _ _ _ _ _ _ _ _ _ _ _ _ _ _ _ _ _ _ _ _ _ _ _ _ _ _ _ _ _ _ _ _ _ _ _ _ _ _ _ _ _ _ _ _ _ _ _ _ _ _ _ _ _ _ _ _ _ _ _ _ _ _ _ _
end Go.Proofs.Ytcnoipcpifackah
