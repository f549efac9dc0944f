/- A plan is short: that the goal is reached. -/
import Derived.Test.YtcnoipcpifackahXs
import Derived.Test.YtcnoipcpifackahZi
import Derived.BigQuiet
namespace Go.Proofs.Ytcnoipcpifackah
open Go.RowKit Go.Shelf

/-- What lies beside a box that is stored into. -/
theorem LP.kept {w zr : World} {A F n lf ls : Nat} {y y0 : YardM} {af ad as' ff fd fs : Option Addr} {cf cd cs gf gd gs : Nat} (hY : LP w zr A n lf ls y af ad as' cf cd cs) (hF : LP w zr F n lf ls y0 ff fd fs gf gd gs) (hne : F ≠ A) (hls : 0 < ls) (v1 v2 v3 : Value) :
    LP w ((((zr.setCell ⟨A, 0, none⟩ (.int .i64 (n : Int))).setCell ⟨A, 1, none⟩ v1).setCell ⟨A, 2, none⟩ v2).setCell ⟨A, 3, none⟩ v3) F n lf ls y0 ff fd fs gf gd gs := by
  have hh : ∀ b, b ≠ A → ((((zr.setCell ⟨A, 0, none⟩ (.int .i64 (n : Int))).setCell ⟨A, 1, none⟩ v1).setCell ⟨A, 2, none⟩ v2).setCell ⟨A, 3, none⟩ v3).heap[b]? = zr.heap[b]? := fun b hb => by
    rw [Below.heap_setCell _ _ _ b hb, Below.heap_setCell _ _ _ b hb, Below.heap_setCell _ _ _ b hb, Below.heap_setCell _ _ _ b hb]
  refine ⟨(hh F hne).trans hF.hA, hF.sA, (((hY.bel.setCell (p := ⟨A, 0, none⟩) hY.sA _).setCell (p := ⟨A, 1, none⟩) hY.sA _).setCell (p := ⟨A, 2, none⟩) hY.sA _).setCell (p := ⟨A, 3, none⟩) hY.sA _, hF.yl, ⟨?_, ?_, ?_⟩⟩
  · exact row_apart hF.lies.f hh (ints_apart hY.hA fun x hx => by have := (hF.yl.may.f.at hx).2; have := hF.yl.en; omega)
  · exact row_apart hF.lies.d hh (ints_apart hY.hA fun x hx => by have := (hF.yl.may.w.at hx).2; have := hF.yl.en; omega)
  · refine row_apart hF.lies.s hh (.inr ⟨0 * 4 + 3, .bool (y0.devs[0]'(by rw [hF.yl.es]; exact hls)).shut, (dev_cell (List.getElem?_eq_getElem _) (by decide)).trans rfl, fun o ho => ?_⟩)
    rcases box_cells hY.hA ho with e | ⟨_, _, _, e⟩
    · cases e
    · cases e
theorem shuts_dev (z : YardM) (k : Nat) (hk : k < z.devs.length) : (shuts z.devs).getD k false = (z.dev k).shut := by
  unfold shuts YardM.dev
  rw [List.getD_eq_getElem?_getD, List.getElem?_map, List.getElem?_eq_getElem hk]
  rfl
set_option maxRecDepth 100000 in
set_option maxHeartbeats 4000000 in
theorem shortG (w w1 : World) (n lf ls T : Nat) (z : YardM) (bf bd bs : Option Addr) (bF bD bS : Nat) (ga : Option Addr) (gc : Nat) (hz : LP w w1 T n lf ls z bf bd bs bF bD bS) (hg : RowAt w1 (.slice ga ls gc) ls 1 ((shuts z.devs).map Value.bool)) (x0 x1 x2 x3 x4 x5 x6 x7 x8 x9 x10 x11 x12 x13 x15 x16 x17 x19 x20 x21 x22 x23 x24 x25 x26 x27 x28 x29 x30 x31 x32 x33 x34 x35 x36 x37 x38 x39 x40 x41 x42 x43 x44 x45 x46 x47 x48 x49 x50 x51 x52 x53 x54 x55 x56 x57 x58 x59 x60 x61 x62 x63 x64 x65 x66 x67 x68 x69 x70 x71 x72 x73 x74 x75 x76 x77 x78 x79 x80 x81 x82 x83 x84 x85 x86 x87 x88 x89 x90 x91 x92 x93 x94 x95 x96 x97 x98 x99 x100 x101 x102 x103 x104 x105 x106 x107 x108 x109 x110 x111 x112 x113 x114 x115 x116 x117 x118 x119 x120 x121 x122 x123 x124 x125 x126 x127 x128 x129 x130 x131 x132 x133 x134 x135 x136 x137 x138 x139 x140 x141 x142 x143 x144 x145 x146 x147 x148 x149 x150 x151 x152 x153 x154 x155 x156 x157 x158 x159 x160 x161 x162 x163 x164 x165 x166 x167 x168 x169 x170 x171 x172 x173 x174 x175 x176 x177 x178 x179 x180 : Value) : Code.wp Try.prog (dropC 14 (Try.f6.body.getD .skip)) (bodyPost Try.prog Try.f6 (fun e w' => e = .returned (.bool true) ∧ Below w.heap.size w w')) ⟨#[x0, x1, x2, x3, x4, x5, x6, x7, x8, x9, x10, x11, x12, x13, .slice ga ls gc, x15, x16, x17, .pointer (some ⟨T, 0, none⟩), x19, x20, x21, x22, x23, x24, x25, x26, x27, x28, x29, x30, x31, x32, x33, x34, x35, x36, x37, x38, x39, x40, x41, x42, x43, x44, x45, x46, x47, x48, x49, x50, x51, x52, x53, x54, x55, x56, x57, x58, x59, x60, x61, x62, x63, x64, x65, x66, x67, x68, x69, x70, x71, x72, x73, x74, x75, x76, x77, x78, x79, x80, x81, x82, x83, x84, x85, x86, x87, x88, x89, x90, x91, x92, x93, x94, x95, x96, x97, x98, x99, x100, x101, x102, x103, x104, x105, x106, x107, x108, x109, x110, x111, x112, x113, x114, x115, x116, x117, x118, x119, x120, x121, x122, x123, x124, x125, x126, x127, x128, x129, x130, x131, x132, x133, x134, x135, x136, x137, x138, x139, x140, x141, x142, x143, x144, x145, x146, x147, x148, x149, x150, x151, x152, x153, x154, x155, x156, x157, x158, x159, x160, x161, x162, x163, x164, x165, x166, x167, x168, x169, x170, x171, x172, x173, x174, x175, x176, x177, x178, x179, x180], []⟩ w1 := by
  have HZ := hide' hz
  have HG := hide' hg
  have hls10 : ls ≤ 10 := by have := hz.yl.may.d; have := hz.yl.es; omega
  clear hz hg
  conv => arg 2; whnf
  go_wp2_with fail
  go_loopw [22] (fun kv wr => ∃ (k : Nat), kv = .int .i64 k ∧ k ≤ ls ∧ Hid (Below w1.heap.size w1 wr)) (fun kv _ => ls - (intOf kv).toNat)
  case atStart => exact ⟨0, rfl, Nat.zero_le _, Below.refl _ w1⟩
  case round =>
    obtain ⟨k, rfl, hk, HB⟩ := hrel
    have hT := (HB.out.block T (lt_heap HZ.out.hA)).trans HZ.out.hA
    have t0 : wr.cell? ⟨T, 0, none⟩ = some (.int .i64 (n : Int)) := (cells_at hT 0).trans rfl
    have t1 : wr.cell? ⟨T, 1, none⟩ = some (.slice bf lf bF) := (cells_at hT 1).trans rfl
    have t2 : wr.cell? ⟨T, 2, none⟩ = some (.slice bd 1 bD) := (cells_at hT 2).trans rfl
    have t3 : wr.cell? ⟨T, 3, none⟩ = some (.slice bs ls bS) := (cells_at hT 3).trans rfl
    by_cases hkl : k < ls
    · obtain ⟨db, do', hbs, _, d3⟩ := dev_at HZ.out.lies HZ.out.yl.es hkl
      obtain ⟨gb, go', gc', ex, g1⟩ := bool_cellX HG.out k hkl
      cases ex
      rw [shuts_dev z k (by rw [HZ.out.yl.es]; exact hkl)] at g1
      have e1 := up_cell HB.out d3
      have e2 := up_cell HB.out g1
      have HBD : Hid (∀ m, Below w1.heap.size w1 (wr.drewN m)) := fun m => below_drewN HB.out m
      obtain ⟨x, hx⟩ : ∃ x, x = (z.dev k).shut := ⟨_, rfl⟩
      rw [← hx] at e1 e2
      rw [hbs] at t3
      clear hT d3 g1 hx HB t0 t1 t2
      go_upto_region 34 with fail
      go_quiet (fail)
      go_wp2_with fail
      go_roundw
      case rel => exact ⟨k + 1, by go_num, by omega, HBD.out _⟩
      case measure => simp only [intOf]; omega
    · have HLO := hide' (Look_good z n lf ls bf bd bs bF bD bS wr HZ.out.yl (HZ.out.lies.below HB.out (Nat.le_refl _)))
      have HBF := hide' (HZ.out.bel.trans (HB.out.mono HZ.out.bel.size))
      clear hT HB
      go_wp2_with fail
      refine HLO.out.mono ?_
      rintro e w2 ⟨L, E, rfl, _, hb2⟩
      have HB2 := hide' (HBF.out.trans (hb2.mono HBF.out.size))
      clear hb2 HLO
      go_wp2_with fail
      go_ret
      exact ⟨rfl, HB2.out⟩
end Go.Proofs.Ytcnoipcpifackah
