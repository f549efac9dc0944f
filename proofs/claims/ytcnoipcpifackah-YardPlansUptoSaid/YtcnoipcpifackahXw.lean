/- The document's search: the first distances. -/
import Derived.Test.YtcnoipcpifackahXv
namespace Go.Proofs.Ytcnoipcpifackah
open Go.RowKit Go.Shelf

set_option maxRecDepth 100000 in
set_option maxHeartbeats 4000000 in
theorem plannedC (y : YardM) (hm : MayY y) (hs : soundB y = true) (goal : List Bool) (n al en : Nat) (hn : n = y.devs.length) (hl : goal.length = n) (hal : al = 2 ^ n) (hen : en = codeB goal) (w : World) (ga af ad as' : Option Addr) (gc cf cd cs A : Nat) (lb lc : Nat) (w4 : World) (hA : w4.heap[A]? = some (.cells #[.int .i64 y.points, .slice af y.fed.length cf, .slice ad y.drawn.length cd, .slice as' n cs] 25 (0, 0))) (hy : YardAt w4 af ad as' cf cd cs y) (hea : en < al) (hL : LeadsC w4 lb n al y) (hb : Below w.heap.size w w4) (x3 x4 x5 x8 x10 x11 x12 x13 x14 x15 x16 x17 x18 x19 x20 x21 x22 x23 x24 x25 x26 x27 x28 x29 x30 x31 x32 x33 x34 x35 x36 x37 x38 x39 x40 x41 x42 x43 x44 x45 x46 x47 x48 x49 x50 x51 x52 x53 x54 x55 x56 x57 x58 x59 x60 x61 x62 x63 x64 x65 x66 x67 x68 x69 x70 x71 x72 x73 x74 x75 x76 x77 x78 x79 x80 x81 x82 x83 x84 x85 x86 x87 x88 x89 x90 x91 x92 x93 x94 x95 x96 x97 x98 x99 x100 x101 x102 x103 x104 x105 x106 x107 x108 x109 x110 x111 x112 x113 x114 x115 x116 x117 x118 x119 x120 x121 x122 x123 x124 x125 x126 x127 x128 x129 x130 x131 x132 x133 x134 x135 x136 x137 x138 x139 x140 x141 x142 x143 x144 x145 x146 x147 x148 x149 x150 x151 x152 x153 x154 x155 x156 x157 x158 x159 x160 x161 x162 x163 x164 x165 x166 x167 x168 x169 x170 x171 x172 x173 x174 x175 x176 x177 x178 x179 x180 x181 x182 x183 x184 x185 x186 x187 x188 x189 x190 x191 x192 x193 x194 x195 x196 x197 x198 x199 x200 x201 x202 x203 x204 x205 x206 x207 x208 x209 x210 x211 x212 x213 x214 x215 x216 : Value) : Code.wp Try.prog (dropC 8 (Try.f13.body.getD .skip)) (bodyPost Try.prog Try.f13 (PlanAns y goal w)) ⟨#[.agg #[.int .i64 y.points, .slice af y.fed.length cf, .slice ad y.drawn.length cd, .slice as' n cs], .slice ga n gc, .pointer (some ⟨A, 0, none⟩), x3, x4, x5, .int .i64 (en : Int), .int .i64 (al : Int), x8, .slice (some ⟨lb, 0, none⟩) al lc, x10, x11, x12, x13, x14, x15, x16, x17, x18, x19, x20, x21, x22, x23, x24, x25, x26, x27, x28, x29, x30, x31, x32, x33, x34, x35, x36, x37, x38, x39, x40, x41, x42, x43, x44, x45, x46, x47, x48, x49, x50, x51, x52, x53, x54, x55, x56, x57, x58, x59, x60, x61, x62, x63, x64, x65, x66, x67, x68, x69, x70, x71, x72, x73, x74, x75, x76, x77, x78, x79, x80, x81, x82, x83, x84, x85, x86, x87, x88, x89, x90, x91, x92, x93, x94, x95, x96, x97, x98, x99, x100, x101, x102, x103, x104, x105, x106, x107, x108, x109, x110, x111, x112, x113, x114, x115, x116, x117, x118, x119, x120, x121, x122, x123, x124, x125, x126, x127, x128, x129, x130, x131, x132, x133, x134, x135, x136, x137, x138, x139, x140, x141, x142, x143, x144, x145, x146, x147, x148, x149, x150, x151, x152, x153, x154, x155, x156, x157, x158, x159, x160, x161, x162, x163, x164, x165, x166, x167, x168, x169, x170, x171, x172, x173, x174, x175, x176, x177, x178, x179, x180, x181, x182, x183, x184, x185, x186, x187, x188, x189, x190, x191, x192, x193, x194, x195, x196, x197, x198, x199, x200, x201, x202, x203, x204, x205, x206, x207, x208, x209, x210, x211, x212, x213, x214, x215, x216], []⟩ w4 := by
  obtain ⟨i3, hi3, h30, h31, h32⟩ := info_parts info3W
  have hd10 := hm.d
  rw [← hn] at hd10
  have hal2 : al ≤ 1024 := by rw [hal]; exact Nat.le_trans (Nat.pow_le_pow_right (by decide) hd10) (by decide)
  have HD := hide' (fun F hF => plannedD y hm hs goal n al en hn hl hal hen w ga af ad as' gc cf cd cs A lb lc F w4 hA hy hea hF hL hb)
  clear hm hs hn hl hal hen hb hy hA hL
  conv => arg 2; whnf
  refine wp_seq_k fun K0 hK0 => ?_
  have HK0 := hide' hK0
  clear hK0
  go_wp2_with (at_make; refine wpList_make_full _ rfl _ _ 22 rfl w4.heap.size 3 i3 (.int .i64 0) 1 Try.underlying22 hi3 h30 h31 .i64 .i64 _ _ al rfl rfl rfl rfl (by rw [h32]; omega) (by unfold maxLen; omega) (Nat.le_refl _) ?_; intro w2 hown hgr; refine Still.go ?_)
  unfold Still
  have hb2 : Below w4.heap.size w4 w2 := (Below.refl _ w4).grown hgr (Nat.le_refl _) (fun k e => by cases e)
  have HI : Hid (IntsF w2 w4.heap.size al (fun _ => 0) ∧ Below w4.heap.size w4 w2) := ⟨IntsF.of_own hown, hb2⟩
  obtain ⟨F, hF⟩ : ∃ x, x = w4.heap.size := ⟨_, rfl⟩
  have HFB : Hid (w4.heap.size ≤ F) := Nat.le_of_eq hF.symm
  rw [← hF] at ⊢
  have HI2 : Hid (IntsF w2 F al (fun _ => 0) ∧ Below w4.heap.size w4 w2) := by rw [hF]; exact HI.out
  clear hown hgr hb2 hF HI
  go_wp2_with fail
  refine HK0.out _ _ ?_
  clear HK0 K0
  refine wp_seq_k fun K1 hK1 => ?_
  have HK1 := hide' hK1
  clear hK1
  go_wp2_with fail
  go_loopw [18] (fun cv wr => ∃ (c : Nat), cv = .int .i64 c ∧ c ≤ al ∧ Hid (IntsF wr F al (fun x => if x < c then (al : Int) else 0) ∧ Below w4.heap.size w4 wr)) (fun cv _ => al - (intOf cv).toNat)
  case atStart => exact ⟨0, rfl, Nat.zero_le _, HI2.out⟩
  case round =>
    clear HI2
    obtain ⟨c, rfl, hc, HI⟩ := hrel
    by_cases hcl : c < al
    · obtain ⟨c1, f1⟩ := HI.out.1.cell hcl
      have HN : Hid (IntsF (wr.setCell ⟨F, c, none⟩ (.int .i64 (al : Int))) F al (fun x => if x < c + 1 then (al : Int) else 0) ∧ Below w4.heap.size w4 (wr.setCell ⟨F, c, none⟩ (.int .i64 (al : Int)))) := by
        refine ⟨(HI.out.1.set hcl (al : Int)).congr (fun x _ => ?_), HI.out.2.setCell (p := ⟨F, c, none⟩) HFB.out _⟩
        by_cases e : x = c
        · rw [if_pos e, if_pos (by omega)]
        · rw [if_neg e]
          by_cases e2 : x < c
          · rw [if_pos e2, if_pos (by omega)]
          · rw [if_neg e2, if_neg (by omega)]
      clear HI
      go_wp2_with fail
      go_roundw
      case rel => exact ⟨c + 1, by go_num, by omega, HN.out⟩
      case measure => simp only [intOf]; omega
    · have hce : c = al := by omega
      have HI3 : Hid (IntsF wr F al (fun _ => (al : Int)) ∧ Below w4.heap.size w4 wr) := ⟨HI.out.1.congr (fun x hx => if_pos (by omega)), HI.out.2⟩
      clear HI
      obtain ⟨c1, f1⟩ := HI3.out.1.cell hea
      go_wp2_with fail
      refine HK1.out _ _ ?_
      clear HK1
      refine wp_seq_k fun K2 hK2 => ?_
      have HK2 := hide' hK2
      clear hK2
      go_wp2_with fail
      refine HK2.out _ _ ?_
      refine HD.out F HFB.out _ (fun c => if c = en then 0 else al) (Rlx.start _ (fun _ => rfl)) ((HI3.out.1.set hea 0).congr (fun x _ => by split <;> rfl)) (HI3.out.2.setCell (p := ⟨F, en, none⟩) HFB.out _) _ _ _ _ _ _ _ _ _ _ _ _ _ _ _ _ _ _ _ _ _ _ _ _ _ _ _ _ _ _ _ _ _ _ _ _ _ _ _ _ _ _ _ _ _ _ _ _ _ _ _ _ _ _ _ _ _ _ _ _ _ _ _ _ _ _ _ _ _ _ _ _ _ _ _ _ _ _ _ _ _ _ _ _ _ _ _ _ _ _ _ _ _ _ _ _ _ _ _ _ _ _ _ _ _ _ _ _ _ _ _ _ _ _ _ _ _ _ _ _ _ _ _ _ _ _ _ _ _ _ _ _ _ _ _ _ _ _ _ _ _ _ _ _ _ _ _ _ _ _ _ _ _ _ _ _ _ _ _ _ _ _ _ _ _ _ _ _ _ _ _ _ _ _ _ _ _ _ _ _ _ _ _ _ _ _ _ _ _ _ _ _ _ _ _ _ _ _ _ _ _ _ _ _ _ _ _ _ _ _
end Go.Proofs.Ytcnoipcpifackah
