/- The document's search: the row of moves. -/
import Derived.Test.YtcnoipcpifackahXt
import Derived.BigQuiet
namespace Go.Proofs.Ytcnoipcpifackah
open Go.RowKit Go.Shelf

set_option maxRecDepth 100000 in
set_option maxHeartbeats 4000000 in
theorem plannedE (y : YardM) (hm : MayY y) (hs : soundB y = true) (goal : List Bool) (n al en : Nat) (hn : n = y.devs.length) (hl : goal.length = n) (hal : al = 2 ^ n) (hen : en = codeB goal) (w : World) (ga af ad as' : Option Addr) (gc cf cd cs A : Nat) (lb lc F : Nat) (D : Nat → Nat) (w5 : World) (hA : w5.heap[A]? = some (.cells #[.int .i64 y.points, .slice af y.fed.length cf, .slice ad y.drawn.length cd, .slice as' n cs] 25 (0, 0))) (hy : YardAt w5 af ad as' cf cd cs y) (hfar : Far (leadF y) en al D) (hF : IntsF w5 F al (fun c => (D c : Int))) (hL : LeadsC w5 lb n al y) (hb : Below w.heap.size w w5) (x3 x4 x5 x8 x10 x11 x12 x13 x14 x15 x16 x18 x19 x20 x21 x22 x23 x24 x25 x26 x27 x28 x29 x30 x31 x32 x33 x34 x35 x36 x37 x38 x39 x40 x41 x42 x43 x44 x45 x46 x47 x48 x49 x50 x51 x52 x53 x54 x55 x56 x57 x58 x59 x60 x61 x62 x63 x64 x65 x66 x67 x68 x69 x70 x71 x72 x73 x74 x75 x76 x77 x78 x79 x80 x81 x82 x83 x84 x85 x86 x87 x88 x89 x90 x91 x92 x93 x94 x95 x96 x97 x98 x99 x100 x101 x102 x103 x104 x105 x106 x107 x108 x109 x110 x111 x112 x113 x114 x115 x116 x117 x118 x119 x120 x121 x122 x123 x124 x125 x126 x127 x128 x129 x130 x131 x132 x133 x134 x135 x136 x137 x138 x139 x140 x141 x142 x143 x144 x145 x146 x147 x148 x149 x150 x151 x152 x153 x154 x155 x156 x157 x158 x159 x160 x161 x162 x163 x164 x165 x166 x167 x168 x169 x170 x171 x172 x173 x174 x175 x176 x177 x178 x179 x180 x181 x182 x183 x184 x185 x186 x187 x188 x189 x190 x191 x192 x193 x194 x195 x196 x197 x198 x199 x200 x201 x202 x203 x204 x205 x206 x207 x208 x209 x210 x211 x212 x213 x214 x215 x216 : Value) : Code.wp Try.prog (dropC 12 (Try.f13.body.getD .skip)) (bodyPost Try.prog Try.f13 (PlanAns y goal w)) ⟨#[.agg #[.int .i64 y.points, .slice af y.fed.length cf, .slice ad y.drawn.length cd, .slice as' n cs], .slice ga n gc, .pointer (some ⟨A, 0, none⟩), x3, x4, x5, .int .i64 (en : Int), .int .i64 (al : Int), x8, .slice (some ⟨lb, 0, none⟩) al lc, x10, x11, x12, x13, x14, x15, x16, .slice (some ⟨F, 0, none⟩) al al, x18, x19, x20, x21, x22, x23, x24, x25, x26, x27, x28, x29, x30, x31, x32, x33, x34, x35, x36, x37, x38, x39, x40, x41, x42, x43, x44, x45, x46, x47, x48, x49, x50, x51, x52, x53, x54, x55, x56, x57, x58, x59, x60, x61, x62, x63, x64, x65, x66, x67, x68, x69, x70, x71, x72, x73, x74, x75, x76, x77, x78, x79, x80, x81, x82, x83, x84, x85, x86, x87, x88, x89, x90, x91, x92, x93, x94, x95, x96, x97, x98, x99, x100, x101, x102, x103, x104, x105, x106, x107, x108, x109, x110, x111, x112, x113, x114, x115, x116, x117, x118, x119, x120, x121, x122, x123, x124, x125, x126, x127, x128, x129, x130, x131, x132, x133, x134, x135, x136, x137, x138, x139, x140, x141, x142, x143, x144, x145, x146, x147, x148, x149, x150, x151, x152, x153, x154, x155, x156, x157, x158, x159, x160, x161, x162, x163, x164, x165, x166, x167, x168, x169, x170, x171, x172, x173, x174, x175, x176, x177, x178, x179, x180, x181, x182, x183, x184, x185, x186, x187, x188, x189, x190, x191, x192, x193, x194, x195, x196, x197, x198, x199, x200, x201, x202, x203, x204, x205, x206, x207, x208, x209, x210, x211, x212, x213, x214, x215, x216], []⟩ w5 := by
  obtain ⟨i3, hi3, h30, h31, h32⟩ := info_parts info3W
  have hd10 := hm.d
  rw [← hn] at hd10
  have hal2 : al ≤ 1024 := by rw [hal]; exact Nat.le_trans (Nat.pow_le_pow_right (by decide) hd10) (by decide)
  have HM := hide' hm
  have HAN : Hid ((mayYB y && soundB y) = true ∧ goal.length = y.devs.length) := ⟨by rw [hs, mayYB_iff.2 hm]; rfl, by rw [hl, hn]⟩
  have HN := hide' hn
  have HAL := hide' hal
  have HEN := hide' hen
  have HFAR := hide' hfar
  have HB := hide' hb
  have HYC : Hid (Calls Try.prog 27 #[.agg #[.int .i64 y.points, .slice af y.fed.length cf, .slice ad y.drawn.length cd, .slice as' n cs]] w5 fun e w' => e = .returned (.int .i64 ((y.code : Nat) : Int)) ∧ Below w5.heap.size w5 w') := by
    show Calls _ _ _ _ _
    rw [hn]
    exact yardCode_any y af ad as' cf cd cs w5 hy.s (by omega)
  obtain ⟨s0, hs0⟩ : ∃ x, x = y.code := ⟨_, rfl⟩
  rw [← hs0] at HYC
  have hs1 : s0 < al := by rw [hs0, hal, hn]; exact code_bd y
  have HS0 := hide' hs0
  have HF5 := hide' hF
  have HL5 := hide' hL
  have a0 : w5.cell? ⟨A, 0, none⟩ = some (.int .i64 y.points) := (cells_at hA 0).trans rfl
  have a1 : w5.cell? ⟨A, 1, none⟩ = some (.slice af y.fed.length cf) := (cells_at hA 1).trans rfl
  have a2 : w5.cell? ⟨A, 2, none⟩ = some (.slice ad y.drawn.length cd) := (cells_at hA 2).trans rfl
  have a3 : w5.cell? ⟨A, 3, none⟩ = some (.slice as' n cs) := (cells_at hA 3).trans rfl
  clear hm hs hn hl hal hen hfar hb hs0 hF hL hy hA
  conv => arg 2; whnf
  go_wp2_with fail
  refine HYC.out.mono ?_
  clear HYC
  rintro e w6 ⟨rfl, hb6⟩
  have HB6 := hide' (HB.out.trans (hb6.mono HB.out.size))
  have HF6 := hide' (HF5.out.below hb6)
  have HL6 := hide' (HL5.out.below hb6)
  clear hb6 HF5 HL5 HB a0 a1 a2 a3
  have f0 := (HF6.out.cell hs1).1
  by_cases hde : D s0 = al
  · rw [hde] at f0
    go_wp2_with fail
    go_ret2
    refine .inr (.inr ⟨HAN.out.1, HAN.out.2, .inr ⟨fun q hq => ?_, rfl⟩, HB6.out⟩)
    rw [← HEN.out, ← HS0.out] at hq
    exact absurd (HFAR.out.there q s0 hs1 hq) (by omega)
  · have hdl : D s0 < al := by have := HFAR.out.r.top s0; omega
    go_wp2_with fail
    rw [show ((D s0 : Int) == (al : Int)) = false from beq_eq_false_iff_ne.2 (fun e => hde (by omega))]
    clear f0 hde
    go_loopw [22, 23] (fun av ov wr => ∃ (a : Nat) (p : List Nat), av = .int .i64 a ∧ a < al ∧ Hid (D a < al ∧ p.length + D a = D s0 ∧ ∀ q, Greedy (leadF y) en D a q → Greedy (leadF y) en D s0 (p ++ q)) ∧ Hid (wr.ownsRow w6.heap.size 3 1 ov p.length (ints (natI p)) ∧ Below w6.heap.size w6 wr)) (fun av _ _ => D (intOf av).toNat)
    case atStart => exact ⟨s0, [], rfl, hs1, ⟨hdl, by simp, fun q h => h⟩, World.ownsRow_nil _ _ _ _, Below.refl _ w6⟩
    case round =>
      obtain ⟨a, p, rfl, ha, HG, HW⟩ := hrel
      by_cases hae : a = en
      · have HAE := hide' hae
        subst hae
        go_wp2_with fail
        go_ret2
        refine .inr (.inr ⟨HAN.out.1, HAN.out.2, .inl ⟨p, _, ?_, rfl, own_mono HW.out.1 HB6.out.size⟩, HB6.out.trans (HW.out.2.mono HB6.out.size)⟩)
        have h1 := HG.out.2.2 [] rfl
        rw [List.append_nil] at h1
        rw [← HEN.out, ← HS0.out]
        exact Greedy.best HFAR.out hs1 h1
      · go_wp2_with fail
        rw [show ((a : Int) != (en : Int)) = true from by simp; omega]
        go_loopw [22, 23, 24] (fun av ov kv wr => ∃ (k : Nat), av = .int .i64 a ∧ ov = u23 ∧ kv = .int .i64 k ∧ k ≤ n ∧ Hid (∀ m t, m < k → leadF y a m = some t → D t + 1 ≠ D a) ∧ Hid (wr.ownsRow w6.heap.size 3 1 u23 p.length (ints (natI p)) ∧ Below w6.heap.size w6 wr)) (fun _ _ kv _ => n - (intOf kv).toNat)
        case atStart => exact ⟨0, rfl, rfl, rfl, Nat.zero_le _, fun m t h => absurd h (Nat.not_lt_zero _), HW.out⟩
        case round =>
          clear HW
          obtain ⟨k, rfl, rfl, rfl, hk, HNO, HW⟩ := hrel
          by_cases hkn : k < n
          · obtain ⟨b, l1, l2⟩ := HL6.out a ha
            have c1 := up_cell HW.out.2 l1
            have c2 := up_cell HW.out.2 (l2 k hkn)
            rcases hlf : leadF y a k with _ | t
            · rw [leadI_none hlf] at c2
              have HNO2 : Hid (∀ m t, m < k + 1 → leadF y a m = some t → D t + 1 ≠ D a) := fun m t hm ht => by
                by_cases e : m = k
                · rw [e, hlf] at ht; cases ht
                · exact HNO.out m t (by omega) ht
              clear l1 l2 hlf HNO
              go_upto_region 56 with fail
              go_quiet (fail)
              have HW2 : Hid (∀ m, (wr.drewN m).ownsRow w6.heap.size 3 1 u23 p.length (ints (natI p)) ∧ Below w6.heap.size w6 (wr.drewN m)) := fun m => ⟨HW.out.1, below_drewN HW.out.2 m⟩
              clear HW
              go_wp2_with fail
              go_roundw
              case rel => exact ⟨k + 1, rfl, rfl, by go_num, by omega, HNO2.out, HW2.out _⟩
              case measure => simp only [intOf]; omega
            · have hls := lead_some HM.out hlf
              have ht : t < al := by rw [HAL.out, HN.out]; exact hls.2.2.1
              clear hls
              rw [leadI_some hlf] at c2
              have c3 := up_cell HW.out.2 (HF6.out.cell ht).1
              have c4 := up_cell HW.out.2 (HF6.out.cell ha).1
              have hd1 := HFAR.out.r.top t
              have hd2 := HFAR.out.r.top a
              have HLF := hide' hlf
              have HL1 := hide' l1
              have HL2 := hide' (l2 k hkn)
              rw [leadI_some hlf] at HL2
              clear l1 l2 hlf
              obtain ⟨d, hdd⟩ : ∃ d, d = D t := ⟨_, rfl⟩
              by_cases hde : D t + 1 = D a
              · have e4 : ((D a : Nat) : Int) = (d : Int) + 1 := by omega
                rw [e4] at c4
                rw [← hdd] at c3
                have HDD := hide' (And.intro hdd hde)
                clear e4 hde
                rw [← hdd] at hd1
                clear hdd hd2
                have HPL : Hid (p.length ≤ 1024) := by
                  have h1 := HG.out.2.1
                  have h2 := HFAR.out.r.top s0
                  show _ ≤ _
                  omega
                go_upto_region 56 with fail
                go_quiet (fail)
                have HW2 : Hid ((wr.drewN nq).ownsRow w6.heap.size 3 1 u23 p.length (ints (natI p)) ∧ Below w6.heap.size w6 (wr.drewN nq)) := ⟨HW.out.1, below_drewN HW.out.2 nq⟩
                obtain ⟨wq, hwq⟩ : ∃ x, x = wr.drewN nq := ⟨_, rfl⟩
                rw [← hwq] at HW2 ⊢
                clear hwq HW c1 c2 c3 c4
                go_wp2_with (at_builtin; refine wpList_append_own _ rfl _ _ 22 rfl w6.heap.size 3 i3 (.int .i64 0) 1 8 Try.underlying22 hi3 h30 h31 h32 rfl (by decide) _ _ _ rfl (own_below HW2.out.1 (below_al _ _) (Nat.le_refl _)) ⟨wq.heap.size, 0, none⟩ 1 1 [.int .i64 (k : Int)] rfl rfl (cell_one_new _ _ _) (one_cell rfl) (by have := HPL.out; unfold maxLen; omega) (by have := HPL.out; omega) (Nat.le_trans HW2.out.2.size (below_al _ _).size) ?_; intro v' w8 hown' hgrow _; refine Still.go ?_)
                unfold Still
                have HNW : Hid (w8.ownsRow w6.heap.size 3 1 v' (p ++ [k]).length (ints (natI (p ++ [k]))) ∧ Below w6.heap.size w6 w8) := ⟨by rw [natI_snoc, List.length_append]; exact hown', (HW2.out.2.trans ((below_al _ _).mono HW2.out.2.size)).grown hgrow (Nat.le_trans HW2.out.2.size (below_al _ _).size) (own_at HW2.out.1)⟩
                have c1 := up_cell HNW.out.2 HL1.out
                have c2 := up_cell HNW.out.2 HL2.out
                clear hown' hgrow HW2
                go_wp2_with fail
                go_roundw
                case rel =>
                  refine ⟨t, p ++ [k], rfl, ht, ⟨?_, ?_, fun q hq => ?_⟩, HNW.out⟩
                  · have h1 := HDD.out
                    have h2 := HG.out.1
                    omega
                  · have h1 := HDD.out
                    have h2 := HG.out.2.1
                    rw [List.length_append, List.length_singleton]
                    omega
                  · rw [List.append_assoc]
                    exact HG.out.2.2 (k :: q) ⟨hae, t, HLF.out, HDD.out.2, fun m t' hm hf => HNO.out m t' hm hf, hq⟩
                case measure =>
                  have h1 := HDD.out
                  simp only [intOf, Int.toNat_natCast]
                  omega
              · have HNO2 : Hid (∀ m t, m < k + 1 → leadF y a m = some t → D t + 1 ≠ D a) := fun m t2 hm ht2 => by
                  by_cases e : m = k
                  · rw [e, HLF.out] at ht2
                    cases ht2
                    exact hde
                  · exact HNO.out m t2 (by omega) ht2
                obtain ⟨da, hda⟩ : ∃ d, d = D a := ⟨_, rfl⟩
                rw [← hdd] at c3 hd1 hde
                rw [← hda] at c4 hd2 hde
                have hq : ((d : Int) == (da : Int) - 1) = false := beq_eq_false_iff_ne.2 (fun e => hde (by omega))
                have HW2 : Hid (∀ m, (wr.drewN m).ownsRow w6.heap.size 3 1 u23 p.length (ints (natI p)) ∧ Below w6.heap.size w6 (wr.drewN m)) := fun m => ⟨HW.out.1, below_drewN HW.out.2 m⟩
                clear HNO HW hda hdd
                go_upto_region 56 with fail
                go_quiet (fail)
                go_wp2_with fail
                go_roundw
                case rel => exact ⟨k + 1, rfl, rfl, by go_num, by omega, HNO2.out, HW2.out _⟩
                case measure => simp only [intOf]; omega
          · exfalso
            have h0 : D a ≠ 0 := fun h0 => by
              obtain ⟨q, h1, h2⟩ := HFAR.out.r.path a ha HG.out.1
              rw [h0] at h2
              have h3 := List.eq_nil_of_length_eq_zero h2
              rw [h3] at h1
              cases h1
              exact hae rfl
            obtain ⟨k2, t2, h1, h2, h3⟩ := HFAR.out.step ha HG.out.1 h0
            have h4 := (lead_some HM.out h1).1
            rw [← HN.out] at h4
            exact HNO.out k2 t2 (by omega) h1 h2
end Go.Proofs.Ytcnoipcpifackah
