/- The document's search: distances. -/
import Derived.Test.YtcnoipcpifackahXu
namespace Go.Proofs.Ytcnoipcpifackah
open Go.RowKit Go.Shelf

def IfB (b c : Bool) (p : Prop) : Prop := b = c → p
def isT : Value → Nat
  | .bool true => 1
  | _ => 0
/-- No move leads nearer, up to place c and move k. -/
def Calm (y : YardM) (D : Nat → Nat) (c k : Nat) : Prop := ∀ c' m t, (c' < c ∨ (c' = c ∧ m < k)) → leadF y c' m = some t → D c' ≤ D t + 1
theorem Calm.next {y : YardM} {D : Nat → Nat} {c k : Nat} (h : Calm y D c k) (hk : ∀ t, leadF y c k = some t → D c ≤ D t + 1) : Calm y D c (k + 1) := fun c' m t h1 h2 => by
  by_cases e : c' = c ∧ m = k
  · obtain ⟨rfl, rfl⟩ := e
    exact hk t h2
  · exact h c' m t (by omega) h2
set_option maxRecDepth 100000 in
set_option maxHeartbeats 4000000 in
theorem plannedD (y : YardM) (hm : MayY y) (hs : soundB y = true) (goal : List Bool) (n al en : Nat) (hn : n = y.devs.length) (hl : goal.length = n) (hal : al = 2 ^ n) (hen : en = codeB goal) (w : World) (ga af ad as' : Option Addr) (gc cf cd cs A : Nat) (lb lc F : Nat) (w4 : World) (hA : w4.heap[A]? = some (.cells #[.int .i64 y.points, .slice af y.fed.length cf, .slice ad y.drawn.length cd, .slice as' n cs] 25 (0, 0))) (hy : YardAt w4 af ad as' cf cd cs y) (hea : en < al) (hFB : w4.heap.size ≤ F) (hL : LeadsC w4 lb n al y) (hb : Below w.heap.size w w4) (w5 : World) (D1 : Nat → Nat) (hr : Rlx (leadF y) en al D1) (hF : IntsF w5 F al (fun c => (D1 c : Int))) (hb5 : Below w4.heap.size w4 w5) (x3 x4 x5 x8 x10 x11 x12 x13 x14 x15 x16 x18 x19 x20 x21 x22 x23 x24 x25 x26 x27 x28 x29 x30 x31 x32 x33 x34 x35 x36 x37 x38 x39 x40 x41 x42 x43 x44 x45 x46 x47 x48 x49 x50 x51 x52 x53 x54 x55 x56 x57 x58 x59 x60 x61 x62 x63 x64 x65 x66 x67 x68 x69 x70 x71 x72 x73 x74 x75 x76 x77 x78 x79 x80 x81 x82 x83 x84 x85 x86 x87 x88 x89 x90 x91 x92 x93 x94 x95 x96 x97 x98 x99 x100 x101 x102 x103 x104 x105 x106 x107 x108 x109 x110 x111 x112 x113 x114 x115 x116 x117 x118 x119 x120 x121 x122 x123 x124 x125 x126 x127 x128 x129 x130 x131 x132 x133 x134 x135 x136 x137 x138 x139 x140 x141 x142 x143 x144 x145 x146 x147 x148 x149 x150 x151 x152 x153 x154 x155 x156 x157 x158 x159 x160 x161 x162 x163 x164 x165 x166 x167 x168 x169 x170 x171 x172 x173 x174 x175 x176 x177 x178 x179 x180 x181 x182 x183 x184 x185 x186 x187 x188 x189 x190 x191 x192 x193 x194 x195 x196 x197 x198 x199 x200 x201 x202 x203 x204 x205 x206 x207 x208 x209 x210 x211 x212 x213 x214 x215 x216 : Value) : Code.wp Try.prog (dropC 11 (Try.f13.body.getD .skip)) (bodyPost Try.prog Try.f13 (PlanAns y goal w)) ⟨#[.agg #[.int .i64 y.points, .slice af y.fed.length cf, .slice ad y.drawn.length cd, .slice as' n cs], .slice ga n gc, .pointer (some ⟨A, 0, none⟩), x3, x4, x5, .int .i64 (en : Int), .int .i64 (al : Int), x8, .slice (some ⟨lb, 0, none⟩) al lc, x10, x11, x12, x13, x14, x15, x16, .slice (some ⟨F, 0, none⟩) al al, x18, x19, x20, x21, x22, x23, x24, x25, x26, x27, x28, x29, x30, x31, x32, x33, x34, x35, x36, x37, x38, x39, x40, x41, x42, x43, x44, x45, x46, x47, x48, x49, x50, x51, x52, x53, x54, x55, x56, x57, x58, x59, x60, x61, x62, x63, x64, x65, x66, x67, x68, x69, x70, x71, x72, x73, x74, x75, x76, x77, x78, x79, x80, x81, x82, x83, x84, x85, x86, x87, x88, x89, x90, x91, x92, x93, x94, x95, x96, x97, x98, x99, x100, x101, x102, x103, x104, x105, x106, x107, x108, x109, x110, x111, x112, x113, x114, x115, x116, x117, x118, x119, x120, x121, x122, x123, x124, x125, x126, x127, x128, x129, x130, x131, x132, x133, x134, x135, x136, x137, x138, x139, x140, x141, x142, x143, x144, x145, x146, x147, x148, x149, x150, x151, x152, x153, x154, x155, x156, x157, x158, x159, x160, x161, x162, x163, x164, x165, x166, x167, x168, x169, x170, x171, x172, x173, x174, x175, x176, x177, x178, x179, x180, x181, x182, x183, x184, x185, x186, x187, x188, x189, x190, x191, x192, x193, x194, x195, x196, x197, x198, x199, x200, x201, x202, x203, x204, x205, x206, x207, x208, x209, x210, x211, x212, x213, x214, x215, x216], []⟩ w5 := by
  have hd10 := hm.d
  rw [← hn] at hd10
  have hal2 : al ≤ 1024 := by rw [hal]; exact Nat.le_trans (Nat.pow_le_pow_right (by decide) hd10) (by decide)
  have HE := hide' (fun z D => plannedE y hm hs goal n al en hn hl hal hen w ga af ad as' gc cf cd cs A lb lc F D z)
  have HM := hide' hm
  have HN := hide' hn
  have HAL := hide' hal
  have HA := hide' hA
  have HY := hide' hy
  have HL := hide' hL
  have HB := hide' hb
  have HR1 := hide' hr
  have HW5 := hide' (And.intro hF hb5)
  have HFB := hide' hFB
  clear hm hs hn hl hal hen hb hy hA hL hr hF hb5 hFB
  conv => arg 2; whnf
  refine wp_seq_k fun K0 hK0 => ?_
  have HK0 := hide' hK0
  clear hK0
  go_wp2_with fail
  go_loopw [19] (fun av wr => ∃ (b : Bool) (D : Nat → Nat), av = .bool b ∧ Hid (Rlx (leadF y) en al D ∧ IfB b false (Calm y D al 0)) ∧ Hid (IntsF wr F al (fun c => (D c : Int)) ∧ Below w4.heap.size w4 wr)) (fun av wr => 2 * sumW wr F al + isT av)
  case atStart => exact ⟨true, D1, rfl, ⟨HR1.out, fun h => absurd h (by decide)⟩, HW5.out⟩
  case round =>
    clear HR1 HW5
    obtain ⟨b, D, rfl, HR, HW⟩ := hrel
    cases b
    · go_wp2_with fail
      refine HK0.out _ _ ?_
      refine HE.out _ D ((HW.out.2.block A (lt_heap HA.out)).trans HA.out) (HY.out.below HW.out.2 (Nat.le_refl _)) ⟨HR.out.1, hea, fun c k t hc hf => ?_, fun c k t hc hf => HR.out.2 rfl c k t (.inl hc) hf⟩ HW.out.1 (HL.out.below HW.out.2) (HB.out.trans (HW.out.2.mono HB.out.size)) _ _ _ _ _ _ _ _ _ _ _ _ _ _ _ _ _ _ _ _ _ _ _ _ _ _ _ _ _ _ _ _ _ _ _ _ _ _ _ _ _ _ _ _ _ _ _ _ _ _ _ _ _ _ _ _ _ _ _ _ _ _ _ _ _ _ _ _ _ _ _ _ _ _ _ _ _ _ _ _ _ _ _ _ _ _ _ _ _ _ _ _ _ _ _ _ _ _ _ _ _ _ _ _ _ _ _ _ _ _ _ _ _ _ _ _ _ _ _ _ _ _ _ _ _ _ _ _ _ _ _ _ _ _ _ _ _ _ _ _ _ _ _ _ _ _ _ _ _ _ _ _ _ _ _ _ _ _ _ _ _ _ _ _ _ _ _ _ _ _ _ _ _ _ _ _ _ _ _ _ _ _ _ _ _ _ _ _ _ _ _ _ _ _ _ _ _ _ _ _ _ _ _ _ _ _ _ _ _ _
      rw [HAL.out, HN.out]
      exact (lead_some HM.out hf).2.2.1
    · go_wp2_with fail
      have HS : Hid (sumW wr F al = sumN al D) := HW.out.1.sum
      go_loopw [19, 20] (fun av cv wr => ∃ (b : Bool) (D2 : Nat → Nat) (c : Nat), av = .bool b ∧ cv = .int .i64 c ∧ c ≤ al ∧ Hid (Rlx (leadF y) en al D2 ∧ IfB b false (D2 = D ∧ Calm y D c 0) ∧ IfB b true (sumN al D2 < sumN al D)) ∧ Hid (IntsF wr F al (fun c => (D2 c : Int)) ∧ Below w4.heap.size w4 wr)) (fun _ cv _ => al - (intOf cv).toNat)
      case atStart => exact ⟨false, D, 0, rfl, rfl, Nat.zero_le _, ⟨HR.out.1, fun _ => ⟨rfl, fun c' m t h => by omega⟩, fun h => absurd h (by decide)⟩, HW.out⟩
      case round =>
        clear HW
        obtain ⟨b, D2, c, rfl, rfl, hc, HR2, HW⟩ := hrel
        by_cases hcl : c < al
        · go_wp2_with fail
          go_loopw [19, 21] (fun av kv wr => ∃ (b : Bool) (D2 : Nat → Nat) (k : Nat), av = .bool b ∧ kv = .int .i64 k ∧ k ≤ n ∧ Hid (Rlx (leadF y) en al D2 ∧ IfB b false (D2 = D ∧ Calm y D c k) ∧ IfB b true (sumN al D2 < sumN al D)) ∧ Hid (IntsF wr F al (fun c => (D2 c : Int)) ∧ Below w4.heap.size w4 wr)) (fun _ kv _ => n - (intOf kv).toNat)
          case atStart => exact ⟨b, D2, 0, rfl, rfl, Nat.zero_le _, HR2.out, HW.out⟩
          case round =>
            clear HR2 HW
            obtain ⟨b, D2, k, rfl, rfl, hk, HR2, HW⟩ := hrel
            by_cases hkn : k < n
            · obtain ⟨rb, l1, l2⟩ := HL.out c hcl
              have c1 := up_cell HW.out.2 l1
              have c2 := up_cell HW.out.2 (l2 k hkn)
              rcases hlf : leadF y c k with _ | t
              · rw [leadI_none hlf] at c2
                have HN2 : Hid (Rlx (leadF y) en al D2 ∧ IfB b false (D2 = D ∧ Calm y D c (k + 1)) ∧ IfB b true (sumN al D2 < sumN al D)) := ⟨HR2.out.1, fun h => ⟨(HR2.out.2.1 h).1, (HR2.out.2.1 h).2.next (fun t ht => by rw [hlf] at ht; cases ht)⟩, HR2.out.2.2⟩
                have HW2 : Hid (∀ m, IntsF (wr.drewN m) F al (fun c => (D2 c : Int)) ∧ Below w4.heap.size w4 (wr.drewN m)) := fun m => ⟨HW.out.1.keep rfl, below_drewN HW.out.2 m⟩
                clear l1 l2 hlf HR2 HW
                go_upto_region 45 with fail
                go_quiet (fail)
                go_wp2_with fail
                go_roundw
                case rel => exact ⟨b, D2, k + 1, rfl, by go_num, by omega, HN2.out, HW2.out _⟩
                case measure => simp only [intOf]; omega
              · have hls := lead_some HM.out hlf
                have ht : t < al := by rw [HAL.out, HN.out]; exact hls.2.2.1
                clear hls
                rw [leadI_some hlf] at c2
                have c3 := (HW.out.1.cell ht).1
                have c4 := HW.out.1.cell hcl
                have f4 := c4.2
                replace c4 := c4.1
                have hd1 := HR2.out.1.top t
                have hd2 := HR2.out.1.top c
                have HLF := hide' hlf
                clear l1 l2 hlf
                by_cases hlt : D2 t + 1 < D2 c
                · have HN2 : Hid (Rlx (leadF y) en al (fun x => if x = c then D2 t + 1 else D2 x) ∧ IfB true false ((fun x => if x = c then D2 t + 1 else D2 x) = D ∧ Calm y D c (k + 1)) ∧ IfB true true (sumN al (fun x => if x = c then D2 t + 1 else D2 x) < sumN al D)) := by
                    refine ⟨HR2.out.1.relax HLF.out ht hlt (fun _ => rfl), fun h => absurd h (by decide), fun _ => ?_⟩
                    have h1 := sumN_set al D2 c (D2 t + 1) hcl
                    have h2 : sumN al D2 ≤ sumN al D := by
                      cases b
                      · rw [(HR2.out.2.1 rfl).1]; exact Nat.le_refl _
                      · exact Nat.le_of_lt (HR2.out.2.2 rfl)
                    omega
                  have HW2 : Hid (∀ m, IntsF ((wr.drewN m).setCell ⟨F, c, none⟩ (.int .i64 ((D2 t + 1 : Nat) : Int))) F al (fun x => ((if x = c then D2 t + 1 else D2 x : Nat) : Int)) ∧ Below w4.heap.size w4 ((wr.drewN m).setCell ⟨F, c, none⟩ (.int .i64 ((D2 t + 1 : Nat) : Int)))) := fun m => ⟨(show IntsF (wr.drewN m) F al (fun c => (D2 c : Int)) from HW.out.1.keep rfl).setN hcl (D2 t + 1), (below_drewN HW.out.2 m).setCell (p := ⟨F, c, none⟩) HFB.out _⟩
                  rw [show ((D2 t + 1 : Nat) : Int) = ((D2 t : Nat) : Int) + 1 by omega] at HW2
                  obtain ⟨D3, hD3⟩ : ∃ X : Nat → Nat, X = (fun x => if x = c then D2 t + 1 else D2 x) := ⟨_, rfl⟩
                  have HW3 : Hid (∀ m, IntsF ((wr.drewN m).setCell ⟨F, c, none⟩ (.int .i64 ((D2 t : Nat) + 1 : Int))) F al (fun x => (D3 x : Int)) ∧ Below w4.heap.size w4 ((wr.drewN m).setCell ⟨F, c, none⟩ (.int .i64 ((D2 t : Nat) + 1 : Int)))) := by rw [hD3]; exact HW2.out
                  rw [← hD3] at HN2
                  clear hD3 HW2 HW HR2 HLF
                  obtain ⟨d, hd⟩ : ∃ d, d = D2 t := ⟨_, rfl⟩
                  obtain ⟨e, he⟩ : ∃ d, d = D2 c := ⟨_, rfl⟩
                  rw [← hd] at c3 HW3 hlt hd1
                  rw [← he] at c4 hlt hd2
                  clear hd he
                  go_upto_region 45 with fail
                  go_quiet (fail)
                  go_wp2_with fail
                  go_roundw
                  case rel => exact ⟨true, D3, k + 1, rfl, by go_num, by omega, HN2.out, HW3.out _⟩
                  case measure => simp only [intOf]; omega
                · have HN2 : Hid (Rlx (leadF y) en al D2 ∧ IfB b false (D2 = D ∧ Calm y D c (k + 1)) ∧ IfB b true (sumN al D2 < sumN al D)) := ⟨HR2.out.1, fun h => ⟨(HR2.out.2.1 h).1, (HR2.out.2.1 h).2.next (fun t2 ht2 => by
                    rw [HLF.out] at ht2
                    cases ht2
                    rw [(HR2.out.2.1 h).1] at hlt
                    omega)⟩, HR2.out.2.2⟩
                  have HW2 : Hid (∀ m, IntsF (wr.drewN m) F al (fun c => (D2 c : Int)) ∧ Below w4.heap.size w4 (wr.drewN m)) := fun m => ⟨HW.out.1.keep rfl, below_drewN HW.out.2 m⟩
                  clear HLF HR2 HW
                  obtain ⟨d, hd⟩ : ∃ d, d = D2 t := ⟨_, rfl⟩
                  obtain ⟨e, he⟩ : ∃ d, d = D2 c := ⟨_, rfl⟩
                  rw [← hd] at c3 hlt hd1
                  rw [← he] at c4 hlt hd2
                  clear hd he
                  have hlt2 : decide ((d : Int) + 1 < (e : Int)) = false := decide_eq_false (by omega)
                  go_upto_region 45 with fail
                  go_quiet (fail)
                  go_wp2_with fail
                  go_roundw
                  case rel => exact ⟨b, D2, k + 1, rfl, by go_num, by omega, HN2.out, HW2.out _⟩
                  case measure => simp only [intOf]; omega
            · go_wp2_with fail
              go_roundw
              case rel =>
                refine ⟨b, D2, c + 1, rfl, by go_num, by omega, ⟨HR2.out.1, fun h => ⟨(HR2.out.2.1 h).1, fun c' m t h1 h2 => ?_⟩, HR2.out.2.2⟩, HW.out⟩
                have h3 := (lead_some HM.out h2).1
                rw [← HN.out] at h3
                exact (HR2.out.2.1 h).2 c' m t (by omega) h2
              case measure => simp only [intOf]; omega
        · go_wp2_with fail
          go_roundw
          case rel =>
            have hce : c = al := by omega
            refine ⟨b, D2, rfl, ⟨HR2.out.1, fun h => ?_⟩, HW.out⟩
            have h1 := HR2.out.2.1 h
            rw [h1.1]
            rw [hce] at h1
            exact h1.2
          case measure =>
            have h1 := HW.out.1.sum
            have h2 := HR2.out.2
            rw [HS.out]
            cases b
            · rw [h1, (h2.1 rfl).1]
              show 2 * sumN al D + 0 < 2 * sumN al D + 1
              omega
            · have h3 := h2.2 rfl
              rw [h1]
              show 2 * sumN al D2 + 1 < 2 * sumN al D + 1
              omega
end Go.Proofs.Ytcnoipcpifackah
