/- The document's search: where each move leads. -/
import Derived.Test.YtcnoipcpifackahXw
namespace Go.Proofs.Ytcnoipcpifackah
open Go.RowKit Go.Shelf

theorem info22W : (Try.prog.info? 22).map (fun i => (i.zero, i.size, i.bytes)) = some (some (.slice none 0 0), 1, 24) := by kernel_rfl
def sliceN (n b : Nat) : Value := .slice (some ⟨b, 0, none⟩) n n
/-- The rows of leads that are made. -/
structure LeadsO (w1 wr : World) (lv : Value) (bs : List Nat) (n : Nat) (y : YardM) : Prop where
  row : wr.ownsRow w1.heap.size 22 1 lv bs.length (bs.map (sliceN n))
  rows : ∀ (j b : Nat), bs[j]? = some b → IntsF wr b n (leadI y j)
  bel : Below w1.heap.size w1 wr
theorem LeadsO.below {w1 wr w' : World} {lv : Value} {bs : List Nat} {n : Nat} {y : YardM} (h : LeadsO w1 wr lv bs n y) (hb : Below wr.heap.size wr w') : LeadsO w1 w' lv bs n y :=
  ⟨own_below h.row hb (Nat.le_refl _), fun j b hj => (h.rows j b hj).below hb, h.bel.trans (hb.mono h.bel.size)⟩
theorem LeadsO.add {w1 w5 w8 : World} {lv v' : Value} {bs : List Nat} {n b : Nat} {y : YardM} (h : LeadsO w1 w5 lv bs n y) (hi : IntsF w5 b n (leadI y bs.length)) (hg : (w5.alloc (.cells #[sliceN n b] 22)).grownBy w8 lv.ownBlock) (hown : w8.ownsRow w1.heap.size 22 1 v' (bs.length + 1) (bs.map (sliceN n) ++ [sliceN n b])) : LeadsO w1 w8 v' (bs ++ [b]) n y := by
  have k2 : KeepE 22 w5 w8 := (KeepE.alloc 22 w5 _).trans (KeepE.grown (own_below h.row (below_al _ _) (Nat.le_refl _)) hg)
  refine ⟨by rw [List.length_append, List.map_append]; exact hown, fun j c hj => ?_, below_app h.bel h.row (Nat.le_refl _) h.bel.size hg⟩
  by_cases e : j < bs.length
  · rw [List.getElem?_append_left e] at hj
    exact (h.rows j c hj).keepE k2 (by decide)
  · have h2 := (List.getElem?_eq_some_iff.1 hj).1
    rw [List.length_append] at h2
    have ej : j = bs.length := by
      have : j < bs.length + 1 := h2
      omega
    subst ej
    rw [List.getElem?_append_right (Nat.le_refl _), Nat.sub_self] at hj
    cases hj
    exact hi.keepE k2 (by decide)
theorem LeadsO.cells {w1 wr : World} {lb lc al : Nat} {bs : List Nat} {n : Nat} {y : YardM} (h : LeadsO w1 wr (.slice (some ⟨lb, 0, none⟩) al lc) bs n y) (hl : bs.length = al) : LeadsC wr lb n al y := fun c hc => by
  subst hl
  have e := List.getElem?_eq_getElem hc
  refine ⟨bs[c], (own_cell h.row (by rw [List.getElem?_map, e]; rfl)).1, fun k hk => ((h.rows c _ e).cell hk).1⟩
theorem LeadsO.at_ {w1 wr : World} {lv : Value} {bs : List Nat} {n : Nat} {y : YardM} (h : LeadsO w1 wr lv bs n y) (hM : 0 < bs.length) : ∃ g c, lv = .slice (some ⟨g, 0, none⟩) bs.length c := by
  rcases h.row.2 with ⟨_, h0⟩ | ⟨g, c, _, hv, _⟩
  · omega
  · exact ⟨g, c, hv⟩
/-- While a row is made. -/
def rowK (y : YardM) (c k : Nat) : Nat → Int := fun j => if j < k then leadI y c j else 0
theorem IntsF.step {w : World} {b n c k : Nat} {y : YardM} {g : Nat → Int} {v : Int} (h : IntsF w b n g) (hg : ∀ x, x ≠ k → g x = rowK y c k x) (hv : v = leadI y c k) (hgk : g k = v) : IntsF w b n (rowK y c (k + 1)) := h.congr (fun x _ => by
  unfold rowK at hg ⊢
  by_cases e : x = k
  · subst e
    rw [hgk, hv, if_pos (by omega)]
  · rw [hg x e]
    by_cases e2 : x < k
    · rw [if_pos e2, if_pos (by omega)]
    · rw [if_neg e2, if_neg (by omega)])
set_option maxRecDepth 100000 in
set_option maxHeartbeats 4000000 in
theorem plannedB (y : YardM) (hm : MayY y) (hs : soundB y = true) (goal : List Bool) (n al en : Nat) (hn : n = y.devs.length) (hl : goal.length = n) (hal : al = 2 ^ n) (hen : en = codeB goal) (w : World) (ga af ad as' : Option Addr) (gc cf cd cs A : Nat) (w1 : World) (hA : w1.heap[A]? = some (.cells #[.int .i64 y.points, .slice af y.fed.length cf, .slice ad y.drawn.length cd, .slice as' n cs] 25 (0, 0))) (hy : YardAt w1 af ad as' cf cd cs y) (hea : en < al) (hb : Below w.heap.size w w1) (x3 x4 x5 x8 x9 x10 x11 x12 x13 x14 x15 x16 x17 x18 x19 x20 x21 x22 x23 x24 x25 x26 x27 x28 x29 x30 x31 x32 x33 x34 x35 x36 x37 x38 x39 x40 x41 x42 x43 x44 x45 x46 x47 x48 x49 x50 x51 x52 x53 x54 x55 x56 x57 x58 x59 x60 x61 x62 x63 x64 x65 x66 x67 x68 x69 x70 x71 x72 x73 x74 x75 x76 x77 x78 x79 x80 x81 x82 x83 x84 x85 x86 x87 x88 x89 x90 x91 x92 x93 x94 x95 x96 x97 x98 x99 x100 x101 x102 x103 x104 x105 x106 x107 x108 x109 x110 x111 x112 x113 x114 x115 x116 x117 x118 x119 x120 x121 x122 x123 x124 x125 x126 x127 x128 x129 x130 x131 x132 x133 x134 x135 x136 x137 x138 x139 x140 x141 x142 x143 x144 x145 x146 x147 x148 x149 x150 x151 x152 x153 x154 x155 x156 x157 x158 x159 x160 x161 x162 x163 x164 x165 x166 x167 x168 x169 x170 x171 x172 x173 x174 x175 x176 x177 x178 x179 x180 x181 x182 x183 x184 x185 x186 x187 x188 x189 x190 x191 x192 x193 x194 x195 x196 x197 x198 x199 x200 x201 x202 x203 x204 x205 x206 x207 x208 x209 x210 x211 x212 x213 x214 x215 x216 : Value) : Code.wp Try.prog (dropC 6 (Try.f13.body.getD .skip)) (bodyPost Try.prog Try.f13 (PlanAns y goal w)) ⟨#[.agg #[.int .i64 y.points, .slice af y.fed.length cf, .slice ad y.drawn.length cd, .slice as' n cs], .slice ga n gc, .pointer (some ⟨A, 0, none⟩), x3, x4, x5, .int .i64 (en : Int), .int .i64 (al : Int), x8, x9, x10, x11, x12, x13, x14, x15, x16, x17, x18, x19, x20, x21, x22, x23, x24, x25, x26, x27, x28, x29, x30, x31, x32, x33, x34, x35, x36, x37, x38, x39, x40, x41, x42, x43, x44, x45, x46, x47, x48, x49, x50, x51, x52, x53, x54, x55, x56, x57, x58, x59, x60, x61, x62, x63, x64, x65, x66, x67, x68, x69, x70, x71, x72, x73, x74, x75, x76, x77, x78, x79, x80, x81, x82, x83, x84, x85, x86, x87, x88, x89, x90, x91, x92, x93, x94, x95, x96, x97, x98, x99, x100, x101, x102, x103, x104, x105, x106, x107, x108, x109, x110, x111, x112, x113, x114, x115, x116, x117, x118, x119, x120, x121, x122, x123, x124, x125, x126, x127, x128, x129, x130, x131, x132, x133, x134, x135, x136, x137, x138, x139, x140, x141, x142, x143, x144, x145, x146, x147, x148, x149, x150, x151, x152, x153, x154, x155, x156, x157, x158, x159, x160, x161, x162, x163, x164, x165, x166, x167, x168, x169, x170, x171, x172, x173, x174, x175, x176, x177, x178, x179, x180, x181, x182, x183, x184, x185, x186, x187, x188, x189, x190, x191, x192, x193, x194, x195, x196, x197, x198, x199, x200, x201, x202, x203, x204, x205, x206, x207, x208, x209, x210, x211, x212, x213, x214, x215, x216], []⟩ w1 := by
  obtain ⟨i3, hi3, h30, h31, h32⟩ := info_parts info3W
  obtain ⟨i22, hi22, h220, h221, h222⟩ := info_parts info22W
  have hd10 := hm.d
  rw [← hn] at hd10
  have hal2 : al ≤ 1024 := by rw [hal]; exact Nat.le_trans (Nat.pow_le_pow_right (by decide) hd10) (by decide)
  have HC := hide' (fun lb lc z h1 h2 h3 => plannedC y hm hs goal n al en hn hl hal hen w ga af ad as' gc cf cd cs A lb lc z h1 h2 hea h3)
  have HLN : Hid (y.fed.length ≤ 1000 ∧ y.drawn.length ≤ 1000) := ⟨rising_small hm.f (by have := hm.p; omega), rising_small hm.w (by have := hm.p; omega)⟩
  have HCO : Hid (∀ z c, Below w1.heap.size w1 z → c < al → Calls Try.prog 26 #[.agg #[.int .i64 y.points, .slice af y.fed.length cf, .slice ad y.drawn.length cd, .slice as' n cs], .int .i64 (c : Int)] z fun e w' => ∃ af2 ad2 as2 cf2 cd2 cs2, e = .returned (.agg #[.int .i64 y.points, .slice af2 y.fed.length cf2, .slice ad2 y.drawn.length cd2, .slice as2 n cs2]) ∧ YardAt w' af2 ad2 as2 cf2 cd2 cs2 (y.at c) ∧ Below z.heap.size z w') := fun z c hbz hc => by
    have h1 := coded_any y c af ad as' cf cd cs z (hy.below hbz (Nat.le_refl _)) (by have := HLN.out; omega) (by have := HLN.out; omega) (by omega) (by omega)
    rw [← hn] at h1
    unfold YardM.at
    rw [← hn]
    exact h1
  have HSO : Hid (∀ z c (af2 ad2 as2 : Option Addr) (cf2 cd2 cs2 : Nat), YardAt z af2 ad2 as2 cf2 cd2 cs2 (y.at c) → Calls Try.prog 23 #[.agg #[.int .i64 y.points, .slice af2 y.fed.length cf2, .slice ad2 y.drawn.length cd2, .slice as2 n cs2]] z fun e w' => e = .returned (.bool (soundB (y.at c))) ∧ Below z.heap.size z w') := fun z c af2 ad2 as2 cf2 cd2 cs2 h => by
    have h1 := Sound_any (y.at c) (at_may hm c) af2 ad2 as2 cf2 cd2 cs2 z h
    rw [at_len, ← hn] at h1
    exact h1
  have HMV : Hid (∀ z c k (af2 ad2 as2 : Option Addr) (cf2 cd2 cs2 : Nat), YardAt z af2 ad2 as2 cf2 cd2 cs2 (y.at c) → k < n → Calls Try.prog 24 #[.agg #[.int .i64 y.points, .slice af2 y.fed.length cf2, .slice ad2 y.drawn.length cd2, .slice as2 n cs2], .int .i64 (k : Int)] z fun e w' => ((moveErr (y.at c) k ≠ 0 ∧ e = .returned (.tuple #[.agg #[.int .i64 0, .slice none 0 0, .slice none 0 0, .slice none 0 0], .int .i64 (moveErr (y.at c) k)])) ∨ (moveErr (y.at c) k = 0 ∧ ∃ af3 ad3 as3 cf3 cd3 cs3, e = .returned (.tuple #[.agg #[.int .i64 y.points, .slice af3 y.fed.length cf3, .slice ad3 y.drawn.length cd3, .slice as3 n cs3], .int .i64 0]) ∧ ∀ w2, KeepX w' w2 → YardAt w2 af3 ad3 as3 cf3 cd3 cs3 ((y.at c).turn k))) ∧ Below z.heap.size z w') := fun z c k af2 ad2 as2 cf2 cd2 cs2 h hk => by
    have h1 := moveOf_any (y.at c) (at_may hm c) k (by rw [at_len, ← hn]; exact hk) af2 ad2 as2 cf2 cd2 cs2 z h
    unfold MoveOfO zero4 at h1
    rw [at_len, ← hn] at h1
    exact h1
  have HYC : Hid (∀ z c k (af3 ad3 as3 : Option Addr) (cf3 cd3 cs3 : Nat), YardAt z af3 ad3 as3 cf3 cd3 cs3 ((y.at c).turn k) → Calls Try.prog 27 #[.agg #[.int .i64 y.points, .slice af3 y.fed.length cf3, .slice ad3 y.drawn.length cd3, .slice as3 n cs3]] z fun e w' => e = .returned (.int .i64 ((((y.at c).turn k).code : Nat) : Int)) ∧ Below z.heap.size z w') := fun z c k af3 ad3 as3 cf3 cd3 cs3 h => by
    have h1 := yardCode_any ((y.at c).turn k) af3 ad3 as3 cf3 cd3 cs3 z h.s (by rw [turn_len, at_len, ← hn]; omega)
    rw [turn_len, at_len, ← hn] at h1
    exact h1
  have HLI : Hid (∀ c k, c < al → k < n → leadF y c k = if soundB (y.at c) = true ∧ moveErr (y.at c) k = 0 then some ((y.at c).turn k).code else none) := fun c k hc hk => by
    unfold leadF
    rw [← hn, ← hal]
    by_cases h : soundB (y.at c) = true ∧ moveErr (y.at c) k = 0
    · rw [if_pos h, if_pos ⟨hk, hc, h⟩]
    · rw [if_neg h, if_neg (fun h' => h h'.2.2)]
  have HAB := hide' hA
  have HY1 := hide' hy
  have HB1 := hide' hb
  have hal0 : 0 < al := by omega
  clear hm hs hn hl hal hen hb hy hA
  conv => arg 2; whnf
  refine wp_seq_k fun K0 hK0 => ?_
  have HK0 := hide' hK0
  clear hK0
  go_wp2_with fail
  refine HK0.out _ _ ?_
  clear HK0 K0
  refine wp_seq_k fun K1 hK1 => ?_
  have HK1 := hide' hK1
  clear hK1
  go_wp2_with fail
  go_loopw [9, 10] (fun lv cv wr => ∃ (c : Nat) (bs : List Nat), cv = .int .i64 c ∧ c ≤ al ∧ bs.length = c ∧ Hid (LeadsO w1 wr lv bs n y)) (fun _ cv _ => al - (intOf cv).toNat)
  case atStart => exact ⟨0, [], rfl, Nat.zero_le _, rfl, World.ownsRow_nil _ _ _ _, fun j b h => by simp at h, Below.refl _ w1⟩
  case round =>
    obtain ⟨c, bs, rfl, hc, hbs, HL⟩ := hrel
    by_cases hcl : c < al
    · have hAw := (HL.out.bel.block A (lt_heap HAB.out)).trans HAB.out
      have a0 : wr.cell? ⟨A, 0, none⟩ = some (.int .i64 y.points) := (cells_at hAw 0).trans rfl
      have a1 : wr.cell? ⟨A, 1, none⟩ = some (.slice af y.fed.length cf) := (cells_at hAw 1).trans rfl
      have a2 : wr.cell? ⟨A, 2, none⟩ = some (.slice ad y.drawn.length cd) := (cells_at hAw 2).trans rfl
      have a3 : wr.cell? ⟨A, 3, none⟩ = some (.slice as' n cs) := (cells_at hAw 3).trans rfl
      go_wp2_with fail
      refine (HCO.out wr c HL.out.bel hcl).mono ?_
      rintro e w2 ⟨af2, ad2, as2, cf2, cd2, cs2, rfl, hy2, hb2⟩
      have HL2 := hide' (HL.out.below hb2)
      have HY2 := hide' hy2
      clear hb2 hy2 hAw a0 a1 a2 a3 HL
      go_upto_region 19 with fail
      obtain ⟨Z, hZ⟩ : ∃ x, x = w2.heap.size := ⟨_, rfl⟩
      have hb3 := below_al w2 (.cells #[.int .i64 y.points, .slice af2 y.fed.length cf2, .slice ad2 y.drawn.length cd2, .slice as2 n cs2] 25)
      have hn3 := alloc_new w2 (.cells #[.int .i64 y.points, .slice af2 y.fed.length cf2, .slice ad2 y.drawn.length cd2, .slice as2 n cs2] 25)
      obtain ⟨w3, hw3⟩ : ∃ x, x = w2.alloc (.cells #[.int .i64 y.points, .slice af2 y.fed.length cf2, .slice ad2 y.drawn.length cd2, .slice as2 n cs2] 25) := ⟨_, rfl⟩
      rw [← hw3] at hb3 hn3 ⊢
      rw [← hZ] at hn3 ⊢
      have HL3 := hide' (HL2.out.below hb3)
      have HY3 := hide' (HY2.out.below hb3 (Nat.le_refl _))
      have HZ3 := hide' hn3
      have z0 : w3.cell? ⟨Z, 0, none⟩ = some (.int .i64 y.points) := (cells_at HZ3.out 0).trans rfl
      have z1 : w3.cell? ⟨Z, 1, none⟩ = some (.slice af2 y.fed.length cf2) := (cells_at HZ3.out 1).trans rfl
      have z2 : w3.cell? ⟨Z, 2, none⟩ = some (.slice ad2 y.drawn.length cd2) := (cells_at HZ3.out 2).trans rfl
      have z3 : w3.cell? ⟨Z, 3, none⟩ = some (.slice as2 n cs2) := (cells_at HZ3.out 3).trans rfl
      clear hb3 hn3 hw3 hZ HL2 HY2
      go_wp2_with (at_make; refine wpList_make_full _ rfl _ _ 22 rfl w3.heap.size 3 i3 (.int .i64 0) 1 Try.underlying22 hi3 h30 h31 .i64 .i64 _ _ n rfl rfl rfl rfl (by rw [h32]; omega) (by unfold maxLen; omega) (Nat.le_refl _) ?_; intro w4 hown hgr; refine Still.go ?_)
      unfold Still
      have hb4 : Below w3.heap.size w3 w4 := (Below.refl _ w3).grown hgr (Nat.le_refl _) (fun k e => by cases e)
      obtain ⟨b, hbb⟩ : ∃ x, x = w3.heap.size := ⟨_, rfl⟩
      have HBB : Hid (w3.heap.size ≤ b) := Nat.le_of_eq hbb.symm
      have HI4 : Hid (IntsF w4 b n (rowK y c 0) ∧ Below w3.heap.size w3 w4) := by
        refine ⟨?_, hb4⟩
        rw [hbb]
        exact (IntsF.of_own hown).congr (fun x _ => (if_neg (Nat.not_lt_zero x)).symm)
      rw [← hbb] at ⊢
      have y0 := up_cell HI4.out.2 z0
      have y1 := up_cell HI4.out.2 z1
      have y2 := up_cell HI4.out.2 z2
      have y3 := up_cell HI4.out.2 z3
      clear hown hgr hb4 hbb
      go_wp2_with fail
      refine (HSO.out w4 c af2 ad2 as2 cf2 cd2 cs2 (HY3.out.below HI4.out.2 (Nat.le_refl _))).mono ?_
      rintro e w5 ⟨rfl, hb5⟩
      have HI5 : Hid (IntsF w5 b n (rowK y c 0) ∧ Below w3.heap.size w3 w5) := ⟨HI4.out.1.below hb5, HI4.out.2.trans (hb5.mono HI4.out.2.size)⟩
      clear hb5 HI4 y0 y1 y2 y3
      obtain ⟨sb, hsb⟩ : ∃ x, x = soundB (y.at c) := ⟨_, rfl⟩
      rw [← hsb]
      have HSB := hide' hsb
      clear hsb
      go_wp2_with fail
      go_loopw [14] (fun kv wr => ∃ (k : Nat), kv = .int .i64 k ∧ k ≤ n ∧ Hid (IntsF wr b n (rowK y c k) ∧ Below w3.heap.size w3 wr)) (fun kv _ => n - (intOf kv).toNat)
      case atStart => exact ⟨0, rfl, Nat.zero_le _, HI5.out⟩
      case round =>
        clear HI5
        obtain ⟨k, rfl, hk, HI⟩ := hrel
        by_cases hkn : k < n
        · obtain ⟨c1, f1⟩ := HI.out.1.cell hkn
          have HIA : Hid (IntsF (wr.setCell ⟨b, k, none⟩ (.int .i64 (-1))) b n (fun x => if x = k then -1 else rowK y c k x) ∧ Below w3.heap.size w3 (wr.setCell ⟨b, k, none⟩ (.int .i64 (-1)))) := ⟨HI.out.1.set hkn (-1), HI.out.2.setCell (p := ⟨b, k, none⟩) HBB.out _⟩
          clear HI
          obtain ⟨wa, hwa⟩ : ∃ x, x = wr.setCell ⟨b, k, none⟩ (.int .i64 (-1)) := ⟨_, rfl⟩
          rw [← hwa] at HIA
          have HWA := hide' hwa
          clear hwa
          go_upto_region 25 with fail
          rw [← HWA.out]
          clear HWA c1 f1
          cases sb
          · have HN : Hid (IntsF wa b n (rowK y c (k + 1)) ∧ Below w3.heap.size w3 wa) := ⟨HIA.out.1.step (v := -1) (fun x hx => if_neg hx) (leadI_none (by rw [HLI.out c k hcl hkn, if_neg (fun h => by rw [← HSB.out] at h; exact absurd h.1 (by decide))])).symm (if_pos rfl), HIA.out.2⟩
            clear HIA
            go_wp2_with fail
            go_roundw
            case rel => exact ⟨k + 1, by go_num, by omega, HN.out⟩
            case measure => simp only [intOf]; omega
          · have q0 := up_cell HIA.out.2 z0
            have q1 := up_cell HIA.out.2 z1
            have q2 := up_cell HIA.out.2 z2
            have q3 := up_cell HIA.out.2 z3
            go_wp2_with fail
            refine (HMV.out wa c k af2 ad2 as2 cf2 cd2 cs2 (HY3.out.below HIA.out.2 (Nat.le_refl _)) hkn).mono ?_
            rintro e w6 ⟨⟨hne, rfl⟩ | ⟨h0, af3, ad3, as3, cf3, cd3, cs3, rfl, hy6⟩, hb6⟩
            · have HI6 : Hid (IntsF w6 b n (rowK y c (k + 1)) ∧ Below w3.heap.size w3 w6) := ⟨(HIA.out.1.step (v := -1) (fun x hx => if_neg hx) (leadI_none (by rw [HLI.out c k hcl hkn, if_neg (fun h => hne h.2)])).symm (if_pos rfl)).below hb6, HIA.out.2.trans (hb6.mono HIA.out.2.size)⟩
              obtain ⟨er, hei⟩ : ∃ x, x = moveErr (y.at c) k := ⟨_, rfl⟩
              rw [← hei] at hne ⊢
              clear hei hb6 HIA q0 q1 q2 q3
              go_upto_region 27 with fail
              have hb7 := below_al w6 (.cells #[.int .i64 0, .slice none 0 0, .slice none 0 0, .slice none 0 0] 25)
              obtain ⟨w7, hw7⟩ : ∃ x, x = w6.alloc (.cells #[.int .i64 0, .slice none 0 0, .slice none 0 0, .slice none 0 0] 25) := ⟨_, rfl⟩
              rw [← hw7] at hb7 ⊢
              have HI7 : Hid (IntsF w7 b n (rowK y c (k + 1)) ∧ Below w3.heap.size w3 w7) := ⟨HI6.out.1.below hb7, HI6.out.2.trans (hb7.mono HI6.out.2.size)⟩
              clear hb7 hw7 HI6
              go_wp2_with fail
              go_roundw
              case rel => exact ⟨k + 1, by go_num, by omega, HI7.out⟩
              case measure => simp only [intOf]; omega
            · have HLD : Hid (leadI y c k = ((((y.at c).turn k).code : Nat) : Int)) := leadI_some (by rw [HLI.out c k hcl hkn, if_pos ⟨HSB.out.symm, h0⟩])
              have HI6 : Hid (IntsF w6 b n (fun x => if x = k then -1 else rowK y c k x) ∧ Below w3.heap.size w3 w6) := ⟨HIA.out.1.below hb6, HIA.out.2.trans (hb6.mono HIA.out.2.size)⟩
              have HY6 := hide' hy6
              clear h0 hb6 hy6 HIA q0 q1 q2 q3
              go_upto_region 27 with fail
              obtain ⟨X, hX⟩ : ∃ x, x = w6.heap.size := ⟨_, rfl⟩
              have hb7 := below_al w6 (.cells #[.int .i64 y.points, .slice af3 y.fed.length cf3, .slice ad3 y.drawn.length cd3, .slice as3 n cs3] 25)
              have hn7 := alloc_new w6 (.cells #[.int .i64 y.points, .slice af3 y.fed.length cf3, .slice ad3 y.drawn.length cd3, .slice as3 n cs3] 25)
              obtain ⟨w7, hw7⟩ : ∃ x, x = w6.alloc (.cells #[.int .i64 y.points, .slice af3 y.fed.length cf3, .slice ad3 y.drawn.length cd3, .slice as3 n cs3] 25) := ⟨_, rfl⟩
              rw [← hw7] at hb7 hn7 ⊢
              rw [← hX] at hn7 ⊢
              have HI7 : Hid (IntsF w7 b n (fun x => if x = k then -1 else rowK y c k x) ∧ Below w3.heap.size w3 w7) := ⟨HI6.out.1.below hb7, HI6.out.2.trans (hb7.mono HI6.out.2.size)⟩
              have HYC7 := hide' (HYC.out w7 c k af3 ad3 as3 cf3 cd3 cs3 (HY6.out w7 (KeepX.below hb7 (Nat.le_refl _))))
              have q0 : w7.cell? ⟨X, 0, none⟩ = some (.int .i64 y.points) := (cells_at hn7 0).trans rfl
              have q1 : w7.cell? ⟨X, 1, none⟩ = some (.slice af3 y.fed.length cf3) := (cells_at hn7 1).trans rfl
              have q2 : w7.cell? ⟨X, 2, none⟩ = some (.slice ad3 y.drawn.length cd3) := (cells_at hn7 2).trans rfl
              have q3 : w7.cell? ⟨X, 3, none⟩ = some (.slice as3 n cs3) := (cells_at hn7 3).trans rfl
              clear hb7 hw7 hX HI6 HY6 hn7
              obtain ⟨cd, hcd⟩ : ∃ x, x = ((y.at c).turn k).code := ⟨_, rfl⟩
              rw [← hcd] at HLD HYC7
              clear hcd
              go_wp2_with fail
              refine HYC7.out.mono ?_
              clear HYC7
              rintro e w8 ⟨rfl, hb8⟩
              have HI8 : Hid (IntsF w8 b n (fun x => if x = k then -1 else rowK y c k x) ∧ Below w3.heap.size w3 w8) := ⟨HI7.out.1.below hb8, HI7.out.2.trans (hb8.mono HI7.out.2.size)⟩
              obtain ⟨c1, f1⟩ := HI8.out.1.cell hkn
              have HI9 : Hid (IntsF (w8.setCell ⟨b, k, none⟩ (.int .i64 (cd : Int))) b n (rowK y c (k + 1)) ∧ Below w3.heap.size w3 (w8.setCell ⟨b, k, none⟩ (.int .i64 (cd : Int)))) := ⟨(HI8.out.1.set hkn (cd : Int)).step (v := (cd : Int)) (fun x hx => by rw [if_neg hx, if_neg hx]) HLD.out.symm (if_pos rfl), HI8.out.2.setCell (p := ⟨b, k, none⟩) HBB.out _⟩
              clear HI7 hb8 HI8 q0 q1 q2 q3
              go_wp2_with fail
              go_roundw
              case rel => exact ⟨k + 1, by go_num, by omega, HI9.out⟩
              case measure => simp only [intOf]; omega
        · have hke : k = n := by omega
          have HIN : Hid (IntsF wr b n (leadI y bs.length) ∧ Below w3.heap.size w3 wr) := ⟨HI.out.1.congr (fun x hx => by rw [hbs]; exact if_pos (by omega)), HI.out.2⟩
          have HL5 := hide' (HL3.out.below HI.out.2)
          clear HI
          go_wp2_with (at_builtin; refine wpList_append_own _ rfl _ _ 56 rfl w1.heap.size 22 i22 (.slice none 0 0) 1 24 Try.underlying56 hi22 h220 h221 h222 rfl (by decide) _ _ _ rfl (own_below HL5.out.row (below_al _ _) (Nat.le_refl _)) ⟨wr.heap.size, 0, none⟩ 1 1 [sliceN n b] rfl rfl (cell_one_new _ _ _) (one_cell rfl) (by unfold maxLen; omega) (by omega) (Nat.le_trans HL5.out.bel.size (below_al _ _).size) ?_; intro v' w8 hown' hgrow _; refine Still.go ?_)
          unfold Still
          have HL8 := hide' (HL5.out.add HIN.out.1 hgrow hown')
          clear hown' hgrow HL5 HIN
          go_wp2_with fail
          go_roundw
          case rel => exact ⟨c + 1, bs ++ [b], by go_num, by omega, by rw [List.length_append, hbs]; rfl, HL8.out⟩
          case measure => simp only [intOf]; omega
    · have hce : bs.length = al := by omega
      obtain ⟨lb, lc, hlv⟩ := HL.out.at_ (by omega)
      rw [hce] at hlv
      subst hlv
      go_wp2_with fail
      refine HK1.out _ _ ?_
      refine HC.out lb lc wr ((HL.out.bel.block A (lt_heap HAB.out)).trans HAB.out) (HY1.out.below HL.out.bel (Nat.le_refl _)) (HL.out.cells hce) (HB1.out.trans (HL.out.bel.mono HB1.out.size)) _ _ _ _ _ _ _ _ _ _ _ _ _ _ _ _ _ _ _ _ _ _ _ _ _ _ _ _ _ _ _ _ _ _ _ _ _ _ _ _ _ _ _ _ _ _ _ _ _ _ _ _ _ _ _ _ _ _ _ _ _ _ _ _ _ _ _ _ _ _ _ _ _ _ _ _ _ _ _ _ _ _ _ _ _ _ _ _ _ _ _ _ _ _ _ _ _ _ _ _ _ _ _ _ _ _ _ _ _ _ _ _ _ _ _ _ _ _ _ _ _ _ _ _ _ _ _ _ _ _ _ _ _ _ _ _ _ _ _ _ _ _ _ _ _ _ _ _ _ _ _ _ _ _ _ _ _ _ _ _ _ _ _ _ _ _ _ _ _ _ _ _ _ _ _ _ _ _ _ _ _ _ _ _ _ _ _ _ _ _ _ _ _ _ _ _ _ _ _ _ _ _ _ _ _ _ _ _ _ _ _
end Go.Proofs.Ytcnoipcpifackah
