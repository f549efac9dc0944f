/- A plan is short: its moves are let through. -/
import Derived.Test.YtcnoipcpifackahYk
import Derived.Test.YtcnoipcpifackahUa
namespace Go.Proofs.Ytcnoipcpifackah
open Go.RowKit Go.Shelf

theorem row_len63 {w : World} {B e sz n : Nat} {v : Value} {xs : List Value} (h : w.ownsRow B e sz v n xs) : n ≤ 9223372036854775807 := by
  rcases h.2 with ⟨_, h1⟩ | ⟨g, c, cur, _, _, _, h1, h2, _⟩
  · omega
  · unfold maxLen at h2
    omega
/-- What a move answers, of a yard on its way. -/
def Res (y : YardM) (j n lf ls : Nat) (bf bd bs : Option Addr) (bF bD bS : Nat) (zc : World) (er pt : Int) (a1 a2 a3 : Option Addr) (n1 c1 n2 c2 n3 c3 : Nat) : Prop :=
  (er ≠ 0 ∧ moveErr y j ≠ 0) ∨ (er = 0 ∧ moveErr y j = 0 ∧ pt = (n : Int) ∧ n1 = lf ∧ n2 = 1 ∧ n3 = ls ∧ ∀ w0, KeepX zc w0 → YardAt w0 bf bd bs bF bD bS y → YardAt w0 a1 a2 a3 c1 c2 c3 (y.turn j))
theorem Move_res (y : YardM) (n lf ls j : Nat) (bf bd bs : Option Addr) (bF bD bS : Nat) (w : World) (hy : YL y n lf ls) (hat : YardAt w bf bd bs bF bD bS y) (hj : j < ls) :
    Calls Try.prog 7 #[.agg #[.int .i64 (n : Int), .slice bf lf bF, .slice bd 1 bD, .slice bs ls bS], .int .i64 (j : Int)] w fun e w' => ∃ (er pt : Int) (a1 a2 a3 : Option Addr) (n1 c1 n2 c2 n3 c3 : Nat), e = .returned (.tuple #[.agg #[.int .i64 pt, .slice a1 n1 c1, .slice a2 n2 c2, .slice a3 n3 c3], .int .i64 er]) ∧ Res y j n lf ls bf bd bs bF bD bS w' er pt a1 a2 a3 n1 c1 n2 c2 n3 c3 ∧ Below w.heap.size w w' := by
  have h1 := rising_small hy.may.f (by have := hy.may.p; omega)
  have h2 := hy.may.d
  have h3 := Move_keep y (j : Int) bf bd bs bF bD bS w hat (by omega) (by rw [hy.ed]; decide) (by omega)
  rw [hy.en, hy.ef, hy.ed, hy.es] at h3
  refine h3.mono ?_
  rintro e w' ⟨h, hb⟩
  rcases h with ⟨h, _⟩ | ⟨_, h, _⟩ | ⟨_, j', hj', _, h⟩
  · rw [mayYB_iff.2 hy.may, hy.snd] at h; cases h
  · rw [hy.es] at h; omega
  · obtain rfl : j' = j := by omega
    rcases h with ⟨h, rfl⟩ | ⟨h, cf, cd, cs, cF, cD, cS, rfl, h2⟩
    · exact ⟨moveErr y j', 0, none, none, none, 0, 0, 0, 0, 0, 0, rfl, .inl ⟨h, h⟩, hb⟩
    · exact ⟨0, n, cf, cd, cs, lf, cF, 1, cD, ls, cS, by rw [hy.en, hy.ef, hy.ed, hy.es], .inr ⟨rfl, h, rfl, rfl, rfl, rfl, h2⟩, hb⟩
/-- What a move has left, in a box. -/
def Ret (y : YardM) (j n lf ls : Nat) (T : Nat) (z z4 : World) (er pt : Int) (a1 a2 a3 : Option Addr) (n1 c1 n2 c2 n3 c3 : Nat) : Prop :=
  z4.heap[T]? = some (.cells #[.int .i64 pt, .slice a1 n1 c1, .slice a2 n2 c2, .slice a3 n3 c3] 25 (0, 0)) ∧ Below z.heap.size z z4 ∧ z.heap.size ≤ T ∧ ((er ≠ 0 ∧ moveErr y j ≠ 0) ∨ (er = 0 ∧ moveErr y j = 0 ∧ pt = (n : Int) ∧ n1 = lf ∧ n2 = 1 ∧ n3 = ls ∧ YardAt z4 a1 a2 a3 c1 c2 c3 (y.turn j)))
theorem res_ret {z zc z3 : World} {y : YardM} {j n lf ls T : Nat} {bf bd bs : Option Addr} {bF bD bS : Nat} {er pt : Int} {a1 a2 a3 : Option Addr} {n1 c1 n2 c2 n3 c3 : Nat} (hT : z3.heap[T]? = some (.cells #[.int .i64 0, .slice none 0 0, .slice none 0 0, .slice none 0 0] 25 (0, 0))) (hzT : z.heap.size ≤ T) (hb : Below z.heap.size z z3) (hk : KeepX zc z3) (hr : Res y j n lf ls bf bd bs bF bD bS zc er pt a1 a2 a3 n1 c1 n2 c2 n3 c3) (hy : YardAt z bf bd bs bF bD bS y) : Ret y j n lf ls T z ((((z3.setCell ⟨T, 0, none⟩ (.int .i64 pt)).setCell ⟨T, 1, none⟩ (.slice a1 n1 c1)).setCell ⟨T, 2, none⟩ (.slice a2 n2 c2)).setCell ⟨T, 3, none⟩ (.slice a3 n3 c3)) er pt a1 a2 a3 n1 c1 n2 c2 n3 c3 := by
  have hh : ∀ k, k ≠ T → ((((z3.setCell ⟨T, 0, none⟩ (.int .i64 pt)).setCell ⟨T, 1, none⟩ (.slice a1 n1 c1)).setCell ⟨T, 2, none⟩ (.slice a2 n2 c2)).setCell ⟨T, 3, none⟩ (.slice a3 n3 c3)).heap[k]? = z3.heap[k]? := fun k hkT => by
    rw [Below.heap_setCell _ _ _ k hkT, Below.heap_setCell _ _ _ k hkT, Below.heap_setCell _ _ _ k hkT, Below.heap_setCell _ _ _ k hkT]
  have hB : Below z.heap.size z ((((z3.setCell ⟨T, 0, none⟩ (.int .i64 pt)).setCell ⟨T, 1, none⟩ (.slice a1 n1 c1)).setCell ⟨T, 2, none⟩ (.slice a2 n2 c2)).setCell ⟨T, 3, none⟩ (.slice a3 n3 c3)) := (((hb.setCell (p := ⟨T, 0, none⟩) hzT _).setCell (p := ⟨T, 1, none⟩) hzT _).setCell (p := ⟨T, 2, none⟩) hzT _).setCell (p := ⟨T, 3, none⟩) hzT _
  refine ⟨set_four hT _ _ _ _, hB, hzT, ?_⟩
  rcases hr with h | ⟨h1, h2, h3, h4, h5, h6, h7⟩
  · exact .inl h
  · refine .inr ⟨h1, h2, h3, h4, h5, h6, h7 _ (hk.trans fun k cur e1 fz hkk he => hh k (fun e => ?_)) (hy.below hB (Nat.le_refl _))⟩
    rw [e, hT] at hkk
    cases hkk
    simp at he
/-- What lies there while a plan is walked. -/
structure SH (w wr : World) (A n lf ls : Nat) (z : YardM) (bf bd bs : Option Addr) (bF bD bS : Nat) (gv : Value) (goal : List Bool) (lv : Value) (q : List Nat) : Prop where
  lp : LP w wr A n lf ls z bf bd bs bF bD bS
  goal : wr.ownsRow w.heap.size 4 1 gv ls (goal.map Value.bool)
  row : wr.ownsRow w.heap.size 3 1 lv q.length (ints (natI q))
theorem SH.more {w wr w' : World} {A n lf ls : Nat} {z : YardM} {bf bd bs : Option Addr} {bF bD bS : Nat} {gv lv : Value} {goal : List Bool} {q : List Nat} (h : SH w wr A n lf ls z bf bd bs bF bD bS gv goal lv q) (hb : Below wr.heap.size wr w') : SH w w' A n lf ls z bf bd bs bF bD bS gv goal lv q :=
  ⟨h.lp.more hb, own_below h.goal hb (Nat.le_refl _), own_below h.row hb (Nat.le_refl _)⟩
theorem keep4 {w : World} {A : Nat} {cs : Array Value} (h : w.heap[A]? = some (.cells cs 25 (0, 0))) (v0 v1 v2 v3 : Value) : KeepE 25 w ((((w.setCell ⟨A, 0, none⟩ v0).setCell ⟨A, 1, none⟩ v1).setCell ⟨A, 2, none⟩ v2).setCell ⟨A, 3, none⟩ v3) := fun k cur e1 fz hk he => by
  have hkA : k ≠ A := fun e => by
    rw [e, h] at hk
    cases hk
    exact he rfl
  rw [Below.heap_setCell _ _ _ k hkA, Below.heap_setCell _ _ _ k hkA, Below.heap_setCell _ _ _ k hkA, Below.heap_setCell _ _ _ k hkA]
theorem SH.store {w wr : World} {A T n lf ls : Nat} {z z2 : YardM} {bf bd bs cf cd cs : Option Addr} {bF bD bS cF cD cS : Nat} {gv lv : Value} {goal : List Bool} {q : List Nat} (h : SH w wr A n lf ls z bf bd bs bF bD bS gv goal lv q) (hT : LP w wr T n lf ls z2 cf cd cs cF cD cS) (hls : 0 < ls) : SH w ((((wr.setCell ⟨A, 0, none⟩ (.int .i64 (n : Int))).setCell ⟨A, 1, none⟩ (.slice cf lf cF)).setCell ⟨A, 2, none⟩ (.slice cd 1 cD)).setCell ⟨A, 3, none⟩ (.slice cs ls cS)) A n lf ls z2 cf cd cs cF cD cS gv goal lv q :=
  ⟨LP.store h.lp hT hls, own_keep h.goal (keep4 h.lp.hA _ _ _ _) (by decide), own_keep h.row (keep4 h.lp.hA _ _ _ _) (by decide)⟩
theorem natI_get (q : List Nat) (i : Nat) (h : i < q.length) : (ints (natI q))[i]? = some (.int .i64 (q[i] : Int)) := by
  unfold ints natI
  rw [List.getElem?_map, List.getElem?_map, List.getElem?_eq_getElem h]
  rfl
theorem shuts_goal {y : YardM} {goal : List Bool} (h : goal.length = y.devs.length) : shuts (y.at (codeB goal)).devs = goal := by
  have h1 := code_lt goal
  rw [h] at h1
  refine code_inj (by rw [shuts_len, at_len, h]) ?_
  exact code_at y h1
set_option maxRecDepth 100000 in
set_option maxHeartbeats 4000000 in
theorem shortF (w w1 : World) (n lf ls Fb : Nat) (y0 : YardM) (ff fd fs : Option Addr) (fF fD fS : Nat) (ga la : Option Addr) (gc lc : Nat) (goal : List Bool) (q : List Nat) (hgl : goal.length = ls) (hq : runK (leadF y0) y0.code q = some (codeB goal)) (hS : SH w w1 Fb n lf ls y0 ff fd fs fF fD fS (.slice ga ls gc) goal (.slice la q.length lc) q) (x0 x1 x2 x3 x4 x5 x6 x7 x9 x10 x11 x12 x13 x15 x17 x18 x19 x20 x21 x22 x23 x24 x25 x26 x27 x28 x29 x30 x31 x32 x33 x34 x35 x36 x37 x38 x39 x40 x41 x42 x43 x44 x45 x46 x47 x48 x49 x50 x51 x52 x53 x54 x55 x56 x57 x58 x59 x60 x61 x62 x63 x64 x65 x66 x67 x68 x69 x70 x71 x72 x73 x74 x75 x76 x77 x78 x79 x80 x81 x82 x83 x84 x85 x86 x87 x88 x89 x90 x91 x92 x93 x94 x95 x96 x97 x98 x99 x100 x101 x102 x103 x104 x105 x106 x107 x108 x109 x110 x111 x112 x113 x114 x115 x116 x117 x118 x119 x120 x121 x122 x123 x124 x125 x126 x127 x128 x129 x130 x131 x132 x133 x134 x135 x136 x137 x138 x139 x140 x141 x142 x143 x144 x145 x146 x147 x148 x149 x150 x151 x152 x153 x154 x155 x156 x157 x158 x159 x160 x161 x162 x163 x164 x165 x166 x167 x168 x169 x170 x171 x172 x173 x174 x175 x176 x177 x178 x179 x180 : Value) : Code.wp Try.prog (dropC 12 (Try.f6.body.getD .skip)) (bodyPost Try.prog Try.f6 (fun e w' => e = .returned (.bool true) ∧ Below w.heap.size w w')) ⟨#[x0, x1, x2, x3, x4, x5, x6, x7, .pointer (some ⟨Fb, 0, none⟩), x9, x10, x11, x12, x13, .slice ga ls gc, x15, .slice la q.length lc, x17, x18, x19, x20, x21, x22, x23, x24, x25, x26, x27, x28, x29, x30, x31, x32, x33, x34, x35, x36, x37, x38, x39, x40, x41, x42, x43, x44, x45, x46, x47, x48, x49, x50, x51, x52, x53, x54, x55, x56, x57, x58, x59, x60, x61, x62, x63, x64, x65, x66, x67, x68, x69, x70, x71, x72, x73, x74, x75, x76, x77, x78, x79, x80, x81, x82, x83, x84, x85, x86, x87, x88, x89, x90, x91, x92, x93, x94, x95, x96, x97, x98, x99, x100, x101, x102, x103, x104, x105, x106, x107, x108, x109, x110, x111, x112, x113, x114, x115, x116, x117, x118, x119, x120, x121, x122, x123, x124, x125, x126, x127, x128, x129, x130, x131, x132, x133, x134, x135, x136, x137, x138, x139, x140, x141, x142, x143, x144, x145, x146, x147, x148, x149, x150, x151, x152, x153, x154, x155, x156, x157, x158, x159, x160, x161, x162, x163, x164, x165, x166, x167, x168, x169, x170, x171, x172, x173, x174, x175, x176, x177, x178, x179, x180], []⟩ w1 := by
  have hls10 : ls ≤ 10 := by have := hS.lp.yl.may.d; have := hS.lp.yl.es; omega
  have hql : q.length ≤ 9223372036854775807 := row_len63 hS.row
  have HM := hide' hS.lp.yl.may
  have HES : Hid (y0.devs.length = ls) := hS.lp.yl.es
  have HGL := hide' hgl
  have HQ := hide' hq
  have HS := hide' hS
  have f0 : w1.cell? ⟨Fb, 0, none⟩ = some (.int .i64 (n : Int)) := (cells_at hS.lp.hA 0).trans rfl
  have f1 : w1.cell? ⟨Fb, 1, none⟩ = some (.slice ff lf fF) := (cells_at hS.lp.hA 1).trans rfl
  have f2 : w1.cell? ⟨Fb, 2, none⟩ = some (.slice fd 1 fD) := (cells_at hS.lp.hA 2).trans rfl
  have f3 : w1.cell? ⟨Fb, 3, none⟩ = some (.slice fs ls fS) := (cells_at hS.lp.hA 3).trans rfl
  clear hS hgl hq
  conv => arg 2; whnf
  refine wp_seq_k fun K0 hK0 => ?_
  have HK0 := hide' hK0
  clear hK0
  go_wp2_with fail
  obtain ⟨A, hA⟩ : ∃ x, x = w1.heap.size := ⟨_, rfl⟩
  have hb2 := below_al w1 (.cells #[.int .i64 (n : Int), .slice ff lf fF, .slice fd 1 fD, .slice fs ls fS] 25)
  have hn2 := alloc_new w1 (.cells #[.int .i64 (n : Int), .slice ff lf fF, .slice fd 1 fD, .slice fs ls fS] 25)
  obtain ⟨w2, hw2⟩ : ∃ x, x = w1.alloc (.cells #[.int .i64 (n : Int), .slice ff lf fF, .slice fd 1 fD, .slice fs ls fS] 25) := ⟨_, rfl⟩
  rw [← hw2] at hb2 hn2 ⊢
  rw [← hA] at hn2 ⊢
  have HS2 : Hid (SH w w2 A n lf ls y0 ff fd fs fF fD fS (.slice ga ls gc) goal (.slice la q.length lc) q) := ⟨⟨hn2, by rw [hA]; exact HS.out.lp.bel.size, HS.out.lp.bel.trans (hb2.mono HS.out.lp.bel.size), HS.out.lp.yl, HS.out.lp.lies.below hb2 (Nat.le_refl _)⟩, own_below HS.out.goal hb2 (Nat.le_refl _), own_below HS.out.row hb2 (Nat.le_refl _)⟩
  clear hb2 hn2 hw2 hA HS f0 f1 f2 f3
  refine HK0.out _ _ ?_
  clear HK0 K0
  refine wp_seq_k fun K1 hK1 => ?_
  have HK1 := hide' hK1
  clear hK1
  go_wp2_with fail
  go_loopw [19] (fun iv wr => ∃ (i c : Nat) (bf bd bs : Option Addr) (bF bD bS : Nat), iv = .int .i64 i ∧ i ≤ q.length ∧ Hid (runK (leadF y0) c (q.drop i) = some (codeB goal)) ∧ Hid (SH w wr A n lf ls (y0.at c) bf bd bs bF bD bS (.slice ga ls gc) goal (.slice la q.length lc) q)) (fun iv _ => q.length - (intOf iv).toNat)
  case atStart => exact ⟨0, y0.code, ff, fd, fs, fF, fD, fS, rfl, Nat.zero_le _, HQ.out, by rw [at_self]; exact HS2.out⟩
  case round =>
    clear HS2
    obtain ⟨i, c, bf, bd, bs, bF, bD, bS, rfl, hi, HR, HS⟩ := hrel
    by_cases hil : i < q.length
    · obtain ⟨k, hk⟩ : ∃ k, k = q[i] := ⟨_, rfl⟩
      obtain ⟨t, HT⟩ : ∃ t, Hid (leadF y0 c k = some t ∧ runK (leadF y0) t (q.drop (i + 1)) = some (codeB goal)) := by
        have h1 := HR.out
        rw [List.drop_eq_getElem_cons hil, ← hk] at h1
        have h2 : (match leadF y0 c k with | some t => runK (leadF y0) t (q.drop (i + 1)) | none => none) = some (codeB goal) := h1
        rcases hlf : leadF y0 c k with _ | t
        · rw [hlf] at h2; cases h2
        · rw [hlf] at h2
          exact ⟨t, rfl, h2⟩
      have HLS := hide' (lead_some HM.out HT.out.1)
      have hkl : k < ls := by rw [← HES.out]; exact HLS.out.1
      obtain ⟨lb, hlb⟩ : ∃ lb, la = some ⟨lb, 0, none⟩ := by
        rcases HS.out.row.2 with ⟨_, h0⟩ | ⟨g, cp, _, hv, _⟩
        · omega
        · cases hv
          exact ⟨g, rfl⟩
      subst hlb
      have hc0 : wr.cell? ⟨lb, i, none⟩ = some (.int .i64 (k : Int)) := by rw [hk]; exact (own_cell HS.out.row (natI_get q i hil)).1
      have HYR := hide' HS.out.lp.lies
      have HMV : Hid (∀ z, Below wr.heap.size wr z → Calls Try.prog 7 #[.agg #[.int .i64 (n : Int), .slice bf lf bF, .slice bd 1 bD, .slice bs ls bS], .int .i64 (k : Int)] z fun e w' => ∃ (er pt : Int) (a1 a2 a3 : Option Addr) (n1 c1 n2 c2 n3 c3 : Nat), e = .returned (.tuple #[.agg #[.int .i64 pt, .slice a1 n1 c1, .slice a2 n2 c2, .slice a3 n3 c3], .int .i64 er]) ∧ Res (y0.at c) k n lf ls bf bd bs bF bD bS w' er pt a1 a2 a3 n1 c1 n2 c2 n3 c3 ∧ Below z.heap.size z w') := fun z hb => Move_res (y0.at c) n lf ls k bf bd bs bF bD bS z HS.out.lp.yl (HS.out.lp.lies.below hb (Nat.le_refl _)) hkl
      have SW : Hid (∀ W, Below wr.heap.size wr W → W.cell? ⟨A, 0, none⟩ = some (.int .i64 (n : Int)) ∧ W.cell? ⟨A, 1, none⟩ = some (.slice bf lf bF) ∧ W.cell? ⟨A, 2, none⟩ = some (.slice bd 1 bD) ∧ W.cell? ⟨A, 3, none⟩ = some (.slice bs ls bS) ∧ W.cell? ⟨lb, i, none⟩ = some (.int .i64 (k : Int))) := fun W hW => ⟨up_cell hW ((cells_at HS.out.lp.hA 0).trans rfl), up_cell hW ((cells_at HS.out.lp.hA 1).trans rfl), up_cell hW ((cells_at HS.out.lp.hA 2).trans rfl), up_cell hW ((cells_at HS.out.lp.hA 3).trans rfl), up_cell hW hc0⟩
      clear hk hc0
      go_upto_region 27 with fail
      go_cut [20, 21] from 136 to 144 (fun tv ev wc => ∃ (T : Nat) (er pt : Int) (a1 a2 a3 : Option Addr) (n1 c1 n2 c2 n3 c3 : Nat), tv = .pointer (some ⟨T, 0, none⟩) ∧ ev = .int .i64 er ∧ Hid (Ret (y0.at c) k n lf ls T wr wc er pt a1 a2 a3 n1 c1 n2 c2 n3 c3))
      case first =>
        refine wp_region_tail (fun W => W.cell? ⟨A, 0, none⟩ = some (.int .i64 (n : Int)) ∧ W.cell? ⟨A, 1, none⟩ = some (.slice bf lf bF) ∧ W.cell? ⟨A, 2, none⟩ = some (.slice bd 1 bD) ∧ W.cell? ⟨A, 3, none⟩ = some (.slice bs ls bS) ∧ W.cell? ⟨lb, i, none⟩ = some (.int .i64 (k : Int))) 11 (by kernel_rfl) ?_
        refine wpAnyT_letter (fun W => Below wr.heap.size wr W) (Below.refl _ wr).drew ?_
        rintro z hbz
        refine wpAnyD_takeAt 0 (some 137) (v := ?_) rfl (by kernel_rfl) (by kernel_rfl) (by kernel_rfl) (by kernel_rfl) (by kernel_rfl) (fun _ _ _ h => h) (by exact SW.out z hbz) (fun o hop => ?_) ?_
        rotate_left
        · injection hop with hop
          subst hop
          refine ⟨rfl, fun W hW => ?_⟩
          obtain ⟨s0, s1, s2, s3, s4⟩ := hW
          go_simp
          first
          | rfl
          | (constructor <;> rfl)
        try simp only [Act.put, List.setIfInBounds_toArray, List.set_cons_zero, List.set_cons_succ]
        refine wpAnyD_takeAt 1 (some 138) (v := ?_) rfl (by kernel_rfl) (by kernel_rfl) (by kernel_rfl) (by kernel_rfl) (by kernel_rfl) (fun _ _ _ h => h) (by exact SW.out z hbz) (fun o hop => ?_) ?_
        rotate_left
        · injection hop with hop
          subst hop
          refine ⟨rfl, fun W hW => ?_⟩
          obtain ⟨s0, s1, s2, s3, s4⟩ := hW
          go_simp
          first
          | rfl
          | (constructor <;> rfl)
        try simp only [Act.put, List.setIfInBounds_toArray, List.set_cons_zero, List.set_cons_succ]
        refine wpAnyD_takeAt 2 (some 139) (v := ?_) rfl (by kernel_rfl) (by kernel_rfl) (by kernel_rfl) (by kernel_rfl) (by kernel_rfl) (fun _ _ _ h => h) (by exact SW.out z hbz) (fun o hop => ?_) ?_
        rotate_left
        · injection hop with hop
          subst hop
          refine ⟨rfl, fun W hW => ?_⟩
          obtain ⟨s0, s1, s2, s3, s4⟩ := hW
          go_simp
          first
          | rfl
          | (constructor <;> rfl)
        try simp only [Act.put, List.setIfInBounds_toArray, List.set_cons_zero, List.set_cons_succ]
        refine wpAnyD_takeAt 3 (some 140) (v := ?_) rfl (by kernel_rfl) (by kernel_rfl) (by kernel_rfl) (by kernel_rfl) (by kernel_rfl) (fun _ _ _ h => h) (by exact SW.out z hbz) (fun o hop => ?_) ?_
        rotate_left
        · injection hop with hop
          subst hop
          refine ⟨rfl, fun W hW => ?_⟩
          obtain ⟨s0, s1, s2, s3, s4⟩ := hW
          go_simp
          first
          | rfl
          | (constructor <;> rfl)
        try simp only [Act.put, List.setIfInBounds_toArray, List.set_cons_zero, List.set_cons_succ]
        refine wpAnyD_takeAt 4 (some 141) (v := ?_) rfl (by kernel_rfl) (by kernel_rfl) (by kernel_rfl) (by kernel_rfl) (by kernel_rfl) (fun _ _ _ h => h) (by exact SW.out z hbz) (fun o hop => ?_) ?_
        rotate_left
        · injection hop with hop
          subst hop
          refine ⟨rfl, fun W hW => ?_⟩
          obtain ⟨s0, s1, s2, s3, s4⟩ := hW
          go_simp
          first
          | rfl
          | (constructor <;> rfl)
        try simp only [Act.put, List.setIfInBounds_toArray, List.set_cons_zero, List.set_cons_succ]
        refine wpAnyT_two (i := 5) (j := 9) (by kernel_rfl) rfl rfl rfl rfl (fun K' hK => ?_) (fun K' hK => ?_)
        · go_simp
          go_at_call 7
          refine (HMV.out z hbz).mono ?_
          rintro e z2 ⟨er, pt, a1, a2, a3, n1, c1, n2, c2, n3, c3, rfl, hres, hb2⟩
          have hbz2 : Below wr.heap.size wr z2 := hbz.trans (hb2.mono hbz.size)
          refine hK.out _ _ (fun _ => SW.out z2 hbz2) ?_
          clear hK K' hb2
          try simp only [Act.put, List.setIfInBounds_toArray, List.set_cons_zero, List.set_cons_succ]
          refine wpAnyD_takeAt 6 (some 136) (v := ?_) rfl (by kernel_rfl) (by kernel_rfl) (by kernel_rfl) (by kernel_rfl) (by kernel_rfl) (fun _ _ _ h => h) (by exact SW.out z2 hbz2) (fun o hop => ?_) ?_
          rotate_left
          · injection hop with hop
            subst hop
            refine ⟨rfl, fun W hW => ?_⟩
            obtain ⟨s0, s1, s2, s3, s4⟩ := hW
            go_simp
            first
            | rfl
            | (constructor <;> rfl)
          try simp only [Act.put, List.setIfInBounds_toArray, List.set_cons_zero, List.set_cons_succ]
          refine wpAnyD_takeAt 7 (some 143) (v := ?_) rfl (by kernel_rfl) (by kernel_rfl) (by kernel_rfl) (by kernel_rfl) (by kernel_rfl) (fun _ _ _ h => h) (by exact SW.out z2 hbz2) (fun o hop => ?_) ?_
          rotate_left
          · injection hop with hop
            subst hop
            refine ⟨rfl, fun W hW => ?_⟩
            obtain ⟨s0, s1, s2, s3, s4⟩ := hW
            go_simp
            first
            | rfl
            | (constructor <;> rfl)
          try simp only [Act.put, List.setIfInBounds_toArray, List.set_cons_zero, List.set_cons_succ]
          refine wpAnyD_takeAt 8 (some 144) (v := ?_) rfl (by kernel_rfl) (by kernel_rfl) (by kernel_rfl) (by kernel_rfl) (by kernel_rfl) (fun _ _ _ h => h) (by exact SW.out z2 hbz2) (fun o hop => ?_) ?_
          rotate_left
          · injection hop with hop
            subst hop
            refine ⟨rfl, fun W hW => ?_⟩
            obtain ⟨s0, s1, s2, s3, s4⟩ := hW
            go_simp
            first
            | rfl
            | (constructor <;> rfl)
          try simp only [Act.put, List.setIfInBounds_toArray, List.set_cons_zero, List.set_cons_succ]
          refine wpAnyT_one (i := 9) (by kernel_rfl) rfl rfl (fun K' hK => ?_)
          go_simp
          obtain ⟨T, hT⟩ : ∃ x, x = z2.heap.size := ⟨_, rfl⟩
          have hba := below_al z2 (.cells #[.int .i64 0, .slice none 0 0, .slice none 0 0, .slice none 0 0] 25)
          have hnw := alloc_new z2 (.cells #[.int .i64 0, .slice none 0 0, .slice none 0 0, .slice none 0 0] 25)
          rw [← hT] at hnw
          obtain ⟨z3, hz3⟩ : ∃ x, x = z2.alloc (.cells #[.int .i64 0, .slice none 0 0, .slice none 0 0, .slice none 0 0] 25) := ⟨_, rfl⟩
          rw [← hz3] at hnw hba ⊢
          rw [← hT]
          have HB3 : Hid (Below wr.heap.size wr z3) := hbz2.trans (hba.mono hbz2.size)
          have HTB : Hid (wr.heap.size ≤ T) := by show _ ≤ _; rw [hT]; exact hbz2.size
          have HT3 := hide' hnw
          have HRES := hide' hres
          have HKX : Hid (KeepX z2 z3) := KeepX.below hba (Nat.le_refl _)
          refine hK.out _ _ (fun _ => SW.out z3 HB3.out) ?_
          clear hK K' hba hnw hz3 hT hres
          try simp only [Act.put, List.setIfInBounds_toArray, List.set_cons_zero, List.set_cons_succ]
          have b0 : z3.cell? ⟨T, 0, none⟩ = some (.int .i64 0) := (cells_at HT3.out 0).trans rfl
          have b1 : z3.cell? ⟨T, 1, none⟩ = some (.slice none 0 0) := (cells_at HT3.out 1).trans rfl
          have b2 : z3.cell? ⟨T, 2, none⟩ = some (.slice none 0 0) := (cells_at HT3.out 2).trans rfl
          have b3 : z3.cell? ⟨T, 3, none⟩ = some (.slice none 0 0) := (cells_at HT3.out 3).trans rfl
          have e0 : z3.frozen? ⟨T, 0, none⟩ = false := frozen_no HT3.out _
          have e1 : z3.frozen? ⟨T, 1, none⟩ = false := frozen_no HT3.out _
          have e2 : z3.frozen? ⟨T, 2, none⟩ = false := frozen_no HT3.out _
          have e3 : z3.frozen? ⟨T, 3, none⟩ = false := frozen_no HT3.out _
          have HRT := hide' (res_ret HT3.out HTB.out HB3.out HKX.out HRES.out HYR.out)
          clear hbz hbz2
          refine wpAnyT_one (i := 10) (by kernel_rfl) rfl rfl (fun K' hK => ?_)
          go_simp
          refine hK.out _ _ (fun _ => SW.out _ HRT.out.2.1) ?_
          clear hK K'
          try simp only [Act.put, List.setIfInBounds_toArray, List.set_cons_zero, List.set_cons_succ]
          refine wpAnyT_one (i := 11) (by kernel_rfl) rfl rfl (fun K' hK => ?_)
          go_simp
          refine hK.out _ _ (fun h => absurd rfl h) ?_
          clear hK K'
          try simp only [Act.put, List.setIfInBounds_toArray, List.set_cons_zero, List.set_cons_succ]
          refine wpAnyT_done (by kernel_rfl) ?_ _
          go_wp2_with fail
          go_meet
          case rel => exact ⟨T, er, pt, a1, a2, a3, n1, c1, n2, c2, n3, c3, rfl, rfl, HRT.out⟩

        · go_simp
          obtain ⟨T, hT⟩ : ∃ x, x = z.heap.size := ⟨_, rfl⟩
          have hba := below_al z (.cells #[.int .i64 0, .slice none 0 0, .slice none 0 0, .slice none 0 0] 25)
          have hnw := alloc_new z (.cells #[.int .i64 0, .slice none 0 0, .slice none 0 0, .slice none 0 0] 25)
          rw [← hT] at hnw
          obtain ⟨z2, hz3⟩ : ∃ x, x = z.alloc (.cells #[.int .i64 0, .slice none 0 0, .slice none 0 0, .slice none 0 0] 25) := ⟨_, rfl⟩
          rw [← hz3] at hnw hba ⊢
          rw [← hT]
          have HB2 : Hid (Below wr.heap.size wr z2) := hbz.trans (hba.mono hbz.size)
          have HTB : Hid (wr.heap.size ≤ T) := by show _ ≤ _; rw [hT]; exact hbz.size
          have HT2 := hide' hnw
          refine hK.out _ _ (fun _ => SW.out z2 HB2.out) ?_
          clear hK K' hba hnw hz3 hT
          try simp only [Act.put, List.setIfInBounds_toArray, List.set_cons_zero, List.set_cons_succ]
          refine wpAnyT_one (i := 5) (by kernel_rfl) rfl rfl (fun K' hK => ?_)
          go_simp
          go_at_call 7
          refine (HMV.out z2 HB2.out).mono ?_
          rintro e z3 ⟨er, pt, a1, a2, a3, n1, c1, n2, c2, n3, c3, rfl, hres, hb3⟩
          have HB3 : Hid (Below wr.heap.size wr z3) := HB2.out.trans (hb3.mono HB2.out.size)
          have HT3 := hide' ((hb3.block T (lt_heap HT2.out)).trans HT2.out)
          have HRES := hide' hres
          refine hK.out _ _ (fun _ => SW.out z3 HB3.out) ?_
          clear hK K' hb3 hres
          try simp only [Act.put, List.setIfInBounds_toArray, List.set_cons_zero, List.set_cons_succ]
          refine wpAnyD_takeAt 6 (some 136) (v := ?_) rfl (by kernel_rfl) (by kernel_rfl) (by kernel_rfl) (by kernel_rfl) (by kernel_rfl) (fun _ _ _ h => h) (by exact SW.out z3 HB3.out) (fun o hop => ?_) ?_
          rotate_left
          · injection hop with hop
            subst hop
            refine ⟨rfl, fun W hW => ?_⟩
            obtain ⟨s0, s1, s2, s3, s4⟩ := hW
            go_simp
            first
            | rfl
            | (constructor <;> rfl)
          try simp only [Act.put, List.setIfInBounds_toArray, List.set_cons_zero, List.set_cons_succ]
          refine wpAnyD_takeAt 7 (some 143) (v := ?_) rfl (by kernel_rfl) (by kernel_rfl) (by kernel_rfl) (by kernel_rfl) (by kernel_rfl) (fun _ _ _ h => h) (by exact SW.out z3 HB3.out) (fun o hop => ?_) ?_
          rotate_left
          · injection hop with hop
            subst hop
            refine ⟨rfl, fun W hW => ?_⟩
            obtain ⟨s0, s1, s2, s3, s4⟩ := hW
            go_simp
            first
            | rfl
            | (constructor <;> rfl)
          try simp only [Act.put, List.setIfInBounds_toArray, List.set_cons_zero, List.set_cons_succ]
          refine wpAnyD_takeAt 8 (some 144) (v := ?_) rfl (by kernel_rfl) (by kernel_rfl) (by kernel_rfl) (by kernel_rfl) (by kernel_rfl) (fun _ _ _ h => h) (by exact SW.out z3 HB3.out) (fun o hop => ?_) ?_
          rotate_left
          · injection hop with hop
            subst hop
            refine ⟨rfl, fun W hW => ?_⟩
            obtain ⟨s0, s1, s2, s3, s4⟩ := hW
            go_simp
            first
            | rfl
            | (constructor <;> rfl)
          try simp only [Act.put, List.setIfInBounds_toArray, List.set_cons_zero, List.set_cons_succ]
          have b0 : z3.cell? ⟨T, 0, none⟩ = some (.int .i64 0) := (cells_at HT3.out 0).trans rfl
          have b1 : z3.cell? ⟨T, 1, none⟩ = some (.slice none 0 0) := (cells_at HT3.out 1).trans rfl
          have b2 : z3.cell? ⟨T, 2, none⟩ = some (.slice none 0 0) := (cells_at HT3.out 2).trans rfl
          have b3 : z3.cell? ⟨T, 3, none⟩ = some (.slice none 0 0) := (cells_at HT3.out 3).trans rfl
          have e0 : z3.frozen? ⟨T, 0, none⟩ = false := frozen_no HT3.out _
          have e1 : z3.frozen? ⟨T, 1, none⟩ = false := frozen_no HT3.out _
          have e2 : z3.frozen? ⟨T, 2, none⟩ = false := frozen_no HT3.out _
          have e3 : z3.frozen? ⟨T, 3, none⟩ = false := frozen_no HT3.out _
          have HRT := hide' (res_ret HT3.out HTB.out HB3.out (KeepX.refl z3) HRES.out HYR.out)
          clear hbz
          refine wpAnyT_one (i := 10) (by kernel_rfl) rfl rfl (fun K' hK => ?_)
          go_simp
          refine hK.out _ _ (fun _ => SW.out _ HRT.out.2.1) ?_
          clear hK K'
          try simp only [Act.put, List.setIfInBounds_toArray, List.set_cons_zero, List.set_cons_succ]
          refine wpAnyT_one (i := 11) (by kernel_rfl) rfl rfl (fun K' hK => ?_)
          go_simp
          refine hK.out _ _ (fun h => absurd rfl h) ?_
          clear hK K'
          try simp only [Act.put, List.setIfInBounds_toArray, List.set_cons_zero, List.set_cons_succ]
          refine wpAnyT_done (by kernel_rfl) ?_ _
          go_wp2_with fail
          go_meet
          case rel => exact ⟨T, er, pt, a1, a2, a3, n1, c1, n2, c2, n3, c3, rfl, rfl, HRT.out⟩


      case rest =>
        obtain ⟨T, er, pt, a1, a2, a3, n1, c1, n2, c2, n3, c3, rfl, rfl, HRT⟩ := hcut
        clear HMV SW HYR
        obtain ⟨hT, hbc, hTs, ⟨_, hne⟩ | ⟨h1, h2, h3, h4, h5, h6, h7⟩⟩ := HRT.out
        · exact absurd HLS.out.2.2.2.1 hne
        · subst h1
          subst h3
          subst h4
          subst h5
          subst h6
          have HSC := hide' (HS.out.more hbc)
          have HLT : Hid (LP w wc T n n1 n3 (y0.at t) a1 a2 a3 c1 c2 c3) := ⟨hT, Nat.le_trans HS.out.lp.bel.size hTs, HSC.out.lp.bel, by rw [HLS.out.2.2.2.2.1]; exact HS.out.lp.yl.turn hkl h2, by rw [HLS.out.2.2.2.2.1]; exact h7⟩
          have HNX := hide' (HSC.out.store HLT.out (by omega))
          have t0 : wc.cell? ⟨T, 0, none⟩ = some (.int .i64 (n : Int)) := (cells_at HLT.out.hA 0).trans rfl
          have t1 : wc.cell? ⟨T, 1, none⟩ = some (.slice a1 n1 c1) := (cells_at HLT.out.hA 1).trans rfl
          have t2 : wc.cell? ⟨T, 2, none⟩ = some (.slice a2 1 c2) := (cells_at HLT.out.hA 2).trans rfl
          have t3 : wc.cell? ⟨T, 3, none⟩ = some (.slice a3 n3 c3) := (cells_at HLT.out.hA 3).trans rfl
          have m0 : wc.cell? ⟨A, 0, none⟩ = some (.int .i64 (n : Int)) := (cells_at HSC.out.lp.hA 0).trans rfl
          have m1 : wc.cell? ⟨A, 1, none⟩ = some (.slice bf n1 bF) := (cells_at HSC.out.lp.hA 1).trans rfl
          have m2 : wc.cell? ⟨A, 2, none⟩ = some (.slice bd 1 bD) := (cells_at HSC.out.lp.hA 2).trans rfl
          have m3 : wc.cell? ⟨A, 3, none⟩ = some (.slice bs n3 bS) := (cells_at HSC.out.lp.hA 3).trans rfl
          have g0 : wc.frozen? ⟨A, 0, none⟩ = false := frozen_no HSC.out.lp.hA _
          have g1 : wc.frozen? ⟨A, 1, none⟩ = false := frozen_no HSC.out.lp.hA _
          have g2 : wc.frozen? ⟨A, 2, none⟩ = false := frozen_no HSC.out.lp.hA _
          have g3 : wc.frozen? ⟨A, 3, none⟩ = false := frozen_no HSC.out.lp.hA _
          clear hT hbc hTs h2 h7 HSC HLT HS HRT
          go_wp2_with fail
          go_roundw
          case rel => exact ⟨i + 1, t, a1, a2, a3, c1, c2, c3, by go_num, by omega, HT.out.2, HNX.out⟩
          case measure => simp only [intOf]; omega
    · have hie : i = q.length := by omega
      have hc : c = codeB goal := by
        have h1 := HR.out
        rw [hie, List.drop_length] at h1
        exact Option.some.inj h1
      subst hc
      clear HR
      go_wp2_with fail
      refine HK1.out _ _ ?_
      exact shortG w wr n lf ls A (y0.at (codeB goal)) bf bd bs bF bD bS ga gc HS.out.lp (by rw [shuts_goal (by rw [HGL.out, HES.out])]; exact rowAt_of_own HS.out.goal) _ _ _ _ _ _ _ _ _ _ _ _ _ _ _ _ _ _ _ _ _ _ _ _ _ _ _ _ _ _ _ _ _ _ _ _ _ _ _ _ _ _ _ _ _ _ _ _ _ _ _ _ _ _ _ _ _ _ _ _ _ _ _ _ _ _ _ _ _ _ _ _ _ _ _ _ _ _ _ _ _ _ _ _ _ _ _ _ _ _ _ _ _ _ _ _ _ _ _ _ _ _ _ _ _ _ _ _ _ _ _ _ _ _ _ _ _ _ _ _ _ _ _ _ _ _ _ _ _ _ _ _ _ _ _ _ _ _ _ _ _ _ _ _ _ _ _ _ _ _ _ _ _ _ _ _ _ _ _ _ _ _ _ _ _ _ _ _ _ _ _ _ _ _ _ _ _ _ _
end Go.Proofs.Ytcnoipcpifackah
