/- A plan is short: a row of moves, as it comes. -/
import Derived.Test.YtcnoipcpifackahUc
namespace Go.Proofs.Ytcnoipcpifackah
open Go.RowKit Go.Shelf

set_option maxRecDepth 100000 in
set_option maxHeartbeats 4000000 in
theorem shortC (w w1 : World) (Rb l0 cg cm : Nat) (p0 p1 p2 : Int) (ag am : Option Addr) (mv : List Int) (hR : w1.heap[Rb]? = some (.cells #[.int .i64 p0, .int .i64 p1, .int .i64 p2, .slice ag l0 cg] 40 (0, 0))) (hb : Below w.heap.size w w1) (HYF : Hid (∀ w', Below w.heap.size w w' → Calls Try.prog 15 #[.agg #[.int .i64 p0, .int .i64 p1, .int .i64 p2, .slice ag l0 cg]] w' (FromO w'))) (hmv : RowAt w (.slice am mv.length cm) mv.length 1 (ints mv)) (hmi : ∀ x ∈ mv, I6 x) (hml : mv.length ≤ 2000000) (x0 x3 x4 x5 x6 x7 x8 x9 x10 x11 x12 x13 x14 x15 x16 x17 x18 x19 x20 x21 x22 x23 x24 x25 x26 x27 x28 x29 x30 x31 x32 x33 x34 x35 x36 x37 x38 x39 x40 x41 x42 x43 x44 x45 x46 x47 x48 x49 x50 x51 x52 x53 x54 x55 x56 x57 x58 x59 x60 x61 x62 x63 x64 x65 x66 x67 x68 x69 x70 x71 x72 x73 x74 x75 x76 x77 x78 x79 x80 x81 x82 x83 x84 x85 x86 x87 x88 x89 x90 x91 x92 x93 x94 x95 x96 x97 x98 x99 x100 x101 x102 x103 x104 x105 x106 x107 x108 x109 x110 x111 x112 x113 x114 x115 x116 x117 x118 x119 x120 x121 x122 x123 x124 x125 x126 x127 x128 x129 x130 x131 x132 x133 x134 x135 x136 x137 x138 x139 x140 x141 x142 x143 x144 x145 x146 x147 x148 x149 x150 x151 x152 x153 x154 x155 x156 x157 x158 x159 x160 x161 x162 x163 x164 x165 x166 x167 x168 x169 x170 x171 x172 x173 x174 x175 x176 x177 x178 x179 x180 : Value) : Code.wp Try.prog (dropC 4 (Try.f6.body.getD .skip)) (bodyPost Try.prog Try.f6 (fun e w' => e = .returned (.bool true) ∧ Below w.heap.size w w')) ⟨#[x0, .slice am mv.length cm, .pointer (some ⟨Rb, 0, none⟩), x3, x4, x5, x6, x7, x8, x9, x10, x11, x12, x13, x14, x15, x16, x17, x18, x19, x20, x21, x22, x23, x24, x25, x26, x27, x28, x29, x30, x31, x32, x33, x34, x35, x36, x37, x38, x39, x40, x41, x42, x43, x44, x45, x46, x47, x48, x49, x50, x51, x52, x53, x54, x55, x56, x57, x58, x59, x60, x61, x62, x63, x64, x65, x66, x67, x68, x69, x70, x71, x72, x73, x74, x75, x76, x77, x78, x79, x80, x81, x82, x83, x84, x85, x86, x87, x88, x89, x90, x91, x92, x93, x94, x95, x96, x97, x98, x99, x100, x101, x102, x103, x104, x105, x106, x107, x108, x109, x110, x111, x112, x113, x114, x115, x116, x117, x118, x119, x120, x121, x122, x123, x124, x125, x126, x127, x128, x129, x130, x131, x132, x133, x134, x135, x136, x137, x138, x139, x140, x141, x142, x143, x144, x145, x146, x147, x148, x149, x150, x151, x152, x153, x154, x155, x156, x157, x158, x159, x160, x161, x162, x163, x164, x165, x166, x167, x168, x169, x170, x171, x172, x173, x174, x175, x176, x177, x178, x179, x180], []⟩ w1 := by
  have HM := hide' hmv
  have HMI : Hid (∀ k, k < mv.length → I6 (mv.getD k 0)) := fun k hk => hmi _ (by rw [List.getD_eq_getElem?_getD, List.getElem?_eq_getElem hk]; exact List.getElem_mem hk)
  have HB1 := hide' hb
  have r0 : w1.cell? ⟨Rb, 0, none⟩ = some (.int .i64 p0) := (cells_at hR 0).trans rfl
  have r1 : w1.cell? ⟨Rb, 1, none⟩ = some (.int .i64 p1) := (cells_at hR 1).trans rfl
  have r2 : w1.cell? ⟨Rb, 2, none⟩ = some (.int .i64 p2) := (cells_at hR 2).trans rfl
  have r3 : w1.cell? ⟨Rb, 3, none⟩ = some (.slice ag l0 cg) := (cells_at hR 3).trans rfl
  have HY1 := hide' (HYF.out w1 hb)
  clear hR hb hmv hmi HYF
  conv => arg 2; whnf
  refine wp_seq_k fun K0 hK0 => ?_
  have HK0 := hide' hK0
  clear hK0
  go_wp2_with fail
  refine HY1.out.mono ?_
  rintro e w2 ⟨y, ff, fd, fs, fF, fD, fS, rfl, hmay, hop, hd1, hat, hb2⟩
  have hyl : YL y y.n y.fed.length y.devs.length := ⟨hmay.n_le.2.2, rfl, hd1, rfl, hmay, sound_open hop⟩
  rw [hmay.n_le.2.2, hd1]
  obtain ⟨n, hn⟩ : ∃ x, x = y.n := ⟨_, rfl⟩
  obtain ⟨lf, hlf⟩ : ∃ x, x = y.fed.length := ⟨_, rfl⟩
  obtain ⟨ls, hls⟩ : ∃ x, x = y.devs.length := ⟨_, rfl⟩
  rw [← hn, ← hlf, ← hls] at hyl ⊢
  have hls10 : ls ≤ 10 := by have := hmay.d; omega
  have HB2 : Hid (Below w.heap.size w w2) := HB1.out.trans (hb2.mono HB1.out.size)
  have HYL := hide' hyl
  have HAT := hide' hat
  clear hn hlf hls hop hd1 hyl hat hb2 HB1 HY1 r0 r1 r2 r3 hmay
  go_wp2_with fail
  obtain ⟨Fb, hFb⟩ : ∃ x, x = w2.heap.size := ⟨_, rfl⟩
  have hb3 := below_al w2 (.cells #[.int .i64 (n : Int), .slice ff lf fF, .slice fd 1 fD, .slice fs ls fS] 25)
  have hn3 := alloc_new w2 (.cells #[.int .i64 (n : Int), .slice ff lf fF, .slice fd 1 fD, .slice fs ls fS] 25)
  obtain ⟨w3, hw3⟩ : ∃ x, x = w2.alloc (.cells #[.int .i64 (n : Int), .slice ff lf fF, .slice fd 1 fD, .slice fs ls fS] 25) := ⟨_, rfl⟩
  rw [← hw3] at hb3 hn3 ⊢
  rw [← hFb] at hn3 ⊢
  have HF3 : Hid (LP w w3 Fb n lf ls y ff fd fs fF fD fS) := ⟨hn3, by rw [hFb]; exact HB2.out.size, HB2.out.trans (hb3.mono HB2.out.size), HYL.out, HAT.out.below hb3 (Nat.le_refl _)⟩
  clear hb3 hn3 hw3 hFb HB2 HYL HAT
  refine HK0.out _ _ ?_
  clear HK0 K0
  refine wp_seq_k fun K1 hK1 => ?_
  have HK1 := hide' hK1
  clear hK1
  have f0 : w3.cell? ⟨Fb, 0, none⟩ = some (.int .i64 (n : Int)) := (cells_at HF3.out.hA 0).trans rfl
  have f1 : w3.cell? ⟨Fb, 1, none⟩ = some (.slice ff lf fF) := (cells_at HF3.out.hA 1).trans rfl
  have f2 : w3.cell? ⟨Fb, 2, none⟩ = some (.slice fd 1 fD) := (cells_at HF3.out.hA 2).trans rfl
  have f3 : w3.cell? ⟨Fb, 3, none⟩ = some (.slice fs ls fS) := (cells_at HF3.out.hA 3).trans rfl
  go_wp2_with fail
  obtain ⟨A, hA⟩ : ∃ x, x = w3.heap.size := ⟨_, rfl⟩
  have hb4 := below_al w3 (.cells #[.int .i64 (n : Int), .slice ff lf fF, .slice fd 1 fD, .slice fs ls fS] 25)
  have hn4 := alloc_new w3 (.cells #[.int .i64 (n : Int), .slice ff lf fF, .slice fd 1 fD, .slice fs ls fS] 25)
  obtain ⟨w4, hw4⟩ : ∃ x, x = w3.alloc (.cells #[.int .i64 (n : Int), .slice ff lf fF, .slice fd 1 fD, .slice fs ls fS] 25) := ⟨_, rfl⟩
  rw [← hw4] at hb4 hn4 ⊢
  rw [← hA] at hn4 ⊢
  have HF4 := hide' (HF3.out.more hb4)
  have HA4 : Hid (LP w w4 A n lf ls y ff fd fs fF fD fS) := ⟨hn4, by rw [hA]; exact HF3.out.bel.size, HF4.out.bel, HF4.out.yl, HF4.out.lies⟩
  have HNE : Hid (Fb ≠ A) := by
    have := lt_heap HF3.out.hA
    show _ ≠ _
    omega
  clear hb4 hn4 hw4 hA HF3 f0 f1 f2 f3
  refine HK1.out _ _ ?_
  clear HK1 K1
  refine wp_seq_k fun K2 hK2 => ?_
  have HK2 := hide' hK2
  clear hK2
  go_wp2_with fail
  refine HK2.out _ _ ?_
  clear HK2 K2
  refine wp_seq_k fun K3 hK3 => ?_
  have HK3 := hide' hK3
  clear hK3
  go_wp2_with fail
  go_loopw [10, 11] (fun nv iv wr => ∃ (i c : Nat) (p : List Nat) (bf bd bs : Option Addr) (bF bD bS : Nat), nv = .int .i64 (p.length : Int) ∧ iv = .int .i64 i ∧ i ≤ mv.length ∧ p.length ≤ i ∧ Hid (runK (leadF y) y.code p = some c ∧ c < 2 ^ ls) ∧ Hid (LP w wr Fb n lf ls y ff fd fs fF fD fS ∧ LP w wr A n lf ls (y.at c) bf bd bs bF bD bS)) (fun _ iv _ => mv.length - (intOf iv).toNat)
  case atStart => exact ⟨0, y.code, [], ff, fd, fs, fF, fD, fS, rfl, rfl, Nat.zero_le _, Nat.le_refl _, ⟨rfl, by rw [← HF4.out.yl.es]; exact code_bd y⟩, HF4.out, by rw [at_self]; exact HA4.out⟩
  case round =>
    clear HF4 HA4
    obtain ⟨i, c, p, bf, bd, bs, bF, bD, bS, rfl, rfl, hi, hpi, HR, HL⟩ := hrel
    have a3 : wr.cell? ⟨A, 3, none⟩ = some (.slice bs ls bS) := (cells_at HL.out.2.hA 3).trans rfl
    by_cases hlt : i < mv.length
    · by_cases hls0 : 0 < ls
      · obtain ⟨bm, om, cm', exm, hcm⟩ := ints_cell HM.out i hlt
        simp only [Value.slice.injEq] at exm
        obtain ⟨rfl, _, rfl⟩ := exm
        obtain ⟨j, hj, hpj⟩ := picked_is (mv.getD i 0) ls (HMI.out i hlt) hls0 (by omega)
        obtain ⟨x, hxx⟩ : ∃ x, x = mv.getD i 0 := ⟨_, rfl⟩
        rw [← hxx] at hcm hpj
        have hcw := up_cell HL.out.1.bel hcm
        have HPJ := hide' hpj
        have HYR := hide' HL.out.2.lies
        have HMV : Hid (∀ z, Below wr.heap.size wr z → Calls Try.prog 7 #[.agg #[.int .i64 (n : Int), .slice bf lf bF, .slice bd 1 bD, .slice bs ls bS], .int .i64 (j : Int)] z fun e w' => ∃ (er pt : Int) (a1 a2 a3 : Option Addr) (n1 c1 n2 c2 n3 c3 : Nat), e = .returned (.tuple #[.agg #[.int .i64 pt, .slice a1 n1 c1, .slice a2 n2 c2, .slice a3 n3 c3], .int .i64 er]) ∧ Res (y.at c) j n lf ls bf bd bs bF bD bS w' er pt a1 a2 a3 n1 c1 n2 c2 n3 c3 ∧ Below z.heap.size z w') := fun z hb => Move_res (y.at c) n lf ls j bf bd bs bF bD bS z HL.out.2.yl (HL.out.2.lies.below hb (Nat.le_refl _)) hj
        have SW : Hid (∀ W, Below wr.heap.size wr W → W.cell? ⟨A, 0, none⟩ = some (.int .i64 (n : Int)) ∧ W.cell? ⟨A, 1, none⟩ = some (.slice bf lf bF) ∧ W.cell? ⟨A, 2, none⟩ = some (.slice bd 1 bD) ∧ W.cell? ⟨A, 3, none⟩ = some (.slice bs ls bS) ∧ W.cell? ⟨bm, om + i, none⟩ = some (.int .i64 x)) := fun W hW => ⟨up_cell hW ((cells_at HL.out.2.hA 0).trans rfl), up_cell hW ((cells_at HL.out.2.hA 1).trans rfl), up_cell hW ((cells_at HL.out.2.hA 2).trans rfl), up_cell hW ((cells_at HL.out.2.hA 3).trans rfl), up_cell hW hcw⟩
        clear hcm hpj hxx hcw
        go_upto_region 11 with fail
        clear a3
        go_cut [12, 13] from 72 to 84 (fun tv ev wc => ∃ (T : Nat) (er pt : Int) (a1 a2 a3 : Option Addr) (n1 c1 n2 c2 n3 c3 : Nat), tv = .pointer (some ⟨T, 0, none⟩) ∧ ev = .int .i64 er ∧ Hid (Ret (y.at c) j n lf ls T wr wc er pt a1 a2 a3 n1 c1 n2 c2 n3 c3))
        case first =>
          refine wp_region_tail (fun W => W.cell? ⟨A, 0, none⟩ = some (.int .i64 (n : Int)) ∧ W.cell? ⟨A, 1, none⟩ = some (.slice bf lf bF) ∧ W.cell? ⟨A, 2, none⟩ = some (.slice bd 1 bD) ∧ W.cell? ⟨A, 3, none⟩ = some (.slice bs ls bS) ∧ W.cell? ⟨bm, om + i, none⟩ = some (.int .i64 x)) 15 (by kernel_rfl) ?_
          refine wpAnyT_letter (fun W => Below wr.heap.size wr W) (Below.refl _ wr).drew ?_
          rintro z hbz
          have HBz := hide' hbz
          clear hbz
          refine wpAnyD_takeAt 0 (some 73) (v := ?_) rfl (by kernel_rfl) (by kernel_rfl) (by kernel_rfl) (by kernel_rfl) (by kernel_rfl) (fun _ _ _ h => h) (by exact SW.out z HBz.out) (fun o hop => ?_) ?_
          rotate_left
          · injection hop with hop
            subst hop
            refine ⟨rfl, fun W hW => ?_⟩
            obtain ⟨s0, s1, s2, s3, s4⟩ := hW
            go_simp
            first
            | rfl
            | (constructor <;> rfl)
          try simp only [Act.put, List.setIfInBounds_toArray, List.set_cons_zero, List.set_cons_succ]
          refine wpAnyD_takeAt 1 (some 74) (v := ?_) rfl (by kernel_rfl) (by kernel_rfl) (by kernel_rfl) (by kernel_rfl) (by kernel_rfl) (fun _ _ _ h => h) (by exact SW.out z HBz.out) (fun o hop => ?_) ?_
          rotate_left
          · injection hop with hop
            subst hop
            refine ⟨rfl, fun W hW => ?_⟩
            obtain ⟨s0, s1, s2, s3, s4⟩ := hW
            go_simp
            first
            | rfl
            | (constructor <;> rfl)
          try simp only [Act.put, List.setIfInBounds_toArray, List.set_cons_zero, List.set_cons_succ]
          refine wpAnyD_takeAt 2 (some 75) (v := ?_) rfl (by kernel_rfl) (by kernel_rfl) (by kernel_rfl) (by kernel_rfl) (by kernel_rfl) (fun _ _ _ h => h) (by exact SW.out z HBz.out) (fun o hop => ?_) ?_
          rotate_left
          · injection hop with hop
            subst hop
            refine ⟨rfl, fun W hW => ?_⟩
            obtain ⟨s0, s1, s2, s3, s4⟩ := hW
            go_simp
            first
            | rfl
            | (constructor <;> rfl)
          try simp only [Act.put, List.setIfInBounds_toArray, List.set_cons_zero, List.set_cons_succ]
          refine wpAnyD_takeAt 3 (some 76) (v := ?_) rfl (by kernel_rfl) (by kernel_rfl) (by kernel_rfl) (by kernel_rfl) (by kernel_rfl) (fun _ _ _ h => h) (by exact SW.out z HBz.out) (fun o hop => ?_) ?_
          rotate_left
          · injection hop with hop
            subst hop
            refine ⟨rfl, fun W hW => ?_⟩
            obtain ⟨s0, s1, s2, s3, s4⟩ := hW
            go_simp
            first
            | rfl
            | (constructor <;> rfl)
          try simp only [Act.put, List.setIfInBounds_toArray, List.set_cons_zero, List.set_cons_succ]
          refine wpAnyD_takeAt 4 (some 77) (v := ?_) rfl (by kernel_rfl) (by kernel_rfl) (by kernel_rfl) (by kernel_rfl) (by kernel_rfl) (fun _ _ _ h => h) (by exact SW.out z HBz.out) (fun o hop => ?_) ?_
          rotate_left
          · injection hop with hop
            subst hop
            refine ⟨rfl, fun W hW => ?_⟩
            obtain ⟨s0, s1, s2, s3, s4⟩ := hW
            go_simp
            first
            | rfl
            | (constructor <;> rfl)
          try simp only [Act.put, List.setIfInBounds_toArray, List.set_cons_zero, List.set_cons_succ]
          refine wpAnyD_takeAt 5 (some 78) (v := ?_) rfl (by kernel_rfl) (by kernel_rfl) (by kernel_rfl) (by kernel_rfl) (by kernel_rfl) (fun _ _ _ h => h) (by exact SW.out z HBz.out) (fun o hop => ?_) ?_
          rotate_left
          · injection hop with hop
            subst hop
            refine ⟨rfl, fun W hW => ?_⟩
            obtain ⟨s0, s1, s2, s3, s4⟩ := hW
            go_simp
            first
            | rfl
            | (constructor <;> rfl)
          try simp only [Act.put, List.setIfInBounds_toArray, List.set_cons_zero, List.set_cons_succ]
          refine wpAnyD_takeAt 6 (some 79) (v := ?_) rfl (by kernel_rfl) (by kernel_rfl) (by kernel_rfl) (by kernel_rfl) (by kernel_rfl) (fun _ _ _ h => h) (by exact SW.out z HBz.out) (fun o hop => ?_) ?_
          rotate_left
          · injection hop with hop
            subst hop
            refine ⟨rfl, fun W hW => ?_⟩
            obtain ⟨s0, s1, s2, s3, s4⟩ := hW
            go_simp
            first
            | rfl
            | (constructor <;> rfl)
          try simp only [Act.put, List.setIfInBounds_toArray, List.set_cons_zero, List.set_cons_succ]
          refine wpAnyD_takeAt 7 (some 80) (v := ?_) rfl (by kernel_rfl) (by kernel_rfl) (by kernel_rfl) (by kernel_rfl) (by kernel_rfl) (fun _ _ _ h => h) (by exact SW.out z HBz.out) (fun o hop => ?_) ?_
          rotate_left
          · injection hop with hop
            subst hop
            refine ⟨rfl, fun W hW => ?_⟩
            obtain ⟨s0, s1, s2, s3, s4⟩ := hW
            go_simp
            first
            | rfl
            | (constructor <;> rfl)
          try simp only [Act.put, List.setIfInBounds_toArray, List.set_cons_zero, List.set_cons_succ]
          refine wpAnyT_two (i := 8) (j := 13) (by kernel_rfl) rfl rfl rfl rfl (fun K' hK => ?_) (fun K' hK => ?_)
          · go_simp
            go_at_call 17
            refine (HPJ.out _).mono ?_
            rintro e z' ⟨rfl, hzz⟩
            obtain rfl := hzz.symm
            refine hK.out _ _ (fun _ => SW.out _ HBz.out) ?_
            clear hK K'
            try simp only [Act.put, List.setIfInBounds_toArray, List.set_cons_zero, List.set_cons_succ]
            refine wpAnyT_two (i := 9) (j := 13) (by kernel_rfl) rfl rfl rfl rfl (fun K' hK => ?_) (fun K' hK => ?_)
            · go_simp
              go_at_call 7
              refine (HMV.out z HBz.out).mono ?_
              rintro e z2 ⟨er, pt, a1, a2, a3, n1, c1, n2, c2, n3, c3, rfl, hres, hb3⟩
              have HBz2 : Hid (Below wr.heap.size wr z2) := HBz.out.trans (hb3.mono HBz.out.size)
              have HRES := hide' hres
              refine hK.out _ _ (fun _ => SW.out z2 HBz2.out) ?_
              clear hK K' hb3 hres
              try simp only [Act.put, List.setIfInBounds_toArray, List.set_cons_zero, List.set_cons_succ]
              refine wpAnyD_takeAt 10 (some 72) (v := ?_) rfl (by kernel_rfl) (by kernel_rfl) (by kernel_rfl) (by kernel_rfl) (by kernel_rfl) (fun _ _ _ h => h) (by exact SW.out z2 HBz2.out) (fun o hop => ?_) ?_
              rotate_left
              · injection hop with hop
                subst hop
                refine ⟨rfl, fun W hW => ?_⟩
                obtain ⟨s0, s1, s2, s3, s4⟩ := hW
                go_simp
                first
                | rfl
                | (constructor <;> rfl)
              try simp only [Act.put, List.setIfInBounds_toArray, List.set_cons_zero, List.set_cons_succ]
              refine wpAnyD_takeAt 11 (some 83) (v := ?_) rfl (by kernel_rfl) (by kernel_rfl) (by kernel_rfl) (by kernel_rfl) (by kernel_rfl) (fun _ _ _ h => h) (by exact SW.out z2 HBz2.out) (fun o hop => ?_) ?_
              rotate_left
              · injection hop with hop
                subst hop
                refine ⟨rfl, fun W hW => ?_⟩
                obtain ⟨s0, s1, s2, s3, s4⟩ := hW
                go_simp
                first
                | rfl
                | (constructor <;> rfl)
              try simp only [Act.put, List.setIfInBounds_toArray, List.set_cons_zero, List.set_cons_succ]
              refine wpAnyD_takeAt 12 (some 84) (v := ?_) rfl (by kernel_rfl) (by kernel_rfl) (by kernel_rfl) (by kernel_rfl) (by kernel_rfl) (fun _ _ _ h => h) (by exact SW.out z2 HBz2.out) (fun o hop => ?_) ?_
              rotate_left
              · injection hop with hop
                subst hop
                refine ⟨rfl, fun W hW => ?_⟩
                obtain ⟨s0, s1, s2, s3, s4⟩ := hW
                go_simp
                first
                | rfl
                | (constructor <;> rfl)
              try simp only [Act.put, List.setIfInBounds_toArray, List.set_cons_zero, List.set_cons_succ]
              refine wpAnyT_one (i := 13) (by kernel_rfl) rfl rfl (fun K' hK => ?_)
              go_simp
              obtain ⟨T, hT⟩ : ∃ x, x = z2.heap.size := ⟨_, rfl⟩
              have hba := below_al z2 (.cells #[.int .i64 0, .slice none 0 0, .slice none 0 0, .slice none 0 0] 25)
              have hnw := alloc_new z2 (.cells #[.int .i64 0, .slice none 0 0, .slice none 0 0, .slice none 0 0] 25)
              rw [← hT] at hnw
              obtain ⟨z3, hz3⟩ : ∃ x, x = z2.alloc (.cells #[.int .i64 0, .slice none 0 0, .slice none 0 0, .slice none 0 0] 25) := ⟨_, rfl⟩
              rw [← hz3] at hnw hba ⊢
              rw [← hT]
              have HBz3 : Hid (Below wr.heap.size wr z3) := HBz2.out.trans (hba.mono HBz2.out.size)
              have HTB : Hid (wr.heap.size ≤ T) := by show _ ≤ _; rw [hT]; exact HBz2.out.size
              have HTz3 := hide' hnw
              have HKX : Hid (KeepX z2 z3) := KeepX.below hba (Nat.le_refl _)
              refine hK.out _ _ (fun _ => SW.out z3 HBz3.out) ?_
              clear hK K' hba hnw hz3 hT
              try simp only [Act.put, List.setIfInBounds_toArray, List.set_cons_zero, List.set_cons_succ]
              have b0 : z3.cell? ⟨T, 0, none⟩ = some (.int .i64 0) := (cells_at HTz3.out 0).trans rfl
              have b1 : z3.cell? ⟨T, 1, none⟩ = some (.slice none 0 0) := (cells_at HTz3.out 1).trans rfl
              have b2 : z3.cell? ⟨T, 2, none⟩ = some (.slice none 0 0) := (cells_at HTz3.out 2).trans rfl
              have b3 : z3.cell? ⟨T, 3, none⟩ = some (.slice none 0 0) := (cells_at HTz3.out 3).trans rfl
              have e0 : z3.frozen? ⟨T, 0, none⟩ = false := frozen_no HTz3.out _
              have e1 : z3.frozen? ⟨T, 1, none⟩ = false := frozen_no HTz3.out _
              have e2 : z3.frozen? ⟨T, 2, none⟩ = false := frozen_no HTz3.out _
              have e3 : z3.frozen? ⟨T, 3, none⟩ = false := frozen_no HTz3.out _
              have HRT := hide' (res_ret HTz3.out HTB.out HBz3.out HKX.out HRES.out HYR.out)
              refine wpAnyT_one (i := 14) (by kernel_rfl) rfl rfl (fun K' hK => ?_)
              go_simp
              refine hK.out _ _ (fun _ => SW.out _ HRT.out.2.1) ?_
              clear hK K'
              try simp only [Act.put, List.setIfInBounds_toArray, List.set_cons_zero, List.set_cons_succ]
              refine wpAnyT_one (i := 15) (by kernel_rfl) rfl rfl (fun K' hK => ?_)
              go_simp
              refine hK.out _ _ (fun h => absurd rfl h) ?_
              clear hK K'
              try simp only [Act.put, List.setIfInBounds_toArray, List.set_cons_zero, List.set_cons_succ]
              refine wpAnyT_done (by kernel_rfl) ?_ _
              go_wp2_with fail
              go_meet
              case rel => exact ⟨T, er, pt, a1, a2, a3, n1, c1, n2, c2, n3, c3, rfl, rfl, HRT.out⟩
            · go_simp
              obtain ⟨T, hT⟩ : ∃ x, x = z.heap.size := ⟨_, rfl⟩
              have hba := below_al z (.cells #[.int .i64 0, .slice none 0 0, .slice none 0 0, .slice none 0 0] 25)
              have hnw := alloc_new z (.cells #[.int .i64 0, .slice none 0 0, .slice none 0 0, .slice none 0 0] 25)
              rw [← hT] at hnw
              obtain ⟨z2, hz3⟩ : ∃ x, x = z.alloc (.cells #[.int .i64 0, .slice none 0 0, .slice none 0 0, .slice none 0 0] 25) := ⟨_, rfl⟩
              rw [← hz3] at hnw hba ⊢
              rw [← hT]
              have HBz2 : Hid (Below wr.heap.size wr z2) := HBz.out.trans (hba.mono HBz.out.size)
              have HTB : Hid (wr.heap.size ≤ T) := by show _ ≤ _; rw [hT]; exact HBz.out.size
              have HTz2 := hide' hnw
              have HKX : Hid (KeepX z z2) := KeepX.below hba (Nat.le_refl _)
              refine hK.out _ _ (fun _ => SW.out z2 HBz2.out) ?_
              clear hK K' hba hnw hz3 hT
              try simp only [Act.put, List.setIfInBounds_toArray, List.set_cons_zero, List.set_cons_succ]
              refine wpAnyT_one (i := 9) (by kernel_rfl) rfl rfl (fun K' hK => ?_)
              go_simp
              go_at_call 7
              refine (HMV.out z2 HBz2.out).mono ?_
              rintro e z3 ⟨er, pt, a1, a2, a3, n1, c1, n2, c2, n3, c3, rfl, hres, hb3⟩
              have HBz3 : Hid (Below wr.heap.size wr z3) := HBz2.out.trans (hb3.mono HBz2.out.size)
              have HTz3 := hide' ((hb3.block T (lt_heap HTz2.out)).trans HTz2.out)
              have HRES := hide' hres
              refine hK.out _ _ (fun _ => SW.out z3 HBz3.out) ?_
              clear hK K' hb3 hres
              try simp only [Act.put, List.setIfInBounds_toArray, List.set_cons_zero, List.set_cons_succ]
              refine wpAnyD_takeAt 10 (some 72) (v := ?_) rfl (by kernel_rfl) (by kernel_rfl) (by kernel_rfl) (by kernel_rfl) (by kernel_rfl) (fun _ _ _ h => h) (by exact SW.out z3 HBz3.out) (fun o hop => ?_) ?_
              rotate_left
              · injection hop with hop
                subst hop
                refine ⟨rfl, fun W hW => ?_⟩
                obtain ⟨s0, s1, s2, s3, s4⟩ := hW
                go_simp
                first
                | rfl
                | (constructor <;> rfl)
              try simp only [Act.put, List.setIfInBounds_toArray, List.set_cons_zero, List.set_cons_succ]
              refine wpAnyD_takeAt 11 (some 83) (v := ?_) rfl (by kernel_rfl) (by kernel_rfl) (by kernel_rfl) (by kernel_rfl) (by kernel_rfl) (fun _ _ _ h => h) (by exact SW.out z3 HBz3.out) (fun o hop => ?_) ?_
              rotate_left
              · injection hop with hop
                subst hop
                refine ⟨rfl, fun W hW => ?_⟩
                obtain ⟨s0, s1, s2, s3, s4⟩ := hW
                go_simp
                first
                | rfl
                | (constructor <;> rfl)
              try simp only [Act.put, List.setIfInBounds_toArray, List.set_cons_zero, List.set_cons_succ]
              refine wpAnyD_takeAt 12 (some 84) (v := ?_) rfl (by kernel_rfl) (by kernel_rfl) (by kernel_rfl) (by kernel_rfl) (by kernel_rfl) (fun _ _ _ h => h) (by exact SW.out z3 HBz3.out) (fun o hop => ?_) ?_
              rotate_left
              · injection hop with hop
                subst hop
                refine ⟨rfl, fun W hW => ?_⟩
                obtain ⟨s0, s1, s2, s3, s4⟩ := hW
                go_simp
                first
                | rfl
                | (constructor <;> rfl)
              try simp only [Act.put, List.setIfInBounds_toArray, List.set_cons_zero, List.set_cons_succ]
              have b0 : z3.cell? ⟨T, 0, none⟩ = some (.int .i64 0) := (cells_at HTz3.out 0).trans rfl
              have b1 : z3.cell? ⟨T, 1, none⟩ = some (.slice none 0 0) := (cells_at HTz3.out 1).trans rfl
              have b2 : z3.cell? ⟨T, 2, none⟩ = some (.slice none 0 0) := (cells_at HTz3.out 2).trans rfl
              have b3 : z3.cell? ⟨T, 3, none⟩ = some (.slice none 0 0) := (cells_at HTz3.out 3).trans rfl
              have e0 : z3.frozen? ⟨T, 0, none⟩ = false := frozen_no HTz3.out _
              have e1 : z3.frozen? ⟨T, 1, none⟩ = false := frozen_no HTz3.out _
              have e2 : z3.frozen? ⟨T, 2, none⟩ = false := frozen_no HTz3.out _
              have e3 : z3.frozen? ⟨T, 3, none⟩ = false := frozen_no HTz3.out _
              have HRT := hide' (res_ret HTz3.out HTB.out HBz3.out (KeepX.refl z3) HRES.out HYR.out)
              refine wpAnyT_one (i := 14) (by kernel_rfl) rfl rfl (fun K' hK => ?_)
              go_simp
              refine hK.out _ _ (fun _ => SW.out _ HRT.out.2.1) ?_
              clear hK K'
              try simp only [Act.put, List.setIfInBounds_toArray, List.set_cons_zero, List.set_cons_succ]
              refine wpAnyT_one (i := 15) (by kernel_rfl) rfl rfl (fun K' hK => ?_)
              go_simp
              refine hK.out _ _ (fun h => absurd rfl h) ?_
              clear hK K'
              try simp only [Act.put, List.setIfInBounds_toArray, List.set_cons_zero, List.set_cons_succ]
              refine wpAnyT_done (by kernel_rfl) ?_ _
              go_wp2_with fail
              go_meet
              case rel => exact ⟨T, er, pt, a1, a2, a3, n1, c1, n2, c2, n3, c3, rfl, rfl, HRT.out⟩
          · go_simp
            obtain ⟨T, hT⟩ : ∃ x, x = z.heap.size := ⟨_, rfl⟩
            have hba := below_al z (.cells #[.int .i64 0, .slice none 0 0, .slice none 0 0, .slice none 0 0] 25)
            have hnw := alloc_new z (.cells #[.int .i64 0, .slice none 0 0, .slice none 0 0, .slice none 0 0] 25)
            rw [← hT] at hnw
            obtain ⟨z2, hz3⟩ : ∃ x, x = z.alloc (.cells #[.int .i64 0, .slice none 0 0, .slice none 0 0, .slice none 0 0] 25) := ⟨_, rfl⟩
            rw [← hz3] at hnw hba ⊢
            rw [← hT]
            have HBz2 : Hid (Below wr.heap.size wr z2) := HBz.out.trans (hba.mono HBz.out.size)
            have HTB : Hid (wr.heap.size ≤ T) := by show _ ≤ _; rw [hT]; exact HBz.out.size
            have HTz2 := hide' hnw
            have HKX : Hid (KeepX z z2) := KeepX.below hba (Nat.le_refl _)
            refine hK.out _ _ (fun _ => SW.out z2 HBz2.out) ?_
            clear hK K' hba hnw hz3 hT
            try simp only [Act.put, List.setIfInBounds_toArray, List.set_cons_zero, List.set_cons_succ]
            refine wpAnyT_one (i := 8) (by kernel_rfl) rfl rfl (fun K' hK => ?_)
            go_simp
            go_at_call 17
            refine (HPJ.out _).mono ?_
            rintro e z' ⟨rfl, hzz⟩
            obtain rfl := hzz.symm
            refine hK.out _ _ (fun _ => SW.out _ HBz2.out) ?_
            clear hK K'
            try simp only [Act.put, List.setIfInBounds_toArray, List.set_cons_zero, List.set_cons_succ]
            refine wpAnyT_one (i := 9) (by kernel_rfl) rfl rfl (fun K' hK => ?_)
            go_simp
            go_at_call 7
            refine (HMV.out z2 HBz2.out).mono ?_
            rintro e z3 ⟨er, pt, a1, a2, a3, n1, c1, n2, c2, n3, c3, rfl, hres, hb3⟩
            have HBz3 : Hid (Below wr.heap.size wr z3) := HBz2.out.trans (hb3.mono HBz2.out.size)
            have HTz3 := hide' ((hb3.block T (lt_heap HTz2.out)).trans HTz2.out)
            have HRES := hide' hres
            refine hK.out _ _ (fun _ => SW.out z3 HBz3.out) ?_
            clear hK K' hb3 hres
            try simp only [Act.put, List.setIfInBounds_toArray, List.set_cons_zero, List.set_cons_succ]
            refine wpAnyD_takeAt 10 (some 72) (v := ?_) rfl (by kernel_rfl) (by kernel_rfl) (by kernel_rfl) (by kernel_rfl) (by kernel_rfl) (fun _ _ _ h => h) (by exact SW.out z3 HBz3.out) (fun o hop => ?_) ?_
            rotate_left
            · injection hop with hop
              subst hop
              refine ⟨rfl, fun W hW => ?_⟩
              obtain ⟨s0, s1, s2, s3, s4⟩ := hW
              go_simp
              first
              | rfl
              | (constructor <;> rfl)
            try simp only [Act.put, List.setIfInBounds_toArray, List.set_cons_zero, List.set_cons_succ]
            refine wpAnyD_takeAt 11 (some 83) (v := ?_) rfl (by kernel_rfl) (by kernel_rfl) (by kernel_rfl) (by kernel_rfl) (by kernel_rfl) (fun _ _ _ h => h) (by exact SW.out z3 HBz3.out) (fun o hop => ?_) ?_
            rotate_left
            · injection hop with hop
              subst hop
              refine ⟨rfl, fun W hW => ?_⟩
              obtain ⟨s0, s1, s2, s3, s4⟩ := hW
              go_simp
              first
              | rfl
              | (constructor <;> rfl)
            try simp only [Act.put, List.setIfInBounds_toArray, List.set_cons_zero, List.set_cons_succ]
            refine wpAnyD_takeAt 12 (some 84) (v := ?_) rfl (by kernel_rfl) (by kernel_rfl) (by kernel_rfl) (by kernel_rfl) (by kernel_rfl) (fun _ _ _ h => h) (by exact SW.out z3 HBz3.out) (fun o hop => ?_) ?_
            rotate_left
            · injection hop with hop
              subst hop
              refine ⟨rfl, fun W hW => ?_⟩
              obtain ⟨s0, s1, s2, s3, s4⟩ := hW
              go_simp
              first
              | rfl
              | (constructor <;> rfl)
            try simp only [Act.put, List.setIfInBounds_toArray, List.set_cons_zero, List.set_cons_succ]
            have b0 : z3.cell? ⟨T, 0, none⟩ = some (.int .i64 0) := (cells_at HTz3.out 0).trans rfl
            have b1 : z3.cell? ⟨T, 1, none⟩ = some (.slice none 0 0) := (cells_at HTz3.out 1).trans rfl
            have b2 : z3.cell? ⟨T, 2, none⟩ = some (.slice none 0 0) := (cells_at HTz3.out 2).trans rfl
            have b3 : z3.cell? ⟨T, 3, none⟩ = some (.slice none 0 0) := (cells_at HTz3.out 3).trans rfl
            have e0 : z3.frozen? ⟨T, 0, none⟩ = false := frozen_no HTz3.out _
            have e1 : z3.frozen? ⟨T, 1, none⟩ = false := frozen_no HTz3.out _
            have e2 : z3.frozen? ⟨T, 2, none⟩ = false := frozen_no HTz3.out _
            have e3 : z3.frozen? ⟨T, 3, none⟩ = false := frozen_no HTz3.out _
            have HRT := hide' (res_ret HTz3.out HTB.out HBz3.out (KeepX.refl z3) HRES.out HYR.out)
            refine wpAnyT_one (i := 14) (by kernel_rfl) rfl rfl (fun K' hK => ?_)
            go_simp
            refine hK.out _ _ (fun _ => SW.out _ HRT.out.2.1) ?_
            clear hK K'
            try simp only [Act.put, List.setIfInBounds_toArray, List.set_cons_zero, List.set_cons_succ]
            refine wpAnyT_one (i := 15) (by kernel_rfl) rfl rfl (fun K' hK => ?_)
            go_simp
            refine hK.out _ _ (fun h => absurd rfl h) ?_
            clear hK K'
            try simp only [Act.put, List.setIfInBounds_toArray, List.set_cons_zero, List.set_cons_succ]
            refine wpAnyT_done (by kernel_rfl) ?_ _
            go_wp2_with fail
            go_meet
            case rel => exact ⟨T, er, pt, a1, a2, a3, n1, c1, n2, c2, n3, c3, rfl, rfl, HRT.out⟩

        case rest =>
          obtain ⟨T, er, pt, a1, a2, a3', n1, c1, n2, c2, n3, c3, rfl, rfl, HRT⟩ := hcut
          clear HMV SW HYR HPJ
          obtain ⟨hT, hbc, hTs, ⟨hne, _⟩ | ⟨h1, h2, h3, h4, h5, h6, h7⟩⟩ := HRT.out
          · have HLC : Hid (LP w wc Fb n lf ls y ff fd fs fF fD fS ∧ LP w wc A n lf ls (y.at c) bf bd bs bF bD bS) := ⟨HL.out.1.more hbc, HL.out.2.more hbc⟩
            have hne2 : (er == 0) = false := beq_eq_false_iff_ne.2 hne
            clear hT hbc hTs HRT HL
            go_wp2_with fail
            go_roundw
            case rel => exact ⟨i + 1, c, p, bf, bd, bs, bF, bD, bS, rfl, by go_num, by omega, by omega, HR.out, HLC.out⟩
            case measure => simp only [intOf]; omega
          · subst h1
            subst h3
            subst h4
            subst h5
            subst h6
            have HF2 := hide' (HL.out.1.more hbc)
            have HA2 := hide' (HL.out.2.more hbc)
            have HLD : Hid (leadF y c j = some ((y.at c).turn j).code) := by
              show _ = _
              rw [lead_is (by rw [HF2.out.yl.es]; exact hj) (by rw [HF2.out.yl.es]; exact HR.out.2) HA2.out.yl.snd, if_pos h2]
            have HLS := hide' (lead_some HF2.out.yl.may HLD.out)
            obtain ⟨t, ht⟩ : ∃ t, t = ((y.at c).turn j).code := ⟨_, rfl⟩
            rw [← ht] at HLD HLS
            have HLT : Hid (LP w wc T n n1 n3 (y.at t) a1 a2 a3' c1 c2 c3) := ⟨hT, Nat.le_trans HL.out.1.bel.size hTs, HF2.out.bel, by rw [HLS.out.2.2.2.2.1]; exact HA2.out.yl.turn hj h2, by rw [HLS.out.2.2.2.2.1]; exact h7⟩
            have HNX : Hid (LP w ((((wc.setCell ⟨A, 0, none⟩ (.int .i64 (n : Int))).setCell ⟨A, 1, none⟩ (.slice a1 n1 c1)).setCell ⟨A, 2, none⟩ (.slice a2 1 c2)).setCell ⟨A, 3, none⟩ (.slice a3' n3 c3)) Fb n n1 n3 y ff fd fs fF fD fS ∧ LP w ((((wc.setCell ⟨A, 0, none⟩ (.int .i64 (n : Int))).setCell ⟨A, 1, none⟩ (.slice a1 n1 c1)).setCell ⟨A, 2, none⟩ (.slice a2 1 c2)).setCell ⟨A, 3, none⟩ (.slice a3' n3 c3)) A n n1 n3 (y.at t) a1 a2 a3' c1 c2 c3) := ⟨HA2.out.kept HF2.out HNE.out hls0 _ _ _, LP.store HA2.out HLT.out hls0⟩
            have HRN : Hid (runK (leadF y) y.code (p ++ [j]) = some t ∧ t < 2 ^ n3) := ⟨(run_snoc _ _ _ _ _).2 ⟨c, HR.out.1, HLD.out⟩, by rw [← HF2.out.yl.es]; exact HLS.out.2.2.1⟩
            have t0 : wc.cell? ⟨T, 0, none⟩ = some (.int .i64 (n : Int)) := (cells_at HLT.out.hA 0).trans rfl
            have t1 : wc.cell? ⟨T, 1, none⟩ = some (.slice a1 n1 c1) := (cells_at HLT.out.hA 1).trans rfl
            have t2 : wc.cell? ⟨T, 2, none⟩ = some (.slice a2 1 c2) := (cells_at HLT.out.hA 2).trans rfl
            have t3 : wc.cell? ⟨T, 3, none⟩ = some (.slice a3' n3 c3) := (cells_at HLT.out.hA 3).trans rfl
            have q0 : wc.cell? ⟨A, 0, none⟩ = some (.int .i64 (n : Int)) := (cells_at HA2.out.hA 0).trans rfl
            have q1 : wc.cell? ⟨A, 1, none⟩ = some (.slice bf n1 bF) := (cells_at HA2.out.hA 1).trans rfl
            have q2 : wc.cell? ⟨A, 2, none⟩ = some (.slice bd 1 bD) := (cells_at HA2.out.hA 2).trans rfl
            have q3 : wc.cell? ⟨A, 3, none⟩ = some (.slice bs n3 bS) := (cells_at HA2.out.hA 3).trans rfl
            have g0 : wc.frozen? ⟨A, 0, none⟩ = false := frozen_no HA2.out.hA _
            have g1 : wc.frozen? ⟨A, 1, none⟩ = false := frozen_no HA2.out.hA _
            have g2 : wc.frozen? ⟨A, 2, none⟩ = false := frozen_no HA2.out.hA _
            have g3 : wc.frozen? ⟨A, 3, none⟩ = false := frozen_no HA2.out.hA _
            clear hT hbc hTs h2 h7 HLT HF2 HA2 HRT HL HLD HLS ht HR
            go_wp2_with fail
            go_roundw
            case rel => exact ⟨i + 1, t, p ++ [j], a1, a2, a3', c1, c2, c3, by rw [List.length_append]; go_num, by go_num, by omega, by rw [List.length_append]; exact Nat.succ_le_succ hpi, HRN.out, HNX.out⟩
            case measure => simp only [intOf]; omega
      · obtain rfl : ls = 0 := by omega
        go_wp2_with fail
        refine HK3.out _ _ ?_
        exact shortD w wr n lf 0 Fb A y ff fd fs fF fD fS bf bd bs bF bD bS c p HR.out.1 HR.out.2 (by omega) HL.out.1 HL.out.2 _ _ _ _ _ _ _ _ _ _ _ _ _ _ _ _ _ _ _ _ _ _ _ _ _ _ _ _ _ _ _ _ _ _ _ _ _ _ _ _ _ _ _ _ _ _ _ _ _ _ _ _ _ _ _ _ _ _ _ _ _ _ _ _ _ _ _ _ _ _ _ _ _ _ _ _ _ _ _ _ _ _ _ _ _ _ _ _ _ _ _ _ _ _ _ _ _ _ _ _ _ _ _ _ _ _ _ _ _ _ _ _ _ _ _ _ _ _ _ _ _ _ _ _ _ _ _ _ _ _ _ _ _ _ _ _ _ _ _ _ _ _ _ _ _ _ _ _ _ _ _ _ _ _ _ _ _ _ _ _ _ _ _ _ _ _ _ _ _ _ _ _ _ _ _ _ _ _
    · go_wp2_with fail
      refine HK3.out _ _ ?_
      exact shortD w wr n lf ls Fb A y ff fd fs fF fD fS bf bd bs bF bD bS c p HR.out.1 HR.out.2 (by omega) HL.out.1 HL.out.2 _ _ _ _ _ _ _ _ _ _ _ _ _ _ _ _ _ _ _ _ _ _ _ _ _ _ _ _ _ _ _ _ _ _ _ _ _ _ _ _ _ _ _ _ _ _ _ _ _ _ _ _ _ _ _ _ _ _ _ _ _ _ _ _ _ _ _ _ _ _ _ _ _ _ _ _ _ _ _ _ _ _ _ _ _ _ _ _ _ _ _ _ _ _ _ _ _ _ _ _ _ _ _ _ _ _ _ _ _ _ _ _ _ _ _ _ _ _ _ _ _ _ _ _ _ _ _ _ _ _ _ _ _ _ _ _ _ _ _ _ _ _ _ _ _ _ _ _ _ _ _ _ _ _ _ _ _ _ _ _ _ _ _ _ _ _ _ _ _ _ _ _ _ _ _ _ _ _
end Go.Proofs.Ytcnoipcpifackah
