/- What a line shows: the document's answer is the program's. -/
import Derived.Test.YtmbgjmkndhjilakFt
namespace Go.Proofs.Ytmbgjmkndhjilak
open Go.RowKit Go.Shelf

theorem act_eq {a : Act} {t : Array Value} (h1 : a.tmps = t) (h2 : a.defers = []) : a = ⟨t, []⟩ := by
  obtain ⟨x, y⟩ := a
  simp only at h1 h2
  rw [h1, h2]
theorem bigM : Small (10000 ^ 10 * 10000) := small_big (by decide)
theorem below_M {n : Nat} (h : n ≤ 10000000000000000000000000000) : n ≤ 10000 ^ 10 := Nat.le_trans h (by decide)
theorem small_M {n : Nat} (h : n ≤ 10000000000000000000000000000) : Small n := bigM.le (Nat.le_trans (below_M h) (Nat.le_mul_of_pos_right _ (by decide)))
set_option maxRecDepth 100000 in
set_option maxHeartbeats 4000000 in
theorem lineAt_any {bt ot bv ov n ct cv i y p0 p1 q0 q1 : Nat} {w : World} (hin : i + 1 < n) (hn : n ≤ 50) (hp : p0 ≤ p1) (hp1 : p1 ≤ 4294967295) (hq : q0 < q1) (hq1 : q1 ≤ 1000000000) (hy : q0 ≤ y) (hy1 : y ≤ 1000000000) (hC : ∀ z, Below w.heap.size w z → Four bt ot bv ov i q0 q1 p0 p1 z) : Calls Try.prog 61 #[.slice (some ⟨bt, ot, none⟩) n ct, .slice (some ⟨bv, ov, none⟩) n cv, .int .i64 (i : Int), .int .i64 (y : Int)] w (CmpR (lineV p0 p1 q0 q1 y) w) := by
  obtain ⟨dv, hdv⟩ : ∃ x, x = p1 - p0 := ⟨_, rfl⟩
  obtain ⟨dt, hdt⟩ : ∃ x, x = q1 - q0 := ⟨_, rfl⟩
  obtain ⟨dx, hdx⟩ : ∃ x, x = y - q0 := ⟨_, rfl⟩
  have bdt : 0 < dt ∧ dt ≤ 1000000000 := by omega
  have bdv : dv ≤ 4294967295 := by omega
  have bdx : dx ≤ 1000000000 := by omega
  obtain ⟨r1, r1p, r1n, r1d⟩ := red (n := dv * 1) (d := 1 * dt) (by omega)
  obtain ⟨n1, hn1⟩ : ∃ x, x = (dv * 1) / Nat.gcd (dv * 1) (1 * dt) := ⟨_, rfl⟩
  obtain ⟨d1, hd1⟩ : ∃ x, x = (1 * dt) / Nat.gcd (dv * 1) (1 * dt) := ⟨_, rfl⟩
  have HQD : Hid (∀ z u v, QAt z u false dv 1 → QAt z v false dt 1 → Calls Try.prog 67 #[u, v] z (QR false n1 d1 z)) := fun z u v hu hv => by
    rw [hn1, hd1]
    exact QDiv_pos hu hv (small_M (by omega)) (small_M (by omega)) (small_M (by omega)) (small_M (by omega)) (by omega) (below_M (by omega)) (below_M (by omega)) bigM
  rw [← hn1, ← hd1] at r1
  rw [← hd1] at r1p r1d
  rw [← hn1] at r1n
  rw [Nat.one_mul, Nat.mul_one] at r1
  have bn1 : n1 ≤ 4294967295 := by omega
  have bd1 : d1 ≤ 1000000000 := by omega
  have hmx : n1 * dx ≤ 4294967295 * 1000000000 := Nat.mul_le_mul bn1 bdx
  obtain ⟨r2, r2p, r2n, r2d⟩ := red (n := n1 * dx) (d := d1 * 1) (by omega)
  obtain ⟨n2, hn2⟩ : ∃ x, x = (n1 * dx) / Nat.gcd (n1 * dx) (d1 * 1) := ⟨_, rfl⟩
  obtain ⟨d2, hd2⟩ : ∃ x, x = (d1 * 1) / Nat.gcd (n1 * dx) (d1 * 1) := ⟨_, rfl⟩
  have HQM : Hid (∀ z u v, QAt z u false n1 d1 → QAt z v false dx 1 → Calls Try.prog 70 #[u, v] z (QR false n2 d2 z)) := fun z u v hu hv => by
    rw [hn2, hd2]
    exact QMul_pos hu hv (small_M (by omega)) (small_M (by omega)) (small_M (by omega)) (small_M (by omega)) (by omega) (below_M (by omega)) (below_M (by omega)) bigM
  rw [← hn2, ← hd2] at r2
  rw [← hd2] at r2p r2d
  rw [← hn2] at r2n
  rw [Nat.mul_one] at r2
  have bn2 : n2 ≤ 4294967295000000000 := by omega
  have bd2 : d2 ≤ 1000000000 := by omega
  have hpx : p0 * d2 ≤ 4294967295 * 1000000000 := Nat.mul_le_mul (by omega) bd2
  obtain ⟨r3, r3p, r3n, r3d⟩ := red (n := p0 * d2 + n2 * 1) (d := 1 * d2) (by omega)
  obtain ⟨n3, hn3⟩ : ∃ x, x = (p0 * d2 + n2 * 1) / Nat.gcd (p0 * d2 + n2 * 1) (1 * d2) := ⟨_, rfl⟩
  obtain ⟨d3, hd3⟩ : ∃ x, x = (1 * d2) / Nat.gcd (p0 * d2 + n2 * 1) (1 * d2) := ⟨_, rfl⟩
  have HQA : Hid (∀ z u v, QAt z u false p0 1 → QAt z v false n2 d2 → Calls Try.prog 69 #[u, v] z (QR false n3 d3 z)) := fun z u v hu hv => by
    rw [hn3, hd3]
    exact QAdd_pp hu hv (small_M (by omega)) (small_M (by omega)) (small_M (by omega)) (small_M (by omega)) (by omega) (below_M (by omega)) (below_M (by omega)) bigM
  rw [← hn3, ← hd3] at r3
  rw [← hd3] at r3p r3d
  rw [← hn3] at r3n
  rw [Nat.mul_one, Nat.one_mul] at r3
  have bn3 : n3 ≤ 10000000000000000000 := by omega
  have bd3 : d3 ≤ 1000000000 := by omega
  have HQC : Hid (∀ z u v, QAt z u false n3 d3 → QAt z v false 4294967295 1 → Calls Try.prog 71 #[u, v] z (CmpR (cmpN (n3 * 1) (4294967295 * d3)) z)) := fun z u v hu hv => QCmp_pos hu hv (by decide) (small_M (by omega)) (small_M (by omega)) (small_M (by decide)) (small_M (by decide)) (by omega) (below_M (by omega)) (below_M (by omega)) bigM
  have HLF := hide' (line_frac (n3 := n3) (d3 := d3) (p0 := p0) (p1 := p1) (q0 := q0) (q1 := q1) (y := y) (by rw [← hdt, ← hdv, ← hdx]; exact step_add (step_mul r1 r2 r1p) r3 r2p) r3p hq hp hy)
  have HQF : Hid (∀ z u, n3 ≤ 4294967295 * d3 → QAt z u false n3 d3 → Calls Try.prog 72 #[u] z (CmpR ((n3 / d3 : Nat) : Int) z)) := fun z u hle hu => QFloor_pos hu r3p (small_M (by omega)) (bigM.le (Nat.mul_le_mul_right _ (below_M (by omega)))) (HLF.out.2 hle).2
  rw [hdv, hdt] at HQD
  rw [hdx] at HQM
  have HC := hide' hC
  clear hC r1 r1p r1n r1d r2 r2p r2n r2d r3 r3p r3n r3d hn1 hd1 hn2 hd2 hn3 hd3 hmx hpx bn1 bd1 bn2 bd2 bn3 bd3 hdv hdt hdx bdt bdv bdx
  obtain ⟨LV, HLV⟩ : ∃ x, Hid (x = lineV p0 p1 q0 q1 y) := ⟨_, rfl⟩
  rw [← HLV.out] at HLF ⊢
  go_enter Try.func61, Try.ntmps61
  refine wp_seq_k fun K0 hK0 => ?_
  have HK0 := hide' hK0
  clear hK0
  go_wp2_with fail
  refine HK0.out _ _ ?_
  clear HK0 K0
  refine wp_seq_k fun K1 hK1 => ?_
  have HK1 := hide' hK1
  clear hK1
  refine wp_mono (lineR1 (n1 := n1) (d1 := d1) hin hn hp hp1 hq hq1 hy hy1 HC.out HQD.out) ?_
  rintro e a w1 ⟨rfl, A, fk, fc, gk, gc, fa, ga, ⟨g11, g12, g13, g14, g15, g16, g17, g18, g19, g20, g21, g22, g23, g24, g25, g26, g27, g28, g29, g30, g31, g32, g33, ht⟩, hdf, hbx, hqa, hbw, _⟩
  obtain rfl := act_eq ht hdf
  have HR2 := hide' (lineR2 (ct := ct) (cv := cv) (n3 := n3) (d3 := d3) hin hn hp hp1 hq hq1 hy hy1 HC.out A fk fc gk gc fa ga hbx hqa hbw HQM.out HQA.out g11 g12 g13 g14 g15 g16 g17 g18 g19 g20 g21 g22 g23 g24 g25 g26 g27 g28 g29 g30 g31 g32 g33)
  clear ht hdf hbx hqa hbw
  dsimp only
  refine HK1.out _ _ ?_
  clear HK1 K1
  refine wp_seq_k fun K2 hK2 => ?_
  have HK2 := hide' hK2
  clear hK2
  refine wp_mono HR2.out ?_
  rintro e a w2 ⟨rfl, E, hk, hc, jk, jc, ha, ja, ⟨h34, h35, h36, h37, h38, h39, h40, h41, h42, h43, h44, h45, h46, h47, h48, ht⟩, hdf, hbx, hqa, hbw, _⟩
  obtain rfl := act_eq ht hdf
  have HBX : Hid ((w2.heap[E]? = some (.cells #[.bool false, .slice ha hk hc, .slice ja jk jc] 113 (0, 0))) ∧ QAt w2 (.agg #[.bool false, .slice ha hk hc, .slice ja jk jc]) false n3 d3 ∧ Below w.heap.size w w2) := ⟨hbx, hqa, hbw⟩
  clear ht hdf hbx hqa hbw HR2 HQD HQM HQA HC
  dsimp only
  refine HK2.out _ _ ?_
  clear HK2 K2
  go_upto_region 3 with fail
  refine wp_region_tail (fun W' => W'.heap[E]? = some (.cells #[.bool false, .slice ha hk hc, .slice ja jk jc] 113 (0, 0))) 3 (by kernel_rfl) ?_
  refine wpAnyT_letter (fun q => Hid ((q.heap[E]? = some (.cells #[.bool false, .slice ha hk hc, .slice ja jk jc] 113 (0, 0))) ∧ QAt q (.agg #[.bool false, .slice ha hk hc, .slice ja jk jc]) false n3 d3 ∧ Below w.heap.size w q)) ⟨HBX.out.1, HBX.out.2.1.below (Below.refl _ w2).drew (Nat.le_refl _), HBX.out.2.2.drew⟩ ?_
  clear HBX
  intro z H0
  refine wpAnyD_takeAt 0 (some 49) (v := ?_) rfl (by kernel_rfl) (by kernel_rfl) (by kernel_rfl) (by kernel_rfl) (by kernel_rfl) (fun _ _ _ h => h) (by exact H0.out.1) (fun o hop => ?_) ?_
  rotate_left
  · injection hop with hop
    subst hop
    refine ⟨rfl, fun W' hW => ?_⟩
    have t0 : W'.cell? ⟨E, 0, none⟩ = some (.bool false) := (cells_at hW 0).trans rfl
    have t1 : W'.cell? ⟨E, 1, none⟩ = some (.slice ha hk hc) := (cells_at hW 1).trans rfl
    have t2 : W'.cell? ⟨E, 2, none⟩ = some (.slice ja jk jc) := (cells_at hW 2).trans rfl
    go_simp
    first
    | rfl
    | rw [if_pos (by omega)]
    | (constructor <;> rfl)
  try simp only [Act.put, List.setIfInBounds_toArray, List.set_cons_zero, List.set_cons_succ]
  refine wpAnyT_one (i := 1) (by kernel_rfl) rfl rfl (fun K' hK => ?_)
  go_simp
  go_at_call 68
  refine (Whole_any 4294967295 (by decide) _).mono ?_
  rintro e z1 hq1
  obtain ⟨va, rfl, hva, hb⟩ := hq1.at
  have H1 : Hid ((z1.heap[E]? = some (.cells #[.bool false, .slice ha hk hc, .slice ja jk jc] 113 (0, 0))) ∧ QAt z1 (.agg #[.bool false, .slice ha hk hc, .slice ja jk jc]) false n3 d3 ∧ Below w.heap.size w z1 ∧ QAt z1 va false 4294967295 1) := ⟨(hb.block E (ltF H0.out.1)).trans H0.out.1, H0.out.2.1.below hb (Nat.le_refl _), H0.out.2.2.trans (hb.mono H0.out.2.2.size), hva⟩
  refine hK.out _ _ (fun _ => H1.out.1) ?_
  clear hK K' hq1 hva hb H0
  try simp only [Act.put, List.setIfInBounds_toArray, List.set_cons_zero, List.set_cons_succ]
  refine wpAnyT_one (i := 2) (by kernel_rfl) rfl rfl (fun K' hK => ?_)
  go_simp
  go_at_call 71
  refine (HQC.out _ _ _ H1.out.2.1 H1.out.2.2.2).mono ?_
  rintro e z2 ⟨rfl, hb⟩
  have H2 : Hid ((z2.heap[E]? = some (.cells #[.bool false, .slice ha hk hc, .slice ja jk jc] 113 (0, 0))) ∧ QAt z2 (.agg #[.bool false, .slice ha hk hc, .slice ja jk jc]) false n3 d3 ∧ Below w.heap.size w z2) := ⟨(hb.block E (ltF H1.out.1)).trans H1.out.1, H1.out.2.1.below hb (Nat.le_refl _), H1.out.2.2.1.trans (hb.mono H1.out.2.2.1.size)⟩
  refine hK.out _ _ (fun _ => H2.out.1) ?_
  clear hK K' hb H1 HQC
  try simp only [Act.put, List.setIfInBounds_toArray, List.set_cons_zero, List.set_cons_succ]
  refine wpAnyT_one (i := 3) (by kernel_rfl) rfl rfl (fun K' hK => ?_)
  go_simp
  refine hK.out _ _ (fun h => absurd rfl h) ?_
  clear hK K'
  try simp only [Act.put, List.setIfInBounds_toArray, List.set_cons_zero, List.set_cons_succ]
  refine wpAnyT_done (by kernel_rfl) ?_ _
  try rw [Nat.mul_one]
  by_cases hlt : 4294967295 * d3 < n3
  · rw [cmp_gt hlt]
    have HL := hide' (HLF.out.1 hlt)
    clear HLF HQF
    go_wp2
    go_ret
    exact ⟨by rw [HL.out]; rfl, H2.out.2.2⟩
  · have hle : n3 ≤ 4294967295 * d3 := by omega
    obtain ⟨cc, HCC⟩ : ∃ cc, Hid (cc = cmpN n3 (4294967295 * d3)) := ⟨_, rfl⟩
    have hcc : ¬ 0 < cc := by
      have : cc ≤ 0 := by rw [HCC.out, cmp_le]; exact hle
      omega
    rw [← HCC.out]
    have HL := hide' (HLF.out.2 hle).1
    have HQ := hide' (HQF.out z2 _ hle H2.out.2.1)
    rw [← HL.out] at HQ
    have e0 : z2.cell? ⟨E, 0, none⟩ = some (.bool false) := (cells_at H2.out.1 0).trans rfl
    have e1 : z2.cell? ⟨E, 1, none⟩ = some (.slice ha hk hc) := (cells_at H2.out.1 1).trans rfl
    have e2 : z2.cell? ⟨E, 2, none⟩ = some (.slice ja jk jc) := (cells_at H2.out.1 2).trans rfl
    have HB2 := hide' H2.out.2.2
    clear HLF HQF HCC hle hlt H2 HL
    go_wp2_with fail
    refine HQ.out.mono ?_
    rintro e z3 ⟨rfl, hb3⟩
    have HB3 : Hid (Below w.heap.size w z3) := HB2.out.trans (hb3.mono HB2.out.size)
    clear hb3 HB2 HQ e0 e1 e2
    go_wp2
    go_ret
    exact ⟨rfl, HB3.out⟩
end Go.Proofs.Ytmbgjmkndhjilak
