/- What a line shows: its second half. -/
import Derived.Test.YtmbgjmkndhjilakFs
namespace Go.Proofs.Ytmbgjmkndhjilak
open Go.RowKit Go.Shelf

set_option maxRecDepth 100000 in
set_option maxHeartbeats 4000000 in
theorem lineR2 {bt ot bv ov n ct cv i y p0 p1 q0 q1 n1 d1 n2 d2 n3 d3 : Nat} {w w1 : World} (hin : i + 1 < n) (_hn : n ≤ 50) (hp : p0 ≤ p1) (hp1 : p1 ≤ 4294967295) (hq : q0 < q1) (hq1 : q1 ≤ 1000000000) (hy : q0 ≤ y) (hy1 : y ≤ 1000000000) (hC : ∀ z, Below w.heap.size w z → Four bt ot bv ov i q0 q1 p0 p1 z) (A fk fc gk gc : Nat) (fa ga : Option Addr) (hA : w1.heap[A]? = some (.cells #[.bool false, .slice fa fk fc, .slice ga gk gc] 113 (0, 0))) (hQ : QAt w1 (.agg #[.bool false, .slice fa fk fc, .slice ga gk gc]) false n1 d1) (hbw : Below w.heap.size w w1)
    (hQM : ∀ z u v, QAt z u false n1 d1 → QAt z v false (y - q0) 1 → Calls Try.prog 70 #[u, v] z (QR false n2 d2 z)) (hQA : ∀ z u v, QAt z u false p0 1 → QAt z v false n2 d2 → Calls Try.prog 69 #[u, v] z (QR false n3 d3 z)) (g11 g12 g13 g14 g15 g16 g17 g18 g19 g20 g21 g22 g23 g24 g25 g26 g27 g28 g29 g30 g31 g32 g33 : Value) : Code.wp Try.prog (headC 2 Try.f61) (LQ1 n3 d3 w (fun t E => ∃ h34 h35 h36 h37 h38 h39 h40 h41 h42 h43 h44 h45 h46 h47 h48, t = #[.slice (some ⟨bt, ot, none⟩) n ct, .slice (some ⟨bv, ov, none⟩) n cv, .int .i64 (i : Int), .int .i64 (y : Int), undef, undef, undef, undef, .int .i64 0, .pointer (some ⟨A, 0, none⟩), .pointer (some ⟨E, 0, none⟩), g11, g12, g13, g14, g15, g16, g17, g18, g19, g20, g21, g22, g23, g24, g25, g26, g27, g28, g29, g30, g31, g32, g33, h34, h35, h36, h37, h38, h39, h40, h41, h42, h43, h44, h45, h46, h47, h48, undef, undef, undef, undef, undef, undef])) ⟨#[.slice (some ⟨bt, ot, none⟩) n ct, .slice (some ⟨bv, ov, none⟩) n cv, .int .i64 (i : Int), .int .i64 (y : Int), undef, undef, undef, undef, .int .i64 0, .pointer (some ⟨A, 0, none⟩), undef, g11, g12, g13, g14, g15, g16, g17, g18, g19, g20, g21, g22, g23, g24, g25, g26, g27, g28, g29, g30, g31, g32, g33, undef, undef, undef, undef, undef, undef, undef, undef, undef, undef, undef, undef, undef, undef, undef, undef, undef, undef, undef, undef, undef], []⟩ w1 := by
  have HC := hide' hC
  have HQM := hide' hQM
  have HQA := hide' hQA
  have HWY : Hid (IntKind.i64.wrap ((y : Int) - (q0 : Int)) = (y : Int) - (q0 : Int)) := wrap_ok (by omega)
  have HDX : Hid ((y : Int) - (q0 : Int) = ((y - q0 : Nat) : Int)) := by show _ = _; omega
  clear hC hQM hQA
  conv => arg 2; whnf
  refine wp_region_tail (fun W' => Four bt ot bv ov i q0 q1 p0 p1 W' ∧ W'.heap[A]? = some (.cells #[.bool false, .slice fa fk fc, .slice ga gk gc] 113 (0, 0))) 16 (by kernel_rfl) ?_
  refine wpAnyT_letter (fun q => Hid ((Four bt ot bv ov i q0 q1 p0 p1 q ∧ q.heap[A]? = some (.cells #[.bool false, .slice fa fk fc, .slice ga gk gc] 113 (0, 0))) ∧ (Below w.heap.size w q) ∧ (QAt q (.agg #[.bool false, .slice fa fk fc, .slice ga gk gc]) false n1 d1))) ⟨⟨HC.out _ hbw.drew, hA⟩, hbw.drew, hQ.below (Below.refl _ w1).drew (Nat.le_refl _)⟩ ?_
  clear hA hQ hbw
  intro z H0
  refine wpAnyD_takeAt 0 (some 34) (v := ?_) rfl (by kernel_rfl) (by kernel_rfl) (by kernel_rfl) (by kernel_rfl) (by kernel_rfl) (fun _ _ _ h => nomL h) (by exact H0.out.1) (fun o hop => ?_) ?_
  rotate_left
  · injection hop with hop
    subst hop
    refine ⟨rfl, fun W' hW => ?_⟩
    obtain ⟨m0, m1, m2, m3⟩ := hW.1
    have t0 : W'.cell? ⟨A, 0, none⟩ = some (.bool false) := (cells_at hW.2 0).trans rfl
    have t1 : W'.cell? ⟨A, 1, none⟩ = some (.slice fa fk fc) := (cells_at hW.2 1).trans rfl
    have t2 : W'.cell? ⟨A, 2, none⟩ = some (.slice ga gk gc) := (cells_at hW.2 2).trans rfl
    go_simp
    first
    | rfl
    | rw [if_pos (by omega)]
    | (constructor <;> rfl)
  try simp only [Act.put, List.setIfInBounds_toArray, List.set_cons_zero, List.set_cons_succ]
  refine wpAnyD_takeAt 1 (some 35) (v := ?_) rfl (by kernel_rfl) (by kernel_rfl) (by kernel_rfl) (by kernel_rfl) (by kernel_rfl) (fun _ _ _ h => nomL h) (by exact H0.out.1) (fun o hop => ?_) ?_
  rotate_left
  · injection hop with hop
    subst hop
    refine ⟨rfl, fun W' hW => ?_⟩
    obtain ⟨m0, m1, m2, m3⟩ := hW.1
    have t0 : W'.cell? ⟨A, 0, none⟩ = some (.bool false) := (cells_at hW.2 0).trans rfl
    have t1 : W'.cell? ⟨A, 1, none⟩ = some (.slice fa fk fc) := (cells_at hW.2 1).trans rfl
    have t2 : W'.cell? ⟨A, 2, none⟩ = some (.slice ga gk gc) := (cells_at hW.2 2).trans rfl
    go_simp
    first
    | rfl
    | rw [if_pos (by omega)]
    | (constructor <;> rfl)
  try simp only [Act.put, List.setIfInBounds_toArray, List.set_cons_zero, List.set_cons_succ]
  refine wpAnyD_takeAt 2 (some 36) (v := ?_) rfl (by kernel_rfl) (by kernel_rfl) (by kernel_rfl) (by kernel_rfl) (by kernel_rfl) (fun _ _ _ h => nomL h) (by exact H0.out.1) (fun o hop => ?_) ?_
  rotate_left
  · injection hop with hop
    subst hop
    refine ⟨rfl, fun W' hW => ?_⟩
    obtain ⟨m0, m1, m2, m3⟩ := hW.1
    have t0 : W'.cell? ⟨A, 0, none⟩ = some (.bool false) := (cells_at hW.2 0).trans rfl
    have t1 : W'.cell? ⟨A, 1, none⟩ = some (.slice fa fk fc) := (cells_at hW.2 1).trans rfl
    have t2 : W'.cell? ⟨A, 2, none⟩ = some (.slice ga gk gc) := (cells_at hW.2 2).trans rfl
    go_simp
    first
    | rfl
    | rw [if_pos (by omega)]
    | (constructor <;> rfl)
  try simp only [Act.put, List.setIfInBounds_toArray, List.set_cons_zero, List.set_cons_succ]
  refine wpAnyD_takeAt 3 (some 37) (v := ?_) rfl (by kernel_rfl) (by kernel_rfl) (by kernel_rfl) (by kernel_rfl) (by kernel_rfl) (fun _ _ _ h => nomL h) (by exact H0.out.1) (fun o hop => ?_) ?_
  rotate_left
  · injection hop with hop
    subst hop
    refine ⟨rfl, fun W' hW => ?_⟩
    obtain ⟨m0, m1, m2, m3⟩ := hW.1
    have t0 : W'.cell? ⟨A, 0, none⟩ = some (.bool false) := (cells_at hW.2 0).trans rfl
    have t1 : W'.cell? ⟨A, 1, none⟩ = some (.slice fa fk fc) := (cells_at hW.2 1).trans rfl
    have t2 : W'.cell? ⟨A, 2, none⟩ = some (.slice ga gk gc) := (cells_at hW.2 2).trans rfl
    go_simp
    first
    | rfl
    | rw [if_pos (by omega)]
    | (constructor <;> rfl)
  try simp only [Act.put, List.setIfInBounds_toArray, List.set_cons_zero, List.set_cons_succ]
  refine wpAnyD_takeAt 5 (some 39) (v := ?_) rfl (by kernel_rfl) (by kernel_rfl) (by kernel_rfl) (by kernel_rfl) (by kernel_rfl) (fun _ _ _ h => nomL h) (by exact H0.out.1) (fun o hop => ?_) ?_
  rotate_left
  · injection hop with hop
    subst hop
    refine ⟨rfl, fun W' hW => ?_⟩
    obtain ⟨m0, m1, m2, m3⟩ := hW.1
    have t0 : W'.cell? ⟨A, 0, none⟩ = some (.bool false) := (cells_at hW.2 0).trans rfl
    have t1 : W'.cell? ⟨A, 1, none⟩ = some (.slice fa fk fc) := (cells_at hW.2 1).trans rfl
    have t2 : W'.cell? ⟨A, 2, none⟩ = some (.slice ga gk gc) := (cells_at hW.2 2).trans rfl
    go_simp
    first
    | rfl
    | rw [if_pos (by omega)]
    | (constructor <;> rfl)
  try simp only [Act.put, List.setIfInBounds_toArray, List.set_cons_zero, List.set_cons_succ]
  refine wpAnyD_takeAt 6 (some 40) (v := ?_) rfl (by kernel_rfl) (by kernel_rfl) (by kernel_rfl) (by kernel_rfl) (by kernel_rfl) (fun _ _ _ h => nomL h) (by exact H0.out.1) (fun o hop => ?_) ?_
  rotate_left
  · injection hop with hop
    subst hop
    refine ⟨rfl, fun W' hW => ?_⟩
    obtain ⟨m0, m1, m2, m3⟩ := hW.1
    have t0 : W'.cell? ⟨A, 0, none⟩ = some (.bool false) := (cells_at hW.2 0).trans rfl
    have t1 : W'.cell? ⟨A, 1, none⟩ = some (.slice fa fk fc) := (cells_at hW.2 1).trans rfl
    have t2 : W'.cell? ⟨A, 2, none⟩ = some (.slice ga gk gc) := (cells_at hW.2 2).trans rfl
    go_simp
    first
    | rfl
    | rw [if_pos (by omega)]
    | (constructor <;> rfl)
  try simp only [Act.put, List.setIfInBounds_toArray, List.set_cons_zero, List.set_cons_succ]
  refine wpAnyD_takeAt 7 (some 41) (v := ?_) rfl (by kernel_rfl) (by kernel_rfl) (by kernel_rfl) (by kernel_rfl) (by kernel_rfl) (fun _ _ _ h => nomL h) (by exact H0.out.1) (fun o hop => ?_) ?_
  rotate_left
  · injection hop with hop
    subst hop
    refine ⟨rfl, fun W' hW => ?_⟩
    obtain ⟨m0, m1, m2, m3⟩ := hW.1
    have t0 : W'.cell? ⟨A, 0, none⟩ = some (.bool false) := (cells_at hW.2 0).trans rfl
    have t1 : W'.cell? ⟨A, 1, none⟩ = some (.slice fa fk fc) := (cells_at hW.2 1).trans rfl
    have t2 : W'.cell? ⟨A, 2, none⟩ = some (.slice ga gk gc) := (cells_at hW.2 2).trans rfl
    go_simp
    first
    | rfl
    | rw [if_pos (by omega)]
    | (constructor <;> rfl)
  try simp only [Act.put, List.setIfInBounds_toArray, List.set_cons_zero, List.set_cons_succ]
  refine wpAnyD_takeAt 8 (some 42) (v := ?_) rfl (by kernel_rfl) (by kernel_rfl) (by kernel_rfl) (by kernel_rfl) (by kernel_rfl) (fun _ _ _ h => nomL h) (by exact H0.out.1) (fun o hop => ?_) ?_
  rotate_left
  · injection hop with hop
    subst hop
    refine ⟨rfl, fun W' hW => ?_⟩
    obtain ⟨m0, m1, m2, m3⟩ := hW.1
    have t0 : W'.cell? ⟨A, 0, none⟩ = some (.bool false) := (cells_at hW.2 0).trans rfl
    have t1 : W'.cell? ⟨A, 1, none⟩ = some (.slice fa fk fc) := (cells_at hW.2 1).trans rfl
    have t2 : W'.cell? ⟨A, 2, none⟩ = some (.slice ga gk gc) := (cells_at hW.2 2).trans rfl
    go_simp
    first
    | rfl
    | rw [if_pos (by omega)]
    | (constructor <;> rfl)
  try simp only [Act.put, List.setIfInBounds_toArray, List.set_cons_zero, List.set_cons_succ]
  refine wpAnyD_takeAt 9 (some 43) (v := ?_) rfl (by kernel_rfl) (by kernel_rfl) (by kernel_rfl) (by kernel_rfl) (by kernel_rfl) (fun _ _ _ h => nomL h) (by exact H0.out.1) (fun o hop => ?_) ?_
  rotate_left
  · injection hop with hop
    subst hop
    refine ⟨rfl, fun W' hW => ?_⟩
    obtain ⟨m0, m1, m2, m3⟩ := hW.1
    have t0 : W'.cell? ⟨A, 0, none⟩ = some (.bool false) := (cells_at hW.2 0).trans rfl
    have t1 : W'.cell? ⟨A, 1, none⟩ = some (.slice fa fk fc) := (cells_at hW.2 1).trans rfl
    have t2 : W'.cell? ⟨A, 2, none⟩ = some (.slice ga gk gc) := (cells_at hW.2 2).trans rfl
    go_simp
    first
    | rfl
    | rw [if_pos (by omega)]
    | (constructor <;> rfl)
  try simp only [Act.put, List.setIfInBounds_toArray, List.set_cons_zero, List.set_cons_succ]
  refine wpAnyD_takeAt 10 (some 44) (v := ?_) rfl (by kernel_rfl) (by kernel_rfl) (by kernel_rfl) (by kernel_rfl) (by kernel_rfl) (fun _ _ _ h => nomL h) (by exact H0.out.1) (fun o hop => ?_) ?_
  rotate_left
  · injection hop with hop
    subst hop
    refine ⟨rfl, fun W' hW => ?_⟩
    obtain ⟨m0, m1, m2, m3⟩ := hW.1
    have t0 : W'.cell? ⟨A, 0, none⟩ = some (.bool false) := (cells_at hW.2 0).trans rfl
    have t1 : W'.cell? ⟨A, 1, none⟩ = some (.slice fa fk fc) := (cells_at hW.2 1).trans rfl
    have t2 : W'.cell? ⟨A, 2, none⟩ = some (.slice ga gk gc) := (cells_at hW.2 2).trans rfl
    go_simp
    first
    | rfl
    | rw [if_pos (by omega)]
    | (constructor <;> rfl)
  try simp only [Act.put, List.setIfInBounds_toArray, List.set_cons_zero, List.set_cons_succ]
  refine wpAnyD_takeAt 11 (some 45) (v := .int .i64 ((y : Int) - (q0 : Int))) rfl (by kernel_rfl) (by kernel_rfl) (by kernel_rfl) (by kernel_rfl) (by kernel_rfl) (fun _ _ _ h => nomL h) (by exact H0.out.1) (fun o hop => ?_) ?_
  · injection hop with hop
    subst hop
    refine ⟨rfl, fun W' hW => ?_⟩
    obtain ⟨m0, m1, m2, m3⟩ := hW.1
    go_simp
    first
    | rfl
    | exact HWY.out
    | rw [HWY.out]
    | (constructor <;> rfl)
  try simp only [Act.put, List.setIfInBounds_toArray, List.set_cons_zero, List.set_cons_succ]
  refine wpAnyT_two (i := 4) (j := 15) (by kernel_rfl) rfl rfl rfl rfl (fun K' hK => ?_) (fun K' hK => ?_)
  · go_simp
    go_at_call 68
    refine (Whole_any p0 (by omega) _).mono ?_
    rintro e z1 hq
    obtain ⟨va, rfl, hnew, hb⟩ := hq.at
    clear hq
    have H1 : Hid ((Four bt ot bv ov i q0 q1 p0 p1 z1 ∧ z1.heap[A]? = some (.cells #[.bool false, .slice fa fk fc, .slice ga gk gc] 113 (0, 0))) ∧ (Below w.heap.size w z1) ∧ (QAt z1 (.agg #[.bool false, .slice fa fk fc, .slice ga gk gc]) false n1 d1) ∧ (QAt z1 va false p0 1)) := ⟨⟨HC.out _ ((H0.out.2.1).trans (hb.mono (H0.out.2.1).size)), (hb.block A (ltF (H0.out.1).2)).trans (H0.out.1).2⟩, H0.out.2.1.trans (hb.mono H0.out.2.1.size), (H0.out.2.2).below hb (Nat.le_refl _), hnew⟩
    refine hK.out _ _ (fun _ => H1.out.1) ?_
    clear hK K' hnew hb  H0
    try simp only [Act.put, List.setIfInBounds_toArray, List.set_cons_zero, List.set_cons_succ]
    refine wpAnyT_two (i := 12) (j := 15) (by kernel_rfl) rfl rfl rfl rfl (fun K' hK => ?_) (fun K' hK => ?_)
    · go_simp
      rw [HDX.out]
      go_at_call 68
      refine (Whole_any (y - q0) (by omega) _).mono ?_
      rintro e z2 hq
      obtain ⟨vb, rfl, hnew, hb⟩ := hq.at
      clear hq
      have H2 : Hid ((Four bt ot bv ov i q0 q1 p0 p1 z2 ∧ z2.heap[A]? = some (.cells #[.bool false, .slice fa fk fc, .slice ga gk gc] 113 (0, 0))) ∧ (Below w.heap.size w z2) ∧ (QAt z2 (.agg #[.bool false, .slice fa fk fc, .slice ga gk gc]) false n1 d1) ∧ (QAt z2 va false p0 1) ∧ (QAt z2 vb false (y - q0) 1)) := ⟨⟨HC.out _ ((H1.out.2.1).trans (hb.mono (H1.out.2.1).size)), (hb.block A (ltF (H1.out.1).2)).trans (H1.out.1).2⟩, H1.out.2.1.trans (hb.mono H1.out.2.1.size), (H1.out.2.2.1).below hb (Nat.le_refl _), (H1.out.2.2.2).below hb (Nat.le_refl _), hnew⟩
      refine hK.out _ _ (fun _ => H2.out.1) ?_
      clear hK K' hnew hb  H1
      try simp only [Act.put, List.setIfInBounds_toArray, List.set_cons_zero, List.set_cons_succ]
      refine wpAnyT_two (i := 13) (j := 15) (by kernel_rfl) rfl rfl rfl rfl (fun K' hK => ?_) (fun K' hK => ?_)
      · go_simp
        go_at_call 70
        refine (HQM.out _ _ _ H2.out.2.2.1 H2.out.2.2.2.2).mono ?_
        rintro e z3 hq
        obtain ⟨vc, rfl, hnew, hb⟩ := hq.at
        clear hq
        have H3 : Hid ((Four bt ot bv ov i q0 q1 p0 p1 z3 ∧ z3.heap[A]? = some (.cells #[.bool false, .slice fa fk fc, .slice ga gk gc] 113 (0, 0))) ∧ (Below w.heap.size w z3) ∧ (QAt z3 (.agg #[.bool false, .slice fa fk fc, .slice ga gk gc]) false n1 d1) ∧ (QAt z3 va false p0 1) ∧ (QAt z3 vb false (y - q0) 1) ∧ (QAt z3 vc false n2 d2)) := ⟨⟨HC.out _ ((H2.out.2.1).trans (hb.mono (H2.out.2.1).size)), (hb.block A (ltF (H2.out.1).2)).trans (H2.out.1).2⟩, H2.out.2.1.trans (hb.mono H2.out.2.1.size), (H2.out.2.2.1).below hb (Nat.le_refl _), (H2.out.2.2.2.1).below hb (Nat.le_refl _), (H2.out.2.2.2.2).below hb (Nat.le_refl _), hnew⟩
        refine hK.out _ _ (fun _ => H3.out.1) ?_
        clear hK K' hnew hb  H2
        try simp only [Act.put, List.setIfInBounds_toArray, List.set_cons_zero, List.set_cons_succ]
        refine wpAnyT_two (i := 14) (j := 15) (by kernel_rfl) rfl rfl rfl rfl (fun K' hK => ?_) (fun K' hK => ?_)
        · go_simp
          go_at_call 69
          refine (HQA.out _ _ _ H3.out.2.2.2.1 H3.out.2.2.2.2.2).mono ?_
          rintro e z4 hq
          obtain ⟨vd, rfl, ⟨ha, hk, hc, ja, jk, jc, rfl, hf1, hf2⟩, hb⟩ := hq.at
          have hnew := QAt.of (b := false) hf1 hf2
          clear hq
          have H4 : Hid ((Four bt ot bv ov i q0 q1 p0 p1 z4 ∧ z4.heap[A]? = some (.cells #[.bool false, .slice fa fk fc, .slice ga gk gc] 113 (0, 0))) ∧ (Below w.heap.size w z4) ∧ (QAt z4 (.agg #[.bool false, .slice fa fk fc, .slice ga gk gc]) false n1 d1) ∧ (QAt z4 va false p0 1) ∧ (QAt z4 vb false (y - q0) 1) ∧ (QAt z4 vc false n2 d2) ∧ (QAt z4 (.agg #[.bool false, .slice ha hk hc, .slice ja jk jc]) false n3 d3)) := ⟨⟨HC.out _ ((H3.out.2.1).trans (hb.mono (H3.out.2.1).size)), (hb.block A (ltF (H3.out.1).2)).trans (H3.out.1).2⟩, H3.out.2.1.trans (hb.mono H3.out.2.1.size), (H3.out.2.2.1).below hb (Nat.le_refl _), (H3.out.2.2.2.1).below hb (Nat.le_refl _), (H3.out.2.2.2.2.1).below hb (Nat.le_refl _), (H3.out.2.2.2.2.2).below hb (Nat.le_refl _), hnew⟩
          refine hK.out _ _ (fun _ => H4.out.1) ?_
          clear hK K' hnew hb hf1 hf2 H3
          try simp only [Act.put, List.setIfInBounds_toArray, List.set_cons_zero, List.set_cons_succ]
          refine wpAnyT_one (i := 15) (by kernel_rfl) rfl rfl (fun K' hK => ?_)
          go_simp
          obtain ⟨E, hAA⟩ : ∃ x, x = z4.heap.size := ⟨_, rfl⟩
          have hb := below_al z4 (.cells #[.bool false, .slice none 0 0, .slice none 0 0] 113)
          have hnw := alloc_new z4 (.cells #[.bool false, .slice none 0 0, .slice none 0 0] 113)
          rw [← hAA] at hnw
          obtain ⟨z5, hz2⟩ : ∃ x, x = z4.alloc (.cells #[.bool false, .slice none 0 0, .slice none 0 0] 113) := ⟨_, rfl⟩
          rw [← hz2] at hnw hb ⊢
          have H5 : Hid ((Four bt ot bv ov i q0 q1 p0 p1 z5 ∧ z5.heap[A]? = some (.cells #[.bool false, .slice fa fk fc, .slice ga gk gc] 113 (0, 0))) ∧ (Below w.heap.size w z5) ∧ (QAt z5 (.agg #[.bool false, .slice fa fk fc, .slice ga gk gc]) false n1 d1) ∧ (QAt z5 va false p0 1) ∧ (QAt z5 vb false (y - q0) 1) ∧ (QAt z5 vc false n2 d2) ∧ (QAt z5 (.agg #[.bool false, .slice ha hk hc, .slice ja jk jc]) false n3 d3) ∧ (z5.heap[E]? = some (.cells #[.bool false, .slice none 0 0, .slice none 0 0] 113 (0, 0)) ∧ w.heap.size ≤ E)) := ⟨⟨HC.out _ ((H4.out.2.1).trans (hb.mono (H4.out.2.1).size)), (hb.block A (ltF (H4.out.1).2)).trans (H4.out.1).2⟩, H4.out.2.1.trans (hb.mono H4.out.2.1.size), (H4.out.2.2.1).below hb (Nat.le_refl _), (H4.out.2.2.2.1).below hb (Nat.le_refl _), (H4.out.2.2.2.2.1).below hb (Nat.le_refl _), (H4.out.2.2.2.2.2.1).below hb (Nat.le_refl _), (H4.out.2.2.2.2.2.2).below hb (Nat.le_refl _), ⟨hnw, by rw [hAA]; exact H4.out.2.1.size⟩⟩
          rw [← hAA]
          refine hK.out _ _ (fun _ => H5.out.1) ?_
          clear hK K' hnw hb hz2 hAA H4
          try simp only [Act.put, List.setIfInBounds_toArray, List.set_cons_zero, List.set_cons_succ]
          have HNE := hide' H5.out.2.2.2.2.2.2.2.2
          have HNU := hide' (H5.out.2.2.2.2.2.2.1).nums
          have HEz := hide' (H5.out.2.2.2.2.2.2.2.1)
          have b0 : z5.cell? ⟨E, 0, none⟩ = some (.bool false) := (cells_at HEz.out 0).trans rfl
          have b1 : z5.cell? ⟨E, 1, none⟩ = some (.slice none 0 0) := (cells_at HEz.out 1).trans rfl
          have b2 : z5.cell? ⟨E, 2, none⟩ = some (.slice none 0 0) := (cells_at HEz.out 2).trans rfl
          have e0 : z5.frozen? ⟨E, 0, none⟩ = false := frozen_no HEz.out _
          have e1 : z5.frozen? ⟨E, 1, none⟩ = false := frozen_no HEz.out _
          have e2 : z5.frozen? ⟨E, 2, none⟩ = false := frozen_no HEz.out _
          have HP := hide' (put3 HEz.out (.bool false) (.slice ha hk hc) (.slice ja jk jc))
          have HFN : Hid (Num (((z5.setCell ⟨E, 0, none⟩ (.bool false)).setCell ⟨E, 1, none⟩ (.slice ha hk hc)).setCell ⟨E, 2, none⟩ (.slice ja jk jc)) (.slice ha hk hc) n3 ∧ Num (((z5.setCell ⟨E, 0, none⟩ (.bool false)).setCell ⟨E, 1, none⟩ (.slice ha hk hc)).setCell ⟨E, 2, none⟩ (.slice ja jk jc)) (.slice ja jk jc) d3 ∧ Below w.heap.size w (((z5.setCell ⟨E, 0, none⟩ (.bool false)).setCell ⟨E, 1, none⟩ (.slice ha hk hc)).setCell ⟨E, 2, none⟩ (.slice ja jk jc))) := ⟨(HNU.out.1).but (noint HEz.out) HP.out.2, (HNU.out.2).but (noint HEz.out) HP.out.2, ((H5.out.2.1.setCell (p := ⟨E, 0, none⟩) HNE.out _).setCell (p := ⟨E, 1, none⟩) HNE.out _).setCell (p := ⟨E, 2, none⟩) HNE.out _⟩
          refine wpAnyT_one (i := 16) (by kernel_rfl) rfl rfl (fun K' hK => ?_)
          go_simp
          refine hK.out _ _ (fun h => absurd rfl h) ?_
          clear hK K'
          try simp only [Act.put, List.setIfInBounds_toArray, List.set_cons_zero, List.set_cons_succ]
          refine wpAnyT_done (by kernel_rfl) ?_ _
          exact ⟨rfl, E, _, _, _, _, _, _, ⟨_, _, _, _, _, _, _, _, _, _, _, _, _, _, _, rfl⟩, rfl, HP.out.1, QAt.of HFN.out.1 HFN.out.2.1, HFN.out.2.2, HNE.out⟩
        · go_simp
          obtain ⟨E, hAA⟩ : ∃ x, x = z3.heap.size := ⟨_, rfl⟩
          have hb := below_al z3 (.cells #[.bool false, .slice none 0 0, .slice none 0 0] 113)
          have hnw := alloc_new z3 (.cells #[.bool false, .slice none 0 0, .slice none 0 0] 113)
          rw [← hAA] at hnw
          obtain ⟨z6, hz2⟩ : ∃ x, x = z3.alloc (.cells #[.bool false, .slice none 0 0, .slice none 0 0] 113) := ⟨_, rfl⟩
          rw [← hz2] at hnw hb ⊢
          have H6 : Hid ((Four bt ot bv ov i q0 q1 p0 p1 z6 ∧ z6.heap[A]? = some (.cells #[.bool false, .slice fa fk fc, .slice ga gk gc] 113 (0, 0))) ∧ (Below w.heap.size w z6) ∧ (QAt z6 (.agg #[.bool false, .slice fa fk fc, .slice ga gk gc]) false n1 d1) ∧ (QAt z6 va false p0 1) ∧ (QAt z6 vb false (y - q0) 1) ∧ (QAt z6 vc false n2 d2) ∧ (z6.heap[E]? = some (.cells #[.bool false, .slice none 0 0, .slice none 0 0] 113 (0, 0)) ∧ w.heap.size ≤ E)) := ⟨⟨HC.out _ ((H3.out.2.1).trans (hb.mono (H3.out.2.1).size)), (hb.block A (ltF (H3.out.1).2)).trans (H3.out.1).2⟩, H3.out.2.1.trans (hb.mono H3.out.2.1.size), (H3.out.2.2.1).below hb (Nat.le_refl _), (H3.out.2.2.2.1).below hb (Nat.le_refl _), (H3.out.2.2.2.2.1).below hb (Nat.le_refl _), (H3.out.2.2.2.2.2).below hb (Nat.le_refl _), ⟨hnw, by rw [hAA]; exact H3.out.2.1.size⟩⟩
          rw [← hAA]
          refine hK.out _ _ (fun _ => H6.out.1) ?_
          clear hK K' hnw hb hz2 hAA H3
          try simp only [Act.put, List.setIfInBounds_toArray, List.set_cons_zero, List.set_cons_succ]
          refine wpAnyT_one (i := 14) (by kernel_rfl) rfl rfl (fun K' hK => ?_)
          go_simp
          go_at_call 69
          refine (HQA.out _ _ _ H6.out.2.2.2.1 H6.out.2.2.2.2.2.1).mono ?_
          rintro e z7 hq
          obtain ⟨vd, rfl, ⟨ha, hk, hc, ja, jk, jc, rfl, hf1, hf2⟩, hb⟩ := hq.at
          have hnew := QAt.of (b := false) hf1 hf2
          clear hq
          have H7 : Hid ((Four bt ot bv ov i q0 q1 p0 p1 z7 ∧ z7.heap[A]? = some (.cells #[.bool false, .slice fa fk fc, .slice ga gk gc] 113 (0, 0))) ∧ (Below w.heap.size w z7) ∧ (QAt z7 (.agg #[.bool false, .slice fa fk fc, .slice ga gk gc]) false n1 d1) ∧ (QAt z7 va false p0 1) ∧ (QAt z7 vb false (y - q0) 1) ∧ (QAt z7 vc false n2 d2) ∧ (QAt z7 (.agg #[.bool false, .slice ha hk hc, .slice ja jk jc]) false n3 d3) ∧ (z7.heap[E]? = some (.cells #[.bool false, .slice none 0 0, .slice none 0 0] 113 (0, 0)) ∧ w.heap.size ≤ E)) := ⟨⟨HC.out _ ((H6.out.2.1).trans (hb.mono (H6.out.2.1).size)), (hb.block A (ltF (H6.out.1).2)).trans (H6.out.1).2⟩, H6.out.2.1.trans (hb.mono H6.out.2.1.size), (H6.out.2.2.1).below hb (Nat.le_refl _), (H6.out.2.2.2.1).below hb (Nat.le_refl _), (H6.out.2.2.2.2.1).below hb (Nat.le_refl _), (H6.out.2.2.2.2.2.1).below hb (Nat.le_refl _), hnew, ⟨(hb.block E (ltF H6.out.2.2.2.2.2.2.1)).trans H6.out.2.2.2.2.2.2.1, H6.out.2.2.2.2.2.2.2⟩⟩
          refine hK.out _ _ (fun _ => H7.out.1) ?_
          clear hK K' hnew hb hf1 hf2 H6
          try simp only [Act.put, List.setIfInBounds_toArray, List.set_cons_zero, List.set_cons_succ]
          have HNE := hide' H7.out.2.2.2.2.2.2.2.2
          have HNU := hide' (H7.out.2.2.2.2.2.2.1).nums
          have HEz := hide' (H7.out.2.2.2.2.2.2.2.1)
          have b0 : z7.cell? ⟨E, 0, none⟩ = some (.bool false) := (cells_at HEz.out 0).trans rfl
          have b1 : z7.cell? ⟨E, 1, none⟩ = some (.slice none 0 0) := (cells_at HEz.out 1).trans rfl
          have b2 : z7.cell? ⟨E, 2, none⟩ = some (.slice none 0 0) := (cells_at HEz.out 2).trans rfl
          have e0 : z7.frozen? ⟨E, 0, none⟩ = false := frozen_no HEz.out _
          have e1 : z7.frozen? ⟨E, 1, none⟩ = false := frozen_no HEz.out _
          have e2 : z7.frozen? ⟨E, 2, none⟩ = false := frozen_no HEz.out _
          have HP := hide' (put3 HEz.out (.bool false) (.slice ha hk hc) (.slice ja jk jc))
          have HFN : Hid (Num (((z7.setCell ⟨E, 0, none⟩ (.bool false)).setCell ⟨E, 1, none⟩ (.slice ha hk hc)).setCell ⟨E, 2, none⟩ (.slice ja jk jc)) (.slice ha hk hc) n3 ∧ Num (((z7.setCell ⟨E, 0, none⟩ (.bool false)).setCell ⟨E, 1, none⟩ (.slice ha hk hc)).setCell ⟨E, 2, none⟩ (.slice ja jk jc)) (.slice ja jk jc) d3 ∧ Below w.heap.size w (((z7.setCell ⟨E, 0, none⟩ (.bool false)).setCell ⟨E, 1, none⟩ (.slice ha hk hc)).setCell ⟨E, 2, none⟩ (.slice ja jk jc))) := ⟨(HNU.out.1).but (noint HEz.out) HP.out.2, (HNU.out.2).but (noint HEz.out) HP.out.2, ((H7.out.2.1.setCell (p := ⟨E, 0, none⟩) HNE.out _).setCell (p := ⟨E, 1, none⟩) HNE.out _).setCell (p := ⟨E, 2, none⟩) HNE.out _⟩
          refine wpAnyT_one (i := 16) (by kernel_rfl) rfl rfl (fun K' hK => ?_)
          go_simp
          refine hK.out _ _ (fun h => absurd rfl h) ?_
          clear hK K'
          try simp only [Act.put, List.setIfInBounds_toArray, List.set_cons_zero, List.set_cons_succ]
          refine wpAnyT_done (by kernel_rfl) ?_ _
          exact ⟨rfl, E, _, _, _, _, _, _, ⟨_, _, _, _, _, _, _, _, _, _, _, _, _, _, _, rfl⟩, rfl, HP.out.1, QAt.of HFN.out.1 HFN.out.2.1, HFN.out.2.2, HNE.out⟩
      · go_simp
        obtain ⟨E, hAA⟩ : ∃ x, x = z2.heap.size := ⟨_, rfl⟩
        have hb := below_al z2 (.cells #[.bool false, .slice none 0 0, .slice none 0 0] 113)
        have hnw := alloc_new z2 (.cells #[.bool false, .slice none 0 0, .slice none 0 0] 113)
        rw [← hAA] at hnw
        obtain ⟨z8, hz2⟩ : ∃ x, x = z2.alloc (.cells #[.bool false, .slice none 0 0, .slice none 0 0] 113) := ⟨_, rfl⟩
        rw [← hz2] at hnw hb ⊢
        have H8 : Hid ((Four bt ot bv ov i q0 q1 p0 p1 z8 ∧ z8.heap[A]? = some (.cells #[.bool false, .slice fa fk fc, .slice ga gk gc] 113 (0, 0))) ∧ (Below w.heap.size w z8) ∧ (QAt z8 (.agg #[.bool false, .slice fa fk fc, .slice ga gk gc]) false n1 d1) ∧ (QAt z8 va false p0 1) ∧ (QAt z8 vb false (y - q0) 1) ∧ (z8.heap[E]? = some (.cells #[.bool false, .slice none 0 0, .slice none 0 0] 113 (0, 0)) ∧ w.heap.size ≤ E)) := ⟨⟨HC.out _ ((H2.out.2.1).trans (hb.mono (H2.out.2.1).size)), (hb.block A (ltF (H2.out.1).2)).trans (H2.out.1).2⟩, H2.out.2.1.trans (hb.mono H2.out.2.1.size), (H2.out.2.2.1).below hb (Nat.le_refl _), (H2.out.2.2.2.1).below hb (Nat.le_refl _), (H2.out.2.2.2.2).below hb (Nat.le_refl _), ⟨hnw, by rw [hAA]; exact H2.out.2.1.size⟩⟩
        rw [← hAA]
        refine hK.out _ _ (fun _ => H8.out.1) ?_
        clear hK K' hnw hb hz2 hAA H2
        try simp only [Act.put, List.setIfInBounds_toArray, List.set_cons_zero, List.set_cons_succ]
        refine wpAnyT_one (i := 13) (by kernel_rfl) rfl rfl (fun K' hK => ?_)
        go_simp
        go_at_call 70
        refine (HQM.out _ _ _ H8.out.2.2.1 H8.out.2.2.2.2.1).mono ?_
        rintro e z9 hq
        obtain ⟨vc, rfl, hnew, hb⟩ := hq.at
        clear hq
        have H9 : Hid ((Four bt ot bv ov i q0 q1 p0 p1 z9 ∧ z9.heap[A]? = some (.cells #[.bool false, .slice fa fk fc, .slice ga gk gc] 113 (0, 0))) ∧ (Below w.heap.size w z9) ∧ (QAt z9 (.agg #[.bool false, .slice fa fk fc, .slice ga gk gc]) false n1 d1) ∧ (QAt z9 va false p0 1) ∧ (QAt z9 vb false (y - q0) 1) ∧ (QAt z9 vc false n2 d2) ∧ (z9.heap[E]? = some (.cells #[.bool false, .slice none 0 0, .slice none 0 0] 113 (0, 0)) ∧ w.heap.size ≤ E)) := ⟨⟨HC.out _ ((H8.out.2.1).trans (hb.mono (H8.out.2.1).size)), (hb.block A (ltF (H8.out.1).2)).trans (H8.out.1).2⟩, H8.out.2.1.trans (hb.mono H8.out.2.1.size), (H8.out.2.2.1).below hb (Nat.le_refl _), (H8.out.2.2.2.1).below hb (Nat.le_refl _), (H8.out.2.2.2.2.1).below hb (Nat.le_refl _), hnew, ⟨(hb.block E (ltF H8.out.2.2.2.2.2.1)).trans H8.out.2.2.2.2.2.1, H8.out.2.2.2.2.2.2⟩⟩
        refine hK.out _ _ (fun _ => H9.out.1) ?_
        clear hK K' hnew hb  H8
        try simp only [Act.put, List.setIfInBounds_toArray, List.set_cons_zero, List.set_cons_succ]
        refine wpAnyT_one (i := 14) (by kernel_rfl) rfl rfl (fun K' hK => ?_)
        go_simp
        go_at_call 69
        refine (HQA.out _ _ _ H9.out.2.2.2.1 H9.out.2.2.2.2.2.1).mono ?_
        rintro e z10 hq
        obtain ⟨vd, rfl, ⟨ha, hk, hc, ja, jk, jc, rfl, hf1, hf2⟩, hb⟩ := hq.at
        have hnew := QAt.of (b := false) hf1 hf2
        clear hq
        have H10 : Hid ((Four bt ot bv ov i q0 q1 p0 p1 z10 ∧ z10.heap[A]? = some (.cells #[.bool false, .slice fa fk fc, .slice ga gk gc] 113 (0, 0))) ∧ (Below w.heap.size w z10) ∧ (QAt z10 (.agg #[.bool false, .slice fa fk fc, .slice ga gk gc]) false n1 d1) ∧ (QAt z10 va false p0 1) ∧ (QAt z10 vb false (y - q0) 1) ∧ (QAt z10 vc false n2 d2) ∧ (QAt z10 (.agg #[.bool false, .slice ha hk hc, .slice ja jk jc]) false n3 d3) ∧ (z10.heap[E]? = some (.cells #[.bool false, .slice none 0 0, .slice none 0 0] 113 (0, 0)) ∧ w.heap.size ≤ E)) := ⟨⟨HC.out _ ((H9.out.2.1).trans (hb.mono (H9.out.2.1).size)), (hb.block A (ltF (H9.out.1).2)).trans (H9.out.1).2⟩, H9.out.2.1.trans (hb.mono H9.out.2.1.size), (H9.out.2.2.1).below hb (Nat.le_refl _), (H9.out.2.2.2.1).below hb (Nat.le_refl _), (H9.out.2.2.2.2.1).below hb (Nat.le_refl _), (H9.out.2.2.2.2.2.1).below hb (Nat.le_refl _), hnew, ⟨(hb.block E (ltF H9.out.2.2.2.2.2.2.1)).trans H9.out.2.2.2.2.2.2.1, H9.out.2.2.2.2.2.2.2⟩⟩
        refine hK.out _ _ (fun _ => H10.out.1) ?_
        clear hK K' hnew hb hf1 hf2 H9
        try simp only [Act.put, List.setIfInBounds_toArray, List.set_cons_zero, List.set_cons_succ]
        have HNE := hide' H10.out.2.2.2.2.2.2.2.2
        have HNU := hide' (H10.out.2.2.2.2.2.2.1).nums
        have HEz := hide' (H10.out.2.2.2.2.2.2.2.1)
        have b0 : z10.cell? ⟨E, 0, none⟩ = some (.bool false) := (cells_at HEz.out 0).trans rfl
        have b1 : z10.cell? ⟨E, 1, none⟩ = some (.slice none 0 0) := (cells_at HEz.out 1).trans rfl
        have b2 : z10.cell? ⟨E, 2, none⟩ = some (.slice none 0 0) := (cells_at HEz.out 2).trans rfl
        have e0 : z10.frozen? ⟨E, 0, none⟩ = false := frozen_no HEz.out _
        have e1 : z10.frozen? ⟨E, 1, none⟩ = false := frozen_no HEz.out _
        have e2 : z10.frozen? ⟨E, 2, none⟩ = false := frozen_no HEz.out _
        have HP := hide' (put3 HEz.out (.bool false) (.slice ha hk hc) (.slice ja jk jc))
        have HFN : Hid (Num (((z10.setCell ⟨E, 0, none⟩ (.bool false)).setCell ⟨E, 1, none⟩ (.slice ha hk hc)).setCell ⟨E, 2, none⟩ (.slice ja jk jc)) (.slice ha hk hc) n3 ∧ Num (((z10.setCell ⟨E, 0, none⟩ (.bool false)).setCell ⟨E, 1, none⟩ (.slice ha hk hc)).setCell ⟨E, 2, none⟩ (.slice ja jk jc)) (.slice ja jk jc) d3 ∧ Below w.heap.size w (((z10.setCell ⟨E, 0, none⟩ (.bool false)).setCell ⟨E, 1, none⟩ (.slice ha hk hc)).setCell ⟨E, 2, none⟩ (.slice ja jk jc))) := ⟨(HNU.out.1).but (noint HEz.out) HP.out.2, (HNU.out.2).but (noint HEz.out) HP.out.2, ((H10.out.2.1.setCell (p := ⟨E, 0, none⟩) HNE.out _).setCell (p := ⟨E, 1, none⟩) HNE.out _).setCell (p := ⟨E, 2, none⟩) HNE.out _⟩
        refine wpAnyT_one (i := 16) (by kernel_rfl) rfl rfl (fun K' hK => ?_)
        go_simp
        refine hK.out _ _ (fun h => absurd rfl h) ?_
        clear hK K'
        try simp only [Act.put, List.setIfInBounds_toArray, List.set_cons_zero, List.set_cons_succ]
        refine wpAnyT_done (by kernel_rfl) ?_ _
        exact ⟨rfl, E, _, _, _, _, _, _, ⟨_, _, _, _, _, _, _, _, _, _, _, _, _, _, _, rfl⟩, rfl, HP.out.1, QAt.of HFN.out.1 HFN.out.2.1, HFN.out.2.2, HNE.out⟩
    · go_simp
      obtain ⟨E, hAA⟩ : ∃ x, x = z1.heap.size := ⟨_, rfl⟩
      have hb := below_al z1 (.cells #[.bool false, .slice none 0 0, .slice none 0 0] 113)
      have hnw := alloc_new z1 (.cells #[.bool false, .slice none 0 0, .slice none 0 0] 113)
      rw [← hAA] at hnw
      obtain ⟨z11, hz2⟩ : ∃ x, x = z1.alloc (.cells #[.bool false, .slice none 0 0, .slice none 0 0] 113) := ⟨_, rfl⟩
      rw [← hz2] at hnw hb ⊢
      have H11 : Hid ((Four bt ot bv ov i q0 q1 p0 p1 z11 ∧ z11.heap[A]? = some (.cells #[.bool false, .slice fa fk fc, .slice ga gk gc] 113 (0, 0))) ∧ (Below w.heap.size w z11) ∧ (QAt z11 (.agg #[.bool false, .slice fa fk fc, .slice ga gk gc]) false n1 d1) ∧ (QAt z11 va false p0 1) ∧ (z11.heap[E]? = some (.cells #[.bool false, .slice none 0 0, .slice none 0 0] 113 (0, 0)) ∧ w.heap.size ≤ E)) := ⟨⟨HC.out _ ((H1.out.2.1).trans (hb.mono (H1.out.2.1).size)), (hb.block A (ltF (H1.out.1).2)).trans (H1.out.1).2⟩, H1.out.2.1.trans (hb.mono H1.out.2.1.size), (H1.out.2.2.1).below hb (Nat.le_refl _), (H1.out.2.2.2).below hb (Nat.le_refl _), ⟨hnw, by rw [hAA]; exact H1.out.2.1.size⟩⟩
      rw [← hAA]
      refine hK.out _ _ (fun _ => H11.out.1) ?_
      clear hK K' hnw hb hz2 hAA H1
      try simp only [Act.put, List.setIfInBounds_toArray, List.set_cons_zero, List.set_cons_succ]
      refine wpAnyT_one (i := 12) (by kernel_rfl) rfl rfl (fun K' hK => ?_)
      go_simp
      rw [HDX.out]
      go_at_call 68
      refine (Whole_any (y - q0) (by omega) _).mono ?_
      rintro e z12 hq
      obtain ⟨vb, rfl, hnew, hb⟩ := hq.at
      clear hq
      have H12 : Hid ((Four bt ot bv ov i q0 q1 p0 p1 z12 ∧ z12.heap[A]? = some (.cells #[.bool false, .slice fa fk fc, .slice ga gk gc] 113 (0, 0))) ∧ (Below w.heap.size w z12) ∧ (QAt z12 (.agg #[.bool false, .slice fa fk fc, .slice ga gk gc]) false n1 d1) ∧ (QAt z12 va false p0 1) ∧ (QAt z12 vb false (y - q0) 1) ∧ (z12.heap[E]? = some (.cells #[.bool false, .slice none 0 0, .slice none 0 0] 113 (0, 0)) ∧ w.heap.size ≤ E)) := ⟨⟨HC.out _ ((H11.out.2.1).trans (hb.mono (H11.out.2.1).size)), (hb.block A (ltF (H11.out.1).2)).trans (H11.out.1).2⟩, H11.out.2.1.trans (hb.mono H11.out.2.1.size), (H11.out.2.2.1).below hb (Nat.le_refl _), (H11.out.2.2.2.1).below hb (Nat.le_refl _), hnew, ⟨(hb.block E (ltF H11.out.2.2.2.2.1)).trans H11.out.2.2.2.2.1, H11.out.2.2.2.2.2⟩⟩
      refine hK.out _ _ (fun _ => H12.out.1) ?_
      clear hK K' hnew hb  H11
      try simp only [Act.put, List.setIfInBounds_toArray, List.set_cons_zero, List.set_cons_succ]
      refine wpAnyT_one (i := 13) (by kernel_rfl) rfl rfl (fun K' hK => ?_)
      go_simp
      go_at_call 70
      refine (HQM.out _ _ _ H12.out.2.2.1 H12.out.2.2.2.2.1).mono ?_
      rintro e z13 hq
      obtain ⟨vc, rfl, hnew, hb⟩ := hq.at
      clear hq
      have H13 : Hid ((Four bt ot bv ov i q0 q1 p0 p1 z13 ∧ z13.heap[A]? = some (.cells #[.bool false, .slice fa fk fc, .slice ga gk gc] 113 (0, 0))) ∧ (Below w.heap.size w z13) ∧ (QAt z13 (.agg #[.bool false, .slice fa fk fc, .slice ga gk gc]) false n1 d1) ∧ (QAt z13 va false p0 1) ∧ (QAt z13 vb false (y - q0) 1) ∧ (QAt z13 vc false n2 d2) ∧ (z13.heap[E]? = some (.cells #[.bool false, .slice none 0 0, .slice none 0 0] 113 (0, 0)) ∧ w.heap.size ≤ E)) := ⟨⟨HC.out _ ((H12.out.2.1).trans (hb.mono (H12.out.2.1).size)), (hb.block A (ltF (H12.out.1).2)).trans (H12.out.1).2⟩, H12.out.2.1.trans (hb.mono H12.out.2.1.size), (H12.out.2.2.1).below hb (Nat.le_refl _), (H12.out.2.2.2.1).below hb (Nat.le_refl _), (H12.out.2.2.2.2.1).below hb (Nat.le_refl _), hnew, ⟨(hb.block E (ltF H12.out.2.2.2.2.2.1)).trans H12.out.2.2.2.2.2.1, H12.out.2.2.2.2.2.2⟩⟩
      refine hK.out _ _ (fun _ => H13.out.1) ?_
      clear hK K' hnew hb  H12
      try simp only [Act.put, List.setIfInBounds_toArray, List.set_cons_zero, List.set_cons_succ]
      refine wpAnyT_one (i := 14) (by kernel_rfl) rfl rfl (fun K' hK => ?_)
      go_simp
      go_at_call 69
      refine (HQA.out _ _ _ H13.out.2.2.2.1 H13.out.2.2.2.2.2.1).mono ?_
      rintro e z14 hq
      obtain ⟨vd, rfl, ⟨ha, hk, hc, ja, jk, jc, rfl, hf1, hf2⟩, hb⟩ := hq.at
      have hnew := QAt.of (b := false) hf1 hf2
      clear hq
      have H14 : Hid ((Four bt ot bv ov i q0 q1 p0 p1 z14 ∧ z14.heap[A]? = some (.cells #[.bool false, .slice fa fk fc, .slice ga gk gc] 113 (0, 0))) ∧ (Below w.heap.size w z14) ∧ (QAt z14 (.agg #[.bool false, .slice fa fk fc, .slice ga gk gc]) false n1 d1) ∧ (QAt z14 va false p0 1) ∧ (QAt z14 vb false (y - q0) 1) ∧ (QAt z14 vc false n2 d2) ∧ (QAt z14 (.agg #[.bool false, .slice ha hk hc, .slice ja jk jc]) false n3 d3) ∧ (z14.heap[E]? = some (.cells #[.bool false, .slice none 0 0, .slice none 0 0] 113 (0, 0)) ∧ w.heap.size ≤ E)) := ⟨⟨HC.out _ ((H13.out.2.1).trans (hb.mono (H13.out.2.1).size)), (hb.block A (ltF (H13.out.1).2)).trans (H13.out.1).2⟩, H13.out.2.1.trans (hb.mono H13.out.2.1.size), (H13.out.2.2.1).below hb (Nat.le_refl _), (H13.out.2.2.2.1).below hb (Nat.le_refl _), (H13.out.2.2.2.2.1).below hb (Nat.le_refl _), (H13.out.2.2.2.2.2.1).below hb (Nat.le_refl _), hnew, ⟨(hb.block E (ltF H13.out.2.2.2.2.2.2.1)).trans H13.out.2.2.2.2.2.2.1, H13.out.2.2.2.2.2.2.2⟩⟩
      refine hK.out _ _ (fun _ => H14.out.1) ?_
      clear hK K' hnew hb hf1 hf2 H13
      try simp only [Act.put, List.setIfInBounds_toArray, List.set_cons_zero, List.set_cons_succ]
      have HNE := hide' H14.out.2.2.2.2.2.2.2.2
      have HNU := hide' (H14.out.2.2.2.2.2.2.1).nums
      have HEz := hide' (H14.out.2.2.2.2.2.2.2.1)
      have b0 : z14.cell? ⟨E, 0, none⟩ = some (.bool false) := (cells_at HEz.out 0).trans rfl
      have b1 : z14.cell? ⟨E, 1, none⟩ = some (.slice none 0 0) := (cells_at HEz.out 1).trans rfl
      have b2 : z14.cell? ⟨E, 2, none⟩ = some (.slice none 0 0) := (cells_at HEz.out 2).trans rfl
      have e0 : z14.frozen? ⟨E, 0, none⟩ = false := frozen_no HEz.out _
      have e1 : z14.frozen? ⟨E, 1, none⟩ = false := frozen_no HEz.out _
      have e2 : z14.frozen? ⟨E, 2, none⟩ = false := frozen_no HEz.out _
      have HP := hide' (put3 HEz.out (.bool false) (.slice ha hk hc) (.slice ja jk jc))
      have HFN : Hid (Num (((z14.setCell ⟨E, 0, none⟩ (.bool false)).setCell ⟨E, 1, none⟩ (.slice ha hk hc)).setCell ⟨E, 2, none⟩ (.slice ja jk jc)) (.slice ha hk hc) n3 ∧ Num (((z14.setCell ⟨E, 0, none⟩ (.bool false)).setCell ⟨E, 1, none⟩ (.slice ha hk hc)).setCell ⟨E, 2, none⟩ (.slice ja jk jc)) (.slice ja jk jc) d3 ∧ Below w.heap.size w (((z14.setCell ⟨E, 0, none⟩ (.bool false)).setCell ⟨E, 1, none⟩ (.slice ha hk hc)).setCell ⟨E, 2, none⟩ (.slice ja jk jc))) := ⟨(HNU.out.1).but (noint HEz.out) HP.out.2, (HNU.out.2).but (noint HEz.out) HP.out.2, ((H14.out.2.1.setCell (p := ⟨E, 0, none⟩) HNE.out _).setCell (p := ⟨E, 1, none⟩) HNE.out _).setCell (p := ⟨E, 2, none⟩) HNE.out _⟩
      refine wpAnyT_one (i := 16) (by kernel_rfl) rfl rfl (fun K' hK => ?_)
      go_simp
      refine hK.out _ _ (fun h => absurd rfl h) ?_
      clear hK K'
      try simp only [Act.put, List.setIfInBounds_toArray, List.set_cons_zero, List.set_cons_succ]
      refine wpAnyT_done (by kernel_rfl) ?_ _
      exact ⟨rfl, E, _, _, _, _, _, _, ⟨_, _, _, _, _, _, _, _, _, _, _, _, _, _, _, rfl⟩, rfl, HP.out.1, QAt.of HFN.out.1 HFN.out.2.1, HFN.out.2.2, HNE.out⟩
  · go_simp
    obtain ⟨E, hAA⟩ : ∃ x, x = z.heap.size := ⟨_, rfl⟩
    have hb := below_al z (.cells #[.bool false, .slice none 0 0, .slice none 0 0] 113)
    have hnw := alloc_new z (.cells #[.bool false, .slice none 0 0, .slice none 0 0] 113)
    rw [← hAA] at hnw
    obtain ⟨z15, hz2⟩ : ∃ x, x = z.alloc (.cells #[.bool false, .slice none 0 0, .slice none 0 0] 113) := ⟨_, rfl⟩
    rw [← hz2] at hnw hb ⊢
    have H15 : Hid ((Four bt ot bv ov i q0 q1 p0 p1 z15 ∧ z15.heap[A]? = some (.cells #[.bool false, .slice fa fk fc, .slice ga gk gc] 113 (0, 0))) ∧ (Below w.heap.size w z15) ∧ (QAt z15 (.agg #[.bool false, .slice fa fk fc, .slice ga gk gc]) false n1 d1) ∧ (z15.heap[E]? = some (.cells #[.bool false, .slice none 0 0, .slice none 0 0] 113 (0, 0)) ∧ w.heap.size ≤ E)) := ⟨⟨HC.out _ ((H0.out.2.1).trans (hb.mono (H0.out.2.1).size)), (hb.block A (ltF (H0.out.1).2)).trans (H0.out.1).2⟩, H0.out.2.1.trans (hb.mono H0.out.2.1.size), (H0.out.2.2).below hb (Nat.le_refl _), ⟨hnw, by rw [hAA]; exact H0.out.2.1.size⟩⟩
    rw [← hAA]
    refine hK.out _ _ (fun _ => H15.out.1) ?_
    clear hK K' hnw hb hz2 hAA H0
    try simp only [Act.put, List.setIfInBounds_toArray, List.set_cons_zero, List.set_cons_succ]
    refine wpAnyT_one (i := 4) (by kernel_rfl) rfl rfl (fun K' hK => ?_)
    go_simp
    go_at_call 68
    refine (Whole_any p0 (by omega) _).mono ?_
    rintro e z16 hq
    obtain ⟨va, rfl, hnew, hb⟩ := hq.at
    clear hq
    have H16 : Hid ((Four bt ot bv ov i q0 q1 p0 p1 z16 ∧ z16.heap[A]? = some (.cells #[.bool false, .slice fa fk fc, .slice ga gk gc] 113 (0, 0))) ∧ (Below w.heap.size w z16) ∧ (QAt z16 (.agg #[.bool false, .slice fa fk fc, .slice ga gk gc]) false n1 d1) ∧ (QAt z16 va false p0 1) ∧ (z16.heap[E]? = some (.cells #[.bool false, .slice none 0 0, .slice none 0 0] 113 (0, 0)) ∧ w.heap.size ≤ E)) := ⟨⟨HC.out _ ((H15.out.2.1).trans (hb.mono (H15.out.2.1).size)), (hb.block A (ltF (H15.out.1).2)).trans (H15.out.1).2⟩, H15.out.2.1.trans (hb.mono H15.out.2.1.size), (H15.out.2.2.1).below hb (Nat.le_refl _), hnew, ⟨(hb.block E (ltF H15.out.2.2.2.1)).trans H15.out.2.2.2.1, H15.out.2.2.2.2⟩⟩
    refine hK.out _ _ (fun _ => H16.out.1) ?_
    clear hK K' hnew hb  H15
    try simp only [Act.put, List.setIfInBounds_toArray, List.set_cons_zero, List.set_cons_succ]
    refine wpAnyT_one (i := 12) (by kernel_rfl) rfl rfl (fun K' hK => ?_)
    go_simp
    rw [HDX.out]
    go_at_call 68
    refine (Whole_any (y - q0) (by omega) _).mono ?_
    rintro e z17 hq
    obtain ⟨vb, rfl, hnew, hb⟩ := hq.at
    clear hq
    have H17 : Hid ((Four bt ot bv ov i q0 q1 p0 p1 z17 ∧ z17.heap[A]? = some (.cells #[.bool false, .slice fa fk fc, .slice ga gk gc] 113 (0, 0))) ∧ (Below w.heap.size w z17) ∧ (QAt z17 (.agg #[.bool false, .slice fa fk fc, .slice ga gk gc]) false n1 d1) ∧ (QAt z17 va false p0 1) ∧ (QAt z17 vb false (y - q0) 1) ∧ (z17.heap[E]? = some (.cells #[.bool false, .slice none 0 0, .slice none 0 0] 113 (0, 0)) ∧ w.heap.size ≤ E)) := ⟨⟨HC.out _ ((H16.out.2.1).trans (hb.mono (H16.out.2.1).size)), (hb.block A (ltF (H16.out.1).2)).trans (H16.out.1).2⟩, H16.out.2.1.trans (hb.mono H16.out.2.1.size), (H16.out.2.2.1).below hb (Nat.le_refl _), (H16.out.2.2.2.1).below hb (Nat.le_refl _), hnew, ⟨(hb.block E (ltF H16.out.2.2.2.2.1)).trans H16.out.2.2.2.2.1, H16.out.2.2.2.2.2⟩⟩
    refine hK.out _ _ (fun _ => H17.out.1) ?_
    clear hK K' hnew hb  H16
    try simp only [Act.put, List.setIfInBounds_toArray, List.set_cons_zero, List.set_cons_succ]
    refine wpAnyT_one (i := 13) (by kernel_rfl) rfl rfl (fun K' hK => ?_)
    go_simp
    go_at_call 70
    refine (HQM.out _ _ _ H17.out.2.2.1 H17.out.2.2.2.2.1).mono ?_
    rintro e z18 hq
    obtain ⟨vc, rfl, hnew, hb⟩ := hq.at
    clear hq
    have H18 : Hid ((Four bt ot bv ov i q0 q1 p0 p1 z18 ∧ z18.heap[A]? = some (.cells #[.bool false, .slice fa fk fc, .slice ga gk gc] 113 (0, 0))) ∧ (Below w.heap.size w z18) ∧ (QAt z18 (.agg #[.bool false, .slice fa fk fc, .slice ga gk gc]) false n1 d1) ∧ (QAt z18 va false p0 1) ∧ (QAt z18 vb false (y - q0) 1) ∧ (QAt z18 vc false n2 d2) ∧ (z18.heap[E]? = some (.cells #[.bool false, .slice none 0 0, .slice none 0 0] 113 (0, 0)) ∧ w.heap.size ≤ E)) := ⟨⟨HC.out _ ((H17.out.2.1).trans (hb.mono (H17.out.2.1).size)), (hb.block A (ltF (H17.out.1).2)).trans (H17.out.1).2⟩, H17.out.2.1.trans (hb.mono H17.out.2.1.size), (H17.out.2.2.1).below hb (Nat.le_refl _), (H17.out.2.2.2.1).below hb (Nat.le_refl _), (H17.out.2.2.2.2.1).below hb (Nat.le_refl _), hnew, ⟨(hb.block E (ltF H17.out.2.2.2.2.2.1)).trans H17.out.2.2.2.2.2.1, H17.out.2.2.2.2.2.2⟩⟩
    refine hK.out _ _ (fun _ => H18.out.1) ?_
    clear hK K' hnew hb  H17
    try simp only [Act.put, List.setIfInBounds_toArray, List.set_cons_zero, List.set_cons_succ]
    refine wpAnyT_one (i := 14) (by kernel_rfl) rfl rfl (fun K' hK => ?_)
    go_simp
    go_at_call 69
    refine (HQA.out _ _ _ H18.out.2.2.2.1 H18.out.2.2.2.2.2.1).mono ?_
    rintro e z19 hq
    obtain ⟨vd, rfl, ⟨ha, hk, hc, ja, jk, jc, rfl, hf1, hf2⟩, hb⟩ := hq.at
    have hnew := QAt.of (b := false) hf1 hf2
    clear hq
    have H19 : Hid ((Four bt ot bv ov i q0 q1 p0 p1 z19 ∧ z19.heap[A]? = some (.cells #[.bool false, .slice fa fk fc, .slice ga gk gc] 113 (0, 0))) ∧ (Below w.heap.size w z19) ∧ (QAt z19 (.agg #[.bool false, .slice fa fk fc, .slice ga gk gc]) false n1 d1) ∧ (QAt z19 va false p0 1) ∧ (QAt z19 vb false (y - q0) 1) ∧ (QAt z19 vc false n2 d2) ∧ (QAt z19 (.agg #[.bool false, .slice ha hk hc, .slice ja jk jc]) false n3 d3) ∧ (z19.heap[E]? = some (.cells #[.bool false, .slice none 0 0, .slice none 0 0] 113 (0, 0)) ∧ w.heap.size ≤ E)) := ⟨⟨HC.out _ ((H18.out.2.1).trans (hb.mono (H18.out.2.1).size)), (hb.block A (ltF (H18.out.1).2)).trans (H18.out.1).2⟩, H18.out.2.1.trans (hb.mono H18.out.2.1.size), (H18.out.2.2.1).below hb (Nat.le_refl _), (H18.out.2.2.2.1).below hb (Nat.le_refl _), (H18.out.2.2.2.2.1).below hb (Nat.le_refl _), (H18.out.2.2.2.2.2.1).below hb (Nat.le_refl _), hnew, ⟨(hb.block E (ltF H18.out.2.2.2.2.2.2.1)).trans H18.out.2.2.2.2.2.2.1, H18.out.2.2.2.2.2.2.2⟩⟩
    refine hK.out _ _ (fun _ => H19.out.1) ?_
    clear hK K' hnew hb hf1 hf2 H18
    try simp only [Act.put, List.setIfInBounds_toArray, List.set_cons_zero, List.set_cons_succ]
    have HNE := hide' H19.out.2.2.2.2.2.2.2.2
    have HNU := hide' (H19.out.2.2.2.2.2.2.1).nums
    have HEz := hide' (H19.out.2.2.2.2.2.2.2.1)
    have b0 : z19.cell? ⟨E, 0, none⟩ = some (.bool false) := (cells_at HEz.out 0).trans rfl
    have b1 : z19.cell? ⟨E, 1, none⟩ = some (.slice none 0 0) := (cells_at HEz.out 1).trans rfl
    have b2 : z19.cell? ⟨E, 2, none⟩ = some (.slice none 0 0) := (cells_at HEz.out 2).trans rfl
    have e0 : z19.frozen? ⟨E, 0, none⟩ = false := frozen_no HEz.out _
    have e1 : z19.frozen? ⟨E, 1, none⟩ = false := frozen_no HEz.out _
    have e2 : z19.frozen? ⟨E, 2, none⟩ = false := frozen_no HEz.out _
    have HP := hide' (put3 HEz.out (.bool false) (.slice ha hk hc) (.slice ja jk jc))
    have HFN : Hid (Num (((z19.setCell ⟨E, 0, none⟩ (.bool false)).setCell ⟨E, 1, none⟩ (.slice ha hk hc)).setCell ⟨E, 2, none⟩ (.slice ja jk jc)) (.slice ha hk hc) n3 ∧ Num (((z19.setCell ⟨E, 0, none⟩ (.bool false)).setCell ⟨E, 1, none⟩ (.slice ha hk hc)).setCell ⟨E, 2, none⟩ (.slice ja jk jc)) (.slice ja jk jc) d3 ∧ Below w.heap.size w (((z19.setCell ⟨E, 0, none⟩ (.bool false)).setCell ⟨E, 1, none⟩ (.slice ha hk hc)).setCell ⟨E, 2, none⟩ (.slice ja jk jc))) := ⟨(HNU.out.1).but (noint HEz.out) HP.out.2, (HNU.out.2).but (noint HEz.out) HP.out.2, ((H19.out.2.1.setCell (p := ⟨E, 0, none⟩) HNE.out _).setCell (p := ⟨E, 1, none⟩) HNE.out _).setCell (p := ⟨E, 2, none⟩) HNE.out _⟩
    refine wpAnyT_one (i := 16) (by kernel_rfl) rfl rfl (fun K' hK => ?_)
    go_simp
    refine hK.out _ _ (fun h => absurd rfl h) ?_
    clear hK K'
    try simp only [Act.put, List.setIfInBounds_toArray, List.set_cons_zero, List.set_cons_succ]
    refine wpAnyT_done (by kernel_rfl) ?_ _
    exact ⟨rfl, E, _, _, _, _, _, _, ⟨_, _, _, _, _, _, _, _, _, _, _, _, _, _, _, rfl⟩, rfl, HP.out.1, QAt.of HFN.out.1 HFN.out.2.1, HFN.out.2.2, HNE.out⟩
end Go.Proofs.Ytmbgjmkndhjilak
