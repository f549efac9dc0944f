/- Fractions: added. -/
import Derived.Test.YtmbgjmkndhjilakFo
namespace Go.Proofs.Ytmbgjmkndhjilak
open Go.RowKit Go.Shelf

theorem gcd_nought {n d : Nat} (hd : 0 < d) : (n / Nat.gcd n d = 0 ↔ n = 0) := by
  have hg : 0 < Nat.gcd n d := Nat.gcd_pos_of_pos_right _ hd
  constructor
  · intro h
    have h1 := Nat.div_mul_cancel (Nat.gcd_dvd_left n d)
    rw [h, Nat.zero_mul] at h1
    exact h1.symm
  · intro h
    rw [h]
    exact Nat.zero_div _
set_option maxRecDepth 100000 in
set_option maxHeartbeats 4000000 in
theorem QAdd_pp {n1 d1 n2 d2 M : Nat} {u v : Value} {w : World} (hu : QAt w u false n1 d1) (hv : QAt w v false n2 d2) (s1 : Small n1) (s2 : Small d1) (s3 : Small n2) (s4 : Small d2) (hd : 0 < d1 * d2) (hM1 : n1 * d2 + n2 * d1 ≤ M) (hM2 : d1 * d2 ≤ M) (hM : Small (M * 10000)) : Calls Try.prog 69 #[u, v] w (QR false ((n1 * d2 + n2 * d1) / Nat.gcd (n1 * d2 + n2 * d1) (d1 * d2)) ((d1 * d2) / Nat.gcd (n1 * d2 + n2 * d1) (d1 * d2)) w) := by
  have HSM : Hid (Small (n1 * d2) ∧ Small (n2 * d1)) := ⟨hM.le (by omega), hM.le (by omega)⟩
  obtain ⟨yn, ynk, ync, yd, ydk, ydc, rfl, h1, h2⟩ := hu
  obtain ⟨xn, xnk, xnc, xd, xdk, xdc, rfl, h3, h4⟩ := hv
  have HY1 := hide' h1
  have HY2 := hide' h2
  have HX1 := hide' h3
  have HX2 := hide' h4
  clear h1 h2 h3 h4
  go_enter Try.func69, Try.ntmps69
  go_upto_region 1 with fail
  have hqY := (alloc_old ((w.alloc (.cells #[.bool false, .slice yn ynk ync, .slice yd ydk ydc] 113)).alloc (.cells #[.bool false, .slice xn xnk xnc, .slice xd xdk xdc] 113)) (.cells #[.bool false, .slice none 0 0, .slice none 0 0] 113) (lt_heap ((alloc_old (w.alloc (.cells #[.bool false, .slice yn ynk ync, .slice yd ydk ydc] 113)) (.cells #[.bool false, .slice xn xnk xnc, .slice xd xdk xdc] 113) (lt_heap (alloc_new w (.cells #[.bool false, .slice yn ynk ync, .slice yd ydk ydc] 113)))).trans (alloc_new w (.cells #[.bool false, .slice yn ynk ync, .slice yd ydk ydc] 113))))).trans ((alloc_old (w.alloc (.cells #[.bool false, .slice yn ynk ync, .slice yd ydk ydc] 113)) (.cells #[.bool false, .slice xn xnk xnc, .slice xd xdk xdc] 113) (lt_heap (alloc_new w (.cells #[.bool false, .slice yn ynk ync, .slice yd ydk ydc] 113)))).trans (alloc_new w (.cells #[.bool false, .slice yn ynk ync, .slice yd ydk ydc] 113)))
  have hqX := (alloc_old ((w.alloc (.cells #[.bool false, .slice yn ynk ync, .slice yd ydk ydc] 113)).alloc (.cells #[.bool false, .slice xn xnk xnc, .slice xd xdk xdc] 113)) (.cells #[.bool false, .slice none 0 0, .slice none 0 0] 113) (lt_heap (alloc_new (w.alloc (.cells #[.bool false, .slice yn ynk ync, .slice yd ydk ydc] 113)) (.cells #[.bool false, .slice xn xnk xnc, .slice xd xdk xdc] 113)))).trans (alloc_new (w.alloc (.cells #[.bool false, .slice yn ynk ync, .slice yd ydk ydc] 113)) (.cells #[.bool false, .slice xn xnk xnc, .slice xd xdk xdc] 113))
  have hqA := alloc_new ((w.alloc (.cells #[.bool false, .slice yn ynk ync, .slice yd ydk ydc] 113)).alloc (.cells #[.bool false, .slice xn xnk xnc, .slice xd xdk xdc] 113)) (.cells #[.bool false, .slice none 0 0, .slice none 0 0] 113)
  have hb1 := ((below_al w (.cells #[.bool false, .slice yn ynk ync, .slice yd ydk ydc] 113)).alloc (below_al w (.cells #[.bool false, .slice yn ynk ync, .slice yd ydk ydc] 113)).size (.cells #[.bool false, .slice xn xnk xnc, .slice xd xdk xdc] 113)).alloc ((below_al w (.cells #[.bool false, .slice yn ynk ync, .slice yd ydk ydc] 113)).alloc (below_al w (.cells #[.bool false, .slice yn ynk ync, .slice yd ydk ydc] 113)).size (.cells #[.bool false, .slice xn xnk xnc, .slice xd xdk xdc] 113)).size (.cells #[.bool false, .slice none 0 0, .slice none 0 0] 113)
  rw [show (w.alloc (.cells #[.bool false, .slice yn ynk ync, .slice yd ydk ydc] 113)).heap.size = w.heap.size + 1 from by simp only [World.size_alloc]] at hqX
  rw [show ((w.alloc (.cells #[.bool false, .slice yn ynk ync, .slice yd ydk ydc] 113)).alloc (.cells #[.bool false, .slice xn xnk xnc, .slice xd xdk xdc] 113)).heap.size = w.heap.size + 1 + 1 from by simp only [World.size_alloc]] at hqA
  obtain ⟨w1, hw1⟩ : ∃ x, x = (((w.alloc (.cells #[.bool false, .slice yn ynk ync, .slice yd ydk ydc] 113)).alloc (.cells #[.bool false, .slice xn xnk xnc, .slice xd xdk xdc] 113)).alloc (.cells #[.bool false, .slice none 0 0, .slice none 0 0] 113)) := ⟨_, rfl⟩
  rw [← hw1] at hqY hqX hqA hb1 ⊢
  obtain ⟨Y, hnY⟩ : ∃ x, x = w.heap.size := ⟨_, rfl⟩
  obtain ⟨X, hnX⟩ : ∃ x, x = w.heap.size + 1 := ⟨_, rfl⟩
  obtain ⟨A, hnA⟩ : ∃ x, x = w.heap.size + 1 + 1 := ⟨_, rfl⟩
  have HNE : Hid (w.heap.size ≤ Y ∧ w.heap.size ≤ X ∧ w.heap.size ≤ A ∧ Y ≠ X ∧ Y ≠ A ∧ X ≠ A) := ⟨by omega, by omega, by omega, by omega, by omega, by omega⟩
  rw [← hnY] at hqY
  rw [← hnX] at hqX
  rw [← hnA] at hqA
  rw [show (Value.pointer (some { block := w.heap.size, off := 0 })) = Value.pointer (some { block := Y, off := 0 }) by rw [hnY], show (Value.pointer (some { block := w.heap.size + 1, off := 0 })) = Value.pointer (some { block := X, off := 0 }) by rw [hnX], show (Value.pointer (some { block := w.heap.size + 1 + 1, off := 0 })) = Value.pointer (some { block := A, off := 0 }) by rw [hnA]]
  have HQY := hide' hqY
  have HQX := hide' hqX
  have HQA := hide' hqA
  have HB1 := hide' hb1
  clear hqY hqX hqA hb1 hw1 hnY hnX hnA
  have HS1 : Hid (w1.drew.heap[Y]? = some (.cells #[.bool false, .slice yn ynk ync, .slice yd ydk ydc] 113 (0, 0)) ∧ w1.drew.heap[X]? = some (.cells #[.bool false, .slice xn xnk xnc, .slice xd xdk xdc] 113 (0, 0))) := ⟨HQY.out, HQX.out⟩
  have HAd : Hid (w1.drew.heap[A]? = some (.cells #[.bool false, .slice none 0 0, .slice none 0 0] 113 (0, 0))) := HQA.out
  have HBd : Hid (Below w.heap.size w w1.drew) := HB1.out.trans ((Below.refl _ w1).drew.mono HB1.out.size)
  clear HQY HQX HQA HB1
  refine wp_region_tail (fun W' => W'.heap[Y]? = some (.cells #[.bool false, .slice yn ynk ync, .slice yd ydk ydc] 113 (0, 0)) ∧ W'.heap[X]? = some (.cells #[.bool false, .slice xn xnk xnc, .slice xd xdk xdc] 113 (0, 0))) 11 (by kernel_rfl) ?_
  refine wpAnyT_letter (fun q => Hid ((q.heap[Y]? = some (.cells #[.bool false, .slice yn ynk ync, .slice yd ydk ydc] 113 (0, 0)) ∧ q.heap[X]? = some (.cells #[.bool false, .slice xn xnk xnc, .slice xd xdk xdc] 113 (0, 0))) ∧ q.heap[A]? = some (.cells #[.bool false, .slice none 0 0, .slice none 0 0] 113 (0, 0)) ∧ Below w.heap.size w q)) ⟨HS1.out, HAd.out, HBd.out⟩ ?_
  clear HS1 HAd HBd
  intro z H0
  refine wpAnyD_takeAt 0 (some 8) (v := ?_) rfl (by kernel_rfl) (by kernel_rfl) (by kernel_rfl) (by kernel_rfl) (by kernel_rfl) (fun _ _ _ h => h) (by exact H0.out.1) (fun o hop => ?_) ?_
  rotate_left
  · injection hop with hop
    subst hop
    refine ⟨rfl, fun W' hW => ?_⟩
    have g0 : W'.cell? ⟨Y, 0, none⟩ = some (.bool false) := (cells_at hW.1 0).trans rfl
    have g1 : W'.cell? ⟨Y, 1, none⟩ = some (.slice yn ynk ync) := (cells_at hW.1 1).trans rfl
    have g2 : W'.cell? ⟨Y, 2, none⟩ = some (.slice yd ydk ydc) := (cells_at hW.1 2).trans rfl
    have t0 : W'.cell? ⟨X, 0, none⟩ = some (.bool false) := (cells_at hW.2 0).trans rfl
    have t1 : W'.cell? ⟨X, 1, none⟩ = some (.slice xn xnk xnc) := (cells_at hW.2 1).trans rfl
    have t2 : W'.cell? ⟨X, 2, none⟩ = some (.slice xd xdk xdc) := (cells_at hW.2 2).trans rfl
    go_simp
    first
    | rfl
    | (constructor <;> rfl)
  try simp only [Act.put, List.setIfInBounds_toArray, List.set_cons_zero, List.set_cons_succ]
  refine wpAnyD_takeAt 1 (some 9) (v := ?_) rfl (by kernel_rfl) (by kernel_rfl) (by kernel_rfl) (by kernel_rfl) (by kernel_rfl) (fun _ _ _ h => h) (by exact H0.out.1) (fun o hop => ?_) ?_
  rotate_left
  · injection hop with hop
    subst hop
    refine ⟨rfl, fun W' hW => ?_⟩
    have g0 : W'.cell? ⟨Y, 0, none⟩ = some (.bool false) := (cells_at hW.1 0).trans rfl
    have g1 : W'.cell? ⟨Y, 1, none⟩ = some (.slice yn ynk ync) := (cells_at hW.1 1).trans rfl
    have g2 : W'.cell? ⟨Y, 2, none⟩ = some (.slice yd ydk ydc) := (cells_at hW.1 2).trans rfl
    have t0 : W'.cell? ⟨X, 0, none⟩ = some (.bool false) := (cells_at hW.2 0).trans rfl
    have t1 : W'.cell? ⟨X, 1, none⟩ = some (.slice xn xnk xnc) := (cells_at hW.2 1).trans rfl
    have t2 : W'.cell? ⟨X, 2, none⟩ = some (.slice xd xdk xdc) := (cells_at hW.2 2).trans rfl
    go_simp
    first
    | rfl
    | (constructor <;> rfl)
  try simp only [Act.put, List.setIfInBounds_toArray, List.set_cons_zero, List.set_cons_succ]
  refine wpAnyD_takeAt 2 (some 10) (v := ?_) rfl (by kernel_rfl) (by kernel_rfl) (by kernel_rfl) (by kernel_rfl) (by kernel_rfl) (fun _ _ _ h => h) (by exact H0.out.1) (fun o hop => ?_) ?_
  rotate_left
  · injection hop with hop
    subst hop
    refine ⟨rfl, fun W' hW => ?_⟩
    have g0 : W'.cell? ⟨Y, 0, none⟩ = some (.bool false) := (cells_at hW.1 0).trans rfl
    have g1 : W'.cell? ⟨Y, 1, none⟩ = some (.slice yn ynk ync) := (cells_at hW.1 1).trans rfl
    have g2 : W'.cell? ⟨Y, 2, none⟩ = some (.slice yd ydk ydc) := (cells_at hW.1 2).trans rfl
    have t0 : W'.cell? ⟨X, 0, none⟩ = some (.bool false) := (cells_at hW.2 0).trans rfl
    have t1 : W'.cell? ⟨X, 1, none⟩ = some (.slice xn xnk xnc) := (cells_at hW.2 1).trans rfl
    have t2 : W'.cell? ⟨X, 2, none⟩ = some (.slice xd xdk xdc) := (cells_at hW.2 2).trans rfl
    go_simp
    first
    | rfl
    | (constructor <;> rfl)
  try simp only [Act.put, List.setIfInBounds_toArray, List.set_cons_zero, List.set_cons_succ]
  refine wpAnyD_takeAt 3 (some 11) (v := ?_) rfl (by kernel_rfl) (by kernel_rfl) (by kernel_rfl) (by kernel_rfl) (by kernel_rfl) (fun _ _ _ h => h) (by exact H0.out.1) (fun o hop => ?_) ?_
  rotate_left
  · injection hop with hop
    subst hop
    refine ⟨rfl, fun W' hW => ?_⟩
    have g0 : W'.cell? ⟨Y, 0, none⟩ = some (.bool false) := (cells_at hW.1 0).trans rfl
    have g1 : W'.cell? ⟨Y, 1, none⟩ = some (.slice yn ynk ync) := (cells_at hW.1 1).trans rfl
    have g2 : W'.cell? ⟨Y, 2, none⟩ = some (.slice yd ydk ydc) := (cells_at hW.1 2).trans rfl
    have t0 : W'.cell? ⟨X, 0, none⟩ = some (.bool false) := (cells_at hW.2 0).trans rfl
    have t1 : W'.cell? ⟨X, 1, none⟩ = some (.slice xn xnk xnc) := (cells_at hW.2 1).trans rfl
    have t2 : W'.cell? ⟨X, 2, none⟩ = some (.slice xd xdk xdc) := (cells_at hW.2 2).trans rfl
    go_simp
    first
    | rfl
    | (constructor <;> rfl)
  try simp only [Act.put, List.setIfInBounds_toArray, List.set_cons_zero, List.set_cons_succ]
  refine wpAnyD_takeAt 5 (some 13) (v := ?_) rfl (by kernel_rfl) (by kernel_rfl) (by kernel_rfl) (by kernel_rfl) (by kernel_rfl) (fun _ _ _ h => h) (by exact H0.out.1) (fun o hop => ?_) ?_
  rotate_left
  · injection hop with hop
    subst hop
    refine ⟨rfl, fun W' hW => ?_⟩
    have g0 : W'.cell? ⟨Y, 0, none⟩ = some (.bool false) := (cells_at hW.1 0).trans rfl
    have g1 : W'.cell? ⟨Y, 1, none⟩ = some (.slice yn ynk ync) := (cells_at hW.1 1).trans rfl
    have g2 : W'.cell? ⟨Y, 2, none⟩ = some (.slice yd ydk ydc) := (cells_at hW.1 2).trans rfl
    have t0 : W'.cell? ⟨X, 0, none⟩ = some (.bool false) := (cells_at hW.2 0).trans rfl
    have t1 : W'.cell? ⟨X, 1, none⟩ = some (.slice xn xnk xnc) := (cells_at hW.2 1).trans rfl
    have t2 : W'.cell? ⟨X, 2, none⟩ = some (.slice xd xdk xdc) := (cells_at hW.2 2).trans rfl
    go_simp
    first
    | rfl
    | (constructor <;> rfl)
  try simp only [Act.put, List.setIfInBounds_toArray, List.set_cons_zero, List.set_cons_succ]
  refine wpAnyD_takeAt 6 (some 14) (v := ?_) rfl (by kernel_rfl) (by kernel_rfl) (by kernel_rfl) (by kernel_rfl) (by kernel_rfl) (fun _ _ _ h => h) (by exact H0.out.1) (fun o hop => ?_) ?_
  rotate_left
  · injection hop with hop
    subst hop
    refine ⟨rfl, fun W' hW => ?_⟩
    have g0 : W'.cell? ⟨Y, 0, none⟩ = some (.bool false) := (cells_at hW.1 0).trans rfl
    have g1 : W'.cell? ⟨Y, 1, none⟩ = some (.slice yn ynk ync) := (cells_at hW.1 1).trans rfl
    have g2 : W'.cell? ⟨Y, 2, none⟩ = some (.slice yd ydk ydc) := (cells_at hW.1 2).trans rfl
    have t0 : W'.cell? ⟨X, 0, none⟩ = some (.bool false) := (cells_at hW.2 0).trans rfl
    have t1 : W'.cell? ⟨X, 1, none⟩ = some (.slice xn xnk xnc) := (cells_at hW.2 1).trans rfl
    have t2 : W'.cell? ⟨X, 2, none⟩ = some (.slice xd xdk xdc) := (cells_at hW.2 2).trans rfl
    go_simp
    first
    | rfl
    | (constructor <;> rfl)
  try simp only [Act.put, List.setIfInBounds_toArray, List.set_cons_zero, List.set_cons_succ]
  refine wpAnyD_takeAt 7 (some 15) (v := ?_) rfl (by kernel_rfl) (by kernel_rfl) (by kernel_rfl) (by kernel_rfl) (by kernel_rfl) (fun _ _ _ h => h) (by exact H0.out.1) (fun o hop => ?_) ?_
  rotate_left
  · injection hop with hop
    subst hop
    refine ⟨rfl, fun W' hW => ?_⟩
    have g0 : W'.cell? ⟨Y, 0, none⟩ = some (.bool false) := (cells_at hW.1 0).trans rfl
    have g1 : W'.cell? ⟨Y, 1, none⟩ = some (.slice yn ynk ync) := (cells_at hW.1 1).trans rfl
    have g2 : W'.cell? ⟨Y, 2, none⟩ = some (.slice yd ydk ydc) := (cells_at hW.1 2).trans rfl
    have t0 : W'.cell? ⟨X, 0, none⟩ = some (.bool false) := (cells_at hW.2 0).trans rfl
    have t1 : W'.cell? ⟨X, 1, none⟩ = some (.slice xn xnk xnc) := (cells_at hW.2 1).trans rfl
    have t2 : W'.cell? ⟨X, 2, none⟩ = some (.slice xd xdk xdc) := (cells_at hW.2 2).trans rfl
    go_simp
    first
    | rfl
    | (constructor <;> rfl)
  try simp only [Act.put, List.setIfInBounds_toArray, List.set_cons_zero, List.set_cons_succ]
  refine wpAnyD_takeAt 8 (some 16) (v := ?_) rfl (by kernel_rfl) (by kernel_rfl) (by kernel_rfl) (by kernel_rfl) (by kernel_rfl) (fun _ _ _ h => h) (by exact H0.out.1) (fun o hop => ?_) ?_
  rotate_left
  · injection hop with hop
    subst hop
    refine ⟨rfl, fun W' hW => ?_⟩
    have g0 : W'.cell? ⟨Y, 0, none⟩ = some (.bool false) := (cells_at hW.1 0).trans rfl
    have g1 : W'.cell? ⟨Y, 1, none⟩ = some (.slice yn ynk ync) := (cells_at hW.1 1).trans rfl
    have g2 : W'.cell? ⟨Y, 2, none⟩ = some (.slice yd ydk ydc) := (cells_at hW.1 2).trans rfl
    have t0 : W'.cell? ⟨X, 0, none⟩ = some (.bool false) := (cells_at hW.2 0).trans rfl
    have t1 : W'.cell? ⟨X, 1, none⟩ = some (.slice xn xnk xnc) := (cells_at hW.2 1).trans rfl
    have t2 : W'.cell? ⟨X, 2, none⟩ = some (.slice xd xdk xdc) := (cells_at hW.2 2).trans rfl
    go_simp
    first
    | rfl
    | (constructor <;> rfl)
  try simp only [Act.put, List.setIfInBounds_toArray, List.set_cons_zero, List.set_cons_succ]
  refine wpAnyT_one (i := 4) (by kernel_rfl) rfl rfl (fun K' hK => ?_)
  go_simp
  go_at_call 76
  refine (natMul_num (HY1.out.below H0.out.2.2 (Nat.le_refl _)) (HX2.out.below H0.out.2.2 (Nat.le_refl _)) s1 s4).mono ?_
  rintro e z2 ⟨v2, rfl, hn2, hb2⟩
  obtain ⟨pa, pk, pc, rfl⟩ := hn2.slice
  have H2 : Hid ((z2.heap[Y]? = some (.cells #[.bool false, .slice yn ynk ync, .slice yd ydk ydc] 113 (0, 0)) ∧ z2.heap[X]? = some (.cells #[.bool false, .slice xn xnk xnc, .slice xd xdk xdc] 113 (0, 0))) ∧ z2.heap[A]? = some (.cells #[.bool false, .slice none 0 0, .slice none 0 0] 113 (0, 0)) ∧ Below w.heap.size w z2) := ⟨⟨(hb2.block Y (ltF H0.out.1.1)).trans H0.out.1.1, (hb2.block X (ltF H0.out.1.2)).trans H0.out.1.2⟩, (hb2.block A (ltF H0.out.2.1)).trans H0.out.2.1, H0.out.2.2.trans (hb2.mono H0.out.2.2.size)⟩
  have HN2 := hide' hn2
  refine hK.out _ _ (fun _ => H2.out.1) ?_
  clear hK K' hn2 hb2 H0
  try simp only [Act.put, List.setIfInBounds_toArray, List.set_cons_zero, List.set_cons_succ]
  refine wpAnyT_one (i := 9) (by kernel_rfl) rfl rfl (fun K' hK => ?_)
  go_simp
  go_at_call 76
  refine (natMul_num (HX1.out.below H2.out.2.2 (Nat.le_refl _)) (HY2.out.below H2.out.2.2 (Nat.le_refl _)) s3 s2).mono ?_
  rintro e z3 ⟨v3, rfl, hn3, hb3⟩
  obtain ⟨qa, qk, qc, rfl⟩ := hn3.slice
  have H3 : Hid ((z3.heap[Y]? = some (.cells #[.bool false, .slice yn ynk ync, .slice yd ydk ydc] 113 (0, 0)) ∧ z3.heap[X]? = some (.cells #[.bool false, .slice xn xnk xnc, .slice xd xdk xdc] 113 (0, 0))) ∧ z3.heap[A]? = some (.cells #[.bool false, .slice none 0 0, .slice none 0 0] 113 (0, 0)) ∧ Below w.heap.size w z3) := ⟨⟨(hb3.block Y (ltF H2.out.1.1)).trans H2.out.1.1, (hb3.block X (ltF H2.out.1.2)).trans H2.out.1.2⟩, (hb3.block A (ltF H2.out.2.1)).trans H2.out.2.1, H2.out.2.2.trans (hb3.mono H2.out.2.2.size)⟩
  have HN3 : Hid (Num z3 (.slice pa pk pc) (n1 * d2) ∧ Num z3 (.slice qa qk qc) (n2 * d1)) := ⟨HN2.out.below hb3 (Nat.le_refl _), hn3⟩
  refine hK.out _ _ (fun _ => H3.out.1) ?_
  clear hK K' hn3 hb3 H2 HN2
  try simp only [Act.put, List.setIfInBounds_toArray, List.set_cons_zero, List.set_cons_succ]
  refine wpAnyT_one (i := 10) (by kernel_rfl) rfl rfl (fun K' hK => ?_)
  go_simp
  refine hK.out _ _ (fun _ => H3.out.1) ?_
  clear hK K'
  try simp only [Act.put, List.setIfInBounds_toArray, List.set_cons_zero, List.set_cons_succ]
  refine wpAnyT_one (i := 11) (by kernel_rfl) rfl rfl (fun K' hK => ?_)
  go_simp
  refine hK.out _ _ (fun h => absurd rfl h) ?_
  clear hK K'
  try simp only [Act.put, List.setIfInBounds_toArray, List.set_cons_zero, List.set_cons_succ]
  refine wpAnyT_done (by kernel_rfl) ?_ _
  have c0 : z3.cell? ⟨Y, 0, none⟩ = some (.bool false) := (cells_at H3.out.1.1 0).trans rfl
  have c1 : z3.cell? ⟨Y, 1, none⟩ = some (.slice yn ynk ync) := (cells_at H3.out.1.1 1).trans rfl
  have c2 : z3.cell? ⟨Y, 2, none⟩ = some (.slice yd ydk ydc) := (cells_at H3.out.1.1 2).trans rfl
  have k0 : z3.cell? ⟨X, 0, none⟩ = some (.bool false) := (cells_at H3.out.1.2 0).trans rfl
  have k1 : z3.cell? ⟨X, 1, none⟩ = some (.slice xn xnk xnc) := (cells_at H3.out.1.2 1).trans rfl
  have k2 : z3.cell? ⟨X, 2, none⟩ = some (.slice xd xdk xdc) := (cells_at H3.out.1.2 2).trans rfl
  go_wp2_with fail
  refine (natMul_num (HY2.out.below H3.out.2.2 (Nat.le_refl _)) (HX2.out.below H3.out.2.2 (Nat.le_refl _)) s2 s4).mono ?_
  rintro e z4 ⟨v4, rfl, hn4, hb4⟩
  obtain ⟨ra, rk, rc, rfl⟩ := hn4.slice
  have H4 : Hid ((z4.heap[Y]? = some (.cells #[.bool false, .slice yn ynk ync, .slice yd ydk ydc] 113 (0, 0)) ∧ z4.heap[X]? = some (.cells #[.bool false, .slice xn xnk xnc, .slice xd xdk xdc] 113 (0, 0))) ∧ z4.heap[A]? = some (.cells #[.bool false, .slice none 0 0, .slice none 0 0] 113 (0, 0)) ∧ Below w.heap.size w z4) := ⟨⟨(hb4.block Y (ltF H3.out.1.1)).trans H3.out.1.1, (hb4.block X (ltF H3.out.1.2)).trans H3.out.1.2⟩, (hb4.block A (ltF H3.out.2.1)).trans H3.out.2.1, H3.out.2.2.trans (hb4.mono H3.out.2.2.size)⟩
  have HN4 : Hid (Num z4 (.slice pa pk pc) (n1 * d2) ∧ Num z4 (.slice qa qk qc) (n2 * d1) ∧ Num z4 (.slice ra rk rc) (d1 * d2)) := ⟨HN3.out.1.below hb4 (Nat.le_refl _), HN3.out.2.below hb4 (Nat.le_refl _), hn4⟩
  clear hn4 hb4 H3 HN3 c0 c1 c2 k0 k1 k2
  have c0 : z4.cell? ⟨Y, 0, none⟩ = some (.bool false) := (cells_at H4.out.1.1 0).trans rfl
  have c1 : z4.cell? ⟨Y, 1, none⟩ = some (.slice yn ynk ync) := (cells_at H4.out.1.1 1).trans rfl
  have c2 : z4.cell? ⟨Y, 2, none⟩ = some (.slice yd ydk ydc) := (cells_at H4.out.1.1 2).trans rfl
  have k0 : z4.cell? ⟨X, 0, none⟩ = some (.bool false) := (cells_at H4.out.1.2 0).trans rfl
  have k1 : z4.cell? ⟨X, 1, none⟩ = some (.slice xn xnk xnc) := (cells_at H4.out.1.2 1).trans rfl
  have k2 : z4.cell? ⟨X, 2, none⟩ = some (.slice xd xdk xdc) := (cells_at H4.out.1.2 2).trans rfl

  go_upto_region 4 with fail
  have H5 : Hid ((z4.drew.heap[Y]? = some (.cells #[.bool false, .slice yn ynk ync, .slice yd ydk ydc] 113 (0, 0)) ∧ z4.drew.heap[X]? = some (.cells #[.bool false, .slice xn xnk xnc, .slice xd xdk xdc] 113 (0, 0))) ∧ z4.drew.heap[A]? = some (.cells #[.bool false, .slice none 0 0, .slice none 0 0] 113 (0, 0)) ∧ Below w.heap.size w z4.drew ∧ Num z4.drew (.slice pa pk pc) (n1 * d2) ∧ Num z4.drew (.slice qa qk qc) (n2 * d1) ∧ Num z4.drew (.slice ra rk rc) (d1 * d2)) := ⟨H4.out.1, H4.out.2.1, H4.out.2.2.trans ((Below.refl _ z4).drew.mono H4.out.2.2.size), HN4.out.1.below (Below.refl _ z4).drew (Nat.le_refl _), HN4.out.2.1.below (Below.refl _ z4).drew (Nat.le_refl _), HN4.out.2.2.below (Below.refl _ z4).drew (Nat.le_refl _)⟩
  refine wp_region_tail (fun W' => W'.heap[Y]? = some (.cells #[.bool false, .slice yn ynk ync, .slice yd ydk ydc] 113 (0, 0)) ∧ W'.heap[X]? = some (.cells #[.bool false, .slice xn xnk xnc, .slice xd xdk xdc] 113 (0, 0))) 7 (by kernel_rfl) ?_
  clear H4 HN4
  refine wpAnyD_takeAt 0 (some 28) (v := ?_) rfl (by kernel_rfl) (by kernel_rfl) (by kernel_rfl) (by kernel_rfl) (by kernel_rfl) (fun _ _ _ h => h) (by exact H5.out.1) (fun o hop => ?_) ?_
  rotate_left
  · injection hop with hop
    subst hop
    refine ⟨rfl, fun W' hW => ?_⟩
    have g0 : W'.cell? ⟨Y, 0, none⟩ = some (.bool false) := (cells_at hW.1 0).trans rfl
    have g1 : W'.cell? ⟨Y, 1, none⟩ = some (.slice yn ynk ync) := (cells_at hW.1 1).trans rfl
    have g2 : W'.cell? ⟨Y, 2, none⟩ = some (.slice yd ydk ydc) := (cells_at hW.1 2).trans rfl
    have t0 : W'.cell? ⟨X, 0, none⟩ = some (.bool false) := (cells_at hW.2 0).trans rfl
    have t1 : W'.cell? ⟨X, 1, none⟩ = some (.slice xn xnk xnc) := (cells_at hW.2 1).trans rfl
    have t2 : W'.cell? ⟨X, 2, none⟩ = some (.slice xd xdk xdc) := (cells_at hW.2 2).trans rfl
    go_simp
    first
    | rfl
    | (constructor <;> rfl)
  try simp only [Act.put, List.setIfInBounds_toArray, List.set_cons_zero, List.set_cons_succ]
  refine wpAnyD_takeAt 1 (some 29) (v := ?_) rfl (by kernel_rfl) (by kernel_rfl) (by kernel_rfl) (by kernel_rfl) (by kernel_rfl) (fun _ _ _ h => h) (by exact H5.out.1) (fun o hop => ?_) ?_
  rotate_left
  · injection hop with hop
    subst hop
    refine ⟨rfl, fun W' hW => ?_⟩
    have g0 : W'.cell? ⟨Y, 0, none⟩ = some (.bool false) := (cells_at hW.1 0).trans rfl
    have g1 : W'.cell? ⟨Y, 1, none⟩ = some (.slice yn ynk ync) := (cells_at hW.1 1).trans rfl
    have g2 : W'.cell? ⟨Y, 2, none⟩ = some (.slice yd ydk ydc) := (cells_at hW.1 2).trans rfl
    have t0 : W'.cell? ⟨X, 0, none⟩ = some (.bool false) := (cells_at hW.2 0).trans rfl
    have t1 : W'.cell? ⟨X, 1, none⟩ = some (.slice xn xnk xnc) := (cells_at hW.2 1).trans rfl
    have t2 : W'.cell? ⟨X, 2, none⟩ = some (.slice xd xdk xdc) := (cells_at hW.2 2).trans rfl
    go_simp
    first
    | rfl
    | (constructor <;> rfl)
  try simp only [Act.put, List.setIfInBounds_toArray, List.set_cons_zero, List.set_cons_succ]
  refine wpAnyD_takeAt 2 (some 30) (v := ?_) rfl (by kernel_rfl) (by kernel_rfl) (by kernel_rfl) (by kernel_rfl) (by kernel_rfl) (fun _ _ _ h => h) (by exact H5.out.1) (fun o hop => ?_) ?_
  rotate_left
  · injection hop with hop
    subst hop
    refine ⟨rfl, fun W' hW => ?_⟩
    have g0 : W'.cell? ⟨Y, 0, none⟩ = some (.bool false) := (cells_at hW.1 0).trans rfl
    have g1 : W'.cell? ⟨Y, 1, none⟩ = some (.slice yn ynk ync) := (cells_at hW.1 1).trans rfl
    have g2 : W'.cell? ⟨Y, 2, none⟩ = some (.slice yd ydk ydc) := (cells_at hW.1 2).trans rfl
    have t0 : W'.cell? ⟨X, 0, none⟩ = some (.bool false) := (cells_at hW.2 0).trans rfl
    have t1 : W'.cell? ⟨X, 1, none⟩ = some (.slice xn xnk xnc) := (cells_at hW.2 1).trans rfl
    have t2 : W'.cell? ⟨X, 2, none⟩ = some (.slice xd xdk xdc) := (cells_at hW.2 2).trans rfl
    go_simp
    first
    | rfl
    | (constructor <;> rfl)
  try simp only [Act.put, List.setIfInBounds_toArray, List.set_cons_zero, List.set_cons_succ]
  refine wpAnyD_takeAt 3 (some 31) (v := ?_) rfl (by kernel_rfl) (by kernel_rfl) (by kernel_rfl) (by kernel_rfl) (by kernel_rfl) (fun _ _ _ h => h) (by exact H5.out.1) (fun o hop => ?_) ?_
  rotate_left
  · injection hop with hop
    subst hop
    refine ⟨rfl, fun W' hW => ?_⟩
    have g0 : W'.cell? ⟨Y, 0, none⟩ = some (.bool false) := (cells_at hW.1 0).trans rfl
    have g1 : W'.cell? ⟨Y, 1, none⟩ = some (.slice yn ynk ync) := (cells_at hW.1 1).trans rfl
    have g2 : W'.cell? ⟨Y, 2, none⟩ = some (.slice yd ydk ydc) := (cells_at hW.1 2).trans rfl
    have t0 : W'.cell? ⟨X, 0, none⟩ = some (.bool false) := (cells_at hW.2 0).trans rfl
    have t1 : W'.cell? ⟨X, 1, none⟩ = some (.slice xn xnk xnc) := (cells_at hW.2 1).trans rfl
    have t2 : W'.cell? ⟨X, 2, none⟩ = some (.slice xd xdk xdc) := (cells_at hW.2 2).trans rfl
    go_simp
    first
    | rfl
    | (constructor <;> rfl)
  try simp only [Act.put, List.setIfInBounds_toArray, List.set_cons_zero, List.set_cons_succ]
  refine wpAnyD_takeAt 5 (some 33) (v := ?_) rfl (by kernel_rfl) (by kernel_rfl) (by kernel_rfl) (by kernel_rfl) (by kernel_rfl) (fun _ _ _ h => h) (by exact H5.out.1) (fun o hop => ?_) ?_
  rotate_left
  · injection hop with hop
    subst hop
    refine ⟨rfl, fun W' hW => ?_⟩
    have g0 : W'.cell? ⟨Y, 0, none⟩ = some (.bool false) := (cells_at hW.1 0).trans rfl
    have g1 : W'.cell? ⟨Y, 1, none⟩ = some (.slice yn ynk ync) := (cells_at hW.1 1).trans rfl
    have g2 : W'.cell? ⟨Y, 2, none⟩ = some (.slice yd ydk ydc) := (cells_at hW.1 2).trans rfl
    have t0 : W'.cell? ⟨X, 0, none⟩ = some (.bool false) := (cells_at hW.2 0).trans rfl
    have t1 : W'.cell? ⟨X, 1, none⟩ = some (.slice xn xnk xnc) := (cells_at hW.2 1).trans rfl
    have t2 : W'.cell? ⟨X, 2, none⟩ = some (.slice xd xdk xdc) := (cells_at hW.2 2).trans rfl
    go_simp
    first
    | rfl
    | (constructor <;> rfl)
  try simp only [Act.put, List.setIfInBounds_toArray, List.set_cons_zero, List.set_cons_succ]
  refine wpAnyT_one (i := 4) (by kernel_rfl) rfl rfl (fun K' hK => ?_)
  go_simp
  go_at_call 78
  refine (natAdd_num H5.out.2.2.2.1 H5.out.2.2.2.2.1 HSM.out.1 HSM.out.2).mono ?_
  rintro e z6 ⟨v6, rfl, hn6, hb6⟩
  obtain ⟨sa, sk, sc, rfl⟩ := hn6.slice
  have H6 : Hid ((z6.heap[Y]? = some (.cells #[.bool false, .slice yn ynk ync, .slice yd ydk ydc] 113 (0, 0)) ∧ z6.heap[X]? = some (.cells #[.bool false, .slice xn xnk xnc, .slice xd xdk xdc] 113 (0, 0))) ∧ z6.heap[A]? = some (.cells #[.bool false, .slice none 0 0, .slice none 0 0] 113 (0, 0)) ∧ Below w.heap.size w z6) := ⟨⟨(hb6.block Y (ltF H5.out.1.1)).trans H5.out.1.1, (hb6.block X (ltF H5.out.1.2)).trans H5.out.1.2⟩, (hb6.block A (ltF H5.out.2.1)).trans H5.out.2.1, H5.out.2.2.1.trans (hb6.mono H5.out.2.2.1.size)⟩
  have HN6 : Hid (Num z6 (.slice sa sk sc) (n1 * d2 + n2 * d1) ∧ Num z6 (.slice ra rk rc) (d1 * d2)) := ⟨hn6, H5.out.2.2.2.2.2.below hb6 (Nat.le_refl _)⟩
  refine hK.out _ _ (fun _ => H6.out.1) ?_
  clear hK K' hn6 hb6 H5
  try simp only [Act.put, List.setIfInBounds_toArray, List.set_cons_zero, List.set_cons_succ]
  refine wpAnyT_one (i := 6) (by kernel_rfl) rfl rfl (fun K' hK => ?_)
  go_simp
  go_at_call 75
  refine (over_any false HN6.out.1 HN6.out.2 hd hM1 hM2 hM).mono ?_
  rintro e z7 hq
  obtain ⟨v7, rfl, ⟨na, nk, nc, da, dk, dc, rfl, hn7, hd7⟩, hb7⟩ := hq.at
  have H7 : Hid ((z7.heap[Y]? = some (.cells #[.bool false, .slice yn ynk ync, .slice yd ydk ydc] 113 (0, 0)) ∧ z7.heap[X]? = some (.cells #[.bool false, .slice xn xnk xnc, .slice xd xdk xdc] 113 (0, 0))) ∧ z7.heap[A]? = some (.cells #[.bool false, .slice none 0 0, .slice none 0 0] 113 (0, 0)) ∧ Below w.heap.size w z7) := ⟨⟨(hb7.block Y (ltF H6.out.1.1)).trans H6.out.1.1, (hb7.block X (ltF H6.out.1.2)).trans H6.out.1.2⟩, (hb7.block A (ltF H6.out.2.1)).trans H6.out.2.1, H6.out.2.2.trans (hb7.mono H6.out.2.2.size)⟩
  have HN7 : Hid (Num z7 (.slice na nk nc) ((n1 * d2 + n2 * d1) / Nat.gcd (n1 * d2 + n2 * d1) (d1 * d2)) ∧ Num z7 (.slice da dk dc) ((d1 * d2) / Nat.gcd (n1 * d2 + n2 * d1) (d1 * d2))) := ⟨hn7, hd7⟩
  refine hK.out _ _ (fun _ => H7.out.1) ?_
  clear hK K' hn7 hd7 hb7 H6 HN6 hq
  try simp only [Act.put, List.setIfInBounds_toArray, List.set_cons_zero, List.set_cons_succ]
  obtain ⟨ng, HNG⟩ : ∃ x, Hid (x = (false && decide ((n1 * d2 + n2 * d1) ≠ 0))) := ⟨_, rfl⟩
  rw [← HNG.out]
  have HEz := hide' (H7.out.2.1)
  have b0 : z7.cell? ⟨A, 0, none⟩ = some (.bool false) := (cells_at HEz.out 0).trans rfl
  have b1 : z7.cell? ⟨A, 1, none⟩ = some (.slice none 0 0) := (cells_at HEz.out 1).trans rfl
  have b2 : z7.cell? ⟨A, 2, none⟩ = some (.slice none 0 0) := (cells_at HEz.out 2).trans rfl
  have e0 : z7.frozen? ⟨A, 0, none⟩ = false := frozen_no HEz.out _
  have e1 : z7.frozen? ⟨A, 1, none⟩ = false := frozen_no HEz.out _
  have e2 : z7.frozen? ⟨A, 2, none⟩ = false := frozen_no HEz.out _
  have HP := hide' (put3 HEz.out (.bool ng) (.slice na nk nc) (.slice da dk dc))
  have HFN : Hid (Num (((z7.setCell ⟨A, 0, none⟩ (.bool ng)).setCell ⟨A, 1, none⟩ (.slice na nk nc)).setCell ⟨A, 2, none⟩ (.slice da dk dc)) (.slice na nk nc) (((n1 * d2 + n2 * d1) / Nat.gcd (n1 * d2 + n2 * d1) (d1 * d2))) ∧ Num (((z7.setCell ⟨A, 0, none⟩ (.bool ng)).setCell ⟨A, 1, none⟩ (.slice na nk nc)).setCell ⟨A, 2, none⟩ (.slice da dk dc)) (.slice da dk dc) (((d1 * d2) / Nat.gcd (n1 * d2 + n2 * d1) (d1 * d2))) ∧ Below w.heap.size w (((z7.setCell ⟨A, 0, none⟩ (.bool ng)).setCell ⟨A, 1, none⟩ (.slice na nk nc)).setCell ⟨A, 2, none⟩ (.slice da dk dc))) := ⟨(HN7.out.1).but (noint HEz.out) HP.out.2, (HN7.out.2).but (noint HEz.out) HP.out.2, ((H7.out.2.2.setCell (p := ⟨A, 0, none⟩) HNE.out.2.2.1 _).setCell (p := ⟨A, 1, none⟩) HNE.out.2.2.1 _).setCell (p := ⟨A, 2, none⟩) HNE.out.2.2.1 _⟩
  clear H7 HN7
  refine wpAnyT_one (i := 7) (by kernel_rfl) rfl rfl (fun K' hK => ?_)
  go_simp
  refine hK.out _ _ (fun h => absurd rfl h) ?_
  clear hK K'
  try simp only [Act.put, List.setIfInBounds_toArray, List.set_cons_zero, List.set_cons_succ]
  refine wpAnyT_done (by kernel_rfl) ?_ _
  go_wp2
  refine bodyPost_ret (results_cell_row rfl _ _ A 113 _ (0, 0) _ rfl HP.out.1 Try.underlying113 rfl (by kernel_rfl)) rfl ?_
  have hng : ng = false := HNG.out
  subst hng
  exact ⟨_, _, rfl, HFN.out.1, HFN.out.2.1, HFN.out.2.2⟩
set_option maxRecDepth 100000 in
set_option maxHeartbeats 4000000 in
theorem QAdd_pn {n1 d1 n2 d2 M : Nat} {u v : Value} {w : World} (hu : QAt w u false n1 d1) (hv : QAt w v true n2 d2) (s1 : Small n1) (s2 : Small d1) (s3 : Small n2) (s4 : Small d2) (hd : 0 < d1 * d2) (hM1 : n1 * d2 + n2 * d1 ≤ M) (hM2 : d1 * d2 ≤ M) (hM : Small (M * 10000)) : Calls Try.prog 69 #[u, v] w fun e w' => ∃ n d, QR (decide (n1 * d2 < n2 * d1)) n d w e w' ∧ (n = 0 ↔ n1 * d2 = n2 * d1) := by
  have HSM : Hid (Small (n1 * d2) ∧ Small (n2 * d1)) := ⟨hM.le (by omega), hM.le (by omega)⟩
  obtain ⟨yn, ynk, ync, yd, ydk, ydc, rfl, h1, h2⟩ := hu
  obtain ⟨xn, xnk, xnc, xd, xdk, xdc, rfl, h3, h4⟩ := hv
  have HY1 := hide' h1
  have HY2 := hide' h2
  have HX1 := hide' h3
  have HX2 := hide' h4
  clear h1 h2 h3 h4
  go_enter Try.func69, Try.ntmps69
  go_upto_region 1 with fail
  have hqY := (alloc_old ((w.alloc (.cells #[.bool false, .slice yn ynk ync, .slice yd ydk ydc] 113)).alloc (.cells #[.bool true, .slice xn xnk xnc, .slice xd xdk xdc] 113)) (.cells #[.bool false, .slice none 0 0, .slice none 0 0] 113) (lt_heap ((alloc_old (w.alloc (.cells #[.bool false, .slice yn ynk ync, .slice yd ydk ydc] 113)) (.cells #[.bool true, .slice xn xnk xnc, .slice xd xdk xdc] 113) (lt_heap (alloc_new w (.cells #[.bool false, .slice yn ynk ync, .slice yd ydk ydc] 113)))).trans (alloc_new w (.cells #[.bool false, .slice yn ynk ync, .slice yd ydk ydc] 113))))).trans ((alloc_old (w.alloc (.cells #[.bool false, .slice yn ynk ync, .slice yd ydk ydc] 113)) (.cells #[.bool true, .slice xn xnk xnc, .slice xd xdk xdc] 113) (lt_heap (alloc_new w (.cells #[.bool false, .slice yn ynk ync, .slice yd ydk ydc] 113)))).trans (alloc_new w (.cells #[.bool false, .slice yn ynk ync, .slice yd ydk ydc] 113)))
  have hqX := (alloc_old ((w.alloc (.cells #[.bool false, .slice yn ynk ync, .slice yd ydk ydc] 113)).alloc (.cells #[.bool true, .slice xn xnk xnc, .slice xd xdk xdc] 113)) (.cells #[.bool false, .slice none 0 0, .slice none 0 0] 113) (lt_heap (alloc_new (w.alloc (.cells #[.bool false, .slice yn ynk ync, .slice yd ydk ydc] 113)) (.cells #[.bool true, .slice xn xnk xnc, .slice xd xdk xdc] 113)))).trans (alloc_new (w.alloc (.cells #[.bool false, .slice yn ynk ync, .slice yd ydk ydc] 113)) (.cells #[.bool true, .slice xn xnk xnc, .slice xd xdk xdc] 113))
  have hqA := alloc_new ((w.alloc (.cells #[.bool false, .slice yn ynk ync, .slice yd ydk ydc] 113)).alloc (.cells #[.bool true, .slice xn xnk xnc, .slice xd xdk xdc] 113)) (.cells #[.bool false, .slice none 0 0, .slice none 0 0] 113)
  have hb1 := ((below_al w (.cells #[.bool false, .slice yn ynk ync, .slice yd ydk ydc] 113)).alloc (below_al w (.cells #[.bool false, .slice yn ynk ync, .slice yd ydk ydc] 113)).size (.cells #[.bool true, .slice xn xnk xnc, .slice xd xdk xdc] 113)).alloc ((below_al w (.cells #[.bool false, .slice yn ynk ync, .slice yd ydk ydc] 113)).alloc (below_al w (.cells #[.bool false, .slice yn ynk ync, .slice yd ydk ydc] 113)).size (.cells #[.bool true, .slice xn xnk xnc, .slice xd xdk xdc] 113)).size (.cells #[.bool false, .slice none 0 0, .slice none 0 0] 113)
  rw [show (w.alloc (.cells #[.bool false, .slice yn ynk ync, .slice yd ydk ydc] 113)).heap.size = w.heap.size + 1 from by simp only [World.size_alloc]] at hqX
  rw [show ((w.alloc (.cells #[.bool false, .slice yn ynk ync, .slice yd ydk ydc] 113)).alloc (.cells #[.bool true, .slice xn xnk xnc, .slice xd xdk xdc] 113)).heap.size = w.heap.size + 1 + 1 from by simp only [World.size_alloc]] at hqA
  obtain ⟨w1, hw1⟩ : ∃ x, x = (((w.alloc (.cells #[.bool false, .slice yn ynk ync, .slice yd ydk ydc] 113)).alloc (.cells #[.bool true, .slice xn xnk xnc, .slice xd xdk xdc] 113)).alloc (.cells #[.bool false, .slice none 0 0, .slice none 0 0] 113)) := ⟨_, rfl⟩
  rw [← hw1] at hqY hqX hqA hb1 ⊢
  obtain ⟨Y, hnY⟩ : ∃ x, x = w.heap.size := ⟨_, rfl⟩
  obtain ⟨X, hnX⟩ : ∃ x, x = w.heap.size + 1 := ⟨_, rfl⟩
  obtain ⟨A, hnA⟩ : ∃ x, x = w.heap.size + 1 + 1 := ⟨_, rfl⟩
  have HNE : Hid (w.heap.size ≤ Y ∧ w.heap.size ≤ X ∧ w.heap.size ≤ A ∧ Y ≠ X ∧ Y ≠ A ∧ X ≠ A) := ⟨by omega, by omega, by omega, by omega, by omega, by omega⟩
  rw [← hnY] at hqY
  rw [← hnX] at hqX
  rw [← hnA] at hqA
  rw [show (Value.pointer (some { block := w.heap.size, off := 0 })) = Value.pointer (some { block := Y, off := 0 }) by rw [hnY], show (Value.pointer (some { block := w.heap.size + 1, off := 0 })) = Value.pointer (some { block := X, off := 0 }) by rw [hnX], show (Value.pointer (some { block := w.heap.size + 1 + 1, off := 0 })) = Value.pointer (some { block := A, off := 0 }) by rw [hnA]]
  have HQY := hide' hqY
  have HQX := hide' hqX
  have HQA := hide' hqA
  have HB1 := hide' hb1
  clear hqY hqX hqA hb1 hw1 hnY hnX hnA
  have HS1 : Hid (w1.drew.heap[Y]? = some (.cells #[.bool false, .slice yn ynk ync, .slice yd ydk ydc] 113 (0, 0)) ∧ w1.drew.heap[X]? = some (.cells #[.bool true, .slice xn xnk xnc, .slice xd xdk xdc] 113 (0, 0))) := ⟨HQY.out, HQX.out⟩
  have HAd : Hid (w1.drew.heap[A]? = some (.cells #[.bool false, .slice none 0 0, .slice none 0 0] 113 (0, 0))) := HQA.out
  have HBd : Hid (Below w.heap.size w w1.drew) := HB1.out.trans ((Below.refl _ w1).drew.mono HB1.out.size)
  clear HQY HQX HQA HB1
  refine wp_region_tail (fun W' => W'.heap[Y]? = some (.cells #[.bool false, .slice yn ynk ync, .slice yd ydk ydc] 113 (0, 0)) ∧ W'.heap[X]? = some (.cells #[.bool true, .slice xn xnk xnc, .slice xd xdk xdc] 113 (0, 0))) 11 (by kernel_rfl) ?_
  refine wpAnyT_letter (fun q => Hid ((q.heap[Y]? = some (.cells #[.bool false, .slice yn ynk ync, .slice yd ydk ydc] 113 (0, 0)) ∧ q.heap[X]? = some (.cells #[.bool true, .slice xn xnk xnc, .slice xd xdk xdc] 113 (0, 0))) ∧ q.heap[A]? = some (.cells #[.bool false, .slice none 0 0, .slice none 0 0] 113 (0, 0)) ∧ Below w.heap.size w q)) ⟨HS1.out, HAd.out, HBd.out⟩ ?_
  clear HS1 HAd HBd
  intro z H0
  refine wpAnyD_takeAt 0 (some 8) (v := ?_) rfl (by kernel_rfl) (by kernel_rfl) (by kernel_rfl) (by kernel_rfl) (by kernel_rfl) (fun _ _ _ h => h) (by exact H0.out.1) (fun o hop => ?_) ?_
  rotate_left
  · injection hop with hop
    subst hop
    refine ⟨rfl, fun W' hW => ?_⟩
    have g0 : W'.cell? ⟨Y, 0, none⟩ = some (.bool false) := (cells_at hW.1 0).trans rfl
    have g1 : W'.cell? ⟨Y, 1, none⟩ = some (.slice yn ynk ync) := (cells_at hW.1 1).trans rfl
    have g2 : W'.cell? ⟨Y, 2, none⟩ = some (.slice yd ydk ydc) := (cells_at hW.1 2).trans rfl
    have t0 : W'.cell? ⟨X, 0, none⟩ = some (.bool true) := (cells_at hW.2 0).trans rfl
    have t1 : W'.cell? ⟨X, 1, none⟩ = some (.slice xn xnk xnc) := (cells_at hW.2 1).trans rfl
    have t2 : W'.cell? ⟨X, 2, none⟩ = some (.slice xd xdk xdc) := (cells_at hW.2 2).trans rfl
    go_simp
    first
    | rfl
    | (constructor <;> rfl)
  try simp only [Act.put, List.setIfInBounds_toArray, List.set_cons_zero, List.set_cons_succ]
  refine wpAnyD_takeAt 1 (some 9) (v := ?_) rfl (by kernel_rfl) (by kernel_rfl) (by kernel_rfl) (by kernel_rfl) (by kernel_rfl) (fun _ _ _ h => h) (by exact H0.out.1) (fun o hop => ?_) ?_
  rotate_left
  · injection hop with hop
    subst hop
    refine ⟨rfl, fun W' hW => ?_⟩
    have g0 : W'.cell? ⟨Y, 0, none⟩ = some (.bool false) := (cells_at hW.1 0).trans rfl
    have g1 : W'.cell? ⟨Y, 1, none⟩ = some (.slice yn ynk ync) := (cells_at hW.1 1).trans rfl
    have g2 : W'.cell? ⟨Y, 2, none⟩ = some (.slice yd ydk ydc) := (cells_at hW.1 2).trans rfl
    have t0 : W'.cell? ⟨X, 0, none⟩ = some (.bool true) := (cells_at hW.2 0).trans rfl
    have t1 : W'.cell? ⟨X, 1, none⟩ = some (.slice xn xnk xnc) := (cells_at hW.2 1).trans rfl
    have t2 : W'.cell? ⟨X, 2, none⟩ = some (.slice xd xdk xdc) := (cells_at hW.2 2).trans rfl
    go_simp
    first
    | rfl
    | (constructor <;> rfl)
  try simp only [Act.put, List.setIfInBounds_toArray, List.set_cons_zero, List.set_cons_succ]
  refine wpAnyD_takeAt 2 (some 10) (v := ?_) rfl (by kernel_rfl) (by kernel_rfl) (by kernel_rfl) (by kernel_rfl) (by kernel_rfl) (fun _ _ _ h => h) (by exact H0.out.1) (fun o hop => ?_) ?_
  rotate_left
  · injection hop with hop
    subst hop
    refine ⟨rfl, fun W' hW => ?_⟩
    have g0 : W'.cell? ⟨Y, 0, none⟩ = some (.bool false) := (cells_at hW.1 0).trans rfl
    have g1 : W'.cell? ⟨Y, 1, none⟩ = some (.slice yn ynk ync) := (cells_at hW.1 1).trans rfl
    have g2 : W'.cell? ⟨Y, 2, none⟩ = some (.slice yd ydk ydc) := (cells_at hW.1 2).trans rfl
    have t0 : W'.cell? ⟨X, 0, none⟩ = some (.bool true) := (cells_at hW.2 0).trans rfl
    have t1 : W'.cell? ⟨X, 1, none⟩ = some (.slice xn xnk xnc) := (cells_at hW.2 1).trans rfl
    have t2 : W'.cell? ⟨X, 2, none⟩ = some (.slice xd xdk xdc) := (cells_at hW.2 2).trans rfl
    go_simp
    first
    | rfl
    | (constructor <;> rfl)
  try simp only [Act.put, List.setIfInBounds_toArray, List.set_cons_zero, List.set_cons_succ]
  refine wpAnyD_takeAt 3 (some 11) (v := ?_) rfl (by kernel_rfl) (by kernel_rfl) (by kernel_rfl) (by kernel_rfl) (by kernel_rfl) (fun _ _ _ h => h) (by exact H0.out.1) (fun o hop => ?_) ?_
  rotate_left
  · injection hop with hop
    subst hop
    refine ⟨rfl, fun W' hW => ?_⟩
    have g0 : W'.cell? ⟨Y, 0, none⟩ = some (.bool false) := (cells_at hW.1 0).trans rfl
    have g1 : W'.cell? ⟨Y, 1, none⟩ = some (.slice yn ynk ync) := (cells_at hW.1 1).trans rfl
    have g2 : W'.cell? ⟨Y, 2, none⟩ = some (.slice yd ydk ydc) := (cells_at hW.1 2).trans rfl
    have t0 : W'.cell? ⟨X, 0, none⟩ = some (.bool true) := (cells_at hW.2 0).trans rfl
    have t1 : W'.cell? ⟨X, 1, none⟩ = some (.slice xn xnk xnc) := (cells_at hW.2 1).trans rfl
    have t2 : W'.cell? ⟨X, 2, none⟩ = some (.slice xd xdk xdc) := (cells_at hW.2 2).trans rfl
    go_simp
    first
    | rfl
    | (constructor <;> rfl)
  try simp only [Act.put, List.setIfInBounds_toArray, List.set_cons_zero, List.set_cons_succ]
  refine wpAnyD_takeAt 5 (some 13) (v := ?_) rfl (by kernel_rfl) (by kernel_rfl) (by kernel_rfl) (by kernel_rfl) (by kernel_rfl) (fun _ _ _ h => h) (by exact H0.out.1) (fun o hop => ?_) ?_
  rotate_left
  · injection hop with hop
    subst hop
    refine ⟨rfl, fun W' hW => ?_⟩
    have g0 : W'.cell? ⟨Y, 0, none⟩ = some (.bool false) := (cells_at hW.1 0).trans rfl
    have g1 : W'.cell? ⟨Y, 1, none⟩ = some (.slice yn ynk ync) := (cells_at hW.1 1).trans rfl
    have g2 : W'.cell? ⟨Y, 2, none⟩ = some (.slice yd ydk ydc) := (cells_at hW.1 2).trans rfl
    have t0 : W'.cell? ⟨X, 0, none⟩ = some (.bool true) := (cells_at hW.2 0).trans rfl
    have t1 : W'.cell? ⟨X, 1, none⟩ = some (.slice xn xnk xnc) := (cells_at hW.2 1).trans rfl
    have t2 : W'.cell? ⟨X, 2, none⟩ = some (.slice xd xdk xdc) := (cells_at hW.2 2).trans rfl
    go_simp
    first
    | rfl
    | (constructor <;> rfl)
  try simp only [Act.put, List.setIfInBounds_toArray, List.set_cons_zero, List.set_cons_succ]
  refine wpAnyD_takeAt 6 (some 14) (v := ?_) rfl (by kernel_rfl) (by kernel_rfl) (by kernel_rfl) (by kernel_rfl) (by kernel_rfl) (fun _ _ _ h => h) (by exact H0.out.1) (fun o hop => ?_) ?_
  rotate_left
  · injection hop with hop
    subst hop
    refine ⟨rfl, fun W' hW => ?_⟩
    have g0 : W'.cell? ⟨Y, 0, none⟩ = some (.bool false) := (cells_at hW.1 0).trans rfl
    have g1 : W'.cell? ⟨Y, 1, none⟩ = some (.slice yn ynk ync) := (cells_at hW.1 1).trans rfl
    have g2 : W'.cell? ⟨Y, 2, none⟩ = some (.slice yd ydk ydc) := (cells_at hW.1 2).trans rfl
    have t0 : W'.cell? ⟨X, 0, none⟩ = some (.bool true) := (cells_at hW.2 0).trans rfl
    have t1 : W'.cell? ⟨X, 1, none⟩ = some (.slice xn xnk xnc) := (cells_at hW.2 1).trans rfl
    have t2 : W'.cell? ⟨X, 2, none⟩ = some (.slice xd xdk xdc) := (cells_at hW.2 2).trans rfl
    go_simp
    first
    | rfl
    | (constructor <;> rfl)
  try simp only [Act.put, List.setIfInBounds_toArray, List.set_cons_zero, List.set_cons_succ]
  refine wpAnyD_takeAt 7 (some 15) (v := ?_) rfl (by kernel_rfl) (by kernel_rfl) (by kernel_rfl) (by kernel_rfl) (by kernel_rfl) (fun _ _ _ h => h) (by exact H0.out.1) (fun o hop => ?_) ?_
  rotate_left
  · injection hop with hop
    subst hop
    refine ⟨rfl, fun W' hW => ?_⟩
    have g0 : W'.cell? ⟨Y, 0, none⟩ = some (.bool false) := (cells_at hW.1 0).trans rfl
    have g1 : W'.cell? ⟨Y, 1, none⟩ = some (.slice yn ynk ync) := (cells_at hW.1 1).trans rfl
    have g2 : W'.cell? ⟨Y, 2, none⟩ = some (.slice yd ydk ydc) := (cells_at hW.1 2).trans rfl
    have t0 : W'.cell? ⟨X, 0, none⟩ = some (.bool true) := (cells_at hW.2 0).trans rfl
    have t1 : W'.cell? ⟨X, 1, none⟩ = some (.slice xn xnk xnc) := (cells_at hW.2 1).trans rfl
    have t2 : W'.cell? ⟨X, 2, none⟩ = some (.slice xd xdk xdc) := (cells_at hW.2 2).trans rfl
    go_simp
    first
    | rfl
    | (constructor <;> rfl)
  try simp only [Act.put, List.setIfInBounds_toArray, List.set_cons_zero, List.set_cons_succ]
  refine wpAnyD_takeAt 8 (some 16) (v := ?_) rfl (by kernel_rfl) (by kernel_rfl) (by kernel_rfl) (by kernel_rfl) (by kernel_rfl) (fun _ _ _ h => h) (by exact H0.out.1) (fun o hop => ?_) ?_
  rotate_left
  · injection hop with hop
    subst hop
    refine ⟨rfl, fun W' hW => ?_⟩
    have g0 : W'.cell? ⟨Y, 0, none⟩ = some (.bool false) := (cells_at hW.1 0).trans rfl
    have g1 : W'.cell? ⟨Y, 1, none⟩ = some (.slice yn ynk ync) := (cells_at hW.1 1).trans rfl
    have g2 : W'.cell? ⟨Y, 2, none⟩ = some (.slice yd ydk ydc) := (cells_at hW.1 2).trans rfl
    have t0 : W'.cell? ⟨X, 0, none⟩ = some (.bool true) := (cells_at hW.2 0).trans rfl
    have t1 : W'.cell? ⟨X, 1, none⟩ = some (.slice xn xnk xnc) := (cells_at hW.2 1).trans rfl
    have t2 : W'.cell? ⟨X, 2, none⟩ = some (.slice xd xdk xdc) := (cells_at hW.2 2).trans rfl
    go_simp
    first
    | rfl
    | (constructor <;> rfl)
  try simp only [Act.put, List.setIfInBounds_toArray, List.set_cons_zero, List.set_cons_succ]
  refine wpAnyT_one (i := 4) (by kernel_rfl) rfl rfl (fun K' hK => ?_)
  go_simp
  go_at_call 76
  refine (natMul_num (HY1.out.below H0.out.2.2 (Nat.le_refl _)) (HX2.out.below H0.out.2.2 (Nat.le_refl _)) s1 s4).mono ?_
  rintro e z2 ⟨v2, rfl, hn2, hb2⟩
  obtain ⟨pa, pk, pc, rfl⟩ := hn2.slice
  have H2 : Hid ((z2.heap[Y]? = some (.cells #[.bool false, .slice yn ynk ync, .slice yd ydk ydc] 113 (0, 0)) ∧ z2.heap[X]? = some (.cells #[.bool true, .slice xn xnk xnc, .slice xd xdk xdc] 113 (0, 0))) ∧ z2.heap[A]? = some (.cells #[.bool false, .slice none 0 0, .slice none 0 0] 113 (0, 0)) ∧ Below w.heap.size w z2) := ⟨⟨(hb2.block Y (ltF H0.out.1.1)).trans H0.out.1.1, (hb2.block X (ltF H0.out.1.2)).trans H0.out.1.2⟩, (hb2.block A (ltF H0.out.2.1)).trans H0.out.2.1, H0.out.2.2.trans (hb2.mono H0.out.2.2.size)⟩
  have HN2 := hide' hn2
  refine hK.out _ _ (fun _ => H2.out.1) ?_
  clear hK K' hn2 hb2 H0
  try simp only [Act.put, List.setIfInBounds_toArray, List.set_cons_zero, List.set_cons_succ]
  refine wpAnyT_one (i := 9) (by kernel_rfl) rfl rfl (fun K' hK => ?_)
  go_simp
  go_at_call 76
  refine (natMul_num (HX1.out.below H2.out.2.2 (Nat.le_refl _)) (HY2.out.below H2.out.2.2 (Nat.le_refl _)) s3 s2).mono ?_
  rintro e z3 ⟨v3, rfl, hn3, hb3⟩
  obtain ⟨qa, qk, qc, rfl⟩ := hn3.slice
  have H3 : Hid ((z3.heap[Y]? = some (.cells #[.bool false, .slice yn ynk ync, .slice yd ydk ydc] 113 (0, 0)) ∧ z3.heap[X]? = some (.cells #[.bool true, .slice xn xnk xnc, .slice xd xdk xdc] 113 (0, 0))) ∧ z3.heap[A]? = some (.cells #[.bool false, .slice none 0 0, .slice none 0 0] 113 (0, 0)) ∧ Below w.heap.size w z3) := ⟨⟨(hb3.block Y (ltF H2.out.1.1)).trans H2.out.1.1, (hb3.block X (ltF H2.out.1.2)).trans H2.out.1.2⟩, (hb3.block A (ltF H2.out.2.1)).trans H2.out.2.1, H2.out.2.2.trans (hb3.mono H2.out.2.2.size)⟩
  have HN3 : Hid (Num z3 (.slice pa pk pc) (n1 * d2) ∧ Num z3 (.slice qa qk qc) (n2 * d1)) := ⟨HN2.out.below hb3 (Nat.le_refl _), hn3⟩
  refine hK.out _ _ (fun _ => H3.out.1) ?_
  clear hK K' hn3 hb3 H2 HN2
  try simp only [Act.put, List.setIfInBounds_toArray, List.set_cons_zero, List.set_cons_succ]
  refine wpAnyT_one (i := 10) (by kernel_rfl) rfl rfl (fun K' hK => ?_)
  go_simp
  refine hK.out _ _ (fun _ => H3.out.1) ?_
  clear hK K'
  try simp only [Act.put, List.setIfInBounds_toArray, List.set_cons_zero, List.set_cons_succ]
  refine wpAnyT_one (i := 11) (by kernel_rfl) rfl rfl (fun K' hK => ?_)
  go_simp
  refine hK.out _ _ (fun h => absurd rfl h) ?_
  clear hK K'
  try simp only [Act.put, List.setIfInBounds_toArray, List.set_cons_zero, List.set_cons_succ]
  refine wpAnyT_done (by kernel_rfl) ?_ _
  have c0 : z3.cell? ⟨Y, 0, none⟩ = some (.bool false) := (cells_at H3.out.1.1 0).trans rfl
  have c1 : z3.cell? ⟨Y, 1, none⟩ = some (.slice yn ynk ync) := (cells_at H3.out.1.1 1).trans rfl
  have c2 : z3.cell? ⟨Y, 2, none⟩ = some (.slice yd ydk ydc) := (cells_at H3.out.1.1 2).trans rfl
  have k0 : z3.cell? ⟨X, 0, none⟩ = some (.bool true) := (cells_at H3.out.1.2 0).trans rfl
  have k1 : z3.cell? ⟨X, 1, none⟩ = some (.slice xn xnk xnc) := (cells_at H3.out.1.2 1).trans rfl
  have k2 : z3.cell? ⟨X, 2, none⟩ = some (.slice xd xdk xdc) := (cells_at H3.out.1.2 2).trans rfl
  go_wp2_with fail
  refine (natMul_num (HY2.out.below H3.out.2.2 (Nat.le_refl _)) (HX2.out.below H3.out.2.2 (Nat.le_refl _)) s2 s4).mono ?_
  rintro e z4 ⟨v4, rfl, hn4, hb4⟩
  obtain ⟨ra, rk, rc, rfl⟩ := hn4.slice
  have H4 : Hid ((z4.heap[Y]? = some (.cells #[.bool false, .slice yn ynk ync, .slice yd ydk ydc] 113 (0, 0)) ∧ z4.heap[X]? = some (.cells #[.bool true, .slice xn xnk xnc, .slice xd xdk xdc] 113 (0, 0))) ∧ z4.heap[A]? = some (.cells #[.bool false, .slice none 0 0, .slice none 0 0] 113 (0, 0)) ∧ Below w.heap.size w z4) := ⟨⟨(hb4.block Y (ltF H3.out.1.1)).trans H3.out.1.1, (hb4.block X (ltF H3.out.1.2)).trans H3.out.1.2⟩, (hb4.block A (ltF H3.out.2.1)).trans H3.out.2.1, H3.out.2.2.trans (hb4.mono H3.out.2.2.size)⟩
  have HN4 : Hid (Num z4 (.slice pa pk pc) (n1 * d2) ∧ Num z4 (.slice qa qk qc) (n2 * d1) ∧ Num z4 (.slice ra rk rc) (d1 * d2)) := ⟨HN3.out.1.below hb4 (Nat.le_refl _), HN3.out.2.below hb4 (Nat.le_refl _), hn4⟩
  clear hn4 hb4 H3 HN3 c0 c1 c2 k0 k1 k2
  have c0 : z4.cell? ⟨Y, 0, none⟩ = some (.bool false) := (cells_at H4.out.1.1 0).trans rfl
  have c1 : z4.cell? ⟨Y, 1, none⟩ = some (.slice yn ynk ync) := (cells_at H4.out.1.1 1).trans rfl
  have c2 : z4.cell? ⟨Y, 2, none⟩ = some (.slice yd ydk ydc) := (cells_at H4.out.1.1 2).trans rfl
  have k0 : z4.cell? ⟨X, 0, none⟩ = some (.bool true) := (cells_at H4.out.1.2 0).trans rfl
  have k1 : z4.cell? ⟨X, 1, none⟩ = some (.slice xn xnk xnc) := (cells_at H4.out.1.2 1).trans rfl
  have k2 : z4.cell? ⟨X, 2, none⟩ = some (.slice xd xdk xdc) := (cells_at H4.out.1.2 2).trans rfl

  go_wp2_with fail
  refine (natCmp_num HN4.out.1 HN4.out.2.1 HSM.out.1 HSM.out.2).mono ?_
  rintro e z5 ⟨rfl, hb5⟩
  have H4b : Hid ((z5.heap[Y]? = some (.cells #[.bool false, .slice yn ynk ync, .slice yd ydk ydc] 113 (0, 0)) ∧ z5.heap[X]? = some (.cells #[.bool true, .slice xn xnk xnc, .slice xd xdk xdc] 113 (0, 0))) ∧ z5.heap[A]? = some (.cells #[.bool false, .slice none 0 0, .slice none 0 0] 113 (0, 0)) ∧ Below w.heap.size w z5) := ⟨⟨(hb5.block Y (ltF H4.out.1.1)).trans H4.out.1.1, (hb5.block X (ltF H4.out.1.2)).trans H4.out.1.2⟩, (hb5.block A (ltF H4.out.2.1)).trans H4.out.2.1, H4.out.2.2.trans (hb5.mono H4.out.2.2.size)⟩
  have HN4b : Hid (Num z5 (.slice pa pk pc) (n1 * d2) ∧ Num z5 (.slice qa qk qc) (n2 * d1) ∧ Num z5 (.slice ra rk rc) (d1 * d2)) := ⟨HN4.out.1.below hb5 (Nat.le_refl _), HN4.out.2.1.below hb5 (Nat.le_refl _), HN4.out.2.2.below hb5 (Nat.le_refl _)⟩
  clear hb5 H4 HN4 c0 c1 c2 k0 k1 k2
  by_cases hlt : n1 * d2 < n2 * d1
  · rw [cmp_lt hlt]
    have HLT := hide' hlt
    clear hlt
    go_upto_region 7 with fail
    have H5 : Hid ((z5.drew.heap[Y]? = some (.cells #[.bool false, .slice yn ynk ync, .slice yd ydk ydc] 113 (0, 0)) ∧ z5.drew.heap[X]? = some (.cells #[.bool true, .slice xn xnk xnc, .slice xd xdk xdc] 113 (0, 0))) ∧ z5.drew.heap[A]? = some (.cells #[.bool false, .slice none 0 0, .slice none 0 0] 113 (0, 0)) ∧ Below w.heap.size w z5.drew ∧ Num z5.drew (.slice pa pk pc) (n1 * d2) ∧ Num z5.drew (.slice qa qk qc) (n2 * d1) ∧ Num z5.drew (.slice ra rk rc) (d1 * d2)) := ⟨H4b.out.1, H4b.out.2.1, H4b.out.2.2.trans ((Below.refl _ z5).drew.mono H4b.out.2.2.size), HN4b.out.1.below (Below.refl _ z5).drew (Nat.le_refl _), HN4b.out.2.1.below (Below.refl _ z5).drew (Nat.le_refl _), HN4b.out.2.2.below (Below.refl _ z5).drew (Nat.le_refl _)⟩
    refine wp_region_tail (fun W' => W'.heap[Y]? = some (.cells #[.bool false, .slice yn ynk ync, .slice yd ydk ydc] 113 (0, 0)) ∧ W'.heap[X]? = some (.cells #[.bool true, .slice xn xnk xnc, .slice xd xdk xdc] 113 (0, 0))) 7 (by kernel_rfl) ?_
    clear H4b HN4b
    refine wpAnyD_takeAt 0 (some 46) (v := ?_) rfl (by kernel_rfl) (by kernel_rfl) (by kernel_rfl) (by kernel_rfl) (by kernel_rfl) (fun _ _ _ h => h) (by exact H5.out.1) (fun o hop => ?_) ?_
    rotate_left
    · injection hop with hop
      subst hop
      refine ⟨rfl, fun W' hW => ?_⟩
      have g0 : W'.cell? ⟨Y, 0, none⟩ = some (.bool false) := (cells_at hW.1 0).trans rfl
      have g1 : W'.cell? ⟨Y, 1, none⟩ = some (.slice yn ynk ync) := (cells_at hW.1 1).trans rfl
      have g2 : W'.cell? ⟨Y, 2, none⟩ = some (.slice yd ydk ydc) := (cells_at hW.1 2).trans rfl
      have t0 : W'.cell? ⟨X, 0, none⟩ = some (.bool true) := (cells_at hW.2 0).trans rfl
      have t1 : W'.cell? ⟨X, 1, none⟩ = some (.slice xn xnk xnc) := (cells_at hW.2 1).trans rfl
      have t2 : W'.cell? ⟨X, 2, none⟩ = some (.slice xd xdk xdc) := (cells_at hW.2 2).trans rfl
      go_simp
      first
      | rfl
      | (constructor <;> rfl)
    try simp only [Act.put, List.setIfInBounds_toArray, List.set_cons_zero, List.set_cons_succ]
    refine wpAnyD_takeAt 1 (some 47) (v := ?_) rfl (by kernel_rfl) (by kernel_rfl) (by kernel_rfl) (by kernel_rfl) (by kernel_rfl) (fun _ _ _ h => h) (by exact H5.out.1) (fun o hop => ?_) ?_
    rotate_left
    · injection hop with hop
      subst hop
      refine ⟨rfl, fun W' hW => ?_⟩
      have g0 : W'.cell? ⟨Y, 0, none⟩ = some (.bool false) := (cells_at hW.1 0).trans rfl
      have g1 : W'.cell? ⟨Y, 1, none⟩ = some (.slice yn ynk ync) := (cells_at hW.1 1).trans rfl
      have g2 : W'.cell? ⟨Y, 2, none⟩ = some (.slice yd ydk ydc) := (cells_at hW.1 2).trans rfl
      have t0 : W'.cell? ⟨X, 0, none⟩ = some (.bool true) := (cells_at hW.2 0).trans rfl
      have t1 : W'.cell? ⟨X, 1, none⟩ = some (.slice xn xnk xnc) := (cells_at hW.2 1).trans rfl
      have t2 : W'.cell? ⟨X, 2, none⟩ = some (.slice xd xdk xdc) := (cells_at hW.2 2).trans rfl
      go_simp
      first
      | rfl
      | (constructor <;> rfl)
    try simp only [Act.put, List.setIfInBounds_toArray, List.set_cons_zero, List.set_cons_succ]
    refine wpAnyD_takeAt 2 (some 48) (v := ?_) rfl (by kernel_rfl) (by kernel_rfl) (by kernel_rfl) (by kernel_rfl) (by kernel_rfl) (fun _ _ _ h => h) (by exact H5.out.1) (fun o hop => ?_) ?_
    rotate_left
    · injection hop with hop
      subst hop
      refine ⟨rfl, fun W' hW => ?_⟩
      have g0 : W'.cell? ⟨Y, 0, none⟩ = some (.bool false) := (cells_at hW.1 0).trans rfl
      have g1 : W'.cell? ⟨Y, 1, none⟩ = some (.slice yn ynk ync) := (cells_at hW.1 1).trans rfl
      have g2 : W'.cell? ⟨Y, 2, none⟩ = some (.slice yd ydk ydc) := (cells_at hW.1 2).trans rfl
      have t0 : W'.cell? ⟨X, 0, none⟩ = some (.bool true) := (cells_at hW.2 0).trans rfl
      have t1 : W'.cell? ⟨X, 1, none⟩ = some (.slice xn xnk xnc) := (cells_at hW.2 1).trans rfl
      have t2 : W'.cell? ⟨X, 2, none⟩ = some (.slice xd xdk xdc) := (cells_at hW.2 2).trans rfl
      go_simp
      first
      | rfl
      | (constructor <;> rfl)
    try simp only [Act.put, List.setIfInBounds_toArray, List.set_cons_zero, List.set_cons_succ]
    refine wpAnyD_takeAt 3 (some 49) (v := ?_) rfl (by kernel_rfl) (by kernel_rfl) (by kernel_rfl) (by kernel_rfl) (by kernel_rfl) (fun _ _ _ h => h) (by exact H5.out.1) (fun o hop => ?_) ?_
    rotate_left
    · injection hop with hop
      subst hop
      refine ⟨rfl, fun W' hW => ?_⟩
      have g0 : W'.cell? ⟨Y, 0, none⟩ = some (.bool false) := (cells_at hW.1 0).trans rfl
      have g1 : W'.cell? ⟨Y, 1, none⟩ = some (.slice yn ynk ync) := (cells_at hW.1 1).trans rfl
      have g2 : W'.cell? ⟨Y, 2, none⟩ = some (.slice yd ydk ydc) := (cells_at hW.1 2).trans rfl
      have t0 : W'.cell? ⟨X, 0, none⟩ = some (.bool true) := (cells_at hW.2 0).trans rfl
      have t1 : W'.cell? ⟨X, 1, none⟩ = some (.slice xn xnk xnc) := (cells_at hW.2 1).trans rfl
      have t2 : W'.cell? ⟨X, 2, none⟩ = some (.slice xd xdk xdc) := (cells_at hW.2 2).trans rfl
      go_simp
      first
      | rfl
      | (constructor <;> rfl)
    try simp only [Act.put, List.setIfInBounds_toArray, List.set_cons_zero, List.set_cons_succ]
    refine wpAnyD_takeAt 5 (some 51) (v := ?_) rfl (by kernel_rfl) (by kernel_rfl) (by kernel_rfl) (by kernel_rfl) (by kernel_rfl) (fun _ _ _ h => h) (by exact H5.out.1) (fun o hop => ?_) ?_
    rotate_left
    · injection hop with hop
      subst hop
      refine ⟨rfl, fun W' hW => ?_⟩
      have g0 : W'.cell? ⟨Y, 0, none⟩ = some (.bool false) := (cells_at hW.1 0).trans rfl
      have g1 : W'.cell? ⟨Y, 1, none⟩ = some (.slice yn ynk ync) := (cells_at hW.1 1).trans rfl
      have g2 : W'.cell? ⟨Y, 2, none⟩ = some (.slice yd ydk ydc) := (cells_at hW.1 2).trans rfl
      have t0 : W'.cell? ⟨X, 0, none⟩ = some (.bool true) := (cells_at hW.2 0).trans rfl
      have t1 : W'.cell? ⟨X, 1, none⟩ = some (.slice xn xnk xnc) := (cells_at hW.2 1).trans rfl
      have t2 : W'.cell? ⟨X, 2, none⟩ = some (.slice xd xdk xdc) := (cells_at hW.2 2).trans rfl
      go_simp
      first
      | rfl
      | (constructor <;> rfl)
    try simp only [Act.put, List.setIfInBounds_toArray, List.set_cons_zero, List.set_cons_succ]
    refine wpAnyT_one (i := 4) (by kernel_rfl) rfl rfl (fun K' hK => ?_)
    go_simp
    go_at_call 80
    refine (natSub_num H5.out.2.2.2.2.1 H5.out.2.2.2.1 HSM.out.2 (Nat.le_of_lt HLT.out)).mono ?_
    rintro e z6 ⟨v6, rfl, hn6, _, hb6⟩
    obtain ⟨sa, sk, sc, rfl⟩ := hn6.slice
    have H6 : Hid ((z6.heap[Y]? = some (.cells #[.bool false, .slice yn ynk ync, .slice yd ydk ydc] 113 (0, 0)) ∧ z6.heap[X]? = some (.cells #[.bool true, .slice xn xnk xnc, .slice xd xdk xdc] 113 (0, 0))) ∧ z6.heap[A]? = some (.cells #[.bool false, .slice none 0 0, .slice none 0 0] 113 (0, 0)) ∧ Below w.heap.size w z6) := ⟨⟨(hb6.block Y (ltF H5.out.1.1)).trans H5.out.1.1, (hb6.block X (ltF H5.out.1.2)).trans H5.out.1.2⟩, (hb6.block A (ltF H5.out.2.1)).trans H5.out.2.1, H5.out.2.2.1.trans (hb6.mono H5.out.2.2.1.size)⟩
    have HN6 : Hid (Num z6 (.slice sa sk sc) (n2 * d1 - n1 * d2) ∧ Num z6 (.slice ra rk rc) (d1 * d2)) := ⟨hn6, H5.out.2.2.2.2.2.below hb6 (Nat.le_refl _)⟩
    refine hK.out _ _ (fun _ => H6.out.1) ?_
    clear hK K' hn6 hb6 H5
    try simp only [Act.put, List.setIfInBounds_toArray, List.set_cons_zero, List.set_cons_succ]
    refine wpAnyT_one (i := 6) (by kernel_rfl) rfl rfl (fun K' hK => ?_)
    go_simp
    go_at_call 75
    refine (over_any true HN6.out.1 HN6.out.2 hd (by omega) hM2 hM).mono ?_
    rintro e z7 hq
    obtain ⟨v7, rfl, ⟨na, nk, nc, da, dk, dc, rfl, hn7, hd7⟩, hb7⟩ := hq.at
    have H7 : Hid ((z7.heap[Y]? = some (.cells #[.bool false, .slice yn ynk ync, .slice yd ydk ydc] 113 (0, 0)) ∧ z7.heap[X]? = some (.cells #[.bool true, .slice xn xnk xnc, .slice xd xdk xdc] 113 (0, 0))) ∧ z7.heap[A]? = some (.cells #[.bool false, .slice none 0 0, .slice none 0 0] 113 (0, 0)) ∧ Below w.heap.size w z7) := ⟨⟨(hb7.block Y (ltF H6.out.1.1)).trans H6.out.1.1, (hb7.block X (ltF H6.out.1.2)).trans H6.out.1.2⟩, (hb7.block A (ltF H6.out.2.1)).trans H6.out.2.1, H6.out.2.2.trans (hb7.mono H6.out.2.2.size)⟩
    have HN7 : Hid (Num z7 (.slice na nk nc) ((n2 * d1 - n1 * d2) / Nat.gcd (n2 * d1 - n1 * d2) (d1 * d2)) ∧ Num z7 (.slice da dk dc) ((d1 * d2) / Nat.gcd (n2 * d1 - n1 * d2) (d1 * d2))) := ⟨hn7, hd7⟩
    refine hK.out _ _ (fun _ => H7.out.1) ?_
    clear hK K' hn7 hd7 hb7 H6 HN6 hq
    try simp only [Act.put, List.setIfInBounds_toArray, List.set_cons_zero, List.set_cons_succ]
    obtain ⟨ng, HNG⟩ : ∃ x, Hid (x = (true && decide ((n2 * d1 - n1 * d2) ≠ 0))) := ⟨_, rfl⟩
    rw [← HNG.out]
    have HEz := hide' (H7.out.2.1)
    have b0 : z7.cell? ⟨A, 0, none⟩ = some (.bool false) := (cells_at HEz.out 0).trans rfl
    have b1 : z7.cell? ⟨A, 1, none⟩ = some (.slice none 0 0) := (cells_at HEz.out 1).trans rfl
    have b2 : z7.cell? ⟨A, 2, none⟩ = some (.slice none 0 0) := (cells_at HEz.out 2).trans rfl
    have e0 : z7.frozen? ⟨A, 0, none⟩ = false := frozen_no HEz.out _
    have e1 : z7.frozen? ⟨A, 1, none⟩ = false := frozen_no HEz.out _
    have e2 : z7.frozen? ⟨A, 2, none⟩ = false := frozen_no HEz.out _
    have HP := hide' (put3 HEz.out (.bool ng) (.slice na nk nc) (.slice da dk dc))
    have HFN : Hid (Num (((z7.setCell ⟨A, 0, none⟩ (.bool ng)).setCell ⟨A, 1, none⟩ (.slice na nk nc)).setCell ⟨A, 2, none⟩ (.slice da dk dc)) (.slice na nk nc) (((n2 * d1 - n1 * d2) / Nat.gcd (n2 * d1 - n1 * d2) (d1 * d2))) ∧ Num (((z7.setCell ⟨A, 0, none⟩ (.bool ng)).setCell ⟨A, 1, none⟩ (.slice na nk nc)).setCell ⟨A, 2, none⟩ (.slice da dk dc)) (.slice da dk dc) (((d1 * d2) / Nat.gcd (n2 * d1 - n1 * d2) (d1 * d2))) ∧ Below w.heap.size w (((z7.setCell ⟨A, 0, none⟩ (.bool ng)).setCell ⟨A, 1, none⟩ (.slice na nk nc)).setCell ⟨A, 2, none⟩ (.slice da dk dc))) := ⟨(HN7.out.1).but (noint HEz.out) HP.out.2, (HN7.out.2).but (noint HEz.out) HP.out.2, ((H7.out.2.2.setCell (p := ⟨A, 0, none⟩) HNE.out.2.2.1 _).setCell (p := ⟨A, 1, none⟩) HNE.out.2.2.1 _).setCell (p := ⟨A, 2, none⟩) HNE.out.2.2.1 _⟩
    clear H7 HN7
    refine wpAnyT_one (i := 7) (by kernel_rfl) rfl rfl (fun K' hK => ?_)
    go_simp
    refine hK.out _ _ (fun h => absurd rfl h) ?_
    clear hK K'
    try simp only [Act.put, List.setIfInBounds_toArray, List.set_cons_zero, List.set_cons_succ]
    refine wpAnyT_done (by kernel_rfl) ?_ _
    go_wp2
    refine bodyPost_ret (results_cell_row rfl _ _ A 113 _ (0, 0) _ rfl HP.out.1 Try.underlying113 rfl (by kernel_rfl)) rfl ?_
    have hlt := HLT.out
    have hng : ng = true := by rw [HNG.out, Bool.true_and]; exact decide_eq_true (by omega)
    subst hng
    exact ⟨_, _, ⟨_, _, by rw [decide_eq_true hlt], HFN.out.1, HFN.out.2.1, HFN.out.2.2⟩, by rw [gcd_nought hd]; omega⟩
  · have HLT := hide' hlt
    obtain ⟨cc, HCC⟩ : ∃ cc, Hid (cc = cmpN (n1 * d2) (n2 * d1)) := ⟨_, rfl⟩
    have hcc : 0 ≤ cc := by
      have : ¬ cc < 0 := by rw [HCC.out, cmp_neg]; exact hlt
      omega
    rw [← HCC.out]
    clear HCC hlt
    go_upto_region 6 with fail
    have H5 : Hid ((z5.drew.heap[Y]? = some (.cells #[.bool false, .slice yn ynk ync, .slice yd ydk ydc] 113 (0, 0)) ∧ z5.drew.heap[X]? = some (.cells #[.bool true, .slice xn xnk xnc, .slice xd xdk xdc] 113 (0, 0))) ∧ z5.drew.heap[A]? = some (.cells #[.bool false, .slice none 0 0, .slice none 0 0] 113 (0, 0)) ∧ Below w.heap.size w z5.drew ∧ Num z5.drew (.slice pa pk pc) (n1 * d2) ∧ Num z5.drew (.slice qa qk qc) (n2 * d1) ∧ Num z5.drew (.slice ra rk rc) (d1 * d2)) := ⟨H4b.out.1, H4b.out.2.1, H4b.out.2.2.trans ((Below.refl _ z5).drew.mono H4b.out.2.2.size), HN4b.out.1.below (Below.refl _ z5).drew (Nat.le_refl _), HN4b.out.2.1.below (Below.refl _ z5).drew (Nat.le_refl _), HN4b.out.2.2.below (Below.refl _ z5).drew (Nat.le_refl _)⟩
    refine wp_region_tail (fun W' => W'.heap[Y]? = some (.cells #[.bool false, .slice yn ynk ync, .slice yd ydk ydc] 113 (0, 0)) ∧ W'.heap[X]? = some (.cells #[.bool true, .slice xn xnk xnc, .slice xd xdk xdc] 113 (0, 0))) 7 (by kernel_rfl) ?_
    clear H4b HN4b
    refine wpAnyD_takeAt 0 (some 39) (v := ?_) rfl (by kernel_rfl) (by kernel_rfl) (by kernel_rfl) (by kernel_rfl) (by kernel_rfl) (fun _ _ _ h => h) (by exact H5.out.1) (fun o hop => ?_) ?_
    rotate_left
    · injection hop with hop
      subst hop
      refine ⟨rfl, fun W' hW => ?_⟩
      have g0 : W'.cell? ⟨Y, 0, none⟩ = some (.bool false) := (cells_at hW.1 0).trans rfl
      have g1 : W'.cell? ⟨Y, 1, none⟩ = some (.slice yn ynk ync) := (cells_at hW.1 1).trans rfl
      have g2 : W'.cell? ⟨Y, 2, none⟩ = some (.slice yd ydk ydc) := (cells_at hW.1 2).trans rfl
      have t0 : W'.cell? ⟨X, 0, none⟩ = some (.bool true) := (cells_at hW.2 0).trans rfl
      have t1 : W'.cell? ⟨X, 1, none⟩ = some (.slice xn xnk xnc) := (cells_at hW.2 1).trans rfl
      have t2 : W'.cell? ⟨X, 2, none⟩ = some (.slice xd xdk xdc) := (cells_at hW.2 2).trans rfl
      go_simp
      first
      | rfl
      | (constructor <;> rfl)
    try simp only [Act.put, List.setIfInBounds_toArray, List.set_cons_zero, List.set_cons_succ]
    refine wpAnyD_takeAt 1 (some 40) (v := ?_) rfl (by kernel_rfl) (by kernel_rfl) (by kernel_rfl) (by kernel_rfl) (by kernel_rfl) (fun _ _ _ h => h) (by exact H5.out.1) (fun o hop => ?_) ?_
    rotate_left
    · injection hop with hop
      subst hop
      refine ⟨rfl, fun W' hW => ?_⟩
      have g0 : W'.cell? ⟨Y, 0, none⟩ = some (.bool false) := (cells_at hW.1 0).trans rfl
      have g1 : W'.cell? ⟨Y, 1, none⟩ = some (.slice yn ynk ync) := (cells_at hW.1 1).trans rfl
      have g2 : W'.cell? ⟨Y, 2, none⟩ = some (.slice yd ydk ydc) := (cells_at hW.1 2).trans rfl
      have t0 : W'.cell? ⟨X, 0, none⟩ = some (.bool true) := (cells_at hW.2 0).trans rfl
      have t1 : W'.cell? ⟨X, 1, none⟩ = some (.slice xn xnk xnc) := (cells_at hW.2 1).trans rfl
      have t2 : W'.cell? ⟨X, 2, none⟩ = some (.slice xd xdk xdc) := (cells_at hW.2 2).trans rfl
      go_simp
      first
      | rfl
      | (constructor <;> rfl)
    try simp only [Act.put, List.setIfInBounds_toArray, List.set_cons_zero, List.set_cons_succ]
    refine wpAnyD_takeAt 2 (some 41) (v := ?_) rfl (by kernel_rfl) (by kernel_rfl) (by kernel_rfl) (by kernel_rfl) (by kernel_rfl) (fun _ _ _ h => h) (by exact H5.out.1) (fun o hop => ?_) ?_
    rotate_left
    · injection hop with hop
      subst hop
      refine ⟨rfl, fun W' hW => ?_⟩
      have g0 : W'.cell? ⟨Y, 0, none⟩ = some (.bool false) := (cells_at hW.1 0).trans rfl
      have g1 : W'.cell? ⟨Y, 1, none⟩ = some (.slice yn ynk ync) := (cells_at hW.1 1).trans rfl
      have g2 : W'.cell? ⟨Y, 2, none⟩ = some (.slice yd ydk ydc) := (cells_at hW.1 2).trans rfl
      have t0 : W'.cell? ⟨X, 0, none⟩ = some (.bool true) := (cells_at hW.2 0).trans rfl
      have t1 : W'.cell? ⟨X, 1, none⟩ = some (.slice xn xnk xnc) := (cells_at hW.2 1).trans rfl
      have t2 : W'.cell? ⟨X, 2, none⟩ = some (.slice xd xdk xdc) := (cells_at hW.2 2).trans rfl
      go_simp
      first
      | rfl
      | (constructor <;> rfl)
    try simp only [Act.put, List.setIfInBounds_toArray, List.set_cons_zero, List.set_cons_succ]
    refine wpAnyD_takeAt 3 (some 42) (v := ?_) rfl (by kernel_rfl) (by kernel_rfl) (by kernel_rfl) (by kernel_rfl) (by kernel_rfl) (fun _ _ _ h => h) (by exact H5.out.1) (fun o hop => ?_) ?_
    rotate_left
    · injection hop with hop
      subst hop
      refine ⟨rfl, fun W' hW => ?_⟩
      have g0 : W'.cell? ⟨Y, 0, none⟩ = some (.bool false) := (cells_at hW.1 0).trans rfl
      have g1 : W'.cell? ⟨Y, 1, none⟩ = some (.slice yn ynk ync) := (cells_at hW.1 1).trans rfl
      have g2 : W'.cell? ⟨Y, 2, none⟩ = some (.slice yd ydk ydc) := (cells_at hW.1 2).trans rfl
      have t0 : W'.cell? ⟨X, 0, none⟩ = some (.bool true) := (cells_at hW.2 0).trans rfl
      have t1 : W'.cell? ⟨X, 1, none⟩ = some (.slice xn xnk xnc) := (cells_at hW.2 1).trans rfl
      have t2 : W'.cell? ⟨X, 2, none⟩ = some (.slice xd xdk xdc) := (cells_at hW.2 2).trans rfl
      go_simp
      first
      | rfl
      | (constructor <;> rfl)
    try simp only [Act.put, List.setIfInBounds_toArray, List.set_cons_zero, List.set_cons_succ]
    refine wpAnyD_takeAt 5 (some 44) (v := ?_) rfl (by kernel_rfl) (by kernel_rfl) (by kernel_rfl) (by kernel_rfl) (by kernel_rfl) (fun _ _ _ h => h) (by exact H5.out.1) (fun o hop => ?_) ?_
    rotate_left
    · injection hop with hop
      subst hop
      refine ⟨rfl, fun W' hW => ?_⟩
      have g0 : W'.cell? ⟨Y, 0, none⟩ = some (.bool false) := (cells_at hW.1 0).trans rfl
      have g1 : W'.cell? ⟨Y, 1, none⟩ = some (.slice yn ynk ync) := (cells_at hW.1 1).trans rfl
      have g2 : W'.cell? ⟨Y, 2, none⟩ = some (.slice yd ydk ydc) := (cells_at hW.1 2).trans rfl
      have t0 : W'.cell? ⟨X, 0, none⟩ = some (.bool true) := (cells_at hW.2 0).trans rfl
      have t1 : W'.cell? ⟨X, 1, none⟩ = some (.slice xn xnk xnc) := (cells_at hW.2 1).trans rfl
      have t2 : W'.cell? ⟨X, 2, none⟩ = some (.slice xd xdk xdc) := (cells_at hW.2 2).trans rfl
      go_simp
      first
      | rfl
      | (constructor <;> rfl)
    try simp only [Act.put, List.setIfInBounds_toArray, List.set_cons_zero, List.set_cons_succ]
    refine wpAnyT_one (i := 4) (by kernel_rfl) rfl rfl (fun K' hK => ?_)
    go_simp
    go_at_call 80
    refine (natSub_num H5.out.2.2.2.1 H5.out.2.2.2.2.1 HSM.out.1 (Nat.le_of_not_lt HLT.out)).mono ?_
    rintro e z6 ⟨v6, rfl, hn6, _, hb6⟩
    obtain ⟨sa, sk, sc, rfl⟩ := hn6.slice
    have H6 : Hid ((z6.heap[Y]? = some (.cells #[.bool false, .slice yn ynk ync, .slice yd ydk ydc] 113 (0, 0)) ∧ z6.heap[X]? = some (.cells #[.bool true, .slice xn xnk xnc, .slice xd xdk xdc] 113 (0, 0))) ∧ z6.heap[A]? = some (.cells #[.bool false, .slice none 0 0, .slice none 0 0] 113 (0, 0)) ∧ Below w.heap.size w z6) := ⟨⟨(hb6.block Y (ltF H5.out.1.1)).trans H5.out.1.1, (hb6.block X (ltF H5.out.1.2)).trans H5.out.1.2⟩, (hb6.block A (ltF H5.out.2.1)).trans H5.out.2.1, H5.out.2.2.1.trans (hb6.mono H5.out.2.2.1.size)⟩
    have HN6 : Hid (Num z6 (.slice sa sk sc) (n1 * d2 - n2 * d1) ∧ Num z6 (.slice ra rk rc) (d1 * d2)) := ⟨hn6, H5.out.2.2.2.2.2.below hb6 (Nat.le_refl _)⟩
    refine hK.out _ _ (fun _ => H6.out.1) ?_
    clear hK K' hn6 hb6 H5
    try simp only [Act.put, List.setIfInBounds_toArray, List.set_cons_zero, List.set_cons_succ]
    refine wpAnyT_one (i := 6) (by kernel_rfl) rfl rfl (fun K' hK => ?_)
    go_simp
    go_at_call 75
    refine (over_any false HN6.out.1 HN6.out.2 hd (by omega) hM2 hM).mono ?_
    rintro e z7 hq
    obtain ⟨v7, rfl, ⟨na, nk, nc, da, dk, dc, rfl, hn7, hd7⟩, hb7⟩ := hq.at
    have H7 : Hid ((z7.heap[Y]? = some (.cells #[.bool false, .slice yn ynk ync, .slice yd ydk ydc] 113 (0, 0)) ∧ z7.heap[X]? = some (.cells #[.bool true, .slice xn xnk xnc, .slice xd xdk xdc] 113 (0, 0))) ∧ z7.heap[A]? = some (.cells #[.bool false, .slice none 0 0, .slice none 0 0] 113 (0, 0)) ∧ Below w.heap.size w z7) := ⟨⟨(hb7.block Y (ltF H6.out.1.1)).trans H6.out.1.1, (hb7.block X (ltF H6.out.1.2)).trans H6.out.1.2⟩, (hb7.block A (ltF H6.out.2.1)).trans H6.out.2.1, H6.out.2.2.trans (hb7.mono H6.out.2.2.size)⟩
    have HN7 : Hid (Num z7 (.slice na nk nc) ((n1 * d2 - n2 * d1) / Nat.gcd (n1 * d2 - n2 * d1) (d1 * d2)) ∧ Num z7 (.slice da dk dc) ((d1 * d2) / Nat.gcd (n1 * d2 - n2 * d1) (d1 * d2))) := ⟨hn7, hd7⟩
    refine hK.out _ _ (fun _ => H7.out.1) ?_
    clear hK K' hn7 hd7 hb7 H6 HN6 hq
    try simp only [Act.put, List.setIfInBounds_toArray, List.set_cons_zero, List.set_cons_succ]
    obtain ⟨ng, HNG⟩ : ∃ x, Hid (x = (false && decide ((n1 * d2 - n2 * d1) ≠ 0))) := ⟨_, rfl⟩
    rw [← HNG.out]
    have HEz := hide' (H7.out.2.1)
    have b0 : z7.cell? ⟨A, 0, none⟩ = some (.bool false) := (cells_at HEz.out 0).trans rfl
    have b1 : z7.cell? ⟨A, 1, none⟩ = some (.slice none 0 0) := (cells_at HEz.out 1).trans rfl
    have b2 : z7.cell? ⟨A, 2, none⟩ = some (.slice none 0 0) := (cells_at HEz.out 2).trans rfl
    have e0 : z7.frozen? ⟨A, 0, none⟩ = false := frozen_no HEz.out _
    have e1 : z7.frozen? ⟨A, 1, none⟩ = false := frozen_no HEz.out _
    have e2 : z7.frozen? ⟨A, 2, none⟩ = false := frozen_no HEz.out _
    have HP := hide' (put3 HEz.out (.bool ng) (.slice na nk nc) (.slice da dk dc))
    have HFN : Hid (Num (((z7.setCell ⟨A, 0, none⟩ (.bool ng)).setCell ⟨A, 1, none⟩ (.slice na nk nc)).setCell ⟨A, 2, none⟩ (.slice da dk dc)) (.slice na nk nc) (((n1 * d2 - n2 * d1) / Nat.gcd (n1 * d2 - n2 * d1) (d1 * d2))) ∧ Num (((z7.setCell ⟨A, 0, none⟩ (.bool ng)).setCell ⟨A, 1, none⟩ (.slice na nk nc)).setCell ⟨A, 2, none⟩ (.slice da dk dc)) (.slice da dk dc) (((d1 * d2) / Nat.gcd (n1 * d2 - n2 * d1) (d1 * d2))) ∧ Below w.heap.size w (((z7.setCell ⟨A, 0, none⟩ (.bool ng)).setCell ⟨A, 1, none⟩ (.slice na nk nc)).setCell ⟨A, 2, none⟩ (.slice da dk dc))) := ⟨(HN7.out.1).but (noint HEz.out) HP.out.2, (HN7.out.2).but (noint HEz.out) HP.out.2, ((H7.out.2.2.setCell (p := ⟨A, 0, none⟩) HNE.out.2.2.1 _).setCell (p := ⟨A, 1, none⟩) HNE.out.2.2.1 _).setCell (p := ⟨A, 2, none⟩) HNE.out.2.2.1 _⟩
    clear H7 HN7
    refine wpAnyT_one (i := 7) (by kernel_rfl) rfl rfl (fun K' hK => ?_)
    go_simp
    refine hK.out _ _ (fun h => absurd rfl h) ?_
    clear hK K'
    try simp only [Act.put, List.setIfInBounds_toArray, List.set_cons_zero, List.set_cons_succ]
    refine wpAnyT_done (by kernel_rfl) ?_ _
    go_wp2
    refine bodyPost_ret (results_cell_row rfl _ _ A 113 _ (0, 0) _ rfl HP.out.1 Try.underlying113 rfl (by kernel_rfl)) rfl ?_
    have hlt := HLT.out
    have hng : ng = false := HNG.out
    subst hng
    exact ⟨_, _, ⟨_, _, by rw [decide_eq_false hlt], HFN.out.1, HFN.out.2.1, HFN.out.2.2⟩, by rw [gcd_nought hd]; omega⟩
end Go.Proofs.Ytmbgjmkndhjilak
