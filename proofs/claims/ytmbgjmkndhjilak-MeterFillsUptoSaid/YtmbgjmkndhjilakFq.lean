/- Fractions: one less another, compared, rounded down. -/
import Derived.Test.YtmbgjmkndhjilakFp
namespace Go.Proofs.Ytmbgjmkndhjilak
open Go.RowKit Go.Shelf

set_option maxRecDepth 100000 in
set_option maxHeartbeats 4000000 in
theorem QSub_pos {n1 d1 n2 d2 M : Nat} {u v : Value} {w : World} (hu : QAt w u false n1 d1) (hv : QAt w v false n2 d2) (hn2 : 0 < n2) (s1 : Small n1) (s2 : Small d1) (s3 : Small n2) (s4 : Small d2) (hd : 0 < d1 * d2) (hM1 : n1 * d2 + n2 * d1 ≤ M) (hM2 : d1 * d2 ≤ M) (hM : Small (M * 10000)) : Calls Try.prog 82 #[u, v] w fun e w' => ∃ n d, QR (decide (n1 * d2 < n2 * d1)) n d w e w' ∧ (n = 0 ↔ n1 * d2 = n2 * d1) := by
  have HU := hide' hu
  have HV := hide' hv
  obtain ⟨yn, ynk, ync, yd, ydk, ydc, rfl, _, _⟩ := hu
  obtain ⟨xn, xnk, xnc, xd, xdk, xdc, rfl, _, _⟩ := hv
  go_enter Try.func82, Try.ntmps82
  go_upto_region 1 with fail
  have hqY := (alloc_old ((w.alloc (.cells #[.bool false, .slice yn ynk ync, .slice yd ydk ydc] 113)).alloc (.cells #[.bool false, .slice xn xnk xnc, .slice xd xdk xdc] 113)) (.cells #[.bool false, .slice none 0 0, .slice none 0 0] 113) (lt_heap ((alloc_old (w.alloc (.cells #[.bool false, .slice yn ynk ync, .slice yd ydk ydc] 113)) (.cells #[.bool false, .slice xn xnk xnc, .slice xd xdk xdc] 113) (lt_heap (alloc_new w (.cells #[.bool false, .slice yn ynk ync, .slice yd ydk ydc] 113)))).trans (alloc_new w (.cells #[.bool false, .slice yn ynk ync, .slice yd ydk ydc] 113))))).trans ((alloc_old (w.alloc (.cells #[.bool false, .slice yn ynk ync, .slice yd ydk ydc] 113)) (.cells #[.bool false, .slice xn xnk xnc, .slice xd xdk xdc] 113) (lt_heap (alloc_new w (.cells #[.bool false, .slice yn ynk ync, .slice yd ydk ydc] 113)))).trans (alloc_new w (.cells #[.bool false, .slice yn ynk ync, .slice yd ydk ydc] 113)))
  have hqX := (alloc_old ((w.alloc (.cells #[.bool false, .slice yn ynk ync, .slice yd ydk ydc] 113)).alloc (.cells #[.bool false, .slice xn xnk xnc, .slice xd xdk xdc] 113)) (.cells #[.bool false, .slice none 0 0, .slice none 0 0] 113) (lt_heap (alloc_new (w.alloc (.cells #[.bool false, .slice yn ynk ync, .slice yd ydk ydc] 113)) (.cells #[.bool false, .slice xn xnk xnc, .slice xd xdk xdc] 113)))).trans (alloc_new (w.alloc (.cells #[.bool false, .slice yn ynk ync, .slice yd ydk ydc] 113)) (.cells #[.bool false, .slice xn xnk xnc, .slice xd xdk xdc] 113))
  have hqA := alloc_new ((w.alloc (.cells #[.bool false, .slice yn ynk ync, .slice yd ydk ydc] 113)).alloc (.cells #[.bool false, .slice xn xnk xnc, .slice xd xdk xdc] 113)) (.cells #[.bool false, .slice none 0 0, .slice none 0 0] 113)
  have hb1 := ((below_al w (.cells #[.bool false, .slice yn ynk ync, .slice yd ydk ydc] 113)).alloc (below_al w (.cells #[.bool false, .slice yn ynk ync, .slice yd ydk ydc] 113)).size (.cells #[.bool false, .slice xn xnk xnc, .slice xd xdk xdc] 113)).alloc ((below_al w (.cells #[.bool false, .slice yn ynk ync, .slice yd ydk ydc] 113)).alloc (below_al w (.cells #[.bool false, .slice yn ynk ync, .slice yd ydk ydc] 113)).size (.cells #[.bool false, .slice xn xnk xnc, .slice xd xdk xdc] 113)).size (.cells #[.bool false, .slice none 0 0, .slice none 0 0] 113)
  rw [show (w.alloc (.cells #[.bool false, .slice yn ynk ync, .slice yd ydk ydc] 113)).heap.size = w.heap.size + 1 from by simp only [World.size_alloc]] at hqX
  rw [show ((w.alloc (.cells #[.bool false, .slice yn ynk ync, .slice yd ydk ydc] 113)).alloc (.cells #[.bool false, .slice xn xnk xnc, .slice xd xdk xdc] 113)).heap.size = w.heap.size + 1 + 1 from by simp only [World.size_alloc]] at hqA
  obtain ⟨w1, hw1⟩ : ∃ x, x = (((w.alloc (.cells #[.bool false, .slice yn ynk ync, .slice yd ydk ydc] 113)).alloc (.cells #[.bool false, .slice xn xnk xnc, .slice xd xdk xdc] 113)).alloc (.cells #[.bool false, .slice none 0 0, .slice none 0 0] 113)) := ⟨_, rfl⟩
  rw [← hw1] at hqY hqX hqA hb1 ⊢
  obtain ⟨Y, hnY⟩ : ∃ x, x = w.heap.size := ⟨_, rfl⟩
  obtain ⟨X, hnX⟩ : ∃ x, x = w.heap.size + 1 := ⟨_, rfl⟩
  obtain ⟨A, hnA⟩ : ∃ x, x = w.heap.size + 1 + 1 := ⟨_, rfl⟩
  have HNE : Hid (w.heap.size ≤ Y ∧ w.heap.size ≤ X ∧ w.heap.size ≤ A ∧ Y ≠ X ∧ Y ≠ A ∧ X ≠ A) := ⟨by omega, by omega, by omega, by omega, by omega, by omega⟩
  rw [← hnY] at hqY
  rw [← hnX] at hqX
  rw [← hnA] at hqA
  rw [show (Value.pointer (some { block := w.heap.size, off := 0 })) = Value.pointer (some { block := Y, off := 0 }) by rw [hnY], show (Value.pointer (some { block := w.heap.size + 1, off := 0 })) = Value.pointer (some { block := X, off := 0 }) by rw [hnX], show (Value.pointer (some { block := w.heap.size + 1 + 1, off := 0 })) = Value.pointer (some { block := A, off := 0 }) by rw [hnA]]
  have HQY := hide' hqY
  have HQX := hide' hqX
  have HQA := hide' hqA
  have HB1 := hide' hb1
  clear hqY hqX hqA hb1 hw1 hnY hnX hnA
  have HS1 : Hid (w1.drew.heap[Y]? = some (.cells #[.bool false, .slice yn ynk ync, .slice yd ydk ydc] 113 (0, 0)) ∧ w1.drew.heap[X]? = some (.cells #[.bool false, .slice xn xnk xnc, .slice xd xdk xdc] 113 (0, 0))) := ⟨HQY.out, HQX.out⟩
  have HAd : Hid (w1.drew.heap[A]? = some (.cells #[.bool false, .slice none 0 0, .slice none 0 0] 113 (0, 0))) := HQA.out
  have HBd : Hid (Below w.heap.size w w1.drew) := HB1.out.trans ((Below.refl _ w1).drew.mono HB1.out.size)
  clear HQY HQX HQA HB1
  refine wp_region_tail (fun W' => W'.heap[Y]? = some (.cells #[.bool false, .slice yn ynk ync, .slice yd ydk ydc] 113 (0, 0)) ∧ W'.heap[X]? = some (.cells #[.bool false, .slice xn xnk xnc, .slice xd xdk xdc] 113 (0, 0))) 4 (by kernel_rfl) ?_
  refine wpAnyT_letter (fun q => Hid ((q.heap[Y]? = some (.cells #[.bool false, .slice yn ynk ync, .slice yd ydk ydc] 113 (0, 0)) ∧ q.heap[X]? = some (.cells #[.bool false, .slice xn xnk xnc, .slice xd xdk xdc] 113 (0, 0))) ∧ q.heap[A]? = some (.cells #[.bool false, .slice none 0 0, .slice none 0 0] 113 (0, 0)) ∧ Below w.heap.size w q)) ⟨HS1.out, HAd.out, HBd.out⟩ ?_
  clear HS1 HAd HBd
  intro z H0
  refine wpAnyD_takeAt 0 (some 5) (v := ?_) rfl (by kernel_rfl) (by kernel_rfl) (by kernel_rfl) (by kernel_rfl) (by kernel_rfl) (fun _ _ _ h => h) (by exact H0.out.1) (fun o hop => ?_) ?_
  rotate_left
  · injection hop with hop
    subst hop
    refine ⟨rfl, fun W' hW => ?_⟩
    have g0 : W'.cell? ⟨Y, 0, none⟩ = some (.bool false) := (cells_at hW.1 0).trans rfl
    have g1 : W'.cell? ⟨Y, 1, none⟩ = some (.slice yn ynk ync) := (cells_at hW.1 1).trans rfl
    have g2 : W'.cell? ⟨Y, 2, none⟩ = some (.slice yd ydk ydc) := (cells_at hW.1 2).trans rfl
    have t0 : W'.cell? ⟨X, 0, none⟩ = some (.bool false) := (cells_at hW.2 0).trans rfl
    have t1 : W'.cell? ⟨X, 1, none⟩ = some (.slice xn xnk xnc) := (cells_at hW.2 1).trans rfl
    have t2 : W'.cell? ⟨X, 2, none⟩ = some (.slice xd xdk xdc) := (cells_at hW.2 2).trans rfl
    go_simp
    first
    | rfl
    | (constructor <;> rfl)
  try simp only [Act.put, List.setIfInBounds_toArray, List.set_cons_zero, List.set_cons_succ]
  refine wpAnyD_takeAt 1 (some 6) (v := ?_) rfl (by kernel_rfl) (by kernel_rfl) (by kernel_rfl) (by kernel_rfl) (by kernel_rfl) (fun _ _ _ h => h) (by exact H0.out.1) (fun o hop => ?_) ?_
  rotate_left
  · injection hop with hop
    subst hop
    refine ⟨rfl, fun W' hW => ?_⟩
    have g0 : W'.cell? ⟨Y, 0, none⟩ = some (.bool false) := (cells_at hW.1 0).trans rfl
    have g1 : W'.cell? ⟨Y, 1, none⟩ = some (.slice yn ynk ync) := (cells_at hW.1 1).trans rfl
    have g2 : W'.cell? ⟨Y, 2, none⟩ = some (.slice yd ydk ydc) := (cells_at hW.1 2).trans rfl
    have t0 : W'.cell? ⟨X, 0, none⟩ = some (.bool false) := (cells_at hW.2 0).trans rfl
    have t1 : W'.cell? ⟨X, 1, none⟩ = some (.slice xn xnk xnc) := (cells_at hW.2 1).trans rfl
    have t2 : W'.cell? ⟨X, 2, none⟩ = some (.slice xd xdk xdc) := (cells_at hW.2 2).trans rfl
    go_simp
    first
    | rfl
    | (constructor <;> rfl)
  try simp only [Act.put, List.setIfInBounds_toArray, List.set_cons_zero, List.set_cons_succ]
  refine wpAnyT_one (i := 2) (by kernel_rfl) rfl rfl (fun K' hK => ?_)
  go_simp
  go_at_call 86
  refine (QNeg_pos (HV.out.below H0.out.2.2 (Nat.le_refl _)) hn2).mono ?_
  rintro e z2 hq2
  obtain ⟨v2, rfl, hv2, hb2⟩ := hq2.at
  have H2 : Hid ((z2.heap[Y]? = some (.cells #[.bool false, .slice yn ynk ync, .slice yd ydk ydc] 113 (0, 0)) ∧ z2.heap[X]? = some (.cells #[.bool false, .slice xn xnk xnc, .slice xd xdk xdc] 113 (0, 0))) ∧ z2.heap[A]? = some (.cells #[.bool false, .slice none 0 0, .slice none 0 0] 113 (0, 0)) ∧ Below w.heap.size w z2) := ⟨⟨(hb2.block Y (ltF H0.out.1.1)).trans H0.out.1.1, (hb2.block X (ltF H0.out.1.2)).trans H0.out.1.2⟩, (hb2.block A (ltF H0.out.2.1)).trans H0.out.2.1, H0.out.2.2.trans (hb2.mono H0.out.2.2.size)⟩
  have HQ2 := hide' hv2
  obtain ⟨ma, mk, mc, ea, ek, ec, rfl, _, _⟩ := hv2
  refine hK.out _ _ (fun _ => H2.out.1) ?_
  clear hK K' hq2 hb2 H0
  try simp only [Act.put, List.setIfInBounds_toArray, List.set_cons_zero, List.set_cons_succ]
  refine wpAnyT_one (i := 3) (by kernel_rfl) rfl rfl (fun K' hK => ?_)
  go_simp
  go_at_call 69
  refine (QAdd_pn (HU.out.below H2.out.2.2 (Nat.le_refl _)) HQ2.out s1 s2 s3 s4 hd hM1 hM2 hM).mono ?_
  rintro e z4 ⟨rn, rd, hq4, hiff⟩
  obtain ⟨v4, rfl, ⟨na, nk, nc, da, dk, dc, rfl, hn4, hd4⟩, hb4⟩ := hq4.at
  have H4 : Hid ((z4.heap[Y]? = some (.cells #[.bool false, .slice yn ynk ync, .slice yd ydk ydc] 113 (0, 0)) ∧ z4.heap[X]? = some (.cells #[.bool false, .slice xn xnk xnc, .slice xd xdk xdc] 113 (0, 0))) ∧ z4.heap[A]? = some (.cells #[.bool false, .slice none 0 0, .slice none 0 0] 113 (0, 0)) ∧ Below w.heap.size w z4) := ⟨⟨(hb4.block Y (ltF H2.out.1.1)).trans H2.out.1.1, (hb4.block X (ltF H2.out.1.2)).trans H2.out.1.2⟩, (hb4.block A (ltF H2.out.2.1)).trans H2.out.2.1, H2.out.2.2.trans (hb4.mono H2.out.2.2.size)⟩
  have HN4 : Hid (Num z4 (.slice na nk nc) rn ∧ Num z4 (.slice da dk dc) rd) := ⟨hn4, hd4⟩
  have HIF := hide' hiff
  refine hK.out _ _ (fun _ => H4.out.1) ?_
  clear hK K' hn4 hd4 hb4 H2 HQ2 hq4 hiff HU HV
  try simp only [Act.put, List.setIfInBounds_toArray, List.set_cons_zero, List.set_cons_succ]
  obtain ⟨ng, HNG⟩ : ∃ x, Hid (x = decide (n1 * d2 < n2 * d1)) := ⟨_, rfl⟩
  rw [← HNG.out]
  have HEz := hide' (H4.out.2.1)
  have b0 : z4.cell? ⟨A, 0, none⟩ = some (.bool false) := (cells_at HEz.out 0).trans rfl
  have b1 : z4.cell? ⟨A, 1, none⟩ = some (.slice none 0 0) := (cells_at HEz.out 1).trans rfl
  have b2 : z4.cell? ⟨A, 2, none⟩ = some (.slice none 0 0) := (cells_at HEz.out 2).trans rfl
  have e0 : z4.frozen? ⟨A, 0, none⟩ = false := frozen_no HEz.out _
  have e1 : z4.frozen? ⟨A, 1, none⟩ = false := frozen_no HEz.out _
  have e2 : z4.frozen? ⟨A, 2, none⟩ = false := frozen_no HEz.out _
  have HP := hide' (put3 HEz.out (.bool ng) (.slice na nk nc) (.slice da dk dc))
  have HFN : Hid (Num (((z4.setCell ⟨A, 0, none⟩ (.bool ng)).setCell ⟨A, 1, none⟩ (.slice na nk nc)).setCell ⟨A, 2, none⟩ (.slice da dk dc)) (.slice na nk nc) rn ∧ Num (((z4.setCell ⟨A, 0, none⟩ (.bool ng)).setCell ⟨A, 1, none⟩ (.slice na nk nc)).setCell ⟨A, 2, none⟩ (.slice da dk dc)) (.slice da dk dc) rd ∧ Below w.heap.size w (((z4.setCell ⟨A, 0, none⟩ (.bool ng)).setCell ⟨A, 1, none⟩ (.slice na nk nc)).setCell ⟨A, 2, none⟩ (.slice da dk dc))) := ⟨(HN4.out.1).but (noint HEz.out) HP.out.2, (HN4.out.2).but (noint HEz.out) HP.out.2, ((H4.out.2.2.setCell (p := ⟨A, 0, none⟩) HNE.out.2.2.1 _).setCell (p := ⟨A, 1, none⟩) HNE.out.2.2.1 _).setCell (p := ⟨A, 2, none⟩) HNE.out.2.2.1 _⟩
  clear H4 HN4
  refine wpAnyT_one (i := 4) (by kernel_rfl) rfl rfl (fun K' hK => ?_)
  go_simp
  refine hK.out _ _ (fun h => absurd rfl h) ?_
  clear hK K'
  try simp only [Act.put, List.setIfInBounds_toArray, List.set_cons_zero, List.set_cons_succ]
  refine wpAnyT_done (by kernel_rfl) ?_ _
  go_wp2
  refine bodyPost_ret (results_cell_row rfl _ _ A 113 _ (0, 0) _ rfl HP.out.1 Try.underlying113 rfl (by kernel_rfl)) rfl ?_
  exact ⟨_, _, ⟨_, _, by rw [← HNG.out], HFN.out.1, HFN.out.2.1, HFN.out.2.2⟩, HIF.out⟩
set_option maxRecDepth 100000 in
set_option maxHeartbeats 4000000 in
theorem QCmp_pos {n1 d1 n2 d2 M : Nat} {u v : Value} {w : World} (hu : QAt w u false n1 d1) (hv : QAt w v false n2 d2) (hn2 : 0 < n2) (s1 : Small n1) (s2 : Small d1) (s3 : Small n2) (s4 : Small d2) (hd : 0 < d1 * d2) (hM1 : n1 * d2 + n2 * d1 ≤ M) (hM2 : d1 * d2 ≤ M) (hM : Small (M * 10000)) : Calls Try.prog 71 #[u, v] w (CmpR (cmpN (n1 * d2) (n2 * d1)) w) := by
  have HQS := hide' (fun z (hb : Below w.heap.size w z) => QSub_pos (hu.below hb (Nat.le_refl _)) (hv.below hb (Nat.le_refl _)) hn2 s1 s2 s3 s4 hd hM1 hM2 hM)
  obtain ⟨yn, ynk, ync, yd, ydk, ydc, rfl, _, _⟩ := hu
  obtain ⟨xn, xnk, xnc, xd, xdk, xdc, rfl, _, _⟩ := hv
  obtain ⟨PQ, HPQ⟩ : ∃ q, Hid (q = cmpN (n1 * d2) (n2 * d1)) := ⟨_, rfl⟩
  rw [← HPQ.out]
  go_enter Try.func71, Try.ntmps71
  go_upto_region 1 with fail
  have hqY := (alloc_old (w.alloc (.cells #[.bool false, .slice yn ynk ync, .slice yd ydk ydc] 113)) (.cells #[.bool false, .slice xn xnk xnc, .slice xd xdk xdc] 113) (lt_heap (alloc_new w (.cells #[.bool false, .slice yn ynk ync, .slice yd ydk ydc] 113)))).trans (alloc_new w (.cells #[.bool false, .slice yn ynk ync, .slice yd ydk ydc] 113))
  have hqX := alloc_new (w.alloc (.cells #[.bool false, .slice yn ynk ync, .slice yd ydk ydc] 113)) (.cells #[.bool false, .slice xn xnk xnc, .slice xd xdk xdc] 113)
  have hb1 := (below_al w (.cells #[.bool false, .slice yn ynk ync, .slice yd ydk ydc] 113)).alloc (below_al w (.cells #[.bool false, .slice yn ynk ync, .slice yd ydk ydc] 113)).size (.cells #[.bool false, .slice xn xnk xnc, .slice xd xdk xdc] 113)
  rw [show (w.alloc (.cells #[.bool false, .slice yn ynk ync, .slice yd ydk ydc] 113)).heap.size = w.heap.size + 1 from by simp only [World.size_alloc]] at hqX
  obtain ⟨w1, hw1⟩ : ∃ x, x = ((w.alloc (.cells #[.bool false, .slice yn ynk ync, .slice yd ydk ydc] 113)).alloc (.cells #[.bool false, .slice xn xnk xnc, .slice xd xdk xdc] 113)) := ⟨_, rfl⟩
  rw [← hw1] at hqY hqX hb1 ⊢
  obtain ⟨Y, hnY⟩ : ∃ x, x = w.heap.size := ⟨_, rfl⟩
  obtain ⟨X, hnX⟩ : ∃ x, x = w.heap.size + 1 := ⟨_, rfl⟩
  have HNE : Hid (w.heap.size ≤ Y ∧ w.heap.size ≤ X ∧ Y ≠ X) := ⟨by omega, by omega, by omega⟩
  rw [← hnY] at hqY
  rw [← hnX] at hqX
  rw [show (Value.pointer (some { block := w.heap.size, off := 0 })) = Value.pointer (some { block := Y, off := 0 }) by rw [hnY], show (Value.pointer (some { block := w.heap.size + 1, off := 0 })) = Value.pointer (some { block := X, off := 0 }) by rw [hnX]]
  have HQY := hide' hqY
  have HQX := hide' hqX
  have HB1 := hide' hb1
  clear hqY hqX hb1 hw1 hnY hnX
  have c0 : w1.cell? ⟨Y, 0, none⟩ = some (.bool false) := (cells_at HQY.out 0).trans rfl
  have c1 : w1.cell? ⟨Y, 1, none⟩ = some (.slice yn ynk ync) := (cells_at HQY.out 1).trans rfl
  have c2 : w1.cell? ⟨Y, 2, none⟩ = some (.slice yd ydk ydc) := (cells_at HQY.out 2).trans rfl
  have k0 : w1.cell? ⟨X, 0, none⟩ = some (.bool false) := (cells_at HQX.out 0).trans rfl
  have k1 : w1.cell? ⟨X, 1, none⟩ = some (.slice xn xnk xnc) := (cells_at HQX.out 1).trans rfl
  have k2 : w1.cell? ⟨X, 2, none⟩ = some (.slice xd xdk xdc) := (cells_at HQX.out 2).trans rfl
  clear HQY HQX
  go_wp2_with fail
  refine (HQS.out w1 HB1.out).mono ?_
  rintro e z4 ⟨rn, rd, hq4, hiff⟩
  obtain ⟨v4, rfl, hv4, hb4⟩ := hq4.at
  have HSG := hide' (QSign_any hv4)
  obtain ⟨na, nk, nc, da, dk, dc, rfl, _, _⟩ := hv4
  have HB4 : Hid (Below w.heap.size w z4) := HB1.out.trans (hb4.mono HB1.out.size)
  have HSE : Hid (signQ (decide (n1 * d2 < n2 * d1)) rn = PQ) := by
    show _ = _
    rw [HPQ.out]
    unfold signQ
    by_cases h0 : rn = 0
    · rw [if_pos h0, cmp_eq (hiff.1 h0)]
    · have hne : ¬ n1 * d2 = n2 * d1 := fun q => h0 (hiff.2 q)
      rw [if_neg h0]
      by_cases hlt : n1 * d2 < n2 * d1
      · rw [decide_eq_true hlt, cmp_lt hlt]
        rfl
      · rw [decide_eq_false hlt, cmp_gt (by omega)]
        rfl
  rw [HSE.out] at HSG
  clear HQS HB1 hq4 hiff hb4 HSE c0 c1 c2 k0 k1 k2
  go_wp2_with fail
  refine HSG.out.mono ?_
  rintro e z5 ⟨rfl, hb5⟩
  have HB5 : Hid (Below w.heap.size w z5) := HB4.out.trans (hb5.mono HB4.out.size)
  clear hb5 HSG HB4
  go_wp2
  go_ret
  exact ⟨rfl, HB5.out⟩
theorem drop_le (l : List Nat) (k : Nat) : valN (l.drop k) ≤ valN l := by
  by_cases h : k < l.length
  · have e := val_top h
    have h1 : 1 * valN (l.drop k) ≤ 10000 ^ k * valN (l.drop k) := Nat.mul_le_mul_right _ (Nat.pow_pos (by decide))
    omega
  · rw [List.drop_of_length_le (by omega)]
    exact Nat.zero_le _
set_option maxRecDepth 100000 in
set_option maxHeartbeats 4000000 in
theorem QFloor_pos {n d : Nat} {v : Value} {w : World} (hv : QAt w v false n d) (hd : 0 < d) (s1 : Small n) (s2 : Small (d * 10000)) (hq : n / d ≤ 4294967295) : Calls Try.prog 72 #[v] w (CmpR ((n / d : Nat) : Int) w) := by
  obtain ⟨na, nk, nc, da, dk, dc, rfl, h1, h2⟩ := hv
  have HDV := hide' (fun z (hb : Below w.heap.size w z) => natDiv_num (h1.below hb (Nat.le_refl _)) (h2.below hb (Nat.le_refl _)) s1 hd s2)
  clear h1 h2
  obtain ⟨Q, hQ⟩ : ∃ Q, Q = n / d := ⟨_, rfl⟩
  rw [← hQ] at hq ⊢
  unfold DivR at HDV
  rw [← hQ] at HDV
  clear hQ
  go_enter Try.func72, Try.ntmps72
  go_upto_region 1 with fail
  have hqY := alloc_new w (.cells #[.bool false, .slice na nk nc, .slice da dk dc] 113)
  have hb1 := below_al w (.cells #[.bool false, .slice na nk nc, .slice da dk dc] 113)
  obtain ⟨w1, hw1⟩ : ∃ x, x = (w.alloc (.cells #[.bool false, .slice na nk nc, .slice da dk dc] 113)) := ⟨_, rfl⟩
  rw [← hw1] at hqY hb1 ⊢
  obtain ⟨Y, hnY⟩ : ∃ x, x = w.heap.size := ⟨_, rfl⟩
  have HNE : Hid (w.heap.size ≤ Y) := by show _ ≤ _; omega
  rw [← hnY] at hqY
  rw [show (Value.pointer (some { block := w.heap.size, off := 0 })) = Value.pointer (some { block := Y, off := 0 }) by rw [hnY]]
  have HQY := hide' hqY
  have HB1 := hide' hb1
  clear hqY hb1 hw1 hnY
  have c0 : w1.cell? ⟨Y, 0, none⟩ = some (.bool false) := (cells_at HQY.out 0).trans rfl
  have c1 : w1.cell? ⟨Y, 1, none⟩ = some (.slice na nk nc) := (cells_at HQY.out 1).trans rfl
  have c2 : w1.cell? ⟨Y, 2, none⟩ = some (.slice da dk dc) := (cells_at HQY.out 2).trans rfl
  go_wp2_with fail
  refine (HDV.out w1 HB1.out).mono ?_
  rintro e z ⟨qv, rv, rfl, hn1, _, hb2⟩
  obtain ⟨l, qa, qc, hcan, hval, rfl, hrow, hl100⟩ := hn1.parts (small_9 (by omega))
  have HRW := hide' hrow
  have HY2 := hide' ((hb2.block Y (ltF HQY.out)).trans HQY.out)
  have HB2 : Hid (Below w.heap.size w z) := HB1.out.trans (hb2.mono HB1.out.size)
  have y0 : z.cell? ⟨Y, 0, none⟩ = some (.bool false) := (cells_at HY2.out 0).trans rfl
  have HDG := hide' hcan.dg
  have HVL := hide' hval
  clear hn1 hrow hcan hval hb2 HQY HB1 HDV c0 c1 c2 HY2
  go_wp2_with fail
  go_loopw [5, 6] (fun nv iv wr => ∃ (k m : Nat), nv = .int .i64 m ∧ iv = .int .i64 ((k : Int) - 1) ∧ k ≤ l.length ∧ Hid (m = valN (l.drop k)) ∧ wr = z) (fun _ iv _ => (intOf iv + 1).toNat)
  case atStart => exact ⟨l.length, 0, rfl, rfl, Nat.le_refl _, (by show _ = _; rw [List.drop_of_length_le (Nat.le_refl _)]; rfl), rfl⟩
  case round =>
    obtain ⟨k, m, rfl, rfl, hk, HMV, rfl⟩ := hrel
    by_cases h0 : k = 0
    · subst h0
      obtain rfl : m = Q := by rw [HMV.out, List.drop_zero]; exact HVL.out
      clear HMV
      go_wp2_with fail
      go_ret
      exact ⟨rfl, HB2.out⟩
    · obtain ⟨j, rfl⟩ : ∃ j, k = j + 1 := ⟨k - 1, by omega⟩
      rw [show ((j + 1 : Nat) : Int) - 1 = (j : Int) by omega]
      obtain ⟨b1, o1, c1, ex1, hc1⟩ := dg_cell HRW.out j (by omega)
      cases ex1
      have hx1 := dgs_get HDG.out j
      have hnx : l.getD j 0 + 10000 * m = valN (l.drop j) := by rw [drop_val (by omega), HMV.out]
      have hnb := drop_le l j
      rw [HVL.out] at hnb
      obtain ⟨x, hx⟩ : ∃ x, x = l.getD j 0 := ⟨_, rfl⟩
      rw [← hx] at hc1 hx1 hnx
      obtain ⟨t, ht⟩ : ∃ t, t = valN (l.drop j) := ⟨_, rfl⟩
      have HT := hide' ht
      rw [← ht] at hnx hnb
      have HTI : Hid ((m : Int) * 10000 + (x : Int) = (t : Int)) := by show _ = _; omega
      clear hx ht HMV h0
      go_wp2_with fail
      go_roundw
      case rel => exact ⟨j, t, by rw [← HTI.out]; try rfl, by go_num, by omega, HT.out, trivial⟩
      case measure => simp only [intOf]; omega
end Go.Proofs.Ytmbgjmkndhjilak
