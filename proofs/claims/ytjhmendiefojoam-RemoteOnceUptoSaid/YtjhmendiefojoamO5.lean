/- What a master may be. -/
import Derived.Test.YtjhmendiefojoamYc
import Derived.Test.YtjhmendiefojoamO4
namespace Go.Proofs.Ytjhmendiefojoam
open Go.RowKit Go.Shelf

set_option maxRecDepth 100000 in
set_option maxHeartbeats 2000000 in
theorem mayBe_rest (M : MaM) (w : World) (hm : M.May) (hr : M = M.rest) : Calls Try.prog 28 #[.agg M.cells] w fun e w' => e = .returned (.bool true) ∧ Below w.heap.size w w' := by
  have HBO := hide' (fun w' => bounded_yes M w' hm.pat hm.lim)
  have HWI := hide' (within_any M.no 0 1000000001)
  rw [decide_eq_true hm.no.1, decide_eq_true hm.no.2] at HWI
  have HAR := hide' (atRest_any M)
  rw [← hr] at HAR
  clear hm hr
  obtain ⟨no, ph, now, pt, want, timer, pat, tries, lim, gave⟩ := M

  unfold MaM.cells at HBO HAR ⊢
  simp only at HBO HWI HAR ⊢

  go_enter Try.func28, Try.ntmps28
  go_upto_region 1 with fail
  have hqY := alloc_new w (.cells #[.int .i64 no, .int .i64 ph, .int .i64 now, .int .i64 pt, .bool want, .int .i64 timer, .int .i64 pat, .int .i64 tries, .int .i64 lim, .bool gave] 32)
  have hb1 := below_al w (.cells #[.int .i64 no, .int .i64 ph, .int .i64 now, .int .i64 pt, .bool want, .int .i64 timer, .int .i64 pat, .int .i64 tries, .int .i64 lim, .bool gave] 32)
  obtain ⟨w1, hw1⟩ : ∃ x, x = (w.alloc (.cells #[.int .i64 no, .int .i64 ph, .int .i64 now, .int .i64 pt, .bool want, .int .i64 timer, .int .i64 pat, .int .i64 tries, .int .i64 lim, .bool gave] 32)) := ⟨_, rfl⟩
  rw [← hw1] at hqY hb1 ⊢
  obtain ⟨Y, hnY⟩ : ∃ x, x = w.heap.size := ⟨_, rfl⟩
  have HNE : Hid (w.heap.size ≤ Y) := by show _ ≤ _; omega
  rw [← hnY] at hqY
  rw [show (Value.pointer (some { block := w.heap.size, off := 0 })) = Value.pointer (some { block := Y, off := 0 }) by rw [hnY]]
  have HQY := hide' hqY
  have HB1 := hide' hb1
  clear hqY hb1 hw1 hnY
  obtain ⟨c0, c1, c2, c3, c4, c5, c6, c7, c8, c9⟩ := cellsP10 HQY.out
  go_wp2_with fail
  refine (HBO.out _).mono ?_
  rintro e w2 ⟨rfl, hb2⟩
  have HQ2 := hide' ((hb2.block Y (lt_heap HQY.out)).trans HQY.out)
  have HB2 : Hid (Below w.heap.size w w2) := HB1.out.trans (hb2.mono HB1.out.size)
  clear hb2 HQY HB1 HBO c0 c1 c2 c3 c4 c5 c6 c7 c8 c9
  obtain ⟨c0, c1, c2, c3, c4, c5, c6, c7, c8, c9⟩ := cellsP10 HQ2.out
  go_wp2_with fail
  refine (HWI.out _).mono ?_
  rintro e w3 ⟨rfl, rfl⟩
  have HB3 := hide' HB2.out
  have HS := hide' HQ2.out
  go_upto_region 3 with fail
  refine wp_region_tail (fun W' => W'.heap[Y]? = some (.cells #[.int .i64 no, .int .i64 ph, .int .i64 now, .int .i64 pt, .bool want, .int .i64 timer, .int .i64 pat, .int .i64 tries, .int .i64 lim, .bool gave] 32 (0, 0))) 8 (by kernel_rfl) ?_
  refine wpAnyD_takeAt 0 (some 12) (v := ?_) rfl (by kernel_rfl) (by kernel_rfl) (by kernel_rfl) (by kernel_rfl) (by kernel_rfl) (fun _ _ _ h => h) (by exact HS.out) (fun o hop => ?_) ?_
  rotate_left
  · injection hop with hop
    subst hop
    refine ⟨rfl, fun W hW => ?_⟩
    obtain ⟨c0, c1, c2, c3, c4, c5, c6, c7, c8, c9⟩ := cellsP10 hW
    go_simp
    try rfl
  try simp only [Act.put, List.setIfInBounds_toArray, List.set_cons_zero, List.set_cons_succ]
  refine wpAnyD_takeAt 1 (some 13) (v := ?_) rfl (by kernel_rfl) (by kernel_rfl) (by kernel_rfl) (by kernel_rfl) (by kernel_rfl) (fun _ _ _ h => h) (by exact HS.out) (fun o hop => ?_) ?_
  rotate_left
  · injection hop with hop
    subst hop
    refine ⟨rfl, fun W hW => ?_⟩
    obtain ⟨c0, c1, c2, c3, c4, c5, c6, c7, c8, c9⟩ := cellsP10 hW
    go_simp
    try rfl
  try simp only [Act.put, List.setIfInBounds_toArray, List.set_cons_zero, List.set_cons_succ]
  refine wpAnyT_one (i := 2) (by kernel_rfl) rfl rfl (fun K' hK => ?_)
  go_simp
  go_at_call 44
  refine (HAR.out _).mono ?_
  rintro e w4 ⟨rfl, hb4⟩
  have HS4 : Hid (w4.heap[Y]? = some (.cells #[.int .i64 no, .int .i64 ph, .int .i64 now, .int .i64 pt, .bool want, .int .i64 timer, .int .i64 pat, .int .i64 tries, .int .i64 lim, .bool gave] 32 (0, 0))) := (hb4.block Y (lt_heap HS.out)).trans HS.out
  have HB4 : Hid (Below w.heap.size w w4) := HB3.out.drew.trans (hb4.mono HB3.out.drew.size)
  obtain ⟨k0, k1, k2, k3, k4, k5, k6, k7, k8, k9⟩ := cellsP10 HS4.out
  clear hb4
  refine hK.out _ _ (fun _ => HS4.out) ?_
  clear hK K'
  try simp only [Act.put, List.setIfInBounds_toArray, List.set_cons_zero, List.set_cons_succ]
  refine wpAnyT_one (i := 3) (by kernel_rfl) rfl rfl (fun K' hK => ?_)
  go_simp
  refine hK.out _ _ (fun _ => HS4.out) ?_
  clear hK K'
  try simp only [Act.put, List.setIfInBounds_toArray, List.set_cons_zero, List.set_cons_succ]
  refine wpAnyT_one (i := 4) (by kernel_rfl) rfl rfl (fun K' hK => ?_)
  go_simp
  refine hK.out _ _ (fun _ => HS4.out) ?_
  clear hK K'
  try simp only [Act.put, List.setIfInBounds_toArray, List.set_cons_zero, List.set_cons_succ]
  refine wpAnyT_one (i := 5) (by kernel_rfl) rfl rfl (fun K' hK => ?_)
  go_simp
  refine hK.out _ _ (fun _ => HS4.out) ?_
  clear hK K'
  try simp only [Act.put, List.setIfInBounds_toArray, List.set_cons_zero, List.set_cons_succ]
  refine wpAnyT_one (i := 6) (by kernel_rfl) rfl rfl (fun K' hK => ?_)
  go_simp
  refine hK.out _ _ (fun _ => HS4.out) ?_
  clear hK K'
  try simp only [Act.put, List.setIfInBounds_toArray, List.set_cons_zero, List.set_cons_succ]
  refine wpAnyT_one (i := 7) (by kernel_rfl) rfl rfl (fun K' hK => ?_)
  go_simp
  refine hK.out _ _ (fun _ => HS4.out) ?_
  clear hK K'
  try simp only [Act.put, List.setIfInBounds_toArray, List.set_cons_zero, List.set_cons_succ]
  refine wpAnyT_one (i := 8) (by kernel_rfl) rfl rfl (fun K' hK => ?_)
  go_simp
  refine hK.out _ _ (fun h => absurd rfl h) ?_
  clear hK K'
  try simp only [Act.put, List.setIfInBounds_toArray, List.set_cons_zero, List.set_cons_succ]
  refine wpAnyT_done (by kernel_rfl) ?_ _
  go_wp2
  go_ret
  exact ⟨rfl, HB4.out⟩
set_option maxRecDepth 100000 in
set_option maxHeartbeats 2000000 in
theorem mayBe_1 (M : MaM) (w : World) (hm : M.May) (hb : M.Busy) (hph : M.ph = 1) : Calls Try.prog 28 #[.agg M.cells] w fun e w' => e = .returned (.bool true) ∧ Below w.heap.size w w' := by
  have HBO := hide' (fun w' => bounded_yes M w' hm.pat hm.lim)
  have HWI := hide' (within_any M.no 0 1000000001)
  rw [decide_eq_true hm.no.1, decide_eq_true hm.no.2] at HWI
  have HAR := hide' (atRest_any M)
  have HBW := hide' (fun w' => busyWell_yes M w' hb hm.no hm.pat)
  clear hm hb
  obtain ⟨no, ph, now, pt, want, timer, pat, tries, lim, gave⟩ := M
  unfold MaM.rest at HAR
  unfold MaM.cells at HBO HAR HBW ⊢
  simp only at HBO HWI HAR HBW hph ⊢
  subst hph
  go_enter Try.func28, Try.ntmps28
  go_upto_region 1 with fail
  have hqY := alloc_new w (.cells #[.int .i64 no, .int .i64 1, .int .i64 now, .int .i64 pt, .bool want, .int .i64 timer, .int .i64 pat, .int .i64 tries, .int .i64 lim, .bool gave] 32)
  have hb1 := below_al w (.cells #[.int .i64 no, .int .i64 1, .int .i64 now, .int .i64 pt, .bool want, .int .i64 timer, .int .i64 pat, .int .i64 tries, .int .i64 lim, .bool gave] 32)
  obtain ⟨w1, hw1⟩ : ∃ x, x = (w.alloc (.cells #[.int .i64 no, .int .i64 1, .int .i64 now, .int .i64 pt, .bool want, .int .i64 timer, .int .i64 pat, .int .i64 tries, .int .i64 lim, .bool gave] 32)) := ⟨_, rfl⟩
  rw [← hw1] at hqY hb1 ⊢
  obtain ⟨Y, hnY⟩ : ∃ x, x = w.heap.size := ⟨_, rfl⟩
  have HNE : Hid (w.heap.size ≤ Y) := by show _ ≤ _; omega
  rw [← hnY] at hqY
  rw [show (Value.pointer (some { block := w.heap.size, off := 0 })) = Value.pointer (some { block := Y, off := 0 }) by rw [hnY]]
  have HQY := hide' hqY
  have HB1 := hide' hb1
  clear hqY hb1 hw1 hnY
  obtain ⟨c0, c1, c2, c3, c4, c5, c6, c7, c8, c9⟩ := cellsP10 HQY.out
  go_wp2_with fail
  refine (HBO.out _).mono ?_
  rintro e w2 ⟨rfl, hb2⟩
  have HQ2 := hide' ((hb2.block Y (lt_heap HQY.out)).trans HQY.out)
  have HB2 : Hid (Below w.heap.size w w2) := HB1.out.trans (hb2.mono HB1.out.size)
  clear hb2 HQY HB1 HBO c0 c1 c2 c3 c4 c5 c6 c7 c8 c9
  obtain ⟨c0, c1, c2, c3, c4, c5, c6, c7, c8, c9⟩ := cellsP10 HQ2.out
  go_wp2_with fail
  refine (HWI.out _).mono ?_
  rintro e w3 ⟨rfl, rfl⟩
  have HB3 := hide' HB2.out
  have HS := hide' HQ2.out
  go_upto_region 3 with fail
  refine wp_region_tail (fun W' => W'.heap[Y]? = some (.cells #[.int .i64 no, .int .i64 1, .int .i64 now, .int .i64 pt, .bool want, .int .i64 timer, .int .i64 pat, .int .i64 tries, .int .i64 lim, .bool gave] 32 (0, 0))) 8 (by kernel_rfl) ?_
  refine wpAnyD_takeAt 0 (some 12) (v := ?_) rfl (by kernel_rfl) (by kernel_rfl) (by kernel_rfl) (by kernel_rfl) (by kernel_rfl) (fun _ _ _ h => h) (by exact HS.out) (fun o hop => ?_) ?_
  rotate_left
  · injection hop with hop
    subst hop
    refine ⟨rfl, fun W hW => ?_⟩
    obtain ⟨c0, c1, c2, c3, c4, c5, c6, c7, c8, c9⟩ := cellsP10 hW
    go_simp
    try rfl
  try simp only [Act.put, List.setIfInBounds_toArray, List.set_cons_zero, List.set_cons_succ]
  refine wpAnyD_takeAt 1 (some 13) (v := ?_) rfl (by kernel_rfl) (by kernel_rfl) (by kernel_rfl) (by kernel_rfl) (by kernel_rfl) (fun _ _ _ h => h) (by exact HS.out) (fun o hop => ?_) ?_
  rotate_left
  · injection hop with hop
    subst hop
    refine ⟨rfl, fun W hW => ?_⟩
    obtain ⟨c0, c1, c2, c3, c4, c5, c6, c7, c8, c9⟩ := cellsP10 hW
    go_simp
    try rfl
  try simp only [Act.put, List.setIfInBounds_toArray, List.set_cons_zero, List.set_cons_succ]
  refine wpAnyT_one (i := 2) (by kernel_rfl) rfl rfl (fun K' hK => ?_)
  go_simp
  go_at_call 44
  refine (HAR.out _).mono ?_
  rintro e w4 ⟨rfl, hb4⟩
  have HS4 : Hid (w4.heap[Y]? = some (.cells #[.int .i64 no, .int .i64 1, .int .i64 now, .int .i64 pt, .bool want, .int .i64 timer, .int .i64 pat, .int .i64 tries, .int .i64 lim, .bool gave] 32 (0, 0))) := (hb4.block Y (lt_heap HS.out)).trans HS.out
  have HB4 : Hid (Below w.heap.size w w4) := HB3.out.drew.trans (hb4.mono HB3.out.drew.size)
  obtain ⟨k0, k1, k2, k3, k4, k5, k6, k7, k8, k9⟩ := cellsP10 HS4.out
  clear hb4
  refine hK.out _ _ (fun _ => HS4.out) ?_
  clear hK K'
  try simp only [Act.put, List.setIfInBounds_toArray, List.set_cons_zero, List.set_cons_succ]
  refine wpAnyT_one (i := 3) (by kernel_rfl) rfl rfl (fun K' hK => ?_)
  go_simp
  refine hK.out _ _ (fun _ => HS4.out) ?_
  clear hK K'
  try simp only [Act.put, List.setIfInBounds_toArray, List.set_cons_zero, List.set_cons_succ]
  refine wpAnyT_one (i := 4) (by kernel_rfl) rfl rfl (fun K' hK => ?_)
  go_simp
  refine hK.out _ _ (fun _ => HS4.out) ?_
  clear hK K'
  try simp only [Act.put, List.setIfInBounds_toArray, List.set_cons_zero, List.set_cons_succ]
  refine wpAnyT_one (i := 5) (by kernel_rfl) rfl rfl (fun K' hK => ?_)
  go_simp
  refine hK.out _ _ (fun _ => HS4.out) ?_
  clear hK K'
  try simp only [Act.put, List.setIfInBounds_toArray, List.set_cons_zero, List.set_cons_succ]
  refine wpAnyT_one (i := 6) (by kernel_rfl) rfl rfl (fun K' hK => ?_)
  go_simp
  go_at_call 45
  refine (HBW.out _).mono ?_
  rintro e w5 ⟨rfl, hb5⟩
  have HS5 : Hid (w5.heap[Y]? = some (.cells #[.int .i64 no, .int .i64 1, .int .i64 now, .int .i64 pt, .bool want, .int .i64 timer, .int .i64 pat, .int .i64 tries, .int .i64 lim, .bool gave] 32 (0, 0))) := (hb5.block Y (lt_heap HS4.out)).trans HS4.out
  have HB5 : Hid (Below w.heap.size w w5) := HB4.out.trans (hb5.mono HB4.out.size)
  clear hb5
  refine hK.out _ _ (fun _ => HS5.out) ?_
  clear hK K'
  try simp only [Act.put, List.setIfInBounds_toArray, List.set_cons_zero, List.set_cons_succ]
  refine wpAnyT_one (i := 7) (by kernel_rfl) rfl rfl (fun K' hK => ?_)
  go_simp
  refine hK.out _ _ (fun _ => HS5.out) ?_
  clear hK K'
  try simp only [Act.put, List.setIfInBounds_toArray, List.set_cons_zero, List.set_cons_succ]
  refine wpAnyT_one (i := 8) (by kernel_rfl) rfl rfl (fun K' hK => ?_)
  go_simp
  refine hK.out _ _ (fun h => absurd rfl h) ?_
  clear hK K'
  try simp only [Act.put, List.setIfInBounds_toArray, List.set_cons_zero, List.set_cons_succ]
  refine wpAnyT_done (by kernel_rfl) ?_ _
  go_wp2
  go_ret
  exact ⟨rfl, HB5.out⟩
set_option maxRecDepth 100000 in
set_option maxHeartbeats 2000000 in
theorem mayBe_3 (M : MaM) (w : World) (hm : M.May) (hb : M.Busy) (hph : M.ph = 3) : Calls Try.prog 28 #[.agg M.cells] w fun e w' => e = .returned (.bool true) ∧ Below w.heap.size w w' := by
  have HBO := hide' (fun w' => bounded_yes M w' hm.pat hm.lim)
  have HWI := hide' (within_any M.no 0 1000000001)
  rw [decide_eq_true hm.no.1, decide_eq_true hm.no.2] at HWI
  have HAR := hide' (atRest_any M)
  have HBW := hide' (fun w' => busyWell_yes M w' hb hm.no hm.pat)
  clear hm hb
  obtain ⟨no, ph, now, pt, want, timer, pat, tries, lim, gave⟩ := M
  unfold MaM.rest at HAR
  unfold MaM.cells at HBO HAR HBW ⊢
  simp only at HBO HWI HAR HBW hph ⊢
  subst hph
  go_enter Try.func28, Try.ntmps28
  go_upto_region 1 with fail
  have hqY := alloc_new w (.cells #[.int .i64 no, .int .i64 3, .int .i64 now, .int .i64 pt, .bool want, .int .i64 timer, .int .i64 pat, .int .i64 tries, .int .i64 lim, .bool gave] 32)
  have hb1 := below_al w (.cells #[.int .i64 no, .int .i64 3, .int .i64 now, .int .i64 pt, .bool want, .int .i64 timer, .int .i64 pat, .int .i64 tries, .int .i64 lim, .bool gave] 32)
  obtain ⟨w1, hw1⟩ : ∃ x, x = (w.alloc (.cells #[.int .i64 no, .int .i64 3, .int .i64 now, .int .i64 pt, .bool want, .int .i64 timer, .int .i64 pat, .int .i64 tries, .int .i64 lim, .bool gave] 32)) := ⟨_, rfl⟩
  rw [← hw1] at hqY hb1 ⊢
  obtain ⟨Y, hnY⟩ : ∃ x, x = w.heap.size := ⟨_, rfl⟩
  have HNE : Hid (w.heap.size ≤ Y) := by show _ ≤ _; omega
  rw [← hnY] at hqY
  rw [show (Value.pointer (some { block := w.heap.size, off := 0 })) = Value.pointer (some { block := Y, off := 0 }) by rw [hnY]]
  have HQY := hide' hqY
  have HB1 := hide' hb1
  clear hqY hb1 hw1 hnY
  obtain ⟨c0, c1, c2, c3, c4, c5, c6, c7, c8, c9⟩ := cellsP10 HQY.out
  go_wp2_with fail
  refine (HBO.out _).mono ?_
  rintro e w2 ⟨rfl, hb2⟩
  have HQ2 := hide' ((hb2.block Y (lt_heap HQY.out)).trans HQY.out)
  have HB2 : Hid (Below w.heap.size w w2) := HB1.out.trans (hb2.mono HB1.out.size)
  clear hb2 HQY HB1 HBO c0 c1 c2 c3 c4 c5 c6 c7 c8 c9
  obtain ⟨c0, c1, c2, c3, c4, c5, c6, c7, c8, c9⟩ := cellsP10 HQ2.out
  go_wp2_with fail
  refine (HWI.out _).mono ?_
  rintro e w3 ⟨rfl, rfl⟩
  have HB3 := hide' HB2.out
  have HS := hide' HQ2.out
  go_upto_region 3 with fail
  refine wp_region_tail (fun W' => W'.heap[Y]? = some (.cells #[.int .i64 no, .int .i64 3, .int .i64 now, .int .i64 pt, .bool want, .int .i64 timer, .int .i64 pat, .int .i64 tries, .int .i64 lim, .bool gave] 32 (0, 0))) 8 (by kernel_rfl) ?_
  refine wpAnyD_takeAt 0 (some 12) (v := ?_) rfl (by kernel_rfl) (by kernel_rfl) (by kernel_rfl) (by kernel_rfl) (by kernel_rfl) (fun _ _ _ h => h) (by exact HS.out) (fun o hop => ?_) ?_
  rotate_left
  · injection hop with hop
    subst hop
    refine ⟨rfl, fun W hW => ?_⟩
    obtain ⟨c0, c1, c2, c3, c4, c5, c6, c7, c8, c9⟩ := cellsP10 hW
    go_simp
    try rfl
  try simp only [Act.put, List.setIfInBounds_toArray, List.set_cons_zero, List.set_cons_succ]
  refine wpAnyD_takeAt 1 (some 13) (v := ?_) rfl (by kernel_rfl) (by kernel_rfl) (by kernel_rfl) (by kernel_rfl) (by kernel_rfl) (fun _ _ _ h => h) (by exact HS.out) (fun o hop => ?_) ?_
  rotate_left
  · injection hop with hop
    subst hop
    refine ⟨rfl, fun W hW => ?_⟩
    obtain ⟨c0, c1, c2, c3, c4, c5, c6, c7, c8, c9⟩ := cellsP10 hW
    go_simp
    try rfl
  try simp only [Act.put, List.setIfInBounds_toArray, List.set_cons_zero, List.set_cons_succ]
  refine wpAnyT_one (i := 2) (by kernel_rfl) rfl rfl (fun K' hK => ?_)
  go_simp
  go_at_call 44
  refine (HAR.out _).mono ?_
  rintro e w4 ⟨rfl, hb4⟩
  have HS4 : Hid (w4.heap[Y]? = some (.cells #[.int .i64 no, .int .i64 3, .int .i64 now, .int .i64 pt, .bool want, .int .i64 timer, .int .i64 pat, .int .i64 tries, .int .i64 lim, .bool gave] 32 (0, 0))) := (hb4.block Y (lt_heap HS.out)).trans HS.out
  have HB4 : Hid (Below w.heap.size w w4) := HB3.out.drew.trans (hb4.mono HB3.out.drew.size)
  obtain ⟨k0, k1, k2, k3, k4, k5, k6, k7, k8, k9⟩ := cellsP10 HS4.out
  clear hb4
  refine hK.out _ _ (fun _ => HS4.out) ?_
  clear hK K'
  try simp only [Act.put, List.setIfInBounds_toArray, List.set_cons_zero, List.set_cons_succ]
  refine wpAnyT_one (i := 3) (by kernel_rfl) rfl rfl (fun K' hK => ?_)
  go_simp
  refine hK.out _ _ (fun _ => HS4.out) ?_
  clear hK K'
  try simp only [Act.put, List.setIfInBounds_toArray, List.set_cons_zero, List.set_cons_succ]
  refine wpAnyT_one (i := 4) (by kernel_rfl) rfl rfl (fun K' hK => ?_)
  go_simp
  refine hK.out _ _ (fun _ => HS4.out) ?_
  clear hK K'
  try simp only [Act.put, List.setIfInBounds_toArray, List.set_cons_zero, List.set_cons_succ]
  refine wpAnyT_one (i := 5) (by kernel_rfl) rfl rfl (fun K' hK => ?_)
  go_simp
  refine hK.out _ _ (fun _ => HS4.out) ?_
  clear hK K'
  try simp only [Act.put, List.setIfInBounds_toArray, List.set_cons_zero, List.set_cons_succ]
  refine wpAnyT_one (i := 6) (by kernel_rfl) rfl rfl (fun K' hK => ?_)
  go_simp
  go_at_call 45
  refine (HBW.out _).mono ?_
  rintro e w5 ⟨rfl, hb5⟩
  have HS5 : Hid (w5.heap[Y]? = some (.cells #[.int .i64 no, .int .i64 3, .int .i64 now, .int .i64 pt, .bool want, .int .i64 timer, .int .i64 pat, .int .i64 tries, .int .i64 lim, .bool gave] 32 (0, 0))) := (hb5.block Y (lt_heap HS4.out)).trans HS4.out
  have HB5 : Hid (Below w.heap.size w w5) := HB4.out.trans (hb5.mono HB4.out.size)
  clear hb5
  refine hK.out _ _ (fun _ => HS5.out) ?_
  clear hK K'
  try simp only [Act.put, List.setIfInBounds_toArray, List.set_cons_zero, List.set_cons_succ]
  refine wpAnyT_one (i := 7) (by kernel_rfl) rfl rfl (fun K' hK => ?_)
  go_simp
  refine hK.out _ _ (fun _ => HS5.out) ?_
  clear hK K'
  try simp only [Act.put, List.setIfInBounds_toArray, List.set_cons_zero, List.set_cons_succ]
  refine wpAnyT_one (i := 8) (by kernel_rfl) rfl rfl (fun K' hK => ?_)
  go_simp
  refine hK.out _ _ (fun h => absurd rfl h) ?_
  clear hK K'
  try simp only [Act.put, List.setIfInBounds_toArray, List.set_cons_zero, List.set_cons_succ]
  refine wpAnyT_done (by kernel_rfl) ?_ _
  go_wp2
  go_ret
  exact ⟨rfl, HB5.out⟩

theorem masterMayBe_yes (M : MaM) (w : World) (hm : M.May) : Calls Try.prog 28 #[.agg M.cells] w fun e w' => e = .returned (.bool true) ∧ Below w.heap.size w w' := by
  rcases hm.st with h | h
  · exact mayBe_rest M w hm h
  · rcases h.ph with hp | hp
    · exact mayBe_1 M w hm h hp
    · exact mayBe_3 M w hm h hp
end Go.Proofs.Ytjhmendiefojoam
