/- A station hears a message that it takes. -/
import Derived.Test.YtjhmendiefojoamYc
import Derived.Test.YtjhmendiefojoamS14
namespace Go.Proofs.Ytjhmendiefojoam
open Go.RowKit Go.Shelf

attribute [local go_sem] func_nil func_some
set_option maxRecDepth 100000 in
set_option maxHeartbeats 4000000 in
theorem Hear_4 (S : StM) (m : MsM) (l : List Bool) (n c : Nat) (a : Option Addr) (w : World) (hr : RowAt w (.slice a n c) n 1 (l.map Value.bool)) (hn : n ≤ 2000000) (l1 : List Bool) (T : StM) (rs : List MsM) (code : Int) (hR : mayS n S = true ∧ m.kind = 1 ∧ (0 ≤ m.no ∧ m.no ≤ 1000000000) ∧ ∃ r, (ChooseR n S m r T ∧ l1 = l) ∧ rs = replyL m r ∧ code = 0) : Calls Try.prog 52 #[.agg (S.cells (.slice a n c)), .agg m.cells] w (HearO l1 T rs code w) := by
  have hln : l.length = n := by have h := hr.1; simpa using h
  subst hln
  have HR := hide' hR
  have HM := hide' (fun w' => stationMayBe_any S l.length c a w' (by omega))
  have HZ := hide' (fun (x : World) (A : Nat) (h : x.heap[A]? = some (.cells #[.slice none 0 0, .int .i64 0, .int .i64 0, .int .i64 0, .bool false, .int .i64 0, .int .i64 0] 24 (0, 0))) => put7 (S0 := StM.nought) h)
  have HW := hide' (fun w' (hb : Below w.heap.size w w') => atWork_any S l l.length c a w' (hr.below hb (Nat.le_refl _)) hn)
  have HI := hide' (within_any m.no 0 1000000000)
  obtain ⟨h0, hk, hno, r, hCh, hrs, rfl⟩ := HR.out
  obtain ⟨hCh, hl1⟩ := hCh
  subst hl1
  have HC := hide' (fun K a1 d1 B w' hK ho hB => choose_any S m l1 B K l1.length d1 a1 w' hK ho hB (by omega) r T hCh)
  have HAN := hide' (answers_any m r)
  rw [← hrs] at HAN
  rw [h0] at HM
  rw [show (decide (0 ≤ m.no) && decide (m.no ≤ 1000000000)) = true by simp; omega] at HI
  clear hR HR h0 hr hCh hno hrs
  obtain ⟨last, armed, point, want, left, pat⟩ := S
  obtain ⟨tlast, tarmed, tpoint, twant, tleft, tpat⟩ := T
  obtain ⟨kind, no, pt, wt⟩ := m
  simp only at hk
  obtain rfl := hk
  unfold HearO
  unfold ActO at HC
  unfold StM.cells at HM HZ HW HC ⊢
  unfold MsM.cells at HC HAN ⊢
  simp only at HM HZ HW HI HC HAN ⊢
  go_enter Try.func52, Try.ntmps52
  go_upto_region 1 with fail
  have hqY := (alloc_old ((w.alloc (.cells #[.slice a l1.length c, .int .i64 last, .int .i64 armed, .int .i64 point, .bool want, .int .i64 left, .int .i64 pat] 24)).alloc (.cells #[.int .i64 1, .int .i64 no, .int .i64 pt, .bool wt] 39)) (.cells #[.slice none 0 0, .int .i64 0, .int .i64 0, .int .i64 0, .bool false, .int .i64 0, .int .i64 0] 24) (lt_heap ((alloc_old (w.alloc (.cells #[.slice a l1.length c, .int .i64 last, .int .i64 armed, .int .i64 point, .bool want, .int .i64 left, .int .i64 pat] 24)) (.cells #[.int .i64 1, .int .i64 no, .int .i64 pt, .bool wt] 39) (lt_heap (alloc_new w (.cells #[.slice a l1.length c, .int .i64 last, .int .i64 armed, .int .i64 point, .bool want, .int .i64 left, .int .i64 pat] 24)))).trans (alloc_new w (.cells #[.slice a l1.length c, .int .i64 last, .int .i64 armed, .int .i64 point, .bool want, .int .i64 left, .int .i64 pat] 24))))).trans ((alloc_old (w.alloc (.cells #[.slice a l1.length c, .int .i64 last, .int .i64 armed, .int .i64 point, .bool want, .int .i64 left, .int .i64 pat] 24)) (.cells #[.int .i64 1, .int .i64 no, .int .i64 pt, .bool wt] 39) (lt_heap (alloc_new w (.cells #[.slice a l1.length c, .int .i64 last, .int .i64 armed, .int .i64 point, .bool want, .int .i64 left, .int .i64 pat] 24)))).trans (alloc_new w (.cells #[.slice a l1.length c, .int .i64 last, .int .i64 armed, .int .i64 point, .bool want, .int .i64 left, .int .i64 pat] 24)))
  have hqZ := (alloc_old ((w.alloc (.cells #[.slice a l1.length c, .int .i64 last, .int .i64 armed, .int .i64 point, .bool want, .int .i64 left, .int .i64 pat] 24)).alloc (.cells #[.int .i64 1, .int .i64 no, .int .i64 pt, .bool wt] 39)) (.cells #[.slice none 0 0, .int .i64 0, .int .i64 0, .int .i64 0, .bool false, .int .i64 0, .int .i64 0] 24) (lt_heap (alloc_new (w.alloc (.cells #[.slice a l1.length c, .int .i64 last, .int .i64 armed, .int .i64 point, .bool want, .int .i64 left, .int .i64 pat] 24)) (.cells #[.int .i64 1, .int .i64 no, .int .i64 pt, .bool wt] 39)))).trans (alloc_new (w.alloc (.cells #[.slice a l1.length c, .int .i64 last, .int .i64 armed, .int .i64 point, .bool want, .int .i64 left, .int .i64 pat] 24)) (.cells #[.int .i64 1, .int .i64 no, .int .i64 pt, .bool wt] 39))
  have hqA := alloc_new ((w.alloc (.cells #[.slice a l1.length c, .int .i64 last, .int .i64 armed, .int .i64 point, .bool want, .int .i64 left, .int .i64 pat] 24)).alloc (.cells #[.int .i64 1, .int .i64 no, .int .i64 pt, .bool wt] 39)) (.cells #[.slice none 0 0, .int .i64 0, .int .i64 0, .int .i64 0, .bool false, .int .i64 0, .int .i64 0] 24)
  have hb1 := ((below_al w (.cells #[.slice a l1.length c, .int .i64 last, .int .i64 armed, .int .i64 point, .bool want, .int .i64 left, .int .i64 pat] 24)).alloc (below_al w (.cells #[.slice a l1.length c, .int .i64 last, .int .i64 armed, .int .i64 point, .bool want, .int .i64 left, .int .i64 pat] 24)).size (.cells #[.int .i64 1, .int .i64 no, .int .i64 pt, .bool wt] 39)).alloc ((below_al w (.cells #[.slice a l1.length c, .int .i64 last, .int .i64 armed, .int .i64 point, .bool want, .int .i64 left, .int .i64 pat] 24)).alloc (below_al w (.cells #[.slice a l1.length c, .int .i64 last, .int .i64 armed, .int .i64 point, .bool want, .int .i64 left, .int .i64 pat] 24)).size (.cells #[.int .i64 1, .int .i64 no, .int .i64 pt, .bool wt] 39)).size (.cells #[.slice none 0 0, .int .i64 0, .int .i64 0, .int .i64 0, .bool false, .int .i64 0, .int .i64 0] 24)
  rw [show (w.alloc (.cells #[.slice a l1.length c, .int .i64 last, .int .i64 armed, .int .i64 point, .bool want, .int .i64 left, .int .i64 pat] 24)).heap.size = w.heap.size + 1 from by simp only [World.size_alloc]] at hqZ
  rw [show ((w.alloc (.cells #[.slice a l1.length c, .int .i64 last, .int .i64 armed, .int .i64 point, .bool want, .int .i64 left, .int .i64 pat] 24)).alloc (.cells #[.int .i64 1, .int .i64 no, .int .i64 pt, .bool wt] 39)).heap.size = w.heap.size + 1 + 1 from by simp only [World.size_alloc]] at hqA
  obtain ⟨w1, hw1⟩ : ∃ x, x = (((w.alloc (.cells #[.slice a l1.length c, .int .i64 last, .int .i64 armed, .int .i64 point, .bool want, .int .i64 left, .int .i64 pat] 24)).alloc (.cells #[.int .i64 1, .int .i64 no, .int .i64 pt, .bool wt] 39)).alloc (.cells #[.slice none 0 0, .int .i64 0, .int .i64 0, .int .i64 0, .bool false, .int .i64 0, .int .i64 0] 24)) := ⟨_, rfl⟩
  rw [← hw1] at hqY hqZ hqA hb1 ⊢
  obtain ⟨Y, hnY⟩ : ∃ x, x = w.heap.size := ⟨_, rfl⟩
  obtain ⟨Z, hnZ⟩ : ∃ x, x = w.heap.size + 1 := ⟨_, rfl⟩
  obtain ⟨A, hnA⟩ : ∃ x, x = w.heap.size + 1 + 1 := ⟨_, rfl⟩
  have HNE : Hid (w.heap.size ≤ Y ∧ w.heap.size ≤ Z ∧ w.heap.size ≤ A ∧ Y ≠ Z ∧ Y ≠ A ∧ Z ≠ A) := ⟨by omega, by omega, by omega, by omega, by omega, by omega⟩
  rw [← hnY] at hqY
  rw [← hnZ] at hqZ
  rw [← hnA] at hqA
  rw [show (Value.pointer (some { block := w.heap.size, off := 0 })) = Value.pointer (some { block := Y, off := 0 }) by rw [hnY], show (Value.pointer (some { block := w.heap.size + 1, off := 0 })) = Value.pointer (some { block := Z, off := 0 }) by rw [hnZ], show (Value.pointer (some { block := w.heap.size + 1 + 1, off := 0 })) = Value.pointer (some { block := A, off := 0 }) by rw [hnA]]
  have HQY := hide' hqY
  have HQZ := hide' hqZ
  have HQA := hide' hqA
  have HB1 := hide' hb1
  clear hqY hqZ hqA hb1 hw1 hnY hnZ hnA
  obtain ⟨c0, c1, c2, c3, c4, c5, c6⟩ := cellsP7 HQY.out
  go_wp2_with fail
  refine (HM.out w1).mono ?_
  rintro e w2 ⟨rfl, hb2⟩
  have HB2 : Hid (Below w.heap.size w w2) := HB1.out.trans (hb2.mono HB1.out.size)
  have HY2 := hide' ((hb2.block Y (lt_heap HQY.out)).trans HQY.out)
  have HZ2 := hide' ((hb2.block Z (lt_heap HQZ.out)).trans HQZ.out)
  have HA2 := hide' ((hb2.block A (lt_heap HQA.out)).trans HQA.out)
  clear hb2 HB1 HQY HQZ HQA HM
  clear c0 c1 c2 c3 c4 c5 c6
  obtain ⟨c0, c1, c2, c3, c4, c5, c6⟩ := cellsP7 HY2.out
  go_wp2_with fail
  refine (HW.out w2 HB2.out).mono ?_
  rintro e w3 ⟨K, a1, d1, rfl, hK, hsK, ho, hb3⟩
  have HB3 : Hid (Below w.heap.size w w3) := HB2.out.trans (hb3.mono HB2.out.size)
  have HZ3 := hide' ((hb3.block Z (lt_heap HZ2.out)).trans HZ2.out)
  have HA3 := hide' ((hb3.block A (lt_heap HA2.out)).trans HA2.out)
  have HO3 := hide' ho
  have HK3 := hide' hK
  have HAB : Hid (A < w2.heap.size ∧ Z < w2.heap.size ∧ w2.heap.size ≤ K ∧ w.heap.size ≤ w2.heap.size ∧ w2.heap.size ≤ w3.heap.size) := ⟨lt_heap HA2.out, lt_heap HZ2.out, hsK, HB2.out.size, hb3.size⟩
  obtain ⟨B, hBB⟩ : ∃ b, b = w2.heap.size := ⟨_, rfl⟩
  rw [← hBB] at HAB HO3
  clear hBB hK hsK ho hb3 HB2 HA2 HY2 HZ2 HW
  clear c0 c1 c2 c3 c4 c5 c6
  obtain ⟨m0, m1, m2, m3⟩ := cellsP4 HZ3.out
  go_wp2_with fail
  refine (does_1 K w3).mono ?_
  rintro e w4 ⟨rfl, rfl⟩
  go_wp2_with fail
  refine (HI.out _).mono ?_
  rintro e w5 ⟨rfl, rfl⟩
  clear HI
  go_upto_region 9 with fail
  have HS5 : Hid (w5.cell? ⟨Z, 0, none⟩ = some (.int .i64 1) ∧ w5.cell? ⟨Z, 1, none⟩ = some (.int .i64 no) ∧ w5.cell? ⟨Z, 2, none⟩ = some (.int .i64 pt) ∧ w5.cell? ⟨Z, 3, none⟩ = some (.bool wt)) := ⟨m0, m1, m2, m3⟩
  have HC5 := hide' (HC.out K a1 d1 B w5.drew (by exact HK3.out) (by exact own_drewN HO3.out 1) HAB.out.2.2.1)
  clear HC
  refine wp_region_tail (fun W => W.cell? ⟨Z, 0, none⟩ = some (.int .i64 1) ∧ W.cell? ⟨Z, 1, none⟩ = some (.int .i64 no) ∧ W.cell? ⟨Z, 2, none⟩ = some (.int .i64 pt) ∧ W.cell? ⟨Z, 3, none⟩ = some (.bool wt)) 5 (by kernel_rfl) ?_
  refine wpAnyD_takeAt 0 (some 36) (v := ?_) rfl (by kernel_rfl) (by kernel_rfl) (by kernel_rfl) (by kernel_rfl) (by kernel_rfl) (fun _ _ _ h => h) (by exact HS5.out) (fun o hop => ?_) ?_
  rotate_left
  · injection hop with hop
    subst hop
    refine ⟨rfl, fun W hW => ?_⟩
    obtain ⟨s0, s1, s2, s3⟩ := hW
    go_simp
    try rfl
  try simp only [Act.put, List.setIfInBounds_toArray, List.set_cons_zero, List.set_cons_succ]
  refine wpAnyD_takeAt 1 (some 37) (v := ?_) rfl (by kernel_rfl) (by kernel_rfl) (by kernel_rfl) (by kernel_rfl) (by kernel_rfl) (fun _ _ _ h => h) (by exact HS5.out) (fun o hop => ?_) ?_
  rotate_left
  · injection hop with hop
    subst hop
    refine ⟨rfl, fun W hW => ?_⟩
    obtain ⟨s0, s1, s2, s3⟩ := hW
    go_simp
    try rfl
  try simp only [Act.put, List.setIfInBounds_toArray, List.set_cons_zero, List.set_cons_succ]
  refine wpAnyD_takeAt 2 (some 38) (v := ?_) rfl (by kernel_rfl) (by kernel_rfl) (by kernel_rfl) (by kernel_rfl) (by kernel_rfl) (fun _ _ _ h => h) (by exact HS5.out) (fun o hop => ?_) ?_
  rotate_left
  · injection hop with hop
    subst hop
    refine ⟨rfl, fun W hW => ?_⟩
    obtain ⟨s0, s1, s2, s3⟩ := hW
    go_simp
    try rfl
  try simp only [Act.put, List.setIfInBounds_toArray, List.set_cons_zero, List.set_cons_succ]
  refine wpAnyT_one (i := 3) (by kernel_rfl) rfl rfl (fun K' hK => ?_)
  go_simp
  go_at_call 56
  refine HC5.out.mono ?_
  rintro e w6 ⟨rfl, hK6, ho6, hb6⟩
  have HZ6 := hide' ((hb6.block Z HAB.out.2.1).trans HZ3.out)
  have HA6 := hide' ((hb6.block A HAB.out.1).trans HA3.out)
  have HB6 : Hid (Below w.heap.size w w6) := HB3.out.drew.trans (hb6.mono HAB.out.2.2.2.1)
  have HK6 := hide' hK6
  have HO6 := hide' (own_mono ho6 HAB.out.2.2.2.1)
  refine hK.out _ _ (fun _ => ⟨(cells_at HZ6.out 0).trans rfl, (cells_at HZ6.out 1).trans rfl, (cells_at HZ6.out 2).trans rfl, (cells_at HZ6.out 3).trans rfl⟩) ?_
  clear hK K' HC5 hK6 ho6 hb6 HZ3 HA3 HB3 HK3 HO3 m0 m1 m2 m3 HS5
  try simp only [Act.put, List.setIfInBounds_toArray, List.set_cons_zero, List.set_cons_succ]
  refine wpAnyT_one (i := 4) (by kernel_rfl) rfl rfl (fun K' hK => ?_)
  go_simp
  go_at_call 55
  refine (HAN.out w6).mono ?_
  rintro e w7 ⟨vr, rfl, hrv, hb7⟩
  have HZ7 := hide' ((hb7.block Z (lt_heap HZ6.out)).trans HZ6.out)
  have HA7 := hide' ((hb7.block A (lt_heap HA6.out)).trans HA6.out)
  have HK7 := hide' ((hb7.block K (lt_heap HK6.out)).trans HK6.out)
  have HB7 : Hid (Below w.heap.size w w7) := HB6.out.trans (hb7.mono HB6.out.size)
  have HO7 := hide' (own_below HO6.out hb7 (Nat.le_refl _))
  have HRV := hide' (own_mono hrv (Nat.zero_le _))
  refine hK.out _ _ (fun _ => ⟨(cells_at HZ7.out 0).trans rfl, (cells_at HZ7.out 1).trans rfl, (cells_at HZ7.out 2).trans rfl, (cells_at HZ7.out 3).trans rfl⟩) ?_
  clear hK K' hrv hb7 HZ6 HA6 HB6 HK6 HO6 HAN
  try simp only [Act.put, List.setIfInBounds_toArray, List.set_cons_zero, List.set_cons_succ]
  refine wpAnyT_one (i := 5) (by kernel_rfl) rfl rfl (fun K' hK => ?_)
  go_simp
  refine hK.out _ _ (fun h => absurd rfl h) ?_
  clear hK K'
  try simp only [Act.put, List.setIfInBounds_toArray, List.set_cons_zero, List.set_cons_succ]
  refine wpAnyT_done (by kernel_rfl) ?_ _
  clear HZ7
  obtain ⟨k0, k1, k2, k3, k4, k5, k6⟩ := cellsP7 HK7.out
  obtain ⟨b0, b1, b2, b3, b4, b5, b6⟩ := cellsP7 HA7.out
  obtain ⟨e0, e1, e2, e3, e4, e5, e6⟩ := frozenP7 HA7.out
  have HP := hide' (HZ.out w7 A HA7.out ⟨tlast, tarmed, tpoint, twant, tleft, tpat⟩ (.slice a1 l1.length d1))
  simp only at HP
  have HOF := hide' (own_mono (own_keep HO7.out (but_keep HP.out.2 HA7.out) (by decide)) (Nat.zero_le _))
  have HBF := hide' (HB7.out.trans (HP.out.2.below HNE.out.2.2.1 HB7.out.size))
  have HRF := hide' (own_keep HRV.out (but_keep HP.out.2 HA7.out) (by decide))
  clear HZ HO7 HB7 HRV
  go_wp2
  refine bodyPost_ret (results_cell_row2 rfl _ _ A 24 _ (0, 0) _ rfl HP.out.1 Try.underlying24 rfl (by kernel_rfl)) rfl ?_
  exact ⟨a1, d1, vr, rfl, HOF.out, HRF.out, HBF.out⟩
set_option maxRecDepth 100000 in
set_option maxHeartbeats 4000000 in
theorem Hear_5 (S : StM) (m : MsM) (l : List Bool) (n c : Nat) (a : Option Addr) (w : World) (hr : RowAt w (.slice a n c) n 1 (l.map Value.bool)) (hn : n ≤ 2000000) (l1 : List Bool) (T : StM) (rs : List MsM) (code : Int) (hR : mayS n S = true ∧ m.kind = 3 ∧ (0 ≤ m.no ∧ m.no ≤ 1000000000) ∧ ∃ r, OperR l n S m l1 r T ∧ rs = replyL m r ∧ code = 0) : Calls Try.prog 52 #[.agg (S.cells (.slice a n c)), .agg m.cells] w (HearO l1 T rs code w) := by
  have hln : l.length = n := by have h := hr.1; simpa using h
  subst hln
  have HR := hide' hR
  have HM := hide' (fun w' => stationMayBe_any S l.length c a w' (by omega))
  have HZ := hide' (fun (x : World) (A : Nat) (h : x.heap[A]? = some (.cells #[.slice none 0 0, .int .i64 0, .int .i64 0, .int .i64 0, .bool false, .int .i64 0, .int .i64 0] 24 (0, 0))) => put7 (S0 := StM.nought) h)
  have HW := hide' (fun w' (hb : Below w.heap.size w w') => atWork_any S l l.length c a w' (hr.below hb (Nat.le_refl _)) hn)
  have HI := hide' (within_any m.no 0 1000000000)
  obtain ⟨h0, hk, hno, r, hCh, hrs, rfl⟩ := HR.out
  have HC := hide' (fun K a1 d1 B w' hK ho hB => operate_any S m l B K l.length d1 a1 w' hK ho hB r T l1 hCh)
  have HAN := hide' (answers_any m r)
  rw [← hrs] at HAN
  have HLE : Hid (l1.length = l.length) := oper_len hCh
  rw [h0] at HM
  rw [show (decide (0 ≤ m.no) && decide (m.no ≤ 1000000000)) = true by simp; omega] at HI
  clear hR HR h0 hr hCh hno hrs
  obtain ⟨last, armed, point, want, left, pat⟩ := S
  obtain ⟨tlast, tarmed, tpoint, twant, tleft, tpat⟩ := T
  obtain ⟨kind, no, pt, wt⟩ := m
  simp only at hk
  obtain rfl := hk
  unfold HearO
  rw [HLE.out]
  unfold ActO at HC
  unfold StM.cells at HM HZ HW HC ⊢
  unfold MsM.cells at HC HAN ⊢
  simp only at HM HZ HW HI HC HAN ⊢
  go_enter Try.func52, Try.ntmps52
  go_upto_region 1 with fail
  have hqY := (alloc_old ((w.alloc (.cells #[.slice a l.length c, .int .i64 last, .int .i64 armed, .int .i64 point, .bool want, .int .i64 left, .int .i64 pat] 24)).alloc (.cells #[.int .i64 3, .int .i64 no, .int .i64 pt, .bool wt] 39)) (.cells #[.slice none 0 0, .int .i64 0, .int .i64 0, .int .i64 0, .bool false, .int .i64 0, .int .i64 0] 24) (lt_heap ((alloc_old (w.alloc (.cells #[.slice a l.length c, .int .i64 last, .int .i64 armed, .int .i64 point, .bool want, .int .i64 left, .int .i64 pat] 24)) (.cells #[.int .i64 3, .int .i64 no, .int .i64 pt, .bool wt] 39) (lt_heap (alloc_new w (.cells #[.slice a l.length c, .int .i64 last, .int .i64 armed, .int .i64 point, .bool want, .int .i64 left, .int .i64 pat] 24)))).trans (alloc_new w (.cells #[.slice a l.length c, .int .i64 last, .int .i64 armed, .int .i64 point, .bool want, .int .i64 left, .int .i64 pat] 24))))).trans ((alloc_old (w.alloc (.cells #[.slice a l.length c, .int .i64 last, .int .i64 armed, .int .i64 point, .bool want, .int .i64 left, .int .i64 pat] 24)) (.cells #[.int .i64 3, .int .i64 no, .int .i64 pt, .bool wt] 39) (lt_heap (alloc_new w (.cells #[.slice a l.length c, .int .i64 last, .int .i64 armed, .int .i64 point, .bool want, .int .i64 left, .int .i64 pat] 24)))).trans (alloc_new w (.cells #[.slice a l.length c, .int .i64 last, .int .i64 armed, .int .i64 point, .bool want, .int .i64 left, .int .i64 pat] 24)))
  have hqZ := (alloc_old ((w.alloc (.cells #[.slice a l.length c, .int .i64 last, .int .i64 armed, .int .i64 point, .bool want, .int .i64 left, .int .i64 pat] 24)).alloc (.cells #[.int .i64 3, .int .i64 no, .int .i64 pt, .bool wt] 39)) (.cells #[.slice none 0 0, .int .i64 0, .int .i64 0, .int .i64 0, .bool false, .int .i64 0, .int .i64 0] 24) (lt_heap (alloc_new (w.alloc (.cells #[.slice a l.length c, .int .i64 last, .int .i64 armed, .int .i64 point, .bool want, .int .i64 left, .int .i64 pat] 24)) (.cells #[.int .i64 3, .int .i64 no, .int .i64 pt, .bool wt] 39)))).trans (alloc_new (w.alloc (.cells #[.slice a l.length c, .int .i64 last, .int .i64 armed, .int .i64 point, .bool want, .int .i64 left, .int .i64 pat] 24)) (.cells #[.int .i64 3, .int .i64 no, .int .i64 pt, .bool wt] 39))
  have hqA := alloc_new ((w.alloc (.cells #[.slice a l.length c, .int .i64 last, .int .i64 armed, .int .i64 point, .bool want, .int .i64 left, .int .i64 pat] 24)).alloc (.cells #[.int .i64 3, .int .i64 no, .int .i64 pt, .bool wt] 39)) (.cells #[.slice none 0 0, .int .i64 0, .int .i64 0, .int .i64 0, .bool false, .int .i64 0, .int .i64 0] 24)
  have hb1 := ((below_al w (.cells #[.slice a l.length c, .int .i64 last, .int .i64 armed, .int .i64 point, .bool want, .int .i64 left, .int .i64 pat] 24)).alloc (below_al w (.cells #[.slice a l.length c, .int .i64 last, .int .i64 armed, .int .i64 point, .bool want, .int .i64 left, .int .i64 pat] 24)).size (.cells #[.int .i64 3, .int .i64 no, .int .i64 pt, .bool wt] 39)).alloc ((below_al w (.cells #[.slice a l.length c, .int .i64 last, .int .i64 armed, .int .i64 point, .bool want, .int .i64 left, .int .i64 pat] 24)).alloc (below_al w (.cells #[.slice a l.length c, .int .i64 last, .int .i64 armed, .int .i64 point, .bool want, .int .i64 left, .int .i64 pat] 24)).size (.cells #[.int .i64 3, .int .i64 no, .int .i64 pt, .bool wt] 39)).size (.cells #[.slice none 0 0, .int .i64 0, .int .i64 0, .int .i64 0, .bool false, .int .i64 0, .int .i64 0] 24)
  rw [show (w.alloc (.cells #[.slice a l.length c, .int .i64 last, .int .i64 armed, .int .i64 point, .bool want, .int .i64 left, .int .i64 pat] 24)).heap.size = w.heap.size + 1 from by simp only [World.size_alloc]] at hqZ
  rw [show ((w.alloc (.cells #[.slice a l.length c, .int .i64 last, .int .i64 armed, .int .i64 point, .bool want, .int .i64 left, .int .i64 pat] 24)).alloc (.cells #[.int .i64 3, .int .i64 no, .int .i64 pt, .bool wt] 39)).heap.size = w.heap.size + 1 + 1 from by simp only [World.size_alloc]] at hqA
  obtain ⟨w1, hw1⟩ : ∃ x, x = (((w.alloc (.cells #[.slice a l.length c, .int .i64 last, .int .i64 armed, .int .i64 point, .bool want, .int .i64 left, .int .i64 pat] 24)).alloc (.cells #[.int .i64 3, .int .i64 no, .int .i64 pt, .bool wt] 39)).alloc (.cells #[.slice none 0 0, .int .i64 0, .int .i64 0, .int .i64 0, .bool false, .int .i64 0, .int .i64 0] 24)) := ⟨_, rfl⟩
  rw [← hw1] at hqY hqZ hqA hb1 ⊢
  obtain ⟨Y, hnY⟩ : ∃ x, x = w.heap.size := ⟨_, rfl⟩
  obtain ⟨Z, hnZ⟩ : ∃ x, x = w.heap.size + 1 := ⟨_, rfl⟩
  obtain ⟨A, hnA⟩ : ∃ x, x = w.heap.size + 1 + 1 := ⟨_, rfl⟩
  have HNE : Hid (w.heap.size ≤ Y ∧ w.heap.size ≤ Z ∧ w.heap.size ≤ A ∧ Y ≠ Z ∧ Y ≠ A ∧ Z ≠ A) := ⟨by omega, by omega, by omega, by omega, by omega, by omega⟩
  rw [← hnY] at hqY
  rw [← hnZ] at hqZ
  rw [← hnA] at hqA
  rw [show (Value.pointer (some { block := w.heap.size, off := 0 })) = Value.pointer (some { block := Y, off := 0 }) by rw [hnY], show (Value.pointer (some { block := w.heap.size + 1, off := 0 })) = Value.pointer (some { block := Z, off := 0 }) by rw [hnZ], show (Value.pointer (some { block := w.heap.size + 1 + 1, off := 0 })) = Value.pointer (some { block := A, off := 0 }) by rw [hnA]]
  have HQY := hide' hqY
  have HQZ := hide' hqZ
  have HQA := hide' hqA
  have HB1 := hide' hb1
  clear hqY hqZ hqA hb1 hw1 hnY hnZ hnA
  obtain ⟨c0, c1, c2, c3, c4, c5, c6⟩ := cellsP7 HQY.out
  go_wp2_with fail
  refine (HM.out w1).mono ?_
  rintro e w2 ⟨rfl, hb2⟩
  have HB2 : Hid (Below w.heap.size w w2) := HB1.out.trans (hb2.mono HB1.out.size)
  have HY2 := hide' ((hb2.block Y (lt_heap HQY.out)).trans HQY.out)
  have HZ2 := hide' ((hb2.block Z (lt_heap HQZ.out)).trans HQZ.out)
  have HA2 := hide' ((hb2.block A (lt_heap HQA.out)).trans HQA.out)
  clear hb2 HB1 HQY HQZ HQA HM
  clear c0 c1 c2 c3 c4 c5 c6
  obtain ⟨c0, c1, c2, c3, c4, c5, c6⟩ := cellsP7 HY2.out
  go_wp2_with fail
  refine (HW.out w2 HB2.out).mono ?_
  rintro e w3 ⟨K, a1, d1, rfl, hK, hsK, ho, hb3⟩
  have HB3 : Hid (Below w.heap.size w w3) := HB2.out.trans (hb3.mono HB2.out.size)
  have HZ3 := hide' ((hb3.block Z (lt_heap HZ2.out)).trans HZ2.out)
  have HA3 := hide' ((hb3.block A (lt_heap HA2.out)).trans HA2.out)
  have HO3 := hide' ho
  have HK3 := hide' hK
  have HAB : Hid (A < w2.heap.size ∧ Z < w2.heap.size ∧ w2.heap.size ≤ K ∧ w.heap.size ≤ w2.heap.size ∧ w2.heap.size ≤ w3.heap.size) := ⟨lt_heap HA2.out, lt_heap HZ2.out, hsK, HB2.out.size, hb3.size⟩
  obtain ⟨B, hBB⟩ : ∃ b, b = w2.heap.size := ⟨_, rfl⟩
  rw [← hBB] at HAB HO3
  clear hBB hK hsK ho hb3 HB2 HA2 HY2 HZ2 HW
  clear c0 c1 c2 c3 c4 c5 c6
  obtain ⟨m0, m1, m2, m3⟩ := cellsP4 HZ3.out
  go_wp2_with fail
  refine (does_3 K w3).mono ?_
  rintro e w4 ⟨rfl, rfl⟩
  go_wp2_with fail
  refine (HI.out _).mono ?_
  rintro e w5 ⟨rfl, rfl⟩
  clear HI
  go_upto_region 9 with fail
  have HS5 : Hid (w5.cell? ⟨Z, 0, none⟩ = some (.int .i64 3) ∧ w5.cell? ⟨Z, 1, none⟩ = some (.int .i64 no) ∧ w5.cell? ⟨Z, 2, none⟩ = some (.int .i64 pt) ∧ w5.cell? ⟨Z, 3, none⟩ = some (.bool wt)) := ⟨m0, m1, m2, m3⟩
  have HC5 := hide' (HC.out K a1 d1 B w5.drew (by exact HK3.out) (by exact own_drewN HO3.out 1) HAB.out.2.2.1)
  clear HC
  refine wp_region_tail (fun W => W.cell? ⟨Z, 0, none⟩ = some (.int .i64 3) ∧ W.cell? ⟨Z, 1, none⟩ = some (.int .i64 no) ∧ W.cell? ⟨Z, 2, none⟩ = some (.int .i64 pt) ∧ W.cell? ⟨Z, 3, none⟩ = some (.bool wt)) 5 (by kernel_rfl) ?_
  refine wpAnyD_takeAt 0 (some 36) (v := ?_) rfl (by kernel_rfl) (by kernel_rfl) (by kernel_rfl) (by kernel_rfl) (by kernel_rfl) (fun _ _ _ h => h) (by exact HS5.out) (fun o hop => ?_) ?_
  rotate_left
  · injection hop with hop
    subst hop
    refine ⟨rfl, fun W hW => ?_⟩
    obtain ⟨s0, s1, s2, s3⟩ := hW
    go_simp
    try rfl
  try simp only [Act.put, List.setIfInBounds_toArray, List.set_cons_zero, List.set_cons_succ]
  refine wpAnyD_takeAt 1 (some 37) (v := ?_) rfl (by kernel_rfl) (by kernel_rfl) (by kernel_rfl) (by kernel_rfl) (by kernel_rfl) (fun _ _ _ h => h) (by exact HS5.out) (fun o hop => ?_) ?_
  rotate_left
  · injection hop with hop
    subst hop
    refine ⟨rfl, fun W hW => ?_⟩
    obtain ⟨s0, s1, s2, s3⟩ := hW
    go_simp
    try rfl
  try simp only [Act.put, List.setIfInBounds_toArray, List.set_cons_zero, List.set_cons_succ]
  refine wpAnyD_takeAt 2 (some 38) (v := ?_) rfl (by kernel_rfl) (by kernel_rfl) (by kernel_rfl) (by kernel_rfl) (by kernel_rfl) (fun _ _ _ h => h) (by exact HS5.out) (fun o hop => ?_) ?_
  rotate_left
  · injection hop with hop
    subst hop
    refine ⟨rfl, fun W hW => ?_⟩
    obtain ⟨s0, s1, s2, s3⟩ := hW
    go_simp
    try rfl
  try simp only [Act.put, List.setIfInBounds_toArray, List.set_cons_zero, List.set_cons_succ]
  refine wpAnyT_one (i := 3) (by kernel_rfl) rfl rfl (fun K' hK => ?_)
  go_simp
  go_at_call 57
  refine HC5.out.mono ?_
  rintro e w6 ⟨rfl, hK6, ho6, hb6⟩
  have HZ6 := hide' ((hb6.block Z HAB.out.2.1).trans HZ3.out)
  have HA6 := hide' ((hb6.block A HAB.out.1).trans HA3.out)
  have HB6 : Hid (Below w.heap.size w w6) := HB3.out.drew.trans (hb6.mono HAB.out.2.2.2.1)
  have HK6 := hide' hK6
  have HO6 := hide' (own_mono ho6 HAB.out.2.2.2.1)
  refine hK.out _ _ (fun _ => ⟨(cells_at HZ6.out 0).trans rfl, (cells_at HZ6.out 1).trans rfl, (cells_at HZ6.out 2).trans rfl, (cells_at HZ6.out 3).trans rfl⟩) ?_
  clear hK K' HC5 hK6 ho6 hb6 HZ3 HA3 HB3 HK3 HO3 m0 m1 m2 m3 HS5
  try simp only [Act.put, List.setIfInBounds_toArray, List.set_cons_zero, List.set_cons_succ]
  refine wpAnyT_one (i := 4) (by kernel_rfl) rfl rfl (fun K' hK => ?_)
  go_simp
  go_at_call 55
  refine (HAN.out w6).mono ?_
  rintro e w7 ⟨vr, rfl, hrv, hb7⟩
  have HZ7 := hide' ((hb7.block Z (lt_heap HZ6.out)).trans HZ6.out)
  have HA7 := hide' ((hb7.block A (lt_heap HA6.out)).trans HA6.out)
  have HK7 := hide' ((hb7.block K (lt_heap HK6.out)).trans HK6.out)
  have HB7 : Hid (Below w.heap.size w w7) := HB6.out.trans (hb7.mono HB6.out.size)
  have HO7 := hide' (own_below HO6.out hb7 (Nat.le_refl _))
  have HRV := hide' (own_mono hrv (Nat.zero_le _))
  refine hK.out _ _ (fun _ => ⟨(cells_at HZ7.out 0).trans rfl, (cells_at HZ7.out 1).trans rfl, (cells_at HZ7.out 2).trans rfl, (cells_at HZ7.out 3).trans rfl⟩) ?_
  clear hK K' hrv hb7 HZ6 HA6 HB6 HK6 HO6 HAN
  try simp only [Act.put, List.setIfInBounds_toArray, List.set_cons_zero, List.set_cons_succ]
  refine wpAnyT_one (i := 5) (by kernel_rfl) rfl rfl (fun K' hK => ?_)
  go_simp
  refine hK.out _ _ (fun h => absurd rfl h) ?_
  clear hK K'
  try simp only [Act.put, List.setIfInBounds_toArray, List.set_cons_zero, List.set_cons_succ]
  refine wpAnyT_done (by kernel_rfl) ?_ _
  clear HZ7
  obtain ⟨k0, k1, k2, k3, k4, k5, k6⟩ := cellsP7 HK7.out
  obtain ⟨b0, b1, b2, b3, b4, b5, b6⟩ := cellsP7 HA7.out
  obtain ⟨e0, e1, e2, e3, e4, e5, e6⟩ := frozenP7 HA7.out
  have HP := hide' (HZ.out w7 A HA7.out ⟨tlast, tarmed, tpoint, twant, tleft, tpat⟩ (.slice a1 l.length d1))
  simp only at HP
  have HOF := hide' (own_mono (own_keep HO7.out (but_keep HP.out.2 HA7.out) (by decide)) (Nat.zero_le _))
  have HBF := hide' (HB7.out.trans (HP.out.2.below HNE.out.2.2.1 HB7.out.size))
  have HRF := hide' (own_keep HRV.out (but_keep HP.out.2 HA7.out) (by decide))
  clear HZ HO7 HB7 HRV
  go_wp2
  refine bodyPost_ret (results_cell_row2 rfl _ _ A 24 _ (0, 0) _ rfl HP.out.1 Try.underlying24 rfl (by kernel_rfl)) rfl ?_
  exact ⟨a1, d1, vr, rfl, HOF.out, HRF.out, HBF.out⟩
end Go.Proofs.Ytjhmendiefojoam
