/- A master asks, hears, waits. -/
import Derived.Test.YtjhmendiefojoamYc
import Derived.Test.YtjhmendiefojoamO5
namespace Go.Proofs.Ytjhmendiefojoam
open Go.RowKit Go.Shelf

/-- A master, a row of messages and a word of error are answered. -/
def AskO (M : MaM) (o : List MsM) (code : Int) (w : World) (e : Ending) (w' : World) : Prop := ∃ v, e = .returned (.tuple #[.agg M.cells, v, .int .i64 code]) ∧ w'.ownsRow w.heap.size 39 4 v o.length (msgs o) ∧ Below w.heap.size w w'
set_option maxRecDepth 100000 in
set_option maxHeartbeats 2000000 in
theorem Ask_rest (M : MaM) (p : Int) (b : Bool) (w : World) (hm : M.May) (hr : M.ph = 0) (hp : 0 ≤ p ∧ p ≤ 15) (hno : M.no ≤ 1000000000) : Calls Try.prog 12 #[.agg M.cells, .int .i64 p, .bool b] w (AskO (askM M p b) [(askM M p b).msg] 0 w) := by
  have HMB := hide' (fun w' => masterMayBe_yes M w' hm)
  have HWI := hide' (within_any p 0 15)
  rw [decide_eq_true hp.1, decide_eq_true hp.2] at HWI
  have HC := hide' (fun B K w' h hB => command_any M B K w' h hB p b ⟨hm.no.1, hno⟩)
  have hle : decide (1000000000 < M.no) = false := decide_eq_false (by omega)
  obtain ⟨os, hos⟩ : ∃ q, q = [(askM M p b).msg] := ⟨_, rfl⟩
  obtain ⟨M1, hM1⟩ : ∃ q, q = askM M p b := ⟨_, rfl⟩
  rw [← hos, ← hM1] at HC ⊢
  clear hm hp hno hM1 hos
  obtain ⟨no, ph, now, pt, want, timer, pat, tries, lim, gave⟩ := M
  obtain ⟨no1, ph1, now1, pt1, want1, timer1, pat1, tries1, lim1, gave1⟩ := M1
  simp only at hr hle
  subst hr
  unfold AskO
  unfold MasO at HC
  unfold MaM.cells at HMB HC ⊢
  simp only at HMB HWI HC ⊢
  go_enter Try.func12, Try.ntmps12
  go_upto_region 1 with fail
  have hqY := (alloc_old (w.alloc (.cells #[.int .i64 no, .int .i64 0, .int .i64 now, .int .i64 pt, .bool want, .int .i64 timer, .int .i64 pat, .int .i64 tries, .int .i64 lim, .bool gave] 32)) (.cells #[.int .i64 0, .int .i64 0, .int .i64 0, .int .i64 0, .bool false, .int .i64 0, .int .i64 0, .int .i64 0, .int .i64 0, .bool false] 32) (lt_heap (alloc_new w (.cells #[.int .i64 no, .int .i64 0, .int .i64 now, .int .i64 pt, .bool want, .int .i64 timer, .int .i64 pat, .int .i64 tries, .int .i64 lim, .bool gave] 32)))).trans (alloc_new w (.cells #[.int .i64 no, .int .i64 0, .int .i64 now, .int .i64 pt, .bool want, .int .i64 timer, .int .i64 pat, .int .i64 tries, .int .i64 lim, .bool gave] 32))
  have hqA := alloc_new (w.alloc (.cells #[.int .i64 no, .int .i64 0, .int .i64 now, .int .i64 pt, .bool want, .int .i64 timer, .int .i64 pat, .int .i64 tries, .int .i64 lim, .bool gave] 32)) (.cells #[.int .i64 0, .int .i64 0, .int .i64 0, .int .i64 0, .bool false, .int .i64 0, .int .i64 0, .int .i64 0, .int .i64 0, .bool false] 32)
  have hb1 := (below_al w (.cells #[.int .i64 no, .int .i64 0, .int .i64 now, .int .i64 pt, .bool want, .int .i64 timer, .int .i64 pat, .int .i64 tries, .int .i64 lim, .bool gave] 32)).alloc (below_al w (.cells #[.int .i64 no, .int .i64 0, .int .i64 now, .int .i64 pt, .bool want, .int .i64 timer, .int .i64 pat, .int .i64 tries, .int .i64 lim, .bool gave] 32)).size (.cells #[.int .i64 0, .int .i64 0, .int .i64 0, .int .i64 0, .bool false, .int .i64 0, .int .i64 0, .int .i64 0, .int .i64 0, .bool false] 32)
  rw [show (w.alloc (.cells #[.int .i64 no, .int .i64 0, .int .i64 now, .int .i64 pt, .bool want, .int .i64 timer, .int .i64 pat, .int .i64 tries, .int .i64 lim, .bool gave] 32)).heap.size = w.heap.size + 1 from by simp only [World.size_alloc]] at hqA
  obtain ⟨w1, hw1⟩ : ∃ x, x = ((w.alloc (.cells #[.int .i64 no, .int .i64 0, .int .i64 now, .int .i64 pt, .bool want, .int .i64 timer, .int .i64 pat, .int .i64 tries, .int .i64 lim, .bool gave] 32)).alloc (.cells #[.int .i64 0, .int .i64 0, .int .i64 0, .int .i64 0, .bool false, .int .i64 0, .int .i64 0, .int .i64 0, .int .i64 0, .bool false] 32)) := ⟨_, rfl⟩
  rw [← hw1] at hqY hqA hb1 ⊢
  obtain ⟨Y, hnY⟩ : ∃ x, x = w.heap.size := ⟨_, rfl⟩
  obtain ⟨A, hnA⟩ : ∃ x, x = w.heap.size + 1 := ⟨_, rfl⟩
  have HNE : Hid (w.heap.size ≤ Y ∧ w.heap.size ≤ A ∧ Y ≠ A) := ⟨by omega, by omega, by omega⟩
  rw [← hnY] at hqY
  rw [← hnA] at hqA
  rw [show (Value.pointer (some { block := w.heap.size, off := 0 })) = Value.pointer (some { block := Y, off := 0 }) by rw [hnY], show (Value.pointer (some { block := w.heap.size + 1, off := 0 })) = Value.pointer (some { block := A, off := 0 }) by rw [hnA]]
  have HQY := hide' hqY
  have HQA := hide' hqA
  have HB1 := hide' hb1
  clear hqY hqA hb1 hw1 hnY hnA
  obtain ⟨c0, c1, c2, c3, c4, c5, c6, c7, c8, c9⟩ := cellsP10 HQY.out
  go_wp2_with fail
  refine (HMB.out _).mono ?_
  rintro e w2 ⟨rfl, hb2⟩
  have HY2 := hide' ((hb2.block Y (lt_heap HQY.out)).trans HQY.out)
  have HA2 := hide' ((hb2.block A (lt_heap HQA.out)).trans HQA.out)
  have HB2 : Hid (Below w.heap.size w w2) := HB1.out.trans (hb2.mono HB1.out.size)

  clear hb2 HQY HQA HB1 HMB c0 c1 c2 c3 c4 c5 c6 c7 c8 c9
  obtain ⟨c0, c1, c2, c3, c4, c5, c6, c7, c8, c9⟩ := cellsP10 HY2.out
  go_wp2_with fail
  refine (HWI.out _).mono ?_
  rintro e w3 ⟨rfl, rfl⟩
  go_upto_region 10 with fail
  have hqK := alloc_new w3 (.cells #[.int .i64 no, .int .i64 0, .int .i64 now, .int .i64 pt, .bool want, .int .i64 timer, .int .i64 pat, .int .i64 tries, .int .i64 lim, .bool gave] 64)
  have hbK := below_al w3 (.cells #[.int .i64 no, .int .i64 0, .int .i64 now, .int .i64 pt, .bool want, .int .i64 timer, .int .i64 pat, .int .i64 tries, .int .i64 lim, .bool gave] 64)
  obtain ⟨w8, hw8⟩ : ∃ x, x = w3.alloc (.cells #[.int .i64 no, .int .i64 0, .int .i64 now, .int .i64 pt, .bool want, .int .i64 timer, .int .i64 pat, .int .i64 tries, .int .i64 lim, .bool gave] 64) := ⟨_, rfl⟩
  rw [← hw8] at hqK hbK ⊢
  obtain ⟨Kb, hKb⟩ : ∃ x, x = w3.heap.size := ⟨_, rfl⟩
  rw [← hKb] at hqK hbK
  rw [show (Value.pointer (some { block := w3.heap.size, off := 0 })) = Value.pointer (some { block := Kb, off := 0 }) by rw [hKb]]
  have HQK := hide' hqK
  have HBK := hide' hbK
  have HKE := hide' hKb
  clear hqK hbK hw8 hKb
  have HAK : Hid (w8.heap[A]? = some (.cells #[.int .i64 0, .int .i64 0, .int .i64 0, .int .i64 0, .bool false, .int .i64 0, .int .i64 0, .int .i64 0, .int .i64 0, .bool false] 32 (0, 0))) := (HBK.out.block A (by rw [HKE.out]; exact lt_heap HA2.out)).trans HA2.out
  have HB8 : Hid (Below w.heap.size w w8) := HB2.out.trans (by rw [HKE.out] at HBK; exact HBK.out.mono HB2.out.size)
  have HAL : Hid (A < Kb ∧ w.heap.size ≤ Kb) := ⟨by rw [HKE.out]; exact lt_heap HA2.out, by rw [HKE.out]; exact HB2.out.size⟩
  clear c0 c1 c2 c3 c4 c5 c6 c7 c8 c9 HY2 HB2 HA2 HKE
  go_wp2_with fail
  refine (HC.out Kb Kb w8 HQK.out (Nat.le_refl _)).mono ?_
  rintro e w9 ⟨v, rfl, q1, q2, q3⟩
  have HKw := hide' q1
  have HAw := hide' ((q3.block A HAL.out.1).trans HAK.out)
  have HRW := hide' (own_mono q2 HAL.out.2)
  have HB9 := hide' (HB8.out.trans (q3.mono HAL.out.2))
  clear q1 q2 q3 HC HAK HB8 HQK HBK
  have HAx := hide' HAw.out
  obtain ⟨k0, k1, k2, k3, k4, k5, k6, k7, k8, k9⟩ := cellsP10 HKw.out
  obtain ⟨b0, b1, b2, b3, b4, b5, b6, b7, b8, b9⟩ := cellsP10 HAx.out
  obtain ⟨e0, e1, e2, e3, e4, e5, e6, e7, e8, e9⟩ := frozenP10 HAx.out
  have HP := hide' (put10 HAx.out (.int .i64 no1) (.int .i64 ph1) (.int .i64 now1) (.int .i64 pt1) (.bool want1) (.int .i64 timer1) (.int .i64 pat1) (.int .i64 tries1) (.int .i64 lim1) (.bool gave1))
  have HRF := hide' (own_keep HRW.out (but_keep HP.out.2 HAx.out) (by decide))
  have HBF := hide' (HB9.out.trans (HP.out.2.below HNE.out.2.1 HB9.out.size))
  clear HAw HKw HAx
  go_wp2
  refine bodyPost_ret (results_cell_row2 rfl _ _ A 32 _ (0, 0) _ rfl HP.out.1 Try.underlying32 rfl (by kernel_rfl)) rfl ?_
  exact ⟨_, rfl, HRF.out, HBF.out⟩
set_option maxRecDepth 100000 in
set_option maxHeartbeats 2000000 in
theorem Ask_busy (M : MaM) (p : Int) (b : Bool) (w : World) (hm : M.May) (hr : M.ph ≠ 0) : Calls Try.prog 12 #[.agg M.cells, .int .i64 p, .bool b] w (AskO M [] 17 w) := by
  have HMB := hide' (fun w' => masterMayBe_yes M w' hm)
  have hr2 : (M.ph != 0) = true := bne_iff_ne.2 hr
  clear hm
  obtain ⟨no, ph, now, pt, want, timer, pat, tries, lim, gave⟩ := M
  simp only at hr hr2
  unfold AskO
  unfold MaM.cells at HMB ⊢
  simp only at HMB ⊢
  go_enter Try.func12, Try.ntmps12
  go_upto_region 1 with fail
  have hqY := (alloc_old (w.alloc (.cells #[.int .i64 no, .int .i64 ph, .int .i64 now, .int .i64 pt, .bool want, .int .i64 timer, .int .i64 pat, .int .i64 tries, .int .i64 lim, .bool gave] 32)) (.cells #[.int .i64 0, .int .i64 0, .int .i64 0, .int .i64 0, .bool false, .int .i64 0, .int .i64 0, .int .i64 0, .int .i64 0, .bool false] 32) (lt_heap (alloc_new w (.cells #[.int .i64 no, .int .i64 ph, .int .i64 now, .int .i64 pt, .bool want, .int .i64 timer, .int .i64 pat, .int .i64 tries, .int .i64 lim, .bool gave] 32)))).trans (alloc_new w (.cells #[.int .i64 no, .int .i64 ph, .int .i64 now, .int .i64 pt, .bool want, .int .i64 timer, .int .i64 pat, .int .i64 tries, .int .i64 lim, .bool gave] 32))
  have hqA := alloc_new (w.alloc (.cells #[.int .i64 no, .int .i64 ph, .int .i64 now, .int .i64 pt, .bool want, .int .i64 timer, .int .i64 pat, .int .i64 tries, .int .i64 lim, .bool gave] 32)) (.cells #[.int .i64 0, .int .i64 0, .int .i64 0, .int .i64 0, .bool false, .int .i64 0, .int .i64 0, .int .i64 0, .int .i64 0, .bool false] 32)
  have hb1 := (below_al w (.cells #[.int .i64 no, .int .i64 ph, .int .i64 now, .int .i64 pt, .bool want, .int .i64 timer, .int .i64 pat, .int .i64 tries, .int .i64 lim, .bool gave] 32)).alloc (below_al w (.cells #[.int .i64 no, .int .i64 ph, .int .i64 now, .int .i64 pt, .bool want, .int .i64 timer, .int .i64 pat, .int .i64 tries, .int .i64 lim, .bool gave] 32)).size (.cells #[.int .i64 0, .int .i64 0, .int .i64 0, .int .i64 0, .bool false, .int .i64 0, .int .i64 0, .int .i64 0, .int .i64 0, .bool false] 32)
  rw [show (w.alloc (.cells #[.int .i64 no, .int .i64 ph, .int .i64 now, .int .i64 pt, .bool want, .int .i64 timer, .int .i64 pat, .int .i64 tries, .int .i64 lim, .bool gave] 32)).heap.size = w.heap.size + 1 from by simp only [World.size_alloc]] at hqA
  obtain ⟨w1, hw1⟩ : ∃ x, x = ((w.alloc (.cells #[.int .i64 no, .int .i64 ph, .int .i64 now, .int .i64 pt, .bool want, .int .i64 timer, .int .i64 pat, .int .i64 tries, .int .i64 lim, .bool gave] 32)).alloc (.cells #[.int .i64 0, .int .i64 0, .int .i64 0, .int .i64 0, .bool false, .int .i64 0, .int .i64 0, .int .i64 0, .int .i64 0, .bool false] 32)) := ⟨_, rfl⟩
  rw [← hw1] at hqY hqA hb1 ⊢
  obtain ⟨Y, hnY⟩ : ∃ x, x = w.heap.size := ⟨_, rfl⟩
  obtain ⟨A, hnA⟩ : ∃ x, x = w.heap.size + 1 := ⟨_, rfl⟩
  have HNE : Hid (w.heap.size ≤ Y ∧ w.heap.size ≤ A ∧ Y ≠ A) := ⟨by omega, by omega, by omega⟩
  rw [← hnY] at hqY
  rw [← hnA] at hqA
  rw [show (Value.pointer (some { block := w.heap.size, off := 0 })) = Value.pointer (some { block := Y, off := 0 }) by rw [hnY], show (Value.pointer (some { block := w.heap.size + 1, off := 0 })) = Value.pointer (some { block := A, off := 0 }) by rw [hnA]]
  have HQY := hide' hqY
  have HQA := hide' hqA
  have HB1 := hide' hb1
  clear hqY hqA hb1 hw1 hnY hnA
  obtain ⟨c0, c1, c2, c3, c4, c5, c6, c7, c8, c9⟩ := cellsP10 HQY.out
  go_wp2_with fail
  refine (HMB.out _).mono ?_
  rintro e w2 ⟨rfl, hb2⟩
  have HY2 := hide' ((hb2.block Y (lt_heap HQY.out)).trans HQY.out)
  have HA2 := hide' ((hb2.block A (lt_heap HQA.out)).trans HQA.out)
  have HB2 : Hid (Below w.heap.size w w2) := HB1.out.trans (hb2.mono HB1.out.size)

  clear hb2 HQY HQA HB1 HMB c0 c1 c2 c3 c4 c5 c6 c7 c8 c9
  obtain ⟨c0, c1, c2, c3, c4, c5, c6, c7, c8, c9⟩ := cellsP10 HY2.out
  obtain ⟨b0, b1, b2, b3, b4, b5, b6, b7, b8, b9⟩ := cellsP10 HA2.out
  obtain ⟨e0, e1, e2, e3, e4, e5, e6, e7, e8, e9⟩ := frozenP10 HA2.out
  have HP := hide' (put10 HA2.out (.int .i64 no) (.int .i64 ph) (.int .i64 now) (.int .i64 pt) (.bool want) (.int .i64 timer) (.int .i64 pat) (.int .i64 tries) (.int .i64 lim) (.bool gave))
  have HBF := hide' (HB2.out.trans (HP.out.2.below HNE.out.2.1 HB2.out.size))
  go_wp2
  refine bodyPost_ret (results_cell_row2 rfl _ _ A 32 _ (0, 0) _ rfl HP.out.1 Try.underlying32 rfl (by kernel_rfl)) rfl ?_
  exact ⟨_, rfl, World.ownsRow_nil _ _ _ _, HBF.out⟩
set_option maxRecDepth 100000 in
set_option maxHeartbeats 2000000 in
theorem Wait_rest (M : MaM) (w : World) (hm : M.May) (hr : M.ph = 0) : Calls Try.prog 17 #[.agg M.cells] w (AskO M [] 0 w) := by
  have HMB := hide' (fun w' => masterMayBe_yes M w' hm)
  clear hm
  obtain ⟨no, ph, now, pt, want, timer, pat, tries, lim, gave⟩ := M
  simp only at hr
  subst hr
  unfold AskO
  unfold MaM.cells at HMB ⊢
  simp only at HMB ⊢
  go_enter Try.func17, Try.ntmps17
  go_upto_region 1 with fail
  have hqY := (alloc_old (w.alloc (.cells #[.int .i64 no, .int .i64 0, .int .i64 now, .int .i64 pt, .bool want, .int .i64 timer, .int .i64 pat, .int .i64 tries, .int .i64 lim, .bool gave] 32)) (.cells #[.int .i64 0, .int .i64 0, .int .i64 0, .int .i64 0, .bool false, .int .i64 0, .int .i64 0, .int .i64 0, .int .i64 0, .bool false] 32) (lt_heap (alloc_new w (.cells #[.int .i64 no, .int .i64 0, .int .i64 now, .int .i64 pt, .bool want, .int .i64 timer, .int .i64 pat, .int .i64 tries, .int .i64 lim, .bool gave] 32)))).trans (alloc_new w (.cells #[.int .i64 no, .int .i64 0, .int .i64 now, .int .i64 pt, .bool want, .int .i64 timer, .int .i64 pat, .int .i64 tries, .int .i64 lim, .bool gave] 32))
  have hqA := alloc_new (w.alloc (.cells #[.int .i64 no, .int .i64 0, .int .i64 now, .int .i64 pt, .bool want, .int .i64 timer, .int .i64 pat, .int .i64 tries, .int .i64 lim, .bool gave] 32)) (.cells #[.int .i64 0, .int .i64 0, .int .i64 0, .int .i64 0, .bool false, .int .i64 0, .int .i64 0, .int .i64 0, .int .i64 0, .bool false] 32)
  have hb1 := (below_al w (.cells #[.int .i64 no, .int .i64 0, .int .i64 now, .int .i64 pt, .bool want, .int .i64 timer, .int .i64 pat, .int .i64 tries, .int .i64 lim, .bool gave] 32)).alloc (below_al w (.cells #[.int .i64 no, .int .i64 0, .int .i64 now, .int .i64 pt, .bool want, .int .i64 timer, .int .i64 pat, .int .i64 tries, .int .i64 lim, .bool gave] 32)).size (.cells #[.int .i64 0, .int .i64 0, .int .i64 0, .int .i64 0, .bool false, .int .i64 0, .int .i64 0, .int .i64 0, .int .i64 0, .bool false] 32)
  rw [show (w.alloc (.cells #[.int .i64 no, .int .i64 0, .int .i64 now, .int .i64 pt, .bool want, .int .i64 timer, .int .i64 pat, .int .i64 tries, .int .i64 lim, .bool gave] 32)).heap.size = w.heap.size + 1 from by simp only [World.size_alloc]] at hqA
  obtain ⟨w1, hw1⟩ : ∃ x, x = ((w.alloc (.cells #[.int .i64 no, .int .i64 0, .int .i64 now, .int .i64 pt, .bool want, .int .i64 timer, .int .i64 pat, .int .i64 tries, .int .i64 lim, .bool gave] 32)).alloc (.cells #[.int .i64 0, .int .i64 0, .int .i64 0, .int .i64 0, .bool false, .int .i64 0, .int .i64 0, .int .i64 0, .int .i64 0, .bool false] 32)) := ⟨_, rfl⟩
  rw [← hw1] at hqY hqA hb1 ⊢
  obtain ⟨Y, hnY⟩ : ∃ x, x = w.heap.size := ⟨_, rfl⟩
  obtain ⟨A, hnA⟩ : ∃ x, x = w.heap.size + 1 := ⟨_, rfl⟩
  have HNE : Hid (w.heap.size ≤ Y ∧ w.heap.size ≤ A ∧ Y ≠ A) := ⟨by omega, by omega, by omega⟩
  rw [← hnY] at hqY
  rw [← hnA] at hqA
  rw [show (Value.pointer (some { block := w.heap.size, off := 0 })) = Value.pointer (some { block := Y, off := 0 }) by rw [hnY], show (Value.pointer (some { block := w.heap.size + 1, off := 0 })) = Value.pointer (some { block := A, off := 0 }) by rw [hnA]]
  have HQY := hide' hqY
  have HQA := hide' hqA
  have HB1 := hide' hb1
  clear hqY hqA hb1 hw1 hnY hnA
  obtain ⟨c0, c1, c2, c3, c4, c5, c6, c7, c8, c9⟩ := cellsP10 HQY.out
  go_wp2_with fail
  refine (HMB.out _).mono ?_
  rintro e w2 ⟨rfl, hb2⟩
  have HY2 := hide' ((hb2.block Y (lt_heap HQY.out)).trans HQY.out)
  have HA2 := hide' ((hb2.block A (lt_heap HQA.out)).trans HQA.out)
  have HB2 : Hid (Below w.heap.size w w2) := HB1.out.trans (hb2.mono HB1.out.size)

  clear hb2 HQY HQA HB1 HMB c0 c1 c2 c3 c4 c5 c6 c7 c8 c9
  obtain ⟨c0, c1, c2, c3, c4, c5, c6, c7, c8, c9⟩ := cellsP10 HY2.out
  obtain ⟨b0, b1, b2, b3, b4, b5, b6, b7, b8, b9⟩ := cellsP10 HA2.out
  obtain ⟨e0, e1, e2, e3, e4, e5, e6, e7, e8, e9⟩ := frozenP10 HA2.out
  have HP := hide' (put10 HA2.out (.int .i64 no) (.int .i64 0) (.int .i64 now) (.int .i64 pt) (.bool want) (.int .i64 timer) (.int .i64 pat) (.int .i64 tries) (.int .i64 lim) (.bool gave))
  have HBF := hide' (HB2.out.trans (HP.out.2.below HNE.out.2.1 HB2.out.size))
  go_wp2
  refine bodyPost_ret (results_cell_row2 rfl _ _ A 32 _ (0, 0) _ rfl HP.out.1 Try.underlying32 rfl (by kernel_rfl)) rfl ?_
  exact ⟨_, rfl, World.ownsRow_nil _ _ _ _, HBF.out⟩
set_option maxRecDepth 100000 in
set_option maxHeartbeats 2000000 in
theorem Wait_busy (M : MaM) (w : World) (hm : M.May) (hb : M.Busy) (hr : M.ph ≠ 0) : Calls Try.prog 17 #[.agg M.cells] w (AskO (waitM M) (waitL M) 0 w) := by
  have HMB := hide' (fun w' => masterMayBe_yes M w' hm)
  have hr2 : (M.ph == 0) = false := beq_eq_false_iff_ne.2 hr
  have HC := hide' (fun B K w' h hB => mtick_any M B K w' h hB ⟨hb.timer.1, by have := hb.timer.2; have := hm.pat.2; omega⟩ ⟨by have := hb.tries.1; omega, by have := hb.tries.2; have := hm.lim.2; omega⟩)
  obtain ⟨os, hos⟩ : ∃ q, q = waitL M := ⟨_, rfl⟩
  obtain ⟨M1, hM1⟩ : ∃ q, q = waitM M := ⟨_, rfl⟩
  have e1 := hos
  have e2 := hM1
  unfold waitL at e1
  unfold waitM at e2
  rw [if_neg hr] at e1 e2
  rw [← e1, ← e2] at HC
  rw [← hos, ← hM1]
  clear hm hb hM1 hos e1 e2
  obtain ⟨no, ph, now, pt, want, timer, pat, tries, lim, gave⟩ := M
  obtain ⟨no1, ph1, now1, pt1, want1, timer1, pat1, tries1, lim1, gave1⟩ := M1
  simp only at hr hr2
  unfold AskO
  unfold MasO at HC
  unfold MaM.cells at HMB HC ⊢
  simp only at HMB HC ⊢
  go_enter Try.func17, Try.ntmps17
  go_upto_region 1 with fail
  have hqY := (alloc_old (w.alloc (.cells #[.int .i64 no, .int .i64 ph, .int .i64 now, .int .i64 pt, .bool want, .int .i64 timer, .int .i64 pat, .int .i64 tries, .int .i64 lim, .bool gave] 32)) (.cells #[.int .i64 0, .int .i64 0, .int .i64 0, .int .i64 0, .bool false, .int .i64 0, .int .i64 0, .int .i64 0, .int .i64 0, .bool false] 32) (lt_heap (alloc_new w (.cells #[.int .i64 no, .int .i64 ph, .int .i64 now, .int .i64 pt, .bool want, .int .i64 timer, .int .i64 pat, .int .i64 tries, .int .i64 lim, .bool gave] 32)))).trans (alloc_new w (.cells #[.int .i64 no, .int .i64 ph, .int .i64 now, .int .i64 pt, .bool want, .int .i64 timer, .int .i64 pat, .int .i64 tries, .int .i64 lim, .bool gave] 32))
  have hqA := alloc_new (w.alloc (.cells #[.int .i64 no, .int .i64 ph, .int .i64 now, .int .i64 pt, .bool want, .int .i64 timer, .int .i64 pat, .int .i64 tries, .int .i64 lim, .bool gave] 32)) (.cells #[.int .i64 0, .int .i64 0, .int .i64 0, .int .i64 0, .bool false, .int .i64 0, .int .i64 0, .int .i64 0, .int .i64 0, .bool false] 32)
  have hb1 := (below_al w (.cells #[.int .i64 no, .int .i64 ph, .int .i64 now, .int .i64 pt, .bool want, .int .i64 timer, .int .i64 pat, .int .i64 tries, .int .i64 lim, .bool gave] 32)).alloc (below_al w (.cells #[.int .i64 no, .int .i64 ph, .int .i64 now, .int .i64 pt, .bool want, .int .i64 timer, .int .i64 pat, .int .i64 tries, .int .i64 lim, .bool gave] 32)).size (.cells #[.int .i64 0, .int .i64 0, .int .i64 0, .int .i64 0, .bool false, .int .i64 0, .int .i64 0, .int .i64 0, .int .i64 0, .bool false] 32)
  rw [show (w.alloc (.cells #[.int .i64 no, .int .i64 ph, .int .i64 now, .int .i64 pt, .bool want, .int .i64 timer, .int .i64 pat, .int .i64 tries, .int .i64 lim, .bool gave] 32)).heap.size = w.heap.size + 1 from by simp only [World.size_alloc]] at hqA
  obtain ⟨w1, hw1⟩ : ∃ x, x = ((w.alloc (.cells #[.int .i64 no, .int .i64 ph, .int .i64 now, .int .i64 pt, .bool want, .int .i64 timer, .int .i64 pat, .int .i64 tries, .int .i64 lim, .bool gave] 32)).alloc (.cells #[.int .i64 0, .int .i64 0, .int .i64 0, .int .i64 0, .bool false, .int .i64 0, .int .i64 0, .int .i64 0, .int .i64 0, .bool false] 32)) := ⟨_, rfl⟩
  rw [← hw1] at hqY hqA hb1 ⊢
  obtain ⟨Y, hnY⟩ : ∃ x, x = w.heap.size := ⟨_, rfl⟩
  obtain ⟨A, hnA⟩ : ∃ x, x = w.heap.size + 1 := ⟨_, rfl⟩
  have HNE : Hid (w.heap.size ≤ Y ∧ w.heap.size ≤ A ∧ Y ≠ A) := ⟨by omega, by omega, by omega⟩
  rw [← hnY] at hqY
  rw [← hnA] at hqA
  rw [show (Value.pointer (some { block := w.heap.size, off := 0 })) = Value.pointer (some { block := Y, off := 0 }) by rw [hnY], show (Value.pointer (some { block := w.heap.size + 1, off := 0 })) = Value.pointer (some { block := A, off := 0 }) by rw [hnA]]
  have HQY := hide' hqY
  have HQA := hide' hqA
  have HB1 := hide' hb1
  clear hqY hqA hb1 hw1 hnY hnA
  obtain ⟨c0, c1, c2, c3, c4, c5, c6, c7, c8, c9⟩ := cellsP10 HQY.out
  go_wp2_with fail
  refine (HMB.out _).mono ?_
  rintro e w2 ⟨rfl, hb2⟩
  have HY2 := hide' ((hb2.block Y (lt_heap HQY.out)).trans HQY.out)
  have HA2 := hide' ((hb2.block A (lt_heap HQA.out)).trans HQA.out)
  have HB2 : Hid (Below w.heap.size w w2) := HB1.out.trans (hb2.mono HB1.out.size)

  clear hb2 HQY HQA HB1 HMB c0 c1 c2 c3 c4 c5 c6 c7 c8 c9
  obtain ⟨c0, c1, c2, c3, c4, c5, c6, c7, c8, c9⟩ := cellsP10 HY2.out
  go_upto_region 6 with fail
  have hqK := alloc_new w2 (.cells #[.int .i64 no, .int .i64 ph, .int .i64 now, .int .i64 pt, .bool want, .int .i64 timer, .int .i64 pat, .int .i64 tries, .int .i64 lim, .bool gave] 64)
  have hbK := below_al w2 (.cells #[.int .i64 no, .int .i64 ph, .int .i64 now, .int .i64 pt, .bool want, .int .i64 timer, .int .i64 pat, .int .i64 tries, .int .i64 lim, .bool gave] 64)
  obtain ⟨w8, hw8⟩ : ∃ x, x = w2.alloc (.cells #[.int .i64 no, .int .i64 ph, .int .i64 now, .int .i64 pt, .bool want, .int .i64 timer, .int .i64 pat, .int .i64 tries, .int .i64 lim, .bool gave] 64) := ⟨_, rfl⟩
  rw [← hw8] at hqK hbK ⊢
  obtain ⟨Kb, hKb⟩ : ∃ x, x = w2.heap.size := ⟨_, rfl⟩
  rw [← hKb] at hqK hbK
  rw [show (Value.pointer (some { block := w2.heap.size, off := 0 })) = Value.pointer (some { block := Kb, off := 0 }) by rw [hKb]]
  have HQK := hide' hqK
  have HBK := hide' hbK
  have HKE := hide' hKb
  clear hqK hbK hw8 hKb
  have HAK : Hid (w8.heap[A]? = some (.cells #[.int .i64 0, .int .i64 0, .int .i64 0, .int .i64 0, .bool false, .int .i64 0, .int .i64 0, .int .i64 0, .int .i64 0, .bool false] 32 (0, 0))) := (HBK.out.block A (by rw [HKE.out]; exact lt_heap HA2.out)).trans HA2.out
  have HB8 : Hid (Below w.heap.size w w8) := HB2.out.trans (by rw [HKE.out] at HBK; exact HBK.out.mono HB2.out.size)
  have HAL : Hid (A < Kb ∧ w.heap.size ≤ Kb) := ⟨by rw [HKE.out]; exact lt_heap HA2.out, by rw [HKE.out]; exact HB2.out.size⟩
  clear c0 c1 c2 c3 c4 c5 c6 c7 c8 c9 HY2 HB2 HA2 HKE
  go_wp2_with fail
  refine (HC.out Kb Kb w8 HQK.out (Nat.le_refl _)).mono ?_
  rintro e w9 ⟨v, rfl, q1, q2, q3⟩
  have HKw := hide' q1
  have HAw := hide' ((q3.block A HAL.out.1).trans HAK.out)
  have HRW := hide' (own_mono q2 HAL.out.2)
  have HB9 := hide' (HB8.out.trans (q3.mono HAL.out.2))
  clear q1 q2 q3 HC HAK HB8 HQK HBK
  have HAx := hide' HAw.out
  obtain ⟨k0, k1, k2, k3, k4, k5, k6, k7, k8, k9⟩ := cellsP10 HKw.out
  obtain ⟨b0, b1, b2, b3, b4, b5, b6, b7, b8, b9⟩ := cellsP10 HAx.out
  obtain ⟨e0, e1, e2, e3, e4, e5, e6, e7, e8, e9⟩ := frozenP10 HAx.out
  have HP := hide' (put10 HAx.out (.int .i64 no1) (.int .i64 ph1) (.int .i64 now1) (.int .i64 pt1) (.bool want1) (.int .i64 timer1) (.int .i64 pat1) (.int .i64 tries1) (.int .i64 lim1) (.bool gave1))
  have HRF := hide' (own_keep HRW.out (but_keep HP.out.2 HAx.out) (by decide))
  have HBF := hide' (HB9.out.trans (HP.out.2.below HNE.out.2.1 HB9.out.size))
  clear HAw HKw HAx
  go_wp2
  refine bodyPost_ret (results_cell_row2 rfl _ _ A 32 _ (0, 0) _ rfl HP.out.1 Try.underlying32 rfl (by kernel_rfl)) rfl ?_
  exact ⟨_, rfl, HRF.out, HBF.out⟩
theorem Wait_any (M : MaM) (w : World) (hm : M.May) : Calls Try.prog 17 #[.agg M.cells] w (AskO (waitM M) (waitL M) 0 w) := by
  by_cases hr : M.ph = 0
  · have h := Wait_rest M w hm hr
    unfold waitM waitL
    rw [if_pos hr, if_pos hr]
    exact h
  · rcases hm.st with h | h
    · exact absurd (by rw [h]; rfl) hr
    · exact Wait_busy M w hm h hr
end Go.Proofs.Ytjhmendiefojoam
