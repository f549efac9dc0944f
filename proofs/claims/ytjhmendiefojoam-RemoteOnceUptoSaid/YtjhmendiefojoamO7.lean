/- A master hears. -/
import Derived.Test.YtjhmendiefojoamYc
import Derived.Test.YtjhmendiefojoamO6
namespace Go.Proofs.Ytjhmendiefojoam
open Go.RowKit Go.Shelf

theorem mfunc_some (f : FuncId) (xs : Array Value) (w : World) : Sem.run Try.prog (binOp .eql 67 (.func (.func f) xs #[]) .nilFunc) w = .ok (.bool false) w := by rfl
attribute [local go_sem] mfunc_some
set_option maxRecDepth 100000 in
set_option maxHeartbeats 2000000 in
theorem Heard_r2 (M : MaM) (a : MsM) (w : World) (hm : M.May) (hk : a.kind = 2) (hp : M.ph = 0) : Calls Try.prog 15 #[.agg M.cells, .agg a.cells] w (AskO M [] 0 w) := by
  have HMB := hide' (fun w' => masterMayBe_yes M w' hm)
  clear hm
  obtain ⟨no, ph, now, pt, want, timer, pat, tries, lim, gave⟩ := M
  obtain ⟨akind, ano, apt, awt⟩ := a
  simp only at hk hp
  subst hk hp
  unfold AskO
  unfold MaM.cells at HMB ⊢
  unfold MsM.cells
  simp only at HMB ⊢
  go_enter Try.func15, Try.ntmps15
  go_upto_region 1 with fail
  have hqY := (alloc_old ((w.alloc (.cells #[.int .i64 no, .int .i64 0, .int .i64 now, .int .i64 pt, .bool want, .int .i64 timer, .int .i64 pat, .int .i64 tries, .int .i64 lim, .bool gave] 32)).alloc (.cells #[.int .i64 2, .int .i64 ano, .int .i64 apt, .bool awt] 39)) (.cells #[.int .i64 0, .int .i64 0, .int .i64 0, .int .i64 0, .bool false, .int .i64 0, .int .i64 0, .int .i64 0, .int .i64 0, .bool false] 32) (lt_heap ((alloc_old (w.alloc (.cells #[.int .i64 no, .int .i64 0, .int .i64 now, .int .i64 pt, .bool want, .int .i64 timer, .int .i64 pat, .int .i64 tries, .int .i64 lim, .bool gave] 32)) (.cells #[.int .i64 2, .int .i64 ano, .int .i64 apt, .bool awt] 39) (lt_heap (alloc_new w (.cells #[.int .i64 no, .int .i64 0, .int .i64 now, .int .i64 pt, .bool want, .int .i64 timer, .int .i64 pat, .int .i64 tries, .int .i64 lim, .bool gave] 32)))).trans (alloc_new w (.cells #[.int .i64 no, .int .i64 0, .int .i64 now, .int .i64 pt, .bool want, .int .i64 timer, .int .i64 pat, .int .i64 tries, .int .i64 lim, .bool gave] 32))))).trans ((alloc_old (w.alloc (.cells #[.int .i64 no, .int .i64 0, .int .i64 now, .int .i64 pt, .bool want, .int .i64 timer, .int .i64 pat, .int .i64 tries, .int .i64 lim, .bool gave] 32)) (.cells #[.int .i64 2, .int .i64 ano, .int .i64 apt, .bool awt] 39) (lt_heap (alloc_new w (.cells #[.int .i64 no, .int .i64 0, .int .i64 now, .int .i64 pt, .bool want, .int .i64 timer, .int .i64 pat, .int .i64 tries, .int .i64 lim, .bool gave] 32)))).trans (alloc_new w (.cells #[.int .i64 no, .int .i64 0, .int .i64 now, .int .i64 pt, .bool want, .int .i64 timer, .int .i64 pat, .int .i64 tries, .int .i64 lim, .bool gave] 32)))
  have hqX := (alloc_old ((w.alloc (.cells #[.int .i64 no, .int .i64 0, .int .i64 now, .int .i64 pt, .bool want, .int .i64 timer, .int .i64 pat, .int .i64 tries, .int .i64 lim, .bool gave] 32)).alloc (.cells #[.int .i64 2, .int .i64 ano, .int .i64 apt, .bool awt] 39)) (.cells #[.int .i64 0, .int .i64 0, .int .i64 0, .int .i64 0, .bool false, .int .i64 0, .int .i64 0, .int .i64 0, .int .i64 0, .bool false] 32) (lt_heap (alloc_new (w.alloc (.cells #[.int .i64 no, .int .i64 0, .int .i64 now, .int .i64 pt, .bool want, .int .i64 timer, .int .i64 pat, .int .i64 tries, .int .i64 lim, .bool gave] 32)) (.cells #[.int .i64 2, .int .i64 ano, .int .i64 apt, .bool awt] 39)))).trans (alloc_new (w.alloc (.cells #[.int .i64 no, .int .i64 0, .int .i64 now, .int .i64 pt, .bool want, .int .i64 timer, .int .i64 pat, .int .i64 tries, .int .i64 lim, .bool gave] 32)) (.cells #[.int .i64 2, .int .i64 ano, .int .i64 apt, .bool awt] 39))
  have hqA := alloc_new ((w.alloc (.cells #[.int .i64 no, .int .i64 0, .int .i64 now, .int .i64 pt, .bool want, .int .i64 timer, .int .i64 pat, .int .i64 tries, .int .i64 lim, .bool gave] 32)).alloc (.cells #[.int .i64 2, .int .i64 ano, .int .i64 apt, .bool awt] 39)) (.cells #[.int .i64 0, .int .i64 0, .int .i64 0, .int .i64 0, .bool false, .int .i64 0, .int .i64 0, .int .i64 0, .int .i64 0, .bool false] 32)
  have hb1 := ((below_al w (.cells #[.int .i64 no, .int .i64 0, .int .i64 now, .int .i64 pt, .bool want, .int .i64 timer, .int .i64 pat, .int .i64 tries, .int .i64 lim, .bool gave] 32)).alloc (below_al w (.cells #[.int .i64 no, .int .i64 0, .int .i64 now, .int .i64 pt, .bool want, .int .i64 timer, .int .i64 pat, .int .i64 tries, .int .i64 lim, .bool gave] 32)).size (.cells #[.int .i64 2, .int .i64 ano, .int .i64 apt, .bool awt] 39)).alloc ((below_al w (.cells #[.int .i64 no, .int .i64 0, .int .i64 now, .int .i64 pt, .bool want, .int .i64 timer, .int .i64 pat, .int .i64 tries, .int .i64 lim, .bool gave] 32)).alloc (below_al w (.cells #[.int .i64 no, .int .i64 0, .int .i64 now, .int .i64 pt, .bool want, .int .i64 timer, .int .i64 pat, .int .i64 tries, .int .i64 lim, .bool gave] 32)).size (.cells #[.int .i64 2, .int .i64 ano, .int .i64 apt, .bool awt] 39)).size (.cells #[.int .i64 0, .int .i64 0, .int .i64 0, .int .i64 0, .bool false, .int .i64 0, .int .i64 0, .int .i64 0, .int .i64 0, .bool false] 32)
  rw [show (w.alloc (.cells #[.int .i64 no, .int .i64 0, .int .i64 now, .int .i64 pt, .bool want, .int .i64 timer, .int .i64 pat, .int .i64 tries, .int .i64 lim, .bool gave] 32)).heap.size = w.heap.size + 1 from by simp only [World.size_alloc]] at hqX
  rw [show ((w.alloc (.cells #[.int .i64 no, .int .i64 0, .int .i64 now, .int .i64 pt, .bool want, .int .i64 timer, .int .i64 pat, .int .i64 tries, .int .i64 lim, .bool gave] 32)).alloc (.cells #[.int .i64 2, .int .i64 ano, .int .i64 apt, .bool awt] 39)).heap.size = w.heap.size + 1 + 1 from by simp only [World.size_alloc]] at hqA
  obtain ⟨w1, hw1⟩ : ∃ x, x = (((w.alloc (.cells #[.int .i64 no, .int .i64 0, .int .i64 now, .int .i64 pt, .bool want, .int .i64 timer, .int .i64 pat, .int .i64 tries, .int .i64 lim, .bool gave] 32)).alloc (.cells #[.int .i64 2, .int .i64 ano, .int .i64 apt, .bool awt] 39)).alloc (.cells #[.int .i64 0, .int .i64 0, .int .i64 0, .int .i64 0, .bool false, .int .i64 0, .int .i64 0, .int .i64 0, .int .i64 0, .bool false] 32)) := ⟨_, rfl⟩
  rw [← hw1] at hqY hqX hqA hb1 ⊢
  obtain ⟨Y, hnY⟩ : ∃ x, x = w.heap.size := ⟨_, rfl⟩
  obtain ⟨X, hnX⟩ : ∃ x, x = w.heap.size + 1 := ⟨_, rfl⟩
  obtain ⟨A, hnA⟩ : ∃ x, x = w.heap.size + 1 + 1 := ⟨_, rfl⟩
  have HNE : Hid (w.heap.size ≤ Y ∧ w.heap.size ≤ X ∧ w.heap.size ≤ A ∧ Y ≠ X ∧ Y ≠ A ∧ X ≠ A) := ⟨by omega, by omega, by omega, by omega, by omega, by omega⟩
  rw [← hnY] at hqY
  rw [← hnX] at hqX
  rw [← hnA] at hqA
  rw [show (Value.pointer (some { block := w.heap.size, off := 0 })) = Value.pointer (some { block := Y, off := 0 }) by rw [hnY], show (Value.pointer (some { block := w.heap.size + 1, off := 0 })) = Value.pointer (some { block := X, off := 0 }) by rw [hnX], show (Value.pointer (some { block := w.heap.size + 1 + 1, off := 0 })) = Value.pointer (some { block := A, off := 0 }) by rw [hnA]]
  have HQY := hide' hqY
  have HQX := hide' hqX
  have HQA := hide' hqA
  have HB1 := hide' hb1
  clear hqY hqX hqA hb1 hw1 hnY hnX hnA
  obtain ⟨c0, c1, c2, c3, c4, c5, c6, c7, c8, c9⟩ := cellsP10 HQY.out
  go_upto_region 2 with fail
  have hqK := alloc_new w1 (.cells #[.int .i64 no, .int .i64 0, .int .i64 now, .int .i64 pt, .bool want, .int .i64 timer, .int .i64 pat, .int .i64 tries, .int .i64 lim, .bool gave] 64)
  have hbK := below_al w1 (.cells #[.int .i64 no, .int .i64 0, .int .i64 now, .int .i64 pt, .bool want, .int .i64 timer, .int .i64 pat, .int .i64 tries, .int .i64 lim, .bool gave] 64)
  obtain ⟨w0, hw0⟩ : ∃ x, x = w1.alloc (.cells #[.int .i64 no, .int .i64 0, .int .i64 now, .int .i64 pt, .bool want, .int .i64 timer, .int .i64 pat, .int .i64 tries, .int .i64 lim, .bool gave] 64) := ⟨_, rfl⟩
  rw [← hw0] at hqK hbK ⊢
  obtain ⟨Kb, hKb⟩ : ∃ x, x = w1.heap.size := ⟨_, rfl⟩
  rw [← hKb] at hqK hbK
  rw [show (Value.pointer (some { block := w1.heap.size, off := 0 })) = Value.pointer (some { block := Kb, off := 0 }) by rw [hKb]]
  have HQK := hide' hqK
  have HBK := hide' hbK
  have HKE := hide' hKb
  clear hqK hbK hw0 hKb
  have HY0 : Hid (w0.heap[Y]? = some (.cells #[.int .i64 no, .int .i64 0, .int .i64 now, .int .i64 pt, .bool want, .int .i64 timer, .int .i64 pat, .int .i64 tries, .int .i64 lim, .bool gave] 32 (0, 0))) := (HBK.out.block Y (by rw [HKE.out]; exact lt_heap HQY.out)).trans HQY.out
  have HX0 : Hid (w0.heap[X]? = some (.cells #[.int .i64 2, .int .i64 ano, .int .i64 apt, .bool awt] 39 (0, 0))) := (HBK.out.block X (by rw [HKE.out]; exact lt_heap HQX.out)).trans HQX.out
  have HA0 : Hid (w0.heap[A]? = some (.cells #[.int .i64 0, .int .i64 0, .int .i64 0, .int .i64 0, .bool false, .int .i64 0, .int .i64 0, .int .i64 0, .int .i64 0, .bool false] 32 (0, 0))) := (HBK.out.block A (by rw [HKE.out]; exact lt_heap HQA.out)).trans HQA.out
  have HAL : Hid (A < Kb ∧ w.heap.size ≤ Kb) := ⟨by rw [HKE.out]; exact lt_heap HQA.out, by rw [HKE.out]; exact HB1.out.size⟩
  have HB0 : Hid (Below w.heap.size w w0) := HB1.out.trans (by rw [HKE.out] at HBK; exact HBK.out.mono HB1.out.size)
  clear c0 c1 c2 c3 c4 c5 c6 c7 c8 c9 HQY HQX HQA HBK HKE HB1
  obtain ⟨c0, c1, c2, c3, c4, c5, c6, c7, c8, c9⟩ := cellsP10 HY0.out
  obtain ⟨m0, m1, m2, m3⟩ := cellsP4 HX0.out
  go_wp2_with fail
  refine (does_2 Kb w0).mono ?_
  rintro e w1' ⟨rfl, rfl⟩
  go_wp2_with fail
  refine (HMB.out _).mono ?_
  rintro e w2 ⟨rfl, hb2⟩
  have HY2 := hide' ((hb2.block Y (lt_heap HY0.out)).trans HY0.out)
  have HX2 := hide' ((hb2.block X (lt_heap HX0.out)).trans HX0.out)
  have HA2 := hide' ((hb2.block A (lt_heap HA0.out)).trans HA0.out)
  have HK2 := hide' ((hb2.block Kb (lt_heap HQK.out)).trans HQK.out)
  have HB2 : Hid (Below w.heap.size w w2) := HB0.out.trans (hb2.mono HB0.out.size)
  clear hb2 HY0 HX0 HA0 HQK HB0 HMB c0 c1 c2 c3 c4 c5 c6 c7 c8 c9 m0 m1 m2 m3
  obtain ⟨c0, c1, c2, c3, c4, c5, c6, c7, c8, c9⟩ := cellsP10 HY2.out
  obtain ⟨m0, m1, m2, m3⟩ := cellsP4 HX2.out
  obtain ⟨b0, b1, b2, b3, b4, b5, b6, b7, b8, b9⟩ := cellsP10 HA2.out
  obtain ⟨e0, e1, e2, e3, e4, e5, e6, e7, e8, e9⟩ := frozenP10 HA2.out
  have HP := hide' (put10 HA2.out (.int .i64 no) (.int .i64 0) (.int .i64 now) (.int .i64 pt) (.bool want) (.int .i64 timer) (.int .i64 pat) (.int .i64 tries) (.int .i64 lim) (.bool gave))
  have HBF := hide' (HB2.out.trans (HP.out.2.below HNE.out.2.2.1 HB2.out.size))
  go_wp2
  refine bodyPost_ret (results_cell_row2 rfl _ _ A 32 _ (0, 0) _ rfl HP.out.1 Try.underlying32 rfl (by kernel_rfl)) rfl ?_
  exact ⟨_, rfl, World.ownsRow_nil _ _ _ _, HBF.out⟩
set_option maxRecDepth 100000 in
set_option maxHeartbeats 2000000 in
theorem Heard_n2 (M : MaM) (a : MsM) (w : World) (hm : M.May) (hk : a.kind = 2) (hp : M.ph ≠ 0) (hn : a.no ≠ M.now) : Calls Try.prog 15 #[.agg M.cells, .agg a.cells] w (AskO M [] 0 w) := by
  have HMB := hide' (fun w' => masterMayBe_yes M w' hm)
  clear hm
  obtain ⟨no, ph, now, pt, want, timer, pat, tries, lim, gave⟩ := M
  obtain ⟨akind, ano, apt, awt⟩ := a
  simp only at hk hp hn
  subst hk
  have hp2 : (ph == 0) = false := beq_eq_false_iff_ne.2 hp
  have hn2 : (ano != now) = true := bne_iff_ne.2 hn
  unfold AskO
  unfold MaM.cells at HMB ⊢
  unfold MsM.cells
  simp only at HMB ⊢
  go_enter Try.func15, Try.ntmps15
  go_upto_region 1 with fail
  have hqY := (alloc_old ((w.alloc (.cells #[.int .i64 no, .int .i64 ph, .int .i64 now, .int .i64 pt, .bool want, .int .i64 timer, .int .i64 pat, .int .i64 tries, .int .i64 lim, .bool gave] 32)).alloc (.cells #[.int .i64 2, .int .i64 ano, .int .i64 apt, .bool awt] 39)) (.cells #[.int .i64 0, .int .i64 0, .int .i64 0, .int .i64 0, .bool false, .int .i64 0, .int .i64 0, .int .i64 0, .int .i64 0, .bool false] 32) (lt_heap ((alloc_old (w.alloc (.cells #[.int .i64 no, .int .i64 ph, .int .i64 now, .int .i64 pt, .bool want, .int .i64 timer, .int .i64 pat, .int .i64 tries, .int .i64 lim, .bool gave] 32)) (.cells #[.int .i64 2, .int .i64 ano, .int .i64 apt, .bool awt] 39) (lt_heap (alloc_new w (.cells #[.int .i64 no, .int .i64 ph, .int .i64 now, .int .i64 pt, .bool want, .int .i64 timer, .int .i64 pat, .int .i64 tries, .int .i64 lim, .bool gave] 32)))).trans (alloc_new w (.cells #[.int .i64 no, .int .i64 ph, .int .i64 now, .int .i64 pt, .bool want, .int .i64 timer, .int .i64 pat, .int .i64 tries, .int .i64 lim, .bool gave] 32))))).trans ((alloc_old (w.alloc (.cells #[.int .i64 no, .int .i64 ph, .int .i64 now, .int .i64 pt, .bool want, .int .i64 timer, .int .i64 pat, .int .i64 tries, .int .i64 lim, .bool gave] 32)) (.cells #[.int .i64 2, .int .i64 ano, .int .i64 apt, .bool awt] 39) (lt_heap (alloc_new w (.cells #[.int .i64 no, .int .i64 ph, .int .i64 now, .int .i64 pt, .bool want, .int .i64 timer, .int .i64 pat, .int .i64 tries, .int .i64 lim, .bool gave] 32)))).trans (alloc_new w (.cells #[.int .i64 no, .int .i64 ph, .int .i64 now, .int .i64 pt, .bool want, .int .i64 timer, .int .i64 pat, .int .i64 tries, .int .i64 lim, .bool gave] 32)))
  have hqX := (alloc_old ((w.alloc (.cells #[.int .i64 no, .int .i64 ph, .int .i64 now, .int .i64 pt, .bool want, .int .i64 timer, .int .i64 pat, .int .i64 tries, .int .i64 lim, .bool gave] 32)).alloc (.cells #[.int .i64 2, .int .i64 ano, .int .i64 apt, .bool awt] 39)) (.cells #[.int .i64 0, .int .i64 0, .int .i64 0, .int .i64 0, .bool false, .int .i64 0, .int .i64 0, .int .i64 0, .int .i64 0, .bool false] 32) (lt_heap (alloc_new (w.alloc (.cells #[.int .i64 no, .int .i64 ph, .int .i64 now, .int .i64 pt, .bool want, .int .i64 timer, .int .i64 pat, .int .i64 tries, .int .i64 lim, .bool gave] 32)) (.cells #[.int .i64 2, .int .i64 ano, .int .i64 apt, .bool awt] 39)))).trans (alloc_new (w.alloc (.cells #[.int .i64 no, .int .i64 ph, .int .i64 now, .int .i64 pt, .bool want, .int .i64 timer, .int .i64 pat, .int .i64 tries, .int .i64 lim, .bool gave] 32)) (.cells #[.int .i64 2, .int .i64 ano, .int .i64 apt, .bool awt] 39))
  have hqA := alloc_new ((w.alloc (.cells #[.int .i64 no, .int .i64 ph, .int .i64 now, .int .i64 pt, .bool want, .int .i64 timer, .int .i64 pat, .int .i64 tries, .int .i64 lim, .bool gave] 32)).alloc (.cells #[.int .i64 2, .int .i64 ano, .int .i64 apt, .bool awt] 39)) (.cells #[.int .i64 0, .int .i64 0, .int .i64 0, .int .i64 0, .bool false, .int .i64 0, .int .i64 0, .int .i64 0, .int .i64 0, .bool false] 32)
  have hb1 := ((below_al w (.cells #[.int .i64 no, .int .i64 ph, .int .i64 now, .int .i64 pt, .bool want, .int .i64 timer, .int .i64 pat, .int .i64 tries, .int .i64 lim, .bool gave] 32)).alloc (below_al w (.cells #[.int .i64 no, .int .i64 ph, .int .i64 now, .int .i64 pt, .bool want, .int .i64 timer, .int .i64 pat, .int .i64 tries, .int .i64 lim, .bool gave] 32)).size (.cells #[.int .i64 2, .int .i64 ano, .int .i64 apt, .bool awt] 39)).alloc ((below_al w (.cells #[.int .i64 no, .int .i64 ph, .int .i64 now, .int .i64 pt, .bool want, .int .i64 timer, .int .i64 pat, .int .i64 tries, .int .i64 lim, .bool gave] 32)).alloc (below_al w (.cells #[.int .i64 no, .int .i64 ph, .int .i64 now, .int .i64 pt, .bool want, .int .i64 timer, .int .i64 pat, .int .i64 tries, .int .i64 lim, .bool gave] 32)).size (.cells #[.int .i64 2, .int .i64 ano, .int .i64 apt, .bool awt] 39)).size (.cells #[.int .i64 0, .int .i64 0, .int .i64 0, .int .i64 0, .bool false, .int .i64 0, .int .i64 0, .int .i64 0, .int .i64 0, .bool false] 32)
  rw [show (w.alloc (.cells #[.int .i64 no, .int .i64 ph, .int .i64 now, .int .i64 pt, .bool want, .int .i64 timer, .int .i64 pat, .int .i64 tries, .int .i64 lim, .bool gave] 32)).heap.size = w.heap.size + 1 from by simp only [World.size_alloc]] at hqX
  rw [show ((w.alloc (.cells #[.int .i64 no, .int .i64 ph, .int .i64 now, .int .i64 pt, .bool want, .int .i64 timer, .int .i64 pat, .int .i64 tries, .int .i64 lim, .bool gave] 32)).alloc (.cells #[.int .i64 2, .int .i64 ano, .int .i64 apt, .bool awt] 39)).heap.size = w.heap.size + 1 + 1 from by simp only [World.size_alloc]] at hqA
  obtain ⟨w1, hw1⟩ : ∃ x, x = (((w.alloc (.cells #[.int .i64 no, .int .i64 ph, .int .i64 now, .int .i64 pt, .bool want, .int .i64 timer, .int .i64 pat, .int .i64 tries, .int .i64 lim, .bool gave] 32)).alloc (.cells #[.int .i64 2, .int .i64 ano, .int .i64 apt, .bool awt] 39)).alloc (.cells #[.int .i64 0, .int .i64 0, .int .i64 0, .int .i64 0, .bool false, .int .i64 0, .int .i64 0, .int .i64 0, .int .i64 0, .bool false] 32)) := ⟨_, rfl⟩
  rw [← hw1] at hqY hqX hqA hb1 ⊢
  obtain ⟨Y, hnY⟩ : ∃ x, x = w.heap.size := ⟨_, rfl⟩
  obtain ⟨X, hnX⟩ : ∃ x, x = w.heap.size + 1 := ⟨_, rfl⟩
  obtain ⟨A, hnA⟩ : ∃ x, x = w.heap.size + 1 + 1 := ⟨_, rfl⟩
  have HNE : Hid (w.heap.size ≤ Y ∧ w.heap.size ≤ X ∧ w.heap.size ≤ A ∧ Y ≠ X ∧ Y ≠ A ∧ X ≠ A) := ⟨by omega, by omega, by omega, by omega, by omega, by omega⟩
  rw [← hnY] at hqY
  rw [← hnX] at hqX
  rw [← hnA] at hqA
  rw [show (Value.pointer (some { block := w.heap.size, off := 0 })) = Value.pointer (some { block := Y, off := 0 }) by rw [hnY], show (Value.pointer (some { block := w.heap.size + 1, off := 0 })) = Value.pointer (some { block := X, off := 0 }) by rw [hnX], show (Value.pointer (some { block := w.heap.size + 1 + 1, off := 0 })) = Value.pointer (some { block := A, off := 0 }) by rw [hnA]]
  have HQY := hide' hqY
  have HQX := hide' hqX
  have HQA := hide' hqA
  have HB1 := hide' hb1
  clear hqY hqX hqA hb1 hw1 hnY hnX hnA
  obtain ⟨c0, c1, c2, c3, c4, c5, c6, c7, c8, c9⟩ := cellsP10 HQY.out
  go_upto_region 2 with fail
  have hqK := alloc_new w1 (.cells #[.int .i64 no, .int .i64 ph, .int .i64 now, .int .i64 pt, .bool want, .int .i64 timer, .int .i64 pat, .int .i64 tries, .int .i64 lim, .bool gave] 64)
  have hbK := below_al w1 (.cells #[.int .i64 no, .int .i64 ph, .int .i64 now, .int .i64 pt, .bool want, .int .i64 timer, .int .i64 pat, .int .i64 tries, .int .i64 lim, .bool gave] 64)
  obtain ⟨w0, hw0⟩ : ∃ x, x = w1.alloc (.cells #[.int .i64 no, .int .i64 ph, .int .i64 now, .int .i64 pt, .bool want, .int .i64 timer, .int .i64 pat, .int .i64 tries, .int .i64 lim, .bool gave] 64) := ⟨_, rfl⟩
  rw [← hw0] at hqK hbK ⊢
  obtain ⟨Kb, hKb⟩ : ∃ x, x = w1.heap.size := ⟨_, rfl⟩
  rw [← hKb] at hqK hbK
  rw [show (Value.pointer (some { block := w1.heap.size, off := 0 })) = Value.pointer (some { block := Kb, off := 0 }) by rw [hKb]]
  have HQK := hide' hqK
  have HBK := hide' hbK
  have HKE := hide' hKb
  clear hqK hbK hw0 hKb
  have HY0 : Hid (w0.heap[Y]? = some (.cells #[.int .i64 no, .int .i64 ph, .int .i64 now, .int .i64 pt, .bool want, .int .i64 timer, .int .i64 pat, .int .i64 tries, .int .i64 lim, .bool gave] 32 (0, 0))) := (HBK.out.block Y (by rw [HKE.out]; exact lt_heap HQY.out)).trans HQY.out
  have HX0 : Hid (w0.heap[X]? = some (.cells #[.int .i64 2, .int .i64 ano, .int .i64 apt, .bool awt] 39 (0, 0))) := (HBK.out.block X (by rw [HKE.out]; exact lt_heap HQX.out)).trans HQX.out
  have HA0 : Hid (w0.heap[A]? = some (.cells #[.int .i64 0, .int .i64 0, .int .i64 0, .int .i64 0, .bool false, .int .i64 0, .int .i64 0, .int .i64 0, .int .i64 0, .bool false] 32 (0, 0))) := (HBK.out.block A (by rw [HKE.out]; exact lt_heap HQA.out)).trans HQA.out
  have HAL : Hid (A < Kb ∧ w.heap.size ≤ Kb) := ⟨by rw [HKE.out]; exact lt_heap HQA.out, by rw [HKE.out]; exact HB1.out.size⟩
  have HB0 : Hid (Below w.heap.size w w0) := HB1.out.trans (by rw [HKE.out] at HBK; exact HBK.out.mono HB1.out.size)
  clear c0 c1 c2 c3 c4 c5 c6 c7 c8 c9 HQY HQX HQA HBK HKE HB1
  obtain ⟨c0, c1, c2, c3, c4, c5, c6, c7, c8, c9⟩ := cellsP10 HY0.out
  obtain ⟨m0, m1, m2, m3⟩ := cellsP4 HX0.out
  go_wp2_with fail
  refine (does_2 Kb w0).mono ?_
  rintro e w1' ⟨rfl, rfl⟩
  go_wp2_with fail
  refine (HMB.out _).mono ?_
  rintro e w2 ⟨rfl, hb2⟩
  have HY2 := hide' ((hb2.block Y (lt_heap HY0.out)).trans HY0.out)
  have HX2 := hide' ((hb2.block X (lt_heap HX0.out)).trans HX0.out)
  have HA2 := hide' ((hb2.block A (lt_heap HA0.out)).trans HA0.out)
  have HK2 := hide' ((hb2.block Kb (lt_heap HQK.out)).trans HQK.out)
  have HB2 : Hid (Below w.heap.size w w2) := HB0.out.trans (hb2.mono HB0.out.size)
  clear hb2 HY0 HX0 HA0 HQK HB0 HMB c0 c1 c2 c3 c4 c5 c6 c7 c8 c9 m0 m1 m2 m3
  obtain ⟨c0, c1, c2, c3, c4, c5, c6, c7, c8, c9⟩ := cellsP10 HY2.out
  obtain ⟨m0, m1, m2, m3⟩ := cellsP4 HX2.out
  obtain ⟨b0, b1, b2, b3, b4, b5, b6, b7, b8, b9⟩ := cellsP10 HA2.out
  obtain ⟨e0, e1, e2, e3, e4, e5, e6, e7, e8, e9⟩ := frozenP10 HA2.out
  have HP := hide' (put10 HA2.out (.int .i64 no) (.int .i64 ph) (.int .i64 now) (.int .i64 pt) (.bool want) (.int .i64 timer) (.int .i64 pat) (.int .i64 tries) (.int .i64 lim) (.bool gave))
  have HBF := hide' (HB2.out.trans (HP.out.2.below HNE.out.2.2.1 HB2.out.size))
  go_wp2
  refine bodyPost_ret (results_cell_row2 rfl _ _ A 32 _ (0, 0) _ rfl HP.out.1 Try.underlying32 rfl (by kernel_rfl)) rfl ?_
  exact ⟨_, rfl, World.ownsRow_nil _ _ _ _, HBF.out⟩
set_option maxRecDepth 100000 in
set_option maxHeartbeats 2000000 in
theorem Heard_r4 (M : MaM) (a : MsM) (w : World) (hm : M.May) (hk : a.kind = 4) (hp : M.ph = 0) : Calls Try.prog 15 #[.agg M.cells, .agg a.cells] w (AskO M [] 0 w) := by
  have HMB := hide' (fun w' => masterMayBe_yes M w' hm)
  clear hm
  obtain ⟨no, ph, now, pt, want, timer, pat, tries, lim, gave⟩ := M
  obtain ⟨akind, ano, apt, awt⟩ := a
  simp only at hk hp
  subst hk hp
  unfold AskO
  unfold MaM.cells at HMB ⊢
  unfold MsM.cells
  simp only at HMB ⊢
  go_enter Try.func15, Try.ntmps15
  go_upto_region 1 with fail
  have hqY := (alloc_old ((w.alloc (.cells #[.int .i64 no, .int .i64 0, .int .i64 now, .int .i64 pt, .bool want, .int .i64 timer, .int .i64 pat, .int .i64 tries, .int .i64 lim, .bool gave] 32)).alloc (.cells #[.int .i64 4, .int .i64 ano, .int .i64 apt, .bool awt] 39)) (.cells #[.int .i64 0, .int .i64 0, .int .i64 0, .int .i64 0, .bool false, .int .i64 0, .int .i64 0, .int .i64 0, .int .i64 0, .bool false] 32) (lt_heap ((alloc_old (w.alloc (.cells #[.int .i64 no, .int .i64 0, .int .i64 now, .int .i64 pt, .bool want, .int .i64 timer, .int .i64 pat, .int .i64 tries, .int .i64 lim, .bool gave] 32)) (.cells #[.int .i64 4, .int .i64 ano, .int .i64 apt, .bool awt] 39) (lt_heap (alloc_new w (.cells #[.int .i64 no, .int .i64 0, .int .i64 now, .int .i64 pt, .bool want, .int .i64 timer, .int .i64 pat, .int .i64 tries, .int .i64 lim, .bool gave] 32)))).trans (alloc_new w (.cells #[.int .i64 no, .int .i64 0, .int .i64 now, .int .i64 pt, .bool want, .int .i64 timer, .int .i64 pat, .int .i64 tries, .int .i64 lim, .bool gave] 32))))).trans ((alloc_old (w.alloc (.cells #[.int .i64 no, .int .i64 0, .int .i64 now, .int .i64 pt, .bool want, .int .i64 timer, .int .i64 pat, .int .i64 tries, .int .i64 lim, .bool gave] 32)) (.cells #[.int .i64 4, .int .i64 ano, .int .i64 apt, .bool awt] 39) (lt_heap (alloc_new w (.cells #[.int .i64 no, .int .i64 0, .int .i64 now, .int .i64 pt, .bool want, .int .i64 timer, .int .i64 pat, .int .i64 tries, .int .i64 lim, .bool gave] 32)))).trans (alloc_new w (.cells #[.int .i64 no, .int .i64 0, .int .i64 now, .int .i64 pt, .bool want, .int .i64 timer, .int .i64 pat, .int .i64 tries, .int .i64 lim, .bool gave] 32)))
  have hqX := (alloc_old ((w.alloc (.cells #[.int .i64 no, .int .i64 0, .int .i64 now, .int .i64 pt, .bool want, .int .i64 timer, .int .i64 pat, .int .i64 tries, .int .i64 lim, .bool gave] 32)).alloc (.cells #[.int .i64 4, .int .i64 ano, .int .i64 apt, .bool awt] 39)) (.cells #[.int .i64 0, .int .i64 0, .int .i64 0, .int .i64 0, .bool false, .int .i64 0, .int .i64 0, .int .i64 0, .int .i64 0, .bool false] 32) (lt_heap (alloc_new (w.alloc (.cells #[.int .i64 no, .int .i64 0, .int .i64 now, .int .i64 pt, .bool want, .int .i64 timer, .int .i64 pat, .int .i64 tries, .int .i64 lim, .bool gave] 32)) (.cells #[.int .i64 4, .int .i64 ano, .int .i64 apt, .bool awt] 39)))).trans (alloc_new (w.alloc (.cells #[.int .i64 no, .int .i64 0, .int .i64 now, .int .i64 pt, .bool want, .int .i64 timer, .int .i64 pat, .int .i64 tries, .int .i64 lim, .bool gave] 32)) (.cells #[.int .i64 4, .int .i64 ano, .int .i64 apt, .bool awt] 39))
  have hqA := alloc_new ((w.alloc (.cells #[.int .i64 no, .int .i64 0, .int .i64 now, .int .i64 pt, .bool want, .int .i64 timer, .int .i64 pat, .int .i64 tries, .int .i64 lim, .bool gave] 32)).alloc (.cells #[.int .i64 4, .int .i64 ano, .int .i64 apt, .bool awt] 39)) (.cells #[.int .i64 0, .int .i64 0, .int .i64 0, .int .i64 0, .bool false, .int .i64 0, .int .i64 0, .int .i64 0, .int .i64 0, .bool false] 32)
  have hb1 := ((below_al w (.cells #[.int .i64 no, .int .i64 0, .int .i64 now, .int .i64 pt, .bool want, .int .i64 timer, .int .i64 pat, .int .i64 tries, .int .i64 lim, .bool gave] 32)).alloc (below_al w (.cells #[.int .i64 no, .int .i64 0, .int .i64 now, .int .i64 pt, .bool want, .int .i64 timer, .int .i64 pat, .int .i64 tries, .int .i64 lim, .bool gave] 32)).size (.cells #[.int .i64 4, .int .i64 ano, .int .i64 apt, .bool awt] 39)).alloc ((below_al w (.cells #[.int .i64 no, .int .i64 0, .int .i64 now, .int .i64 pt, .bool want, .int .i64 timer, .int .i64 pat, .int .i64 tries, .int .i64 lim, .bool gave] 32)).alloc (below_al w (.cells #[.int .i64 no, .int .i64 0, .int .i64 now, .int .i64 pt, .bool want, .int .i64 timer, .int .i64 pat, .int .i64 tries, .int .i64 lim, .bool gave] 32)).size (.cells #[.int .i64 4, .int .i64 ano, .int .i64 apt, .bool awt] 39)).size (.cells #[.int .i64 0, .int .i64 0, .int .i64 0, .int .i64 0, .bool false, .int .i64 0, .int .i64 0, .int .i64 0, .int .i64 0, .bool false] 32)
  rw [show (w.alloc (.cells #[.int .i64 no, .int .i64 0, .int .i64 now, .int .i64 pt, .bool want, .int .i64 timer, .int .i64 pat, .int .i64 tries, .int .i64 lim, .bool gave] 32)).heap.size = w.heap.size + 1 from by simp only [World.size_alloc]] at hqX
  rw [show ((w.alloc (.cells #[.int .i64 no, .int .i64 0, .int .i64 now, .int .i64 pt, .bool want, .int .i64 timer, .int .i64 pat, .int .i64 tries, .int .i64 lim, .bool gave] 32)).alloc (.cells #[.int .i64 4, .int .i64 ano, .int .i64 apt, .bool awt] 39)).heap.size = w.heap.size + 1 + 1 from by simp only [World.size_alloc]] at hqA
  obtain ⟨w1, hw1⟩ : ∃ x, x = (((w.alloc (.cells #[.int .i64 no, .int .i64 0, .int .i64 now, .int .i64 pt, .bool want, .int .i64 timer, .int .i64 pat, .int .i64 tries, .int .i64 lim, .bool gave] 32)).alloc (.cells #[.int .i64 4, .int .i64 ano, .int .i64 apt, .bool awt] 39)).alloc (.cells #[.int .i64 0, .int .i64 0, .int .i64 0, .int .i64 0, .bool false, .int .i64 0, .int .i64 0, .int .i64 0, .int .i64 0, .bool false] 32)) := ⟨_, rfl⟩
  rw [← hw1] at hqY hqX hqA hb1 ⊢
  obtain ⟨Y, hnY⟩ : ∃ x, x = w.heap.size := ⟨_, rfl⟩
  obtain ⟨X, hnX⟩ : ∃ x, x = w.heap.size + 1 := ⟨_, rfl⟩
  obtain ⟨A, hnA⟩ : ∃ x, x = w.heap.size + 1 + 1 := ⟨_, rfl⟩
  have HNE : Hid (w.heap.size ≤ Y ∧ w.heap.size ≤ X ∧ w.heap.size ≤ A ∧ Y ≠ X ∧ Y ≠ A ∧ X ≠ A) := ⟨by omega, by omega, by omega, by omega, by omega, by omega⟩
  rw [← hnY] at hqY
  rw [← hnX] at hqX
  rw [← hnA] at hqA
  rw [show (Value.pointer (some { block := w.heap.size, off := 0 })) = Value.pointer (some { block := Y, off := 0 }) by rw [hnY], show (Value.pointer (some { block := w.heap.size + 1, off := 0 })) = Value.pointer (some { block := X, off := 0 }) by rw [hnX], show (Value.pointer (some { block := w.heap.size + 1 + 1, off := 0 })) = Value.pointer (some { block := A, off := 0 }) by rw [hnA]]
  have HQY := hide' hqY
  have HQX := hide' hqX
  have HQA := hide' hqA
  have HB1 := hide' hb1
  clear hqY hqX hqA hb1 hw1 hnY hnX hnA
  obtain ⟨c0, c1, c2, c3, c4, c5, c6, c7, c8, c9⟩ := cellsP10 HQY.out
  go_upto_region 2 with fail
  have hqK := alloc_new w1 (.cells #[.int .i64 no, .int .i64 0, .int .i64 now, .int .i64 pt, .bool want, .int .i64 timer, .int .i64 pat, .int .i64 tries, .int .i64 lim, .bool gave] 64)
  have hbK := below_al w1 (.cells #[.int .i64 no, .int .i64 0, .int .i64 now, .int .i64 pt, .bool want, .int .i64 timer, .int .i64 pat, .int .i64 tries, .int .i64 lim, .bool gave] 64)
  obtain ⟨w0, hw0⟩ : ∃ x, x = w1.alloc (.cells #[.int .i64 no, .int .i64 0, .int .i64 now, .int .i64 pt, .bool want, .int .i64 timer, .int .i64 pat, .int .i64 tries, .int .i64 lim, .bool gave] 64) := ⟨_, rfl⟩
  rw [← hw0] at hqK hbK ⊢
  obtain ⟨Kb, hKb⟩ : ∃ x, x = w1.heap.size := ⟨_, rfl⟩
  rw [← hKb] at hqK hbK
  rw [show (Value.pointer (some { block := w1.heap.size, off := 0 })) = Value.pointer (some { block := Kb, off := 0 }) by rw [hKb]]
  have HQK := hide' hqK
  have HBK := hide' hbK
  have HKE := hide' hKb
  clear hqK hbK hw0 hKb
  have HY0 : Hid (w0.heap[Y]? = some (.cells #[.int .i64 no, .int .i64 0, .int .i64 now, .int .i64 pt, .bool want, .int .i64 timer, .int .i64 pat, .int .i64 tries, .int .i64 lim, .bool gave] 32 (0, 0))) := (HBK.out.block Y (by rw [HKE.out]; exact lt_heap HQY.out)).trans HQY.out
  have HX0 : Hid (w0.heap[X]? = some (.cells #[.int .i64 4, .int .i64 ano, .int .i64 apt, .bool awt] 39 (0, 0))) := (HBK.out.block X (by rw [HKE.out]; exact lt_heap HQX.out)).trans HQX.out
  have HA0 : Hid (w0.heap[A]? = some (.cells #[.int .i64 0, .int .i64 0, .int .i64 0, .int .i64 0, .bool false, .int .i64 0, .int .i64 0, .int .i64 0, .int .i64 0, .bool false] 32 (0, 0))) := (HBK.out.block A (by rw [HKE.out]; exact lt_heap HQA.out)).trans HQA.out
  have HAL : Hid (A < Kb ∧ w.heap.size ≤ Kb) := ⟨by rw [HKE.out]; exact lt_heap HQA.out, by rw [HKE.out]; exact HB1.out.size⟩
  have HB0 : Hid (Below w.heap.size w w0) := HB1.out.trans (by rw [HKE.out] at HBK; exact HBK.out.mono HB1.out.size)
  clear c0 c1 c2 c3 c4 c5 c6 c7 c8 c9 HQY HQX HQA HBK HKE HB1
  obtain ⟨c0, c1, c2, c3, c4, c5, c6, c7, c8, c9⟩ := cellsP10 HY0.out
  obtain ⟨m0, m1, m2, m3⟩ := cellsP4 HX0.out
  go_wp2_with fail
  refine (does_4 Kb w0).mono ?_
  rintro e w1' ⟨rfl, rfl⟩
  go_wp2_with fail
  refine (HMB.out _).mono ?_
  rintro e w2 ⟨rfl, hb2⟩
  have HY2 := hide' ((hb2.block Y (lt_heap HY0.out)).trans HY0.out)
  have HX2 := hide' ((hb2.block X (lt_heap HX0.out)).trans HX0.out)
  have HA2 := hide' ((hb2.block A (lt_heap HA0.out)).trans HA0.out)
  have HK2 := hide' ((hb2.block Kb (lt_heap HQK.out)).trans HQK.out)
  have HB2 : Hid (Below w.heap.size w w2) := HB0.out.trans (hb2.mono HB0.out.size)
  clear hb2 HY0 HX0 HA0 HQK HB0 HMB c0 c1 c2 c3 c4 c5 c6 c7 c8 c9 m0 m1 m2 m3
  obtain ⟨c0, c1, c2, c3, c4, c5, c6, c7, c8, c9⟩ := cellsP10 HY2.out
  obtain ⟨m0, m1, m2, m3⟩ := cellsP4 HX2.out
  obtain ⟨b0, b1, b2, b3, b4, b5, b6, b7, b8, b9⟩ := cellsP10 HA2.out
  obtain ⟨e0, e1, e2, e3, e4, e5, e6, e7, e8, e9⟩ := frozenP10 HA2.out
  have HP := hide' (put10 HA2.out (.int .i64 no) (.int .i64 0) (.int .i64 now) (.int .i64 pt) (.bool want) (.int .i64 timer) (.int .i64 pat) (.int .i64 tries) (.int .i64 lim) (.bool gave))
  have HBF := hide' (HB2.out.trans (HP.out.2.below HNE.out.2.2.1 HB2.out.size))
  go_wp2
  refine bodyPost_ret (results_cell_row2 rfl _ _ A 32 _ (0, 0) _ rfl HP.out.1 Try.underlying32 rfl (by kernel_rfl)) rfl ?_
  exact ⟨_, rfl, World.ownsRow_nil _ _ _ _, HBF.out⟩
set_option maxRecDepth 100000 in
set_option maxHeartbeats 2000000 in
theorem Heard_n4 (M : MaM) (a : MsM) (w : World) (hm : M.May) (hk : a.kind = 4) (hp : M.ph ≠ 0) (hn : a.no ≠ M.now) : Calls Try.prog 15 #[.agg M.cells, .agg a.cells] w (AskO M [] 0 w) := by
  have HMB := hide' (fun w' => masterMayBe_yes M w' hm)
  clear hm
  obtain ⟨no, ph, now, pt, want, timer, pat, tries, lim, gave⟩ := M
  obtain ⟨akind, ano, apt, awt⟩ := a
  simp only at hk hp hn
  subst hk
  have hp2 : (ph == 0) = false := beq_eq_false_iff_ne.2 hp
  have hn2 : (ano != now) = true := bne_iff_ne.2 hn
  unfold AskO
  unfold MaM.cells at HMB ⊢
  unfold MsM.cells
  simp only at HMB ⊢
  go_enter Try.func15, Try.ntmps15
  go_upto_region 1 with fail
  have hqY := (alloc_old ((w.alloc (.cells #[.int .i64 no, .int .i64 ph, .int .i64 now, .int .i64 pt, .bool want, .int .i64 timer, .int .i64 pat, .int .i64 tries, .int .i64 lim, .bool gave] 32)).alloc (.cells #[.int .i64 4, .int .i64 ano, .int .i64 apt, .bool awt] 39)) (.cells #[.int .i64 0, .int .i64 0, .int .i64 0, .int .i64 0, .bool false, .int .i64 0, .int .i64 0, .int .i64 0, .int .i64 0, .bool false] 32) (lt_heap ((alloc_old (w.alloc (.cells #[.int .i64 no, .int .i64 ph, .int .i64 now, .int .i64 pt, .bool want, .int .i64 timer, .int .i64 pat, .int .i64 tries, .int .i64 lim, .bool gave] 32)) (.cells #[.int .i64 4, .int .i64 ano, .int .i64 apt, .bool awt] 39) (lt_heap (alloc_new w (.cells #[.int .i64 no, .int .i64 ph, .int .i64 now, .int .i64 pt, .bool want, .int .i64 timer, .int .i64 pat, .int .i64 tries, .int .i64 lim, .bool gave] 32)))).trans (alloc_new w (.cells #[.int .i64 no, .int .i64 ph, .int .i64 now, .int .i64 pt, .bool want, .int .i64 timer, .int .i64 pat, .int .i64 tries, .int .i64 lim, .bool gave] 32))))).trans ((alloc_old (w.alloc (.cells #[.int .i64 no, .int .i64 ph, .int .i64 now, .int .i64 pt, .bool want, .int .i64 timer, .int .i64 pat, .int .i64 tries, .int .i64 lim, .bool gave] 32)) (.cells #[.int .i64 4, .int .i64 ano, .int .i64 apt, .bool awt] 39) (lt_heap (alloc_new w (.cells #[.int .i64 no, .int .i64 ph, .int .i64 now, .int .i64 pt, .bool want, .int .i64 timer, .int .i64 pat, .int .i64 tries, .int .i64 lim, .bool gave] 32)))).trans (alloc_new w (.cells #[.int .i64 no, .int .i64 ph, .int .i64 now, .int .i64 pt, .bool want, .int .i64 timer, .int .i64 pat, .int .i64 tries, .int .i64 lim, .bool gave] 32)))
  have hqX := (alloc_old ((w.alloc (.cells #[.int .i64 no, .int .i64 ph, .int .i64 now, .int .i64 pt, .bool want, .int .i64 timer, .int .i64 pat, .int .i64 tries, .int .i64 lim, .bool gave] 32)).alloc (.cells #[.int .i64 4, .int .i64 ano, .int .i64 apt, .bool awt] 39)) (.cells #[.int .i64 0, .int .i64 0, .int .i64 0, .int .i64 0, .bool false, .int .i64 0, .int .i64 0, .int .i64 0, .int .i64 0, .bool false] 32) (lt_heap (alloc_new (w.alloc (.cells #[.int .i64 no, .int .i64 ph, .int .i64 now, .int .i64 pt, .bool want, .int .i64 timer, .int .i64 pat, .int .i64 tries, .int .i64 lim, .bool gave] 32)) (.cells #[.int .i64 4, .int .i64 ano, .int .i64 apt, .bool awt] 39)))).trans (alloc_new (w.alloc (.cells #[.int .i64 no, .int .i64 ph, .int .i64 now, .int .i64 pt, .bool want, .int .i64 timer, .int .i64 pat, .int .i64 tries, .int .i64 lim, .bool gave] 32)) (.cells #[.int .i64 4, .int .i64 ano, .int .i64 apt, .bool awt] 39))
  have hqA := alloc_new ((w.alloc (.cells #[.int .i64 no, .int .i64 ph, .int .i64 now, .int .i64 pt, .bool want, .int .i64 timer, .int .i64 pat, .int .i64 tries, .int .i64 lim, .bool gave] 32)).alloc (.cells #[.int .i64 4, .int .i64 ano, .int .i64 apt, .bool awt] 39)) (.cells #[.int .i64 0, .int .i64 0, .int .i64 0, .int .i64 0, .bool false, .int .i64 0, .int .i64 0, .int .i64 0, .int .i64 0, .bool false] 32)
  have hb1 := ((below_al w (.cells #[.int .i64 no, .int .i64 ph, .int .i64 now, .int .i64 pt, .bool want, .int .i64 timer, .int .i64 pat, .int .i64 tries, .int .i64 lim, .bool gave] 32)).alloc (below_al w (.cells #[.int .i64 no, .int .i64 ph, .int .i64 now, .int .i64 pt, .bool want, .int .i64 timer, .int .i64 pat, .int .i64 tries, .int .i64 lim, .bool gave] 32)).size (.cells #[.int .i64 4, .int .i64 ano, .int .i64 apt, .bool awt] 39)).alloc ((below_al w (.cells #[.int .i64 no, .int .i64 ph, .int .i64 now, .int .i64 pt, .bool want, .int .i64 timer, .int .i64 pat, .int .i64 tries, .int .i64 lim, .bool gave] 32)).alloc (below_al w (.cells #[.int .i64 no, .int .i64 ph, .int .i64 now, .int .i64 pt, .bool want, .int .i64 timer, .int .i64 pat, .int .i64 tries, .int .i64 lim, .bool gave] 32)).size (.cells #[.int .i64 4, .int .i64 ano, .int .i64 apt, .bool awt] 39)).size (.cells #[.int .i64 0, .int .i64 0, .int .i64 0, .int .i64 0, .bool false, .int .i64 0, .int .i64 0, .int .i64 0, .int .i64 0, .bool false] 32)
  rw [show (w.alloc (.cells #[.int .i64 no, .int .i64 ph, .int .i64 now, .int .i64 pt, .bool want, .int .i64 timer, .int .i64 pat, .int .i64 tries, .int .i64 lim, .bool gave] 32)).heap.size = w.heap.size + 1 from by simp only [World.size_alloc]] at hqX
  rw [show ((w.alloc (.cells #[.int .i64 no, .int .i64 ph, .int .i64 now, .int .i64 pt, .bool want, .int .i64 timer, .int .i64 pat, .int .i64 tries, .int .i64 lim, .bool gave] 32)).alloc (.cells #[.int .i64 4, .int .i64 ano, .int .i64 apt, .bool awt] 39)).heap.size = w.heap.size + 1 + 1 from by simp only [World.size_alloc]] at hqA
  obtain ⟨w1, hw1⟩ : ∃ x, x = (((w.alloc (.cells #[.int .i64 no, .int .i64 ph, .int .i64 now, .int .i64 pt, .bool want, .int .i64 timer, .int .i64 pat, .int .i64 tries, .int .i64 lim, .bool gave] 32)).alloc (.cells #[.int .i64 4, .int .i64 ano, .int .i64 apt, .bool awt] 39)).alloc (.cells #[.int .i64 0, .int .i64 0, .int .i64 0, .int .i64 0, .bool false, .int .i64 0, .int .i64 0, .int .i64 0, .int .i64 0, .bool false] 32)) := ⟨_, rfl⟩
  rw [← hw1] at hqY hqX hqA hb1 ⊢
  obtain ⟨Y, hnY⟩ : ∃ x, x = w.heap.size := ⟨_, rfl⟩
  obtain ⟨X, hnX⟩ : ∃ x, x = w.heap.size + 1 := ⟨_, rfl⟩
  obtain ⟨A, hnA⟩ : ∃ x, x = w.heap.size + 1 + 1 := ⟨_, rfl⟩
  have HNE : Hid (w.heap.size ≤ Y ∧ w.heap.size ≤ X ∧ w.heap.size ≤ A ∧ Y ≠ X ∧ Y ≠ A ∧ X ≠ A) := ⟨by omega, by omega, by omega, by omega, by omega, by omega⟩
  rw [← hnY] at hqY
  rw [← hnX] at hqX
  rw [← hnA] at hqA
  rw [show (Value.pointer (some { block := w.heap.size, off := 0 })) = Value.pointer (some { block := Y, off := 0 }) by rw [hnY], show (Value.pointer (some { block := w.heap.size + 1, off := 0 })) = Value.pointer (some { block := X, off := 0 }) by rw [hnX], show (Value.pointer (some { block := w.heap.size + 1 + 1, off := 0 })) = Value.pointer (some { block := A, off := 0 }) by rw [hnA]]
  have HQY := hide' hqY
  have HQX := hide' hqX
  have HQA := hide' hqA
  have HB1 := hide' hb1
  clear hqY hqX hqA hb1 hw1 hnY hnX hnA
  obtain ⟨c0, c1, c2, c3, c4, c5, c6, c7, c8, c9⟩ := cellsP10 HQY.out
  go_upto_region 2 with fail
  have hqK := alloc_new w1 (.cells #[.int .i64 no, .int .i64 ph, .int .i64 now, .int .i64 pt, .bool want, .int .i64 timer, .int .i64 pat, .int .i64 tries, .int .i64 lim, .bool gave] 64)
  have hbK := below_al w1 (.cells #[.int .i64 no, .int .i64 ph, .int .i64 now, .int .i64 pt, .bool want, .int .i64 timer, .int .i64 pat, .int .i64 tries, .int .i64 lim, .bool gave] 64)
  obtain ⟨w0, hw0⟩ : ∃ x, x = w1.alloc (.cells #[.int .i64 no, .int .i64 ph, .int .i64 now, .int .i64 pt, .bool want, .int .i64 timer, .int .i64 pat, .int .i64 tries, .int .i64 lim, .bool gave] 64) := ⟨_, rfl⟩
  rw [← hw0] at hqK hbK ⊢
  obtain ⟨Kb, hKb⟩ : ∃ x, x = w1.heap.size := ⟨_, rfl⟩
  rw [← hKb] at hqK hbK
  rw [show (Value.pointer (some { block := w1.heap.size, off := 0 })) = Value.pointer (some { block := Kb, off := 0 }) by rw [hKb]]
  have HQK := hide' hqK
  have HBK := hide' hbK
  have HKE := hide' hKb
  clear hqK hbK hw0 hKb
  have HY0 : Hid (w0.heap[Y]? = some (.cells #[.int .i64 no, .int .i64 ph, .int .i64 now, .int .i64 pt, .bool want, .int .i64 timer, .int .i64 pat, .int .i64 tries, .int .i64 lim, .bool gave] 32 (0, 0))) := (HBK.out.block Y (by rw [HKE.out]; exact lt_heap HQY.out)).trans HQY.out
  have HX0 : Hid (w0.heap[X]? = some (.cells #[.int .i64 4, .int .i64 ano, .int .i64 apt, .bool awt] 39 (0, 0))) := (HBK.out.block X (by rw [HKE.out]; exact lt_heap HQX.out)).trans HQX.out
  have HA0 : Hid (w0.heap[A]? = some (.cells #[.int .i64 0, .int .i64 0, .int .i64 0, .int .i64 0, .bool false, .int .i64 0, .int .i64 0, .int .i64 0, .int .i64 0, .bool false] 32 (0, 0))) := (HBK.out.block A (by rw [HKE.out]; exact lt_heap HQA.out)).trans HQA.out
  have HAL : Hid (A < Kb ∧ w.heap.size ≤ Kb) := ⟨by rw [HKE.out]; exact lt_heap HQA.out, by rw [HKE.out]; exact HB1.out.size⟩
  have HB0 : Hid (Below w.heap.size w w0) := HB1.out.trans (by rw [HKE.out] at HBK; exact HBK.out.mono HB1.out.size)
  clear c0 c1 c2 c3 c4 c5 c6 c7 c8 c9 HQY HQX HQA HBK HKE HB1
  obtain ⟨c0, c1, c2, c3, c4, c5, c6, c7, c8, c9⟩ := cellsP10 HY0.out
  obtain ⟨m0, m1, m2, m3⟩ := cellsP4 HX0.out
  go_wp2_with fail
  refine (does_4 Kb w0).mono ?_
  rintro e w1' ⟨rfl, rfl⟩
  go_wp2_with fail
  refine (HMB.out _).mono ?_
  rintro e w2 ⟨rfl, hb2⟩
  have HY2 := hide' ((hb2.block Y (lt_heap HY0.out)).trans HY0.out)
  have HX2 := hide' ((hb2.block X (lt_heap HX0.out)).trans HX0.out)
  have HA2 := hide' ((hb2.block A (lt_heap HA0.out)).trans HA0.out)
  have HK2 := hide' ((hb2.block Kb (lt_heap HQK.out)).trans HQK.out)
  have HB2 : Hid (Below w.heap.size w w2) := HB0.out.trans (hb2.mono HB0.out.size)
  clear hb2 HY0 HX0 HA0 HQK HB0 HMB c0 c1 c2 c3 c4 c5 c6 c7 c8 c9 m0 m1 m2 m3
  obtain ⟨c0, c1, c2, c3, c4, c5, c6, c7, c8, c9⟩ := cellsP10 HY2.out
  obtain ⟨m0, m1, m2, m3⟩ := cellsP4 HX2.out
  obtain ⟨b0, b1, b2, b3, b4, b5, b6, b7, b8, b9⟩ := cellsP10 HA2.out
  obtain ⟨e0, e1, e2, e3, e4, e5, e6, e7, e8, e9⟩ := frozenP10 HA2.out
  have HP := hide' (put10 HA2.out (.int .i64 no) (.int .i64 ph) (.int .i64 now) (.int .i64 pt) (.bool want) (.int .i64 timer) (.int .i64 pat) (.int .i64 tries) (.int .i64 lim) (.bool gave))
  have HBF := hide' (HB2.out.trans (HP.out.2.below HNE.out.2.2.1 HB2.out.size))
  go_wp2
  refine bodyPost_ret (results_cell_row2 rfl _ _ A 32 _ (0, 0) _ rfl HP.out.1 Try.underlying32 rfl (by kernel_rfl)) rfl ?_
  exact ⟨_, rfl, World.ownsRow_nil _ _ _ _, HBF.out⟩
set_option maxRecDepth 100000 in
set_option maxHeartbeats 2000000 in
theorem Heard_r5 (M : MaM) (a : MsM) (w : World) (hm : M.May) (hk : a.kind = 5) (hp : M.ph = 0) : Calls Try.prog 15 #[.agg M.cells, .agg a.cells] w (AskO M [] 0 w) := by
  have HMB := hide' (fun w' => masterMayBe_yes M w' hm)
  clear hm
  obtain ⟨no, ph, now, pt, want, timer, pat, tries, lim, gave⟩ := M
  obtain ⟨akind, ano, apt, awt⟩ := a
  simp only at hk hp
  subst hk hp
  unfold AskO
  unfold MaM.cells at HMB ⊢
  unfold MsM.cells
  simp only at HMB ⊢
  go_enter Try.func15, Try.ntmps15
  go_upto_region 1 with fail
  have hqY := (alloc_old ((w.alloc (.cells #[.int .i64 no, .int .i64 0, .int .i64 now, .int .i64 pt, .bool want, .int .i64 timer, .int .i64 pat, .int .i64 tries, .int .i64 lim, .bool gave] 32)).alloc (.cells #[.int .i64 5, .int .i64 ano, .int .i64 apt, .bool awt] 39)) (.cells #[.int .i64 0, .int .i64 0, .int .i64 0, .int .i64 0, .bool false, .int .i64 0, .int .i64 0, .int .i64 0, .int .i64 0, .bool false] 32) (lt_heap ((alloc_old (w.alloc (.cells #[.int .i64 no, .int .i64 0, .int .i64 now, .int .i64 pt, .bool want, .int .i64 timer, .int .i64 pat, .int .i64 tries, .int .i64 lim, .bool gave] 32)) (.cells #[.int .i64 5, .int .i64 ano, .int .i64 apt, .bool awt] 39) (lt_heap (alloc_new w (.cells #[.int .i64 no, .int .i64 0, .int .i64 now, .int .i64 pt, .bool want, .int .i64 timer, .int .i64 pat, .int .i64 tries, .int .i64 lim, .bool gave] 32)))).trans (alloc_new w (.cells #[.int .i64 no, .int .i64 0, .int .i64 now, .int .i64 pt, .bool want, .int .i64 timer, .int .i64 pat, .int .i64 tries, .int .i64 lim, .bool gave] 32))))).trans ((alloc_old (w.alloc (.cells #[.int .i64 no, .int .i64 0, .int .i64 now, .int .i64 pt, .bool want, .int .i64 timer, .int .i64 pat, .int .i64 tries, .int .i64 lim, .bool gave] 32)) (.cells #[.int .i64 5, .int .i64 ano, .int .i64 apt, .bool awt] 39) (lt_heap (alloc_new w (.cells #[.int .i64 no, .int .i64 0, .int .i64 now, .int .i64 pt, .bool want, .int .i64 timer, .int .i64 pat, .int .i64 tries, .int .i64 lim, .bool gave] 32)))).trans (alloc_new w (.cells #[.int .i64 no, .int .i64 0, .int .i64 now, .int .i64 pt, .bool want, .int .i64 timer, .int .i64 pat, .int .i64 tries, .int .i64 lim, .bool gave] 32)))
  have hqX := (alloc_old ((w.alloc (.cells #[.int .i64 no, .int .i64 0, .int .i64 now, .int .i64 pt, .bool want, .int .i64 timer, .int .i64 pat, .int .i64 tries, .int .i64 lim, .bool gave] 32)).alloc (.cells #[.int .i64 5, .int .i64 ano, .int .i64 apt, .bool awt] 39)) (.cells #[.int .i64 0, .int .i64 0, .int .i64 0, .int .i64 0, .bool false, .int .i64 0, .int .i64 0, .int .i64 0, .int .i64 0, .bool false] 32) (lt_heap (alloc_new (w.alloc (.cells #[.int .i64 no, .int .i64 0, .int .i64 now, .int .i64 pt, .bool want, .int .i64 timer, .int .i64 pat, .int .i64 tries, .int .i64 lim, .bool gave] 32)) (.cells #[.int .i64 5, .int .i64 ano, .int .i64 apt, .bool awt] 39)))).trans (alloc_new (w.alloc (.cells #[.int .i64 no, .int .i64 0, .int .i64 now, .int .i64 pt, .bool want, .int .i64 timer, .int .i64 pat, .int .i64 tries, .int .i64 lim, .bool gave] 32)) (.cells #[.int .i64 5, .int .i64 ano, .int .i64 apt, .bool awt] 39))
  have hqA := alloc_new ((w.alloc (.cells #[.int .i64 no, .int .i64 0, .int .i64 now, .int .i64 pt, .bool want, .int .i64 timer, .int .i64 pat, .int .i64 tries, .int .i64 lim, .bool gave] 32)).alloc (.cells #[.int .i64 5, .int .i64 ano, .int .i64 apt, .bool awt] 39)) (.cells #[.int .i64 0, .int .i64 0, .int .i64 0, .int .i64 0, .bool false, .int .i64 0, .int .i64 0, .int .i64 0, .int .i64 0, .bool false] 32)
  have hb1 := ((below_al w (.cells #[.int .i64 no, .int .i64 0, .int .i64 now, .int .i64 pt, .bool want, .int .i64 timer, .int .i64 pat, .int .i64 tries, .int .i64 lim, .bool gave] 32)).alloc (below_al w (.cells #[.int .i64 no, .int .i64 0, .int .i64 now, .int .i64 pt, .bool want, .int .i64 timer, .int .i64 pat, .int .i64 tries, .int .i64 lim, .bool gave] 32)).size (.cells #[.int .i64 5, .int .i64 ano, .int .i64 apt, .bool awt] 39)).alloc ((below_al w (.cells #[.int .i64 no, .int .i64 0, .int .i64 now, .int .i64 pt, .bool want, .int .i64 timer, .int .i64 pat, .int .i64 tries, .int .i64 lim, .bool gave] 32)).alloc (below_al w (.cells #[.int .i64 no, .int .i64 0, .int .i64 now, .int .i64 pt, .bool want, .int .i64 timer, .int .i64 pat, .int .i64 tries, .int .i64 lim, .bool gave] 32)).size (.cells #[.int .i64 5, .int .i64 ano, .int .i64 apt, .bool awt] 39)).size (.cells #[.int .i64 0, .int .i64 0, .int .i64 0, .int .i64 0, .bool false, .int .i64 0, .int .i64 0, .int .i64 0, .int .i64 0, .bool false] 32)
  rw [show (w.alloc (.cells #[.int .i64 no, .int .i64 0, .int .i64 now, .int .i64 pt, .bool want, .int .i64 timer, .int .i64 pat, .int .i64 tries, .int .i64 lim, .bool gave] 32)).heap.size = w.heap.size + 1 from by simp only [World.size_alloc]] at hqX
  rw [show ((w.alloc (.cells #[.int .i64 no, .int .i64 0, .int .i64 now, .int .i64 pt, .bool want, .int .i64 timer, .int .i64 pat, .int .i64 tries, .int .i64 lim, .bool gave] 32)).alloc (.cells #[.int .i64 5, .int .i64 ano, .int .i64 apt, .bool awt] 39)).heap.size = w.heap.size + 1 + 1 from by simp only [World.size_alloc]] at hqA
  obtain ⟨w1, hw1⟩ : ∃ x, x = (((w.alloc (.cells #[.int .i64 no, .int .i64 0, .int .i64 now, .int .i64 pt, .bool want, .int .i64 timer, .int .i64 pat, .int .i64 tries, .int .i64 lim, .bool gave] 32)).alloc (.cells #[.int .i64 5, .int .i64 ano, .int .i64 apt, .bool awt] 39)).alloc (.cells #[.int .i64 0, .int .i64 0, .int .i64 0, .int .i64 0, .bool false, .int .i64 0, .int .i64 0, .int .i64 0, .int .i64 0, .bool false] 32)) := ⟨_, rfl⟩
  rw [← hw1] at hqY hqX hqA hb1 ⊢
  obtain ⟨Y, hnY⟩ : ∃ x, x = w.heap.size := ⟨_, rfl⟩
  obtain ⟨X, hnX⟩ : ∃ x, x = w.heap.size + 1 := ⟨_, rfl⟩
  obtain ⟨A, hnA⟩ : ∃ x, x = w.heap.size + 1 + 1 := ⟨_, rfl⟩
  have HNE : Hid (w.heap.size ≤ Y ∧ w.heap.size ≤ X ∧ w.heap.size ≤ A ∧ Y ≠ X ∧ Y ≠ A ∧ X ≠ A) := ⟨by omega, by omega, by omega, by omega, by omega, by omega⟩
  rw [← hnY] at hqY
  rw [← hnX] at hqX
  rw [← hnA] at hqA
  rw [show (Value.pointer (some { block := w.heap.size, off := 0 })) = Value.pointer (some { block := Y, off := 0 }) by rw [hnY], show (Value.pointer (some { block := w.heap.size + 1, off := 0 })) = Value.pointer (some { block := X, off := 0 }) by rw [hnX], show (Value.pointer (some { block := w.heap.size + 1 + 1, off := 0 })) = Value.pointer (some { block := A, off := 0 }) by rw [hnA]]
  have HQY := hide' hqY
  have HQX := hide' hqX
  have HQA := hide' hqA
  have HB1 := hide' hb1
  clear hqY hqX hqA hb1 hw1 hnY hnX hnA
  obtain ⟨c0, c1, c2, c3, c4, c5, c6, c7, c8, c9⟩ := cellsP10 HQY.out
  go_upto_region 2 with fail
  have hqK := alloc_new w1 (.cells #[.int .i64 no, .int .i64 0, .int .i64 now, .int .i64 pt, .bool want, .int .i64 timer, .int .i64 pat, .int .i64 tries, .int .i64 lim, .bool gave] 64)
  have hbK := below_al w1 (.cells #[.int .i64 no, .int .i64 0, .int .i64 now, .int .i64 pt, .bool want, .int .i64 timer, .int .i64 pat, .int .i64 tries, .int .i64 lim, .bool gave] 64)
  obtain ⟨w0, hw0⟩ : ∃ x, x = w1.alloc (.cells #[.int .i64 no, .int .i64 0, .int .i64 now, .int .i64 pt, .bool want, .int .i64 timer, .int .i64 pat, .int .i64 tries, .int .i64 lim, .bool gave] 64) := ⟨_, rfl⟩
  rw [← hw0] at hqK hbK ⊢
  obtain ⟨Kb, hKb⟩ : ∃ x, x = w1.heap.size := ⟨_, rfl⟩
  rw [← hKb] at hqK hbK
  rw [show (Value.pointer (some { block := w1.heap.size, off := 0 })) = Value.pointer (some { block := Kb, off := 0 }) by rw [hKb]]
  have HQK := hide' hqK
  have HBK := hide' hbK
  have HKE := hide' hKb
  clear hqK hbK hw0 hKb
  have HY0 : Hid (w0.heap[Y]? = some (.cells #[.int .i64 no, .int .i64 0, .int .i64 now, .int .i64 pt, .bool want, .int .i64 timer, .int .i64 pat, .int .i64 tries, .int .i64 lim, .bool gave] 32 (0, 0))) := (HBK.out.block Y (by rw [HKE.out]; exact lt_heap HQY.out)).trans HQY.out
  have HX0 : Hid (w0.heap[X]? = some (.cells #[.int .i64 5, .int .i64 ano, .int .i64 apt, .bool awt] 39 (0, 0))) := (HBK.out.block X (by rw [HKE.out]; exact lt_heap HQX.out)).trans HQX.out
  have HA0 : Hid (w0.heap[A]? = some (.cells #[.int .i64 0, .int .i64 0, .int .i64 0, .int .i64 0, .bool false, .int .i64 0, .int .i64 0, .int .i64 0, .int .i64 0, .bool false] 32 (0, 0))) := (HBK.out.block A (by rw [HKE.out]; exact lt_heap HQA.out)).trans HQA.out
  have HAL : Hid (A < Kb ∧ w.heap.size ≤ Kb) := ⟨by rw [HKE.out]; exact lt_heap HQA.out, by rw [HKE.out]; exact HB1.out.size⟩
  have HB0 : Hid (Below w.heap.size w w0) := HB1.out.trans (by rw [HKE.out] at HBK; exact HBK.out.mono HB1.out.size)
  clear c0 c1 c2 c3 c4 c5 c6 c7 c8 c9 HQY HQX HQA HBK HKE HB1
  obtain ⟨c0, c1, c2, c3, c4, c5, c6, c7, c8, c9⟩ := cellsP10 HY0.out
  obtain ⟨m0, m1, m2, m3⟩ := cellsP4 HX0.out
  go_wp2_with fail
  refine (does_5 Kb w0).mono ?_
  rintro e w1' ⟨rfl, rfl⟩
  go_wp2_with fail
  refine (HMB.out _).mono ?_
  rintro e w2 ⟨rfl, hb2⟩
  have HY2 := hide' ((hb2.block Y (lt_heap HY0.out)).trans HY0.out)
  have HX2 := hide' ((hb2.block X (lt_heap HX0.out)).trans HX0.out)
  have HA2 := hide' ((hb2.block A (lt_heap HA0.out)).trans HA0.out)
  have HK2 := hide' ((hb2.block Kb (lt_heap HQK.out)).trans HQK.out)
  have HB2 : Hid (Below w.heap.size w w2) := HB0.out.trans (hb2.mono HB0.out.size)
  clear hb2 HY0 HX0 HA0 HQK HB0 HMB c0 c1 c2 c3 c4 c5 c6 c7 c8 c9 m0 m1 m2 m3
  obtain ⟨c0, c1, c2, c3, c4, c5, c6, c7, c8, c9⟩ := cellsP10 HY2.out
  obtain ⟨m0, m1, m2, m3⟩ := cellsP4 HX2.out
  obtain ⟨b0, b1, b2, b3, b4, b5, b6, b7, b8, b9⟩ := cellsP10 HA2.out
  obtain ⟨e0, e1, e2, e3, e4, e5, e6, e7, e8, e9⟩ := frozenP10 HA2.out
  have HP := hide' (put10 HA2.out (.int .i64 no) (.int .i64 0) (.int .i64 now) (.int .i64 pt) (.bool want) (.int .i64 timer) (.int .i64 pat) (.int .i64 tries) (.int .i64 lim) (.bool gave))
  have HBF := hide' (HB2.out.trans (HP.out.2.below HNE.out.2.2.1 HB2.out.size))
  go_wp2
  refine bodyPost_ret (results_cell_row2 rfl _ _ A 32 _ (0, 0) _ rfl HP.out.1 Try.underlying32 rfl (by kernel_rfl)) rfl ?_
  exact ⟨_, rfl, World.ownsRow_nil _ _ _ _, HBF.out⟩
set_option maxRecDepth 100000 in
set_option maxHeartbeats 2000000 in
theorem Heard_n5 (M : MaM) (a : MsM) (w : World) (hm : M.May) (hk : a.kind = 5) (hp : M.ph ≠ 0) (hn : a.no ≠ M.now) : Calls Try.prog 15 #[.agg M.cells, .agg a.cells] w (AskO M [] 0 w) := by
  have HMB := hide' (fun w' => masterMayBe_yes M w' hm)
  clear hm
  obtain ⟨no, ph, now, pt, want, timer, pat, tries, lim, gave⟩ := M
  obtain ⟨akind, ano, apt, awt⟩ := a
  simp only at hk hp hn
  subst hk
  have hp2 : (ph == 0) = false := beq_eq_false_iff_ne.2 hp
  have hn2 : (ano != now) = true := bne_iff_ne.2 hn
  unfold AskO
  unfold MaM.cells at HMB ⊢
  unfold MsM.cells
  simp only at HMB ⊢
  go_enter Try.func15, Try.ntmps15
  go_upto_region 1 with fail
  have hqY := (alloc_old ((w.alloc (.cells #[.int .i64 no, .int .i64 ph, .int .i64 now, .int .i64 pt, .bool want, .int .i64 timer, .int .i64 pat, .int .i64 tries, .int .i64 lim, .bool gave] 32)).alloc (.cells #[.int .i64 5, .int .i64 ano, .int .i64 apt, .bool awt] 39)) (.cells #[.int .i64 0, .int .i64 0, .int .i64 0, .int .i64 0, .bool false, .int .i64 0, .int .i64 0, .int .i64 0, .int .i64 0, .bool false] 32) (lt_heap ((alloc_old (w.alloc (.cells #[.int .i64 no, .int .i64 ph, .int .i64 now, .int .i64 pt, .bool want, .int .i64 timer, .int .i64 pat, .int .i64 tries, .int .i64 lim, .bool gave] 32)) (.cells #[.int .i64 5, .int .i64 ano, .int .i64 apt, .bool awt] 39) (lt_heap (alloc_new w (.cells #[.int .i64 no, .int .i64 ph, .int .i64 now, .int .i64 pt, .bool want, .int .i64 timer, .int .i64 pat, .int .i64 tries, .int .i64 lim, .bool gave] 32)))).trans (alloc_new w (.cells #[.int .i64 no, .int .i64 ph, .int .i64 now, .int .i64 pt, .bool want, .int .i64 timer, .int .i64 pat, .int .i64 tries, .int .i64 lim, .bool gave] 32))))).trans ((alloc_old (w.alloc (.cells #[.int .i64 no, .int .i64 ph, .int .i64 now, .int .i64 pt, .bool want, .int .i64 timer, .int .i64 pat, .int .i64 tries, .int .i64 lim, .bool gave] 32)) (.cells #[.int .i64 5, .int .i64 ano, .int .i64 apt, .bool awt] 39) (lt_heap (alloc_new w (.cells #[.int .i64 no, .int .i64 ph, .int .i64 now, .int .i64 pt, .bool want, .int .i64 timer, .int .i64 pat, .int .i64 tries, .int .i64 lim, .bool gave] 32)))).trans (alloc_new w (.cells #[.int .i64 no, .int .i64 ph, .int .i64 now, .int .i64 pt, .bool want, .int .i64 timer, .int .i64 pat, .int .i64 tries, .int .i64 lim, .bool gave] 32)))
  have hqX := (alloc_old ((w.alloc (.cells #[.int .i64 no, .int .i64 ph, .int .i64 now, .int .i64 pt, .bool want, .int .i64 timer, .int .i64 pat, .int .i64 tries, .int .i64 lim, .bool gave] 32)).alloc (.cells #[.int .i64 5, .int .i64 ano, .int .i64 apt, .bool awt] 39)) (.cells #[.int .i64 0, .int .i64 0, .int .i64 0, .int .i64 0, .bool false, .int .i64 0, .int .i64 0, .int .i64 0, .int .i64 0, .bool false] 32) (lt_heap (alloc_new (w.alloc (.cells #[.int .i64 no, .int .i64 ph, .int .i64 now, .int .i64 pt, .bool want, .int .i64 timer, .int .i64 pat, .int .i64 tries, .int .i64 lim, .bool gave] 32)) (.cells #[.int .i64 5, .int .i64 ano, .int .i64 apt, .bool awt] 39)))).trans (alloc_new (w.alloc (.cells #[.int .i64 no, .int .i64 ph, .int .i64 now, .int .i64 pt, .bool want, .int .i64 timer, .int .i64 pat, .int .i64 tries, .int .i64 lim, .bool gave] 32)) (.cells #[.int .i64 5, .int .i64 ano, .int .i64 apt, .bool awt] 39))
  have hqA := alloc_new ((w.alloc (.cells #[.int .i64 no, .int .i64 ph, .int .i64 now, .int .i64 pt, .bool want, .int .i64 timer, .int .i64 pat, .int .i64 tries, .int .i64 lim, .bool gave] 32)).alloc (.cells #[.int .i64 5, .int .i64 ano, .int .i64 apt, .bool awt] 39)) (.cells #[.int .i64 0, .int .i64 0, .int .i64 0, .int .i64 0, .bool false, .int .i64 0, .int .i64 0, .int .i64 0, .int .i64 0, .bool false] 32)
  have hb1 := ((below_al w (.cells #[.int .i64 no, .int .i64 ph, .int .i64 now, .int .i64 pt, .bool want, .int .i64 timer, .int .i64 pat, .int .i64 tries, .int .i64 lim, .bool gave] 32)).alloc (below_al w (.cells #[.int .i64 no, .int .i64 ph, .int .i64 now, .int .i64 pt, .bool want, .int .i64 timer, .int .i64 pat, .int .i64 tries, .int .i64 lim, .bool gave] 32)).size (.cells #[.int .i64 5, .int .i64 ano, .int .i64 apt, .bool awt] 39)).alloc ((below_al w (.cells #[.int .i64 no, .int .i64 ph, .int .i64 now, .int .i64 pt, .bool want, .int .i64 timer, .int .i64 pat, .int .i64 tries, .int .i64 lim, .bool gave] 32)).alloc (below_al w (.cells #[.int .i64 no, .int .i64 ph, .int .i64 now, .int .i64 pt, .bool want, .int .i64 timer, .int .i64 pat, .int .i64 tries, .int .i64 lim, .bool gave] 32)).size (.cells #[.int .i64 5, .int .i64 ano, .int .i64 apt, .bool awt] 39)).size (.cells #[.int .i64 0, .int .i64 0, .int .i64 0, .int .i64 0, .bool false, .int .i64 0, .int .i64 0, .int .i64 0, .int .i64 0, .bool false] 32)
  rw [show (w.alloc (.cells #[.int .i64 no, .int .i64 ph, .int .i64 now, .int .i64 pt, .bool want, .int .i64 timer, .int .i64 pat, .int .i64 tries, .int .i64 lim, .bool gave] 32)).heap.size = w.heap.size + 1 from by simp only [World.size_alloc]] at hqX
  rw [show ((w.alloc (.cells #[.int .i64 no, .int .i64 ph, .int .i64 now, .int .i64 pt, .bool want, .int .i64 timer, .int .i64 pat, .int .i64 tries, .int .i64 lim, .bool gave] 32)).alloc (.cells #[.int .i64 5, .int .i64 ano, .int .i64 apt, .bool awt] 39)).heap.size = w.heap.size + 1 + 1 from by simp only [World.size_alloc]] at hqA
  obtain ⟨w1, hw1⟩ : ∃ x, x = (((w.alloc (.cells #[.int .i64 no, .int .i64 ph, .int .i64 now, .int .i64 pt, .bool want, .int .i64 timer, .int .i64 pat, .int .i64 tries, .int .i64 lim, .bool gave] 32)).alloc (.cells #[.int .i64 5, .int .i64 ano, .int .i64 apt, .bool awt] 39)).alloc (.cells #[.int .i64 0, .int .i64 0, .int .i64 0, .int .i64 0, .bool false, .int .i64 0, .int .i64 0, .int .i64 0, .int .i64 0, .bool false] 32)) := ⟨_, rfl⟩
  rw [← hw1] at hqY hqX hqA hb1 ⊢
  obtain ⟨Y, hnY⟩ : ∃ x, x = w.heap.size := ⟨_, rfl⟩
  obtain ⟨X, hnX⟩ : ∃ x, x = w.heap.size + 1 := ⟨_, rfl⟩
  obtain ⟨A, hnA⟩ : ∃ x, x = w.heap.size + 1 + 1 := ⟨_, rfl⟩
  have HNE : Hid (w.heap.size ≤ Y ∧ w.heap.size ≤ X ∧ w.heap.size ≤ A ∧ Y ≠ X ∧ Y ≠ A ∧ X ≠ A) := ⟨by omega, by omega, by omega, by omega, by omega, by omega⟩
  rw [← hnY] at hqY
  rw [← hnX] at hqX
  rw [← hnA] at hqA
  rw [show (Value.pointer (some { block := w.heap.size, off := 0 })) = Value.pointer (some { block := Y, off := 0 }) by rw [hnY], show (Value.pointer (some { block := w.heap.size + 1, off := 0 })) = Value.pointer (some { block := X, off := 0 }) by rw [hnX], show (Value.pointer (some { block := w.heap.size + 1 + 1, off := 0 })) = Value.pointer (some { block := A, off := 0 }) by rw [hnA]]
  have HQY := hide' hqY
  have HQX := hide' hqX
  have HQA := hide' hqA
  have HB1 := hide' hb1
  clear hqY hqX hqA hb1 hw1 hnY hnX hnA
  obtain ⟨c0, c1, c2, c3, c4, c5, c6, c7, c8, c9⟩ := cellsP10 HQY.out
  go_upto_region 2 with fail
  have hqK := alloc_new w1 (.cells #[.int .i64 no, .int .i64 ph, .int .i64 now, .int .i64 pt, .bool want, .int .i64 timer, .int .i64 pat, .int .i64 tries, .int .i64 lim, .bool gave] 64)
  have hbK := below_al w1 (.cells #[.int .i64 no, .int .i64 ph, .int .i64 now, .int .i64 pt, .bool want, .int .i64 timer, .int .i64 pat, .int .i64 tries, .int .i64 lim, .bool gave] 64)
  obtain ⟨w0, hw0⟩ : ∃ x, x = w1.alloc (.cells #[.int .i64 no, .int .i64 ph, .int .i64 now, .int .i64 pt, .bool want, .int .i64 timer, .int .i64 pat, .int .i64 tries, .int .i64 lim, .bool gave] 64) := ⟨_, rfl⟩
  rw [← hw0] at hqK hbK ⊢
  obtain ⟨Kb, hKb⟩ : ∃ x, x = w1.heap.size := ⟨_, rfl⟩
  rw [← hKb] at hqK hbK
  rw [show (Value.pointer (some { block := w1.heap.size, off := 0 })) = Value.pointer (some { block := Kb, off := 0 }) by rw [hKb]]
  have HQK := hide' hqK
  have HBK := hide' hbK
  have HKE := hide' hKb
  clear hqK hbK hw0 hKb
  have HY0 : Hid (w0.heap[Y]? = some (.cells #[.int .i64 no, .int .i64 ph, .int .i64 now, .int .i64 pt, .bool want, .int .i64 timer, .int .i64 pat, .int .i64 tries, .int .i64 lim, .bool gave] 32 (0, 0))) := (HBK.out.block Y (by rw [HKE.out]; exact lt_heap HQY.out)).trans HQY.out
  have HX0 : Hid (w0.heap[X]? = some (.cells #[.int .i64 5, .int .i64 ano, .int .i64 apt, .bool awt] 39 (0, 0))) := (HBK.out.block X (by rw [HKE.out]; exact lt_heap HQX.out)).trans HQX.out
  have HA0 : Hid (w0.heap[A]? = some (.cells #[.int .i64 0, .int .i64 0, .int .i64 0, .int .i64 0, .bool false, .int .i64 0, .int .i64 0, .int .i64 0, .int .i64 0, .bool false] 32 (0, 0))) := (HBK.out.block A (by rw [HKE.out]; exact lt_heap HQA.out)).trans HQA.out
  have HAL : Hid (A < Kb ∧ w.heap.size ≤ Kb) := ⟨by rw [HKE.out]; exact lt_heap HQA.out, by rw [HKE.out]; exact HB1.out.size⟩
  have HB0 : Hid (Below w.heap.size w w0) := HB1.out.trans (by rw [HKE.out] at HBK; exact HBK.out.mono HB1.out.size)
  clear c0 c1 c2 c3 c4 c5 c6 c7 c8 c9 HQY HQX HQA HBK HKE HB1
  obtain ⟨c0, c1, c2, c3, c4, c5, c6, c7, c8, c9⟩ := cellsP10 HY0.out
  obtain ⟨m0, m1, m2, m3⟩ := cellsP4 HX0.out
  go_wp2_with fail
  refine (does_5 Kb w0).mono ?_
  rintro e w1' ⟨rfl, rfl⟩
  go_wp2_with fail
  refine (HMB.out _).mono ?_
  rintro e w2 ⟨rfl, hb2⟩
  have HY2 := hide' ((hb2.block Y (lt_heap HY0.out)).trans HY0.out)
  have HX2 := hide' ((hb2.block X (lt_heap HX0.out)).trans HX0.out)
  have HA2 := hide' ((hb2.block A (lt_heap HA0.out)).trans HA0.out)
  have HK2 := hide' ((hb2.block Kb (lt_heap HQK.out)).trans HQK.out)
  have HB2 : Hid (Below w.heap.size w w2) := HB0.out.trans (hb2.mono HB0.out.size)
  clear hb2 HY0 HX0 HA0 HQK HB0 HMB c0 c1 c2 c3 c4 c5 c6 c7 c8 c9 m0 m1 m2 m3
  obtain ⟨c0, c1, c2, c3, c4, c5, c6, c7, c8, c9⟩ := cellsP10 HY2.out
  obtain ⟨m0, m1, m2, m3⟩ := cellsP4 HX2.out
  obtain ⟨b0, b1, b2, b3, b4, b5, b6, b7, b8, b9⟩ := cellsP10 HA2.out
  obtain ⟨e0, e1, e2, e3, e4, e5, e6, e7, e8, e9⟩ := frozenP10 HA2.out
  have HP := hide' (put10 HA2.out (.int .i64 no) (.int .i64 ph) (.int .i64 now) (.int .i64 pt) (.bool want) (.int .i64 timer) (.int .i64 pat) (.int .i64 tries) (.int .i64 lim) (.bool gave))
  have HBF := hide' (HB2.out.trans (HP.out.2.below HNE.out.2.2.1 HB2.out.size))
  go_wp2
  refine bodyPost_ret (results_cell_row2 rfl _ _ A 32 _ (0, 0) _ rfl HP.out.1 Try.underlying32 rfl (by kernel_rfl)) rfl ?_
  exact ⟨_, rfl, World.ownsRow_nil _ _ _ _, HBF.out⟩
set_option maxRecDepth 100000 in
set_option maxHeartbeats 2000000 in
theorem Heard_2 (M : MaM) (a : MsM) (w : World) (hm : M.May) (hk : a.kind = 2) (hp : M.ph ≠ 0) (hn : a.no = M.now) (M1 : MaM) (os : List MsM) (hC : ∀ (B K : Nat) (w' : World), w'.heap[K]? = some (.cells M.cells 64 (0, 0)) → B ≤ K → Calls Try.prog 47 #[.pointer (some ⟨K, 0, none⟩)] w' (MasO B K M1 os w')) : Calls Try.prog 15 #[.agg M.cells, .agg a.cells] w (AskO M1 os 0 w) := by
  have HMB := hide' (fun w' => masterMayBe_yes M w' hm)
  have HC := hide' hC
  have hp2 : (M.ph == 0) = false := beq_eq_false_iff_ne.2 hp
  clear hm hC
  obtain ⟨no, ph, now, pt, want, timer, pat, tries, lim, gave⟩ := M
  obtain ⟨akind, ano, apt, awt⟩ := a
  obtain ⟨no1, ph1, now1, pt1, want1, timer1, pat1, tries1, lim1, gave1⟩ := M1
  simp only at hk hp hp2 hn
  subst hk hn
  unfold AskO
  unfold MasO at HC
  unfold MaM.cells at HMB HC ⊢
  unfold MsM.cells
  simp only at HMB HC ⊢
  go_enter Try.func15, Try.ntmps15
  go_upto_region 1 with fail
  have hqY := (alloc_old ((w.alloc (.cells #[.int .i64 no, .int .i64 ph, .int .i64 ano, .int .i64 pt, .bool want, .int .i64 timer, .int .i64 pat, .int .i64 tries, .int .i64 lim, .bool gave] 32)).alloc (.cells #[.int .i64 2, .int .i64 ano, .int .i64 apt, .bool awt] 39)) (.cells #[.int .i64 0, .int .i64 0, .int .i64 0, .int .i64 0, .bool false, .int .i64 0, .int .i64 0, .int .i64 0, .int .i64 0, .bool false] 32) (lt_heap ((alloc_old (w.alloc (.cells #[.int .i64 no, .int .i64 ph, .int .i64 ano, .int .i64 pt, .bool want, .int .i64 timer, .int .i64 pat, .int .i64 tries, .int .i64 lim, .bool gave] 32)) (.cells #[.int .i64 2, .int .i64 ano, .int .i64 apt, .bool awt] 39) (lt_heap (alloc_new w (.cells #[.int .i64 no, .int .i64 ph, .int .i64 ano, .int .i64 pt, .bool want, .int .i64 timer, .int .i64 pat, .int .i64 tries, .int .i64 lim, .bool gave] 32)))).trans (alloc_new w (.cells #[.int .i64 no, .int .i64 ph, .int .i64 ano, .int .i64 pt, .bool want, .int .i64 timer, .int .i64 pat, .int .i64 tries, .int .i64 lim, .bool gave] 32))))).trans ((alloc_old (w.alloc (.cells #[.int .i64 no, .int .i64 ph, .int .i64 ano, .int .i64 pt, .bool want, .int .i64 timer, .int .i64 pat, .int .i64 tries, .int .i64 lim, .bool gave] 32)) (.cells #[.int .i64 2, .int .i64 ano, .int .i64 apt, .bool awt] 39) (lt_heap (alloc_new w (.cells #[.int .i64 no, .int .i64 ph, .int .i64 ano, .int .i64 pt, .bool want, .int .i64 timer, .int .i64 pat, .int .i64 tries, .int .i64 lim, .bool gave] 32)))).trans (alloc_new w (.cells #[.int .i64 no, .int .i64 ph, .int .i64 ano, .int .i64 pt, .bool want, .int .i64 timer, .int .i64 pat, .int .i64 tries, .int .i64 lim, .bool gave] 32)))
  have hqX := (alloc_old ((w.alloc (.cells #[.int .i64 no, .int .i64 ph, .int .i64 ano, .int .i64 pt, .bool want, .int .i64 timer, .int .i64 pat, .int .i64 tries, .int .i64 lim, .bool gave] 32)).alloc (.cells #[.int .i64 2, .int .i64 ano, .int .i64 apt, .bool awt] 39)) (.cells #[.int .i64 0, .int .i64 0, .int .i64 0, .int .i64 0, .bool false, .int .i64 0, .int .i64 0, .int .i64 0, .int .i64 0, .bool false] 32) (lt_heap (alloc_new (w.alloc (.cells #[.int .i64 no, .int .i64 ph, .int .i64 ano, .int .i64 pt, .bool want, .int .i64 timer, .int .i64 pat, .int .i64 tries, .int .i64 lim, .bool gave] 32)) (.cells #[.int .i64 2, .int .i64 ano, .int .i64 apt, .bool awt] 39)))).trans (alloc_new (w.alloc (.cells #[.int .i64 no, .int .i64 ph, .int .i64 ano, .int .i64 pt, .bool want, .int .i64 timer, .int .i64 pat, .int .i64 tries, .int .i64 lim, .bool gave] 32)) (.cells #[.int .i64 2, .int .i64 ano, .int .i64 apt, .bool awt] 39))
  have hqA := alloc_new ((w.alloc (.cells #[.int .i64 no, .int .i64 ph, .int .i64 ano, .int .i64 pt, .bool want, .int .i64 timer, .int .i64 pat, .int .i64 tries, .int .i64 lim, .bool gave] 32)).alloc (.cells #[.int .i64 2, .int .i64 ano, .int .i64 apt, .bool awt] 39)) (.cells #[.int .i64 0, .int .i64 0, .int .i64 0, .int .i64 0, .bool false, .int .i64 0, .int .i64 0, .int .i64 0, .int .i64 0, .bool false] 32)
  have hb1 := ((below_al w (.cells #[.int .i64 no, .int .i64 ph, .int .i64 ano, .int .i64 pt, .bool want, .int .i64 timer, .int .i64 pat, .int .i64 tries, .int .i64 lim, .bool gave] 32)).alloc (below_al w (.cells #[.int .i64 no, .int .i64 ph, .int .i64 ano, .int .i64 pt, .bool want, .int .i64 timer, .int .i64 pat, .int .i64 tries, .int .i64 lim, .bool gave] 32)).size (.cells #[.int .i64 2, .int .i64 ano, .int .i64 apt, .bool awt] 39)).alloc ((below_al w (.cells #[.int .i64 no, .int .i64 ph, .int .i64 ano, .int .i64 pt, .bool want, .int .i64 timer, .int .i64 pat, .int .i64 tries, .int .i64 lim, .bool gave] 32)).alloc (below_al w (.cells #[.int .i64 no, .int .i64 ph, .int .i64 ano, .int .i64 pt, .bool want, .int .i64 timer, .int .i64 pat, .int .i64 tries, .int .i64 lim, .bool gave] 32)).size (.cells #[.int .i64 2, .int .i64 ano, .int .i64 apt, .bool awt] 39)).size (.cells #[.int .i64 0, .int .i64 0, .int .i64 0, .int .i64 0, .bool false, .int .i64 0, .int .i64 0, .int .i64 0, .int .i64 0, .bool false] 32)
  rw [show (w.alloc (.cells #[.int .i64 no, .int .i64 ph, .int .i64 ano, .int .i64 pt, .bool want, .int .i64 timer, .int .i64 pat, .int .i64 tries, .int .i64 lim, .bool gave] 32)).heap.size = w.heap.size + 1 from by simp only [World.size_alloc]] at hqX
  rw [show ((w.alloc (.cells #[.int .i64 no, .int .i64 ph, .int .i64 ano, .int .i64 pt, .bool want, .int .i64 timer, .int .i64 pat, .int .i64 tries, .int .i64 lim, .bool gave] 32)).alloc (.cells #[.int .i64 2, .int .i64 ano, .int .i64 apt, .bool awt] 39)).heap.size = w.heap.size + 1 + 1 from by simp only [World.size_alloc]] at hqA
  obtain ⟨w1, hw1⟩ : ∃ x, x = (((w.alloc (.cells #[.int .i64 no, .int .i64 ph, .int .i64 ano, .int .i64 pt, .bool want, .int .i64 timer, .int .i64 pat, .int .i64 tries, .int .i64 lim, .bool gave] 32)).alloc (.cells #[.int .i64 2, .int .i64 ano, .int .i64 apt, .bool awt] 39)).alloc (.cells #[.int .i64 0, .int .i64 0, .int .i64 0, .int .i64 0, .bool false, .int .i64 0, .int .i64 0, .int .i64 0, .int .i64 0, .bool false] 32)) := ⟨_, rfl⟩
  rw [← hw1] at hqY hqX hqA hb1 ⊢
  obtain ⟨Y, hnY⟩ : ∃ x, x = w.heap.size := ⟨_, rfl⟩
  obtain ⟨X, hnX⟩ : ∃ x, x = w.heap.size + 1 := ⟨_, rfl⟩
  obtain ⟨A, hnA⟩ : ∃ x, x = w.heap.size + 1 + 1 := ⟨_, rfl⟩
  have HNE : Hid (w.heap.size ≤ Y ∧ w.heap.size ≤ X ∧ w.heap.size ≤ A ∧ Y ≠ X ∧ Y ≠ A ∧ X ≠ A) := ⟨by omega, by omega, by omega, by omega, by omega, by omega⟩
  rw [← hnY] at hqY
  rw [← hnX] at hqX
  rw [← hnA] at hqA
  rw [show (Value.pointer (some { block := w.heap.size, off := 0 })) = Value.pointer (some { block := Y, off := 0 }) by rw [hnY], show (Value.pointer (some { block := w.heap.size + 1, off := 0 })) = Value.pointer (some { block := X, off := 0 }) by rw [hnX], show (Value.pointer (some { block := w.heap.size + 1 + 1, off := 0 })) = Value.pointer (some { block := A, off := 0 }) by rw [hnA]]
  have HQY := hide' hqY
  have HQX := hide' hqX
  have HQA := hide' hqA
  have HB1 := hide' hb1
  clear hqY hqX hqA hb1 hw1 hnY hnX hnA
  obtain ⟨c0, c1, c2, c3, c4, c5, c6, c7, c8, c9⟩ := cellsP10 HQY.out
  go_upto_region 2 with fail
  have hqK := alloc_new w1 (.cells #[.int .i64 no, .int .i64 ph, .int .i64 ano, .int .i64 pt, .bool want, .int .i64 timer, .int .i64 pat, .int .i64 tries, .int .i64 lim, .bool gave] 64)
  have hbK := below_al w1 (.cells #[.int .i64 no, .int .i64 ph, .int .i64 ano, .int .i64 pt, .bool want, .int .i64 timer, .int .i64 pat, .int .i64 tries, .int .i64 lim, .bool gave] 64)
  obtain ⟨w0, hw0⟩ : ∃ x, x = w1.alloc (.cells #[.int .i64 no, .int .i64 ph, .int .i64 ano, .int .i64 pt, .bool want, .int .i64 timer, .int .i64 pat, .int .i64 tries, .int .i64 lim, .bool gave] 64) := ⟨_, rfl⟩
  rw [← hw0] at hqK hbK ⊢
  obtain ⟨Kb, hKb⟩ : ∃ x, x = w1.heap.size := ⟨_, rfl⟩
  rw [← hKb] at hqK hbK
  rw [show (Value.pointer (some { block := w1.heap.size, off := 0 })) = Value.pointer (some { block := Kb, off := 0 }) by rw [hKb]]
  have HQK := hide' hqK
  have HBK := hide' hbK
  have HKE := hide' hKb
  clear hqK hbK hw0 hKb
  have HY0 : Hid (w0.heap[Y]? = some (.cells #[.int .i64 no, .int .i64 ph, .int .i64 ano, .int .i64 pt, .bool want, .int .i64 timer, .int .i64 pat, .int .i64 tries, .int .i64 lim, .bool gave] 32 (0, 0))) := (HBK.out.block Y (by rw [HKE.out]; exact lt_heap HQY.out)).trans HQY.out
  have HX0 : Hid (w0.heap[X]? = some (.cells #[.int .i64 2, .int .i64 ano, .int .i64 apt, .bool awt] 39 (0, 0))) := (HBK.out.block X (by rw [HKE.out]; exact lt_heap HQX.out)).trans HQX.out
  have HA0 : Hid (w0.heap[A]? = some (.cells #[.int .i64 0, .int .i64 0, .int .i64 0, .int .i64 0, .bool false, .int .i64 0, .int .i64 0, .int .i64 0, .int .i64 0, .bool false] 32 (0, 0))) := (HBK.out.block A (by rw [HKE.out]; exact lt_heap HQA.out)).trans HQA.out
  have HAL : Hid (A < Kb ∧ w.heap.size ≤ Kb) := ⟨by rw [HKE.out]; exact lt_heap HQA.out, by rw [HKE.out]; exact HB1.out.size⟩
  have HB0 : Hid (Below w.heap.size w w0) := HB1.out.trans (by rw [HKE.out] at HBK; exact HBK.out.mono HB1.out.size)
  clear c0 c1 c2 c3 c4 c5 c6 c7 c8 c9 HQY HQX HQA HBK HKE HB1
  obtain ⟨c0, c1, c2, c3, c4, c5, c6, c7, c8, c9⟩ := cellsP10 HY0.out
  obtain ⟨m0, m1, m2, m3⟩ := cellsP4 HX0.out
  go_wp2_with fail
  refine (does_2 Kb w0).mono ?_
  rintro e w1' ⟨rfl, rfl⟩
  go_wp2_with fail
  refine (HMB.out _).mono ?_
  rintro e w2 ⟨rfl, hb2⟩
  have HY2 := hide' ((hb2.block Y (lt_heap HY0.out)).trans HY0.out)
  have HX2 := hide' ((hb2.block X (lt_heap HX0.out)).trans HX0.out)
  have HA2 := hide' ((hb2.block A (lt_heap HA0.out)).trans HA0.out)
  have HK2 := hide' ((hb2.block Kb (lt_heap HQK.out)).trans HQK.out)
  have HB2 : Hid (Below w.heap.size w w2) := HB0.out.trans (hb2.mono HB0.out.size)
  clear hb2 HY0 HX0 HA0 HQK HB0 HMB c0 c1 c2 c3 c4 c5 c6 c7 c8 c9 m0 m1 m2 m3
  obtain ⟨c0, c1, c2, c3, c4, c5, c6, c7, c8, c9⟩ := cellsP10 HY2.out
  obtain ⟨m0, m1, m2, m3⟩ := cellsP4 HX2.out
  go_wp2_with fail
  refine (HC.out Kb Kb w2 HK2.out (Nat.le_refl _)).mono ?_
  rintro e w9 ⟨v, rfl, q1, q2, q3⟩
  have HKw := hide' q1
  have HAw := hide' ((q3.block A HAL.out.1).trans HA2.out)
  have HRW := hide' (own_mono q2 HAL.out.2)
  have HB9 := hide' (HB2.out.trans (q3.mono HAL.out.2))
  clear q1 q2 q3 HC HB2 HY2 HX2 HA2 HK2 c0 c1 c2 c3 c4 c5 c6 c7 c8 c9 m0 m1 m2 m3
  have HAx := hide' HAw.out
  obtain ⟨k0, k1, k2, k3, k4, k5, k6, k7, k8, k9⟩ := cellsP10 HKw.out
  obtain ⟨b0, b1, b2, b3, b4, b5, b6, b7, b8, b9⟩ := cellsP10 HAx.out
  obtain ⟨e0, e1, e2, e3, e4, e5, e6, e7, e8, e9⟩ := frozenP10 HAx.out
  have HP := hide' (put10 HAx.out (.int .i64 no1) (.int .i64 ph1) (.int .i64 now1) (.int .i64 pt1) (.bool want1) (.int .i64 timer1) (.int .i64 pat1) (.int .i64 tries1) (.int .i64 lim1) (.bool gave1))
  have HRF := hide' (own_keep HRW.out (but_keep HP.out.2 HAx.out) (by decide))
  have HBF := hide' (HB9.out.trans (HP.out.2.below HNE.out.2.2.1 HB9.out.size))
  clear HAw HKw HAx
  go_wp2
  refine bodyPost_ret (results_cell_row2 rfl _ _ A 32 _ (0, 0) _ rfl HP.out.1 Try.underlying32 rfl (by kernel_rfl)) rfl ?_
  exact ⟨_, rfl, HRF.out, HBF.out⟩
set_option maxRecDepth 100000 in
set_option maxHeartbeats 2000000 in
theorem Heard_4 (M : MaM) (a : MsM) (w : World) (hm : M.May) (hk : a.kind = 4) (hp : M.ph ≠ 0) (hn : a.no = M.now) (M1 : MaM) (os : List MsM) (hC : ∀ (B K : Nat) (w' : World), w'.heap[K]? = some (.cells M.cells 64 (0, 0)) → B ≤ K → Calls Try.prog 48 #[.pointer (some ⟨K, 0, none⟩)] w' (MasO B K M1 os w')) : Calls Try.prog 15 #[.agg M.cells, .agg a.cells] w (AskO M1 os 0 w) := by
  have HMB := hide' (fun w' => masterMayBe_yes M w' hm)
  have HC := hide' hC
  have hp2 : (M.ph == 0) = false := beq_eq_false_iff_ne.2 hp
  clear hm hC
  obtain ⟨no, ph, now, pt, want, timer, pat, tries, lim, gave⟩ := M
  obtain ⟨akind, ano, apt, awt⟩ := a
  obtain ⟨no1, ph1, now1, pt1, want1, timer1, pat1, tries1, lim1, gave1⟩ := M1
  simp only at hk hp hp2 hn
  subst hk hn
  unfold AskO
  unfold MasO at HC
  unfold MaM.cells at HMB HC ⊢
  unfold MsM.cells
  simp only at HMB HC ⊢
  go_enter Try.func15, Try.ntmps15
  go_upto_region 1 with fail
  have hqY := (alloc_old ((w.alloc (.cells #[.int .i64 no, .int .i64 ph, .int .i64 ano, .int .i64 pt, .bool want, .int .i64 timer, .int .i64 pat, .int .i64 tries, .int .i64 lim, .bool gave] 32)).alloc (.cells #[.int .i64 4, .int .i64 ano, .int .i64 apt, .bool awt] 39)) (.cells #[.int .i64 0, .int .i64 0, .int .i64 0, .int .i64 0, .bool false, .int .i64 0, .int .i64 0, .int .i64 0, .int .i64 0, .bool false] 32) (lt_heap ((alloc_old (w.alloc (.cells #[.int .i64 no, .int .i64 ph, .int .i64 ano, .int .i64 pt, .bool want, .int .i64 timer, .int .i64 pat, .int .i64 tries, .int .i64 lim, .bool gave] 32)) (.cells #[.int .i64 4, .int .i64 ano, .int .i64 apt, .bool awt] 39) (lt_heap (alloc_new w (.cells #[.int .i64 no, .int .i64 ph, .int .i64 ano, .int .i64 pt, .bool want, .int .i64 timer, .int .i64 pat, .int .i64 tries, .int .i64 lim, .bool gave] 32)))).trans (alloc_new w (.cells #[.int .i64 no, .int .i64 ph, .int .i64 ano, .int .i64 pt, .bool want, .int .i64 timer, .int .i64 pat, .int .i64 tries, .int .i64 lim, .bool gave] 32))))).trans ((alloc_old (w.alloc (.cells #[.int .i64 no, .int .i64 ph, .int .i64 ano, .int .i64 pt, .bool want, .int .i64 timer, .int .i64 pat, .int .i64 tries, .int .i64 lim, .bool gave] 32)) (.cells #[.int .i64 4, .int .i64 ano, .int .i64 apt, .bool awt] 39) (lt_heap (alloc_new w (.cells #[.int .i64 no, .int .i64 ph, .int .i64 ano, .int .i64 pt, .bool want, .int .i64 timer, .int .i64 pat, .int .i64 tries, .int .i64 lim, .bool gave] 32)))).trans (alloc_new w (.cells #[.int .i64 no, .int .i64 ph, .int .i64 ano, .int .i64 pt, .bool want, .int .i64 timer, .int .i64 pat, .int .i64 tries, .int .i64 lim, .bool gave] 32)))
  have hqX := (alloc_old ((w.alloc (.cells #[.int .i64 no, .int .i64 ph, .int .i64 ano, .int .i64 pt, .bool want, .int .i64 timer, .int .i64 pat, .int .i64 tries, .int .i64 lim, .bool gave] 32)).alloc (.cells #[.int .i64 4, .int .i64 ano, .int .i64 apt, .bool awt] 39)) (.cells #[.int .i64 0, .int .i64 0, .int .i64 0, .int .i64 0, .bool false, .int .i64 0, .int .i64 0, .int .i64 0, .int .i64 0, .bool false] 32) (lt_heap (alloc_new (w.alloc (.cells #[.int .i64 no, .int .i64 ph, .int .i64 ano, .int .i64 pt, .bool want, .int .i64 timer, .int .i64 pat, .int .i64 tries, .int .i64 lim, .bool gave] 32)) (.cells #[.int .i64 4, .int .i64 ano, .int .i64 apt, .bool awt] 39)))).trans (alloc_new (w.alloc (.cells #[.int .i64 no, .int .i64 ph, .int .i64 ano, .int .i64 pt, .bool want, .int .i64 timer, .int .i64 pat, .int .i64 tries, .int .i64 lim, .bool gave] 32)) (.cells #[.int .i64 4, .int .i64 ano, .int .i64 apt, .bool awt] 39))
  have hqA := alloc_new ((w.alloc (.cells #[.int .i64 no, .int .i64 ph, .int .i64 ano, .int .i64 pt, .bool want, .int .i64 timer, .int .i64 pat, .int .i64 tries, .int .i64 lim, .bool gave] 32)).alloc (.cells #[.int .i64 4, .int .i64 ano, .int .i64 apt, .bool awt] 39)) (.cells #[.int .i64 0, .int .i64 0, .int .i64 0, .int .i64 0, .bool false, .int .i64 0, .int .i64 0, .int .i64 0, .int .i64 0, .bool false] 32)
  have hb1 := ((below_al w (.cells #[.int .i64 no, .int .i64 ph, .int .i64 ano, .int .i64 pt, .bool want, .int .i64 timer, .int .i64 pat, .int .i64 tries, .int .i64 lim, .bool gave] 32)).alloc (below_al w (.cells #[.int .i64 no, .int .i64 ph, .int .i64 ano, .int .i64 pt, .bool want, .int .i64 timer, .int .i64 pat, .int .i64 tries, .int .i64 lim, .bool gave] 32)).size (.cells #[.int .i64 4, .int .i64 ano, .int .i64 apt, .bool awt] 39)).alloc ((below_al w (.cells #[.int .i64 no, .int .i64 ph, .int .i64 ano, .int .i64 pt, .bool want, .int .i64 timer, .int .i64 pat, .int .i64 tries, .int .i64 lim, .bool gave] 32)).alloc (below_al w (.cells #[.int .i64 no, .int .i64 ph, .int .i64 ano, .int .i64 pt, .bool want, .int .i64 timer, .int .i64 pat, .int .i64 tries, .int .i64 lim, .bool gave] 32)).size (.cells #[.int .i64 4, .int .i64 ano, .int .i64 apt, .bool awt] 39)).size (.cells #[.int .i64 0, .int .i64 0, .int .i64 0, .int .i64 0, .bool false, .int .i64 0, .int .i64 0, .int .i64 0, .int .i64 0, .bool false] 32)
  rw [show (w.alloc (.cells #[.int .i64 no, .int .i64 ph, .int .i64 ano, .int .i64 pt, .bool want, .int .i64 timer, .int .i64 pat, .int .i64 tries, .int .i64 lim, .bool gave] 32)).heap.size = w.heap.size + 1 from by simp only [World.size_alloc]] at hqX
  rw [show ((w.alloc (.cells #[.int .i64 no, .int .i64 ph, .int .i64 ano, .int .i64 pt, .bool want, .int .i64 timer, .int .i64 pat, .int .i64 tries, .int .i64 lim, .bool gave] 32)).alloc (.cells #[.int .i64 4, .int .i64 ano, .int .i64 apt, .bool awt] 39)).heap.size = w.heap.size + 1 + 1 from by simp only [World.size_alloc]] at hqA
  obtain ⟨w1, hw1⟩ : ∃ x, x = (((w.alloc (.cells #[.int .i64 no, .int .i64 ph, .int .i64 ano, .int .i64 pt, .bool want, .int .i64 timer, .int .i64 pat, .int .i64 tries, .int .i64 lim, .bool gave] 32)).alloc (.cells #[.int .i64 4, .int .i64 ano, .int .i64 apt, .bool awt] 39)).alloc (.cells #[.int .i64 0, .int .i64 0, .int .i64 0, .int .i64 0, .bool false, .int .i64 0, .int .i64 0, .int .i64 0, .int .i64 0, .bool false] 32)) := ⟨_, rfl⟩
  rw [← hw1] at hqY hqX hqA hb1 ⊢
  obtain ⟨Y, hnY⟩ : ∃ x, x = w.heap.size := ⟨_, rfl⟩
  obtain ⟨X, hnX⟩ : ∃ x, x = w.heap.size + 1 := ⟨_, rfl⟩
  obtain ⟨A, hnA⟩ : ∃ x, x = w.heap.size + 1 + 1 := ⟨_, rfl⟩
  have HNE : Hid (w.heap.size ≤ Y ∧ w.heap.size ≤ X ∧ w.heap.size ≤ A ∧ Y ≠ X ∧ Y ≠ A ∧ X ≠ A) := ⟨by omega, by omega, by omega, by omega, by omega, by omega⟩
  rw [← hnY] at hqY
  rw [← hnX] at hqX
  rw [← hnA] at hqA
  rw [show (Value.pointer (some { block := w.heap.size, off := 0 })) = Value.pointer (some { block := Y, off := 0 }) by rw [hnY], show (Value.pointer (some { block := w.heap.size + 1, off := 0 })) = Value.pointer (some { block := X, off := 0 }) by rw [hnX], show (Value.pointer (some { block := w.heap.size + 1 + 1, off := 0 })) = Value.pointer (some { block := A, off := 0 }) by rw [hnA]]
  have HQY := hide' hqY
  have HQX := hide' hqX
  have HQA := hide' hqA
  have HB1 := hide' hb1
  clear hqY hqX hqA hb1 hw1 hnY hnX hnA
  obtain ⟨c0, c1, c2, c3, c4, c5, c6, c7, c8, c9⟩ := cellsP10 HQY.out
  go_upto_region 2 with fail
  have hqK := alloc_new w1 (.cells #[.int .i64 no, .int .i64 ph, .int .i64 ano, .int .i64 pt, .bool want, .int .i64 timer, .int .i64 pat, .int .i64 tries, .int .i64 lim, .bool gave] 64)
  have hbK := below_al w1 (.cells #[.int .i64 no, .int .i64 ph, .int .i64 ano, .int .i64 pt, .bool want, .int .i64 timer, .int .i64 pat, .int .i64 tries, .int .i64 lim, .bool gave] 64)
  obtain ⟨w0, hw0⟩ : ∃ x, x = w1.alloc (.cells #[.int .i64 no, .int .i64 ph, .int .i64 ano, .int .i64 pt, .bool want, .int .i64 timer, .int .i64 pat, .int .i64 tries, .int .i64 lim, .bool gave] 64) := ⟨_, rfl⟩
  rw [← hw0] at hqK hbK ⊢
  obtain ⟨Kb, hKb⟩ : ∃ x, x = w1.heap.size := ⟨_, rfl⟩
  rw [← hKb] at hqK hbK
  rw [show (Value.pointer (some { block := w1.heap.size, off := 0 })) = Value.pointer (some { block := Kb, off := 0 }) by rw [hKb]]
  have HQK := hide' hqK
  have HBK := hide' hbK
  have HKE := hide' hKb
  clear hqK hbK hw0 hKb
  have HY0 : Hid (w0.heap[Y]? = some (.cells #[.int .i64 no, .int .i64 ph, .int .i64 ano, .int .i64 pt, .bool want, .int .i64 timer, .int .i64 pat, .int .i64 tries, .int .i64 lim, .bool gave] 32 (0, 0))) := (HBK.out.block Y (by rw [HKE.out]; exact lt_heap HQY.out)).trans HQY.out
  have HX0 : Hid (w0.heap[X]? = some (.cells #[.int .i64 4, .int .i64 ano, .int .i64 apt, .bool awt] 39 (0, 0))) := (HBK.out.block X (by rw [HKE.out]; exact lt_heap HQX.out)).trans HQX.out
  have HA0 : Hid (w0.heap[A]? = some (.cells #[.int .i64 0, .int .i64 0, .int .i64 0, .int .i64 0, .bool false, .int .i64 0, .int .i64 0, .int .i64 0, .int .i64 0, .bool false] 32 (0, 0))) := (HBK.out.block A (by rw [HKE.out]; exact lt_heap HQA.out)).trans HQA.out
  have HAL : Hid (A < Kb ∧ w.heap.size ≤ Kb) := ⟨by rw [HKE.out]; exact lt_heap HQA.out, by rw [HKE.out]; exact HB1.out.size⟩
  have HB0 : Hid (Below w.heap.size w w0) := HB1.out.trans (by rw [HKE.out] at HBK; exact HBK.out.mono HB1.out.size)
  clear c0 c1 c2 c3 c4 c5 c6 c7 c8 c9 HQY HQX HQA HBK HKE HB1
  obtain ⟨c0, c1, c2, c3, c4, c5, c6, c7, c8, c9⟩ := cellsP10 HY0.out
  obtain ⟨m0, m1, m2, m3⟩ := cellsP4 HX0.out
  go_wp2_with fail
  refine (does_4 Kb w0).mono ?_
  rintro e w1' ⟨rfl, rfl⟩
  go_wp2_with fail
  refine (HMB.out _).mono ?_
  rintro e w2 ⟨rfl, hb2⟩
  have HY2 := hide' ((hb2.block Y (lt_heap HY0.out)).trans HY0.out)
  have HX2 := hide' ((hb2.block X (lt_heap HX0.out)).trans HX0.out)
  have HA2 := hide' ((hb2.block A (lt_heap HA0.out)).trans HA0.out)
  have HK2 := hide' ((hb2.block Kb (lt_heap HQK.out)).trans HQK.out)
  have HB2 : Hid (Below w.heap.size w w2) := HB0.out.trans (hb2.mono HB0.out.size)
  clear hb2 HY0 HX0 HA0 HQK HB0 HMB c0 c1 c2 c3 c4 c5 c6 c7 c8 c9 m0 m1 m2 m3
  obtain ⟨c0, c1, c2, c3, c4, c5, c6, c7, c8, c9⟩ := cellsP10 HY2.out
  obtain ⟨m0, m1, m2, m3⟩ := cellsP4 HX2.out
  go_wp2_with fail
  refine (HC.out Kb Kb w2 HK2.out (Nat.le_refl _)).mono ?_
  rintro e w9 ⟨v, rfl, q1, q2, q3⟩
  have HKw := hide' q1
  have HAw := hide' ((q3.block A HAL.out.1).trans HA2.out)
  have HRW := hide' (own_mono q2 HAL.out.2)
  have HB9 := hide' (HB2.out.trans (q3.mono HAL.out.2))
  clear q1 q2 q3 HC HB2 HY2 HX2 HA2 HK2 c0 c1 c2 c3 c4 c5 c6 c7 c8 c9 m0 m1 m2 m3
  have HAx := hide' HAw.out
  obtain ⟨k0, k1, k2, k3, k4, k5, k6, k7, k8, k9⟩ := cellsP10 HKw.out
  obtain ⟨b0, b1, b2, b3, b4, b5, b6, b7, b8, b9⟩ := cellsP10 HAx.out
  obtain ⟨e0, e1, e2, e3, e4, e5, e6, e7, e8, e9⟩ := frozenP10 HAx.out
  have HP := hide' (put10 HAx.out (.int .i64 no1) (.int .i64 ph1) (.int .i64 now1) (.int .i64 pt1) (.bool want1) (.int .i64 timer1) (.int .i64 pat1) (.int .i64 tries1) (.int .i64 lim1) (.bool gave1))
  have HRF := hide' (own_keep HRW.out (but_keep HP.out.2 HAx.out) (by decide))
  have HBF := hide' (HB9.out.trans (HP.out.2.below HNE.out.2.2.1 HB9.out.size))
  clear HAw HKw HAx
  go_wp2
  refine bodyPost_ret (results_cell_row2 rfl _ _ A 32 _ (0, 0) _ rfl HP.out.1 Try.underlying32 rfl (by kernel_rfl)) rfl ?_
  exact ⟨_, rfl, HRF.out, HBF.out⟩
set_option maxRecDepth 100000 in
set_option maxHeartbeats 2000000 in
theorem Heard_5 (M : MaM) (a : MsM) (w : World) (hm : M.May) (hk : a.kind = 5) (hp : M.ph ≠ 0) (hn : a.no = M.now) (M1 : MaM) (os : List MsM) (hC : ∀ (B K : Nat) (w' : World), w'.heap[K]? = some (.cells M.cells 64 (0, 0)) → B ≤ K → Calls Try.prog 49 #[.pointer (some ⟨K, 0, none⟩)] w' (MasO B K M1 os w')) : Calls Try.prog 15 #[.agg M.cells, .agg a.cells] w (AskO M1 os 0 w) := by
  have HMB := hide' (fun w' => masterMayBe_yes M w' hm)
  have HC := hide' hC
  have hp2 : (M.ph == 0) = false := beq_eq_false_iff_ne.2 hp
  clear hm hC
  obtain ⟨no, ph, now, pt, want, timer, pat, tries, lim, gave⟩ := M
  obtain ⟨akind, ano, apt, awt⟩ := a
  obtain ⟨no1, ph1, now1, pt1, want1, timer1, pat1, tries1, lim1, gave1⟩ := M1
  simp only at hk hp hp2 hn
  subst hk hn
  unfold AskO
  unfold MasO at HC
  unfold MaM.cells at HMB HC ⊢
  unfold MsM.cells
  simp only at HMB HC ⊢
  go_enter Try.func15, Try.ntmps15
  go_upto_region 1 with fail
  have hqY := (alloc_old ((w.alloc (.cells #[.int .i64 no, .int .i64 ph, .int .i64 ano, .int .i64 pt, .bool want, .int .i64 timer, .int .i64 pat, .int .i64 tries, .int .i64 lim, .bool gave] 32)).alloc (.cells #[.int .i64 5, .int .i64 ano, .int .i64 apt, .bool awt] 39)) (.cells #[.int .i64 0, .int .i64 0, .int .i64 0, .int .i64 0, .bool false, .int .i64 0, .int .i64 0, .int .i64 0, .int .i64 0, .bool false] 32) (lt_heap ((alloc_old (w.alloc (.cells #[.int .i64 no, .int .i64 ph, .int .i64 ano, .int .i64 pt, .bool want, .int .i64 timer, .int .i64 pat, .int .i64 tries, .int .i64 lim, .bool gave] 32)) (.cells #[.int .i64 5, .int .i64 ano, .int .i64 apt, .bool awt] 39) (lt_heap (alloc_new w (.cells #[.int .i64 no, .int .i64 ph, .int .i64 ano, .int .i64 pt, .bool want, .int .i64 timer, .int .i64 pat, .int .i64 tries, .int .i64 lim, .bool gave] 32)))).trans (alloc_new w (.cells #[.int .i64 no, .int .i64 ph, .int .i64 ano, .int .i64 pt, .bool want, .int .i64 timer, .int .i64 pat, .int .i64 tries, .int .i64 lim, .bool gave] 32))))).trans ((alloc_old (w.alloc (.cells #[.int .i64 no, .int .i64 ph, .int .i64 ano, .int .i64 pt, .bool want, .int .i64 timer, .int .i64 pat, .int .i64 tries, .int .i64 lim, .bool gave] 32)) (.cells #[.int .i64 5, .int .i64 ano, .int .i64 apt, .bool awt] 39) (lt_heap (alloc_new w (.cells #[.int .i64 no, .int .i64 ph, .int .i64 ano, .int .i64 pt, .bool want, .int .i64 timer, .int .i64 pat, .int .i64 tries, .int .i64 lim, .bool gave] 32)))).trans (alloc_new w (.cells #[.int .i64 no, .int .i64 ph, .int .i64 ano, .int .i64 pt, .bool want, .int .i64 timer, .int .i64 pat, .int .i64 tries, .int .i64 lim, .bool gave] 32)))
  have hqX := (alloc_old ((w.alloc (.cells #[.int .i64 no, .int .i64 ph, .int .i64 ano, .int .i64 pt, .bool want, .int .i64 timer, .int .i64 pat, .int .i64 tries, .int .i64 lim, .bool gave] 32)).alloc (.cells #[.int .i64 5, .int .i64 ano, .int .i64 apt, .bool awt] 39)) (.cells #[.int .i64 0, .int .i64 0, .int .i64 0, .int .i64 0, .bool false, .int .i64 0, .int .i64 0, .int .i64 0, .int .i64 0, .bool false] 32) (lt_heap (alloc_new (w.alloc (.cells #[.int .i64 no, .int .i64 ph, .int .i64 ano, .int .i64 pt, .bool want, .int .i64 timer, .int .i64 pat, .int .i64 tries, .int .i64 lim, .bool gave] 32)) (.cells #[.int .i64 5, .int .i64 ano, .int .i64 apt, .bool awt] 39)))).trans (alloc_new (w.alloc (.cells #[.int .i64 no, .int .i64 ph, .int .i64 ano, .int .i64 pt, .bool want, .int .i64 timer, .int .i64 pat, .int .i64 tries, .int .i64 lim, .bool gave] 32)) (.cells #[.int .i64 5, .int .i64 ano, .int .i64 apt, .bool awt] 39))
  have hqA := alloc_new ((w.alloc (.cells #[.int .i64 no, .int .i64 ph, .int .i64 ano, .int .i64 pt, .bool want, .int .i64 timer, .int .i64 pat, .int .i64 tries, .int .i64 lim, .bool gave] 32)).alloc (.cells #[.int .i64 5, .int .i64 ano, .int .i64 apt, .bool awt] 39)) (.cells #[.int .i64 0, .int .i64 0, .int .i64 0, .int .i64 0, .bool false, .int .i64 0, .int .i64 0, .int .i64 0, .int .i64 0, .bool false] 32)
  have hb1 := ((below_al w (.cells #[.int .i64 no, .int .i64 ph, .int .i64 ano, .int .i64 pt, .bool want, .int .i64 timer, .int .i64 pat, .int .i64 tries, .int .i64 lim, .bool gave] 32)).alloc (below_al w (.cells #[.int .i64 no, .int .i64 ph, .int .i64 ano, .int .i64 pt, .bool want, .int .i64 timer, .int .i64 pat, .int .i64 tries, .int .i64 lim, .bool gave] 32)).size (.cells #[.int .i64 5, .int .i64 ano, .int .i64 apt, .bool awt] 39)).alloc ((below_al w (.cells #[.int .i64 no, .int .i64 ph, .int .i64 ano, .int .i64 pt, .bool want, .int .i64 timer, .int .i64 pat, .int .i64 tries, .int .i64 lim, .bool gave] 32)).alloc (below_al w (.cells #[.int .i64 no, .int .i64 ph, .int .i64 ano, .int .i64 pt, .bool want, .int .i64 timer, .int .i64 pat, .int .i64 tries, .int .i64 lim, .bool gave] 32)).size (.cells #[.int .i64 5, .int .i64 ano, .int .i64 apt, .bool awt] 39)).size (.cells #[.int .i64 0, .int .i64 0, .int .i64 0, .int .i64 0, .bool false, .int .i64 0, .int .i64 0, .int .i64 0, .int .i64 0, .bool false] 32)
  rw [show (w.alloc (.cells #[.int .i64 no, .int .i64 ph, .int .i64 ano, .int .i64 pt, .bool want, .int .i64 timer, .int .i64 pat, .int .i64 tries, .int .i64 lim, .bool gave] 32)).heap.size = w.heap.size + 1 from by simp only [World.size_alloc]] at hqX
  rw [show ((w.alloc (.cells #[.int .i64 no, .int .i64 ph, .int .i64 ano, .int .i64 pt, .bool want, .int .i64 timer, .int .i64 pat, .int .i64 tries, .int .i64 lim, .bool gave] 32)).alloc (.cells #[.int .i64 5, .int .i64 ano, .int .i64 apt, .bool awt] 39)).heap.size = w.heap.size + 1 + 1 from by simp only [World.size_alloc]] at hqA
  obtain ⟨w1, hw1⟩ : ∃ x, x = (((w.alloc (.cells #[.int .i64 no, .int .i64 ph, .int .i64 ano, .int .i64 pt, .bool want, .int .i64 timer, .int .i64 pat, .int .i64 tries, .int .i64 lim, .bool gave] 32)).alloc (.cells #[.int .i64 5, .int .i64 ano, .int .i64 apt, .bool awt] 39)).alloc (.cells #[.int .i64 0, .int .i64 0, .int .i64 0, .int .i64 0, .bool false, .int .i64 0, .int .i64 0, .int .i64 0, .int .i64 0, .bool false] 32)) := ⟨_, rfl⟩
  rw [← hw1] at hqY hqX hqA hb1 ⊢
  obtain ⟨Y, hnY⟩ : ∃ x, x = w.heap.size := ⟨_, rfl⟩
  obtain ⟨X, hnX⟩ : ∃ x, x = w.heap.size + 1 := ⟨_, rfl⟩
  obtain ⟨A, hnA⟩ : ∃ x, x = w.heap.size + 1 + 1 := ⟨_, rfl⟩
  have HNE : Hid (w.heap.size ≤ Y ∧ w.heap.size ≤ X ∧ w.heap.size ≤ A ∧ Y ≠ X ∧ Y ≠ A ∧ X ≠ A) := ⟨by omega, by omega, by omega, by omega, by omega, by omega⟩
  rw [← hnY] at hqY
  rw [← hnX] at hqX
  rw [← hnA] at hqA
  rw [show (Value.pointer (some { block := w.heap.size, off := 0 })) = Value.pointer (some { block := Y, off := 0 }) by rw [hnY], show (Value.pointer (some { block := w.heap.size + 1, off := 0 })) = Value.pointer (some { block := X, off := 0 }) by rw [hnX], show (Value.pointer (some { block := w.heap.size + 1 + 1, off := 0 })) = Value.pointer (some { block := A, off := 0 }) by rw [hnA]]
  have HQY := hide' hqY
  have HQX := hide' hqX
  have HQA := hide' hqA
  have HB1 := hide' hb1
  clear hqY hqX hqA hb1 hw1 hnY hnX hnA
  obtain ⟨c0, c1, c2, c3, c4, c5, c6, c7, c8, c9⟩ := cellsP10 HQY.out
  go_upto_region 2 with fail
  have hqK := alloc_new w1 (.cells #[.int .i64 no, .int .i64 ph, .int .i64 ano, .int .i64 pt, .bool want, .int .i64 timer, .int .i64 pat, .int .i64 tries, .int .i64 lim, .bool gave] 64)
  have hbK := below_al w1 (.cells #[.int .i64 no, .int .i64 ph, .int .i64 ano, .int .i64 pt, .bool want, .int .i64 timer, .int .i64 pat, .int .i64 tries, .int .i64 lim, .bool gave] 64)
  obtain ⟨w0, hw0⟩ : ∃ x, x = w1.alloc (.cells #[.int .i64 no, .int .i64 ph, .int .i64 ano, .int .i64 pt, .bool want, .int .i64 timer, .int .i64 pat, .int .i64 tries, .int .i64 lim, .bool gave] 64) := ⟨_, rfl⟩
  rw [← hw0] at hqK hbK ⊢
  obtain ⟨Kb, hKb⟩ : ∃ x, x = w1.heap.size := ⟨_, rfl⟩
  rw [← hKb] at hqK hbK
  rw [show (Value.pointer (some { block := w1.heap.size, off := 0 })) = Value.pointer (some { block := Kb, off := 0 }) by rw [hKb]]
  have HQK := hide' hqK
  have HBK := hide' hbK
  have HKE := hide' hKb
  clear hqK hbK hw0 hKb
  have HY0 : Hid (w0.heap[Y]? = some (.cells #[.int .i64 no, .int .i64 ph, .int .i64 ano, .int .i64 pt, .bool want, .int .i64 timer, .int .i64 pat, .int .i64 tries, .int .i64 lim, .bool gave] 32 (0, 0))) := (HBK.out.block Y (by rw [HKE.out]; exact lt_heap HQY.out)).trans HQY.out
  have HX0 : Hid (w0.heap[X]? = some (.cells #[.int .i64 5, .int .i64 ano, .int .i64 apt, .bool awt] 39 (0, 0))) := (HBK.out.block X (by rw [HKE.out]; exact lt_heap HQX.out)).trans HQX.out
  have HA0 : Hid (w0.heap[A]? = some (.cells #[.int .i64 0, .int .i64 0, .int .i64 0, .int .i64 0, .bool false, .int .i64 0, .int .i64 0, .int .i64 0, .int .i64 0, .bool false] 32 (0, 0))) := (HBK.out.block A (by rw [HKE.out]; exact lt_heap HQA.out)).trans HQA.out
  have HAL : Hid (A < Kb ∧ w.heap.size ≤ Kb) := ⟨by rw [HKE.out]; exact lt_heap HQA.out, by rw [HKE.out]; exact HB1.out.size⟩
  have HB0 : Hid (Below w.heap.size w w0) := HB1.out.trans (by rw [HKE.out] at HBK; exact HBK.out.mono HB1.out.size)
  clear c0 c1 c2 c3 c4 c5 c6 c7 c8 c9 HQY HQX HQA HBK HKE HB1
  obtain ⟨c0, c1, c2, c3, c4, c5, c6, c7, c8, c9⟩ := cellsP10 HY0.out
  obtain ⟨m0, m1, m2, m3⟩ := cellsP4 HX0.out
  go_wp2_with fail
  refine (does_5 Kb w0).mono ?_
  rintro e w1' ⟨rfl, rfl⟩
  go_wp2_with fail
  refine (HMB.out _).mono ?_
  rintro e w2 ⟨rfl, hb2⟩
  have HY2 := hide' ((hb2.block Y (lt_heap HY0.out)).trans HY0.out)
  have HX2 := hide' ((hb2.block X (lt_heap HX0.out)).trans HX0.out)
  have HA2 := hide' ((hb2.block A (lt_heap HA0.out)).trans HA0.out)
  have HK2 := hide' ((hb2.block Kb (lt_heap HQK.out)).trans HQK.out)
  have HB2 : Hid (Below w.heap.size w w2) := HB0.out.trans (hb2.mono HB0.out.size)
  clear hb2 HY0 HX0 HA0 HQK HB0 HMB c0 c1 c2 c3 c4 c5 c6 c7 c8 c9 m0 m1 m2 m3
  obtain ⟨c0, c1, c2, c3, c4, c5, c6, c7, c8, c9⟩ := cellsP10 HY2.out
  obtain ⟨m0, m1, m2, m3⟩ := cellsP4 HX2.out
  go_wp2_with fail
  refine (HC.out Kb Kb w2 HK2.out (Nat.le_refl _)).mono ?_
  rintro e w9 ⟨v, rfl, q1, q2, q3⟩
  have HKw := hide' q1
  have HAw := hide' ((q3.block A HAL.out.1).trans HA2.out)
  have HRW := hide' (own_mono q2 HAL.out.2)
  have HB9 := hide' (HB2.out.trans (q3.mono HAL.out.2))
  clear q1 q2 q3 HC HB2 HY2 HX2 HA2 HK2 c0 c1 c2 c3 c4 c5 c6 c7 c8 c9 m0 m1 m2 m3
  have HAx := hide' HAw.out
  obtain ⟨k0, k1, k2, k3, k4, k5, k6, k7, k8, k9⟩ := cellsP10 HKw.out
  obtain ⟨b0, b1, b2, b3, b4, b5, b6, b7, b8, b9⟩ := cellsP10 HAx.out
  obtain ⟨e0, e1, e2, e3, e4, e5, e6, e7, e8, e9⟩ := frozenP10 HAx.out
  have HP := hide' (put10 HAx.out (.int .i64 no1) (.int .i64 ph1) (.int .i64 now1) (.int .i64 pt1) (.bool want1) (.int .i64 timer1) (.int .i64 pat1) (.int .i64 tries1) (.int .i64 lim1) (.bool gave1))
  have HRF := hide' (own_keep HRW.out (but_keep HP.out.2 HAx.out) (by decide))
  have HBF := hide' (HB9.out.trans (HP.out.2.below HNE.out.2.2.1 HB9.out.size))
  clear HAw HKw HAx
  go_wp2
  refine bodyPost_ret (results_cell_row2 rfl _ _ A 32 _ (0, 0) _ rfl HP.out.1 Try.underlying32 rfl (by kernel_rfl)) rfl ?_
  exact ⟨_, rfl, HRF.out, HBF.out⟩
theorem Heard_any (M : MaM) (a : MsM) (w : World) (hm : M.May) (hk : a.kind = 2 ∨ a.kind = 4 ∨ a.kind = 5) : Calls Try.prog 15 #[.agg M.cells, .agg a.cells] w (AskO (heardM M a) (heardL M a) 0 w) := by
  by_cases hp : M.ph = 0
  · have e1 : heardM M a = M := by unfold heardM; rw [if_pos (.inl hp)]
    have e2 : heardL M a = [] := by unfold heardL; rw [if_pos (.inl hp)]
    rw [e1, e2]
    rcases hk with hk | hk | hk
    · exact Heard_r2 M a w hm hk hp
    · exact Heard_r4 M a w hm hk hp
    · exact Heard_r5 M a w hm hk hp
  · by_cases hn : a.no = M.now
    · have hc : ¬ (M.ph = 0 ∨ a.no ≠ M.now) := fun h => h.elim hp (fun h => h hn)
      rcases hk with hk | hk | hk
      · have e1 : heardM M a = if M.ph = 1 then M.enter 3 else M := by unfold heardM; rw [if_neg hc, if_pos hk]
        have e2 : heardL M a = if M.ph = 1 then [(M.enter 3).msg] else [] := by unfold heardL; rw [if_neg hc, if_pos hk]
        rw [e1, e2]
        exact Heard_2 M a w hm hk hp hn _ _ (fun B K w' h hB => ready_any M B K w' h hB)
      · have hk2 : ¬ a.kind = 2 := by omega
        have e1 : heardM M a = M.rest := by unfold heardM; rw [if_neg hc, if_neg hk2, if_pos hk]
        have e2 : heardL M a = [] := by unfold heardL; rw [if_neg hc, if_neg hk2, if_pos hk]
        rw [e1, e2]
        exact Heard_4 M a w hm hk hp hn _ _ (fun B K w' h hB => done_any M B K w' h hB)
      · have hk2 : ¬ a.kind = 2 := by omega
        have hk4 : ¬ a.kind = 4 := by omega
        have e1 : heardM M a = if M.ph = 3 then M.enter 1 else M.giveUp := by unfold heardM; rw [if_neg hc, if_neg hk2, if_neg hk4]
        have e2 : heardL M a = if M.ph = 3 then [(M.enter 1).msg] else [] := by unfold heardL; rw [if_neg hc, if_neg hk2, if_neg hk4]
        rw [e1, e2]
        exact Heard_5 M a w hm hk hp hn _ _ (fun B K w' h hB => refused_any M B K w' h hB)
    · have e1 : heardM M a = M := by unfold heardM; rw [if_pos (.inr hn)]
      have e2 : heardL M a = [] := by unfold heardL; rw [if_pos (.inr hn)]
      rw [e1, e2]
      rcases hk with hk | hk | hk
      · exact Heard_n2 M a w hm hk hp hn
      · exact Heard_n4 M a w hm hk hp hn
      · exact Heard_n5 M a w hm hk hp hn
end Go.Proofs.Ytjhmendiefojoam
