/- Masters that begin; RemoteBegins answers true. -/
import Derived.Test.YtjhmendiefojoalS7
namespace Go.Proofs.Ytjhmendiefojoal
open Go.RowKit Go.Shelf

theorem put10 {w : World} {A e : Nat} {x0 x1 x2 x3 x4 x5 x6 x7 x8 x9 : Value} (h : w.heap[A]? = some (.cells #[x0, x1, x2, x3, x4, x5, x6, x7, x8, x9] e (0, 0))) (v0 v1 v2 v3 v4 v5 v6 v7 v8 v9 : Value) : ((((((((((w.setCell ⟨A, 0, none⟩ v0).setCell ⟨A, 1, none⟩ v1).setCell ⟨A, 2, none⟩ v2).setCell ⟨A, 3, none⟩ v3).setCell ⟨A, 4, none⟩ v4).setCell ⟨A, 5, none⟩ v5).setCell ⟨A, 6, none⟩ v6).setCell ⟨A, 7, none⟩ v7).setCell ⟨A, 8, none⟩ v8).setCell ⟨A, 9, none⟩ v9).heap[A]? = some (.cells #[v0, v1, v2, v3, v4, v5, v6, v7, v8, v9] e (0, 0)) ∧ But A w ((((((((((w.setCell ⟨A, 0, none⟩ v0).setCell ⟨A, 1, none⟩ v1).setCell ⟨A, 2, none⟩ v2).setCell ⟨A, 3, none⟩ v3).setCell ⟨A, 4, none⟩ v4).setCell ⟨A, 5, none⟩ v5).setCell ⟨A, 6, none⟩ v6).setCell ⟨A, 7, none⟩ v7).setCell ⟨A, 8, none⟩ v8).setCell ⟨A, 9, none⟩ v9) := by
  refine ⟨?_, But.set (But.set (But.set (But.set (But.set (But.set (But.set (But.set (But.set (But.set (But.refl A w) _ _) _ _) _ _) _ _) _ _) _ _) _ _) _ _) _ _) _ _⟩
  exact (set_any (set_any (set_any (set_any (set_any (set_any (set_any (set_any (set_any (set_any (h) 0 _) 1 _) 2 _) 3 _) 4 _) 5 _) 6 _) 7 _) 8 _) 9 _).trans (by simp only [List.setIfInBounds_toArray, List.set_cons_zero, List.set_cons_succ])
def okM (p q : Int) : Bool := (decide (1 ≤ p) && decide (p ≤ 1000)) && (decide (1 ≤ q) && decide (q ≤ 100))
def mast (p q : Int) : Value := .agg #[.int .i64 0, .int .i64 0, .int .i64 0, .int .i64 0, .bool false, .int .i64 0, .int .i64 p, .int .i64 0, .int .i64 q, .bool false]
set_option maxRecDepth 100000 in
set_option maxHeartbeats 2000000 in
theorem bounded_any (p q : Int) (w : World) : Calls Try.prog 25 #[mast p q] w fun e w' => e = .returned (.bool (okM p q)) ∧ Below w.heap.size w w' := by
  have H1 := hide' (within_any p 1 1000)
  have H2 := hide' (within_any q 1 100)
  unfold okM mast
  obtain ⟨b1, hb1⟩ : ∃ b, b = (decide (1 ≤ p) && decide (p ≤ 1000)) := ⟨_, rfl⟩
  obtain ⟨b2, hb2⟩ : ∃ b, b = (decide (1 ≤ q) && decide (q ≤ 100)) := ⟨_, rfl⟩
  rw [← hb1] at H1 ⊢
  rw [← hb2] at H2 ⊢
  clear hb1 hb2
  go_enter Try.func25, Try.ntmps25
  go_upto_region 1 with fail
  have hqY := alloc_new w (.cells #[.int .i64 0, .int .i64 0, .int .i64 0, .int .i64 0, .bool false, .int .i64 0, .int .i64 p, .int .i64 0, .int .i64 q, .bool false] 35)
  have hb1 := below_al w (.cells #[.int .i64 0, .int .i64 0, .int .i64 0, .int .i64 0, .bool false, .int .i64 0, .int .i64 p, .int .i64 0, .int .i64 q, .bool false] 35)
  obtain ⟨w1, hw1⟩ : ∃ x, x = (w.alloc (.cells #[.int .i64 0, .int .i64 0, .int .i64 0, .int .i64 0, .bool false, .int .i64 0, .int .i64 p, .int .i64 0, .int .i64 q, .bool false] 35)) := ⟨_, rfl⟩
  rw [← hw1] at hqY hb1 ⊢
  obtain ⟨Y, hnY⟩ : ∃ x, x = w.heap.size := ⟨_, rfl⟩
  have HNE : Hid (w.heap.size ≤ Y) := by show _ ≤ _; omega
  rw [← hnY] at hqY
  rw [show (Value.pointer (some { block := w.heap.size, off := 0 })) = Value.pointer (some { block := Y, off := 0 }) by rw [hnY]]
  have HQY := hide' hqY
  have HB1 := hide' hb1
  clear hqY hb1 hw1 hnY
  have c6 : w1.cell? ⟨Y, 6, none⟩ = some (.int .i64 p) := (cells_at HQY.out 6).trans rfl
  have c8 : w1.cell? ⟨Y, 8, none⟩ = some (.int .i64 q) := (cells_at HQY.out 8).trans rfl
  clear HQY
  cases b1 with
  | false =>
    go_wp2_with fail
    refine (H1.out _).mono ?_
    rintro e w2 ⟨rfl, rfl⟩
    go_wp2
    go_ret
    exact ⟨rfl, HB1.out⟩
  | true =>
    go_wp2_with fail
    refine (H1.out _).mono ?_
    rintro e w2 ⟨rfl, rfl⟩
    go_wp2_with fail
    refine (H2.out _).mono ?_
    rintro e w2 ⟨rfl, rfl⟩
    go_wp2
    go_ret
    exact ⟨rfl, HB1.out⟩
/-- What Open comes to. -/
def OpO (p q x y code : Int) : Prop := (okM p q = true ∧ x = p ∧ y = q ∧ code = 0) ∨ (okM p q = false ∧ x = 0 ∧ y = 0 ∧ code = 4)
set_option maxRecDepth 100000 in
set_option maxHeartbeats 4000000 in
theorem Open_any (p q x y code : Int) (w : World) (hO : OpO p q x y code) : Calls Try.prog 11 #[.int .i64 p, .int .i64 q] w fun e w' => e = .returned (.tuple #[mast x y, .int .i64 code]) ∧ Below w.heap.size w w' := by
  have HM := hide' (bounded_any p q)
  obtain ⟨b, hb⟩ : ∃ b, b = okM p q := ⟨_, rfl⟩
  unfold OpO at hO
  rw [← hb] at HM hO
  clear hb
  unfold mast at HM ⊢
  go_enter Try.func11, Try.ntmps11
  go_upto_region 2 with fail
  have hqA := (alloc_old (w.alloc (.cells #[.int .i64 0, .int .i64 0, .int .i64 0, .int .i64 0, .bool false, .int .i64 0, .int .i64 0, .int .i64 0, .int .i64 0, .bool false] 35)) (.cells #[.int .i64 0, .int .i64 0, .int .i64 0, .int .i64 0, .bool false, .int .i64 0, .int .i64 p, .int .i64 0, .int .i64 q, .bool false] 35) (lt_heap (alloc_new w (.cells #[.int .i64 0, .int .i64 0, .int .i64 0, .int .i64 0, .bool false, .int .i64 0, .int .i64 0, .int .i64 0, .int .i64 0, .bool false] 35)))).trans (alloc_new w (.cells #[.int .i64 0, .int .i64 0, .int .i64 0, .int .i64 0, .bool false, .int .i64 0, .int .i64 0, .int .i64 0, .int .i64 0, .bool false] 35))
  have hqB := alloc_new (w.alloc (.cells #[.int .i64 0, .int .i64 0, .int .i64 0, .int .i64 0, .bool false, .int .i64 0, .int .i64 0, .int .i64 0, .int .i64 0, .bool false] 35)) (.cells #[.int .i64 0, .int .i64 0, .int .i64 0, .int .i64 0, .bool false, .int .i64 0, .int .i64 p, .int .i64 0, .int .i64 q, .bool false] 35)
  have hb1 := (below_al w (.cells #[.int .i64 0, .int .i64 0, .int .i64 0, .int .i64 0, .bool false, .int .i64 0, .int .i64 0, .int .i64 0, .int .i64 0, .bool false] 35)).alloc (below_al w (.cells #[.int .i64 0, .int .i64 0, .int .i64 0, .int .i64 0, .bool false, .int .i64 0, .int .i64 0, .int .i64 0, .int .i64 0, .bool false] 35)).size (.cells #[.int .i64 0, .int .i64 0, .int .i64 0, .int .i64 0, .bool false, .int .i64 0, .int .i64 p, .int .i64 0, .int .i64 q, .bool false] 35)
  rw [show (w.alloc (.cells #[.int .i64 0, .int .i64 0, .int .i64 0, .int .i64 0, .bool false, .int .i64 0, .int .i64 0, .int .i64 0, .int .i64 0, .bool false] 35)).heap.size = w.heap.size + 1 from by simp only [World.size_alloc]] at hqB
  obtain ⟨w1, hw1⟩ : ∃ x, x = ((w.alloc (.cells #[.int .i64 0, .int .i64 0, .int .i64 0, .int .i64 0, .bool false, .int .i64 0, .int .i64 0, .int .i64 0, .int .i64 0, .bool false] 35)).alloc (.cells #[.int .i64 0, .int .i64 0, .int .i64 0, .int .i64 0, .bool false, .int .i64 0, .int .i64 p, .int .i64 0, .int .i64 q, .bool false] 35)) := ⟨_, rfl⟩
  rw [← hw1] at hqA hqB hb1 ⊢
  obtain ⟨A, hnA⟩ : ∃ x, x = w.heap.size := ⟨_, rfl⟩
  obtain ⟨B, hnB⟩ : ∃ x, x = w.heap.size + 1 := ⟨_, rfl⟩
  have HNE : Hid (w.heap.size ≤ A ∧ w.heap.size ≤ B ∧ A ≠ B) := ⟨by omega, by omega, by omega⟩
  rw [← hnA] at hqA
  rw [← hnB] at hqB
  rw [show (Value.pointer (some { block := w.heap.size, off := 0 })) = Value.pointer (some { block := A, off := 0 }) by rw [hnA], show (Value.pointer (some { block := w.heap.size + 1, off := 0 })) = Value.pointer (some { block := B, off := 0 }) by rw [hnB]]
  have HQA := hide' hqA
  have HQB := hide' hqB
  have HB1 := hide' hb1
  clear hqA hqB hb1 hw1 hnA hnB
  have c0 : w1.cell? ⟨B, 0, none⟩ = some (.int .i64 0) := (cells_at HQB.out 0).trans rfl
  have c1 : w1.cell? ⟨B, 1, none⟩ = some (.int .i64 0) := (cells_at HQB.out 1).trans rfl
  have c2 : w1.cell? ⟨B, 2, none⟩ = some (.int .i64 0) := (cells_at HQB.out 2).trans rfl
  have c3 : w1.cell? ⟨B, 3, none⟩ = some (.int .i64 0) := (cells_at HQB.out 3).trans rfl
  have c4 : w1.cell? ⟨B, 4, none⟩ = some (.bool false) := (cells_at HQB.out 4).trans rfl
  have c5 : w1.cell? ⟨B, 5, none⟩ = some (.int .i64 0) := (cells_at HQB.out 5).trans rfl
  have c6 : w1.cell? ⟨B, 6, none⟩ = some (.int .i64 p) := (cells_at HQB.out 6).trans rfl
  have c7 : w1.cell? ⟨B, 7, none⟩ = some (.int .i64 0) := (cells_at HQB.out 7).trans rfl
  have c8 : w1.cell? ⟨B, 8, none⟩ = some (.int .i64 q) := (cells_at HQB.out 8).trans rfl
  have c9 : w1.cell? ⟨B, 9, none⟩ = some (.bool false) := (cells_at HQB.out 9).trans rfl
  go_wp2_with fail
  refine (HM.out _).mono ?_
  rintro e w2 ⟨rfl, hb2⟩
  have HB2 : Hid (Below w.heap.size w w2) := HB1.out.trans (hb2.mono HB1.out.size)
  have HA2 := hide' ((hb2.block A (lt_heap HQA.out)).trans HQA.out)
  have HC2 := hide' ((hb2.block B (lt_heap HQB.out)).trans HQB.out)
  clear hb2 HB1 HQA HQB HM
  clear c0 c1 c2 c3 c4 c5 c6 c7 c8 c9
  have b0 : w2.cell? ⟨A, 0, none⟩ = some (.int .i64 0) := (cells_at HA2.out 0).trans rfl
  have b1 : w2.cell? ⟨A, 1, none⟩ = some (.int .i64 0) := (cells_at HA2.out 1).trans rfl
  have b2 : w2.cell? ⟨A, 2, none⟩ = some (.int .i64 0) := (cells_at HA2.out 2).trans rfl
  have b3 : w2.cell? ⟨A, 3, none⟩ = some (.int .i64 0) := (cells_at HA2.out 3).trans rfl
  have b4 : w2.cell? ⟨A, 4, none⟩ = some (.bool false) := (cells_at HA2.out 4).trans rfl
  have b5 : w2.cell? ⟨A, 5, none⟩ = some (.int .i64 0) := (cells_at HA2.out 5).trans rfl
  have b6 : w2.cell? ⟨A, 6, none⟩ = some (.int .i64 0) := (cells_at HA2.out 6).trans rfl
  have b7 : w2.cell? ⟨A, 7, none⟩ = some (.int .i64 0) := (cells_at HA2.out 7).trans rfl
  have b8 : w2.cell? ⟨A, 8, none⟩ = some (.int .i64 0) := (cells_at HA2.out 8).trans rfl
  have b9 : w2.cell? ⟨A, 9, none⟩ = some (.bool false) := (cells_at HA2.out 9).trans rfl
  have e0 : w2.frozen? ⟨A, 0, none⟩ = false := frozen_no HA2.out _
  have e1 : w2.frozen? ⟨A, 1, none⟩ = false := frozen_no HA2.out _
  have e2 : w2.frozen? ⟨A, 2, none⟩ = false := frozen_no HA2.out _
  have e3 : w2.frozen? ⟨A, 3, none⟩ = false := frozen_no HA2.out _
  have e4 : w2.frozen? ⟨A, 4, none⟩ = false := frozen_no HA2.out _
  have e5 : w2.frozen? ⟨A, 5, none⟩ = false := frozen_no HA2.out _
  have e6 : w2.frozen? ⟨A, 6, none⟩ = false := frozen_no HA2.out _
  have e7 : w2.frozen? ⟨A, 7, none⟩ = false := frozen_no HA2.out _
  have e8 : w2.frozen? ⟨A, 8, none⟩ = false := frozen_no HA2.out _
  have e9 : w2.frozen? ⟨A, 9, none⟩ = false := frozen_no HA2.out _
  have c0 : w2.cell? ⟨B, 0, none⟩ = some (.int .i64 0) := (cells_at HC2.out 0).trans rfl
  have c1 : w2.cell? ⟨B, 1, none⟩ = some (.int .i64 0) := (cells_at HC2.out 1).trans rfl
  have c2 : w2.cell? ⟨B, 2, none⟩ = some (.int .i64 0) := (cells_at HC2.out 2).trans rfl
  have c3 : w2.cell? ⟨B, 3, none⟩ = some (.int .i64 0) := (cells_at HC2.out 3).trans rfl
  have c4 : w2.cell? ⟨B, 4, none⟩ = some (.bool false) := (cells_at HC2.out 4).trans rfl
  have c5 : w2.cell? ⟨B, 5, none⟩ = some (.int .i64 0) := (cells_at HC2.out 5).trans rfl
  have c6 : w2.cell? ⟨B, 6, none⟩ = some (.int .i64 p) := (cells_at HC2.out 6).trans rfl
  have c7 : w2.cell? ⟨B, 7, none⟩ = some (.int .i64 0) := (cells_at HC2.out 7).trans rfl
  have c8 : w2.cell? ⟨B, 8, none⟩ = some (.int .i64 q) := (cells_at HC2.out 8).trans rfl
  have c9 : w2.cell? ⟨B, 9, none⟩ = some (.bool false) := (cells_at HC2.out 9).trans rfl
  rcases hO with ⟨rfl, rfl, rfl, rfl⟩ | ⟨rfl, rfl, rfl, rfl⟩
  · have HP := hide' (put10 HA2.out (.int .i64 0) (.int .i64 0) (.int .i64 0) (.int .i64 0) (.bool false) (.int .i64 0) (.int .i64 x) (.int .i64 0) (.int .i64 y) (.bool false))
    have HBF := hide' (HB2.out.trans (HP.out.2.below HNE.out.1 HB2.out.size))
    clear HB2 HA2 HC2
    go_wp2
    refine bodyPost_ret (results_cell_row1 rfl _ _ A 35 _ (0, 0) _ rfl HP.out.1 Try.underlying35 rfl (by kernel_rfl)) rfl ?_
    exact ⟨rfl, HBF.out⟩
  · have HP := hide' (put10 HA2.out (.int .i64 0) (.int .i64 0) (.int .i64 0) (.int .i64 0) (.bool false) (.int .i64 0) (.int .i64 0) (.int .i64 0) (.int .i64 0) (.bool false))
    have HBF := hide' (HB2.out.trans (HP.out.2.below HNE.out.1 HB2.out.size))
    clear HB2 HA2 HC2
    go_wp2
    refine bodyPost_ret (results_cell_row1 rfl _ _ A 35 _ (0, 0) _ rfl HP.out.1 Try.underlying35 rfl (by kernel_rfl)) rfl ?_
    exact ⟨rfl, HBF.out⟩
set_option maxRecDepth 100000 in
set_option maxHeartbeats 4000000 in
theorem OpenOf_any (p q x y code : Int) (w : World) (hO : OpO p q x y code) : Calls Try.prog 12 #[.int .i64 p, .int .i64 q] w fun e w' => e = .returned (.tuple #[mast x y, .int .i64 code]) ∧ Below w.heap.size w w' := by
  have H1 := hide' (inBounds_any p 1 1000)
  have H2 := hide' (inBounds_any q 1 100)
  unfold OpO okM at hO
  unfold mast
  obtain ⟨s1, hb1⟩ : ∃ b, b = (decide (1 ≤ p) && decide (p ≤ 1000)) := ⟨_, rfl⟩
  obtain ⟨s2, hb2⟩ : ∃ b, b = (decide (1 ≤ q) && decide (q ≤ 100)) := ⟨_, rfl⟩
  rw [← hb1] at H1 hO
  rw [← hb2] at H2 hO
  clear hb1 hb2
  go_enter Try.func12, Try.ntmps12
  go_upto_region 1 with fail
  have hqA := alloc_new w (.cells #[.int .i64 0, .int .i64 0, .int .i64 0, .int .i64 0, .bool false, .int .i64 0, .int .i64 0, .int .i64 0, .int .i64 0, .bool false] 35)
  have hb1 := below_al w (.cells #[.int .i64 0, .int .i64 0, .int .i64 0, .int .i64 0, .bool false, .int .i64 0, .int .i64 0, .int .i64 0, .int .i64 0, .bool false] 35)
  obtain ⟨w1, hw1⟩ : ∃ x, x = (w.alloc (.cells #[.int .i64 0, .int .i64 0, .int .i64 0, .int .i64 0, .bool false, .int .i64 0, .int .i64 0, .int .i64 0, .int .i64 0, .bool false] 35)) := ⟨_, rfl⟩
  rw [← hw1] at hqA hb1 ⊢
  obtain ⟨A, hnA⟩ : ∃ x, x = w.heap.size := ⟨_, rfl⟩
  have HNE : Hid (w.heap.size ≤ A) := by show _ ≤ _; omega
  rw [← hnA] at hqA
  rw [show (Value.pointer (some { block := w.heap.size, off := 0 })) = Value.pointer (some { block := A, off := 0 }) by rw [hnA]]
  have HQA := hide' hqA
  have HB1 := hide' hb1
  clear hqA hb1 hw1 hnA
  have b0 : w1.cell? ⟨A, 0, none⟩ = some (.int .i64 0) := (cells_at HQA.out 0).trans rfl
  have b1 : w1.cell? ⟨A, 1, none⟩ = some (.int .i64 0) := (cells_at HQA.out 1).trans rfl
  have b2 : w1.cell? ⟨A, 2, none⟩ = some (.int .i64 0) := (cells_at HQA.out 2).trans rfl
  have b3 : w1.cell? ⟨A, 3, none⟩ = some (.int .i64 0) := (cells_at HQA.out 3).trans rfl
  have b4 : w1.cell? ⟨A, 4, none⟩ = some (.bool false) := (cells_at HQA.out 4).trans rfl
  have b5 : w1.cell? ⟨A, 5, none⟩ = some (.int .i64 0) := (cells_at HQA.out 5).trans rfl
  have b6 : w1.cell? ⟨A, 6, none⟩ = some (.int .i64 0) := (cells_at HQA.out 6).trans rfl
  have b7 : w1.cell? ⟨A, 7, none⟩ = some (.int .i64 0) := (cells_at HQA.out 7).trans rfl
  have b8 : w1.cell? ⟨A, 8, none⟩ = some (.int .i64 0) := (cells_at HQA.out 8).trans rfl
  have b9 : w1.cell? ⟨A, 9, none⟩ = some (.bool false) := (cells_at HQA.out 9).trans rfl
  have e0 : w1.frozen? ⟨A, 0, none⟩ = false := frozen_no HQA.out _
  have e1 : w1.frozen? ⟨A, 1, none⟩ = false := frozen_no HQA.out _
  have e2 : w1.frozen? ⟨A, 2, none⟩ = false := frozen_no HQA.out _
  have e3 : w1.frozen? ⟨A, 3, none⟩ = false := frozen_no HQA.out _
  have e4 : w1.frozen? ⟨A, 4, none⟩ = false := frozen_no HQA.out _
  have e5 : w1.frozen? ⟨A, 5, none⟩ = false := frozen_no HQA.out _
  have e6 : w1.frozen? ⟨A, 6, none⟩ = false := frozen_no HQA.out _
  have e7 : w1.frozen? ⟨A, 7, none⟩ = false := frozen_no HQA.out _
  have e8 : w1.frozen? ⟨A, 8, none⟩ = false := frozen_no HQA.out _
  have e9 : w1.frozen? ⟨A, 9, none⟩ = false := frozen_no HQA.out _
  cases s1 with
  | false =>
    rcases hO with ⟨h, _⟩ | ⟨_, rfl, rfl, rfl⟩
    · cases h
    · have HP := hide' (put10 HQA.out (.int .i64 0) (.int .i64 0) (.int .i64 0) (.int .i64 0) (.bool false) (.int .i64 0) (.int .i64 0) (.int .i64 0) (.int .i64 0) (.bool false))
      have HBF := hide' (HB1.out.trans (HP.out.2.below HNE.out HB1.out.size))
      clear HQA
      go_wp2_with fail
      refine (H1.out _).mono ?_
      rintro e w2 ⟨rfl, rfl⟩
      go_wp2
      refine bodyPost_ret (results_cell_row1 rfl _ _ A 35 _ (0, 0) _ rfl HP.out.1 Try.underlying35 rfl (by kernel_rfl)) rfl ?_
      exact ⟨rfl, HBF.out⟩
  | true =>
    cases s2 with
    | false =>
      rcases hO with ⟨h, _⟩ | ⟨_, rfl, rfl, rfl⟩
      · cases h
      · have HP := hide' (put10 HQA.out (.int .i64 0) (.int .i64 0) (.int .i64 0) (.int .i64 0) (.bool false) (.int .i64 0) (.int .i64 0) (.int .i64 0) (.int .i64 0) (.bool false))
        have HBF := hide' (HB1.out.trans (HP.out.2.below HNE.out HB1.out.size))
        clear HQA
        go_wp2_with fail
        refine (H1.out _).mono ?_
        rintro e w2 ⟨rfl, rfl⟩
        go_wp2_with fail
        refine (H2.out _).mono ?_
        rintro e w2 ⟨rfl, rfl⟩
        go_wp2
        refine bodyPost_ret (results_cell_row1 rfl _ _ A 35 _ (0, 0) _ rfl HP.out.1 Try.underlying35 rfl (by kernel_rfl)) rfl ?_
        exact ⟨rfl, HBF.out⟩
    | true =>
      rcases hO with ⟨_, rfl, rfl, rfl⟩ | ⟨h, _⟩
      · have HP := hide' (put10 HQA.out (.int .i64 0) (.int .i64 0) (.int .i64 0) (.int .i64 0) (.bool false) (.int .i64 0) (.int .i64 x) (.int .i64 0) (.int .i64 y) (.bool false))
        have HBF := hide' (HB1.out.trans (HP.out.2.below HNE.out HB1.out.size))
        clear HQA
        go_wp2_with fail
        refine (H1.out _).mono ?_
        rintro e w2 ⟨rfl, rfl⟩
        go_wp2_with fail
        refine (H2.out _).mono ?_
        rintro e w2 ⟨rfl, rfl⟩
        go_wp2
        refine bodyPost_ret (results_cell_row1 rfl _ _ A 35 _ (0, 0) _ rfl HP.out.1 Try.underlying35 rfl (by kernel_rfl)) rfl ?_
        exact ⟨rfl, HBF.out⟩
      · cases h
end Go.Proofs.Ytjhmendiefojoal
