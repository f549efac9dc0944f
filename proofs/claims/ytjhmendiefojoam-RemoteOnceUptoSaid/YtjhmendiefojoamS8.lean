/- Masters that begin; RemoteBegins answers true. -/
import Derived.Test.YtjhmendiefojoamYc
import Derived.Test.YtjhmendiefojoamS7
namespace Go.Proofs.Ytjhmendiefojoam
open Go.RowKit Go.Shelf

theorem put10 {w : World} {A e : Nat} {x0 x1 x2 x3 x4 x5 x6 x7 x8 x9 : Value} (h : w.heap[A]? = some (.cells #[x0, x1, x2, x3, x4, x5, x6, x7, x8, x9] e (0, 0))) (v0 v1 v2 v3 v4 v5 v6 v7 v8 v9 : Value) : ((((((((((w.setCell ⟨A, 0, none⟩ v0).setCell ⟨A, 1, none⟩ v1).setCell ⟨A, 2, none⟩ v2).setCell ⟨A, 3, none⟩ v3).setCell ⟨A, 4, none⟩ v4).setCell ⟨A, 5, none⟩ v5).setCell ⟨A, 6, none⟩ v6).setCell ⟨A, 7, none⟩ v7).setCell ⟨A, 8, none⟩ v8).setCell ⟨A, 9, none⟩ v9).heap[A]? = some (.cells #[v0, v1, v2, v3, v4, v5, v6, v7, v8, v9] e (0, 0)) ∧ But A w ((((((((((w.setCell ⟨A, 0, none⟩ v0).setCell ⟨A, 1, none⟩ v1).setCell ⟨A, 2, none⟩ v2).setCell ⟨A, 3, none⟩ v3).setCell ⟨A, 4, none⟩ v4).setCell ⟨A, 5, none⟩ v5).setCell ⟨A, 6, none⟩ v6).setCell ⟨A, 7, none⟩ v7).setCell ⟨A, 8, none⟩ v8).setCell ⟨A, 9, none⟩ v9) := by
  refine ⟨?_, But.set (But.set (But.set (But.set (But.set (But.set (But.set (But.set (But.set (But.set (But.refl A w) _ _) _ _) _ _) _ _) _ _) _ _) _ _) _ _) _ _) _ _⟩
  exact (set_any (set_any (set_any (set_any (set_any (set_any (set_any (set_any (set_any (set_any (h) 0 _) 1 _) 2 _) 3 _) 4 _) 5 _) 6 _) 7 _) 8 _) 9 _).trans (by simp only [List.setIfInBounds_toArray, List.set_cons_zero, List.set_cons_succ])
def okM (p q : Int) : Bool := (decide (1 ≤ p) && decide (p ≤ 1000)) && (decide (1 ≤ q) && decide (q ≤ 100))
def mast (p q : Int) : Value := .agg #[.int .i64 0, .int .i64 0, .int .i64 0, .int .i64 0, .bool false, .int .i64 0, .int .i64 p, .int .i64 0, .int .i64 q, .bool false]
set_option maxRecDepth 100000 in
set_option maxHeartbeats 2000000 in
theorem bounded_any (p q : Int) (w : World) : Calls Try.prog 37 #[mast p q] w fun e w' => e = .returned (.bool (okM p q)) ∧ Below w.heap.size w w' := by
  have H1 := hide' (within_any p 1 1000)
  have H2 := hide' (within_any q 1 100)
  unfold okM mast
  obtain ⟨b1, hb1⟩ : ∃ b, b = (decide (1 ≤ p) && decide (p ≤ 1000)) := ⟨_, rfl⟩
  obtain ⟨b2, hb2⟩ : ∃ b, b = (decide (1 ≤ q) && decide (q ≤ 100)) := ⟨_, rfl⟩
  rw [← hb1] at H1 ⊢
  rw [← hb2] at H2 ⊢
  clear hb1 hb2
  go_enter Try.func37, Try.ntmps37
  go_upto_region 1 with fail
  have hqY := alloc_new w (.cells #[.int .i64 0, .int .i64 0, .int .i64 0, .int .i64 0, .bool false, .int .i64 0, .int .i64 p, .int .i64 0, .int .i64 q, .bool false] 32)
  have hb1 := below_al w (.cells #[.int .i64 0, .int .i64 0, .int .i64 0, .int .i64 0, .bool false, .int .i64 0, .int .i64 p, .int .i64 0, .int .i64 q, .bool false] 32)
  obtain ⟨w1, hw1⟩ : ∃ x, x = (w.alloc (.cells #[.int .i64 0, .int .i64 0, .int .i64 0, .int .i64 0, .bool false, .int .i64 0, .int .i64 p, .int .i64 0, .int .i64 q, .bool false] 32)) := ⟨_, rfl⟩
  rw [← hw1] at hqY hb1 ⊢
  obtain ⟨Y, hnY⟩ : ∃ x, x = w.heap.size := ⟨_, rfl⟩
  have HNE : Hid (w.heap.size ≤ Y) := by show _ ≤ _; omega
  rw [← hnY] at hqY
  rw [show (Value.pointer (some { block := w.heap.size, off := 0 })) = Value.pointer (some { block := Y, off := 0 }) by rw [hnY]]
  have HQY := hide' hqY
  have HB1 := hide' hb1
  clear hqY hb1 hw1 hnY
  obtain ⟨-, -, -, -, -, -, c6, -, c8⟩ := cellsP9 HQY.out
  clear HQY
  cases b1 with
  | false =>
    go_wp2_with fail
    refine (H1.out _).mono ?_
    rintro e w2 ⟨rfl, rfl⟩
    go_wp2
    go_ret
    exact ⟨rfl, HB1.out⟩
  | true =>
    go_wp2_with fail
    refine (H1.out _).mono ?_
    rintro e w2 ⟨rfl, rfl⟩
    go_wp2_with fail
    refine (H2.out _).mono ?_
    rintro e w2 ⟨rfl, rfl⟩
    go_wp2
    go_ret
    exact ⟨rfl, HB1.out⟩
/-- What Open comes to. -/
def OpO (p q x y code : Int) : Prop := (okM p q = true ∧ x = p ∧ y = q ∧ code = 0) ∨ (okM p q = false ∧ x = 0 ∧ y = 0 ∧ code = 4)
set_option maxRecDepth 100000 in
set_option maxHeartbeats 4000000 in
theorem Open_any (p q x y code : Int) (w : World) (hO : OpO p q x y code) : Calls Try.prog 21 #[.int .i64 p, .int .i64 q] w fun e w' => e = .returned (.tuple #[mast x y, .int .i64 code]) ∧ Below w.heap.size w w' := by
  have HM := hide' (bounded_any p q)
  obtain ⟨b, hb⟩ : ∃ b, b = okM p q := ⟨_, rfl⟩
  unfold OpO at hO
  rw [← hb] at HM hO
  clear hb
  unfold mast at HM ⊢
  go_enter Try.func21, Try.ntmps21
  go_upto_region 2 with fail
  have hqA := (alloc_old (w.alloc (.cells #[.int .i64 0, .int .i64 0, .int .i64 0, .int .i64 0, .bool false, .int .i64 0, .int .i64 0, .int .i64 0, .int .i64 0, .bool false] 32)) (.cells #[.int .i64 0, .int .i64 0, .int .i64 0, .int .i64 0, .bool false, .int .i64 0, .int .i64 p, .int .i64 0, .int .i64 q, .bool false] 32) (lt_heap (alloc_new w (.cells #[.int .i64 0, .int .i64 0, .int .i64 0, .int .i64 0, .bool false, .int .i64 0, .int .i64 0, .int .i64 0, .int .i64 0, .bool false] 32)))).trans (alloc_new w (.cells #[.int .i64 0, .int .i64 0, .int .i64 0, .int .i64 0, .bool false, .int .i64 0, .int .i64 0, .int .i64 0, .int .i64 0, .bool false] 32))
  have hqB := alloc_new (w.alloc (.cells #[.int .i64 0, .int .i64 0, .int .i64 0, .int .i64 0, .bool false, .int .i64 0, .int .i64 0, .int .i64 0, .int .i64 0, .bool false] 32)) (.cells #[.int .i64 0, .int .i64 0, .int .i64 0, .int .i64 0, .bool false, .int .i64 0, .int .i64 p, .int .i64 0, .int .i64 q, .bool false] 32)
  have hb1 := (below_al w (.cells #[.int .i64 0, .int .i64 0, .int .i64 0, .int .i64 0, .bool false, .int .i64 0, .int .i64 0, .int .i64 0, .int .i64 0, .bool false] 32)).alloc (below_al w (.cells #[.int .i64 0, .int .i64 0, .int .i64 0, .int .i64 0, .bool false, .int .i64 0, .int .i64 0, .int .i64 0, .int .i64 0, .bool false] 32)).size (.cells #[.int .i64 0, .int .i64 0, .int .i64 0, .int .i64 0, .bool false, .int .i64 0, .int .i64 p, .int .i64 0, .int .i64 q, .bool false] 32)
  rw [show (w.alloc (.cells #[.int .i64 0, .int .i64 0, .int .i64 0, .int .i64 0, .bool false, .int .i64 0, .int .i64 0, .int .i64 0, .int .i64 0, .bool false] 32)).heap.size = w.heap.size + 1 from by simp only [World.size_alloc]] at hqB
  obtain ⟨w1, hw1⟩ : ∃ x, x = ((w.alloc (.cells #[.int .i64 0, .int .i64 0, .int .i64 0, .int .i64 0, .bool false, .int .i64 0, .int .i64 0, .int .i64 0, .int .i64 0, .bool false] 32)).alloc (.cells #[.int .i64 0, .int .i64 0, .int .i64 0, .int .i64 0, .bool false, .int .i64 0, .int .i64 p, .int .i64 0, .int .i64 q, .bool false] 32)) := ⟨_, rfl⟩
  rw [← hw1] at hqA hqB hb1 ⊢
  obtain ⟨A, hnA⟩ : ∃ x, x = w.heap.size := ⟨_, rfl⟩
  obtain ⟨B, hnB⟩ : ∃ x, x = w.heap.size + 1 := ⟨_, rfl⟩
  have HNE : Hid (w.heap.size ≤ A ∧ w.heap.size ≤ B ∧ A ≠ B) := ⟨by omega, by omega, by omega⟩
  rw [← hnA] at hqA
  rw [← hnB] at hqB
  rw [show (Value.pointer (some { block := w.heap.size, off := 0 })) = Value.pointer (some { block := A, off := 0 }) by rw [hnA], show (Value.pointer (some { block := w.heap.size + 1, off := 0 })) = Value.pointer (some { block := B, off := 0 }) by rw [hnB]]
  have HQA := hide' hqA
  have HQB := hide' hqB
  have HB1 := hide' hb1
  clear hqA hqB hb1 hw1 hnA hnB
  obtain ⟨c0, c1, c2, c3, c4, c5, c6, c7, c8, c9⟩ := cellsP10 HQB.out
  go_wp2_with fail
  refine (HM.out _).mono ?_
  rintro e w2 ⟨rfl, hb2⟩
  have HB2 : Hid (Below w.heap.size w w2) := HB1.out.trans (hb2.mono HB1.out.size)
  have HA2 := hide' ((hb2.block A (lt_heap HQA.out)).trans HQA.out)
  have HC2 := hide' ((hb2.block B (lt_heap HQB.out)).trans HQB.out)
  clear hb2 HB1 HQA HQB HM
  clear c0 c1 c2 c3 c4 c5 c6 c7 c8 c9
  obtain ⟨b0, b1, b2, b3, b4, b5, b6, b7, b8, b9⟩ := cellsP10 HA2.out
  obtain ⟨e0, e1, e2, e3, e4, e5, e6, e7, e8, e9⟩ := frozenP10 HA2.out
  obtain ⟨c0, c1, c2, c3, c4, c5, c6, c7, c8, c9⟩ := cellsP10 HC2.out
  rcases hO with ⟨rfl, rfl, rfl, rfl⟩ | ⟨rfl, rfl, rfl, rfl⟩
  · have HP := hide' (put10 HA2.out (.int .i64 0) (.int .i64 0) (.int .i64 0) (.int .i64 0) (.bool false) (.int .i64 0) (.int .i64 x) (.int .i64 0) (.int .i64 y) (.bool false))
    have HBF := hide' (HB2.out.trans (HP.out.2.below HNE.out.1 HB2.out.size))
    clear HB2 HA2 HC2
    go_wp2
    refine bodyPost_ret (results_cell_row1 rfl _ _ A 32 _ (0, 0) _ rfl HP.out.1 Try.underlying32 rfl (by kernel_rfl)) rfl ?_
    exact ⟨rfl, HBF.out⟩
  · have HP := hide' (put10 HA2.out (.int .i64 0) (.int .i64 0) (.int .i64 0) (.int .i64 0) (.bool false) (.int .i64 0) (.int .i64 0) (.int .i64 0) (.int .i64 0) (.bool false))
    have HBF := hide' (HB2.out.trans (HP.out.2.below HNE.out.1 HB2.out.size))
    clear HB2 HA2 HC2
    go_wp2
    refine bodyPost_ret (results_cell_row1 rfl _ _ A 32 _ (0, 0) _ rfl HP.out.1 Try.underlying32 rfl (by kernel_rfl)) rfl ?_
    exact ⟨rfl, HBF.out⟩
end Go.Proofs.Ytjhmendiefojoam
