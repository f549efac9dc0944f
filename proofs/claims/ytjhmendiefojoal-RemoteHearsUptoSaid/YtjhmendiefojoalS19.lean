/- A station hears a message, in the document's answer: what it refuses; Hear and the document's answer are alike. -/
import Derived.Test.YtjhmendiefojoalS18
namespace Go.Proofs.Ytjhmendiefojoal
open Go.RowKit Go.Shelf

set_option maxRecDepth 100000 in
set_option maxHeartbeats 4000000 in
theorem Msg_a (S : StM) (m : MsM) (l : List Bool) (n c : Nat) (a : Option Addr) (w : World) (hr : RowAt w (.slice a n c) n 1 (l.map Value.bool)) (hn : n ≤ 2000000) (l1 : List Bool) (T : StM) (rs : List MsM) (code : Int) (hR : mayS n S = false ∧ l1 = [] ∧ T = StM.nought ∧ rs = [] ∧ code = 14) : Calls Try.prog 16 #[.agg (S.cells (.slice a n c)), .agg m.cells] w (HearO l1 T rs code w) := by
  have hln : l.length = n := by have h := hr.1; simpa using h
  subst hln
  have HR := hide' hR
  have HM := hide' (fun w' => StationMay_any S l.length c a w' (by omega))
  have HZ := hide' (fun (x : World) (A : Nat) (h : x.heap[A]? = some (.cells #[.slice none 0 0, .int .i64 0, .int .i64 0, .int .i64 0, .bool false, .int .i64 0, .int .i64 0] 30 (0, 0))) => put7 (S0 := StM.nought) h)
  obtain ⟨h0, rfl, rfl, rfl, rfl⟩ := HR.out
  rw [h0] at HM
  clear hR HR h0 hr
  obtain ⟨last, armed, point, want, left, pat⟩ := S
  obtain ⟨kind, no, pt, wt⟩ := m
  unfold HearO
  unfold StM.cells at HM HZ ⊢
  unfold MsM.cells StM.nought
  simp only at HM HZ ⊢
  go_enter Try.func16, Try.ntmps16
  go_upto_region 1 with fail
  have hqY := (alloc_old ((w.alloc (.cells #[.slice a l.length c, .int .i64 last, .int .i64 armed, .int .i64 point, .bool want, .int .i64 left, .int .i64 pat] 30)).alloc (.cells #[.int .i64 kind, .int .i64 no, .int .i64 pt, .bool wt] 41)) (.cells #[.slice none 0 0, .int .i64 0, .int .i64 0, .int .i64 0, .bool false, .int .i64 0, .int .i64 0] 30) (lt_heap ((alloc_old (w.alloc (.cells #[.slice a l.length c, .int .i64 last, .int .i64 armed, .int .i64 point, .bool want, .int .i64 left, .int .i64 pat] 30)) (.cells #[.int .i64 kind, .int .i64 no, .int .i64 pt, .bool wt] 41) (lt_heap (alloc_new w (.cells #[.slice a l.length c, .int .i64 last, .int .i64 armed, .int .i64 point, .bool want, .int .i64 left, .int .i64 pat] 30)))).trans (alloc_new w (.cells #[.slice a l.length c, .int .i64 last, .int .i64 armed, .int .i64 point, .bool want, .int .i64 left, .int .i64 pat] 30))))).trans ((alloc_old (w.alloc (.cells #[.slice a l.length c, .int .i64 last, .int .i64 armed, .int .i64 point, .bool want, .int .i64 left, .int .i64 pat] 30)) (.cells #[.int .i64 kind, .int .i64 no, .int .i64 pt, .bool wt] 41) (lt_heap (alloc_new w (.cells #[.slice a l.length c, .int .i64 last, .int .i64 armed, .int .i64 point, .bool want, .int .i64 left, .int .i64 pat] 30)))).trans (alloc_new w (.cells #[.slice a l.length c, .int .i64 last, .int .i64 armed, .int .i64 point, .bool want, .int .i64 left, .int .i64 pat] 30)))
  have hqZ := (alloc_old ((w.alloc (.cells #[.slice a l.length c, .int .i64 last, .int .i64 armed, .int .i64 point, .bool want, .int .i64 left, .int .i64 pat] 30)).alloc (.cells #[.int .i64 kind, .int .i64 no, .int .i64 pt, .bool wt] 41)) (.cells #[.slice none 0 0, .int .i64 0, .int .i64 0, .int .i64 0, .bool false, .int .i64 0, .int .i64 0] 30) (lt_heap (alloc_new (w.alloc (.cells #[.slice a l.length c, .int .i64 last, .int .i64 armed, .int .i64 point, .bool want, .int .i64 left, .int .i64 pat] 30)) (.cells #[.int .i64 kind, .int .i64 no, .int .i64 pt, .bool wt] 41)))).trans (alloc_new (w.alloc (.cells #[.slice a l.length c, .int .i64 last, .int .i64 armed, .int .i64 point, .bool want, .int .i64 left, .int .i64 pat] 30)) (.cells #[.int .i64 kind, .int .i64 no, .int .i64 pt, .bool wt] 41))
  have hqA := alloc_new ((w.alloc (.cells #[.slice a l.length c, .int .i64 last, .int .i64 armed, .int .i64 point, .bool want, .int .i64 left, .int .i64 pat] 30)).alloc (.cells #[.int .i64 kind, .int .i64 no, .int .i64 pt, .bool wt] 41)) (.cells #[.slice none 0 0, .int .i64 0, .int .i64 0, .int .i64 0, .bool false, .int .i64 0, .int .i64 0] 30)
  have hb1 := ((below_al w (.cells #[.slice a l.length c, .int .i64 last, .int .i64 armed, .int .i64 point, .bool want, .int .i64 left, .int .i64 pat] 30)).alloc (below_al w (.cells #[.slice a l.length c, .int .i64 last, .int .i64 armed, .int .i64 point, .bool want, .int .i64 left, .int .i64 pat] 30)).size (.cells #[.int .i64 kind, .int .i64 no, .int .i64 pt, .bool wt] 41)).alloc ((below_al w (.cells #[.slice a l.length c, .int .i64 last, .int .i64 armed, .int .i64 point, .bool want, .int .i64 left, .int .i64 pat] 30)).alloc (below_al w (.cells #[.slice a l.length c, .int .i64 last, .int .i64 armed, .int .i64 point, .bool want, .int .i64 left, .int .i64 pat] 30)).size (.cells #[.int .i64 kind, .int .i64 no, .int .i64 pt, .bool wt] 41)).size (.cells #[.slice none 0 0, .int .i64 0, .int .i64 0, .int .i64 0, .bool false, .int .i64 0, .int .i64 0] 30)
  rw [show (w.alloc (.cells #[.slice a l.length c, .int .i64 last, .int .i64 armed, .int .i64 point, .bool want, .int .i64 left, .int .i64 pat] 30)).heap.size = w.heap.size + 1 from by simp only [World.size_alloc]] at hqZ
  rw [show ((w.alloc (.cells #[.slice a l.length c, .int .i64 last, .int .i64 armed, .int .i64 point, .bool want, .int .i64 left, .int .i64 pat] 30)).alloc (.cells #[.int .i64 kind, .int .i64 no, .int .i64 pt, .bool wt] 41)).heap.size = w.heap.size + 1 + 1 from by simp only [World.size_alloc]] at hqA
  obtain ⟨w1, hw1⟩ : ∃ x, x = (((w.alloc (.cells #[.slice a l.length c, .int .i64 last, .int .i64 armed, .int .i64 point, .bool want, .int .i64 left, .int .i64 pat] 30)).alloc (.cells #[.int .i64 kind, .int .i64 no, .int .i64 pt, .bool wt] 41)).alloc (.cells #[.slice none 0 0, .int .i64 0, .int .i64 0, .int .i64 0, .bool false, .int .i64 0, .int .i64 0] 30)) := ⟨_, rfl⟩
  rw [← hw1] at hqY hqZ hqA hb1 ⊢
  obtain ⟨Y, hnY⟩ : ∃ x, x = w.heap.size := ⟨_, rfl⟩
  obtain ⟨Z, hnZ⟩ : ∃ x, x = w.heap.size + 1 := ⟨_, rfl⟩
  obtain ⟨A, hnA⟩ : ∃ x, x = w.heap.size + 1 + 1 := ⟨_, rfl⟩
  have HNE : Hid (w.heap.size ≤ Y ∧ w.heap.size ≤ Z ∧ w.heap.size ≤ A ∧ Y ≠ Z ∧ Y ≠ A ∧ Z ≠ A) := ⟨by omega, by omega, by omega, by omega, by omega, by omega⟩
  rw [← hnY] at hqY
  rw [← hnZ] at hqZ
  rw [← hnA] at hqA
  rw [show (Value.pointer (some { block := w.heap.size, off := 0 })) = Value.pointer (some { block := Y, off := 0 }) by rw [hnY], show (Value.pointer (some { block := w.heap.size + 1, off := 0 })) = Value.pointer (some { block := Z, off := 0 }) by rw [hnZ], show (Value.pointer (some { block := w.heap.size + 1 + 1, off := 0 })) = Value.pointer (some { block := A, off := 0 }) by rw [hnA]]
  have HQY := hide' hqY
  have HQZ := hide' hqZ
  have HQA := hide' hqA
  have HB1 := hide' hb1
  clear hqY hqZ hqA hb1 hw1 hnY hnZ hnA
  have c0 : w1.cell? ⟨Y, 0, none⟩ = some (.slice a l.length c) := (cells_at HQY.out 0).trans rfl
  have c1 : w1.cell? ⟨Y, 1, none⟩ = some (.int .i64 last) := (cells_at HQY.out 1).trans rfl
  have c2 : w1.cell? ⟨Y, 2, none⟩ = some (.int .i64 armed) := (cells_at HQY.out 2).trans rfl
  have c3 : w1.cell? ⟨Y, 3, none⟩ = some (.int .i64 point) := (cells_at HQY.out 3).trans rfl
  have c4 : w1.cell? ⟨Y, 4, none⟩ = some (.bool want) := (cells_at HQY.out 4).trans rfl
  have c5 : w1.cell? ⟨Y, 5, none⟩ = some (.int .i64 left) := (cells_at HQY.out 5).trans rfl
  have c6 : w1.cell? ⟨Y, 6, none⟩ = some (.int .i64 pat) := (cells_at HQY.out 6).trans rfl
  go_wp2_with fail
  refine (HM.out w1).mono ?_
  rintro e w2 ⟨rfl, hb2⟩
  have HB2 : Hid (Below w.heap.size w w2) := HB1.out.trans (hb2.mono HB1.out.size)
  have HY2 := hide' ((hb2.block Y (lt_heap HQY.out)).trans HQY.out)
  have HZ2 := hide' ((hb2.block Z (lt_heap HQZ.out)).trans HQZ.out)
  have HA2 := hide' ((hb2.block A (lt_heap HQA.out)).trans HQA.out)
  clear hb2 HB1 HQY HQZ HQA HM
  clear c0 c1 c2 c3 c4 c5 c6
  have b0 : w2.cell? ⟨A, 0, none⟩ = some (.slice none 0 0) := (cells_at HA2.out 0).trans rfl
  have b1 : w2.cell? ⟨A, 1, none⟩ = some (.int .i64 0) := (cells_at HA2.out 1).trans rfl
  have b2 : w2.cell? ⟨A, 2, none⟩ = some (.int .i64 0) := (cells_at HA2.out 2).trans rfl
  have b3 : w2.cell? ⟨A, 3, none⟩ = some (.int .i64 0) := (cells_at HA2.out 3).trans rfl
  have b4 : w2.cell? ⟨A, 4, none⟩ = some (.bool false) := (cells_at HA2.out 4).trans rfl
  have b5 : w2.cell? ⟨A, 5, none⟩ = some (.int .i64 0) := (cells_at HA2.out 5).trans rfl
  have b6 : w2.cell? ⟨A, 6, none⟩ = some (.int .i64 0) := (cells_at HA2.out 6).trans rfl
  have e0 : w2.frozen? ⟨A, 0, none⟩ = false := frozen_no HA2.out _
  have e1 : w2.frozen? ⟨A, 1, none⟩ = false := frozen_no HA2.out _
  have e2 : w2.frozen? ⟨A, 2, none⟩ = false := frozen_no HA2.out _
  have e3 : w2.frozen? ⟨A, 3, none⟩ = false := frozen_no HA2.out _
  have e4 : w2.frozen? ⟨A, 4, none⟩ = false := frozen_no HA2.out _
  have e5 : w2.frozen? ⟨A, 5, none⟩ = false := frozen_no HA2.out _
  have e6 : w2.frozen? ⟨A, 6, none⟩ = false := frozen_no HA2.out _
  have HP := hide' (HZ.out w2 A HA2.out StM.nought (.slice none 0 0))
  unfold StM.nought at HP
  simp only at HP
  have HBF := hide' (HB2.out.trans (HP.out.2.below HNE.out.2.2.1 HB2.out.size))
  clear HB2 HZ
  go_wp2
  refine bodyPost_ret (results_cell_row2 rfl _ _ A 30 _ (0, 0) _ rfl HP.out.1 Try.underlying30 rfl (by kernel_rfl)) rfl ?_
  exact ⟨none, 0, _, rfl, row_none0 _, msgs_none _, HBF.out⟩
set_option maxRecDepth 100000 in
set_option maxHeartbeats 4000000 in
theorem Msg_b (S : StM) (m : MsM) (l : List Bool) (n c : Nat) (a : Option Addr) (w : World) (hr : RowAt w (.slice a n c) n 1 (l.map Value.bool)) (hn : n ≤ 2000000) (l1 : List Bool) (T : StM) (rs : List MsM) (code : Int) (hR : mayS n S = true ∧ m.kind ≠ 1 ∧ m.kind ≠ 3 ∧ l1 = l ∧ T = S ∧ rs = [] ∧ code = 7) : Calls Try.prog 16 #[.agg (S.cells (.slice a n c)), .agg m.cells] w (HearO l1 T rs code w) := by
  have hln : l.length = n := by have h := hr.1; simpa using h
  subst hln
  have HR := hide' hR
  have HM := hide' (fun w' => StationMay_any S l.length c a w' (by omega))
  have HZ := hide' (fun (x : World) (A : Nat) (h : x.heap[A]? = some (.cells #[.slice none 0 0, .int .i64 0, .int .i64 0, .int .i64 0, .bool false, .int .i64 0, .int .i64 0] 30 (0, 0))) => put7 (S0 := StM.nought) h)
  have HW := hide' (fun w' (hb : Below w.heap.size w w') => StationOf_any S l l.length c a w' (hr.below hb (Nat.le_refl _)) hn)
  obtain ⟨h0, h1, h3, hl, hT, rfl, rfl⟩ := HR.out
  obtain rfl := hl.symm
  obtain rfl := hT.symm
  rw [h0] at HM
  clear hR HR h0 hr
  obtain ⟨last, armed, point, want, left, pat⟩ := S
  obtain ⟨kind, no, pt, wt⟩ := m
  simp only at h1 h3
  have HH1 := hide' h1
  have HH3 := hide' h3
  clear h1 h3
  unfold HearO
  unfold StM.cells at HM HZ HW ⊢
  unfold MsM.cells
  simp only at HM HZ HW ⊢
  go_enter Try.func16, Try.ntmps16
  go_upto_region 1 with fail
  have hqY := (alloc_old ((w.alloc (.cells #[.slice a l.length c, .int .i64 last, .int .i64 armed, .int .i64 point, .bool want, .int .i64 left, .int .i64 pat] 30)).alloc (.cells #[.int .i64 kind, .int .i64 no, .int .i64 pt, .bool wt] 41)) (.cells #[.slice none 0 0, .int .i64 0, .int .i64 0, .int .i64 0, .bool false, .int .i64 0, .int .i64 0] 30) (lt_heap ((alloc_old (w.alloc (.cells #[.slice a l.length c, .int .i64 last, .int .i64 armed, .int .i64 point, .bool want, .int .i64 left, .int .i64 pat] 30)) (.cells #[.int .i64 kind, .int .i64 no, .int .i64 pt, .bool wt] 41) (lt_heap (alloc_new w (.cells #[.slice a l.length c, .int .i64 last, .int .i64 armed, .int .i64 point, .bool want, .int .i64 left, .int .i64 pat] 30)))).trans (alloc_new w (.cells #[.slice a l.length c, .int .i64 last, .int .i64 armed, .int .i64 point, .bool want, .int .i64 left, .int .i64 pat] 30))))).trans ((alloc_old (w.alloc (.cells #[.slice a l.length c, .int .i64 last, .int .i64 armed, .int .i64 point, .bool want, .int .i64 left, .int .i64 pat] 30)) (.cells #[.int .i64 kind, .int .i64 no, .int .i64 pt, .bool wt] 41) (lt_heap (alloc_new w (.cells #[.slice a l.length c, .int .i64 last, .int .i64 armed, .int .i64 point, .bool want, .int .i64 left, .int .i64 pat] 30)))).trans (alloc_new w (.cells #[.slice a l.length c, .int .i64 last, .int .i64 armed, .int .i64 point, .bool want, .int .i64 left, .int .i64 pat] 30)))
  have hqZ := (alloc_old ((w.alloc (.cells #[.slice a l.length c, .int .i64 last, .int .i64 armed, .int .i64 point, .bool want, .int .i64 left, .int .i64 pat] 30)).alloc (.cells #[.int .i64 kind, .int .i64 no, .int .i64 pt, .bool wt] 41)) (.cells #[.slice none 0 0, .int .i64 0, .int .i64 0, .int .i64 0, .bool false, .int .i64 0, .int .i64 0] 30) (lt_heap (alloc_new (w.alloc (.cells #[.slice a l.length c, .int .i64 last, .int .i64 armed, .int .i64 point, .bool want, .int .i64 left, .int .i64 pat] 30)) (.cells #[.int .i64 kind, .int .i64 no, .int .i64 pt, .bool wt] 41)))).trans (alloc_new (w.alloc (.cells #[.slice a l.length c, .int .i64 last, .int .i64 armed, .int .i64 point, .bool want, .int .i64 left, .int .i64 pat] 30)) (.cells #[.int .i64 kind, .int .i64 no, .int .i64 pt, .bool wt] 41))
  have hqA := alloc_new ((w.alloc (.cells #[.slice a l.length c, .int .i64 last, .int .i64 armed, .int .i64 point, .bool want, .int .i64 left, .int .i64 pat] 30)).alloc (.cells #[.int .i64 kind, .int .i64 no, .int .i64 pt, .bool wt] 41)) (.cells #[.slice none 0 0, .int .i64 0, .int .i64 0, .int .i64 0, .bool false, .int .i64 0, .int .i64 0] 30)
  have hb1 := ((below_al w (.cells #[.slice a l.length c, .int .i64 last, .int .i64 armed, .int .i64 point, .bool want, .int .i64 left, .int .i64 pat] 30)).alloc (below_al w (.cells #[.slice a l.length c, .int .i64 last, .int .i64 armed, .int .i64 point, .bool want, .int .i64 left, .int .i64 pat] 30)).size (.cells #[.int .i64 kind, .int .i64 no, .int .i64 pt, .bool wt] 41)).alloc ((below_al w (.cells #[.slice a l.length c, .int .i64 last, .int .i64 armed, .int .i64 point, .bool want, .int .i64 left, .int .i64 pat] 30)).alloc (below_al w (.cells #[.slice a l.length c, .int .i64 last, .int .i64 armed, .int .i64 point, .bool want, .int .i64 left, .int .i64 pat] 30)).size (.cells #[.int .i64 kind, .int .i64 no, .int .i64 pt, .bool wt] 41)).size (.cells #[.slice none 0 0, .int .i64 0, .int .i64 0, .int .i64 0, .bool false, .int .i64 0, .int .i64 0] 30)
  rw [show (w.alloc (.cells #[.slice a l.length c, .int .i64 last, .int .i64 armed, .int .i64 point, .bool want, .int .i64 left, .int .i64 pat] 30)).heap.size = w.heap.size + 1 from by simp only [World.size_alloc]] at hqZ
  rw [show ((w.alloc (.cells #[.slice a l.length c, .int .i64 last, .int .i64 armed, .int .i64 point, .bool want, .int .i64 left, .int .i64 pat] 30)).alloc (.cells #[.int .i64 kind, .int .i64 no, .int .i64 pt, .bool wt] 41)).heap.size = w.heap.size + 1 + 1 from by simp only [World.size_alloc]] at hqA
  obtain ⟨w1, hw1⟩ : ∃ x, x = (((w.alloc (.cells #[.slice a l.length c, .int .i64 last, .int .i64 armed, .int .i64 point, .bool want, .int .i64 left, .int .i64 pat] 30)).alloc (.cells #[.int .i64 kind, .int .i64 no, .int .i64 pt, .bool wt] 41)).alloc (.cells #[.slice none 0 0, .int .i64 0, .int .i64 0, .int .i64 0, .bool false, .int .i64 0, .int .i64 0] 30)) := ⟨_, rfl⟩
  rw [← hw1] at hqY hqZ hqA hb1 ⊢
  obtain ⟨Y, hnY⟩ : ∃ x, x = w.heap.size := ⟨_, rfl⟩
  obtain ⟨Z, hnZ⟩ : ∃ x, x = w.heap.size + 1 := ⟨_, rfl⟩
  obtain ⟨A, hnA⟩ : ∃ x, x = w.heap.size + 1 + 1 := ⟨_, rfl⟩
  have HNE : Hid (w.heap.size ≤ Y ∧ w.heap.size ≤ Z ∧ w.heap.size ≤ A ∧ Y ≠ Z ∧ Y ≠ A ∧ Z ≠ A) := ⟨by omega, by omega, by omega, by omega, by omega, by omega⟩
  rw [← hnY] at hqY
  rw [← hnZ] at hqZ
  rw [← hnA] at hqA
  rw [show (Value.pointer (some { block := w.heap.size, off := 0 })) = Value.pointer (some { block := Y, off := 0 }) by rw [hnY], show (Value.pointer (some { block := w.heap.size + 1, off := 0 })) = Value.pointer (some { block := Z, off := 0 }) by rw [hnZ], show (Value.pointer (some { block := w.heap.size + 1 + 1, off := 0 })) = Value.pointer (some { block := A, off := 0 }) by rw [hnA]]
  have HQY := hide' hqY
  have HQZ := hide' hqZ
  have HQA := hide' hqA
  have HB1 := hide' hb1
  clear hqY hqZ hqA hb1 hw1 hnY hnZ hnA
  have c0 : w1.cell? ⟨Y, 0, none⟩ = some (.slice a l.length c) := (cells_at HQY.out 0).trans rfl
  have c1 : w1.cell? ⟨Y, 1, none⟩ = some (.int .i64 last) := (cells_at HQY.out 1).trans rfl
  have c2 : w1.cell? ⟨Y, 2, none⟩ = some (.int .i64 armed) := (cells_at HQY.out 2).trans rfl
  have c3 : w1.cell? ⟨Y, 3, none⟩ = some (.int .i64 point) := (cells_at HQY.out 3).trans rfl
  have c4 : w1.cell? ⟨Y, 4, none⟩ = some (.bool want) := (cells_at HQY.out 4).trans rfl
  have c5 : w1.cell? ⟨Y, 5, none⟩ = some (.int .i64 left) := (cells_at HQY.out 5).trans rfl
  have c6 : w1.cell? ⟨Y, 6, none⟩ = some (.int .i64 pat) := (cells_at HQY.out 6).trans rfl
  go_wp2_with fail
  refine (HM.out w1).mono ?_
  rintro e w2 ⟨rfl, hb2⟩
  have HB2 : Hid (Below w.heap.size w w2) := HB1.out.trans (hb2.mono HB1.out.size)
  have HY2 := hide' ((hb2.block Y (lt_heap HQY.out)).trans HQY.out)
  have HZ2 := hide' ((hb2.block Z (lt_heap HQZ.out)).trans HQZ.out)
  have HA2 := hide' ((hb2.block A (lt_heap HQA.out)).trans HQA.out)
  clear hb2 HB1 HQY HQZ HQA HM
  clear c0 c1 c2 c3 c4 c5 c6
  have c0 : w2.cell? ⟨Y, 0, none⟩ = some (.slice a l.length c) := (cells_at HY2.out 0).trans rfl
  have c1 : w2.cell? ⟨Y, 1, none⟩ = some (.int .i64 last) := (cells_at HY2.out 1).trans rfl
  have c2 : w2.cell? ⟨Y, 2, none⟩ = some (.int .i64 armed) := (cells_at HY2.out 2).trans rfl
  have c3 : w2.cell? ⟨Y, 3, none⟩ = some (.int .i64 point) := (cells_at HY2.out 3).trans rfl
  have c4 : w2.cell? ⟨Y, 4, none⟩ = some (.bool want) := (cells_at HY2.out 4).trans rfl
  have c5 : w2.cell? ⟨Y, 5, none⟩ = some (.int .i64 left) := (cells_at HY2.out 5).trans rfl
  have c6 : w2.cell? ⟨Y, 6, none⟩ = some (.int .i64 pat) := (cells_at HY2.out 6).trans rfl
  go_wp2_with fail
  refine (HW.out w2 HB2.out).mono ?_
  rintro e w3 ⟨a1, d1, rfl, ho, hb3⟩
  have HB3 : Hid (Below w.heap.size w w3) := HB2.out.trans (hb3.mono HB2.out.size)
  have HZ3 := hide' ((hb3.block Z (lt_heap HZ2.out)).trans HZ2.out)
  have HA3 := hide' ((hb3.block A (lt_heap HA2.out)).trans HA2.out)
  have HO3 := hide' (own_mono ho HB2.out.size)
  clear ho hb3 HB2 HA2 HY2 HZ2 HW
  clear c0 c1 c2 c3 c4 c5 c6
  go_upto_region 4 with fail
  have HC4 := hide' (alloc_new w3 (.cells #[.slice a1 l.length d1, .int .i64 last, .int .i64 armed, .int .i64 point, .bool want, .int .i64 left, .int .i64 pat] 30))
  have HB4 := hide' (HB3.out.alloc HB3.out.size (.cells #[.slice a1 l.length d1, .int .i64 last, .int .i64 armed, .int .i64 point, .bool want, .int .i64 left, .int .i64 pat] 30))
  have HA4 := hide' ((alloc_old w3 (.cells #[.slice a1 l.length d1, .int .i64 last, .int .i64 armed, .int .i64 point, .bool want, .int .i64 left, .int .i64 pat] 30) (lt_heap HA3.out)).trans HA3.out)
  have HZ4 := hide' ((alloc_old w3 (.cells #[.slice a1 l.length d1, .int .i64 last, .int .i64 armed, .int .i64 point, .bool want, .int .i64 left, .int .i64 pat] 30) (lt_heap HZ3.out)).trans HZ3.out)
  have HO4 := hide' (own_below HO3.out (below_al w3 (.cells #[.slice a1 l.length d1, .int .i64 last, .int .i64 armed, .int .i64 point, .bool want, .int .i64 left, .int .i64 pat] 30)) (Nat.le_refl _))
  obtain ⟨w4, hw4⟩ : ∃ x, x = w3.alloc (.cells #[.slice a1 l.length d1, .int .i64 last, .int .i64 armed, .int .i64 point, .bool want, .int .i64 left, .int .i64 pat] 30) := ⟨_, rfl⟩
  obtain ⟨C, hC⟩ : ∃ x, x = w3.heap.size := ⟨_, rfl⟩
  rw [← hw4] at HC4 HB4 HA4 HZ4 HO4 ⊢
  rw [← hC] at HC4
  rw [show (Value.pointer (some { block := w3.heap.size, off := 0 })) = Value.pointer (some { block := C, off := 0 }) by rw [hC]]
  clear hw4 hC HB3 HA3 HZ3 HO3
  have m0 : w4.cell? ⟨Z, 0, none⟩ = some (.int .i64 kind) := (cells_at HZ4.out 0).trans rfl
  have m1 : w4.cell? ⟨Z, 1, none⟩ = some (.int .i64 no) := (cells_at HZ4.out 1).trans rfl
  have m2 : w4.cell? ⟨Z, 2, none⟩ = some (.int .i64 pt) := (cells_at HZ4.out 2).trans rfl
  have m3 : w4.cell? ⟨Z, 3, none⟩ = some (.bool wt) := (cells_at HZ4.out 3).trans rfl
  have c0 : w4.cell? ⟨C, 0, none⟩ = some (.slice a1 l.length d1) := (cells_at HC4.out 0).trans rfl
  have c1 : w4.cell? ⟨C, 1, none⟩ = some (.int .i64 last) := (cells_at HC4.out 1).trans rfl
  have c2 : w4.cell? ⟨C, 2, none⟩ = some (.int .i64 armed) := (cells_at HC4.out 2).trans rfl
  have c3 : w4.cell? ⟨C, 3, none⟩ = some (.int .i64 point) := (cells_at HC4.out 3).trans rfl
  have c4 : w4.cell? ⟨C, 4, none⟩ = some (.bool want) := (cells_at HC4.out 4).trans rfl
  have c5 : w4.cell? ⟨C, 5, none⟩ = some (.int .i64 left) := (cells_at HC4.out 5).trans rfl
  have c6 : w4.cell? ⟨C, 6, none⟩ = some (.int .i64 pat) := (cells_at HC4.out 6).trans rfl
  have b0 : w4.cell? ⟨A, 0, none⟩ = some (.slice none 0 0) := (cells_at HA4.out 0).trans rfl
  have b1 : w4.cell? ⟨A, 1, none⟩ = some (.int .i64 0) := (cells_at HA4.out 1).trans rfl
  have b2 : w4.cell? ⟨A, 2, none⟩ = some (.int .i64 0) := (cells_at HA4.out 2).trans rfl
  have b3 : w4.cell? ⟨A, 3, none⟩ = some (.int .i64 0) := (cells_at HA4.out 3).trans rfl
  have b4 : w4.cell? ⟨A, 4, none⟩ = some (.bool false) := (cells_at HA4.out 4).trans rfl
  have b5 : w4.cell? ⟨A, 5, none⟩ = some (.int .i64 0) := (cells_at HA4.out 5).trans rfl
  have b6 : w4.cell? ⟨A, 6, none⟩ = some (.int .i64 0) := (cells_at HA4.out 6).trans rfl
  have e0 : w4.frozen? ⟨A, 0, none⟩ = false := frozen_no HA4.out _
  have e1 : w4.frozen? ⟨A, 1, none⟩ = false := frozen_no HA4.out _
  have e2 : w4.frozen? ⟨A, 2, none⟩ = false := frozen_no HA4.out _
  have e3 : w4.frozen? ⟨A, 3, none⟩ = false := frozen_no HA4.out _
  have e4 : w4.frozen? ⟨A, 4, none⟩ = false := frozen_no HA4.out _
  have e5 : w4.frozen? ⟨A, 5, none⟩ = false := frozen_no HA4.out _
  have e6 : w4.frozen? ⟨A, 6, none⟩ = false := frozen_no HA4.out _
  have HP := hide' (HZ.out w4 A HA4.out ⟨last, armed, point, want, left, pat⟩ (.slice a1 l.length d1))
  simp only at HP
  have HOF := hide' (own_mono (own_keep HO4.out (but_keep HP.out.2 HA4.out) (by decide)) (Nat.zero_le _))
  have HBF := hide' (HB4.out.trans (HP.out.2.below HNE.out.2.2.1 HB4.out.size))
  clear HO4 HB4 HZ4 HC4 HZ
  have h1 := HH1.out
  have h3 := HH3.out
  have hb1 : (kind != 1) = true := by simp [h1]
  have hb3 : (kind != 3) = true := by simp [h3]
  go_wp2
  refine bodyPost_ret (results_cell_row2 rfl _ _ A 30 _ (0, 0) _ rfl HP.out.1 Try.underlying30 rfl (by kernel_rfl)) rfl ?_
  exact ⟨a1, d1, _, rfl, HOF.out, msgs_none _, HBF.out⟩
set_option maxRecDepth 100000 in
set_option maxHeartbeats 4000000 in
theorem Msg_c (S : StM) (m : MsM) (l : List Bool) (n c : Nat) (a : Option Addr) (w : World) (hr : RowAt w (.slice a n c) n 1 (l.map Value.bool)) (hn : n ≤ 2000000) (l1 : List Bool) (T : StM) (rs : List MsM) (code : Int) (hR : mayS n S = true ∧ (m.kind = 1 ∨ m.kind = 3) ∧ ¬ (0 ≤ m.no ∧ m.no ≤ 1000000000) ∧ l1 = l ∧ T = S ∧ rs = [] ∧ code = 4) : Calls Try.prog 16 #[.agg (S.cells (.slice a n c)), .agg m.cells] w (HearO l1 T rs code w) := by
  have hln : l.length = n := by have h := hr.1; simpa using h
  subst hln
  have HR := hide' hR
  have HM := hide' (fun w' => StationMay_any S l.length c a w' (by omega))
  have HZ := hide' (fun (x : World) (A : Nat) (h : x.heap[A]? = some (.cells #[.slice none 0 0, .int .i64 0, .int .i64 0, .int .i64 0, .bool false, .int .i64 0, .int .i64 0] 30 (0, 0))) => put7 (S0 := StM.nought) h)
  have HW := hide' (fun w' (hb : Below w.heap.size w w') => StationOf_any S l l.length c a w' (hr.below hb (Nat.le_refl _)) hn)
  have HI := hide' (inBounds_any m.no 0 1000000000)
  obtain ⟨h0, h1, h3, hl, hT, rfl, rfl⟩ := HR.out
  obtain rfl := hl.symm
  obtain rfl := hT.symm
  rw [h0] at HM
  clear hR HR h0 hr
  obtain ⟨last, armed, point, want, left, pat⟩ := S
  obtain ⟨kind, no, pt, wt⟩ := m
  simp only at h1 h3 HI
  rw [show (decide (0 ≤ no) && decide (no ≤ 1000000000)) = false by simp; omega] at HI
  have HK13 := hide' h1
  clear h1 h3
  unfold HearO
  unfold StM.cells at HM HZ HW ⊢
  unfold MsM.cells
  simp only at HM HZ HW ⊢
  go_enter Try.func16, Try.ntmps16
  go_upto_region 1 with fail
  have hqY := (alloc_old ((w.alloc (.cells #[.slice a l.length c, .int .i64 last, .int .i64 armed, .int .i64 point, .bool want, .int .i64 left, .int .i64 pat] 30)).alloc (.cells #[.int .i64 kind, .int .i64 no, .int .i64 pt, .bool wt] 41)) (.cells #[.slice none 0 0, .int .i64 0, .int .i64 0, .int .i64 0, .bool false, .int .i64 0, .int .i64 0] 30) (lt_heap ((alloc_old (w.alloc (.cells #[.slice a l.length c, .int .i64 last, .int .i64 armed, .int .i64 point, .bool want, .int .i64 left, .int .i64 pat] 30)) (.cells #[.int .i64 kind, .int .i64 no, .int .i64 pt, .bool wt] 41) (lt_heap (alloc_new w (.cells #[.slice a l.length c, .int .i64 last, .int .i64 armed, .int .i64 point, .bool want, .int .i64 left, .int .i64 pat] 30)))).trans (alloc_new w (.cells #[.slice a l.length c, .int .i64 last, .int .i64 armed, .int .i64 point, .bool want, .int .i64 left, .int .i64 pat] 30))))).trans ((alloc_old (w.alloc (.cells #[.slice a l.length c, .int .i64 last, .int .i64 armed, .int .i64 point, .bool want, .int .i64 left, .int .i64 pat] 30)) (.cells #[.int .i64 kind, .int .i64 no, .int .i64 pt, .bool wt] 41) (lt_heap (alloc_new w (.cells #[.slice a l.length c, .int .i64 last, .int .i64 armed, .int .i64 point, .bool want, .int .i64 left, .int .i64 pat] 30)))).trans (alloc_new w (.cells #[.slice a l.length c, .int .i64 last, .int .i64 armed, .int .i64 point, .bool want, .int .i64 left, .int .i64 pat] 30)))
  have hqZ := (alloc_old ((w.alloc (.cells #[.slice a l.length c, .int .i64 last, .int .i64 armed, .int .i64 point, .bool want, .int .i64 left, .int .i64 pat] 30)).alloc (.cells #[.int .i64 kind, .int .i64 no, .int .i64 pt, .bool wt] 41)) (.cells #[.slice none 0 0, .int .i64 0, .int .i64 0, .int .i64 0, .bool false, .int .i64 0, .int .i64 0] 30) (lt_heap (alloc_new (w.alloc (.cells #[.slice a l.length c, .int .i64 last, .int .i64 armed, .int .i64 point, .bool want, .int .i64 left, .int .i64 pat] 30)) (.cells #[.int .i64 kind, .int .i64 no, .int .i64 pt, .bool wt] 41)))).trans (alloc_new (w.alloc (.cells #[.slice a l.length c, .int .i64 last, .int .i64 armed, .int .i64 point, .bool want, .int .i64 left, .int .i64 pat] 30)) (.cells #[.int .i64 kind, .int .i64 no, .int .i64 pt, .bool wt] 41))
  have hqA := alloc_new ((w.alloc (.cells #[.slice a l.length c, .int .i64 last, .int .i64 armed, .int .i64 point, .bool want, .int .i64 left, .int .i64 pat] 30)).alloc (.cells #[.int .i64 kind, .int .i64 no, .int .i64 pt, .bool wt] 41)) (.cells #[.slice none 0 0, .int .i64 0, .int .i64 0, .int .i64 0, .bool false, .int .i64 0, .int .i64 0] 30)
  have hb1 := ((below_al w (.cells #[.slice a l.length c, .int .i64 last, .int .i64 armed, .int .i64 point, .bool want, .int .i64 left, .int .i64 pat] 30)).alloc (below_al w (.cells #[.slice a l.length c, .int .i64 last, .int .i64 armed, .int .i64 point, .bool want, .int .i64 left, .int .i64 pat] 30)).size (.cells #[.int .i64 kind, .int .i64 no, .int .i64 pt, .bool wt] 41)).alloc ((below_al w (.cells #[.slice a l.length c, .int .i64 last, .int .i64 armed, .int .i64 point, .bool want, .int .i64 left, .int .i64 pat] 30)).alloc (below_al w (.cells #[.slice a l.length c, .int .i64 last, .int .i64 armed, .int .i64 point, .bool want, .int .i64 left, .int .i64 pat] 30)).size (.cells #[.int .i64 kind, .int .i64 no, .int .i64 pt, .bool wt] 41)).size (.cells #[.slice none 0 0, .int .i64 0, .int .i64 0, .int .i64 0, .bool false, .int .i64 0, .int .i64 0] 30)
  rw [show (w.alloc (.cells #[.slice a l.length c, .int .i64 last, .int .i64 armed, .int .i64 point, .bool want, .int .i64 left, .int .i64 pat] 30)).heap.size = w.heap.size + 1 from by simp only [World.size_alloc]] at hqZ
  rw [show ((w.alloc (.cells #[.slice a l.length c, .int .i64 last, .int .i64 armed, .int .i64 point, .bool want, .int .i64 left, .int .i64 pat] 30)).alloc (.cells #[.int .i64 kind, .int .i64 no, .int .i64 pt, .bool wt] 41)).heap.size = w.heap.size + 1 + 1 from by simp only [World.size_alloc]] at hqA
  obtain ⟨w1, hw1⟩ : ∃ x, x = (((w.alloc (.cells #[.slice a l.length c, .int .i64 last, .int .i64 armed, .int .i64 point, .bool want, .int .i64 left, .int .i64 pat] 30)).alloc (.cells #[.int .i64 kind, .int .i64 no, .int .i64 pt, .bool wt] 41)).alloc (.cells #[.slice none 0 0, .int .i64 0, .int .i64 0, .int .i64 0, .bool false, .int .i64 0, .int .i64 0] 30)) := ⟨_, rfl⟩
  rw [← hw1] at hqY hqZ hqA hb1 ⊢
  obtain ⟨Y, hnY⟩ : ∃ x, x = w.heap.size := ⟨_, rfl⟩
  obtain ⟨Z, hnZ⟩ : ∃ x, x = w.heap.size + 1 := ⟨_, rfl⟩
  obtain ⟨A, hnA⟩ : ∃ x, x = w.heap.size + 1 + 1 := ⟨_, rfl⟩
  have HNE : Hid (w.heap.size ≤ Y ∧ w.heap.size ≤ Z ∧ w.heap.size ≤ A ∧ Y ≠ Z ∧ Y ≠ A ∧ Z ≠ A) := ⟨by omega, by omega, by omega, by omega, by omega, by omega⟩
  rw [← hnY] at hqY
  rw [← hnZ] at hqZ
  rw [← hnA] at hqA
  rw [show (Value.pointer (some { block := w.heap.size, off := 0 })) = Value.pointer (some { block := Y, off := 0 }) by rw [hnY], show (Value.pointer (some { block := w.heap.size + 1, off := 0 })) = Value.pointer (some { block := Z, off := 0 }) by rw [hnZ], show (Value.pointer (some { block := w.heap.size + 1 + 1, off := 0 })) = Value.pointer (some { block := A, off := 0 }) by rw [hnA]]
  have HQY := hide' hqY
  have HQZ := hide' hqZ
  have HQA := hide' hqA
  have HB1 := hide' hb1
  clear hqY hqZ hqA hb1 hw1 hnY hnZ hnA
  have c0 : w1.cell? ⟨Y, 0, none⟩ = some (.slice a l.length c) := (cells_at HQY.out 0).trans rfl
  have c1 : w1.cell? ⟨Y, 1, none⟩ = some (.int .i64 last) := (cells_at HQY.out 1).trans rfl
  have c2 : w1.cell? ⟨Y, 2, none⟩ = some (.int .i64 armed) := (cells_at HQY.out 2).trans rfl
  have c3 : w1.cell? ⟨Y, 3, none⟩ = some (.int .i64 point) := (cells_at HQY.out 3).trans rfl
  have c4 : w1.cell? ⟨Y, 4, none⟩ = some (.bool want) := (cells_at HQY.out 4).trans rfl
  have c5 : w1.cell? ⟨Y, 5, none⟩ = some (.int .i64 left) := (cells_at HQY.out 5).trans rfl
  have c6 : w1.cell? ⟨Y, 6, none⟩ = some (.int .i64 pat) := (cells_at HQY.out 6).trans rfl
  go_wp2_with fail
  refine (HM.out w1).mono ?_
  rintro e w2 ⟨rfl, hb2⟩
  have HB2 : Hid (Below w.heap.size w w2) := HB1.out.trans (hb2.mono HB1.out.size)
  have HY2 := hide' ((hb2.block Y (lt_heap HQY.out)).trans HQY.out)
  have HZ2 := hide' ((hb2.block Z (lt_heap HQZ.out)).trans HQZ.out)
  have HA2 := hide' ((hb2.block A (lt_heap HQA.out)).trans HQA.out)
  clear hb2 HB1 HQY HQZ HQA HM
  clear c0 c1 c2 c3 c4 c5 c6
  have c0 : w2.cell? ⟨Y, 0, none⟩ = some (.slice a l.length c) := (cells_at HY2.out 0).trans rfl
  have c1 : w2.cell? ⟨Y, 1, none⟩ = some (.int .i64 last) := (cells_at HY2.out 1).trans rfl
  have c2 : w2.cell? ⟨Y, 2, none⟩ = some (.int .i64 armed) := (cells_at HY2.out 2).trans rfl
  have c3 : w2.cell? ⟨Y, 3, none⟩ = some (.int .i64 point) := (cells_at HY2.out 3).trans rfl
  have c4 : w2.cell? ⟨Y, 4, none⟩ = some (.bool want) := (cells_at HY2.out 4).trans rfl
  have c5 : w2.cell? ⟨Y, 5, none⟩ = some (.int .i64 left) := (cells_at HY2.out 5).trans rfl
  have c6 : w2.cell? ⟨Y, 6, none⟩ = some (.int .i64 pat) := (cells_at HY2.out 6).trans rfl
  go_wp2_with fail
  refine (HW.out w2 HB2.out).mono ?_
  rintro e w3 ⟨a1, d1, rfl, ho, hb3⟩
  have HB3 : Hid (Below w.heap.size w w3) := HB2.out.trans (hb3.mono HB2.out.size)
  have HZ3 := hide' ((hb3.block Z (lt_heap HZ2.out)).trans HZ2.out)
  have HA3 := hide' ((hb3.block A (lt_heap HA2.out)).trans HA2.out)
  have HO3 := hide' (own_mono ho HB2.out.size)
  clear ho hb3 HB2 HA2 HY2 HZ2 HW
  clear c0 c1 c2 c3 c4 c5 c6
  go_upto_region 4 with fail
  have HC4 := hide' (alloc_new w3 (.cells #[.slice a1 l.length d1, .int .i64 last, .int .i64 armed, .int .i64 point, .bool want, .int .i64 left, .int .i64 pat] 30))
  have HB4 := hide' (HB3.out.alloc HB3.out.size (.cells #[.slice a1 l.length d1, .int .i64 last, .int .i64 armed, .int .i64 point, .bool want, .int .i64 left, .int .i64 pat] 30))
  have HA4 := hide' ((alloc_old w3 (.cells #[.slice a1 l.length d1, .int .i64 last, .int .i64 armed, .int .i64 point, .bool want, .int .i64 left, .int .i64 pat] 30) (lt_heap HA3.out)).trans HA3.out)
  have HZ4 := hide' ((alloc_old w3 (.cells #[.slice a1 l.length d1, .int .i64 last, .int .i64 armed, .int .i64 point, .bool want, .int .i64 left, .int .i64 pat] 30) (lt_heap HZ3.out)).trans HZ3.out)
  have HO4 := hide' (own_below HO3.out (below_al w3 (.cells #[.slice a1 l.length d1, .int .i64 last, .int .i64 armed, .int .i64 point, .bool want, .int .i64 left, .int .i64 pat] 30)) (Nat.le_refl _))
  obtain ⟨w4, hw4⟩ : ∃ x, x = w3.alloc (.cells #[.slice a1 l.length d1, .int .i64 last, .int .i64 armed, .int .i64 point, .bool want, .int .i64 left, .int .i64 pat] 30) := ⟨_, rfl⟩
  obtain ⟨C, hC⟩ : ∃ x, x = w3.heap.size := ⟨_, rfl⟩
  rw [← hw4] at HC4 HB4 HA4 HZ4 HO4 ⊢
  rw [← hC] at HC4
  rw [show (Value.pointer (some { block := w3.heap.size, off := 0 })) = Value.pointer (some { block := C, off := 0 }) by rw [hC]]
  clear hw4 hC HB3 HA3 HZ3 HO3
  have m0 : w4.cell? ⟨Z, 0, none⟩ = some (.int .i64 kind) := (cells_at HZ4.out 0).trans rfl
  have m1 : w4.cell? ⟨Z, 1, none⟩ = some (.int .i64 no) := (cells_at HZ4.out 1).trans rfl
  have m2 : w4.cell? ⟨Z, 2, none⟩ = some (.int .i64 pt) := (cells_at HZ4.out 2).trans rfl
  have m3 : w4.cell? ⟨Z, 3, none⟩ = some (.bool wt) := (cells_at HZ4.out 3).trans rfl
  have c0 : w4.cell? ⟨C, 0, none⟩ = some (.slice a1 l.length d1) := (cells_at HC4.out 0).trans rfl
  have c1 : w4.cell? ⟨C, 1, none⟩ = some (.int .i64 last) := (cells_at HC4.out 1).trans rfl
  have c2 : w4.cell? ⟨C, 2, none⟩ = some (.int .i64 armed) := (cells_at HC4.out 2).trans rfl
  have c3 : w4.cell? ⟨C, 3, none⟩ = some (.int .i64 point) := (cells_at HC4.out 3).trans rfl
  have c4 : w4.cell? ⟨C, 4, none⟩ = some (.bool want) := (cells_at HC4.out 4).trans rfl
  have c5 : w4.cell? ⟨C, 5, none⟩ = some (.int .i64 left) := (cells_at HC4.out 5).trans rfl
  have c6 : w4.cell? ⟨C, 6, none⟩ = some (.int .i64 pat) := (cells_at HC4.out 6).trans rfl
  have b0 : w4.cell? ⟨A, 0, none⟩ = some (.slice none 0 0) := (cells_at HA4.out 0).trans rfl
  have b1 : w4.cell? ⟨A, 1, none⟩ = some (.int .i64 0) := (cells_at HA4.out 1).trans rfl
  have b2 : w4.cell? ⟨A, 2, none⟩ = some (.int .i64 0) := (cells_at HA4.out 2).trans rfl
  have b3 : w4.cell? ⟨A, 3, none⟩ = some (.int .i64 0) := (cells_at HA4.out 3).trans rfl
  have b4 : w4.cell? ⟨A, 4, none⟩ = some (.bool false) := (cells_at HA4.out 4).trans rfl
  have b5 : w4.cell? ⟨A, 5, none⟩ = some (.int .i64 0) := (cells_at HA4.out 5).trans rfl
  have b6 : w4.cell? ⟨A, 6, none⟩ = some (.int .i64 0) := (cells_at HA4.out 6).trans rfl
  have e0 : w4.frozen? ⟨A, 0, none⟩ = false := frozen_no HA4.out _
  have e1 : w4.frozen? ⟨A, 1, none⟩ = false := frozen_no HA4.out _
  have e2 : w4.frozen? ⟨A, 2, none⟩ = false := frozen_no HA4.out _
  have e3 : w4.frozen? ⟨A, 3, none⟩ = false := frozen_no HA4.out _
  have e4 : w4.frozen? ⟨A, 4, none⟩ = false := frozen_no HA4.out _
  have e5 : w4.frozen? ⟨A, 5, none⟩ = false := frozen_no HA4.out _
  have e6 : w4.frozen? ⟨A, 6, none⟩ = false := frozen_no HA4.out _
  have HP := hide' (HZ.out w4 A HA4.out ⟨last, armed, point, want, left, pat⟩ (.slice a1 l.length d1))
  simp only at HP
  have HOF := hide' (own_mono (own_keep HO4.out (but_keep HP.out.2 HA4.out) (by decide)) (Nat.zero_le _))
  have HBF := hide' (HB4.out.trans (HP.out.2.below HNE.out.2.2.1 HB4.out.size))
  clear HO4 HB4 HZ4 HC4 HZ
  rcases HK13.out with rfl | rfl
  · clear HK13
    go_wp2_with fail
    refine (HI.out _).mono ?_
    rintro e w9 ⟨rfl, rfl⟩
    go_wp2
    refine bodyPost_ret (results_cell_row2 rfl _ _ A 30 _ (0, 0) _ rfl HP.out.1 Try.underlying30 rfl (by kernel_rfl)) rfl ?_
    exact ⟨a1, d1, _, rfl, HOF.out, msgs_none _, HBF.out⟩
  · clear HK13
    go_wp2_with fail
    refine (HI.out _).mono ?_
    rintro e w9 ⟨rfl, rfl⟩
    go_wp2
    refine bodyPost_ret (results_cell_row2 rfl _ _ A 30 _ (0, 0) _ rfl HP.out.1 Try.underlying30 rfl (by kernel_rfl)) rfl ?_
    exact ⟨a1, d1, _, rfl, HOF.out, msgs_none _, HBF.out⟩
/-- What hearing comes to. -/
def HearR (l : List Bool) (n : Nat) (S : StM) (m : MsM) (l1 : List Bool) (T : StM) (rs : List MsM) (code : Int) : Prop :=
  (∀ (a : Option Addr) (c : Nat) (w : World), RowAt w (.slice a n c) n 1 (l.map Value.bool) → Calls Try.prog 14 #[.agg (S.cells (.slice a n c)), .agg m.cells] w (HearO l1 T rs code w)) ∧ (∀ (a : Option Addr) (c : Nat) (w : World), RowAt w (.slice a n c) n 1 (l.map Value.bool) → Calls Try.prog 16 #[.agg (S.cells (.slice a n c)), .agg m.cells] w (HearO l1 T rs code w)) ∧ l1.length ≤ 2000000 ∧ rs.length ≤ 1
theorem reply_len (m : MsM) (r : Int) : (replyL m r).length ≤ 1 := by
  unfold replyL
  split <;> simp
theorem hear_alike (l : List Bool) (n : Nat) (S : StM) (m : MsM) (hl : l.length = n) (hn : n ≤ 2000000) : ∃ l1 T rs code, HearR l n S m l1 T rs code := by
  cases hm : mayS n S with
  | false => exact ⟨[], StM.nought, [], 14, fun a c w hr => Hear_1 S m l n c a w hr hn _ _ _ _ ⟨hm, rfl, rfl, rfl, rfl⟩, fun a c w hr => Msg_a S m l n c a w hr hn _ _ _ _ ⟨hm, rfl, rfl, rfl, rfl⟩, by simp, by simp⟩
  | true =>
    by_cases hk : m.kind = 1 ∨ m.kind = 3
    · by_cases hno : 0 ≤ m.no ∧ m.no ≤ 1000000000
      · rcases hk with hk | hk
        · have h4 : ∀ r T, ChooseR n S m r T → ∀ (a : Option Addr) (c : Nat) (w : World), RowAt w (.slice a n c) n 1 (l.map Value.bool) → Calls Try.prog 14 #[.agg (S.cells (.slice a n c)), .agg m.cells] w (HearO l T (replyL m r) 0 w) := fun r T h a c w hr => Hear_4 S m l n c a w hr hn _ _ _ _ ⟨hm, hk, hno, r, ⟨h, rfl⟩, rfl, rfl⟩
          by_cases e1 : m.no = S.last
          · exact ⟨l, S, replyL m 4, 0, h4 4 S (.inl ⟨e1, rfl, rfl⟩), fun a c w hr => Msg_d1 S m l n c a w hr hn _ _ _ _ ⟨hm, hk, hno, e1, rfl, rfl, rfl, rfl⟩, by omega, reply_len _ _⟩
          · by_cases e2 : m.no < S.last
            · exact ⟨l, S, replyL m 0, 0, h4 0 S (.inr (.inl ⟨e1, .inl e2, rfl, rfl⟩)), fun a c w hr => Msg_e1 S m l n c a w hr hn _ _ _ _ ⟨hm, hk, hno, e2, rfl, rfl, rfl, rfl⟩, by omega, reply_len _ _⟩
            · by_cases e3 : m.no < S.armed
              · exact ⟨l, S, replyL m 0, 0, h4 0 S (.inr (.inl ⟨e1, .inr e3, rfl, rfl⟩)), fun a c w hr => Msg_f S m l n c a w hr hn _ _ _ _ ⟨hm, hk, hno, ⟨by omega, e3⟩, rfl, rfl, rfl, rfl⟩, by omega, reply_len _ _⟩
              · by_cases e4 : m.pt < 0
                · exact ⟨l, S, replyL m 5, 0, h4 5 S (.inr (.inr (.inl ⟨by omega, by omega, by omega, rfl, rfl⟩))), fun a c w hr => Msg_g1 S m l n c a w hr hn _ _ _ _ ⟨hm, hk, hno, ⟨by omega, by omega, e4⟩, rfl, rfl, rfl, rfl⟩, by omega, reply_len _ _⟩
                · by_cases e5 : (n : Int) ≤ m.pt
                  · exact ⟨l, S, replyL m 5, 0, h4 5 S (.inr (.inr (.inl ⟨by omega, by omega, by omega, rfl, rfl⟩))), fun a c w hr => Msg_g2 S m l n c a w hr hn _ _ _ _ ⟨hm, hk, hno, ⟨by omega, by omega, by omega, by omega⟩, rfl, rfl, rfl, rfl⟩, by omega, reply_len _ _⟩
                  · exact ⟨l, ⟨S.last, m.no, m.pt, m.wt, S.pat, S.pat⟩, replyL m 2, 0, h4 2 _ (.inr (.inr (.inr ⟨by omega, by omega, ⟨by omega, by omega⟩, rfl, rfl⟩))), fun a c w hr => Msg_h S m l n c a w hr hn _ _ _ _ ⟨hm, hk, hno, ⟨by omega, by omega, by omega, by omega⟩, rfl, rfl, rfl, rfl⟩, by omega, reply_len _ _⟩
        · have h5 : ∀ l1 r T, OperR l n S m l1 r T → ∀ (a : Option Addr) (c : Nat) (w : World), RowAt w (.slice a n c) n 1 (l.map Value.bool) → Calls Try.prog 14 #[.agg (S.cells (.slice a n c)), .agg m.cells] w (HearO l1 T (replyL m r) 0 w) := fun l1 r T h a c w hr => Hear_5 S m l n c a w hr hn _ _ _ _ ⟨hm, hk, hno, r, h, rfl, rfl⟩
          by_cases e1 : m.no = S.last
          · exact ⟨l, S, replyL m 4, 0, h5 l 4 S (.inl ⟨e1, rfl, rfl, rfl⟩), fun a c w hr => Msg_d3 S m l n c a w hr hn _ _ _ _ ⟨hm, hk, hno, e1, rfl, rfl, rfl, rfl⟩, by omega, reply_len _ _⟩
          · by_cases e2 : m.no < S.last
            · exact ⟨l, S, replyL m 0, 0, h5 l 0 S (.inr (.inl ⟨e2, rfl, rfl, rfl⟩)), fun a c w hr => Msg_e3 S m l n c a w hr hn _ _ _ _ ⟨hm, hk, hno, e2, rfl, rfl, rfl, rfl⟩, by omega, reply_len _ _⟩
            · by_cases e3 : m.no = S.armed
              · by_cases e4 : m.pt = S.point
                · by_cases e5 : m.wt = S.want
                  · have hp : 0 ≤ m.pt ∧ m.pt < n := by
                      rcases (may_armed hm).2 with h | h
                      · omega
                      · have := h.2.2.1; omega
                    exact ⟨l.set m.pt.toNat m.wt, ⟨m.no, -1, 0, false, 0, S.pat⟩, replyL m 4, 0, h5 _ 4 _ (.inr (.inr (.inr ⟨by omega, e3, e4, e5, hp, rfl, rfl, rfl⟩))), fun a c w hr => Msg_j S m l n c a w hr hn _ _ _ _ ⟨hm, hk, hno, ⟨by omega, e3, e4, e5, hp.1, by omega⟩, rfl, rfl, rfl, rfl⟩, by rw [List.length_set]; omega, reply_len _ _⟩
                  · exact ⟨l, S, replyL m 5, 0, h5 l 5 S (.inr (.inr (.inl ⟨by omega, .inr (.inr e5), rfl, rfl, rfl⟩))), fun a c w hr => Msg_i3 S m l n c a w hr hn _ _ _ _ ⟨hm, hk, hno, ⟨by omega, e3, e4, fun e => e5 e.symm⟩, rfl, rfl, rfl, rfl⟩, by omega, reply_len _ _⟩
                · exact ⟨l, S, replyL m 5, 0, h5 l 5 S (.inr (.inr (.inl ⟨by omega, .inr (.inl e4), rfl, rfl, rfl⟩))), fun a c w hr => Msg_i2 S m l n c a w hr hn _ _ _ _ ⟨hm, hk, hno, ⟨by omega, e3, fun e => e4 e.symm⟩, rfl, rfl, rfl, rfl⟩, by omega, reply_len _ _⟩
              · exact ⟨l, S, replyL m 5, 0, h5 l 5 S (.inr (.inr (.inl ⟨by omega, .inl e3, rfl, rfl, rfl⟩))), fun a c w hr => Msg_i1 S m l n c a w hr hn _ _ _ _ ⟨hm, hk, hno, ⟨by omega, fun e => e3 e.symm⟩, rfl, rfl, rfl, rfl⟩, by omega, reply_len _ _⟩
      · exact ⟨l, S, [], 4, fun a c w hr => Hear_3 S m l n c a w hr hn _ _ _ _ ⟨hm, hk, hno, rfl, rfl, rfl, rfl⟩, fun a c w hr => Msg_c S m l n c a w hr hn _ _ _ _ ⟨hm, hk, hno, rfl, rfl, rfl, rfl⟩, by omega, by simp⟩
    · have hk1 : m.kind ≠ 1 := fun e => hk (.inl e)
      have hk3 : m.kind ≠ 3 := fun e => hk (.inr e)
      exact ⟨l, S, [], 7, fun a c w hr => Hear_2 S m l n c a w hr hn _ _ _ _ ⟨hm, hk1, hk3, rfl, rfl, rfl, rfl⟩, fun a c w hr => Msg_b S m l n c a w hr hn _ _ _ _ ⟨hm, hk1, hk3, rfl, rfl, rfl, rfl⟩, by omega, by simp⟩
end Go.Proofs.Ytjhmendiefojoal
