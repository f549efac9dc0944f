/- A station hears a message. -/
import Derived.Test.YtjhmendiefojoamYc
import Derived.Test.YtjhmendiefojoamS13
namespace Go.Proofs.Ytjhmendiefojoam
open Go.RowKit Go.Shelf

theorem func_nil (w : World) : Sem.run Try.prog (binOp .eql 81 .nilFunc .nilFunc) w = .ok (.bool true) w := by rfl
theorem func_some (f : FuncId) (xs : Array Value) (w : World) : Sem.run Try.prog (binOp .eql 81 (.func (.func f) xs #[]) .nilFunc) w = .ok (.bool false) w := by rfl
attribute [local go_sem] func_nil func_some
/-- A station, a row of messages and a word of error are answered. -/
def HearO (l1 : List Bool) (T : StM) (rs : List MsM) (code : Int) (w : World) (e : Ending) (w' : World) : Prop := ∃ a c v, e = .returned (.tuple #[.agg (T.cells (.slice a l1.length c)), v, .int .i64 code]) ∧ w'.ownsRow 0 4 1 (.slice a l1.length c) l1.length (l1.map Value.bool) ∧ w'.ownsRow 0 39 4 v rs.length (msgs rs) ∧ Below w.heap.size w w'
theorem msgs_none (w : World) : w.ownsRow 0 39 4 (.slice none 0 0) ([] : List MsM).length (msgs []) := World.ownsRow_nil _ _ _ _
theorem row_none0 (w : World) : w.ownsRow 0 4 1 (.slice none 0 0) ([] : List Bool).length (([] : List Bool).map Value.bool) := World.ownsRow_nil _ _ _ _
theorem oper_len {l l1 : List Bool} {n : Nat} {S T : StM} {m : MsM} {r : Int} (h : OperR l n S m l1 r T) : l1.length = l.length := by
  rcases h with ⟨_, _, _, rfl⟩ | ⟨_, _, _, rfl⟩ | ⟨_, _, _, _, rfl⟩ | ⟨_, _, _, _, _, _, _, rfl⟩
  · rfl
  · rfl
  · rfl
  · exact List.length_set
set_option maxRecDepth 100000 in
set_option maxHeartbeats 4000000 in
theorem Hear_1 (S : StM) (m : MsM) (l : List Bool) (n c : Nat) (a : Option Addr) (w : World) (hr : RowAt w (.slice a n c) n 1 (l.map Value.bool)) (hn : n ≤ 2000000) (l1 : List Bool) (T : StM) (rs : List MsM) (code : Int) (hR : mayS n S = false ∧ l1 = [] ∧ T = StM.nought ∧ rs = [] ∧ code = 14) : Calls Try.prog 52 #[.agg (S.cells (.slice a n c)), .agg m.cells] w (HearO l1 T rs code w) := by
  have hln : l.length = n := by have h := hr.1; simpa using h
  subst hln
  have HR := hide' hR
  have HM := hide' (fun w' => stationMayBe_any S l.length c a w' (by omega))
  have HZ := hide' (fun (x : World) (A : Nat) (h : x.heap[A]? = some (.cells #[.slice none 0 0, .int .i64 0, .int .i64 0, .int .i64 0, .bool false, .int .i64 0, .int .i64 0] 24 (0, 0))) => put7 (S0 := StM.nought) h)
  obtain ⟨h0, rfl, rfl, rfl, rfl⟩ := HR.out
  rw [h0] at HM
  clear hR HR h0 hr
  obtain ⟨last, armed, point, want, left, pat⟩ := S
  obtain ⟨kind, no, pt, wt⟩ := m
  unfold HearO
  unfold StM.cells at HM HZ ⊢
  unfold MsM.cells StM.nought
  simp only at HM HZ ⊢
  go_enter Try.func52, Try.ntmps52
  go_upto_region 1 with fail
  have hqY := (alloc_old ((w.alloc (.cells #[.slice a l.length c, .int .i64 last, .int .i64 armed, .int .i64 point, .bool want, .int .i64 left, .int .i64 pat] 24)).alloc (.cells #[.int .i64 kind, .int .i64 no, .int .i64 pt, .bool wt] 39)) (.cells #[.slice none 0 0, .int .i64 0, .int .i64 0, .int .i64 0, .bool false, .int .i64 0, .int .i64 0] 24) (lt_heap ((alloc_old (w.alloc (.cells #[.slice a l.length c, .int .i64 last, .int .i64 armed, .int .i64 point, .bool want, .int .i64 left, .int .i64 pat] 24)) (.cells #[.int .i64 kind, .int .i64 no, .int .i64 pt, .bool wt] 39) (lt_heap (alloc_new w (.cells #[.slice a l.length c, .int .i64 last, .int .i64 armed, .int .i64 point, .bool want, .int .i64 left, .int .i64 pat] 24)))).trans (alloc_new w (.cells #[.slice a l.length c, .int .i64 last, .int .i64 armed, .int .i64 point, .bool want, .int .i64 left, .int .i64 pat] 24))))).trans ((alloc_old (w.alloc (.cells #[.slice a l.length c, .int .i64 last, .int .i64 armed, .int .i64 point, .bool want, .int .i64 left, .int .i64 pat] 24)) (.cells #[.int .i64 kind, .int .i64 no, .int .i64 pt, .bool wt] 39) (lt_heap (alloc_new w (.cells #[.slice a l.length c, .int .i64 last, .int .i64 armed, .int .i64 point, .bool want, .int .i64 left, .int .i64 pat] 24)))).trans (alloc_new w (.cells #[.slice a l.length c, .int .i64 last, .int .i64 armed, .int .i64 point, .bool want, .int .i64 left, .int .i64 pat] 24)))
  have hqZ := (alloc_old ((w.alloc (.cells #[.slice a l.length c, .int .i64 last, .int .i64 armed, .int .i64 point, .bool want, .int .i64 left, .int .i64 pat] 24)).alloc (.cells #[.int .i64 kind, .int .i64 no, .int .i64 pt, .bool wt] 39)) (.cells #[.slice none 0 0, .int .i64 0, .int .i64 0, .int .i64 0, .bool false, .int .i64 0, .int .i64 0] 24) (lt_heap (alloc_new (w.alloc (.cells #[.slice a l.length c, .int .i64 last, .int .i64 armed, .int .i64 point, .bool want, .int .i64 left, .int .i64 pat] 24)) (.cells #[.int .i64 kind, .int .i64 no, .int .i64 pt, .bool wt] 39)))).trans (alloc_new (w.alloc (.cells #[.slice a l.length c, .int .i64 last, .int .i64 armed, .int .i64 point, .bool want, .int .i64 left, .int .i64 pat] 24)) (.cells #[.int .i64 kind, .int .i64 no, .int .i64 pt, .bool wt] 39))
  have hqA := alloc_new ((w.alloc (.cells #[.slice a l.length c, .int .i64 last, .int .i64 armed, .int .i64 point, .bool want, .int .i64 left, .int .i64 pat] 24)).alloc (.cells #[.int .i64 kind, .int .i64 no, .int .i64 pt, .bool wt] 39)) (.cells #[.slice none 0 0, .int .i64 0, .int .i64 0, .int .i64 0, .bool false, .int .i64 0, .int .i64 0] 24)
  have hb1 := ((below_al w (.cells #[.slice a l.length c, .int .i64 last, .int .i64 armed, .int .i64 point, .bool want, .int .i64 left, .int .i64 pat] 24)).alloc (below_al w (.cells #[.slice a l.length c, .int .i64 last, .int .i64 armed, .int .i64 point, .bool want, .int .i64 left, .int .i64 pat] 24)).size (.cells #[.int .i64 kind, .int .i64 no, .int .i64 pt, .bool wt] 39)).alloc ((below_al w (.cells #[.slice a l.length c, .int .i64 last, .int .i64 armed, .int .i64 point, .bool want, .int .i64 left, .int .i64 pat] 24)).alloc (below_al w (.cells #[.slice a l.length c, .int .i64 last, .int .i64 armed, .int .i64 point, .bool want, .int .i64 left, .int .i64 pat] 24)).size (.cells #[.int .i64 kind, .int .i64 no, .int .i64 pt, .bool wt] 39)).size (.cells #[.slice none 0 0, .int .i64 0, .int .i64 0, .int .i64 0, .bool false, .int .i64 0, .int .i64 0] 24)
  rw [show (w.alloc (.cells #[.slice a l.length c, .int .i64 last, .int .i64 armed, .int .i64 point, .bool want, .int .i64 left, .int .i64 pat] 24)).heap.size = w.heap.size + 1 from by simp only [World.size_alloc]] at hqZ
  rw [show ((w.alloc (.cells #[.slice a l.length c, .int .i64 last, .int .i64 armed, .int .i64 point, .bool want, .int .i64 left, .int .i64 pat] 24)).alloc (.cells #[.int .i64 kind, .int .i64 no, .int .i64 pt, .bool wt] 39)).heap.size = w.heap.size + 1 + 1 from by simp only [World.size_alloc]] at hqA
  obtain ⟨w1, hw1⟩ : ∃ x, x = (((w.alloc (.cells #[.slice a l.length c, .int .i64 last, .int .i64 armed, .int .i64 point, .bool want, .int .i64 left, .int .i64 pat] 24)).alloc (.cells #[.int .i64 kind, .int .i64 no, .int .i64 pt, .bool wt] 39)).alloc (.cells #[.slice none 0 0, .int .i64 0, .int .i64 0, .int .i64 0, .bool false, .int .i64 0, .int .i64 0] 24)) := ⟨_, rfl⟩
  rw [← hw1] at hqY hqZ hqA hb1 ⊢
  obtain ⟨Y, hnY⟩ : ∃ x, x = w.heap.size := ⟨_, rfl⟩
  obtain ⟨Z, hnZ⟩ : ∃ x, x = w.heap.size + 1 := ⟨_, rfl⟩
  obtain ⟨A, hnA⟩ : ∃ x, x = w.heap.size + 1 + 1 := ⟨_, rfl⟩
  have HNE : Hid (w.heap.size ≤ Y ∧ w.heap.size ≤ Z ∧ w.heap.size ≤ A ∧ Y ≠ Z ∧ Y ≠ A ∧ Z ≠ A) := ⟨by omega, by omega, by omega, by omega, by omega, by omega⟩
  rw [← hnY] at hqY
  rw [← hnZ] at hqZ
  rw [← hnA] at hqA
  rw [show (Value.pointer (some { block := w.heap.size, off := 0 })) = Value.pointer (some { block := Y, off := 0 }) by rw [hnY], show (Value.pointer (some { block := w.heap.size + 1, off := 0 })) = Value.pointer (some { block := Z, off := 0 }) by rw [hnZ], show (Value.pointer (some { block := w.heap.size + 1 + 1, off := 0 })) = Value.pointer (some { block := A, off := 0 }) by rw [hnA]]
  have HQY := hide' hqY
  have HQZ := hide' hqZ
  have HQA := hide' hqA
  have HB1 := hide' hb1
  clear hqY hqZ hqA hb1 hw1 hnY hnZ hnA
  obtain ⟨c0, c1, c2, c3, c4, c5, c6⟩ := cellsP7 HQY.out
  go_wp2_with fail
  refine (HM.out w1).mono ?_
  rintro e w2 ⟨rfl, hb2⟩
  have HB2 : Hid (Below w.heap.size w w2) := HB1.out.trans (hb2.mono HB1.out.size)
  have HY2 := hide' ((hb2.block Y (lt_heap HQY.out)).trans HQY.out)
  have HZ2 := hide' ((hb2.block Z (lt_heap HQZ.out)).trans HQZ.out)
  have HA2 := hide' ((hb2.block A (lt_heap HQA.out)).trans HQA.out)
  clear hb2 HB1 HQY HQZ HQA HM
  clear c0 c1 c2 c3 c4 c5 c6
  obtain ⟨b0, b1, b2, b3, b4, b5, b6⟩ := cellsP7 HA2.out
  obtain ⟨e0, e1, e2, e3, e4, e5, e6⟩ := frozenP7 HA2.out
  have HP := hide' (HZ.out w2 A HA2.out StM.nought (.slice none 0 0))
  unfold StM.nought at HP
  simp only at HP
  have HBF := hide' (HB2.out.trans (HP.out.2.below HNE.out.2.2.1 HB2.out.size))
  clear HB2 HZ
  go_wp2
  refine bodyPost_ret (results_cell_row2 rfl _ _ A 24 _ (0, 0) _ rfl HP.out.1 Try.underlying24 rfl (by kernel_rfl)) rfl ?_
  exact ⟨none, 0, _, rfl, row_none0 _, msgs_none _, HBF.out⟩
set_option maxRecDepth 100000 in
set_option maxHeartbeats 4000000 in
theorem Hear_2 (S : StM) (m : MsM) (l : List Bool) (n c : Nat) (a : Option Addr) (w : World) (hr : RowAt w (.slice a n c) n 1 (l.map Value.bool)) (hn : n ≤ 2000000) (l1 : List Bool) (T : StM) (rs : List MsM) (code : Int) (hR : mayS n S = true ∧ m.kind ≠ 1 ∧ m.kind ≠ 3 ∧ l1 = l ∧ T = S ∧ rs = [] ∧ code = 7) : Calls Try.prog 52 #[.agg (S.cells (.slice a n c)), .agg m.cells] w (HearO l1 T rs code w) := by
  have hln : l.length = n := by have h := hr.1; simpa using h
  subst hln
  have HR := hide' hR
  have HM := hide' (fun w' => stationMayBe_any S l.length c a w' (by omega))
  have HZ := hide' (fun (x : World) (A : Nat) (h : x.heap[A]? = some (.cells #[.slice none 0 0, .int .i64 0, .int .i64 0, .int .i64 0, .bool false, .int .i64 0, .int .i64 0] 24 (0, 0))) => put7 (S0 := StM.nought) h)
  have HW := hide' (fun w' (hb : Below w.heap.size w w') => atWork_any S l l.length c a w' (hr.below hb (Nat.le_refl _)) hn)
  obtain ⟨h0, h1, h3, hl, hT, rfl, rfl⟩ := HR.out
  obtain rfl := hl.symm
  obtain rfl := hT.symm
  rw [h0] at HM
  clear hR HR h0 hr
  obtain ⟨last, armed, point, want, left, pat⟩ := S
  obtain ⟨kind, no, pt, wt⟩ := m
  unfold HearO
  unfold StM.cells at HM HZ HW ⊢
  unfold MsM.cells
  simp only at HM HZ HW h1 h3 ⊢
  go_enter Try.func52, Try.ntmps52
  go_upto_region 1 with fail
  have hqY := (alloc_old ((w.alloc (.cells #[.slice a l.length c, .int .i64 last, .int .i64 armed, .int .i64 point, .bool want, .int .i64 left, .int .i64 pat] 24)).alloc (.cells #[.int .i64 kind, .int .i64 no, .int .i64 pt, .bool wt] 39)) (.cells #[.slice none 0 0, .int .i64 0, .int .i64 0, .int .i64 0, .bool false, .int .i64 0, .int .i64 0] 24) (lt_heap ((alloc_old (w.alloc (.cells #[.slice a l.length c, .int .i64 last, .int .i64 armed, .int .i64 point, .bool want, .int .i64 left, .int .i64 pat] 24)) (.cells #[.int .i64 kind, .int .i64 no, .int .i64 pt, .bool wt] 39) (lt_heap (alloc_new w (.cells #[.slice a l.length c, .int .i64 last, .int .i64 armed, .int .i64 point, .bool want, .int .i64 left, .int .i64 pat] 24)))).trans (alloc_new w (.cells #[.slice a l.length c, .int .i64 last, .int .i64 armed, .int .i64 point, .bool want, .int .i64 left, .int .i64 pat] 24))))).trans ((alloc_old (w.alloc (.cells #[.slice a l.length c, .int .i64 last, .int .i64 armed, .int .i64 point, .bool want, .int .i64 left, .int .i64 pat] 24)) (.cells #[.int .i64 kind, .int .i64 no, .int .i64 pt, .bool wt] 39) (lt_heap (alloc_new w (.cells #[.slice a l.length c, .int .i64 last, .int .i64 armed, .int .i64 point, .bool want, .int .i64 left, .int .i64 pat] 24)))).trans (alloc_new w (.cells #[.slice a l.length c, .int .i64 last, .int .i64 armed, .int .i64 point, .bool want, .int .i64 left, .int .i64 pat] 24)))
  have hqZ := (alloc_old ((w.alloc (.cells #[.slice a l.length c, .int .i64 last, .int .i64 armed, .int .i64 point, .bool want, .int .i64 left, .int .i64 pat] 24)).alloc (.cells #[.int .i64 kind, .int .i64 no, .int .i64 pt, .bool wt] 39)) (.cells #[.slice none 0 0, .int .i64 0, .int .i64 0, .int .i64 0, .bool false, .int .i64 0, .int .i64 0] 24) (lt_heap (alloc_new (w.alloc (.cells #[.slice a l.length c, .int .i64 last, .int .i64 armed, .int .i64 point, .bool want, .int .i64 left, .int .i64 pat] 24)) (.cells #[.int .i64 kind, .int .i64 no, .int .i64 pt, .bool wt] 39)))).trans (alloc_new (w.alloc (.cells #[.slice a l.length c, .int .i64 last, .int .i64 armed, .int .i64 point, .bool want, .int .i64 left, .int .i64 pat] 24)) (.cells #[.int .i64 kind, .int .i64 no, .int .i64 pt, .bool wt] 39))
  have hqA := alloc_new ((w.alloc (.cells #[.slice a l.length c, .int .i64 last, .int .i64 armed, .int .i64 point, .bool want, .int .i64 left, .int .i64 pat] 24)).alloc (.cells #[.int .i64 kind, .int .i64 no, .int .i64 pt, .bool wt] 39)) (.cells #[.slice none 0 0, .int .i64 0, .int .i64 0, .int .i64 0, .bool false, .int .i64 0, .int .i64 0] 24)
  have hb1 := ((below_al w (.cells #[.slice a l.length c, .int .i64 last, .int .i64 armed, .int .i64 point, .bool want, .int .i64 left, .int .i64 pat] 24)).alloc (below_al w (.cells #[.slice a l.length c, .int .i64 last, .int .i64 armed, .int .i64 point, .bool want, .int .i64 left, .int .i64 pat] 24)).size (.cells #[.int .i64 kind, .int .i64 no, .int .i64 pt, .bool wt] 39)).alloc ((below_al w (.cells #[.slice a l.length c, .int .i64 last, .int .i64 armed, .int .i64 point, .bool want, .int .i64 left, .int .i64 pat] 24)).alloc (below_al w (.cells #[.slice a l.length c, .int .i64 last, .int .i64 armed, .int .i64 point, .bool want, .int .i64 left, .int .i64 pat] 24)).size (.cells #[.int .i64 kind, .int .i64 no, .int .i64 pt, .bool wt] 39)).size (.cells #[.slice none 0 0, .int .i64 0, .int .i64 0, .int .i64 0, .bool false, .int .i64 0, .int .i64 0] 24)
  rw [show (w.alloc (.cells #[.slice a l.length c, .int .i64 last, .int .i64 armed, .int .i64 point, .bool want, .int .i64 left, .int .i64 pat] 24)).heap.size = w.heap.size + 1 from by simp only [World.size_alloc]] at hqZ
  rw [show ((w.alloc (.cells #[.slice a l.length c, .int .i64 last, .int .i64 armed, .int .i64 point, .bool want, .int .i64 left, .int .i64 pat] 24)).alloc (.cells #[.int .i64 kind, .int .i64 no, .int .i64 pt, .bool wt] 39)).heap.size = w.heap.size + 1 + 1 from by simp only [World.size_alloc]] at hqA
  obtain ⟨w1, hw1⟩ : ∃ x, x = (((w.alloc (.cells #[.slice a l.length c, .int .i64 last, .int .i64 armed, .int .i64 point, .bool want, .int .i64 left, .int .i64 pat] 24)).alloc (.cells #[.int .i64 kind, .int .i64 no, .int .i64 pt, .bool wt] 39)).alloc (.cells #[.slice none 0 0, .int .i64 0, .int .i64 0, .int .i64 0, .bool false, .int .i64 0, .int .i64 0] 24)) := ⟨_, rfl⟩
  rw [← hw1] at hqY hqZ hqA hb1 ⊢
  obtain ⟨Y, hnY⟩ : ∃ x, x = w.heap.size := ⟨_, rfl⟩
  obtain ⟨Z, hnZ⟩ : ∃ x, x = w.heap.size + 1 := ⟨_, rfl⟩
  obtain ⟨A, hnA⟩ : ∃ x, x = w.heap.size + 1 + 1 := ⟨_, rfl⟩
  have HNE : Hid (w.heap.size ≤ Y ∧ w.heap.size ≤ Z ∧ w.heap.size ≤ A ∧ Y ≠ Z ∧ Y ≠ A ∧ Z ≠ A) := ⟨by omega, by omega, by omega, by omega, by omega, by omega⟩
  rw [← hnY] at hqY
  rw [← hnZ] at hqZ
  rw [← hnA] at hqA
  rw [show (Value.pointer (some { block := w.heap.size, off := 0 })) = Value.pointer (some { block := Y, off := 0 }) by rw [hnY], show (Value.pointer (some { block := w.heap.size + 1, off := 0 })) = Value.pointer (some { block := Z, off := 0 }) by rw [hnZ], show (Value.pointer (some { block := w.heap.size + 1 + 1, off := 0 })) = Value.pointer (some { block := A, off := 0 }) by rw [hnA]]
  have HQY := hide' hqY
  have HQZ := hide' hqZ
  have HQA := hide' hqA
  have HB1 := hide' hb1
  clear hqY hqZ hqA hb1 hw1 hnY hnZ hnA
  obtain ⟨c0, c1, c2, c3, c4, c5, c6⟩ := cellsP7 HQY.out
  go_wp2_with fail
  refine (HM.out w1).mono ?_
  rintro e w2 ⟨rfl, hb2⟩
  have HB2 : Hid (Below w.heap.size w w2) := HB1.out.trans (hb2.mono HB1.out.size)
  have HY2 := hide' ((hb2.block Y (lt_heap HQY.out)).trans HQY.out)
  have HZ2 := hide' ((hb2.block Z (lt_heap HQZ.out)).trans HQZ.out)
  have HA2 := hide' ((hb2.block A (lt_heap HQA.out)).trans HQA.out)
  clear hb2 HB1 HQY HQZ HQA HM
  clear c0 c1 c2 c3 c4 c5 c6
  obtain ⟨c0, c1, c2, c3, c4, c5, c6⟩ := cellsP7 HY2.out
  go_wp2_with fail
  refine (HW.out w2 HB2.out).mono ?_
  rintro e w3 ⟨K, a1, d1, rfl, hK, hsK, ho, hb3⟩
  have HB3 : Hid (Below w.heap.size w w3) := HB2.out.trans (hb3.mono HB2.out.size)
  have HZ3 := hide' ((hb3.block Z (lt_heap HZ2.out)).trans HZ2.out)
  have HA3 := hide' ((hb3.block A (lt_heap HA2.out)).trans HA2.out)
  have HO3 := hide' ho
  have HK3 := hide' hK
  have HAB : Hid (A < w2.heap.size ∧ Z < w2.heap.size ∧ w2.heap.size ≤ K ∧ w.heap.size ≤ w2.heap.size ∧ w2.heap.size ≤ w3.heap.size) := ⟨lt_heap HA2.out, lt_heap HZ2.out, hsK, HB2.out.size, hb3.size⟩
  obtain ⟨B, hBB⟩ : ∃ b, b = w2.heap.size := ⟨_, rfl⟩
  rw [← hBB] at HAB HO3
  clear hBB hK hsK ho hb3 HB2 HA2 HY2 HZ2 HW
  clear c0 c1 c2 c3 c4 c5 c6
  obtain ⟨m0, m1, m2, m3⟩ := cellsP4 HZ3.out
  have HD := hide' (does_no K kind w3 h1 h3)
  clear h1 h3
  go_wp2_with fail
  refine HD.out.mono ?_
  rintro e w4 ⟨rfl, rfl⟩
  clear HD m0 m1 m2 m3
  obtain ⟨k0, k1, k2, k3, k4, k5, k6⟩ := cellsP7 HK3.out
  obtain ⟨b0, b1, b2, b3, b4, b5, b6⟩ := cellsP7 HA3.out
  obtain ⟨e0, e1, e2, e3, e4, e5, e6⟩ := frozenP7 HA3.out
  have HP := hide' (HZ.out w4 A HA3.out ⟨last, armed, point, want, left, pat⟩ (.slice a1 l.length d1))
  try simp only at HP
  have HOF := hide' (own_mono (own_keep HO3.out (but_keep HP.out.2 HA3.out) (by decide)) (Nat.zero_le _))
  have HBP := hide' (HP.out.2.below (Nat.le_refl A) (Nat.le_of_lt (lt_heap HA3.out)))
  have HBF := hide' (HB3.out.trans (HP.out.2.below HNE.out.2.2.1 HB3.out.size))
  clear HZ HO3 HB3
  go_wp2
  refine bodyPost_ret (results_cell_row2 rfl _ _ A 24 _ (0, 0) _ rfl HP.out.1 Try.underlying24 rfl (by kernel_rfl)) rfl ?_
  exact ⟨a1, d1, _, rfl, HOF.out, msgs_none _, HBF.out⟩
set_option maxRecDepth 100000 in
set_option maxHeartbeats 4000000 in
theorem Hear_3 (S : StM) (m : MsM) (l : List Bool) (n c : Nat) (a : Option Addr) (w : World) (hr : RowAt w (.slice a n c) n 1 (l.map Value.bool)) (hn : n ≤ 2000000) (l1 : List Bool) (T : StM) (rs : List MsM) (code : Int) (hR : mayS n S = true ∧ (m.kind = 1 ∨ m.kind = 3) ∧ ¬ (0 ≤ m.no ∧ m.no ≤ 1000000000) ∧ l1 = l ∧ T = S ∧ rs = [] ∧ code = 4) : Calls Try.prog 52 #[.agg (S.cells (.slice a n c)), .agg m.cells] w (HearO l1 T rs code w) := by
  have hln : l.length = n := by have h := hr.1; simpa using h
  subst hln
  have HR := hide' hR
  have HM := hide' (fun w' => stationMayBe_any S l.length c a w' (by omega))
  have HZ := hide' (fun (x : World) (A : Nat) (h : x.heap[A]? = some (.cells #[.slice none 0 0, .int .i64 0, .int .i64 0, .int .i64 0, .bool false, .int .i64 0, .int .i64 0] 24 (0, 0))) => put7 (S0 := StM.nought) h)
  have HW := hide' (fun w' (hb : Below w.heap.size w w') => atWork_any S l l.length c a w' (hr.below hb (Nat.le_refl _)) hn)
  have HI := hide' (within_any m.no 0 1000000000)
  obtain ⟨h0, h1, h3, hl, hT, rfl, rfl⟩ := HR.out
  obtain rfl := hl.symm
  obtain rfl := hT.symm
  rw [h0] at HM
  clear hR HR h0 hr
  obtain ⟨last, armed, point, want, left, pat⟩ := S
  obtain ⟨kind, no, pt, wt⟩ := m
  unfold HearO
  unfold StM.cells at HM HZ HW ⊢
  unfold MsM.cells
  simp only at HM HZ HW HI h1 h3 ⊢
  rw [show (decide (0 ≤ no) && decide (no ≤ 1000000000)) = false by simp; omega] at HI
  have HK13 := hide' h1
  clear h1 h3
  go_enter Try.func52, Try.ntmps52
  go_upto_region 1 with fail
  have hqY := (alloc_old ((w.alloc (.cells #[.slice a l.length c, .int .i64 last, .int .i64 armed, .int .i64 point, .bool want, .int .i64 left, .int .i64 pat] 24)).alloc (.cells #[.int .i64 kind, .int .i64 no, .int .i64 pt, .bool wt] 39)) (.cells #[.slice none 0 0, .int .i64 0, .int .i64 0, .int .i64 0, .bool false, .int .i64 0, .int .i64 0] 24) (lt_heap ((alloc_old (w.alloc (.cells #[.slice a l.length c, .int .i64 last, .int .i64 armed, .int .i64 point, .bool want, .int .i64 left, .int .i64 pat] 24)) (.cells #[.int .i64 kind, .int .i64 no, .int .i64 pt, .bool wt] 39) (lt_heap (alloc_new w (.cells #[.slice a l.length c, .int .i64 last, .int .i64 armed, .int .i64 point, .bool want, .int .i64 left, .int .i64 pat] 24)))).trans (alloc_new w (.cells #[.slice a l.length c, .int .i64 last, .int .i64 armed, .int .i64 point, .bool want, .int .i64 left, .int .i64 pat] 24))))).trans ((alloc_old (w.alloc (.cells #[.slice a l.length c, .int .i64 last, .int .i64 armed, .int .i64 point, .bool want, .int .i64 left, .int .i64 pat] 24)) (.cells #[.int .i64 kind, .int .i64 no, .int .i64 pt, .bool wt] 39) (lt_heap (alloc_new w (.cells #[.slice a l.length c, .int .i64 last, .int .i64 armed, .int .i64 point, .bool want, .int .i64 left, .int .i64 pat] 24)))).trans (alloc_new w (.cells #[.slice a l.length c, .int .i64 last, .int .i64 armed, .int .i64 point, .bool want, .int .i64 left, .int .i64 pat] 24)))
  have hqZ := (alloc_old ((w.alloc (.cells #[.slice a l.length c, .int .i64 last, .int .i64 armed, .int .i64 point, .bool want, .int .i64 left, .int .i64 pat] 24)).alloc (.cells #[.int .i64 kind, .int .i64 no, .int .i64 pt, .bool wt] 39)) (.cells #[.slice none 0 0, .int .i64 0, .int .i64 0, .int .i64 0, .bool false, .int .i64 0, .int .i64 0] 24) (lt_heap (alloc_new (w.alloc (.cells #[.slice a l.length c, .int .i64 last, .int .i64 armed, .int .i64 point, .bool want, .int .i64 left, .int .i64 pat] 24)) (.cells #[.int .i64 kind, .int .i64 no, .int .i64 pt, .bool wt] 39)))).trans (alloc_new (w.alloc (.cells #[.slice a l.length c, .int .i64 last, .int .i64 armed, .int .i64 point, .bool want, .int .i64 left, .int .i64 pat] 24)) (.cells #[.int .i64 kind, .int .i64 no, .int .i64 pt, .bool wt] 39))
  have hqA := alloc_new ((w.alloc (.cells #[.slice a l.length c, .int .i64 last, .int .i64 armed, .int .i64 point, .bool want, .int .i64 left, .int .i64 pat] 24)).alloc (.cells #[.int .i64 kind, .int .i64 no, .int .i64 pt, .bool wt] 39)) (.cells #[.slice none 0 0, .int .i64 0, .int .i64 0, .int .i64 0, .bool false, .int .i64 0, .int .i64 0] 24)
  have hb1 := ((below_al w (.cells #[.slice a l.length c, .int .i64 last, .int .i64 armed, .int .i64 point, .bool want, .int .i64 left, .int .i64 pat] 24)).alloc (below_al w (.cells #[.slice a l.length c, .int .i64 last, .int .i64 armed, .int .i64 point, .bool want, .int .i64 left, .int .i64 pat] 24)).size (.cells #[.int .i64 kind, .int .i64 no, .int .i64 pt, .bool wt] 39)).alloc ((below_al w (.cells #[.slice a l.length c, .int .i64 last, .int .i64 armed, .int .i64 point, .bool want, .int .i64 left, .int .i64 pat] 24)).alloc (below_al w (.cells #[.slice a l.length c, .int .i64 last, .int .i64 armed, .int .i64 point, .bool want, .int .i64 left, .int .i64 pat] 24)).size (.cells #[.int .i64 kind, .int .i64 no, .int .i64 pt, .bool wt] 39)).size (.cells #[.slice none 0 0, .int .i64 0, .int .i64 0, .int .i64 0, .bool false, .int .i64 0, .int .i64 0] 24)
  rw [show (w.alloc (.cells #[.slice a l.length c, .int .i64 last, .int .i64 armed, .int .i64 point, .bool want, .int .i64 left, .int .i64 pat] 24)).heap.size = w.heap.size + 1 from by simp only [World.size_alloc]] at hqZ
  rw [show ((w.alloc (.cells #[.slice a l.length c, .int .i64 last, .int .i64 armed, .int .i64 point, .bool want, .int .i64 left, .int .i64 pat] 24)).alloc (.cells #[.int .i64 kind, .int .i64 no, .int .i64 pt, .bool wt] 39)).heap.size = w.heap.size + 1 + 1 from by simp only [World.size_alloc]] at hqA
  obtain ⟨w1, hw1⟩ : ∃ x, x = (((w.alloc (.cells #[.slice a l.length c, .int .i64 last, .int .i64 armed, .int .i64 point, .bool want, .int .i64 left, .int .i64 pat] 24)).alloc (.cells #[.int .i64 kind, .int .i64 no, .int .i64 pt, .bool wt] 39)).alloc (.cells #[.slice none 0 0, .int .i64 0, .int .i64 0, .int .i64 0, .bool false, .int .i64 0, .int .i64 0] 24)) := ⟨_, rfl⟩
  rw [← hw1] at hqY hqZ hqA hb1 ⊢
  obtain ⟨Y, hnY⟩ : ∃ x, x = w.heap.size := ⟨_, rfl⟩
  obtain ⟨Z, hnZ⟩ : ∃ x, x = w.heap.size + 1 := ⟨_, rfl⟩
  obtain ⟨A, hnA⟩ : ∃ x, x = w.heap.size + 1 + 1 := ⟨_, rfl⟩
  have HNE : Hid (w.heap.size ≤ Y ∧ w.heap.size ≤ Z ∧ w.heap.size ≤ A ∧ Y ≠ Z ∧ Y ≠ A ∧ Z ≠ A) := ⟨by omega, by omega, by omega, by omega, by omega, by omega⟩
  rw [← hnY] at hqY
  rw [← hnZ] at hqZ
  rw [← hnA] at hqA
  rw [show (Value.pointer (some { block := w.heap.size, off := 0 })) = Value.pointer (some { block := Y, off := 0 }) by rw [hnY], show (Value.pointer (some { block := w.heap.size + 1, off := 0 })) = Value.pointer (some { block := Z, off := 0 }) by rw [hnZ], show (Value.pointer (some { block := w.heap.size + 1 + 1, off := 0 })) = Value.pointer (some { block := A, off := 0 }) by rw [hnA]]
  have HQY := hide' hqY
  have HQZ := hide' hqZ
  have HQA := hide' hqA
  have HB1 := hide' hb1
  clear hqY hqZ hqA hb1 hw1 hnY hnZ hnA
  obtain ⟨c0, c1, c2, c3, c4, c5, c6⟩ := cellsP7 HQY.out
  go_wp2_with fail
  refine (HM.out w1).mono ?_
  rintro e w2 ⟨rfl, hb2⟩
  have HB2 : Hid (Below w.heap.size w w2) := HB1.out.trans (hb2.mono HB1.out.size)
  have HY2 := hide' ((hb2.block Y (lt_heap HQY.out)).trans HQY.out)
  have HZ2 := hide' ((hb2.block Z (lt_heap HQZ.out)).trans HQZ.out)
  have HA2 := hide' ((hb2.block A (lt_heap HQA.out)).trans HQA.out)
  clear hb2 HB1 HQY HQZ HQA HM
  clear c0 c1 c2 c3 c4 c5 c6
  obtain ⟨c0, c1, c2, c3, c4, c5, c6⟩ := cellsP7 HY2.out
  go_wp2_with fail
  refine (HW.out w2 HB2.out).mono ?_
  rintro e w3 ⟨K, a1, d1, rfl, hK, hsK, ho, hb3⟩
  have HB3 : Hid (Below w.heap.size w w3) := HB2.out.trans (hb3.mono HB2.out.size)
  have HZ3 := hide' ((hb3.block Z (lt_heap HZ2.out)).trans HZ2.out)
  have HA3 := hide' ((hb3.block A (lt_heap HA2.out)).trans HA2.out)
  have HO3 := hide' ho
  have HK3 := hide' hK
  have HAB : Hid (A < w2.heap.size ∧ Z < w2.heap.size ∧ w2.heap.size ≤ K ∧ w.heap.size ≤ w2.heap.size ∧ w2.heap.size ≤ w3.heap.size) := ⟨lt_heap HA2.out, lt_heap HZ2.out, hsK, HB2.out.size, hb3.size⟩
  obtain ⟨B, hBB⟩ : ∃ b, b = w2.heap.size := ⟨_, rfl⟩
  rw [← hBB] at HAB HO3
  clear hBB hK hsK ho hb3 HB2 HA2 HY2 HZ2 HW
  clear c0 c1 c2 c3 c4 c5 c6
  obtain ⟨m0, m1, m2, m3⟩ := cellsP4 HZ3.out
  rcases HK13.out with rfl | rfl
  · clear HK13
    go_wp2_with fail
    refine (does_1 K w3).mono ?_
    rintro e w4 ⟨rfl, rfl⟩
    go_wp2_with fail
    refine (HI.out _).mono ?_
    rintro e w5 ⟨rfl, rfl⟩
    clear HI m0 m1 m2 m3
    obtain ⟨k0, k1, k2, k3, k4, k5, k6⟩ := cellsP7 HK3.out
    obtain ⟨b0, b1, b2, b3, b4, b5, b6⟩ := cellsP7 HA3.out
    obtain ⟨e0, e1, e2, e3, e4, e5, e6⟩ := frozenP7 HA3.out
    have HP := hide' (HZ.out w5 A HA3.out ⟨last, armed, point, want, left, pat⟩ (.slice a1 l.length d1))
    try simp only at HP
    have HOF := hide' (own_mono (own_keep HO3.out (but_keep HP.out.2 HA3.out) (by decide)) (Nat.zero_le _))
    have HBP := hide' (HP.out.2.below (Nat.le_refl A) (Nat.le_of_lt (lt_heap HA3.out)))
    have HBF := hide' (HB3.out.trans (HP.out.2.below HNE.out.2.2.1 HB3.out.size))
    clear HZ HO3 HB3
    go_wp2
    refine bodyPost_ret (results_cell_row2 rfl _ _ A 24 _ (0, 0) _ rfl HP.out.1 Try.underlying24 rfl (by kernel_rfl)) rfl ?_
    exact ⟨a1, d1, _, rfl, HOF.out, msgs_none _, HBF.out⟩
  · clear HK13
    go_wp2_with fail
    refine (does_3 K w3).mono ?_
    rintro e w4 ⟨rfl, rfl⟩
    go_wp2_with fail
    refine (HI.out _).mono ?_
    rintro e w5 ⟨rfl, rfl⟩
    clear HI m0 m1 m2 m3
    obtain ⟨k0, k1, k2, k3, k4, k5, k6⟩ := cellsP7 HK3.out
    obtain ⟨b0, b1, b2, b3, b4, b5, b6⟩ := cellsP7 HA3.out
    obtain ⟨e0, e1, e2, e3, e4, e5, e6⟩ := frozenP7 HA3.out
    have HP := hide' (HZ.out w5 A HA3.out ⟨last, armed, point, want, left, pat⟩ (.slice a1 l.length d1))
    try simp only at HP
    have HOF := hide' (own_mono (own_keep HO3.out (but_keep HP.out.2 HA3.out) (by decide)) (Nat.zero_le _))
    have HBP := hide' (HP.out.2.below (Nat.le_refl A) (Nat.le_of_lt (lt_heap HA3.out)))
    have HBF := hide' (HB3.out.trans (HP.out.2.below HNE.out.2.2.1 HB3.out.size))
    clear HZ HO3 HB3
    go_wp2
    refine bodyPost_ret (results_cell_row2 rfl _ _ A 24 _ (0, 0) _ rfl HP.out.1 Try.underlying24 rfl (by kernel_rfl)) rfl ?_
    exact ⟨a1, d1, _, rfl, HOF.out, msgs_none _, HBF.out⟩
end Go.Proofs.Ytjhmendiefojoam
