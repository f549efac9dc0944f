/- A station hears a message, in the document's answer: what leaves it as it is. -/
import Derived.Test.YtjhmendiefojoalS16
namespace Go.Proofs.Ytjhmendiefojoal
open Go.RowKit Go.Shelf

set_option maxRecDepth 100000 in
set_option maxHeartbeats 4000000 in
theorem Msg_e1 (S : StM) (m : MsM) (l : List Bool) (n c : Nat) (a : Option Addr) (w : World) (hr : RowAt w (.slice a n c) n 1 (l.map Value.bool)) (hn : n ≤ 2000000) (l1 : List Bool) (T : StM) (rs : List MsM) (code : Int) (hR : mayS n S = true ∧ m.kind = 1 ∧ (0 ≤ m.no ∧ m.no ≤ 1000000000) ∧ m.no < S.last ∧ l1 = l ∧ T = S ∧ rs = replyL m 0 ∧ code = 0) : Calls Try.prog 16 #[.agg (S.cells (.slice a n c)), .agg m.cells] w (HearO l1 T rs code w) := by
  have hln : l.length = n := by have h := hr.1; simpa using h
  subst hln
  have HR := hide' hR
  have HM := hide' (fun w' => StationMay_any S l.length c a w' (by omega))
  have HZ := hide' (fun (x : World) (A : Nat) (h : x.heap[A]? = some (.cells #[.slice none 0 0, .int .i64 0, .int .i64 0, .int .i64 0, .bool false, .int .i64 0, .int .i64 0] 30 (0, 0))) => put7 (S0 := StM.nought) h)
  have HW := hide' (fun w' (hb : Below w.heap.size w w') => StationOf_any S l l.length c a w' (hr.below hb (Nat.le_refl _)) hn)
  have HI := hide' (inBounds_any m.no 0 1000000000)
  obtain ⟨h0, hk, hno, hx, hl, hT, hrs, rfl⟩ := HR.out
  obtain rfl := hl.symm
  obtain rfl := hT.symm
  rw [show replyL m 0 = [] from if_pos rfl] at hrs
  subst hrs
  rw [h0] at HM
  rw [show (decide (0 ≤ m.no) && decide (m.no ≤ 1000000000)) = true by simp; omega] at HI
  clear hR HR h0 hr hno
  obtain ⟨last, armed, point, want, left, pat⟩ := S
  obtain ⟨kind, no, pt, wt⟩ := m
  simp only at hk hx
  obtain rfl := hk
  unfold HearO
  unfold StM.cells at HM HZ HW ⊢
  unfold MsM.cells
  simp only at HM HZ HW HI ⊢
  have HX := hide' hx
  clear hx hn
  go_enter Try.func16, Try.ntmps16
  go_upto_region 1 with fail
  have hqY := (alloc_old ((w.alloc (.cells #[.slice a l.length c, .int .i64 last, .int .i64 armed, .int .i64 point, .bool want, .int .i64 left, .int .i64 pat] 30)).alloc (.cells #[.int .i64 1, .int .i64 no, .int .i64 pt, .bool wt] 41)) (.cells #[.slice none 0 0, .int .i64 0, .int .i64 0, .int .i64 0, .bool false, .int .i64 0, .int .i64 0] 30) (lt_heap ((alloc_old (w.alloc (.cells #[.slice a l.length c, .int .i64 last, .int .i64 armed, .int .i64 point, .bool want, .int .i64 left, .int .i64 pat] 30)) (.cells #[.int .i64 1, .int .i64 no, .int .i64 pt, .bool wt] 41) (lt_heap (alloc_new w (.cells #[.slice a l.length c, .int .i64 last, .int .i64 armed, .int .i64 point, .bool want, .int .i64 left, .int .i64 pat] 30)))).trans (alloc_new w (.cells #[.slice a l.length c, .int .i64 last, .int .i64 armed, .int .i64 point, .bool want, .int .i64 left, .int .i64 pat] 30))))).trans ((alloc_old (w.alloc (.cells #[.slice a l.length c, .int .i64 last, .int .i64 armed, .int .i64 point, .bool want, .int .i64 left, .int .i64 pat] 30)) (.cells #[.int .i64 1, .int .i64 no, .int .i64 pt, .bool wt] 41) (lt_heap (alloc_new w (.cells #[.slice a l.length c, .int .i64 last, .int .i64 armed, .int .i64 point, .bool want, .int .i64 left, .int .i64 pat] 30)))).trans (alloc_new w (.cells #[.slice a l.length c, .int .i64 last, .int .i64 armed, .int .i64 point, .bool want, .int .i64 left, .int .i64 pat] 30)))
  have hqZ := (alloc_old ((w.alloc (.cells #[.slice a l.length c, .int .i64 last, .int .i64 armed, .int .i64 point, .bool want, .int .i64 left, .int .i64 pat] 30)).alloc (.cells #[.int .i64 1, .int .i64 no, .int .i64 pt, .bool wt] 41)) (.cells #[.slice none 0 0, .int .i64 0, .int .i64 0, .int .i64 0, .bool false, .int .i64 0, .int .i64 0] 30) (lt_heap (alloc_new (w.alloc (.cells #[.slice a l.length c, .int .i64 last, .int .i64 armed, .int .i64 point, .bool want, .int .i64 left, .int .i64 pat] 30)) (.cells #[.int .i64 1, .int .i64 no, .int .i64 pt, .bool wt] 41)))).trans (alloc_new (w.alloc (.cells #[.slice a l.length c, .int .i64 last, .int .i64 armed, .int .i64 point, .bool want, .int .i64 left, .int .i64 pat] 30)) (.cells #[.int .i64 1, .int .i64 no, .int .i64 pt, .bool wt] 41))
  have hqA := alloc_new ((w.alloc (.cells #[.slice a l.length c, .int .i64 last, .int .i64 armed, .int .i64 point, .bool want, .int .i64 left, .int .i64 pat] 30)).alloc (.cells #[.int .i64 1, .int .i64 no, .int .i64 pt, .bool wt] 41)) (.cells #[.slice none 0 0, .int .i64 0, .int .i64 0, .int .i64 0, .bool false, .int .i64 0, .int .i64 0] 30)
  have hb1 := ((below_al w (.cells #[.slice a l.length c, .int .i64 last, .int .i64 armed, .int .i64 point, .bool want, .int .i64 left, .int .i64 pat] 30)).alloc (below_al w (.cells #[.slice a l.length c, .int .i64 last, .int .i64 armed, .int .i64 point, .bool want, .int .i64 left, .int .i64 pat] 30)).size (.cells #[.int .i64 1, .int .i64 no, .int .i64 pt, .bool wt] 41)).alloc ((below_al w (.cells #[.slice a l.length c, .int .i64 last, .int .i64 armed, .int .i64 point, .bool want, .int .i64 left, .int .i64 pat] 30)).alloc (below_al w (.cells #[.slice a l.length c, .int .i64 last, .int .i64 armed, .int .i64 point, .bool want, .int .i64 left, .int .i64 pat] 30)).size (.cells #[.int .i64 1, .int .i64 no, .int .i64 pt, .bool wt] 41)).size (.cells #[.slice none 0 0, .int .i64 0, .int .i64 0, .int .i64 0, .bool false, .int .i64 0, .int .i64 0] 30)
  rw [show (w.alloc (.cells #[.slice a l.length c, .int .i64 last, .int .i64 armed, .int .i64 point, .bool want, .int .i64 left, .int .i64 pat] 30)).heap.size = w.heap.size + 1 from by simp only [World.size_alloc]] at hqZ
  rw [show ((w.alloc (.cells #[.slice a l.length c, .int .i64 last, .int .i64 armed, .int .i64 point, .bool want, .int .i64 left, .int .i64 pat] 30)).alloc (.cells #[.int .i64 1, .int .i64 no, .int .i64 pt, .bool wt] 41)).heap.size = w.heap.size + 1 + 1 from by simp only [World.size_alloc]] at hqA
  obtain ⟨w1, hw1⟩ : ∃ x, x = (((w.alloc (.cells #[.slice a l.length c, .int .i64 last, .int .i64 armed, .int .i64 point, .bool want, .int .i64 left, .int .i64 pat] 30)).alloc (.cells #[.int .i64 1, .int .i64 no, .int .i64 pt, .bool wt] 41)).alloc (.cells #[.slice none 0 0, .int .i64 0, .int .i64 0, .int .i64 0, .bool false, .int .i64 0, .int .i64 0] 30)) := ⟨_, rfl⟩
  rw [← hw1] at hqY hqZ hqA hb1 ⊢
  obtain ⟨Y, hnY⟩ : ∃ x, x = w.heap.size := ⟨_, rfl⟩
  obtain ⟨Z, hnZ⟩ : ∃ x, x = w.heap.size + 1 := ⟨_, rfl⟩
  obtain ⟨A, hnA⟩ : ∃ x, x = w.heap.size + 1 + 1 := ⟨_, rfl⟩
  have HNE : Hid (w.heap.size ≤ Y ∧ w.heap.size ≤ Z ∧ w.heap.size ≤ A ∧ Y ≠ Z ∧ Y ≠ A ∧ Z ≠ A) := ⟨by omega, by omega, by omega, by omega, by omega, by omega⟩
  rw [← hnY] at hqY
  rw [← hnZ] at hqZ
  rw [← hnA] at hqA
  rw [show (Value.pointer (some { block := w.heap.size, off := 0 })) = Value.pointer (some { block := Y, off := 0 }) by rw [hnY], show (Value.pointer (some { block := w.heap.size + 1, off := 0 })) = Value.pointer (some { block := Z, off := 0 }) by rw [hnZ], show (Value.pointer (some { block := w.heap.size + 1 + 1, off := 0 })) = Value.pointer (some { block := A, off := 0 }) by rw [hnA]]
  have HQY := hide' hqY
  have HQZ := hide' hqZ
  have HQA := hide' hqA
  have HB1 := hide' hb1
  clear hqY hqZ hqA hb1 hw1 hnY hnZ hnA
  have c0 : w1.cell? ⟨Y, 0, none⟩ = some (.slice a l.length c) := (cells_at HQY.out 0).trans rfl
  have c1 : w1.cell? ⟨Y, 1, none⟩ = some (.int .i64 last) := (cells_at HQY.out 1).trans rfl
  have c2 : w1.cell? ⟨Y, 2, none⟩ = some (.int .i64 armed) := (cells_at HQY.out 2).trans rfl
  have c3 : w1.cell? ⟨Y, 3, none⟩ = some (.int .i64 point) := (cells_at HQY.out 3).trans rfl
  have c4 : w1.cell? ⟨Y, 4, none⟩ = some (.bool want) := (cells_at HQY.out 4).trans rfl
  have c5 : w1.cell? ⟨Y, 5, none⟩ = some (.int .i64 left) := (cells_at HQY.out 5).trans rfl
  have c6 : w1.cell? ⟨Y, 6, none⟩ = some (.int .i64 pat) := (cells_at HQY.out 6).trans rfl
  go_wp2_with fail
  refine (HM.out w1).mono ?_
  rintro e w2 ⟨rfl, hb2⟩
  have HB2 : Hid (Below w.heap.size w w2) := HB1.out.trans (hb2.mono HB1.out.size)
  have HY2 := hide' ((hb2.block Y (lt_heap HQY.out)).trans HQY.out)
  have HZ2 := hide' ((hb2.block Z (lt_heap HQZ.out)).trans HQZ.out)
  have HA2 := hide' ((hb2.block A (lt_heap HQA.out)).trans HQA.out)
  clear hb2 HB1 HQY HQZ HQA HM
  clear c0 c1 c2 c3 c4 c5 c6
  have c0 : w2.cell? ⟨Y, 0, none⟩ = some (.slice a l.length c) := (cells_at HY2.out 0).trans rfl
  have c1 : w2.cell? ⟨Y, 1, none⟩ = some (.int .i64 last) := (cells_at HY2.out 1).trans rfl
  have c2 : w2.cell? ⟨Y, 2, none⟩ = some (.int .i64 armed) := (cells_at HY2.out 2).trans rfl
  have c3 : w2.cell? ⟨Y, 3, none⟩ = some (.int .i64 point) := (cells_at HY2.out 3).trans rfl
  have c4 : w2.cell? ⟨Y, 4, none⟩ = some (.bool want) := (cells_at HY2.out 4).trans rfl
  have c5 : w2.cell? ⟨Y, 5, none⟩ = some (.int .i64 left) := (cells_at HY2.out 5).trans rfl
  have c6 : w2.cell? ⟨Y, 6, none⟩ = some (.int .i64 pat) := (cells_at HY2.out 6).trans rfl
  go_wp2_with fail
  refine (HW.out w2 HB2.out).mono ?_
  rintro e w3 ⟨a1, d1, rfl, ho, hb3⟩
  have HB3 : Hid (Below w.heap.size w w3) := HB2.out.trans (hb3.mono HB2.out.size)
  have HZ3 := hide' ((hb3.block Z (lt_heap HZ2.out)).trans HZ2.out)
  have HA3 := hide' ((hb3.block A (lt_heap HA2.out)).trans HA2.out)
  have HO3 := hide' (own_mono ho HB2.out.size)
  clear ho hb3 HB2 HA2 HY2 HZ2 HW
  clear c0 c1 c2 c3 c4 c5 c6
  go_upto_region 4 with fail
  have HC4 := hide' (alloc_new w3 (.cells #[.slice a1 l.length d1, .int .i64 last, .int .i64 armed, .int .i64 point, .bool want, .int .i64 left, .int .i64 pat] 30))
  have HB4 := hide' (HB3.out.alloc HB3.out.size (.cells #[.slice a1 l.length d1, .int .i64 last, .int .i64 armed, .int .i64 point, .bool want, .int .i64 left, .int .i64 pat] 30))
  have HA4 := hide' ((alloc_old w3 (.cells #[.slice a1 l.length d1, .int .i64 last, .int .i64 armed, .int .i64 point, .bool want, .int .i64 left, .int .i64 pat] 30) (lt_heap HA3.out)).trans HA3.out)
  have HZ4 := hide' ((alloc_old w3 (.cells #[.slice a1 l.length d1, .int .i64 last, .int .i64 armed, .int .i64 point, .bool want, .int .i64 left, .int .i64 pat] 30) (lt_heap HZ3.out)).trans HZ3.out)
  have HO4 := hide' (own_below HO3.out (below_al w3 (.cells #[.slice a1 l.length d1, .int .i64 last, .int .i64 armed, .int .i64 point, .bool want, .int .i64 left, .int .i64 pat] 30)) (Nat.le_refl _))
  have HCA : Hid (w3.heap.size ≠ A) := by have := lt_heap HA3.out; show _ ≠ _; omega
  have HCW : Hid (w.heap.size ≤ w3.heap.size) := HB3.out.size
  obtain ⟨w4, hw4⟩ : ∃ x, x = w3.alloc (.cells #[.slice a1 l.length d1, .int .i64 last, .int .i64 armed, .int .i64 point, .bool want, .int .i64 left, .int .i64 pat] 30) := ⟨_, rfl⟩
  obtain ⟨C, hC⟩ : ∃ x, x = w3.heap.size := ⟨_, rfl⟩
  rw [← hw4] at HC4 HB4 HA4 HZ4 HO4 ⊢
  rw [← hC] at HC4 HCA HCW
  rw [show (Value.pointer (some { block := w3.heap.size, off := 0 })) = Value.pointer (some { block := C, off := 0 }) by rw [hC]]
  clear hw4 hC HB3 HA3 HZ3 HO3
  have m0 : w4.cell? ⟨Z, 0, none⟩ = some (.int .i64 1) := (cells_at HZ4.out 0).trans rfl
  have m1 : w4.cell? ⟨Z, 1, none⟩ = some (.int .i64 no) := (cells_at HZ4.out 1).trans rfl
  have m2 : w4.cell? ⟨Z, 2, none⟩ = some (.int .i64 pt) := (cells_at HZ4.out 2).trans rfl
  have m3 : w4.cell? ⟨Z, 3, none⟩ = some (.bool wt) := (cells_at HZ4.out 3).trans rfl
  go_wp2_with fail
  refine (HI.out _).mono ?_
  rintro e w9 ⟨rfl, rfl⟩
  clear HI
  go_upto_region 9 with fail
  have HM5 := hide' (alloc_new w9 (.cells #[.int .i64 1, .int .i64 no, .int .i64 pt, .bool wt] 41))
  have HB5 := hide' (HB4.out.alloc HB4.out.size (.cells #[.int .i64 1, .int .i64 no, .int .i64 pt, .bool wt] 41))
  have HA5 := hide' ((alloc_old w9 (.cells #[.int .i64 1, .int .i64 no, .int .i64 pt, .bool wt] 41) (lt_heap HA4.out)).trans HA4.out)
  have HZ5 := hide' ((alloc_old w9 (.cells #[.int .i64 1, .int .i64 no, .int .i64 pt, .bool wt] 41) (lt_heap HZ4.out)).trans HZ4.out)
  have HC5 := hide' ((alloc_old w9 (.cells #[.int .i64 1, .int .i64 no, .int .i64 pt, .bool wt] 41) (lt_heap HC4.out)).trans HC4.out)
  have HO5 := hide' (own_below HO4.out (below_al w9 (.cells #[.int .i64 1, .int .i64 no, .int .i64 pt, .bool wt] 41)) (Nat.le_refl _))
  have HMW : Hid (w.heap.size ≤ w9.heap.size ∧ C ≠ w9.heap.size ∧ A ≠ w9.heap.size ∧ Z ≠ w9.heap.size) := ⟨HB4.out.size, by have := lt_heap HC4.out; omega, by have := lt_heap HA4.out; omega, by have := lt_heap HZ4.out; omega⟩
  obtain ⟨w5, hw5⟩ : ∃ x, x = w9.alloc (.cells #[.int .i64 1, .int .i64 no, .int .i64 pt, .bool wt] 41) := ⟨_, rfl⟩
  obtain ⟨M, hM⟩ : ∃ x, x = w9.heap.size := ⟨_, rfl⟩
  rw [← hw5] at HM5 HB5 HA5 HZ5 HC5 HO5 ⊢
  rw [← hM] at HM5 HMW
  rw [show (Value.pointer (some { block := w9.heap.size, off := 0 })) = Value.pointer (some { block := M, off := 0 }) by rw [hM]]
  clear hw5 hM HB4 HA4 HZ4 HC4 HO4
  clear m0 m1 m2 m3
  have hx := HX.out
  clear HX HZ
  have m0 : w5.cell? ⟨Z, 0, none⟩ = some (.int .i64 1) := (cells_at HZ5.out 0).trans rfl
  have m1 : w5.cell? ⟨Z, 1, none⟩ = some (.int .i64 no) := (cells_at HZ5.out 1).trans rfl
  have m2 : w5.cell? ⟨Z, 2, none⟩ = some (.int .i64 pt) := (cells_at HZ5.out 2).trans rfl
  have m3 : w5.cell? ⟨Z, 3, none⟩ = some (.bool wt) := (cells_at HZ5.out 3).trans rfl
  have c0 : w5.cell? ⟨C, 0, none⟩ = some (.slice a1 l.length d1) := (cells_at HC5.out 0).trans rfl
  have c1 : w5.cell? ⟨C, 1, none⟩ = some (.int .i64 last) := (cells_at HC5.out 1).trans rfl
  have c2 : w5.cell? ⟨C, 2, none⟩ = some (.int .i64 armed) := (cells_at HC5.out 2).trans rfl
  have c3 : w5.cell? ⟨C, 3, none⟩ = some (.int .i64 point) := (cells_at HC5.out 3).trans rfl
  have c4 : w5.cell? ⟨C, 4, none⟩ = some (.bool want) := (cells_at HC5.out 4).trans rfl
  have c5 : w5.cell? ⟨C, 5, none⟩ = some (.int .i64 left) := (cells_at HC5.out 5).trans rfl
  have c6 : w5.cell? ⟨C, 6, none⟩ = some (.int .i64 pat) := (cells_at HC5.out 6).trans rfl
  have hne : no ≠ last := by omega
  have b0 : w5.cell? ⟨A, 0, none⟩ = some (.slice none 0 0) := (cells_at HA5.out 0).trans rfl
  have b1 : w5.cell? ⟨A, 1, none⟩ = some (.int .i64 0) := (cells_at HA5.out 1).trans rfl
  have b2 : w5.cell? ⟨A, 2, none⟩ = some (.int .i64 0) := (cells_at HA5.out 2).trans rfl
  have b3 : w5.cell? ⟨A, 3, none⟩ = some (.int .i64 0) := (cells_at HA5.out 3).trans rfl
  have b4 : w5.cell? ⟨A, 4, none⟩ = some (.bool false) := (cells_at HA5.out 4).trans rfl
  have b5 : w5.cell? ⟨A, 5, none⟩ = some (.int .i64 0) := (cells_at HA5.out 5).trans rfl
  have b6 : w5.cell? ⟨A, 6, none⟩ = some (.int .i64 0) := (cells_at HA5.out 6).trans rfl
  have e0 : w5.frozen? ⟨A, 0, none⟩ = false := frozen_no HA5.out _
  have e1 : w5.frozen? ⟨A, 1, none⟩ = false := frozen_no HA5.out _
  have e2 : w5.frozen? ⟨A, 2, none⟩ = false := frozen_no HA5.out _
  have e3 : w5.frozen? ⟨A, 3, none⟩ = false := frozen_no HA5.out _
  have e4 : w5.frozen? ⟨A, 4, none⟩ = false := frozen_no HA5.out _
  have e5 : w5.frozen? ⟨A, 5, none⟩ = false := frozen_no HA5.out _
  have e6 : w5.frozen? ⟨A, 6, none⟩ = false := frozen_no HA5.out _
  have HP := hide' (put7 (S0 := StM.nought) HA5.out ⟨last, armed, point, want, left, pat⟩ (.slice a1 l.length d1))
  simp only at HP
  have HOF := hide' (own_mono (own_keep HO5.out (but_keep HP.out.2 HA5.out) (by decide)) (Nat.zero_le _))
  have HBF := hide' (HB5.out.trans (HP.out.2.below HNE.out.2.2.1 HB5.out.size))
  clear HO5 HB5 HM5 HZ5 HC5
  go_wp2
  refine bodyPost_ret (results_cell_row2 rfl _ _ A 30 _ (0, 0) _ rfl HP.out.1 Try.underlying30 rfl (by kernel_rfl)) rfl ?_
  exact ⟨a1, d1, _, rfl, HOF.out, msgs_none _, HBF.out⟩
set_option maxRecDepth 100000 in
set_option maxHeartbeats 4000000 in
theorem Msg_e3 (S : StM) (m : MsM) (l : List Bool) (n c : Nat) (a : Option Addr) (w : World) (hr : RowAt w (.slice a n c) n 1 (l.map Value.bool)) (hn : n ≤ 2000000) (l1 : List Bool) (T : StM) (rs : List MsM) (code : Int) (hR : mayS n S = true ∧ m.kind = 3 ∧ (0 ≤ m.no ∧ m.no ≤ 1000000000) ∧ m.no < S.last ∧ l1 = l ∧ T = S ∧ rs = replyL m 0 ∧ code = 0) : Calls Try.prog 16 #[.agg (S.cells (.slice a n c)), .agg m.cells] w (HearO l1 T rs code w) := by
  have hln : l.length = n := by have h := hr.1; simpa using h
  subst hln
  have HR := hide' hR
  have HM := hide' (fun w' => StationMay_any S l.length c a w' (by omega))
  have HZ := hide' (fun (x : World) (A : Nat) (h : x.heap[A]? = some (.cells #[.slice none 0 0, .int .i64 0, .int .i64 0, .int .i64 0, .bool false, .int .i64 0, .int .i64 0] 30 (0, 0))) => put7 (S0 := StM.nought) h)
  have HW := hide' (fun w' (hb : Below w.heap.size w w') => StationOf_any S l l.length c a w' (hr.below hb (Nat.le_refl _)) hn)
  have HI := hide' (inBounds_any m.no 0 1000000000)
  obtain ⟨h0, hk, hno, hx, hl, hT, hrs, rfl⟩ := HR.out
  obtain rfl := hl.symm
  obtain rfl := hT.symm
  rw [show replyL m 0 = [] from if_pos rfl] at hrs
  subst hrs
  rw [h0] at HM
  rw [show (decide (0 ≤ m.no) && decide (m.no ≤ 1000000000)) = true by simp; omega] at HI
  clear hR HR h0 hr hno
  obtain ⟨last, armed, point, want, left, pat⟩ := S
  obtain ⟨kind, no, pt, wt⟩ := m
  simp only at hk hx
  obtain rfl := hk
  unfold HearO
  unfold StM.cells at HM HZ HW ⊢
  unfold MsM.cells
  simp only at HM HZ HW HI ⊢
  have HX := hide' hx
  clear hx hn
  go_enter Try.func16, Try.ntmps16
  go_upto_region 1 with fail
  have hqY := (alloc_old ((w.alloc (.cells #[.slice a l.length c, .int .i64 last, .int .i64 armed, .int .i64 point, .bool want, .int .i64 left, .int .i64 pat] 30)).alloc (.cells #[.int .i64 3, .int .i64 no, .int .i64 pt, .bool wt] 41)) (.cells #[.slice none 0 0, .int .i64 0, .int .i64 0, .int .i64 0, .bool false, .int .i64 0, .int .i64 0] 30) (lt_heap ((alloc_old (w.alloc (.cells #[.slice a l.length c, .int .i64 last, .int .i64 armed, .int .i64 point, .bool want, .int .i64 left, .int .i64 pat] 30)) (.cells #[.int .i64 3, .int .i64 no, .int .i64 pt, .bool wt] 41) (lt_heap (alloc_new w (.cells #[.slice a l.length c, .int .i64 last, .int .i64 armed, .int .i64 point, .bool want, .int .i64 left, .int .i64 pat] 30)))).trans (alloc_new w (.cells #[.slice a l.length c, .int .i64 last, .int .i64 armed, .int .i64 point, .bool want, .int .i64 left, .int .i64 pat] 30))))).trans ((alloc_old (w.alloc (.cells #[.slice a l.length c, .int .i64 last, .int .i64 armed, .int .i64 point, .bool want, .int .i64 left, .int .i64 pat] 30)) (.cells #[.int .i64 3, .int .i64 no, .int .i64 pt, .bool wt] 41) (lt_heap (alloc_new w (.cells #[.slice a l.length c, .int .i64 last, .int .i64 armed, .int .i64 point, .bool want, .int .i64 left, .int .i64 pat] 30)))).trans (alloc_new w (.cells #[.slice a l.length c, .int .i64 last, .int .i64 armed, .int .i64 point, .bool want, .int .i64 left, .int .i64 pat] 30)))
  have hqZ := (alloc_old ((w.alloc (.cells #[.slice a l.length c, .int .i64 last, .int .i64 armed, .int .i64 point, .bool want, .int .i64 left, .int .i64 pat] 30)).alloc (.cells #[.int .i64 3, .int .i64 no, .int .i64 pt, .bool wt] 41)) (.cells #[.slice none 0 0, .int .i64 0, .int .i64 0, .int .i64 0, .bool false, .int .i64 0, .int .i64 0] 30) (lt_heap (alloc_new (w.alloc (.cells #[.slice a l.length c, .int .i64 last, .int .i64 armed, .int .i64 point, .bool want, .int .i64 left, .int .i64 pat] 30)) (.cells #[.int .i64 3, .int .i64 no, .int .i64 pt, .bool wt] 41)))).trans (alloc_new (w.alloc (.cells #[.slice a l.length c, .int .i64 last, .int .i64 armed, .int .i64 point, .bool want, .int .i64 left, .int .i64 pat] 30)) (.cells #[.int .i64 3, .int .i64 no, .int .i64 pt, .bool wt] 41))
  have hqA := alloc_new ((w.alloc (.cells #[.slice a l.length c, .int .i64 last, .int .i64 armed, .int .i64 point, .bool want, .int .i64 left, .int .i64 pat] 30)).alloc (.cells #[.int .i64 3, .int .i64 no, .int .i64 pt, .bool wt] 41)) (.cells #[.slice none 0 0, .int .i64 0, .int .i64 0, .int .i64 0, .bool false, .int .i64 0, .int .i64 0] 30)
  have hb1 := ((below_al w (.cells #[.slice a l.length c, .int .i64 last, .int .i64 armed, .int .i64 point, .bool want, .int .i64 left, .int .i64 pat] 30)).alloc (below_al w (.cells #[.slice a l.length c, .int .i64 last, .int .i64 armed, .int .i64 point, .bool want, .int .i64 left, .int .i64 pat] 30)).size (.cells #[.int .i64 3, .int .i64 no, .int .i64 pt, .bool wt] 41)).alloc ((below_al w (.cells #[.slice a l.length c, .int .i64 last, .int .i64 armed, .int .i64 point, .bool want, .int .i64 left, .int .i64 pat] 30)).alloc (below_al w (.cells #[.slice a l.length c, .int .i64 last, .int .i64 armed, .int .i64 point, .bool want, .int .i64 left, .int .i64 pat] 30)).size (.cells #[.int .i64 3, .int .i64 no, .int .i64 pt, .bool wt] 41)).size (.cells #[.slice none 0 0, .int .i64 0, .int .i64 0, .int .i64 0, .bool false, .int .i64 0, .int .i64 0] 30)
  rw [show (w.alloc (.cells #[.slice a l.length c, .int .i64 last, .int .i64 armed, .int .i64 point, .bool want, .int .i64 left, .int .i64 pat] 30)).heap.size = w.heap.size + 1 from by simp only [World.size_alloc]] at hqZ
  rw [show ((w.alloc (.cells #[.slice a l.length c, .int .i64 last, .int .i64 armed, .int .i64 point, .bool want, .int .i64 left, .int .i64 pat] 30)).alloc (.cells #[.int .i64 3, .int .i64 no, .int .i64 pt, .bool wt] 41)).heap.size = w.heap.size + 1 + 1 from by simp only [World.size_alloc]] at hqA
  obtain ⟨w1, hw1⟩ : ∃ x, x = (((w.alloc (.cells #[.slice a l.length c, .int .i64 last, .int .i64 armed, .int .i64 point, .bool want, .int .i64 left, .int .i64 pat] 30)).alloc (.cells #[.int .i64 3, .int .i64 no, .int .i64 pt, .bool wt] 41)).alloc (.cells #[.slice none 0 0, .int .i64 0, .int .i64 0, .int .i64 0, .bool false, .int .i64 0, .int .i64 0] 30)) := ⟨_, rfl⟩
  rw [← hw1] at hqY hqZ hqA hb1 ⊢
  obtain ⟨Y, hnY⟩ : ∃ x, x = w.heap.size := ⟨_, rfl⟩
  obtain ⟨Z, hnZ⟩ : ∃ x, x = w.heap.size + 1 := ⟨_, rfl⟩
  obtain ⟨A, hnA⟩ : ∃ x, x = w.heap.size + 1 + 1 := ⟨_, rfl⟩
  have HNE : Hid (w.heap.size ≤ Y ∧ w.heap.size ≤ Z ∧ w.heap.size ≤ A ∧ Y ≠ Z ∧ Y ≠ A ∧ Z ≠ A) := ⟨by omega, by omega, by omega, by omega, by omega, by omega⟩
  rw [← hnY] at hqY
  rw [← hnZ] at hqZ
  rw [← hnA] at hqA
  rw [show (Value.pointer (some { block := w.heap.size, off := 0 })) = Value.pointer (some { block := Y, off := 0 }) by rw [hnY], show (Value.pointer (some { block := w.heap.size + 1, off := 0 })) = Value.pointer (some { block := Z, off := 0 }) by rw [hnZ], show (Value.pointer (some { block := w.heap.size + 1 + 1, off := 0 })) = Value.pointer (some { block := A, off := 0 }) by rw [hnA]]
  have HQY := hide' hqY
  have HQZ := hide' hqZ
  have HQA := hide' hqA
  have HB1 := hide' hb1
  clear hqY hqZ hqA hb1 hw1 hnY hnZ hnA
  have c0 : w1.cell? ⟨Y, 0, none⟩ = some (.slice a l.length c) := (cells_at HQY.out 0).trans rfl
  have c1 : w1.cell? ⟨Y, 1, none⟩ = some (.int .i64 last) := (cells_at HQY.out 1).trans rfl
  have c2 : w1.cell? ⟨Y, 2, none⟩ = some (.int .i64 armed) := (cells_at HQY.out 2).trans rfl
  have c3 : w1.cell? ⟨Y, 3, none⟩ = some (.int .i64 point) := (cells_at HQY.out 3).trans rfl
  have c4 : w1.cell? ⟨Y, 4, none⟩ = some (.bool want) := (cells_at HQY.out 4).trans rfl
  have c5 : w1.cell? ⟨Y, 5, none⟩ = some (.int .i64 left) := (cells_at HQY.out 5).trans rfl
  have c6 : w1.cell? ⟨Y, 6, none⟩ = some (.int .i64 pat) := (cells_at HQY.out 6).trans rfl
  go_wp2_with fail
  refine (HM.out w1).mono ?_
  rintro e w2 ⟨rfl, hb2⟩
  have HB2 : Hid (Below w.heap.size w w2) := HB1.out.trans (hb2.mono HB1.out.size)
  have HY2 := hide' ((hb2.block Y (lt_heap HQY.out)).trans HQY.out)
  have HZ2 := hide' ((hb2.block Z (lt_heap HQZ.out)).trans HQZ.out)
  have HA2 := hide' ((hb2.block A (lt_heap HQA.out)).trans HQA.out)
  clear hb2 HB1 HQY HQZ HQA HM
  clear c0 c1 c2 c3 c4 c5 c6
  have c0 : w2.cell? ⟨Y, 0, none⟩ = some (.slice a l.length c) := (cells_at HY2.out 0).trans rfl
  have c1 : w2.cell? ⟨Y, 1, none⟩ = some (.int .i64 last) := (cells_at HY2.out 1).trans rfl
  have c2 : w2.cell? ⟨Y, 2, none⟩ = some (.int .i64 armed) := (cells_at HY2.out 2).trans rfl
  have c3 : w2.cell? ⟨Y, 3, none⟩ = some (.int .i64 point) := (cells_at HY2.out 3).trans rfl
  have c4 : w2.cell? ⟨Y, 4, none⟩ = some (.bool want) := (cells_at HY2.out 4).trans rfl
  have c5 : w2.cell? ⟨Y, 5, none⟩ = some (.int .i64 left) := (cells_at HY2.out 5).trans rfl
  have c6 : w2.cell? ⟨Y, 6, none⟩ = some (.int .i64 pat) := (cells_at HY2.out 6).trans rfl
  go_wp2_with fail
  refine (HW.out w2 HB2.out).mono ?_
  rintro e w3 ⟨a1, d1, rfl, ho, hb3⟩
  have HB3 : Hid (Below w.heap.size w w3) := HB2.out.trans (hb3.mono HB2.out.size)
  have HZ3 := hide' ((hb3.block Z (lt_heap HZ2.out)).trans HZ2.out)
  have HA3 := hide' ((hb3.block A (lt_heap HA2.out)).trans HA2.out)
  have HO3 := hide' (own_mono ho HB2.out.size)
  clear ho hb3 HB2 HA2 HY2 HZ2 HW
  clear c0 c1 c2 c3 c4 c5 c6
  go_upto_region 4 with fail
  have HC4 := hide' (alloc_new w3 (.cells #[.slice a1 l.length d1, .int .i64 last, .int .i64 armed, .int .i64 point, .bool want, .int .i64 left, .int .i64 pat] 30))
  have HB4 := hide' (HB3.out.alloc HB3.out.size (.cells #[.slice a1 l.length d1, .int .i64 last, .int .i64 armed, .int .i64 point, .bool want, .int .i64 left, .int .i64 pat] 30))
  have HA4 := hide' ((alloc_old w3 (.cells #[.slice a1 l.length d1, .int .i64 last, .int .i64 armed, .int .i64 point, .bool want, .int .i64 left, .int .i64 pat] 30) (lt_heap HA3.out)).trans HA3.out)
  have HZ4 := hide' ((alloc_old w3 (.cells #[.slice a1 l.length d1, .int .i64 last, .int .i64 armed, .int .i64 point, .bool want, .int .i64 left, .int .i64 pat] 30) (lt_heap HZ3.out)).trans HZ3.out)
  have HO4 := hide' (own_below HO3.out (below_al w3 (.cells #[.slice a1 l.length d1, .int .i64 last, .int .i64 armed, .int .i64 point, .bool want, .int .i64 left, .int .i64 pat] 30)) (Nat.le_refl _))
  have HCA : Hid (w3.heap.size ≠ A) := by have := lt_heap HA3.out; show _ ≠ _; omega
  have HCW : Hid (w.heap.size ≤ w3.heap.size) := HB3.out.size
  obtain ⟨w4, hw4⟩ : ∃ x, x = w3.alloc (.cells #[.slice a1 l.length d1, .int .i64 last, .int .i64 armed, .int .i64 point, .bool want, .int .i64 left, .int .i64 pat] 30) := ⟨_, rfl⟩
  obtain ⟨C, hC⟩ : ∃ x, x = w3.heap.size := ⟨_, rfl⟩
  rw [← hw4] at HC4 HB4 HA4 HZ4 HO4 ⊢
  rw [← hC] at HC4 HCA HCW
  rw [show (Value.pointer (some { block := w3.heap.size, off := 0 })) = Value.pointer (some { block := C, off := 0 }) by rw [hC]]
  clear hw4 hC HB3 HA3 HZ3 HO3
  have m0 : w4.cell? ⟨Z, 0, none⟩ = some (.int .i64 3) := (cells_at HZ4.out 0).trans rfl
  have m1 : w4.cell? ⟨Z, 1, none⟩ = some (.int .i64 no) := (cells_at HZ4.out 1).trans rfl
  have m2 : w4.cell? ⟨Z, 2, none⟩ = some (.int .i64 pt) := (cells_at HZ4.out 2).trans rfl
  have m3 : w4.cell? ⟨Z, 3, none⟩ = some (.bool wt) := (cells_at HZ4.out 3).trans rfl
  go_wp2_with fail
  refine (HI.out _).mono ?_
  rintro e w9 ⟨rfl, rfl⟩
  clear HI
  go_upto_region 9 with fail
  have HM5 := hide' (alloc_new w9 (.cells #[.int .i64 3, .int .i64 no, .int .i64 pt, .bool wt] 41))
  have HB5 := hide' (HB4.out.alloc HB4.out.size (.cells #[.int .i64 3, .int .i64 no, .int .i64 pt, .bool wt] 41))
  have HA5 := hide' ((alloc_old w9 (.cells #[.int .i64 3, .int .i64 no, .int .i64 pt, .bool wt] 41) (lt_heap HA4.out)).trans HA4.out)
  have HZ5 := hide' ((alloc_old w9 (.cells #[.int .i64 3, .int .i64 no, .int .i64 pt, .bool wt] 41) (lt_heap HZ4.out)).trans HZ4.out)
  have HC5 := hide' ((alloc_old w9 (.cells #[.int .i64 3, .int .i64 no, .int .i64 pt, .bool wt] 41) (lt_heap HC4.out)).trans HC4.out)
  have HO5 := hide' (own_below HO4.out (below_al w9 (.cells #[.int .i64 3, .int .i64 no, .int .i64 pt, .bool wt] 41)) (Nat.le_refl _))
  have HMW : Hid (w.heap.size ≤ w9.heap.size ∧ C ≠ w9.heap.size ∧ A ≠ w9.heap.size ∧ Z ≠ w9.heap.size) := ⟨HB4.out.size, by have := lt_heap HC4.out; omega, by have := lt_heap HA4.out; omega, by have := lt_heap HZ4.out; omega⟩
  obtain ⟨w5, hw5⟩ : ∃ x, x = w9.alloc (.cells #[.int .i64 3, .int .i64 no, .int .i64 pt, .bool wt] 41) := ⟨_, rfl⟩
  obtain ⟨M, hM⟩ : ∃ x, x = w9.heap.size := ⟨_, rfl⟩
  rw [← hw5] at HM5 HB5 HA5 HZ5 HC5 HO5 ⊢
  rw [← hM] at HM5 HMW
  rw [show (Value.pointer (some { block := w9.heap.size, off := 0 })) = Value.pointer (some { block := M, off := 0 }) by rw [hM]]
  clear hw5 hM HB4 HA4 HZ4 HC4 HO4
  clear m0 m1 m2 m3
  have hx := HX.out
  clear HX HZ
  have m0 : w5.cell? ⟨Z, 0, none⟩ = some (.int .i64 3) := (cells_at HZ5.out 0).trans rfl
  have m1 : w5.cell? ⟨Z, 1, none⟩ = some (.int .i64 no) := (cells_at HZ5.out 1).trans rfl
  have m2 : w5.cell? ⟨Z, 2, none⟩ = some (.int .i64 pt) := (cells_at HZ5.out 2).trans rfl
  have m3 : w5.cell? ⟨Z, 3, none⟩ = some (.bool wt) := (cells_at HZ5.out 3).trans rfl
  have c0 : w5.cell? ⟨C, 0, none⟩ = some (.slice a1 l.length d1) := (cells_at HC5.out 0).trans rfl
  have c1 : w5.cell? ⟨C, 1, none⟩ = some (.int .i64 last) := (cells_at HC5.out 1).trans rfl
  have c2 : w5.cell? ⟨C, 2, none⟩ = some (.int .i64 armed) := (cells_at HC5.out 2).trans rfl
  have c3 : w5.cell? ⟨C, 3, none⟩ = some (.int .i64 point) := (cells_at HC5.out 3).trans rfl
  have c4 : w5.cell? ⟨C, 4, none⟩ = some (.bool want) := (cells_at HC5.out 4).trans rfl
  have c5 : w5.cell? ⟨C, 5, none⟩ = some (.int .i64 left) := (cells_at HC5.out 5).trans rfl
  have c6 : w5.cell? ⟨C, 6, none⟩ = some (.int .i64 pat) := (cells_at HC5.out 6).trans rfl
  have hne : no ≠ last := by omega
  have b0 : w5.cell? ⟨A, 0, none⟩ = some (.slice none 0 0) := (cells_at HA5.out 0).trans rfl
  have b1 : w5.cell? ⟨A, 1, none⟩ = some (.int .i64 0) := (cells_at HA5.out 1).trans rfl
  have b2 : w5.cell? ⟨A, 2, none⟩ = some (.int .i64 0) := (cells_at HA5.out 2).trans rfl
  have b3 : w5.cell? ⟨A, 3, none⟩ = some (.int .i64 0) := (cells_at HA5.out 3).trans rfl
  have b4 : w5.cell? ⟨A, 4, none⟩ = some (.bool false) := (cells_at HA5.out 4).trans rfl
  have b5 : w5.cell? ⟨A, 5, none⟩ = some (.int .i64 0) := (cells_at HA5.out 5).trans rfl
  have b6 : w5.cell? ⟨A, 6, none⟩ = some (.int .i64 0) := (cells_at HA5.out 6).trans rfl
  have e0 : w5.frozen? ⟨A, 0, none⟩ = false := frozen_no HA5.out _
  have e1 : w5.frozen? ⟨A, 1, none⟩ = false := frozen_no HA5.out _
  have e2 : w5.frozen? ⟨A, 2, none⟩ = false := frozen_no HA5.out _
  have e3 : w5.frozen? ⟨A, 3, none⟩ = false := frozen_no HA5.out _
  have e4 : w5.frozen? ⟨A, 4, none⟩ = false := frozen_no HA5.out _
  have e5 : w5.frozen? ⟨A, 5, none⟩ = false := frozen_no HA5.out _
  have e6 : w5.frozen? ⟨A, 6, none⟩ = false := frozen_no HA5.out _
  have HP := hide' (put7 (S0 := StM.nought) HA5.out ⟨last, armed, point, want, left, pat⟩ (.slice a1 l.length d1))
  simp only at HP
  have HOF := hide' (own_mono (own_keep HO5.out (but_keep HP.out.2 HA5.out) (by decide)) (Nat.zero_le _))
  have HBF := hide' (HB5.out.trans (HP.out.2.below HNE.out.2.2.1 HB5.out.size))
  clear HO5 HB5 HM5 HZ5 HC5
  go_wp2
  refine bodyPost_ret (results_cell_row2 rfl _ _ A 30 _ (0, 0) _ rfl HP.out.1 Try.underlying30 rfl (by kernel_rfl)) rfl ?_
  exact ⟨a1, d1, _, rfl, HOF.out, msgs_none _, HBF.out⟩
set_option maxRecDepth 100000 in
set_option maxHeartbeats 4000000 in
theorem Msg_f (S : StM) (m : MsM) (l : List Bool) (n c : Nat) (a : Option Addr) (w : World) (hr : RowAt w (.slice a n c) n 1 (l.map Value.bool)) (hn : n ≤ 2000000) (l1 : List Bool) (T : StM) (rs : List MsM) (code : Int) (hR : mayS n S = true ∧ m.kind = 1 ∧ (0 ≤ m.no ∧ m.no ≤ 1000000000) ∧ (S.last < m.no ∧ m.no < S.armed) ∧ l1 = l ∧ T = S ∧ rs = replyL m 0 ∧ code = 0) : Calls Try.prog 16 #[.agg (S.cells (.slice a n c)), .agg m.cells] w (HearO l1 T rs code w) := by
  have hln : l.length = n := by have h := hr.1; simpa using h
  subst hln
  have HR := hide' hR
  have HM := hide' (fun w' => StationMay_any S l.length c a w' (by omega))
  have HZ := hide' (fun (x : World) (A : Nat) (h : x.heap[A]? = some (.cells #[.slice none 0 0, .int .i64 0, .int .i64 0, .int .i64 0, .bool false, .int .i64 0, .int .i64 0] 30 (0, 0))) => put7 (S0 := StM.nought) h)
  have HW := hide' (fun w' (hb : Below w.heap.size w w') => StationOf_any S l l.length c a w' (hr.below hb (Nat.le_refl _)) hn)
  have HI := hide' (inBounds_any m.no 0 1000000000)
  obtain ⟨h0, hk, hno, hx, hl, hT, hrs, rfl⟩ := HR.out
  obtain rfl := hl.symm
  obtain rfl := hT.symm
  rw [show replyL m 0 = [] from if_pos rfl] at hrs
  subst hrs
  rw [h0] at HM
  rw [show (decide (0 ≤ m.no) && decide (m.no ≤ 1000000000)) = true by simp; omega] at HI
  clear hR HR h0 hr hno
  obtain ⟨last, armed, point, want, left, pat⟩ := S
  obtain ⟨kind, no, pt, wt⟩ := m
  simp only at hk hx
  obtain rfl := hk
  unfold HearO
  unfold StM.cells at HM HZ HW ⊢
  unfold MsM.cells
  simp only at HM HZ HW HI ⊢
  have HX := hide' hx
  clear hx hn
  go_enter Try.func16, Try.ntmps16
  go_upto_region 1 with fail
  have hqY := (alloc_old ((w.alloc (.cells #[.slice a l.length c, .int .i64 last, .int .i64 armed, .int .i64 point, .bool want, .int .i64 left, .int .i64 pat] 30)).alloc (.cells #[.int .i64 1, .int .i64 no, .int .i64 pt, .bool wt] 41)) (.cells #[.slice none 0 0, .int .i64 0, .int .i64 0, .int .i64 0, .bool false, .int .i64 0, .int .i64 0] 30) (lt_heap ((alloc_old (w.alloc (.cells #[.slice a l.length c, .int .i64 last, .int .i64 armed, .int .i64 point, .bool want, .int .i64 left, .int .i64 pat] 30)) (.cells #[.int .i64 1, .int .i64 no, .int .i64 pt, .bool wt] 41) (lt_heap (alloc_new w (.cells #[.slice a l.length c, .int .i64 last, .int .i64 armed, .int .i64 point, .bool want, .int .i64 left, .int .i64 pat] 30)))).trans (alloc_new w (.cells #[.slice a l.length c, .int .i64 last, .int .i64 armed, .int .i64 point, .bool want, .int .i64 left, .int .i64 pat] 30))))).trans ((alloc_old (w.alloc (.cells #[.slice a l.length c, .int .i64 last, .int .i64 armed, .int .i64 point, .bool want, .int .i64 left, .int .i64 pat] 30)) (.cells #[.int .i64 1, .int .i64 no, .int .i64 pt, .bool wt] 41) (lt_heap (alloc_new w (.cells #[.slice a l.length c, .int .i64 last, .int .i64 armed, .int .i64 point, .bool want, .int .i64 left, .int .i64 pat] 30)))).trans (alloc_new w (.cells #[.slice a l.length c, .int .i64 last, .int .i64 armed, .int .i64 point, .bool want, .int .i64 left, .int .i64 pat] 30)))
  have hqZ := (alloc_old ((w.alloc (.cells #[.slice a l.length c, .int .i64 last, .int .i64 armed, .int .i64 point, .bool want, .int .i64 left, .int .i64 pat] 30)).alloc (.cells #[.int .i64 1, .int .i64 no, .int .i64 pt, .bool wt] 41)) (.cells #[.slice none 0 0, .int .i64 0, .int .i64 0, .int .i64 0, .bool false, .int .i64 0, .int .i64 0] 30) (lt_heap (alloc_new (w.alloc (.cells #[.slice a l.length c, .int .i64 last, .int .i64 armed, .int .i64 point, .bool want, .int .i64 left, .int .i64 pat] 30)) (.cells #[.int .i64 1, .int .i64 no, .int .i64 pt, .bool wt] 41)))).trans (alloc_new (w.alloc (.cells #[.slice a l.length c, .int .i64 last, .int .i64 armed, .int .i64 point, .bool want, .int .i64 left, .int .i64 pat] 30)) (.cells #[.int .i64 1, .int .i64 no, .int .i64 pt, .bool wt] 41))
  have hqA := alloc_new ((w.alloc (.cells #[.slice a l.length c, .int .i64 last, .int .i64 armed, .int .i64 point, .bool want, .int .i64 left, .int .i64 pat] 30)).alloc (.cells #[.int .i64 1, .int .i64 no, .int .i64 pt, .bool wt] 41)) (.cells #[.slice none 0 0, .int .i64 0, .int .i64 0, .int .i64 0, .bool false, .int .i64 0, .int .i64 0] 30)
  have hb1 := ((below_al w (.cells #[.slice a l.length c, .int .i64 last, .int .i64 armed, .int .i64 point, .bool want, .int .i64 left, .int .i64 pat] 30)).alloc (below_al w (.cells #[.slice a l.length c, .int .i64 last, .int .i64 armed, .int .i64 point, .bool want, .int .i64 left, .int .i64 pat] 30)).size (.cells #[.int .i64 1, .int .i64 no, .int .i64 pt, .bool wt] 41)).alloc ((below_al w (.cells #[.slice a l.length c, .int .i64 last, .int .i64 armed, .int .i64 point, .bool want, .int .i64 left, .int .i64 pat] 30)).alloc (below_al w (.cells #[.slice a l.length c, .int .i64 last, .int .i64 armed, .int .i64 point, .bool want, .int .i64 left, .int .i64 pat] 30)).size (.cells #[.int .i64 1, .int .i64 no, .int .i64 pt, .bool wt] 41)).size (.cells #[.slice none 0 0, .int .i64 0, .int .i64 0, .int .i64 0, .bool false, .int .i64 0, .int .i64 0] 30)
  rw [show (w.alloc (.cells #[.slice a l.length c, .int .i64 last, .int .i64 armed, .int .i64 point, .bool want, .int .i64 left, .int .i64 pat] 30)).heap.size = w.heap.size + 1 from by simp only [World.size_alloc]] at hqZ
  rw [show ((w.alloc (.cells #[.slice a l.length c, .int .i64 last, .int .i64 armed, .int .i64 point, .bool want, .int .i64 left, .int .i64 pat] 30)).alloc (.cells #[.int .i64 1, .int .i64 no, .int .i64 pt, .bool wt] 41)).heap.size = w.heap.size + 1 + 1 from by simp only [World.size_alloc]] at hqA
  obtain ⟨w1, hw1⟩ : ∃ x, x = (((w.alloc (.cells #[.slice a l.length c, .int .i64 last, .int .i64 armed, .int .i64 point, .bool want, .int .i64 left, .int .i64 pat] 30)).alloc (.cells #[.int .i64 1, .int .i64 no, .int .i64 pt, .bool wt] 41)).alloc (.cells #[.slice none 0 0, .int .i64 0, .int .i64 0, .int .i64 0, .bool false, .int .i64 0, .int .i64 0] 30)) := ⟨_, rfl⟩
  rw [← hw1] at hqY hqZ hqA hb1 ⊢
  obtain ⟨Y, hnY⟩ : ∃ x, x = w.heap.size := ⟨_, rfl⟩
  obtain ⟨Z, hnZ⟩ : ∃ x, x = w.heap.size + 1 := ⟨_, rfl⟩
  obtain ⟨A, hnA⟩ : ∃ x, x = w.heap.size + 1 + 1 := ⟨_, rfl⟩
  have HNE : Hid (w.heap.size ≤ Y ∧ w.heap.size ≤ Z ∧ w.heap.size ≤ A ∧ Y ≠ Z ∧ Y ≠ A ∧ Z ≠ A) := ⟨by omega, by omega, by omega, by omega, by omega, by omega⟩
  rw [← hnY] at hqY
  rw [← hnZ] at hqZ
  rw [← hnA] at hqA
  rw [show (Value.pointer (some { block := w.heap.size, off := 0 })) = Value.pointer (some { block := Y, off := 0 }) by rw [hnY], show (Value.pointer (some { block := w.heap.size + 1, off := 0 })) = Value.pointer (some { block := Z, off := 0 }) by rw [hnZ], show (Value.pointer (some { block := w.heap.size + 1 + 1, off := 0 })) = Value.pointer (some { block := A, off := 0 }) by rw [hnA]]
  have HQY := hide' hqY
  have HQZ := hide' hqZ
  have HQA := hide' hqA
  have HB1 := hide' hb1
  clear hqY hqZ hqA hb1 hw1 hnY hnZ hnA
  have c0 : w1.cell? ⟨Y, 0, none⟩ = some (.slice a l.length c) := (cells_at HQY.out 0).trans rfl
  have c1 : w1.cell? ⟨Y, 1, none⟩ = some (.int .i64 last) := (cells_at HQY.out 1).trans rfl
  have c2 : w1.cell? ⟨Y, 2, none⟩ = some (.int .i64 armed) := (cells_at HQY.out 2).trans rfl
  have c3 : w1.cell? ⟨Y, 3, none⟩ = some (.int .i64 point) := (cells_at HQY.out 3).trans rfl
  have c4 : w1.cell? ⟨Y, 4, none⟩ = some (.bool want) := (cells_at HQY.out 4).trans rfl
  have c5 : w1.cell? ⟨Y, 5, none⟩ = some (.int .i64 left) := (cells_at HQY.out 5).trans rfl
  have c6 : w1.cell? ⟨Y, 6, none⟩ = some (.int .i64 pat) := (cells_at HQY.out 6).trans rfl
  go_wp2_with fail
  refine (HM.out w1).mono ?_
  rintro e w2 ⟨rfl, hb2⟩
  have HB2 : Hid (Below w.heap.size w w2) := HB1.out.trans (hb2.mono HB1.out.size)
  have HY2 := hide' ((hb2.block Y (lt_heap HQY.out)).trans HQY.out)
  have HZ2 := hide' ((hb2.block Z (lt_heap HQZ.out)).trans HQZ.out)
  have HA2 := hide' ((hb2.block A (lt_heap HQA.out)).trans HQA.out)
  clear hb2 HB1 HQY HQZ HQA HM
  clear c0 c1 c2 c3 c4 c5 c6
  have c0 : w2.cell? ⟨Y, 0, none⟩ = some (.slice a l.length c) := (cells_at HY2.out 0).trans rfl
  have c1 : w2.cell? ⟨Y, 1, none⟩ = some (.int .i64 last) := (cells_at HY2.out 1).trans rfl
  have c2 : w2.cell? ⟨Y, 2, none⟩ = some (.int .i64 armed) := (cells_at HY2.out 2).trans rfl
  have c3 : w2.cell? ⟨Y, 3, none⟩ = some (.int .i64 point) := (cells_at HY2.out 3).trans rfl
  have c4 : w2.cell? ⟨Y, 4, none⟩ = some (.bool want) := (cells_at HY2.out 4).trans rfl
  have c5 : w2.cell? ⟨Y, 5, none⟩ = some (.int .i64 left) := (cells_at HY2.out 5).trans rfl
  have c6 : w2.cell? ⟨Y, 6, none⟩ = some (.int .i64 pat) := (cells_at HY2.out 6).trans rfl
  go_wp2_with fail
  refine (HW.out w2 HB2.out).mono ?_
  rintro e w3 ⟨a1, d1, rfl, ho, hb3⟩
  have HB3 : Hid (Below w.heap.size w w3) := HB2.out.trans (hb3.mono HB2.out.size)
  have HZ3 := hide' ((hb3.block Z (lt_heap HZ2.out)).trans HZ2.out)
  have HA3 := hide' ((hb3.block A (lt_heap HA2.out)).trans HA2.out)
  have HO3 := hide' (own_mono ho HB2.out.size)
  clear ho hb3 HB2 HA2 HY2 HZ2 HW
  clear c0 c1 c2 c3 c4 c5 c6
  go_upto_region 4 with fail
  have HC4 := hide' (alloc_new w3 (.cells #[.slice a1 l.length d1, .int .i64 last, .int .i64 armed, .int .i64 point, .bool want, .int .i64 left, .int .i64 pat] 30))
  have HB4 := hide' (HB3.out.alloc HB3.out.size (.cells #[.slice a1 l.length d1, .int .i64 last, .int .i64 armed, .int .i64 point, .bool want, .int .i64 left, .int .i64 pat] 30))
  have HA4 := hide' ((alloc_old w3 (.cells #[.slice a1 l.length d1, .int .i64 last, .int .i64 armed, .int .i64 point, .bool want, .int .i64 left, .int .i64 pat] 30) (lt_heap HA3.out)).trans HA3.out)
  have HZ4 := hide' ((alloc_old w3 (.cells #[.slice a1 l.length d1, .int .i64 last, .int .i64 armed, .int .i64 point, .bool want, .int .i64 left, .int .i64 pat] 30) (lt_heap HZ3.out)).trans HZ3.out)
  have HO4 := hide' (own_below HO3.out (below_al w3 (.cells #[.slice a1 l.length d1, .int .i64 last, .int .i64 armed, .int .i64 point, .bool want, .int .i64 left, .int .i64 pat] 30)) (Nat.le_refl _))
  have HCA : Hid (w3.heap.size ≠ A) := by have := lt_heap HA3.out; show _ ≠ _; omega
  have HCW : Hid (w.heap.size ≤ w3.heap.size) := HB3.out.size
  obtain ⟨w4, hw4⟩ : ∃ x, x = w3.alloc (.cells #[.slice a1 l.length d1, .int .i64 last, .int .i64 armed, .int .i64 point, .bool want, .int .i64 left, .int .i64 pat] 30) := ⟨_, rfl⟩
  obtain ⟨C, hC⟩ : ∃ x, x = w3.heap.size := ⟨_, rfl⟩
  rw [← hw4] at HC4 HB4 HA4 HZ4 HO4 ⊢
  rw [← hC] at HC4 HCA HCW
  rw [show (Value.pointer (some { block := w3.heap.size, off := 0 })) = Value.pointer (some { block := C, off := 0 }) by rw [hC]]
  clear hw4 hC HB3 HA3 HZ3 HO3
  have m0 : w4.cell? ⟨Z, 0, none⟩ = some (.int .i64 1) := (cells_at HZ4.out 0).trans rfl
  have m1 : w4.cell? ⟨Z, 1, none⟩ = some (.int .i64 no) := (cells_at HZ4.out 1).trans rfl
  have m2 : w4.cell? ⟨Z, 2, none⟩ = some (.int .i64 pt) := (cells_at HZ4.out 2).trans rfl
  have m3 : w4.cell? ⟨Z, 3, none⟩ = some (.bool wt) := (cells_at HZ4.out 3).trans rfl
  go_wp2_with fail
  refine (HI.out _).mono ?_
  rintro e w9 ⟨rfl, rfl⟩
  clear HI
  go_upto_region 9 with fail
  have HM5 := hide' (alloc_new w9 (.cells #[.int .i64 1, .int .i64 no, .int .i64 pt, .bool wt] 41))
  have HB5 := hide' (HB4.out.alloc HB4.out.size (.cells #[.int .i64 1, .int .i64 no, .int .i64 pt, .bool wt] 41))
  have HA5 := hide' ((alloc_old w9 (.cells #[.int .i64 1, .int .i64 no, .int .i64 pt, .bool wt] 41) (lt_heap HA4.out)).trans HA4.out)
  have HZ5 := hide' ((alloc_old w9 (.cells #[.int .i64 1, .int .i64 no, .int .i64 pt, .bool wt] 41) (lt_heap HZ4.out)).trans HZ4.out)
  have HC5 := hide' ((alloc_old w9 (.cells #[.int .i64 1, .int .i64 no, .int .i64 pt, .bool wt] 41) (lt_heap HC4.out)).trans HC4.out)
  have HO5 := hide' (own_below HO4.out (below_al w9 (.cells #[.int .i64 1, .int .i64 no, .int .i64 pt, .bool wt] 41)) (Nat.le_refl _))
  have HMW : Hid (w.heap.size ≤ w9.heap.size ∧ C ≠ w9.heap.size ∧ A ≠ w9.heap.size ∧ Z ≠ w9.heap.size) := ⟨HB4.out.size, by have := lt_heap HC4.out; omega, by have := lt_heap HA4.out; omega, by have := lt_heap HZ4.out; omega⟩
  obtain ⟨w5, hw5⟩ : ∃ x, x = w9.alloc (.cells #[.int .i64 1, .int .i64 no, .int .i64 pt, .bool wt] 41) := ⟨_, rfl⟩
  obtain ⟨M, hM⟩ : ∃ x, x = w9.heap.size := ⟨_, rfl⟩
  rw [← hw5] at HM5 HB5 HA5 HZ5 HC5 HO5 ⊢
  rw [← hM] at HM5 HMW
  rw [show (Value.pointer (some { block := w9.heap.size, off := 0 })) = Value.pointer (some { block := M, off := 0 }) by rw [hM]]
  clear hw5 hM HB4 HA4 HZ4 HC4 HO4
  clear m0 m1 m2 m3
  have hx := HX.out
  clear HX HZ
  have m0 : w5.cell? ⟨Z, 0, none⟩ = some (.int .i64 1) := (cells_at HZ5.out 0).trans rfl
  have m1 : w5.cell? ⟨Z, 1, none⟩ = some (.int .i64 no) := (cells_at HZ5.out 1).trans rfl
  have m2 : w5.cell? ⟨Z, 2, none⟩ = some (.int .i64 pt) := (cells_at HZ5.out 2).trans rfl
  have m3 : w5.cell? ⟨Z, 3, none⟩ = some (.bool wt) := (cells_at HZ5.out 3).trans rfl
  have c0 : w5.cell? ⟨C, 0, none⟩ = some (.slice a1 l.length d1) := (cells_at HC5.out 0).trans rfl
  have c1 : w5.cell? ⟨C, 1, none⟩ = some (.int .i64 last) := (cells_at HC5.out 1).trans rfl
  have c2 : w5.cell? ⟨C, 2, none⟩ = some (.int .i64 armed) := (cells_at HC5.out 2).trans rfl
  have c3 : w5.cell? ⟨C, 3, none⟩ = some (.int .i64 point) := (cells_at HC5.out 3).trans rfl
  have c4 : w5.cell? ⟨C, 4, none⟩ = some (.bool want) := (cells_at HC5.out 4).trans rfl
  have c5 : w5.cell? ⟨C, 5, none⟩ = some (.int .i64 left) := (cells_at HC5.out 5).trans rfl
  have c6 : w5.cell? ⟨C, 6, none⟩ = some (.int .i64 pat) := (cells_at HC5.out 6).trans rfl
  obtain ⟨hx1, hx2⟩ := hx
  have hne : no ≠ last := by omega
  have hnl : ¬ no < last := by omega
  have b0 : w5.cell? ⟨A, 0, none⟩ = some (.slice none 0 0) := (cells_at HA5.out 0).trans rfl
  have b1 : w5.cell? ⟨A, 1, none⟩ = some (.int .i64 0) := (cells_at HA5.out 1).trans rfl
  have b2 : w5.cell? ⟨A, 2, none⟩ = some (.int .i64 0) := (cells_at HA5.out 2).trans rfl
  have b3 : w5.cell? ⟨A, 3, none⟩ = some (.int .i64 0) := (cells_at HA5.out 3).trans rfl
  have b4 : w5.cell? ⟨A, 4, none⟩ = some (.bool false) := (cells_at HA5.out 4).trans rfl
  have b5 : w5.cell? ⟨A, 5, none⟩ = some (.int .i64 0) := (cells_at HA5.out 5).trans rfl
  have b6 : w5.cell? ⟨A, 6, none⟩ = some (.int .i64 0) := (cells_at HA5.out 6).trans rfl
  have e0 : w5.frozen? ⟨A, 0, none⟩ = false := frozen_no HA5.out _
  have e1 : w5.frozen? ⟨A, 1, none⟩ = false := frozen_no HA5.out _
  have e2 : w5.frozen? ⟨A, 2, none⟩ = false := frozen_no HA5.out _
  have e3 : w5.frozen? ⟨A, 3, none⟩ = false := frozen_no HA5.out _
  have e4 : w5.frozen? ⟨A, 4, none⟩ = false := frozen_no HA5.out _
  have e5 : w5.frozen? ⟨A, 5, none⟩ = false := frozen_no HA5.out _
  have e6 : w5.frozen? ⟨A, 6, none⟩ = false := frozen_no HA5.out _
  have HP := hide' (put7 (S0 := StM.nought) HA5.out ⟨last, armed, point, want, left, pat⟩ (.slice a1 l.length d1))
  simp only at HP
  have HOF := hide' (own_mono (own_keep HO5.out (but_keep HP.out.2 HA5.out) (by decide)) (Nat.zero_le _))
  have HBF := hide' (HB5.out.trans (HP.out.2.below HNE.out.2.2.1 HB5.out.size))
  clear HO5 HB5 HM5 HZ5 HC5
  go_wp2
  refine bodyPost_ret (results_cell_row2 rfl _ _ A 30 _ (0, 0) _ rfl HP.out.1 Try.underlying30 rfl (by kernel_rfl)) rfl ?_
  exact ⟨a1, d1, _, rfl, HOF.out, msgs_none _, HBF.out⟩
set_option maxRecDepth 100000 in
set_option maxHeartbeats 4000000 in
theorem Msg_g1 (S : StM) (m : MsM) (l : List Bool) (n c : Nat) (a : Option Addr) (w : World) (hr : RowAt w (.slice a n c) n 1 (l.map Value.bool)) (hn : n ≤ 2000000) (l1 : List Bool) (T : StM) (rs : List MsM) (code : Int) (hR : mayS n S = true ∧ m.kind = 1 ∧ (0 ≤ m.no ∧ m.no ≤ 1000000000) ∧ (S.last < m.no ∧ S.armed ≤ m.no ∧ m.pt < 0) ∧ l1 = l ∧ T = S ∧ rs = replyL m 5 ∧ code = 0) : Calls Try.prog 16 #[.agg (S.cells (.slice a n c)), .agg m.cells] w (HearO l1 T rs code w) := by
  have hln : l.length = n := by have h := hr.1; simpa using h
  subst hln
  have HR := hide' hR
  have HM := hide' (fun w' => StationMay_any S l.length c a w' (by omega))
  have HZ := hide' (fun (x : World) (A : Nat) (h : x.heap[A]? = some (.cells #[.slice none 0 0, .int .i64 0, .int .i64 0, .int .i64 0, .bool false, .int .i64 0, .int .i64 0] 30 (0, 0))) => put7 (S0 := StM.nought) h)
  have HW := hide' (fun w' (hb : Below w.heap.size w w') => StationOf_any S l l.length c a w' (hr.below hb (Nat.le_refl _)) hn)
  have HI := hide' (inBounds_any m.no 0 1000000000)
  obtain ⟨h0, hk, hno, hx, hl, hT, hrs, rfl⟩ := HR.out
  obtain rfl := hl.symm
  obtain rfl := hT.symm
  rw [show replyL m 5 = [⟨5, m.no, m.pt, m.wt⟩] from if_neg (by decide)] at hrs
  subst hrs
  rw [h0] at HM
  rw [show (decide (0 ≤ m.no) && decide (m.no ≤ 1000000000)) = true by simp; omega] at HI
  clear hR HR h0 hr hno
  obtain ⟨last, armed, point, want, left, pat⟩ := S
  obtain ⟨kind, no, pt, wt⟩ := m
  simp only at hk hx
  obtain rfl := hk
  unfold HearO
  unfold StM.cells at HM HZ HW ⊢
  unfold MsM.cells
  simp only at HM HZ HW HI ⊢
  have HX := hide' hx
  clear hx hn
  go_enter Try.func16, Try.ntmps16
  go_upto_region 1 with fail
  have hqY := (alloc_old ((w.alloc (.cells #[.slice a l.length c, .int .i64 last, .int .i64 armed, .int .i64 point, .bool want, .int .i64 left, .int .i64 pat] 30)).alloc (.cells #[.int .i64 1, .int .i64 no, .int .i64 pt, .bool wt] 41)) (.cells #[.slice none 0 0, .int .i64 0, .int .i64 0, .int .i64 0, .bool false, .int .i64 0, .int .i64 0] 30) (lt_heap ((alloc_old (w.alloc (.cells #[.slice a l.length c, .int .i64 last, .int .i64 armed, .int .i64 point, .bool want, .int .i64 left, .int .i64 pat] 30)) (.cells #[.int .i64 1, .int .i64 no, .int .i64 pt, .bool wt] 41) (lt_heap (alloc_new w (.cells #[.slice a l.length c, .int .i64 last, .int .i64 armed, .int .i64 point, .bool want, .int .i64 left, .int .i64 pat] 30)))).trans (alloc_new w (.cells #[.slice a l.length c, .int .i64 last, .int .i64 armed, .int .i64 point, .bool want, .int .i64 left, .int .i64 pat] 30))))).trans ((alloc_old (w.alloc (.cells #[.slice a l.length c, .int .i64 last, .int .i64 armed, .int .i64 point, .bool want, .int .i64 left, .int .i64 pat] 30)) (.cells #[.int .i64 1, .int .i64 no, .int .i64 pt, .bool wt] 41) (lt_heap (alloc_new w (.cells #[.slice a l.length c, .int .i64 last, .int .i64 armed, .int .i64 point, .bool want, .int .i64 left, .int .i64 pat] 30)))).trans (alloc_new w (.cells #[.slice a l.length c, .int .i64 last, .int .i64 armed, .int .i64 point, .bool want, .int .i64 left, .int .i64 pat] 30)))
  have hqZ := (alloc_old ((w.alloc (.cells #[.slice a l.length c, .int .i64 last, .int .i64 armed, .int .i64 point, .bool want, .int .i64 left, .int .i64 pat] 30)).alloc (.cells #[.int .i64 1, .int .i64 no, .int .i64 pt, .bool wt] 41)) (.cells #[.slice none 0 0, .int .i64 0, .int .i64 0, .int .i64 0, .bool false, .int .i64 0, .int .i64 0] 30) (lt_heap (alloc_new (w.alloc (.cells #[.slice a l.length c, .int .i64 last, .int .i64 armed, .int .i64 point, .bool want, .int .i64 left, .int .i64 pat] 30)) (.cells #[.int .i64 1, .int .i64 no, .int .i64 pt, .bool wt] 41)))).trans (alloc_new (w.alloc (.cells #[.slice a l.length c, .int .i64 last, .int .i64 armed, .int .i64 point, .bool want, .int .i64 left, .int .i64 pat] 30)) (.cells #[.int .i64 1, .int .i64 no, .int .i64 pt, .bool wt] 41))
  have hqA := alloc_new ((w.alloc (.cells #[.slice a l.length c, .int .i64 last, .int .i64 armed, .int .i64 point, .bool want, .int .i64 left, .int .i64 pat] 30)).alloc (.cells #[.int .i64 1, .int .i64 no, .int .i64 pt, .bool wt] 41)) (.cells #[.slice none 0 0, .int .i64 0, .int .i64 0, .int .i64 0, .bool false, .int .i64 0, .int .i64 0] 30)
  have hb1 := ((below_al w (.cells #[.slice a l.length c, .int .i64 last, .int .i64 armed, .int .i64 point, .bool want, .int .i64 left, .int .i64 pat] 30)).alloc (below_al w (.cells #[.slice a l.length c, .int .i64 last, .int .i64 armed, .int .i64 point, .bool want, .int .i64 left, .int .i64 pat] 30)).size (.cells #[.int .i64 1, .int .i64 no, .int .i64 pt, .bool wt] 41)).alloc ((below_al w (.cells #[.slice a l.length c, .int .i64 last, .int .i64 armed, .int .i64 point, .bool want, .int .i64 left, .int .i64 pat] 30)).alloc (below_al w (.cells #[.slice a l.length c, .int .i64 last, .int .i64 armed, .int .i64 point, .bool want, .int .i64 left, .int .i64 pat] 30)).size (.cells #[.int .i64 1, .int .i64 no, .int .i64 pt, .bool wt] 41)).size (.cells #[.slice none 0 0, .int .i64 0, .int .i64 0, .int .i64 0, .bool false, .int .i64 0, .int .i64 0] 30)
  rw [show (w.alloc (.cells #[.slice a l.length c, .int .i64 last, .int .i64 armed, .int .i64 point, .bool want, .int .i64 left, .int .i64 pat] 30)).heap.size = w.heap.size + 1 from by simp only [World.size_alloc]] at hqZ
  rw [show ((w.alloc (.cells #[.slice a l.length c, .int .i64 last, .int .i64 armed, .int .i64 point, .bool want, .int .i64 left, .int .i64 pat] 30)).alloc (.cells #[.int .i64 1, .int .i64 no, .int .i64 pt, .bool wt] 41)).heap.size = w.heap.size + 1 + 1 from by simp only [World.size_alloc]] at hqA
  obtain ⟨w1, hw1⟩ : ∃ x, x = (((w.alloc (.cells #[.slice a l.length c, .int .i64 last, .int .i64 armed, .int .i64 point, .bool want, .int .i64 left, .int .i64 pat] 30)).alloc (.cells #[.int .i64 1, .int .i64 no, .int .i64 pt, .bool wt] 41)).alloc (.cells #[.slice none 0 0, .int .i64 0, .int .i64 0, .int .i64 0, .bool false, .int .i64 0, .int .i64 0] 30)) := ⟨_, rfl⟩
  rw [← hw1] at hqY hqZ hqA hb1 ⊢
  obtain ⟨Y, hnY⟩ : ∃ x, x = w.heap.size := ⟨_, rfl⟩
  obtain ⟨Z, hnZ⟩ : ∃ x, x = w.heap.size + 1 := ⟨_, rfl⟩
  obtain ⟨A, hnA⟩ : ∃ x, x = w.heap.size + 1 + 1 := ⟨_, rfl⟩
  have HNE : Hid (w.heap.size ≤ Y ∧ w.heap.size ≤ Z ∧ w.heap.size ≤ A ∧ Y ≠ Z ∧ Y ≠ A ∧ Z ≠ A) := ⟨by omega, by omega, by omega, by omega, by omega, by omega⟩
  rw [← hnY] at hqY
  rw [← hnZ] at hqZ
  rw [← hnA] at hqA
  rw [show (Value.pointer (some { block := w.heap.size, off := 0 })) = Value.pointer (some { block := Y, off := 0 }) by rw [hnY], show (Value.pointer (some { block := w.heap.size + 1, off := 0 })) = Value.pointer (some { block := Z, off := 0 }) by rw [hnZ], show (Value.pointer (some { block := w.heap.size + 1 + 1, off := 0 })) = Value.pointer (some { block := A, off := 0 }) by rw [hnA]]
  have HQY := hide' hqY
  have HQZ := hide' hqZ
  have HQA := hide' hqA
  have HB1 := hide' hb1
  clear hqY hqZ hqA hb1 hw1 hnY hnZ hnA
  have c0 : w1.cell? ⟨Y, 0, none⟩ = some (.slice a l.length c) := (cells_at HQY.out 0).trans rfl
  have c1 : w1.cell? ⟨Y, 1, none⟩ = some (.int .i64 last) := (cells_at HQY.out 1).trans rfl
  have c2 : w1.cell? ⟨Y, 2, none⟩ = some (.int .i64 armed) := (cells_at HQY.out 2).trans rfl
  have c3 : w1.cell? ⟨Y, 3, none⟩ = some (.int .i64 point) := (cells_at HQY.out 3).trans rfl
  have c4 : w1.cell? ⟨Y, 4, none⟩ = some (.bool want) := (cells_at HQY.out 4).trans rfl
  have c5 : w1.cell? ⟨Y, 5, none⟩ = some (.int .i64 left) := (cells_at HQY.out 5).trans rfl
  have c6 : w1.cell? ⟨Y, 6, none⟩ = some (.int .i64 pat) := (cells_at HQY.out 6).trans rfl
  go_wp2_with fail
  refine (HM.out w1).mono ?_
  rintro e w2 ⟨rfl, hb2⟩
  have HB2 : Hid (Below w.heap.size w w2) := HB1.out.trans (hb2.mono HB1.out.size)
  have HY2 := hide' ((hb2.block Y (lt_heap HQY.out)).trans HQY.out)
  have HZ2 := hide' ((hb2.block Z (lt_heap HQZ.out)).trans HQZ.out)
  have HA2 := hide' ((hb2.block A (lt_heap HQA.out)).trans HQA.out)
  clear hb2 HB1 HQY HQZ HQA HM
  clear c0 c1 c2 c3 c4 c5 c6
  have c0 : w2.cell? ⟨Y, 0, none⟩ = some (.slice a l.length c) := (cells_at HY2.out 0).trans rfl
  have c1 : w2.cell? ⟨Y, 1, none⟩ = some (.int .i64 last) := (cells_at HY2.out 1).trans rfl
  have c2 : w2.cell? ⟨Y, 2, none⟩ = some (.int .i64 armed) := (cells_at HY2.out 2).trans rfl
  have c3 : w2.cell? ⟨Y, 3, none⟩ = some (.int .i64 point) := (cells_at HY2.out 3).trans rfl
  have c4 : w2.cell? ⟨Y, 4, none⟩ = some (.bool want) := (cells_at HY2.out 4).trans rfl
  have c5 : w2.cell? ⟨Y, 5, none⟩ = some (.int .i64 left) := (cells_at HY2.out 5).trans rfl
  have c6 : w2.cell? ⟨Y, 6, none⟩ = some (.int .i64 pat) := (cells_at HY2.out 6).trans rfl
  go_wp2_with fail
  refine (HW.out w2 HB2.out).mono ?_
  rintro e w3 ⟨a1, d1, rfl, ho, hb3⟩
  have HB3 : Hid (Below w.heap.size w w3) := HB2.out.trans (hb3.mono HB2.out.size)
  have HZ3 := hide' ((hb3.block Z (lt_heap HZ2.out)).trans HZ2.out)
  have HA3 := hide' ((hb3.block A (lt_heap HA2.out)).trans HA2.out)
  have HO3 := hide' (own_mono ho HB2.out.size)
  clear ho hb3 HB2 HA2 HY2 HZ2 HW
  clear c0 c1 c2 c3 c4 c5 c6
  go_upto_region 4 with fail
  have HC4 := hide' (alloc_new w3 (.cells #[.slice a1 l.length d1, .int .i64 last, .int .i64 armed, .int .i64 point, .bool want, .int .i64 left, .int .i64 pat] 30))
  have HB4 := hide' (HB3.out.alloc HB3.out.size (.cells #[.slice a1 l.length d1, .int .i64 last, .int .i64 armed, .int .i64 point, .bool want, .int .i64 left, .int .i64 pat] 30))
  have HA4 := hide' ((alloc_old w3 (.cells #[.slice a1 l.length d1, .int .i64 last, .int .i64 armed, .int .i64 point, .bool want, .int .i64 left, .int .i64 pat] 30) (lt_heap HA3.out)).trans HA3.out)
  have HZ4 := hide' ((alloc_old w3 (.cells #[.slice a1 l.length d1, .int .i64 last, .int .i64 armed, .int .i64 point, .bool want, .int .i64 left, .int .i64 pat] 30) (lt_heap HZ3.out)).trans HZ3.out)
  have HO4 := hide' (own_below HO3.out (below_al w3 (.cells #[.slice a1 l.length d1, .int .i64 last, .int .i64 armed, .int .i64 point, .bool want, .int .i64 left, .int .i64 pat] 30)) (Nat.le_refl _))
  have HCA : Hid (w3.heap.size ≠ A) := by have := lt_heap HA3.out; show _ ≠ _; omega
  have HCW : Hid (w.heap.size ≤ w3.heap.size) := HB3.out.size
  obtain ⟨w4, hw4⟩ : ∃ x, x = w3.alloc (.cells #[.slice a1 l.length d1, .int .i64 last, .int .i64 armed, .int .i64 point, .bool want, .int .i64 left, .int .i64 pat] 30) := ⟨_, rfl⟩
  obtain ⟨C, hC⟩ : ∃ x, x = w3.heap.size := ⟨_, rfl⟩
  rw [← hw4] at HC4 HB4 HA4 HZ4 HO4 ⊢
  rw [← hC] at HC4 HCA HCW
  rw [show (Value.pointer (some { block := w3.heap.size, off := 0 })) = Value.pointer (some { block := C, off := 0 }) by rw [hC]]
  clear hw4 hC HB3 HA3 HZ3 HO3
  have m0 : w4.cell? ⟨Z, 0, none⟩ = some (.int .i64 1) := (cells_at HZ4.out 0).trans rfl
  have m1 : w4.cell? ⟨Z, 1, none⟩ = some (.int .i64 no) := (cells_at HZ4.out 1).trans rfl
  have m2 : w4.cell? ⟨Z, 2, none⟩ = some (.int .i64 pt) := (cells_at HZ4.out 2).trans rfl
  have m3 : w4.cell? ⟨Z, 3, none⟩ = some (.bool wt) := (cells_at HZ4.out 3).trans rfl
  go_wp2_with fail
  refine (HI.out _).mono ?_
  rintro e w9 ⟨rfl, rfl⟩
  clear HI
  go_upto_region 9 with fail
  have HM5 := hide' (alloc_new w9 (.cells #[.int .i64 1, .int .i64 no, .int .i64 pt, .bool wt] 41))
  have HB5 := hide' (HB4.out.alloc HB4.out.size (.cells #[.int .i64 1, .int .i64 no, .int .i64 pt, .bool wt] 41))
  have HA5 := hide' ((alloc_old w9 (.cells #[.int .i64 1, .int .i64 no, .int .i64 pt, .bool wt] 41) (lt_heap HA4.out)).trans HA4.out)
  have HZ5 := hide' ((alloc_old w9 (.cells #[.int .i64 1, .int .i64 no, .int .i64 pt, .bool wt] 41) (lt_heap HZ4.out)).trans HZ4.out)
  have HC5 := hide' ((alloc_old w9 (.cells #[.int .i64 1, .int .i64 no, .int .i64 pt, .bool wt] 41) (lt_heap HC4.out)).trans HC4.out)
  have HO5 := hide' (own_below HO4.out (below_al w9 (.cells #[.int .i64 1, .int .i64 no, .int .i64 pt, .bool wt] 41)) (Nat.le_refl _))
  have HMW : Hid (w.heap.size ≤ w9.heap.size ∧ C ≠ w9.heap.size ∧ A ≠ w9.heap.size ∧ Z ≠ w9.heap.size) := ⟨HB4.out.size, by have := lt_heap HC4.out; omega, by have := lt_heap HA4.out; omega, by have := lt_heap HZ4.out; omega⟩
  obtain ⟨w5, hw5⟩ : ∃ x, x = w9.alloc (.cells #[.int .i64 1, .int .i64 no, .int .i64 pt, .bool wt] 41) := ⟨_, rfl⟩
  obtain ⟨M, hM⟩ : ∃ x, x = w9.heap.size := ⟨_, rfl⟩
  rw [← hw5] at HM5 HB5 HA5 HZ5 HC5 HO5 ⊢
  rw [← hM] at HM5 HMW
  rw [show (Value.pointer (some { block := w9.heap.size, off := 0 })) = Value.pointer (some { block := M, off := 0 }) by rw [hM]]
  clear hw5 hM HB4 HA4 HZ4 HC4 HO4
  clear m0 m1 m2 m3
  have hx := HX.out
  clear HX HZ
  have m0 : w5.cell? ⟨Z, 0, none⟩ = some (.int .i64 1) := (cells_at HZ5.out 0).trans rfl
  have m1 : w5.cell? ⟨Z, 1, none⟩ = some (.int .i64 no) := (cells_at HZ5.out 1).trans rfl
  have m2 : w5.cell? ⟨Z, 2, none⟩ = some (.int .i64 pt) := (cells_at HZ5.out 2).trans rfl
  have m3 : w5.cell? ⟨Z, 3, none⟩ = some (.bool wt) := (cells_at HZ5.out 3).trans rfl
  have c0 : w5.cell? ⟨C, 0, none⟩ = some (.slice a1 l.length d1) := (cells_at HC5.out 0).trans rfl
  have c1 : w5.cell? ⟨C, 1, none⟩ = some (.int .i64 last) := (cells_at HC5.out 1).trans rfl
  have c2 : w5.cell? ⟨C, 2, none⟩ = some (.int .i64 armed) := (cells_at HC5.out 2).trans rfl
  have c3 : w5.cell? ⟨C, 3, none⟩ = some (.int .i64 point) := (cells_at HC5.out 3).trans rfl
  have c4 : w5.cell? ⟨C, 4, none⟩ = some (.bool want) := (cells_at HC5.out 4).trans rfl
  have c5 : w5.cell? ⟨C, 5, none⟩ = some (.int .i64 left) := (cells_at HC5.out 5).trans rfl
  have c6 : w5.cell? ⟨C, 6, none⟩ = some (.int .i64 pat) := (cells_at HC5.out 6).trans rfl
  obtain ⟨hx1, hx2, hx3⟩ := hx
  have hne : no ≠ last := by omega
  have hnl : ¬ no < last := by omega
  have hna : ¬ no < armed := by omega
  have n0 : w5.cell? ⟨M, 0, none⟩ = some (.int .i64 1) := (cells_at HM5.out 0).trans rfl
  have z0 : w5.frozen? ⟨M, 0, none⟩ = false := frozen_no HM5.out _
  go_upto_region 19 with fail
  have HM6 : Hid ((w5.setCell ⟨M, 0, none⟩ (.int .i64 5)).heap[M]? = some (.cells #[.int .i64 5, .int .i64 no, .int .i64 pt, .bool wt] 41 (0, 0))) := (set_any HM5.out 0 _).trans (by simp only [List.setIfInBounds_toArray, List.set_cons_zero])
  have HC6 := hide' ((Below.heap_setCell w5 ⟨M, 0, none⟩ (.int .i64 5) C HMW.out.2.1).trans HC5.out)
  have HA6 := hide' ((Below.heap_setCell w5 ⟨M, 0, none⟩ (.int .i64 5) A HMW.out.2.2.1).trans HA5.out)
  have HO6 := hide' (own_keep HO5.out (keep_set HM5.out 0 (.int .i64 5)) (by decide))
  have HB6 : Hid (Below w.heap.size w (w5.setCell ⟨M, 0, none⟩ (.int .i64 5))) := HB5.out.setCell (p := ⟨M, 0, none⟩) HMW.out.1 _
  obtain ⟨w6, hw6⟩ : ∃ x, x = w5.setCell ⟨M, 0, none⟩ (.int .i64 5) := ⟨_, rfl⟩
  rw [← hw6] at HM6 HC6 HA6 HO6 HB6 ⊢
  clear hw6 HM5 HC5 HA5 HO5 HB5 HZ5 n0 z0
  clear m0 m1 m2 m3 c0 c1 c2 c3 c4 c5 c6
  clear hx1 hx2 hx3 hne hnl hna
  refine wp_region_tail (fun W => W.heap[C]? = some (.cells #[.slice a1 l.length d1, .int .i64 last, .int .i64 armed, .int .i64 point, .bool want, .int .i64 left, .int .i64 pat] 30 (0, 0)) ∧ W.heap[M]? = some (.cells #[.int .i64 5, .int .i64 no, .int .i64 pt, .bool wt] 41 (0, 0))) 4 (by kernel_rfl) ?_
  refine wpAnyT_letter (fun W => (W.heap[C]? = some (.cells #[.slice a1 l.length d1, .int .i64 last, .int .i64 armed, .int .i64 point, .bool want, .int .i64 left, .int .i64 pat] 30 (0, 0)) ∧ W.heap[M]? = some (.cells #[.int .i64 5, .int .i64 no, .int .i64 pt, .bool wt] 41 (0, 0))) ∧ W.heap[A]? = some (.cells #[.slice none 0 0, .int .i64 0, .int .i64 0, .int .i64 0, .bool false, .int .i64 0, .int .i64 0] 30 (0, 0)) ∧ W.ownsRow w.heap.size 4 1 (.slice a1 l.length d1) l.length (l.map Value.bool) ∧ Below w.heap.size w W ∧ w.heap.size ≤ W.heap.size) ⟨⟨HC6.out, HM6.out⟩, HA6.out, own_drewN HO6.out 1, HB6.out.drew, HB6.out.size⟩ ?_
  rintro w7 ⟨⟨hC7, hM7⟩, hA7, hO7, hB7⟩
  have HC7 := hide' hC7
  have HM7 := hide' hM7
  have HA7 := hide' hA7
  have HO7 := hide' hO7
  have HB7 := hide' hB7
  clear hC7 hM7 hA7 hO7 hB7 HC6 HM6 HA6 HO6 HB6
  refine wpAnyD_takeAt 0 (some 66) (v := ?_) rfl (by kernel_rfl) (by kernel_rfl) (by kernel_rfl) (by kernel_rfl) (by kernel_rfl) (fun _ _ _ h => h) (by exact ⟨HC7.out, HM7.out⟩) (fun o hop => ?_) ?_
  rotate_left
  · injection hop with hop
    subst hop
    refine ⟨rfl, fun W hW => ?_⟩
    obtain ⟨s0, s1⟩ := hW
    have y0 : W.cell? ⟨C, 0, none⟩ = some (.slice a1 l.length d1) := (cells_at s0 0).trans rfl
    have y1 : W.cell? ⟨C, 1, none⟩ = some (.int .i64 last) := (cells_at s0 1).trans rfl
    have y2 : W.cell? ⟨C, 2, none⟩ = some (.int .i64 armed) := (cells_at s0 2).trans rfl
    have y3 : W.cell? ⟨C, 3, none⟩ = some (.int .i64 point) := (cells_at s0 3).trans rfl
    have y4 : W.cell? ⟨C, 4, none⟩ = some (.bool want) := (cells_at s0 4).trans rfl
    have y5 : W.cell? ⟨C, 5, none⟩ = some (.int .i64 left) := (cells_at s0 5).trans rfl
    have y6 : W.cell? ⟨C, 6, none⟩ = some (.int .i64 pat) := (cells_at s0 6).trans rfl
    clear s0 s1
    go_simp
    try rfl
  try simp only [Act.put, List.setIfInBounds_toArray, List.set_cons_zero, List.set_cons_succ]
  refine wpAnyD_takeAt 1 (some 67) (v := ?_) rfl (by kernel_rfl) (by kernel_rfl) (by kernel_rfl) (by kernel_rfl) (by kernel_rfl) (fun _ _ _ h => h) (by exact ⟨HC7.out, HM7.out⟩) (fun o hop => ?_) ?_
  rotate_left
  · injection hop with hop
    subst hop
    refine ⟨rfl, fun W hW => ?_⟩
    obtain ⟨s0, s1⟩ := hW
    have y0 : W.cell? ⟨M, 0, none⟩ = some (.int .i64 5) := (cells_at s1 0).trans rfl
    have y1 : W.cell? ⟨M, 1, none⟩ = some (.int .i64 no) := (cells_at s1 1).trans rfl
    have y2 : W.cell? ⟨M, 2, none⟩ = some (.int .i64 pt) := (cells_at s1 2).trans rfl
    have y3 : W.cell? ⟨M, 3, none⟩ = some (.bool wt) := (cells_at s1 3).trans rfl
    clear s0 s1
    go_simp
    try rfl
  try simp only [Act.put, List.setIfInBounds_toArray, List.set_cons_zero, List.set_cons_succ]
  have b0 : w7.cell? ⟨A, 0, none⟩ = some (.slice none 0 0) := (cells_at HA7.out 0).trans rfl
  have b1 : w7.cell? ⟨A, 1, none⟩ = some (.int .i64 0) := (cells_at HA7.out 1).trans rfl
  have b2 : w7.cell? ⟨A, 2, none⟩ = some (.int .i64 0) := (cells_at HA7.out 2).trans rfl
  have b3 : w7.cell? ⟨A, 3, none⟩ = some (.int .i64 0) := (cells_at HA7.out 3).trans rfl
  have b4 : w7.cell? ⟨A, 4, none⟩ = some (.bool false) := (cells_at HA7.out 4).trans rfl
  have b5 : w7.cell? ⟨A, 5, none⟩ = some (.int .i64 0) := (cells_at HA7.out 5).trans rfl
  have b6 : w7.cell? ⟨A, 6, none⟩ = some (.int .i64 0) := (cells_at HA7.out 6).trans rfl
  have e0 : w7.frozen? ⟨A, 0, none⟩ = false := frozen_no HA7.out _
  have e1 : w7.frozen? ⟨A, 1, none⟩ = false := frozen_no HA7.out _
  have e2 : w7.frozen? ⟨A, 2, none⟩ = false := frozen_no HA7.out _
  have e3 : w7.frozen? ⟨A, 3, none⟩ = false := frozen_no HA7.out _
  have e4 : w7.frozen? ⟨A, 4, none⟩ = false := frozen_no HA7.out _
  have e5 : w7.frozen? ⟨A, 5, none⟩ = false := frozen_no HA7.out _
  have e6 : w7.frozen? ⟨A, 6, none⟩ = false := frozen_no HA7.out _
  refine wpAnyT_two (i := 2) (j := 3) (by kernel_rfl) rfl rfl rfl rfl (fun K' hK => ?_) (fun K' hK => ?_)
  · have HF := hide' (reply_a (T := ⟨last, armed, point, want, left, pat⟩) (m := ⟨5, no, pt, wt⟩) (v := .slice a1 l.length d1) HC7.out HM7.out HA7.out HO7.out HB7.out.1 HNE.out.2.2.1 HB7.out.2 HCA.out)
    unfold StM.cells MsM.cells at HF
    simp only at HF
    clear HC7 HM7 HO7 HB7
    go_simp
    refine hK.out _ _ (fun _ => ⟨HF.out.1, HF.out.2.1⟩) ?_
    clear hK K'
    try simp only [Act.put, List.setIfInBounds_toArray, List.set_cons_zero, List.set_cons_succ]
    have g0 := later b0
    have g1 := later b1
    have g2 := later b2
    have g3 := later b3
    have g4 := later b4
    have g5 := later b5
    have g6 := later b6
    have h0 : ∀ o, (w7.alloc o).frozen? ⟨A, 0, none⟩ = false := fun o => frozen_no ((alloc_old w7 o (lt_heap HA7.out)).trans HA7.out) _
    have h1 : ∀ o, (w7.alloc o).frozen? ⟨A, 1, none⟩ = false := fun o => frozen_no ((alloc_old w7 o (lt_heap HA7.out)).trans HA7.out) _
    have h2 : ∀ o, (w7.alloc o).frozen? ⟨A, 2, none⟩ = false := fun o => frozen_no ((alloc_old w7 o (lt_heap HA7.out)).trans HA7.out) _
    have h3 : ∀ o, (w7.alloc o).frozen? ⟨A, 3, none⟩ = false := fun o => frozen_no ((alloc_old w7 o (lt_heap HA7.out)).trans HA7.out) _
    have h4 : ∀ o, (w7.alloc o).frozen? ⟨A, 4, none⟩ = false := fun o => frozen_no ((alloc_old w7 o (lt_heap HA7.out)).trans HA7.out) _
    have h5 : ∀ o, (w7.alloc o).frozen? ⟨A, 5, none⟩ = false := fun o => frozen_no ((alloc_old w7 o (lt_heap HA7.out)).trans HA7.out) _
    have h6 : ∀ o, (w7.alloc o).frozen? ⟨A, 6, none⟩ = false := fun o => frozen_no ((alloc_old w7 o (lt_heap HA7.out)).trans HA7.out) _
    clear HA7
    refine wpAnyT_one (i := 3) (by kernel_rfl) rfl rfl (fun K' hK => ?_)
    go_simp
    refine hK.out _ _ (fun _ => ⟨HF.out.2.2.1, HF.out.2.2.2.1⟩) ?_
    clear hK K'
    try simp only [Act.put, List.setIfInBounds_toArray, List.set_cons_zero, List.set_cons_succ]
    refine wpAnyT_one (i := 4) (by kernel_rfl) rfl rfl (fun K' hK => ?_)
    go_simp
    refine hK.out _ _ (fun h => absurd rfl h) ?_
    clear hK K'
    try simp only [Act.put, List.setIfInBounds_toArray, List.set_cons_zero, List.set_cons_succ]
    refine wpAnyT_one (i := 5) (by kernel_rfl) rfl rfl (fun K' hK => ?_)
    go_simp
    refine hK.out _ _ (fun _ => ⟨HF.out.2.2.1, HF.out.2.2.2.1⟩) ?_
    clear hK K'
    try simp only [Act.put, List.setIfInBounds_toArray, List.set_cons_zero, List.set_cons_succ]
    refine wpAnyT_done (by kernel_rfl) ?_ _
    have HFF := hide' HF.out.2.2.2.2
    clear HF g0 g1 g2 g3 g4 g5 g6 h0 h1 h2 h3 h4 h5 h6 b0 b1 b2 b3 b4 b5 b6 e0 e1 e2 e3 e4 e5 e6
    go_wp2
    refine bodyPost_ret (results_cell_row2 rfl _ _ A 30 _ (0, 0) _ rfl HFF.out.1 Try.underlying30 rfl (by kernel_rfl)) rfl ?_
    exact ⟨a1, d1, _, rfl, own_mono HFF.out.2.1 (Nat.zero_le _), HFF.out.2.2.1, HFF.out.2.2.2⟩
  · have HF := hide' (reply_b (T := ⟨last, armed, point, want, left, pat⟩) (m := ⟨5, no, pt, wt⟩) (v := .slice a1 l.length d1) HC7.out HM7.out HA7.out HO7.out HB7.out.1 HNE.out.2.2.1 HB7.out.2 HCA.out)
    unfold StM.cells MsM.cells at HF
    simp only at HF
    clear HC7 HM7 HO7 HB7 HA7
    go_simp
    refine hK.out _ _ (fun _ => ⟨HF.out.1, HF.out.2.1⟩) ?_
    clear hK K'
    try simp only [Act.put, List.setIfInBounds_toArray, List.set_cons_zero, List.set_cons_succ]
    refine wpAnyT_one (i := 2) (by kernel_rfl) rfl rfl (fun K' hK => ?_)
    go_simp
    refine hK.out _ _ (fun _ => ⟨HF.out.2.2.1, HF.out.2.2.2.1⟩) ?_
    clear hK K'
    try simp only [Act.put, List.setIfInBounds_toArray, List.set_cons_zero, List.set_cons_succ]
    refine wpAnyT_one (i := 4) (by kernel_rfl) rfl rfl (fun K' hK => ?_)
    go_simp
    refine hK.out _ _ (fun h => absurd rfl h) ?_
    clear hK K'
    try simp only [Act.put, List.setIfInBounds_toArray, List.set_cons_zero, List.set_cons_succ]
    refine wpAnyT_one (i := 5) (by kernel_rfl) rfl rfl (fun K' hK => ?_)
    go_simp
    refine hK.out _ _ (fun _ => ⟨HF.out.2.2.1, HF.out.2.2.2.1⟩) ?_
    clear hK K'
    try simp only [Act.put, List.setIfInBounds_toArray, List.set_cons_zero, List.set_cons_succ]
    refine wpAnyT_done (by kernel_rfl) ?_ _
    have HFF := hide' HF.out.2.2.2.2
    clear HF b0 b1 b2 b3 b4 b5 b6 e0 e1 e2 e3 e4 e5 e6
    go_wp2
    refine bodyPost_ret (results_cell_row2 rfl _ _ A 30 _ (0, 0) _ rfl HFF.out.1 Try.underlying30 rfl (by kernel_rfl)) rfl ?_
    exact ⟨a1, d1, _, rfl, own_mono HFF.out.2.1 (Nat.zero_le _), HFF.out.2.2.1, HFF.out.2.2.2⟩
set_option maxRecDepth 100000 in
set_option maxHeartbeats 4000000 in
theorem Msg_g2 (S : StM) (m : MsM) (l : List Bool) (n c : Nat) (a : Option Addr) (w : World) (hr : RowAt w (.slice a n c) n 1 (l.map Value.bool)) (hn : n ≤ 2000000) (l1 : List Bool) (T : StM) (rs : List MsM) (code : Int) (hR : mayS n S = true ∧ m.kind = 1 ∧ (0 ≤ m.no ∧ m.no ≤ 1000000000) ∧ (S.last < m.no ∧ S.armed ≤ m.no ∧ 0 ≤ m.pt ∧ (l.length : Int) ≤ m.pt) ∧ l1 = l ∧ T = S ∧ rs = replyL m 5 ∧ code = 0) : Calls Try.prog 16 #[.agg (S.cells (.slice a n c)), .agg m.cells] w (HearO l1 T rs code w) := by
  have hln : l.length = n := by have h := hr.1; simpa using h
  subst hln
  have HR := hide' hR
  have HM := hide' (fun w' => StationMay_any S l.length c a w' (by omega))
  have HZ := hide' (fun (x : World) (A : Nat) (h : x.heap[A]? = some (.cells #[.slice none 0 0, .int .i64 0, .int .i64 0, .int .i64 0, .bool false, .int .i64 0, .int .i64 0] 30 (0, 0))) => put7 (S0 := StM.nought) h)
  have HW := hide' (fun w' (hb : Below w.heap.size w w') => StationOf_any S l l.length c a w' (hr.below hb (Nat.le_refl _)) hn)
  have HI := hide' (inBounds_any m.no 0 1000000000)
  obtain ⟨h0, hk, hno, hx, hl, hT, hrs, rfl⟩ := HR.out
  obtain rfl := hl.symm
  obtain rfl := hT.symm
  rw [show replyL m 5 = [⟨5, m.no, m.pt, m.wt⟩] from if_neg (by decide)] at hrs
  subst hrs
  rw [h0] at HM
  rw [show (decide (0 ≤ m.no) && decide (m.no ≤ 1000000000)) = true by simp; omega] at HI
  clear hR HR h0 hr hno
  obtain ⟨last, armed, point, want, left, pat⟩ := S
  obtain ⟨kind, no, pt, wt⟩ := m
  simp only at hk hx
  obtain rfl := hk
  unfold HearO
  unfold StM.cells at HM HZ HW ⊢
  unfold MsM.cells
  simp only at HM HZ HW HI ⊢
  have HX := hide' hx
  clear hx hn
  go_enter Try.func16, Try.ntmps16
  go_upto_region 1 with fail
  have hqY := (alloc_old ((w.alloc (.cells #[.slice a l.length c, .int .i64 last, .int .i64 armed, .int .i64 point, .bool want, .int .i64 left, .int .i64 pat] 30)).alloc (.cells #[.int .i64 1, .int .i64 no, .int .i64 pt, .bool wt] 41)) (.cells #[.slice none 0 0, .int .i64 0, .int .i64 0, .int .i64 0, .bool false, .int .i64 0, .int .i64 0] 30) (lt_heap ((alloc_old (w.alloc (.cells #[.slice a l.length c, .int .i64 last, .int .i64 armed, .int .i64 point, .bool want, .int .i64 left, .int .i64 pat] 30)) (.cells #[.int .i64 1, .int .i64 no, .int .i64 pt, .bool wt] 41) (lt_heap (alloc_new w (.cells #[.slice a l.length c, .int .i64 last, .int .i64 armed, .int .i64 point, .bool want, .int .i64 left, .int .i64 pat] 30)))).trans (alloc_new w (.cells #[.slice a l.length c, .int .i64 last, .int .i64 armed, .int .i64 point, .bool want, .int .i64 left, .int .i64 pat] 30))))).trans ((alloc_old (w.alloc (.cells #[.slice a l.length c, .int .i64 last, .int .i64 armed, .int .i64 point, .bool want, .int .i64 left, .int .i64 pat] 30)) (.cells #[.int .i64 1, .int .i64 no, .int .i64 pt, .bool wt] 41) (lt_heap (alloc_new w (.cells #[.slice a l.length c, .int .i64 last, .int .i64 armed, .int .i64 point, .bool want, .int .i64 left, .int .i64 pat] 30)))).trans (alloc_new w (.cells #[.slice a l.length c, .int .i64 last, .int .i64 armed, .int .i64 point, .bool want, .int .i64 left, .int .i64 pat] 30)))
  have hqZ := (alloc_old ((w.alloc (.cells #[.slice a l.length c, .int .i64 last, .int .i64 armed, .int .i64 point, .bool want, .int .i64 left, .int .i64 pat] 30)).alloc (.cells #[.int .i64 1, .int .i64 no, .int .i64 pt, .bool wt] 41)) (.cells #[.slice none 0 0, .int .i64 0, .int .i64 0, .int .i64 0, .bool false, .int .i64 0, .int .i64 0] 30) (lt_heap (alloc_new (w.alloc (.cells #[.slice a l.length c, .int .i64 last, .int .i64 armed, .int .i64 point, .bool want, .int .i64 left, .int .i64 pat] 30)) (.cells #[.int .i64 1, .int .i64 no, .int .i64 pt, .bool wt] 41)))).trans (alloc_new (w.alloc (.cells #[.slice a l.length c, .int .i64 last, .int .i64 armed, .int .i64 point, .bool want, .int .i64 left, .int .i64 pat] 30)) (.cells #[.int .i64 1, .int .i64 no, .int .i64 pt, .bool wt] 41))
  have hqA := alloc_new ((w.alloc (.cells #[.slice a l.length c, .int .i64 last, .int .i64 armed, .int .i64 point, .bool want, .int .i64 left, .int .i64 pat] 30)).alloc (.cells #[.int .i64 1, .int .i64 no, .int .i64 pt, .bool wt] 41)) (.cells #[.slice none 0 0, .int .i64 0, .int .i64 0, .int .i64 0, .bool false, .int .i64 0, .int .i64 0] 30)
  have hb1 := ((below_al w (.cells #[.slice a l.length c, .int .i64 last, .int .i64 armed, .int .i64 point, .bool want, .int .i64 left, .int .i64 pat] 30)).alloc (below_al w (.cells #[.slice a l.length c, .int .i64 last, .int .i64 armed, .int .i64 point, .bool want, .int .i64 left, .int .i64 pat] 30)).size (.cells #[.int .i64 1, .int .i64 no, .int .i64 pt, .bool wt] 41)).alloc ((below_al w (.cells #[.slice a l.length c, .int .i64 last, .int .i64 armed, .int .i64 point, .bool want, .int .i64 left, .int .i64 pat] 30)).alloc (below_al w (.cells #[.slice a l.length c, .int .i64 last, .int .i64 armed, .int .i64 point, .bool want, .int .i64 left, .int .i64 pat] 30)).size (.cells #[.int .i64 1, .int .i64 no, .int .i64 pt, .bool wt] 41)).size (.cells #[.slice none 0 0, .int .i64 0, .int .i64 0, .int .i64 0, .bool false, .int .i64 0, .int .i64 0] 30)
  rw [show (w.alloc (.cells #[.slice a l.length c, .int .i64 last, .int .i64 armed, .int .i64 point, .bool want, .int .i64 left, .int .i64 pat] 30)).heap.size = w.heap.size + 1 from by simp only [World.size_alloc]] at hqZ
  rw [show ((w.alloc (.cells #[.slice a l.length c, .int .i64 last, .int .i64 armed, .int .i64 point, .bool want, .int .i64 left, .int .i64 pat] 30)).alloc (.cells #[.int .i64 1, .int .i64 no, .int .i64 pt, .bool wt] 41)).heap.size = w.heap.size + 1 + 1 from by simp only [World.size_alloc]] at hqA
  obtain ⟨w1, hw1⟩ : ∃ x, x = (((w.alloc (.cells #[.slice a l.length c, .int .i64 last, .int .i64 armed, .int .i64 point, .bool want, .int .i64 left, .int .i64 pat] 30)).alloc (.cells #[.int .i64 1, .int .i64 no, .int .i64 pt, .bool wt] 41)).alloc (.cells #[.slice none 0 0, .int .i64 0, .int .i64 0, .int .i64 0, .bool false, .int .i64 0, .int .i64 0] 30)) := ⟨_, rfl⟩
  rw [← hw1] at hqY hqZ hqA hb1 ⊢
  obtain ⟨Y, hnY⟩ : ∃ x, x = w.heap.size := ⟨_, rfl⟩
  obtain ⟨Z, hnZ⟩ : ∃ x, x = w.heap.size + 1 := ⟨_, rfl⟩
  obtain ⟨A, hnA⟩ : ∃ x, x = w.heap.size + 1 + 1 := ⟨_, rfl⟩
  have HNE : Hid (w.heap.size ≤ Y ∧ w.heap.size ≤ Z ∧ w.heap.size ≤ A ∧ Y ≠ Z ∧ Y ≠ A ∧ Z ≠ A) := ⟨by omega, by omega, by omega, by omega, by omega, by omega⟩
  rw [← hnY] at hqY
  rw [← hnZ] at hqZ
  rw [← hnA] at hqA
  rw [show (Value.pointer (some { block := w.heap.size, off := 0 })) = Value.pointer (some { block := Y, off := 0 }) by rw [hnY], show (Value.pointer (some { block := w.heap.size + 1, off := 0 })) = Value.pointer (some { block := Z, off := 0 }) by rw [hnZ], show (Value.pointer (some { block := w.heap.size + 1 + 1, off := 0 })) = Value.pointer (some { block := A, off := 0 }) by rw [hnA]]
  have HQY := hide' hqY
  have HQZ := hide' hqZ
  have HQA := hide' hqA
  have HB1 := hide' hb1
  clear hqY hqZ hqA hb1 hw1 hnY hnZ hnA
  have c0 : w1.cell? ⟨Y, 0, none⟩ = some (.slice a l.length c) := (cells_at HQY.out 0).trans rfl
  have c1 : w1.cell? ⟨Y, 1, none⟩ = some (.int .i64 last) := (cells_at HQY.out 1).trans rfl
  have c2 : w1.cell? ⟨Y, 2, none⟩ = some (.int .i64 armed) := (cells_at HQY.out 2).trans rfl
  have c3 : w1.cell? ⟨Y, 3, none⟩ = some (.int .i64 point) := (cells_at HQY.out 3).trans rfl
  have c4 : w1.cell? ⟨Y, 4, none⟩ = some (.bool want) := (cells_at HQY.out 4).trans rfl
  have c5 : w1.cell? ⟨Y, 5, none⟩ = some (.int .i64 left) := (cells_at HQY.out 5).trans rfl
  have c6 : w1.cell? ⟨Y, 6, none⟩ = some (.int .i64 pat) := (cells_at HQY.out 6).trans rfl
  go_wp2_with fail
  refine (HM.out w1).mono ?_
  rintro e w2 ⟨rfl, hb2⟩
  have HB2 : Hid (Below w.heap.size w w2) := HB1.out.trans (hb2.mono HB1.out.size)
  have HY2 := hide' ((hb2.block Y (lt_heap HQY.out)).trans HQY.out)
  have HZ2 := hide' ((hb2.block Z (lt_heap HQZ.out)).trans HQZ.out)
  have HA2 := hide' ((hb2.block A (lt_heap HQA.out)).trans HQA.out)
  clear hb2 HB1 HQY HQZ HQA HM
  clear c0 c1 c2 c3 c4 c5 c6
  have c0 : w2.cell? ⟨Y, 0, none⟩ = some (.slice a l.length c) := (cells_at HY2.out 0).trans rfl
  have c1 : w2.cell? ⟨Y, 1, none⟩ = some (.int .i64 last) := (cells_at HY2.out 1).trans rfl
  have c2 : w2.cell? ⟨Y, 2, none⟩ = some (.int .i64 armed) := (cells_at HY2.out 2).trans rfl
  have c3 : w2.cell? ⟨Y, 3, none⟩ = some (.int .i64 point) := (cells_at HY2.out 3).trans rfl
  have c4 : w2.cell? ⟨Y, 4, none⟩ = some (.bool want) := (cells_at HY2.out 4).trans rfl
  have c5 : w2.cell? ⟨Y, 5, none⟩ = some (.int .i64 left) := (cells_at HY2.out 5).trans rfl
  have c6 : w2.cell? ⟨Y, 6, none⟩ = some (.int .i64 pat) := (cells_at HY2.out 6).trans rfl
  go_wp2_with fail
  refine (HW.out w2 HB2.out).mono ?_
  rintro e w3 ⟨a1, d1, rfl, ho, hb3⟩
  have HB3 : Hid (Below w.heap.size w w3) := HB2.out.trans (hb3.mono HB2.out.size)
  have HZ3 := hide' ((hb3.block Z (lt_heap HZ2.out)).trans HZ2.out)
  have HA3 := hide' ((hb3.block A (lt_heap HA2.out)).trans HA2.out)
  have HO3 := hide' (own_mono ho HB2.out.size)
  clear ho hb3 HB2 HA2 HY2 HZ2 HW
  clear c0 c1 c2 c3 c4 c5 c6
  go_upto_region 4 with fail
  have HC4 := hide' (alloc_new w3 (.cells #[.slice a1 l.length d1, .int .i64 last, .int .i64 armed, .int .i64 point, .bool want, .int .i64 left, .int .i64 pat] 30))
  have HB4 := hide' (HB3.out.alloc HB3.out.size (.cells #[.slice a1 l.length d1, .int .i64 last, .int .i64 armed, .int .i64 point, .bool want, .int .i64 left, .int .i64 pat] 30))
  have HA4 := hide' ((alloc_old w3 (.cells #[.slice a1 l.length d1, .int .i64 last, .int .i64 armed, .int .i64 point, .bool want, .int .i64 left, .int .i64 pat] 30) (lt_heap HA3.out)).trans HA3.out)
  have HZ4 := hide' ((alloc_old w3 (.cells #[.slice a1 l.length d1, .int .i64 last, .int .i64 armed, .int .i64 point, .bool want, .int .i64 left, .int .i64 pat] 30) (lt_heap HZ3.out)).trans HZ3.out)
  have HO4 := hide' (own_below HO3.out (below_al w3 (.cells #[.slice a1 l.length d1, .int .i64 last, .int .i64 armed, .int .i64 point, .bool want, .int .i64 left, .int .i64 pat] 30)) (Nat.le_refl _))
  have HCA : Hid (w3.heap.size ≠ A) := by have := lt_heap HA3.out; show _ ≠ _; omega
  have HCW : Hid (w.heap.size ≤ w3.heap.size) := HB3.out.size
  obtain ⟨w4, hw4⟩ : ∃ x, x = w3.alloc (.cells #[.slice a1 l.length d1, .int .i64 last, .int .i64 armed, .int .i64 point, .bool want, .int .i64 left, .int .i64 pat] 30) := ⟨_, rfl⟩
  obtain ⟨C, hC⟩ : ∃ x, x = w3.heap.size := ⟨_, rfl⟩
  rw [← hw4] at HC4 HB4 HA4 HZ4 HO4 ⊢
  rw [← hC] at HC4 HCA HCW
  rw [show (Value.pointer (some { block := w3.heap.size, off := 0 })) = Value.pointer (some { block := C, off := 0 }) by rw [hC]]
  clear hw4 hC HB3 HA3 HZ3 HO3
  have m0 : w4.cell? ⟨Z, 0, none⟩ = some (.int .i64 1) := (cells_at HZ4.out 0).trans rfl
  have m1 : w4.cell? ⟨Z, 1, none⟩ = some (.int .i64 no) := (cells_at HZ4.out 1).trans rfl
  have m2 : w4.cell? ⟨Z, 2, none⟩ = some (.int .i64 pt) := (cells_at HZ4.out 2).trans rfl
  have m3 : w4.cell? ⟨Z, 3, none⟩ = some (.bool wt) := (cells_at HZ4.out 3).trans rfl
  go_wp2_with fail
  refine (HI.out _).mono ?_
  rintro e w9 ⟨rfl, rfl⟩
  clear HI
  go_upto_region 9 with fail
  have HM5 := hide' (alloc_new w9 (.cells #[.int .i64 1, .int .i64 no, .int .i64 pt, .bool wt] 41))
  have HB5 := hide' (HB4.out.alloc HB4.out.size (.cells #[.int .i64 1, .int .i64 no, .int .i64 pt, .bool wt] 41))
  have HA5 := hide' ((alloc_old w9 (.cells #[.int .i64 1, .int .i64 no, .int .i64 pt, .bool wt] 41) (lt_heap HA4.out)).trans HA4.out)
  have HZ5 := hide' ((alloc_old w9 (.cells #[.int .i64 1, .int .i64 no, .int .i64 pt, .bool wt] 41) (lt_heap HZ4.out)).trans HZ4.out)
  have HC5 := hide' ((alloc_old w9 (.cells #[.int .i64 1, .int .i64 no, .int .i64 pt, .bool wt] 41) (lt_heap HC4.out)).trans HC4.out)
  have HO5 := hide' (own_below HO4.out (below_al w9 (.cells #[.int .i64 1, .int .i64 no, .int .i64 pt, .bool wt] 41)) (Nat.le_refl _))
  have HMW : Hid (w.heap.size ≤ w9.heap.size ∧ C ≠ w9.heap.size ∧ A ≠ w9.heap.size ∧ Z ≠ w9.heap.size) := ⟨HB4.out.size, by have := lt_heap HC4.out; omega, by have := lt_heap HA4.out; omega, by have := lt_heap HZ4.out; omega⟩
  obtain ⟨w5, hw5⟩ : ∃ x, x = w9.alloc (.cells #[.int .i64 1, .int .i64 no, .int .i64 pt, .bool wt] 41) := ⟨_, rfl⟩
  obtain ⟨M, hM⟩ : ∃ x, x = w9.heap.size := ⟨_, rfl⟩
  rw [← hw5] at HM5 HB5 HA5 HZ5 HC5 HO5 ⊢
  rw [← hM] at HM5 HMW
  rw [show (Value.pointer (some { block := w9.heap.size, off := 0 })) = Value.pointer (some { block := M, off := 0 }) by rw [hM]]
  clear hw5 hM HB4 HA4 HZ4 HC4 HO4
  clear m0 m1 m2 m3
  have hx := HX.out
  clear HX HZ
  have m0 : w5.cell? ⟨Z, 0, none⟩ = some (.int .i64 1) := (cells_at HZ5.out 0).trans rfl
  have m1 : w5.cell? ⟨Z, 1, none⟩ = some (.int .i64 no) := (cells_at HZ5.out 1).trans rfl
  have m2 : w5.cell? ⟨Z, 2, none⟩ = some (.int .i64 pt) := (cells_at HZ5.out 2).trans rfl
  have m3 : w5.cell? ⟨Z, 3, none⟩ = some (.bool wt) := (cells_at HZ5.out 3).trans rfl
  have c0 : w5.cell? ⟨C, 0, none⟩ = some (.slice a1 l.length d1) := (cells_at HC5.out 0).trans rfl
  have c1 : w5.cell? ⟨C, 1, none⟩ = some (.int .i64 last) := (cells_at HC5.out 1).trans rfl
  have c2 : w5.cell? ⟨C, 2, none⟩ = some (.int .i64 armed) := (cells_at HC5.out 2).trans rfl
  have c3 : w5.cell? ⟨C, 3, none⟩ = some (.int .i64 point) := (cells_at HC5.out 3).trans rfl
  have c4 : w5.cell? ⟨C, 4, none⟩ = some (.bool want) := (cells_at HC5.out 4).trans rfl
  have c5 : w5.cell? ⟨C, 5, none⟩ = some (.int .i64 left) := (cells_at HC5.out 5).trans rfl
  have c6 : w5.cell? ⟨C, 6, none⟩ = some (.int .i64 pat) := (cells_at HC5.out 6).trans rfl
  obtain ⟨hx1, hx2, hx3, hx4⟩ := hx
  have hne : no ≠ last := by omega
  have hnl : ¬ no < last := by omega
  have hna : ¬ no < armed := by omega
  have hpn : ¬ pt < 0 := by omega
  have n0 : w5.cell? ⟨M, 0, none⟩ = some (.int .i64 1) := (cells_at HM5.out 0).trans rfl
  have z0 : w5.frozen? ⟨M, 0, none⟩ = false := frozen_no HM5.out _
  go_upto_region 19 with fail
  have HM6 : Hid ((w5.setCell ⟨M, 0, none⟩ (.int .i64 5)).heap[M]? = some (.cells #[.int .i64 5, .int .i64 no, .int .i64 pt, .bool wt] 41 (0, 0))) := (set_any HM5.out 0 _).trans (by simp only [List.setIfInBounds_toArray, List.set_cons_zero])
  have HC6 := hide' ((Below.heap_setCell w5 ⟨M, 0, none⟩ (.int .i64 5) C HMW.out.2.1).trans HC5.out)
  have HA6 := hide' ((Below.heap_setCell w5 ⟨M, 0, none⟩ (.int .i64 5) A HMW.out.2.2.1).trans HA5.out)
  have HO6 := hide' (own_keep HO5.out (keep_set HM5.out 0 (.int .i64 5)) (by decide))
  have HB6 : Hid (Below w.heap.size w (w5.setCell ⟨M, 0, none⟩ (.int .i64 5))) := HB5.out.setCell (p := ⟨M, 0, none⟩) HMW.out.1 _
  obtain ⟨w6, hw6⟩ : ∃ x, x = w5.setCell ⟨M, 0, none⟩ (.int .i64 5) := ⟨_, rfl⟩
  rw [← hw6] at HM6 HC6 HA6 HO6 HB6 ⊢
  clear hw6 HM5 HC5 HA5 HO5 HB5 HZ5 n0 z0
  clear m0 m1 m2 m3 c0 c1 c2 c3 c4 c5 c6
  clear hx1 hx2 hx3 hx4 hne hnl hna hpn
  refine wp_region_tail (fun W => W.heap[C]? = some (.cells #[.slice a1 l.length d1, .int .i64 last, .int .i64 armed, .int .i64 point, .bool want, .int .i64 left, .int .i64 pat] 30 (0, 0)) ∧ W.heap[M]? = some (.cells #[.int .i64 5, .int .i64 no, .int .i64 pt, .bool wt] 41 (0, 0))) 4 (by kernel_rfl) ?_
  refine wpAnyT_letter (fun W => (W.heap[C]? = some (.cells #[.slice a1 l.length d1, .int .i64 last, .int .i64 armed, .int .i64 point, .bool want, .int .i64 left, .int .i64 pat] 30 (0, 0)) ∧ W.heap[M]? = some (.cells #[.int .i64 5, .int .i64 no, .int .i64 pt, .bool wt] 41 (0, 0))) ∧ W.heap[A]? = some (.cells #[.slice none 0 0, .int .i64 0, .int .i64 0, .int .i64 0, .bool false, .int .i64 0, .int .i64 0] 30 (0, 0)) ∧ W.ownsRow w.heap.size 4 1 (.slice a1 l.length d1) l.length (l.map Value.bool) ∧ Below w.heap.size w W ∧ w.heap.size ≤ W.heap.size) ⟨⟨HC6.out, HM6.out⟩, HA6.out, own_drewN HO6.out 1, HB6.out.drew, HB6.out.size⟩ ?_
  rintro w7 ⟨⟨hC7, hM7⟩, hA7, hO7, hB7⟩
  have HC7 := hide' hC7
  have HM7 := hide' hM7
  have HA7 := hide' hA7
  have HO7 := hide' hO7
  have HB7 := hide' hB7
  clear hC7 hM7 hA7 hO7 hB7 HC6 HM6 HA6 HO6 HB6
  refine wpAnyD_takeAt 0 (some 66) (v := ?_) rfl (by kernel_rfl) (by kernel_rfl) (by kernel_rfl) (by kernel_rfl) (by kernel_rfl) (fun _ _ _ h => h) (by exact ⟨HC7.out, HM7.out⟩) (fun o hop => ?_) ?_
  rotate_left
  · injection hop with hop
    subst hop
    refine ⟨rfl, fun W hW => ?_⟩
    obtain ⟨s0, s1⟩ := hW
    have y0 : W.cell? ⟨C, 0, none⟩ = some (.slice a1 l.length d1) := (cells_at s0 0).trans rfl
    have y1 : W.cell? ⟨C, 1, none⟩ = some (.int .i64 last) := (cells_at s0 1).trans rfl
    have y2 : W.cell? ⟨C, 2, none⟩ = some (.int .i64 armed) := (cells_at s0 2).trans rfl
    have y3 : W.cell? ⟨C, 3, none⟩ = some (.int .i64 point) := (cells_at s0 3).trans rfl
    have y4 : W.cell? ⟨C, 4, none⟩ = some (.bool want) := (cells_at s0 4).trans rfl
    have y5 : W.cell? ⟨C, 5, none⟩ = some (.int .i64 left) := (cells_at s0 5).trans rfl
    have y6 : W.cell? ⟨C, 6, none⟩ = some (.int .i64 pat) := (cells_at s0 6).trans rfl
    clear s0 s1
    go_simp
    try rfl
  try simp only [Act.put, List.setIfInBounds_toArray, List.set_cons_zero, List.set_cons_succ]
  refine wpAnyD_takeAt 1 (some 67) (v := ?_) rfl (by kernel_rfl) (by kernel_rfl) (by kernel_rfl) (by kernel_rfl) (by kernel_rfl) (fun _ _ _ h => h) (by exact ⟨HC7.out, HM7.out⟩) (fun o hop => ?_) ?_
  rotate_left
  · injection hop with hop
    subst hop
    refine ⟨rfl, fun W hW => ?_⟩
    obtain ⟨s0, s1⟩ := hW
    have y0 : W.cell? ⟨M, 0, none⟩ = some (.int .i64 5) := (cells_at s1 0).trans rfl
    have y1 : W.cell? ⟨M, 1, none⟩ = some (.int .i64 no) := (cells_at s1 1).trans rfl
    have y2 : W.cell? ⟨M, 2, none⟩ = some (.int .i64 pt) := (cells_at s1 2).trans rfl
    have y3 : W.cell? ⟨M, 3, none⟩ = some (.bool wt) := (cells_at s1 3).trans rfl
    clear s0 s1
    go_simp
    try rfl
  try simp only [Act.put, List.setIfInBounds_toArray, List.set_cons_zero, List.set_cons_succ]
  have b0 : w7.cell? ⟨A, 0, none⟩ = some (.slice none 0 0) := (cells_at HA7.out 0).trans rfl
  have b1 : w7.cell? ⟨A, 1, none⟩ = some (.int .i64 0) := (cells_at HA7.out 1).trans rfl
  have b2 : w7.cell? ⟨A, 2, none⟩ = some (.int .i64 0) := (cells_at HA7.out 2).trans rfl
  have b3 : w7.cell? ⟨A, 3, none⟩ = some (.int .i64 0) := (cells_at HA7.out 3).trans rfl
  have b4 : w7.cell? ⟨A, 4, none⟩ = some (.bool false) := (cells_at HA7.out 4).trans rfl
  have b5 : w7.cell? ⟨A, 5, none⟩ = some (.int .i64 0) := (cells_at HA7.out 5).trans rfl
  have b6 : w7.cell? ⟨A, 6, none⟩ = some (.int .i64 0) := (cells_at HA7.out 6).trans rfl
  have e0 : w7.frozen? ⟨A, 0, none⟩ = false := frozen_no HA7.out _
  have e1 : w7.frozen? ⟨A, 1, none⟩ = false := frozen_no HA7.out _
  have e2 : w7.frozen? ⟨A, 2, none⟩ = false := frozen_no HA7.out _
  have e3 : w7.frozen? ⟨A, 3, none⟩ = false := frozen_no HA7.out _
  have e4 : w7.frozen? ⟨A, 4, none⟩ = false := frozen_no HA7.out _
  have e5 : w7.frozen? ⟨A, 5, none⟩ = false := frozen_no HA7.out _
  have e6 : w7.frozen? ⟨A, 6, none⟩ = false := frozen_no HA7.out _
  refine wpAnyT_two (i := 2) (j := 3) (by kernel_rfl) rfl rfl rfl rfl (fun K' hK => ?_) (fun K' hK => ?_)
  · have HF := hide' (reply_a (T := ⟨last, armed, point, want, left, pat⟩) (m := ⟨5, no, pt, wt⟩) (v := .slice a1 l.length d1) HC7.out HM7.out HA7.out HO7.out HB7.out.1 HNE.out.2.2.1 HB7.out.2 HCA.out)
    unfold StM.cells MsM.cells at HF
    simp only at HF
    clear HC7 HM7 HO7 HB7
    go_simp
    refine hK.out _ _ (fun _ => ⟨HF.out.1, HF.out.2.1⟩) ?_
    clear hK K'
    try simp only [Act.put, List.setIfInBounds_toArray, List.set_cons_zero, List.set_cons_succ]
    have g0 := later b0
    have g1 := later b1
    have g2 := later b2
    have g3 := later b3
    have g4 := later b4
    have g5 := later b5
    have g6 := later b6
    have h0 : ∀ o, (w7.alloc o).frozen? ⟨A, 0, none⟩ = false := fun o => frozen_no ((alloc_old w7 o (lt_heap HA7.out)).trans HA7.out) _
    have h1 : ∀ o, (w7.alloc o).frozen? ⟨A, 1, none⟩ = false := fun o => frozen_no ((alloc_old w7 o (lt_heap HA7.out)).trans HA7.out) _
    have h2 : ∀ o, (w7.alloc o).frozen? ⟨A, 2, none⟩ = false := fun o => frozen_no ((alloc_old w7 o (lt_heap HA7.out)).trans HA7.out) _
    have h3 : ∀ o, (w7.alloc o).frozen? ⟨A, 3, none⟩ = false := fun o => frozen_no ((alloc_old w7 o (lt_heap HA7.out)).trans HA7.out) _
    have h4 : ∀ o, (w7.alloc o).frozen? ⟨A, 4, none⟩ = false := fun o => frozen_no ((alloc_old w7 o (lt_heap HA7.out)).trans HA7.out) _
    have h5 : ∀ o, (w7.alloc o).frozen? ⟨A, 5, none⟩ = false := fun o => frozen_no ((alloc_old w7 o (lt_heap HA7.out)).trans HA7.out) _
    have h6 : ∀ o, (w7.alloc o).frozen? ⟨A, 6, none⟩ = false := fun o => frozen_no ((alloc_old w7 o (lt_heap HA7.out)).trans HA7.out) _
    clear HA7
    refine wpAnyT_one (i := 3) (by kernel_rfl) rfl rfl (fun K' hK => ?_)
    go_simp
    refine hK.out _ _ (fun _ => ⟨HF.out.2.2.1, HF.out.2.2.2.1⟩) ?_
    clear hK K'
    try simp only [Act.put, List.setIfInBounds_toArray, List.set_cons_zero, List.set_cons_succ]
    refine wpAnyT_one (i := 4) (by kernel_rfl) rfl rfl (fun K' hK => ?_)
    go_simp
    refine hK.out _ _ (fun h => absurd rfl h) ?_
    clear hK K'
    try simp only [Act.put, List.setIfInBounds_toArray, List.set_cons_zero, List.set_cons_succ]
    refine wpAnyT_one (i := 5) (by kernel_rfl) rfl rfl (fun K' hK => ?_)
    go_simp
    refine hK.out _ _ (fun _ => ⟨HF.out.2.2.1, HF.out.2.2.2.1⟩) ?_
    clear hK K'
    try simp only [Act.put, List.setIfInBounds_toArray, List.set_cons_zero, List.set_cons_succ]
    refine wpAnyT_done (by kernel_rfl) ?_ _
    have HFF := hide' HF.out.2.2.2.2
    clear HF g0 g1 g2 g3 g4 g5 g6 h0 h1 h2 h3 h4 h5 h6 b0 b1 b2 b3 b4 b5 b6 e0 e1 e2 e3 e4 e5 e6
    go_wp2
    refine bodyPost_ret (results_cell_row2 rfl _ _ A 30 _ (0, 0) _ rfl HFF.out.1 Try.underlying30 rfl (by kernel_rfl)) rfl ?_
    exact ⟨a1, d1, _, rfl, own_mono HFF.out.2.1 (Nat.zero_le _), HFF.out.2.2.1, HFF.out.2.2.2⟩
  · have HF := hide' (reply_b (T := ⟨last, armed, point, want, left, pat⟩) (m := ⟨5, no, pt, wt⟩) (v := .slice a1 l.length d1) HC7.out HM7.out HA7.out HO7.out HB7.out.1 HNE.out.2.2.1 HB7.out.2 HCA.out)
    unfold StM.cells MsM.cells at HF
    simp only at HF
    clear HC7 HM7 HO7 HB7 HA7
    go_simp
    refine hK.out _ _ (fun _ => ⟨HF.out.1, HF.out.2.1⟩) ?_
    clear hK K'
    try simp only [Act.put, List.setIfInBounds_toArray, List.set_cons_zero, List.set_cons_succ]
    refine wpAnyT_one (i := 2) (by kernel_rfl) rfl rfl (fun K' hK => ?_)
    go_simp
    refine hK.out _ _ (fun _ => ⟨HF.out.2.2.1, HF.out.2.2.2.1⟩) ?_
    clear hK K'
    try simp only [Act.put, List.setIfInBounds_toArray, List.set_cons_zero, List.set_cons_succ]
    refine wpAnyT_one (i := 4) (by kernel_rfl) rfl rfl (fun K' hK => ?_)
    go_simp
    refine hK.out _ _ (fun h => absurd rfl h) ?_
    clear hK K'
    try simp only [Act.put, List.setIfInBounds_toArray, List.set_cons_zero, List.set_cons_succ]
    refine wpAnyT_one (i := 5) (by kernel_rfl) rfl rfl (fun K' hK => ?_)
    go_simp
    refine hK.out _ _ (fun _ => ⟨HF.out.2.2.1, HF.out.2.2.2.1⟩) ?_
    clear hK K'
    try simp only [Act.put, List.setIfInBounds_toArray, List.set_cons_zero, List.set_cons_succ]
    refine wpAnyT_done (by kernel_rfl) ?_ _
    have HFF := hide' HF.out.2.2.2.2
    clear HF b0 b1 b2 b3 b4 b5 b6 e0 e1 e2 e3 e4 e5 e6
    go_wp2
    refine bodyPost_ret (results_cell_row2 rfl _ _ A 30 _ (0, 0) _ rfl HFF.out.1 Try.underlying30 rfl (by kernel_rfl)) rfl ?_
    exact ⟨a1, d1, _, rfl, own_mono HFF.out.2.1 (Nat.zero_le _), HFF.out.2.2.1, HFF.out.2.2.2⟩
set_option maxRecDepth 100000 in
set_option maxHeartbeats 4000000 in
theorem Msg_i1 (S : StM) (m : MsM) (l : List Bool) (n c : Nat) (a : Option Addr) (w : World) (hr : RowAt w (.slice a n c) n 1 (l.map Value.bool)) (hn : n ≤ 2000000) (l1 : List Bool) (T : StM) (rs : List MsM) (code : Int) (hR : mayS n S = true ∧ m.kind = 3 ∧ (0 ≤ m.no ∧ m.no ≤ 1000000000) ∧ (S.last < m.no ∧ S.armed ≠ m.no) ∧ l1 = l ∧ T = S ∧ rs = replyL m 5 ∧ code = 0) : Calls Try.prog 16 #[.agg (S.cells (.slice a n c)), .agg m.cells] w (HearO l1 T rs code w) := by
  have hln : l.length = n := by have h := hr.1; simpa using h
  subst hln
  have HR := hide' hR
  have HM := hide' (fun w' => StationMay_any S l.length c a w' (by omega))
  have HZ := hide' (fun (x : World) (A : Nat) (h : x.heap[A]? = some (.cells #[.slice none 0 0, .int .i64 0, .int .i64 0, .int .i64 0, .bool false, .int .i64 0, .int .i64 0] 30 (0, 0))) => put7 (S0 := StM.nought) h)
  have HW := hide' (fun w' (hb : Below w.heap.size w w') => StationOf_any S l l.length c a w' (hr.below hb (Nat.le_refl _)) hn)
  have HI := hide' (inBounds_any m.no 0 1000000000)
  obtain ⟨h0, hk, hno, hx, hl, hT, hrs, rfl⟩ := HR.out
  obtain rfl := hl.symm
  obtain rfl := hT.symm
  rw [show replyL m 5 = [⟨5, m.no, m.pt, m.wt⟩] from if_neg (by decide)] at hrs
  subst hrs
  rw [h0] at HM
  rw [show (decide (0 ≤ m.no) && decide (m.no ≤ 1000000000)) = true by simp; omega] at HI
  clear hR HR h0 hr hno
  obtain ⟨last, armed, point, want, left, pat⟩ := S
  obtain ⟨kind, no, pt, wt⟩ := m
  simp only at hk hx
  obtain rfl := hk
  unfold HearO
  unfold StM.cells at HM HZ HW ⊢
  unfold MsM.cells
  simp only at HM HZ HW HI ⊢
  have HX := hide' hx
  clear hx hn
  go_enter Try.func16, Try.ntmps16
  go_upto_region 1 with fail
  have hqY := (alloc_old ((w.alloc (.cells #[.slice a l.length c, .int .i64 last, .int .i64 armed, .int .i64 point, .bool want, .int .i64 left, .int .i64 pat] 30)).alloc (.cells #[.int .i64 3, .int .i64 no, .int .i64 pt, .bool wt] 41)) (.cells #[.slice none 0 0, .int .i64 0, .int .i64 0, .int .i64 0, .bool false, .int .i64 0, .int .i64 0] 30) (lt_heap ((alloc_old (w.alloc (.cells #[.slice a l.length c, .int .i64 last, .int .i64 armed, .int .i64 point, .bool want, .int .i64 left, .int .i64 pat] 30)) (.cells #[.int .i64 3, .int .i64 no, .int .i64 pt, .bool wt] 41) (lt_heap (alloc_new w (.cells #[.slice a l.length c, .int .i64 last, .int .i64 armed, .int .i64 point, .bool want, .int .i64 left, .int .i64 pat] 30)))).trans (alloc_new w (.cells #[.slice a l.length c, .int .i64 last, .int .i64 armed, .int .i64 point, .bool want, .int .i64 left, .int .i64 pat] 30))))).trans ((alloc_old (w.alloc (.cells #[.slice a l.length c, .int .i64 last, .int .i64 armed, .int .i64 point, .bool want, .int .i64 left, .int .i64 pat] 30)) (.cells #[.int .i64 3, .int .i64 no, .int .i64 pt, .bool wt] 41) (lt_heap (alloc_new w (.cells #[.slice a l.length c, .int .i64 last, .int .i64 armed, .int .i64 point, .bool want, .int .i64 left, .int .i64 pat] 30)))).trans (alloc_new w (.cells #[.slice a l.length c, .int .i64 last, .int .i64 armed, .int .i64 point, .bool want, .int .i64 left, .int .i64 pat] 30)))
  have hqZ := (alloc_old ((w.alloc (.cells #[.slice a l.length c, .int .i64 last, .int .i64 armed, .int .i64 point, .bool want, .int .i64 left, .int .i64 pat] 30)).alloc (.cells #[.int .i64 3, .int .i64 no, .int .i64 pt, .bool wt] 41)) (.cells #[.slice none 0 0, .int .i64 0, .int .i64 0, .int .i64 0, .bool false, .int .i64 0, .int .i64 0] 30) (lt_heap (alloc_new (w.alloc (.cells #[.slice a l.length c, .int .i64 last, .int .i64 armed, .int .i64 point, .bool want, .int .i64 left, .int .i64 pat] 30)) (.cells #[.int .i64 3, .int .i64 no, .int .i64 pt, .bool wt] 41)))).trans (alloc_new (w.alloc (.cells #[.slice a l.length c, .int .i64 last, .int .i64 armed, .int .i64 point, .bool want, .int .i64 left, .int .i64 pat] 30)) (.cells #[.int .i64 3, .int .i64 no, .int .i64 pt, .bool wt] 41))
  have hqA := alloc_new ((w.alloc (.cells #[.slice a l.length c, .int .i64 last, .int .i64 armed, .int .i64 point, .bool want, .int .i64 left, .int .i64 pat] 30)).alloc (.cells #[.int .i64 3, .int .i64 no, .int .i64 pt, .bool wt] 41)) (.cells #[.slice none 0 0, .int .i64 0, .int .i64 0, .int .i64 0, .bool false, .int .i64 0, .int .i64 0] 30)
  have hb1 := ((below_al w (.cells #[.slice a l.length c, .int .i64 last, .int .i64 armed, .int .i64 point, .bool want, .int .i64 left, .int .i64 pat] 30)).alloc (below_al w (.cells #[.slice a l.length c, .int .i64 last, .int .i64 armed, .int .i64 point, .bool want, .int .i64 left, .int .i64 pat] 30)).size (.cells #[.int .i64 3, .int .i64 no, .int .i64 pt, .bool wt] 41)).alloc ((below_al w (.cells #[.slice a l.length c, .int .i64 last, .int .i64 armed, .int .i64 point, .bool want, .int .i64 left, .int .i64 pat] 30)).alloc (below_al w (.cells #[.slice a l.length c, .int .i64 last, .int .i64 armed, .int .i64 point, .bool want, .int .i64 left, .int .i64 pat] 30)).size (.cells #[.int .i64 3, .int .i64 no, .int .i64 pt, .bool wt] 41)).size (.cells #[.slice none 0 0, .int .i64 0, .int .i64 0, .int .i64 0, .bool false, .int .i64 0, .int .i64 0] 30)
  rw [show (w.alloc (.cells #[.slice a l.length c, .int .i64 last, .int .i64 armed, .int .i64 point, .bool want, .int .i64 left, .int .i64 pat] 30)).heap.size = w.heap.size + 1 from by simp only [World.size_alloc]] at hqZ
  rw [show ((w.alloc (.cells #[.slice a l.length c, .int .i64 last, .int .i64 armed, .int .i64 point, .bool want, .int .i64 left, .int .i64 pat] 30)).alloc (.cells #[.int .i64 3, .int .i64 no, .int .i64 pt, .bool wt] 41)).heap.size = w.heap.size + 1 + 1 from by simp only [World.size_alloc]] at hqA
  obtain ⟨w1, hw1⟩ : ∃ x, x = (((w.alloc (.cells #[.slice a l.length c, .int .i64 last, .int .i64 armed, .int .i64 point, .bool want, .int .i64 left, .int .i64 pat] 30)).alloc (.cells #[.int .i64 3, .int .i64 no, .int .i64 pt, .bool wt] 41)).alloc (.cells #[.slice none 0 0, .int .i64 0, .int .i64 0, .int .i64 0, .bool false, .int .i64 0, .int .i64 0] 30)) := ⟨_, rfl⟩
  rw [← hw1] at hqY hqZ hqA hb1 ⊢
  obtain ⟨Y, hnY⟩ : ∃ x, x = w.heap.size := ⟨_, rfl⟩
  obtain ⟨Z, hnZ⟩ : ∃ x, x = w.heap.size + 1 := ⟨_, rfl⟩
  obtain ⟨A, hnA⟩ : ∃ x, x = w.heap.size + 1 + 1 := ⟨_, rfl⟩
  have HNE : Hid (w.heap.size ≤ Y ∧ w.heap.size ≤ Z ∧ w.heap.size ≤ A ∧ Y ≠ Z ∧ Y ≠ A ∧ Z ≠ A) := ⟨by omega, by omega, by omega, by omega, by omega, by omega⟩
  rw [← hnY] at hqY
  rw [← hnZ] at hqZ
  rw [← hnA] at hqA
  rw [show (Value.pointer (some { block := w.heap.size, off := 0 })) = Value.pointer (some { block := Y, off := 0 }) by rw [hnY], show (Value.pointer (some { block := w.heap.size + 1, off := 0 })) = Value.pointer (some { block := Z, off := 0 }) by rw [hnZ], show (Value.pointer (some { block := w.heap.size + 1 + 1, off := 0 })) = Value.pointer (some { block := A, off := 0 }) by rw [hnA]]
  have HQY := hide' hqY
  have HQZ := hide' hqZ
  have HQA := hide' hqA
  have HB1 := hide' hb1
  clear hqY hqZ hqA hb1 hw1 hnY hnZ hnA
  have c0 : w1.cell? ⟨Y, 0, none⟩ = some (.slice a l.length c) := (cells_at HQY.out 0).trans rfl
  have c1 : w1.cell? ⟨Y, 1, none⟩ = some (.int .i64 last) := (cells_at HQY.out 1).trans rfl
  have c2 : w1.cell? ⟨Y, 2, none⟩ = some (.int .i64 armed) := (cells_at HQY.out 2).trans rfl
  have c3 : w1.cell? ⟨Y, 3, none⟩ = some (.int .i64 point) := (cells_at HQY.out 3).trans rfl
  have c4 : w1.cell? ⟨Y, 4, none⟩ = some (.bool want) := (cells_at HQY.out 4).trans rfl
  have c5 : w1.cell? ⟨Y, 5, none⟩ = some (.int .i64 left) := (cells_at HQY.out 5).trans rfl
  have c6 : w1.cell? ⟨Y, 6, none⟩ = some (.int .i64 pat) := (cells_at HQY.out 6).trans rfl
  go_wp2_with fail
  refine (HM.out w1).mono ?_
  rintro e w2 ⟨rfl, hb2⟩
  have HB2 : Hid (Below w.heap.size w w2) := HB1.out.trans (hb2.mono HB1.out.size)
  have HY2 := hide' ((hb2.block Y (lt_heap HQY.out)).trans HQY.out)
  have HZ2 := hide' ((hb2.block Z (lt_heap HQZ.out)).trans HQZ.out)
  have HA2 := hide' ((hb2.block A (lt_heap HQA.out)).trans HQA.out)
  clear hb2 HB1 HQY HQZ HQA HM
  clear c0 c1 c2 c3 c4 c5 c6
  have c0 : w2.cell? ⟨Y, 0, none⟩ = some (.slice a l.length c) := (cells_at HY2.out 0).trans rfl
  have c1 : w2.cell? ⟨Y, 1, none⟩ = some (.int .i64 last) := (cells_at HY2.out 1).trans rfl
  have c2 : w2.cell? ⟨Y, 2, none⟩ = some (.int .i64 armed) := (cells_at HY2.out 2).trans rfl
  have c3 : w2.cell? ⟨Y, 3, none⟩ = some (.int .i64 point) := (cells_at HY2.out 3).trans rfl
  have c4 : w2.cell? ⟨Y, 4, none⟩ = some (.bool want) := (cells_at HY2.out 4).trans rfl
  have c5 : w2.cell? ⟨Y, 5, none⟩ = some (.int .i64 left) := (cells_at HY2.out 5).trans rfl
  have c6 : w2.cell? ⟨Y, 6, none⟩ = some (.int .i64 pat) := (cells_at HY2.out 6).trans rfl
  go_wp2_with fail
  refine (HW.out w2 HB2.out).mono ?_
  rintro e w3 ⟨a1, d1, rfl, ho, hb3⟩
  have HB3 : Hid (Below w.heap.size w w3) := HB2.out.trans (hb3.mono HB2.out.size)
  have HZ3 := hide' ((hb3.block Z (lt_heap HZ2.out)).trans HZ2.out)
  have HA3 := hide' ((hb3.block A (lt_heap HA2.out)).trans HA2.out)
  have HO3 := hide' (own_mono ho HB2.out.size)
  clear ho hb3 HB2 HA2 HY2 HZ2 HW
  clear c0 c1 c2 c3 c4 c5 c6
  go_upto_region 4 with fail
  have HC4 := hide' (alloc_new w3 (.cells #[.slice a1 l.length d1, .int .i64 last, .int .i64 armed, .int .i64 point, .bool want, .int .i64 left, .int .i64 pat] 30))
  have HB4 := hide' (HB3.out.alloc HB3.out.size (.cells #[.slice a1 l.length d1, .int .i64 last, .int .i64 armed, .int .i64 point, .bool want, .int .i64 left, .int .i64 pat] 30))
  have HA4 := hide' ((alloc_old w3 (.cells #[.slice a1 l.length d1, .int .i64 last, .int .i64 armed, .int .i64 point, .bool want, .int .i64 left, .int .i64 pat] 30) (lt_heap HA3.out)).trans HA3.out)
  have HZ4 := hide' ((alloc_old w3 (.cells #[.slice a1 l.length d1, .int .i64 last, .int .i64 armed, .int .i64 point, .bool want, .int .i64 left, .int .i64 pat] 30) (lt_heap HZ3.out)).trans HZ3.out)
  have HO4 := hide' (own_below HO3.out (below_al w3 (.cells #[.slice a1 l.length d1, .int .i64 last, .int .i64 armed, .int .i64 point, .bool want, .int .i64 left, .int .i64 pat] 30)) (Nat.le_refl _))
  have HCA : Hid (w3.heap.size ≠ A) := by have := lt_heap HA3.out; show _ ≠ _; omega
  have HCW : Hid (w.heap.size ≤ w3.heap.size) := HB3.out.size
  obtain ⟨w4, hw4⟩ : ∃ x, x = w3.alloc (.cells #[.slice a1 l.length d1, .int .i64 last, .int .i64 armed, .int .i64 point, .bool want, .int .i64 left, .int .i64 pat] 30) := ⟨_, rfl⟩
  obtain ⟨C, hC⟩ : ∃ x, x = w3.heap.size := ⟨_, rfl⟩
  rw [← hw4] at HC4 HB4 HA4 HZ4 HO4 ⊢
  rw [← hC] at HC4 HCA HCW
  rw [show (Value.pointer (some { block := w3.heap.size, off := 0 })) = Value.pointer (some { block := C, off := 0 }) by rw [hC]]
  clear hw4 hC HB3 HA3 HZ3 HO3
  have m0 : w4.cell? ⟨Z, 0, none⟩ = some (.int .i64 3) := (cells_at HZ4.out 0).trans rfl
  have m1 : w4.cell? ⟨Z, 1, none⟩ = some (.int .i64 no) := (cells_at HZ4.out 1).trans rfl
  have m2 : w4.cell? ⟨Z, 2, none⟩ = some (.int .i64 pt) := (cells_at HZ4.out 2).trans rfl
  have m3 : w4.cell? ⟨Z, 3, none⟩ = some (.bool wt) := (cells_at HZ4.out 3).trans rfl
  go_wp2_with fail
  refine (HI.out _).mono ?_
  rintro e w9 ⟨rfl, rfl⟩
  clear HI
  go_upto_region 9 with fail
  have HM5 := hide' (alloc_new w9 (.cells #[.int .i64 3, .int .i64 no, .int .i64 pt, .bool wt] 41))
  have HB5 := hide' (HB4.out.alloc HB4.out.size (.cells #[.int .i64 3, .int .i64 no, .int .i64 pt, .bool wt] 41))
  have HA5 := hide' ((alloc_old w9 (.cells #[.int .i64 3, .int .i64 no, .int .i64 pt, .bool wt] 41) (lt_heap HA4.out)).trans HA4.out)
  have HZ5 := hide' ((alloc_old w9 (.cells #[.int .i64 3, .int .i64 no, .int .i64 pt, .bool wt] 41) (lt_heap HZ4.out)).trans HZ4.out)
  have HC5 := hide' ((alloc_old w9 (.cells #[.int .i64 3, .int .i64 no, .int .i64 pt, .bool wt] 41) (lt_heap HC4.out)).trans HC4.out)
  have HO5 := hide' (own_below HO4.out (below_al w9 (.cells #[.int .i64 3, .int .i64 no, .int .i64 pt, .bool wt] 41)) (Nat.le_refl _))
  have HMW : Hid (w.heap.size ≤ w9.heap.size ∧ C ≠ w9.heap.size ∧ A ≠ w9.heap.size ∧ Z ≠ w9.heap.size) := ⟨HB4.out.size, by have := lt_heap HC4.out; omega, by have := lt_heap HA4.out; omega, by have := lt_heap HZ4.out; omega⟩
  obtain ⟨w5, hw5⟩ : ∃ x, x = w9.alloc (.cells #[.int .i64 3, .int .i64 no, .int .i64 pt, .bool wt] 41) := ⟨_, rfl⟩
  obtain ⟨M, hM⟩ : ∃ x, x = w9.heap.size := ⟨_, rfl⟩
  rw [← hw5] at HM5 HB5 HA5 HZ5 HC5 HO5 ⊢
  rw [← hM] at HM5 HMW
  rw [show (Value.pointer (some { block := w9.heap.size, off := 0 })) = Value.pointer (some { block := M, off := 0 }) by rw [hM]]
  clear hw5 hM HB4 HA4 HZ4 HC4 HO4
  clear m0 m1 m2 m3
  have hx := HX.out
  clear HX HZ
  have m0 : w5.cell? ⟨Z, 0, none⟩ = some (.int .i64 3) := (cells_at HZ5.out 0).trans rfl
  have m1 : w5.cell? ⟨Z, 1, none⟩ = some (.int .i64 no) := (cells_at HZ5.out 1).trans rfl
  have m2 : w5.cell? ⟨Z, 2, none⟩ = some (.int .i64 pt) := (cells_at HZ5.out 2).trans rfl
  have m3 : w5.cell? ⟨Z, 3, none⟩ = some (.bool wt) := (cells_at HZ5.out 3).trans rfl
  have c0 : w5.cell? ⟨C, 0, none⟩ = some (.slice a1 l.length d1) := (cells_at HC5.out 0).trans rfl
  have c1 : w5.cell? ⟨C, 1, none⟩ = some (.int .i64 last) := (cells_at HC5.out 1).trans rfl
  have c2 : w5.cell? ⟨C, 2, none⟩ = some (.int .i64 armed) := (cells_at HC5.out 2).trans rfl
  have c3 : w5.cell? ⟨C, 3, none⟩ = some (.int .i64 point) := (cells_at HC5.out 3).trans rfl
  have c4 : w5.cell? ⟨C, 4, none⟩ = some (.bool want) := (cells_at HC5.out 4).trans rfl
  have c5 : w5.cell? ⟨C, 5, none⟩ = some (.int .i64 left) := (cells_at HC5.out 5).trans rfl
  have c6 : w5.cell? ⟨C, 6, none⟩ = some (.int .i64 pat) := (cells_at HC5.out 6).trans rfl
  obtain ⟨hx1, hx2⟩ := hx
  have hne : no ≠ last := by omega
  have hnl : ¬ no < last := by omega
  have hb1 : (armed != no) = true := by simp [hx2]
  have n0 : w5.cell? ⟨M, 0, none⟩ = some (.int .i64 3) := (cells_at HM5.out 0).trans rfl
  have z0 : w5.frozen? ⟨M, 0, none⟩ = false := frozen_no HM5.out _
  go_upto_region 25 with fail
  have HM6 : Hid ((w5.setCell ⟨M, 0, none⟩ (.int .i64 5)).heap[M]? = some (.cells #[.int .i64 5, .int .i64 no, .int .i64 pt, .bool wt] 41 (0, 0))) := (set_any HM5.out 0 _).trans (by simp only [List.setIfInBounds_toArray, List.set_cons_zero])
  have HC6 := hide' ((Below.heap_setCell w5 ⟨M, 0, none⟩ (.int .i64 5) C HMW.out.2.1).trans HC5.out)
  have HA6 := hide' ((Below.heap_setCell w5 ⟨M, 0, none⟩ (.int .i64 5) A HMW.out.2.2.1).trans HA5.out)
  have HO6 := hide' (own_keep HO5.out (keep_set HM5.out 0 (.int .i64 5)) (by decide))
  have HB6 : Hid (Below w.heap.size w (w5.setCell ⟨M, 0, none⟩ (.int .i64 5))) := HB5.out.setCell (p := ⟨M, 0, none⟩) HMW.out.1 _
  obtain ⟨w6, hw6⟩ : ∃ x, x = w5.setCell ⟨M, 0, none⟩ (.int .i64 5) := ⟨_, rfl⟩
  rw [← hw6] at HM6 HC6 HA6 HO6 HB6 ⊢
  clear hw6 HM5 HC5 HA5 HO5 HB5 HZ5 n0 z0
  clear m0 m1 m2 m3 c0 c1 c2 c3 c4 c5 c6
  clear hne hnl hx1 hx2 hb1
  refine wp_region_tail (fun W => W.heap[C]? = some (.cells #[.slice a1 l.length d1, .int .i64 last, .int .i64 armed, .int .i64 point, .bool want, .int .i64 left, .int .i64 pat] 30 (0, 0)) ∧ W.heap[M]? = some (.cells #[.int .i64 5, .int .i64 no, .int .i64 pt, .bool wt] 41 (0, 0))) 4 (by kernel_rfl) ?_
  refine wpAnyT_letter (fun W => (W.heap[C]? = some (.cells #[.slice a1 l.length d1, .int .i64 last, .int .i64 armed, .int .i64 point, .bool want, .int .i64 left, .int .i64 pat] 30 (0, 0)) ∧ W.heap[M]? = some (.cells #[.int .i64 5, .int .i64 no, .int .i64 pt, .bool wt] 41 (0, 0))) ∧ W.heap[A]? = some (.cells #[.slice none 0 0, .int .i64 0, .int .i64 0, .int .i64 0, .bool false, .int .i64 0, .int .i64 0] 30 (0, 0)) ∧ W.ownsRow w.heap.size 4 1 (.slice a1 l.length d1) l.length (l.map Value.bool) ∧ Below w.heap.size w W ∧ w.heap.size ≤ W.heap.size) ⟨⟨HC6.out, HM6.out⟩, HA6.out, own_drewN HO6.out 1, HB6.out.drew, HB6.out.size⟩ ?_
  rintro w7 ⟨⟨hC7, hM7⟩, hA7, hO7, hB7⟩
  have HC7 := hide' hC7
  have HM7 := hide' hM7
  have HA7 := hide' hA7
  have HO7 := hide' hO7
  have HB7 := hide' hB7
  clear hC7 hM7 hA7 hO7 hB7 HC6 HM6 HA6 HO6 HB6
  refine wpAnyD_takeAt 0 (some 105) (v := ?_) rfl (by kernel_rfl) (by kernel_rfl) (by kernel_rfl) (by kernel_rfl) (by kernel_rfl) (fun _ _ _ h => h) (by exact ⟨HC7.out, HM7.out⟩) (fun o hop => ?_) ?_
  rotate_left
  · injection hop with hop
    subst hop
    refine ⟨rfl, fun W hW => ?_⟩
    obtain ⟨s0, s1⟩ := hW
    have y0 : W.cell? ⟨C, 0, none⟩ = some (.slice a1 l.length d1) := (cells_at s0 0).trans rfl
    have y1 : W.cell? ⟨C, 1, none⟩ = some (.int .i64 last) := (cells_at s0 1).trans rfl
    have y2 : W.cell? ⟨C, 2, none⟩ = some (.int .i64 armed) := (cells_at s0 2).trans rfl
    have y3 : W.cell? ⟨C, 3, none⟩ = some (.int .i64 point) := (cells_at s0 3).trans rfl
    have y4 : W.cell? ⟨C, 4, none⟩ = some (.bool want) := (cells_at s0 4).trans rfl
    have y5 : W.cell? ⟨C, 5, none⟩ = some (.int .i64 left) := (cells_at s0 5).trans rfl
    have y6 : W.cell? ⟨C, 6, none⟩ = some (.int .i64 pat) := (cells_at s0 6).trans rfl
    clear s0 s1
    go_simp
    try rfl
  try simp only [Act.put, List.setIfInBounds_toArray, List.set_cons_zero, List.set_cons_succ]
  refine wpAnyD_takeAt 1 (some 106) (v := ?_) rfl (by kernel_rfl) (by kernel_rfl) (by kernel_rfl) (by kernel_rfl) (by kernel_rfl) (fun _ _ _ h => h) (by exact ⟨HC7.out, HM7.out⟩) (fun o hop => ?_) ?_
  rotate_left
  · injection hop with hop
    subst hop
    refine ⟨rfl, fun W hW => ?_⟩
    obtain ⟨s0, s1⟩ := hW
    have y0 : W.cell? ⟨M, 0, none⟩ = some (.int .i64 5) := (cells_at s1 0).trans rfl
    have y1 : W.cell? ⟨M, 1, none⟩ = some (.int .i64 no) := (cells_at s1 1).trans rfl
    have y2 : W.cell? ⟨M, 2, none⟩ = some (.int .i64 pt) := (cells_at s1 2).trans rfl
    have y3 : W.cell? ⟨M, 3, none⟩ = some (.bool wt) := (cells_at s1 3).trans rfl
    clear s0 s1
    go_simp
    try rfl
  try simp only [Act.put, List.setIfInBounds_toArray, List.set_cons_zero, List.set_cons_succ]
  have b0 : w7.cell? ⟨A, 0, none⟩ = some (.slice none 0 0) := (cells_at HA7.out 0).trans rfl
  have b1 : w7.cell? ⟨A, 1, none⟩ = some (.int .i64 0) := (cells_at HA7.out 1).trans rfl
  have b2 : w7.cell? ⟨A, 2, none⟩ = some (.int .i64 0) := (cells_at HA7.out 2).trans rfl
  have b3 : w7.cell? ⟨A, 3, none⟩ = some (.int .i64 0) := (cells_at HA7.out 3).trans rfl
  have b4 : w7.cell? ⟨A, 4, none⟩ = some (.bool false) := (cells_at HA7.out 4).trans rfl
  have b5 : w7.cell? ⟨A, 5, none⟩ = some (.int .i64 0) := (cells_at HA7.out 5).trans rfl
  have b6 : w7.cell? ⟨A, 6, none⟩ = some (.int .i64 0) := (cells_at HA7.out 6).trans rfl
  have e0 : w7.frozen? ⟨A, 0, none⟩ = false := frozen_no HA7.out _
  have e1 : w7.frozen? ⟨A, 1, none⟩ = false := frozen_no HA7.out _
  have e2 : w7.frozen? ⟨A, 2, none⟩ = false := frozen_no HA7.out _
  have e3 : w7.frozen? ⟨A, 3, none⟩ = false := frozen_no HA7.out _
  have e4 : w7.frozen? ⟨A, 4, none⟩ = false := frozen_no HA7.out _
  have e5 : w7.frozen? ⟨A, 5, none⟩ = false := frozen_no HA7.out _
  have e6 : w7.frozen? ⟨A, 6, none⟩ = false := frozen_no HA7.out _
  refine wpAnyT_two (i := 2) (j := 3) (by kernel_rfl) rfl rfl rfl rfl (fun K' hK => ?_) (fun K' hK => ?_)
  · have HF := hide' (reply_a (T := ⟨last, armed, point, want, left, pat⟩) (m := ⟨5, no, pt, wt⟩) (v := .slice a1 l.length d1) HC7.out HM7.out HA7.out HO7.out HB7.out.1 HNE.out.2.2.1 HB7.out.2 HCA.out)
    unfold StM.cells MsM.cells at HF
    simp only at HF
    clear HC7 HM7 HO7 HB7
    go_simp
    refine hK.out _ _ (fun _ => ⟨HF.out.1, HF.out.2.1⟩) ?_
    clear hK K'
    try simp only [Act.put, List.setIfInBounds_toArray, List.set_cons_zero, List.set_cons_succ]
    have g0 := later b0
    have g1 := later b1
    have g2 := later b2
    have g3 := later b3
    have g4 := later b4
    have g5 := later b5
    have g6 := later b6
    have h0 : ∀ o, (w7.alloc o).frozen? ⟨A, 0, none⟩ = false := fun o => frozen_no ((alloc_old w7 o (lt_heap HA7.out)).trans HA7.out) _
    have h1 : ∀ o, (w7.alloc o).frozen? ⟨A, 1, none⟩ = false := fun o => frozen_no ((alloc_old w7 o (lt_heap HA7.out)).trans HA7.out) _
    have h2 : ∀ o, (w7.alloc o).frozen? ⟨A, 2, none⟩ = false := fun o => frozen_no ((alloc_old w7 o (lt_heap HA7.out)).trans HA7.out) _
    have h3 : ∀ o, (w7.alloc o).frozen? ⟨A, 3, none⟩ = false := fun o => frozen_no ((alloc_old w7 o (lt_heap HA7.out)).trans HA7.out) _
    have h4 : ∀ o, (w7.alloc o).frozen? ⟨A, 4, none⟩ = false := fun o => frozen_no ((alloc_old w7 o (lt_heap HA7.out)).trans HA7.out) _
    have h5 : ∀ o, (w7.alloc o).frozen? ⟨A, 5, none⟩ = false := fun o => frozen_no ((alloc_old w7 o (lt_heap HA7.out)).trans HA7.out) _
    have h6 : ∀ o, (w7.alloc o).frozen? ⟨A, 6, none⟩ = false := fun o => frozen_no ((alloc_old w7 o (lt_heap HA7.out)).trans HA7.out) _
    clear HA7
    refine wpAnyT_one (i := 3) (by kernel_rfl) rfl rfl (fun K' hK => ?_)
    go_simp
    refine hK.out _ _ (fun _ => ⟨HF.out.2.2.1, HF.out.2.2.2.1⟩) ?_
    clear hK K'
    try simp only [Act.put, List.setIfInBounds_toArray, List.set_cons_zero, List.set_cons_succ]
    refine wpAnyT_one (i := 4) (by kernel_rfl) rfl rfl (fun K' hK => ?_)
    go_simp
    refine hK.out _ _ (fun h => absurd rfl h) ?_
    clear hK K'
    try simp only [Act.put, List.setIfInBounds_toArray, List.set_cons_zero, List.set_cons_succ]
    refine wpAnyT_one (i := 5) (by kernel_rfl) rfl rfl (fun K' hK => ?_)
    go_simp
    refine hK.out _ _ (fun _ => ⟨HF.out.2.2.1, HF.out.2.2.2.1⟩) ?_
    clear hK K'
    try simp only [Act.put, List.setIfInBounds_toArray, List.set_cons_zero, List.set_cons_succ]
    refine wpAnyT_done (by kernel_rfl) ?_ _
    have HFF := hide' HF.out.2.2.2.2
    clear HF g0 g1 g2 g3 g4 g5 g6 h0 h1 h2 h3 h4 h5 h6 b0 b1 b2 b3 b4 b5 b6 e0 e1 e2 e3 e4 e5 e6
    go_wp2
    refine bodyPost_ret (results_cell_row2 rfl _ _ A 30 _ (0, 0) _ rfl HFF.out.1 Try.underlying30 rfl (by kernel_rfl)) rfl ?_
    exact ⟨a1, d1, _, rfl, own_mono HFF.out.2.1 (Nat.zero_le _), HFF.out.2.2.1, HFF.out.2.2.2⟩
  · have HF := hide' (reply_b (T := ⟨last, armed, point, want, left, pat⟩) (m := ⟨5, no, pt, wt⟩) (v := .slice a1 l.length d1) HC7.out HM7.out HA7.out HO7.out HB7.out.1 HNE.out.2.2.1 HB7.out.2 HCA.out)
    unfold StM.cells MsM.cells at HF
    simp only at HF
    clear HC7 HM7 HO7 HB7 HA7
    go_simp
    refine hK.out _ _ (fun _ => ⟨HF.out.1, HF.out.2.1⟩) ?_
    clear hK K'
    try simp only [Act.put, List.setIfInBounds_toArray, List.set_cons_zero, List.set_cons_succ]
    refine wpAnyT_one (i := 2) (by kernel_rfl) rfl rfl (fun K' hK => ?_)
    go_simp
    refine hK.out _ _ (fun _ => ⟨HF.out.2.2.1, HF.out.2.2.2.1⟩) ?_
    clear hK K'
    try simp only [Act.put, List.setIfInBounds_toArray, List.set_cons_zero, List.set_cons_succ]
    refine wpAnyT_one (i := 4) (by kernel_rfl) rfl rfl (fun K' hK => ?_)
    go_simp
    refine hK.out _ _ (fun h => absurd rfl h) ?_
    clear hK K'
    try simp only [Act.put, List.setIfInBounds_toArray, List.set_cons_zero, List.set_cons_succ]
    refine wpAnyT_one (i := 5) (by kernel_rfl) rfl rfl (fun K' hK => ?_)
    go_simp
    refine hK.out _ _ (fun _ => ⟨HF.out.2.2.1, HF.out.2.2.2.1⟩) ?_
    clear hK K'
    try simp only [Act.put, List.setIfInBounds_toArray, List.set_cons_zero, List.set_cons_succ]
    refine wpAnyT_done (by kernel_rfl) ?_ _
    have HFF := hide' HF.out.2.2.2.2
    clear HF b0 b1 b2 b3 b4 b5 b6 e0 e1 e2 e3 e4 e5 e6
    go_wp2
    refine bodyPost_ret (results_cell_row2 rfl _ _ A 30 _ (0, 0) _ rfl HFF.out.1 Try.underlying30 rfl (by kernel_rfl)) rfl ?_
    exact ⟨a1, d1, _, rfl, own_mono HFF.out.2.1 (Nat.zero_le _), HFF.out.2.2.1, HFF.out.2.2.2⟩
set_option maxRecDepth 100000 in
set_option maxHeartbeats 4000000 in
theorem Msg_i2 (S : StM) (m : MsM) (l : List Bool) (n c : Nat) (a : Option Addr) (w : World) (hr : RowAt w (.slice a n c) n 1 (l.map Value.bool)) (hn : n ≤ 2000000) (l1 : List Bool) (T : StM) (rs : List MsM) (code : Int) (hR : mayS n S = true ∧ m.kind = 3 ∧ (0 ≤ m.no ∧ m.no ≤ 1000000000) ∧ (S.last < m.no ∧ m.no = S.armed ∧ S.point ≠ m.pt) ∧ l1 = l ∧ T = S ∧ rs = replyL m 5 ∧ code = 0) : Calls Try.prog 16 #[.agg (S.cells (.slice a n c)), .agg m.cells] w (HearO l1 T rs code w) := by
  have hln : l.length = n := by have h := hr.1; simpa using h
  subst hln
  have HR := hide' hR
  have HM := hide' (fun w' => StationMay_any S l.length c a w' (by omega))
  have HZ := hide' (fun (x : World) (A : Nat) (h : x.heap[A]? = some (.cells #[.slice none 0 0, .int .i64 0, .int .i64 0, .int .i64 0, .bool false, .int .i64 0, .int .i64 0] 30 (0, 0))) => put7 (S0 := StM.nought) h)
  have HW := hide' (fun w' (hb : Below w.heap.size w w') => StationOf_any S l l.length c a w' (hr.below hb (Nat.le_refl _)) hn)
  have HI := hide' (inBounds_any m.no 0 1000000000)
  obtain ⟨h0, hk, hno, hx, hl, hT, hrs, rfl⟩ := HR.out
  obtain rfl := hl.symm
  obtain rfl := hT.symm
  rw [show replyL m 5 = [⟨5, m.no, m.pt, m.wt⟩] from if_neg (by decide)] at hrs
  subst hrs
  rw [h0] at HM
  rw [show (decide (0 ≤ m.no) && decide (m.no ≤ 1000000000)) = true by simp; omega] at HI
  clear hR HR h0 hr hno
  obtain ⟨last, armed, point, want, left, pat⟩ := S
  obtain ⟨kind, no, pt, wt⟩ := m
  simp only at hk hx
  obtain rfl := hk
  unfold HearO
  unfold StM.cells at HM HZ HW ⊢
  unfold MsM.cells
  simp only at HM HZ HW HI ⊢
  have HX := hide' hx
  clear hx hn
  go_enter Try.func16, Try.ntmps16
  go_upto_region 1 with fail
  have hqY := (alloc_old ((w.alloc (.cells #[.slice a l.length c, .int .i64 last, .int .i64 armed, .int .i64 point, .bool want, .int .i64 left, .int .i64 pat] 30)).alloc (.cells #[.int .i64 3, .int .i64 no, .int .i64 pt, .bool wt] 41)) (.cells #[.slice none 0 0, .int .i64 0, .int .i64 0, .int .i64 0, .bool false, .int .i64 0, .int .i64 0] 30) (lt_heap ((alloc_old (w.alloc (.cells #[.slice a l.length c, .int .i64 last, .int .i64 armed, .int .i64 point, .bool want, .int .i64 left, .int .i64 pat] 30)) (.cells #[.int .i64 3, .int .i64 no, .int .i64 pt, .bool wt] 41) (lt_heap (alloc_new w (.cells #[.slice a l.length c, .int .i64 last, .int .i64 armed, .int .i64 point, .bool want, .int .i64 left, .int .i64 pat] 30)))).trans (alloc_new w (.cells #[.slice a l.length c, .int .i64 last, .int .i64 armed, .int .i64 point, .bool want, .int .i64 left, .int .i64 pat] 30))))).trans ((alloc_old (w.alloc (.cells #[.slice a l.length c, .int .i64 last, .int .i64 armed, .int .i64 point, .bool want, .int .i64 left, .int .i64 pat] 30)) (.cells #[.int .i64 3, .int .i64 no, .int .i64 pt, .bool wt] 41) (lt_heap (alloc_new w (.cells #[.slice a l.length c, .int .i64 last, .int .i64 armed, .int .i64 point, .bool want, .int .i64 left, .int .i64 pat] 30)))).trans (alloc_new w (.cells #[.slice a l.length c, .int .i64 last, .int .i64 armed, .int .i64 point, .bool want, .int .i64 left, .int .i64 pat] 30)))
  have hqZ := (alloc_old ((w.alloc (.cells #[.slice a l.length c, .int .i64 last, .int .i64 armed, .int .i64 point, .bool want, .int .i64 left, .int .i64 pat] 30)).alloc (.cells #[.int .i64 3, .int .i64 no, .int .i64 pt, .bool wt] 41)) (.cells #[.slice none 0 0, .int .i64 0, .int .i64 0, .int .i64 0, .bool false, .int .i64 0, .int .i64 0] 30) (lt_heap (alloc_new (w.alloc (.cells #[.slice a l.length c, .int .i64 last, .int .i64 armed, .int .i64 point, .bool want, .int .i64 left, .int .i64 pat] 30)) (.cells #[.int .i64 3, .int .i64 no, .int .i64 pt, .bool wt] 41)))).trans (alloc_new (w.alloc (.cells #[.slice a l.length c, .int .i64 last, .int .i64 armed, .int .i64 point, .bool want, .int .i64 left, .int .i64 pat] 30)) (.cells #[.int .i64 3, .int .i64 no, .int .i64 pt, .bool wt] 41))
  have hqA := alloc_new ((w.alloc (.cells #[.slice a l.length c, .int .i64 last, .int .i64 armed, .int .i64 point, .bool want, .int .i64 left, .int .i64 pat] 30)).alloc (.cells #[.int .i64 3, .int .i64 no, .int .i64 pt, .bool wt] 41)) (.cells #[.slice none 0 0, .int .i64 0, .int .i64 0, .int .i64 0, .bool false, .int .i64 0, .int .i64 0] 30)
  have hb1 := ((below_al w (.cells #[.slice a l.length c, .int .i64 last, .int .i64 armed, .int .i64 point, .bool want, .int .i64 left, .int .i64 pat] 30)).alloc (below_al w (.cells #[.slice a l.length c, .int .i64 last, .int .i64 armed, .int .i64 point, .bool want, .int .i64 left, .int .i64 pat] 30)).size (.cells #[.int .i64 3, .int .i64 no, .int .i64 pt, .bool wt] 41)).alloc ((below_al w (.cells #[.slice a l.length c, .int .i64 last, .int .i64 armed, .int .i64 point, .bool want, .int .i64 left, .int .i64 pat] 30)).alloc (below_al w (.cells #[.slice a l.length c, .int .i64 last, .int .i64 armed, .int .i64 point, .bool want, .int .i64 left, .int .i64 pat] 30)).size (.cells #[.int .i64 3, .int .i64 no, .int .i64 pt, .bool wt] 41)).size (.cells #[.slice none 0 0, .int .i64 0, .int .i64 0, .int .i64 0, .bool false, .int .i64 0, .int .i64 0] 30)
  rw [show (w.alloc (.cells #[.slice a l.length c, .int .i64 last, .int .i64 armed, .int .i64 point, .bool want, .int .i64 left, .int .i64 pat] 30)).heap.size = w.heap.size + 1 from by simp only [World.size_alloc]] at hqZ
  rw [show ((w.alloc (.cells #[.slice a l.length c, .int .i64 last, .int .i64 armed, .int .i64 point, .bool want, .int .i64 left, .int .i64 pat] 30)).alloc (.cells #[.int .i64 3, .int .i64 no, .int .i64 pt, .bool wt] 41)).heap.size = w.heap.size + 1 + 1 from by simp only [World.size_alloc]] at hqA
  obtain ⟨w1, hw1⟩ : ∃ x, x = (((w.alloc (.cells #[.slice a l.length c, .int .i64 last, .int .i64 armed, .int .i64 point, .bool want, .int .i64 left, .int .i64 pat] 30)).alloc (.cells #[.int .i64 3, .int .i64 no, .int .i64 pt, .bool wt] 41)).alloc (.cells #[.slice none 0 0, .int .i64 0, .int .i64 0, .int .i64 0, .bool false, .int .i64 0, .int .i64 0] 30)) := ⟨_, rfl⟩
  rw [← hw1] at hqY hqZ hqA hb1 ⊢
  obtain ⟨Y, hnY⟩ : ∃ x, x = w.heap.size := ⟨_, rfl⟩
  obtain ⟨Z, hnZ⟩ : ∃ x, x = w.heap.size + 1 := ⟨_, rfl⟩
  obtain ⟨A, hnA⟩ : ∃ x, x = w.heap.size + 1 + 1 := ⟨_, rfl⟩
  have HNE : Hid (w.heap.size ≤ Y ∧ w.heap.size ≤ Z ∧ w.heap.size ≤ A ∧ Y ≠ Z ∧ Y ≠ A ∧ Z ≠ A) := ⟨by omega, by omega, by omega, by omega, by omega, by omega⟩
  rw [← hnY] at hqY
  rw [← hnZ] at hqZ
  rw [← hnA] at hqA
  rw [show (Value.pointer (some { block := w.heap.size, off := 0 })) = Value.pointer (some { block := Y, off := 0 }) by rw [hnY], show (Value.pointer (some { block := w.heap.size + 1, off := 0 })) = Value.pointer (some { block := Z, off := 0 }) by rw [hnZ], show (Value.pointer (some { block := w.heap.size + 1 + 1, off := 0 })) = Value.pointer (some { block := A, off := 0 }) by rw [hnA]]
  have HQY := hide' hqY
  have HQZ := hide' hqZ
  have HQA := hide' hqA
  have HB1 := hide' hb1
  clear hqY hqZ hqA hb1 hw1 hnY hnZ hnA
  have c0 : w1.cell? ⟨Y, 0, none⟩ = some (.slice a l.length c) := (cells_at HQY.out 0).trans rfl
  have c1 : w1.cell? ⟨Y, 1, none⟩ = some (.int .i64 last) := (cells_at HQY.out 1).trans rfl
  have c2 : w1.cell? ⟨Y, 2, none⟩ = some (.int .i64 armed) := (cells_at HQY.out 2).trans rfl
  have c3 : w1.cell? ⟨Y, 3, none⟩ = some (.int .i64 point) := (cells_at HQY.out 3).trans rfl
  have c4 : w1.cell? ⟨Y, 4, none⟩ = some (.bool want) := (cells_at HQY.out 4).trans rfl
  have c5 : w1.cell? ⟨Y, 5, none⟩ = some (.int .i64 left) := (cells_at HQY.out 5).trans rfl
  have c6 : w1.cell? ⟨Y, 6, none⟩ = some (.int .i64 pat) := (cells_at HQY.out 6).trans rfl
  go_wp2_with fail
  refine (HM.out w1).mono ?_
  rintro e w2 ⟨rfl, hb2⟩
  have HB2 : Hid (Below w.heap.size w w2) := HB1.out.trans (hb2.mono HB1.out.size)
  have HY2 := hide' ((hb2.block Y (lt_heap HQY.out)).trans HQY.out)
  have HZ2 := hide' ((hb2.block Z (lt_heap HQZ.out)).trans HQZ.out)
  have HA2 := hide' ((hb2.block A (lt_heap HQA.out)).trans HQA.out)
  clear hb2 HB1 HQY HQZ HQA HM
  clear c0 c1 c2 c3 c4 c5 c6
  have c0 : w2.cell? ⟨Y, 0, none⟩ = some (.slice a l.length c) := (cells_at HY2.out 0).trans rfl
  have c1 : w2.cell? ⟨Y, 1, none⟩ = some (.int .i64 last) := (cells_at HY2.out 1).trans rfl
  have c2 : w2.cell? ⟨Y, 2, none⟩ = some (.int .i64 armed) := (cells_at HY2.out 2).trans rfl
  have c3 : w2.cell? ⟨Y, 3, none⟩ = some (.int .i64 point) := (cells_at HY2.out 3).trans rfl
  have c4 : w2.cell? ⟨Y, 4, none⟩ = some (.bool want) := (cells_at HY2.out 4).trans rfl
  have c5 : w2.cell? ⟨Y, 5, none⟩ = some (.int .i64 left) := (cells_at HY2.out 5).trans rfl
  have c6 : w2.cell? ⟨Y, 6, none⟩ = some (.int .i64 pat) := (cells_at HY2.out 6).trans rfl
  go_wp2_with fail
  refine (HW.out w2 HB2.out).mono ?_
  rintro e w3 ⟨a1, d1, rfl, ho, hb3⟩
  have HB3 : Hid (Below w.heap.size w w3) := HB2.out.trans (hb3.mono HB2.out.size)
  have HZ3 := hide' ((hb3.block Z (lt_heap HZ2.out)).trans HZ2.out)
  have HA3 := hide' ((hb3.block A (lt_heap HA2.out)).trans HA2.out)
  have HO3 := hide' (own_mono ho HB2.out.size)
  clear ho hb3 HB2 HA2 HY2 HZ2 HW
  clear c0 c1 c2 c3 c4 c5 c6
  go_upto_region 4 with fail
  have HC4 := hide' (alloc_new w3 (.cells #[.slice a1 l.length d1, .int .i64 last, .int .i64 armed, .int .i64 point, .bool want, .int .i64 left, .int .i64 pat] 30))
  have HB4 := hide' (HB3.out.alloc HB3.out.size (.cells #[.slice a1 l.length d1, .int .i64 last, .int .i64 armed, .int .i64 point, .bool want, .int .i64 left, .int .i64 pat] 30))
  have HA4 := hide' ((alloc_old w3 (.cells #[.slice a1 l.length d1, .int .i64 last, .int .i64 armed, .int .i64 point, .bool want, .int .i64 left, .int .i64 pat] 30) (lt_heap HA3.out)).trans HA3.out)
  have HZ4 := hide' ((alloc_old w3 (.cells #[.slice a1 l.length d1, .int .i64 last, .int .i64 armed, .int .i64 point, .bool want, .int .i64 left, .int .i64 pat] 30) (lt_heap HZ3.out)).trans HZ3.out)
  have HO4 := hide' (own_below HO3.out (below_al w3 (.cells #[.slice a1 l.length d1, .int .i64 last, .int .i64 armed, .int .i64 point, .bool want, .int .i64 left, .int .i64 pat] 30)) (Nat.le_refl _))
  have HCA : Hid (w3.heap.size ≠ A) := by have := lt_heap HA3.out; show _ ≠ _; omega
  have HCW : Hid (w.heap.size ≤ w3.heap.size) := HB3.out.size
  obtain ⟨w4, hw4⟩ : ∃ x, x = w3.alloc (.cells #[.slice a1 l.length d1, .int .i64 last, .int .i64 armed, .int .i64 point, .bool want, .int .i64 left, .int .i64 pat] 30) := ⟨_, rfl⟩
  obtain ⟨C, hC⟩ : ∃ x, x = w3.heap.size := ⟨_, rfl⟩
  rw [← hw4] at HC4 HB4 HA4 HZ4 HO4 ⊢
  rw [← hC] at HC4 HCA HCW
  rw [show (Value.pointer (some { block := w3.heap.size, off := 0 })) = Value.pointer (some { block := C, off := 0 }) by rw [hC]]
  clear hw4 hC HB3 HA3 HZ3 HO3
  have m0 : w4.cell? ⟨Z, 0, none⟩ = some (.int .i64 3) := (cells_at HZ4.out 0).trans rfl
  have m1 : w4.cell? ⟨Z, 1, none⟩ = some (.int .i64 no) := (cells_at HZ4.out 1).trans rfl
  have m2 : w4.cell? ⟨Z, 2, none⟩ = some (.int .i64 pt) := (cells_at HZ4.out 2).trans rfl
  have m3 : w4.cell? ⟨Z, 3, none⟩ = some (.bool wt) := (cells_at HZ4.out 3).trans rfl
  go_wp2_with fail
  refine (HI.out _).mono ?_
  rintro e w9 ⟨rfl, rfl⟩
  clear HI
  go_upto_region 9 with fail
  have HM5 := hide' (alloc_new w9 (.cells #[.int .i64 3, .int .i64 no, .int .i64 pt, .bool wt] 41))
  have HB5 := hide' (HB4.out.alloc HB4.out.size (.cells #[.int .i64 3, .int .i64 no, .int .i64 pt, .bool wt] 41))
  have HA5 := hide' ((alloc_old w9 (.cells #[.int .i64 3, .int .i64 no, .int .i64 pt, .bool wt] 41) (lt_heap HA4.out)).trans HA4.out)
  have HZ5 := hide' ((alloc_old w9 (.cells #[.int .i64 3, .int .i64 no, .int .i64 pt, .bool wt] 41) (lt_heap HZ4.out)).trans HZ4.out)
  have HC5 := hide' ((alloc_old w9 (.cells #[.int .i64 3, .int .i64 no, .int .i64 pt, .bool wt] 41) (lt_heap HC4.out)).trans HC4.out)
  have HO5 := hide' (own_below HO4.out (below_al w9 (.cells #[.int .i64 3, .int .i64 no, .int .i64 pt, .bool wt] 41)) (Nat.le_refl _))
  have HMW : Hid (w.heap.size ≤ w9.heap.size ∧ C ≠ w9.heap.size ∧ A ≠ w9.heap.size ∧ Z ≠ w9.heap.size) := ⟨HB4.out.size, by have := lt_heap HC4.out; omega, by have := lt_heap HA4.out; omega, by have := lt_heap HZ4.out; omega⟩
  obtain ⟨w5, hw5⟩ : ∃ x, x = w9.alloc (.cells #[.int .i64 3, .int .i64 no, .int .i64 pt, .bool wt] 41) := ⟨_, rfl⟩
  obtain ⟨M, hM⟩ : ∃ x, x = w9.heap.size := ⟨_, rfl⟩
  rw [← hw5] at HM5 HB5 HA5 HZ5 HC5 HO5 ⊢
  rw [← hM] at HM5 HMW
  rw [show (Value.pointer (some { block := w9.heap.size, off := 0 })) = Value.pointer (some { block := M, off := 0 }) by rw [hM]]
  clear hw5 hM HB4 HA4 HZ4 HC4 HO4
  clear m0 m1 m2 m3
  have hx := HX.out
  clear HX HZ
  have m0 : w5.cell? ⟨Z, 0, none⟩ = some (.int .i64 3) := (cells_at HZ5.out 0).trans rfl
  have m1 : w5.cell? ⟨Z, 1, none⟩ = some (.int .i64 no) := (cells_at HZ5.out 1).trans rfl
  have m2 : w5.cell? ⟨Z, 2, none⟩ = some (.int .i64 pt) := (cells_at HZ5.out 2).trans rfl
  have m3 : w5.cell? ⟨Z, 3, none⟩ = some (.bool wt) := (cells_at HZ5.out 3).trans rfl
  have c0 : w5.cell? ⟨C, 0, none⟩ = some (.slice a1 l.length d1) := (cells_at HC5.out 0).trans rfl
  have c1 : w5.cell? ⟨C, 1, none⟩ = some (.int .i64 last) := (cells_at HC5.out 1).trans rfl
  have c2 : w5.cell? ⟨C, 2, none⟩ = some (.int .i64 armed) := (cells_at HC5.out 2).trans rfl
  have c3 : w5.cell? ⟨C, 3, none⟩ = some (.int .i64 point) := (cells_at HC5.out 3).trans rfl
  have c4 : w5.cell? ⟨C, 4, none⟩ = some (.bool want) := (cells_at HC5.out 4).trans rfl
  have c5 : w5.cell? ⟨C, 5, none⟩ = some (.int .i64 left) := (cells_at HC5.out 5).trans rfl
  have c6 : w5.cell? ⟨C, 6, none⟩ = some (.int .i64 pat) := (cells_at HC5.out 6).trans rfl
  obtain ⟨hx1, rfl, hx2⟩ := hx
  have hne : no ≠ last := by omega
  have hnl : ¬ no < last := by omega
  have hb1 : (point != pt) = true := by simp [hx2]
  have n0 : w5.cell? ⟨M, 0, none⟩ = some (.int .i64 3) := (cells_at HM5.out 0).trans rfl
  have z0 : w5.frozen? ⟨M, 0, none⟩ = false := frozen_no HM5.out _
  go_upto_region 25 with fail
  have HM6 : Hid ((w5.setCell ⟨M, 0, none⟩ (.int .i64 5)).heap[M]? = some (.cells #[.int .i64 5, .int .i64 no, .int .i64 pt, .bool wt] 41 (0, 0))) := (set_any HM5.out 0 _).trans (by simp only [List.setIfInBounds_toArray, List.set_cons_zero])
  have HC6 := hide' ((Below.heap_setCell w5 ⟨M, 0, none⟩ (.int .i64 5) C HMW.out.2.1).trans HC5.out)
  have HA6 := hide' ((Below.heap_setCell w5 ⟨M, 0, none⟩ (.int .i64 5) A HMW.out.2.2.1).trans HA5.out)
  have HO6 := hide' (own_keep HO5.out (keep_set HM5.out 0 (.int .i64 5)) (by decide))
  have HB6 : Hid (Below w.heap.size w (w5.setCell ⟨M, 0, none⟩ (.int .i64 5))) := HB5.out.setCell (p := ⟨M, 0, none⟩) HMW.out.1 _
  obtain ⟨w6, hw6⟩ : ∃ x, x = w5.setCell ⟨M, 0, none⟩ (.int .i64 5) := ⟨_, rfl⟩
  rw [← hw6] at HM6 HC6 HA6 HO6 HB6 ⊢
  clear hw6 HM5 HC5 HA5 HO5 HB5 HZ5 n0 z0
  clear m0 m1 m2 m3 c0 c1 c2 c3 c4 c5 c6
  clear hne hnl hx1 hx2 hb1
  refine wp_region_tail (fun W => W.heap[C]? = some (.cells #[.slice a1 l.length d1, .int .i64 last, .int .i64 no, .int .i64 point, .bool want, .int .i64 left, .int .i64 pat] 30 (0, 0)) ∧ W.heap[M]? = some (.cells #[.int .i64 5, .int .i64 no, .int .i64 pt, .bool wt] 41 (0, 0))) 4 (by kernel_rfl) ?_
  refine wpAnyT_letter (fun W => (W.heap[C]? = some (.cells #[.slice a1 l.length d1, .int .i64 last, .int .i64 no, .int .i64 point, .bool want, .int .i64 left, .int .i64 pat] 30 (0, 0)) ∧ W.heap[M]? = some (.cells #[.int .i64 5, .int .i64 no, .int .i64 pt, .bool wt] 41 (0, 0))) ∧ W.heap[A]? = some (.cells #[.slice none 0 0, .int .i64 0, .int .i64 0, .int .i64 0, .bool false, .int .i64 0, .int .i64 0] 30 (0, 0)) ∧ W.ownsRow w.heap.size 4 1 (.slice a1 l.length d1) l.length (l.map Value.bool) ∧ Below w.heap.size w W ∧ w.heap.size ≤ W.heap.size) ⟨⟨HC6.out, HM6.out⟩, HA6.out, own_drewN HO6.out 1, HB6.out.drew, HB6.out.size⟩ ?_
  rintro w7 ⟨⟨hC7, hM7⟩, hA7, hO7, hB7⟩
  have HC7 := hide' hC7
  have HM7 := hide' hM7
  have HA7 := hide' hA7
  have HO7 := hide' hO7
  have HB7 := hide' hB7
  clear hC7 hM7 hA7 hO7 hB7 HC6 HM6 HA6 HO6 HB6
  refine wpAnyD_takeAt 0 (some 105) (v := ?_) rfl (by kernel_rfl) (by kernel_rfl) (by kernel_rfl) (by kernel_rfl) (by kernel_rfl) (fun _ _ _ h => h) (by exact ⟨HC7.out, HM7.out⟩) (fun o hop => ?_) ?_
  rotate_left
  · injection hop with hop
    subst hop
    refine ⟨rfl, fun W hW => ?_⟩
    obtain ⟨s0, s1⟩ := hW
    have y0 : W.cell? ⟨C, 0, none⟩ = some (.slice a1 l.length d1) := (cells_at s0 0).trans rfl
    have y1 : W.cell? ⟨C, 1, none⟩ = some (.int .i64 last) := (cells_at s0 1).trans rfl
    have y2 : W.cell? ⟨C, 2, none⟩ = some (.int .i64 no) := (cells_at s0 2).trans rfl
    have y3 : W.cell? ⟨C, 3, none⟩ = some (.int .i64 point) := (cells_at s0 3).trans rfl
    have y4 : W.cell? ⟨C, 4, none⟩ = some (.bool want) := (cells_at s0 4).trans rfl
    have y5 : W.cell? ⟨C, 5, none⟩ = some (.int .i64 left) := (cells_at s0 5).trans rfl
    have y6 : W.cell? ⟨C, 6, none⟩ = some (.int .i64 pat) := (cells_at s0 6).trans rfl
    clear s0 s1
    go_simp
    try rfl
  try simp only [Act.put, List.setIfInBounds_toArray, List.set_cons_zero, List.set_cons_succ]
  refine wpAnyD_takeAt 1 (some 106) (v := ?_) rfl (by kernel_rfl) (by kernel_rfl) (by kernel_rfl) (by kernel_rfl) (by kernel_rfl) (fun _ _ _ h => h) (by exact ⟨HC7.out, HM7.out⟩) (fun o hop => ?_) ?_
  rotate_left
  · injection hop with hop
    subst hop
    refine ⟨rfl, fun W hW => ?_⟩
    obtain ⟨s0, s1⟩ := hW
    have y0 : W.cell? ⟨M, 0, none⟩ = some (.int .i64 5) := (cells_at s1 0).trans rfl
    have y1 : W.cell? ⟨M, 1, none⟩ = some (.int .i64 no) := (cells_at s1 1).trans rfl
    have y2 : W.cell? ⟨M, 2, none⟩ = some (.int .i64 pt) := (cells_at s1 2).trans rfl
    have y3 : W.cell? ⟨M, 3, none⟩ = some (.bool wt) := (cells_at s1 3).trans rfl
    clear s0 s1
    go_simp
    try rfl
  try simp only [Act.put, List.setIfInBounds_toArray, List.set_cons_zero, List.set_cons_succ]
  have b0 : w7.cell? ⟨A, 0, none⟩ = some (.slice none 0 0) := (cells_at HA7.out 0).trans rfl
  have b1 : w7.cell? ⟨A, 1, none⟩ = some (.int .i64 0) := (cells_at HA7.out 1).trans rfl
  have b2 : w7.cell? ⟨A, 2, none⟩ = some (.int .i64 0) := (cells_at HA7.out 2).trans rfl
  have b3 : w7.cell? ⟨A, 3, none⟩ = some (.int .i64 0) := (cells_at HA7.out 3).trans rfl
  have b4 : w7.cell? ⟨A, 4, none⟩ = some (.bool false) := (cells_at HA7.out 4).trans rfl
  have b5 : w7.cell? ⟨A, 5, none⟩ = some (.int .i64 0) := (cells_at HA7.out 5).trans rfl
  have b6 : w7.cell? ⟨A, 6, none⟩ = some (.int .i64 0) := (cells_at HA7.out 6).trans rfl
  have e0 : w7.frozen? ⟨A, 0, none⟩ = false := frozen_no HA7.out _
  have e1 : w7.frozen? ⟨A, 1, none⟩ = false := frozen_no HA7.out _
  have e2 : w7.frozen? ⟨A, 2, none⟩ = false := frozen_no HA7.out _
  have e3 : w7.frozen? ⟨A, 3, none⟩ = false := frozen_no HA7.out _
  have e4 : w7.frozen? ⟨A, 4, none⟩ = false := frozen_no HA7.out _
  have e5 : w7.frozen? ⟨A, 5, none⟩ = false := frozen_no HA7.out _
  have e6 : w7.frozen? ⟨A, 6, none⟩ = false := frozen_no HA7.out _
  refine wpAnyT_two (i := 2) (j := 3) (by kernel_rfl) rfl rfl rfl rfl (fun K' hK => ?_) (fun K' hK => ?_)
  · have HF := hide' (reply_a (T := ⟨last, no, point, want, left, pat⟩) (m := ⟨5, no, pt, wt⟩) (v := .slice a1 l.length d1) HC7.out HM7.out HA7.out HO7.out HB7.out.1 HNE.out.2.2.1 HB7.out.2 HCA.out)
    unfold StM.cells MsM.cells at HF
    simp only at HF
    clear HC7 HM7 HO7 HB7
    go_simp
    refine hK.out _ _ (fun _ => ⟨HF.out.1, HF.out.2.1⟩) ?_
    clear hK K'
    try simp only [Act.put, List.setIfInBounds_toArray, List.set_cons_zero, List.set_cons_succ]
    have g0 := later b0
    have g1 := later b1
    have g2 := later b2
    have g3 := later b3
    have g4 := later b4
    have g5 := later b5
    have g6 := later b6
    have h0 : ∀ o, (w7.alloc o).frozen? ⟨A, 0, none⟩ = false := fun o => frozen_no ((alloc_old w7 o (lt_heap HA7.out)).trans HA7.out) _
    have h1 : ∀ o, (w7.alloc o).frozen? ⟨A, 1, none⟩ = false := fun o => frozen_no ((alloc_old w7 o (lt_heap HA7.out)).trans HA7.out) _
    have h2 : ∀ o, (w7.alloc o).frozen? ⟨A, 2, none⟩ = false := fun o => frozen_no ((alloc_old w7 o (lt_heap HA7.out)).trans HA7.out) _
    have h3 : ∀ o, (w7.alloc o).frozen? ⟨A, 3, none⟩ = false := fun o => frozen_no ((alloc_old w7 o (lt_heap HA7.out)).trans HA7.out) _
    have h4 : ∀ o, (w7.alloc o).frozen? ⟨A, 4, none⟩ = false := fun o => frozen_no ((alloc_old w7 o (lt_heap HA7.out)).trans HA7.out) _
    have h5 : ∀ o, (w7.alloc o).frozen? ⟨A, 5, none⟩ = false := fun o => frozen_no ((alloc_old w7 o (lt_heap HA7.out)).trans HA7.out) _
    have h6 : ∀ o, (w7.alloc o).frozen? ⟨A, 6, none⟩ = false := fun o => frozen_no ((alloc_old w7 o (lt_heap HA7.out)).trans HA7.out) _
    clear HA7
    refine wpAnyT_one (i := 3) (by kernel_rfl) rfl rfl (fun K' hK => ?_)
    go_simp
    refine hK.out _ _ (fun _ => ⟨HF.out.2.2.1, HF.out.2.2.2.1⟩) ?_
    clear hK K'
    try simp only [Act.put, List.setIfInBounds_toArray, List.set_cons_zero, List.set_cons_succ]
    refine wpAnyT_one (i := 4) (by kernel_rfl) rfl rfl (fun K' hK => ?_)
    go_simp
    refine hK.out _ _ (fun h => absurd rfl h) ?_
    clear hK K'
    try simp only [Act.put, List.setIfInBounds_toArray, List.set_cons_zero, List.set_cons_succ]
    refine wpAnyT_one (i := 5) (by kernel_rfl) rfl rfl (fun K' hK => ?_)
    go_simp
    refine hK.out _ _ (fun _ => ⟨HF.out.2.2.1, HF.out.2.2.2.1⟩) ?_
    clear hK K'
    try simp only [Act.put, List.setIfInBounds_toArray, List.set_cons_zero, List.set_cons_succ]
    refine wpAnyT_done (by kernel_rfl) ?_ _
    have HFF := hide' HF.out.2.2.2.2
    clear HF g0 g1 g2 g3 g4 g5 g6 h0 h1 h2 h3 h4 h5 h6 b0 b1 b2 b3 b4 b5 b6 e0 e1 e2 e3 e4 e5 e6
    go_wp2
    refine bodyPost_ret (results_cell_row2 rfl _ _ A 30 _ (0, 0) _ rfl HFF.out.1 Try.underlying30 rfl (by kernel_rfl)) rfl ?_
    exact ⟨a1, d1, _, rfl, own_mono HFF.out.2.1 (Nat.zero_le _), HFF.out.2.2.1, HFF.out.2.2.2⟩
  · have HF := hide' (reply_b (T := ⟨last, no, point, want, left, pat⟩) (m := ⟨5, no, pt, wt⟩) (v := .slice a1 l.length d1) HC7.out HM7.out HA7.out HO7.out HB7.out.1 HNE.out.2.2.1 HB7.out.2 HCA.out)
    unfold StM.cells MsM.cells at HF
    simp only at HF
    clear HC7 HM7 HO7 HB7 HA7
    go_simp
    refine hK.out _ _ (fun _ => ⟨HF.out.1, HF.out.2.1⟩) ?_
    clear hK K'
    try simp only [Act.put, List.setIfInBounds_toArray, List.set_cons_zero, List.set_cons_succ]
    refine wpAnyT_one (i := 2) (by kernel_rfl) rfl rfl (fun K' hK => ?_)
    go_simp
    refine hK.out _ _ (fun _ => ⟨HF.out.2.2.1, HF.out.2.2.2.1⟩) ?_
    clear hK K'
    try simp only [Act.put, List.setIfInBounds_toArray, List.set_cons_zero, List.set_cons_succ]
    refine wpAnyT_one (i := 4) (by kernel_rfl) rfl rfl (fun K' hK => ?_)
    go_simp
    refine hK.out _ _ (fun h => absurd rfl h) ?_
    clear hK K'
    try simp only [Act.put, List.setIfInBounds_toArray, List.set_cons_zero, List.set_cons_succ]
    refine wpAnyT_one (i := 5) (by kernel_rfl) rfl rfl (fun K' hK => ?_)
    go_simp
    refine hK.out _ _ (fun _ => ⟨HF.out.2.2.1, HF.out.2.2.2.1⟩) ?_
    clear hK K'
    try simp only [Act.put, List.setIfInBounds_toArray, List.set_cons_zero, List.set_cons_succ]
    refine wpAnyT_done (by kernel_rfl) ?_ _
    have HFF := hide' HF.out.2.2.2.2
    clear HF b0 b1 b2 b3 b4 b5 b6 e0 e1 e2 e3 e4 e5 e6
    go_wp2
    refine bodyPost_ret (results_cell_row2 rfl _ _ A 30 _ (0, 0) _ rfl HFF.out.1 Try.underlying30 rfl (by kernel_rfl)) rfl ?_
    exact ⟨a1, d1, _, rfl, own_mono HFF.out.2.1 (Nat.zero_le _), HFF.out.2.2.1, HFF.out.2.2.2⟩
set_option maxRecDepth 100000 in
set_option maxHeartbeats 4000000 in
theorem Msg_i3 (S : StM) (m : MsM) (l : List Bool) (n c : Nat) (a : Option Addr) (w : World) (hr : RowAt w (.slice a n c) n 1 (l.map Value.bool)) (hn : n ≤ 2000000) (l1 : List Bool) (T : StM) (rs : List MsM) (code : Int) (hR : mayS n S = true ∧ m.kind = 3 ∧ (0 ≤ m.no ∧ m.no ≤ 1000000000) ∧ (S.last < m.no ∧ m.no = S.armed ∧ m.pt = S.point ∧ S.want ≠ m.wt) ∧ l1 = l ∧ T = S ∧ rs = replyL m 5 ∧ code = 0) : Calls Try.prog 16 #[.agg (S.cells (.slice a n c)), .agg m.cells] w (HearO l1 T rs code w) := by
  have hln : l.length = n := by have h := hr.1; simpa using h
  subst hln
  have HR := hide' hR
  have HM := hide' (fun w' => StationMay_any S l.length c a w' (by omega))
  have HZ := hide' (fun (x : World) (A : Nat) (h : x.heap[A]? = some (.cells #[.slice none 0 0, .int .i64 0, .int .i64 0, .int .i64 0, .bool false, .int .i64 0, .int .i64 0] 30 (0, 0))) => put7 (S0 := StM.nought) h)
  have HW := hide' (fun w' (hb : Below w.heap.size w w') => StationOf_any S l l.length c a w' (hr.below hb (Nat.le_refl _)) hn)
  have HI := hide' (inBounds_any m.no 0 1000000000)
  obtain ⟨h0, hk, hno, hx, hl, hT, hrs, rfl⟩ := HR.out
  obtain rfl := hl.symm
  obtain rfl := hT.symm
  rw [show replyL m 5 = [⟨5, m.no, m.pt, m.wt⟩] from if_neg (by decide)] at hrs
  subst hrs
  rw [h0] at HM
  rw [show (decide (0 ≤ m.no) && decide (m.no ≤ 1000000000)) = true by simp; omega] at HI
  clear hR HR h0 hr hno
  obtain ⟨last, armed, point, want, left, pat⟩ := S
  obtain ⟨kind, no, pt, wt⟩ := m
  simp only at hk hx
  obtain rfl := hk
  unfold HearO
  unfold StM.cells at HM HZ HW ⊢
  unfold MsM.cells
  simp only at HM HZ HW HI ⊢
  have HX := hide' hx
  clear hx hn
  go_enter Try.func16, Try.ntmps16
  go_upto_region 1 with fail
  have hqY := (alloc_old ((w.alloc (.cells #[.slice a l.length c, .int .i64 last, .int .i64 armed, .int .i64 point, .bool want, .int .i64 left, .int .i64 pat] 30)).alloc (.cells #[.int .i64 3, .int .i64 no, .int .i64 pt, .bool wt] 41)) (.cells #[.slice none 0 0, .int .i64 0, .int .i64 0, .int .i64 0, .bool false, .int .i64 0, .int .i64 0] 30) (lt_heap ((alloc_old (w.alloc (.cells #[.slice a l.length c, .int .i64 last, .int .i64 armed, .int .i64 point, .bool want, .int .i64 left, .int .i64 pat] 30)) (.cells #[.int .i64 3, .int .i64 no, .int .i64 pt, .bool wt] 41) (lt_heap (alloc_new w (.cells #[.slice a l.length c, .int .i64 last, .int .i64 armed, .int .i64 point, .bool want, .int .i64 left, .int .i64 pat] 30)))).trans (alloc_new w (.cells #[.slice a l.length c, .int .i64 last, .int .i64 armed, .int .i64 point, .bool want, .int .i64 left, .int .i64 pat] 30))))).trans ((alloc_old (w.alloc (.cells #[.slice a l.length c, .int .i64 last, .int .i64 armed, .int .i64 point, .bool want, .int .i64 left, .int .i64 pat] 30)) (.cells #[.int .i64 3, .int .i64 no, .int .i64 pt, .bool wt] 41) (lt_heap (alloc_new w (.cells #[.slice a l.length c, .int .i64 last, .int .i64 armed, .int .i64 point, .bool want, .int .i64 left, .int .i64 pat] 30)))).trans (alloc_new w (.cells #[.slice a l.length c, .int .i64 last, .int .i64 armed, .int .i64 point, .bool want, .int .i64 left, .int .i64 pat] 30)))
  have hqZ := (alloc_old ((w.alloc (.cells #[.slice a l.length c, .int .i64 last, .int .i64 armed, .int .i64 point, .bool want, .int .i64 left, .int .i64 pat] 30)).alloc (.cells #[.int .i64 3, .int .i64 no, .int .i64 pt, .bool wt] 41)) (.cells #[.slice none 0 0, .int .i64 0, .int .i64 0, .int .i64 0, .bool false, .int .i64 0, .int .i64 0] 30) (lt_heap (alloc_new (w.alloc (.cells #[.slice a l.length c, .int .i64 last, .int .i64 armed, .int .i64 point, .bool want, .int .i64 left, .int .i64 pat] 30)) (.cells #[.int .i64 3, .int .i64 no, .int .i64 pt, .bool wt] 41)))).trans (alloc_new (w.alloc (.cells #[.slice a l.length c, .int .i64 last, .int .i64 armed, .int .i64 point, .bool want, .int .i64 left, .int .i64 pat] 30)) (.cells #[.int .i64 3, .int .i64 no, .int .i64 pt, .bool wt] 41))
  have hqA := alloc_new ((w.alloc (.cells #[.slice a l.length c, .int .i64 last, .int .i64 armed, .int .i64 point, .bool want, .int .i64 left, .int .i64 pat] 30)).alloc (.cells #[.int .i64 3, .int .i64 no, .int .i64 pt, .bool wt] 41)) (.cells #[.slice none 0 0, .int .i64 0, .int .i64 0, .int .i64 0, .bool false, .int .i64 0, .int .i64 0] 30)
  have hb1 := ((below_al w (.cells #[.slice a l.length c, .int .i64 last, .int .i64 armed, .int .i64 point, .bool want, .int .i64 left, .int .i64 pat] 30)).alloc (below_al w (.cells #[.slice a l.length c, .int .i64 last, .int .i64 armed, .int .i64 point, .bool want, .int .i64 left, .int .i64 pat] 30)).size (.cells #[.int .i64 3, .int .i64 no, .int .i64 pt, .bool wt] 41)).alloc ((below_al w (.cells #[.slice a l.length c, .int .i64 last, .int .i64 armed, .int .i64 point, .bool want, .int .i64 left, .int .i64 pat] 30)).alloc (below_al w (.cells #[.slice a l.length c, .int .i64 last, .int .i64 armed, .int .i64 point, .bool want, .int .i64 left, .int .i64 pat] 30)).size (.cells #[.int .i64 3, .int .i64 no, .int .i64 pt, .bool wt] 41)).size (.cells #[.slice none 0 0, .int .i64 0, .int .i64 0, .int .i64 0, .bool false, .int .i64 0, .int .i64 0] 30)
  rw [show (w.alloc (.cells #[.slice a l.length c, .int .i64 last, .int .i64 armed, .int .i64 point, .bool want, .int .i64 left, .int .i64 pat] 30)).heap.size = w.heap.size + 1 from by simp only [World.size_alloc]] at hqZ
  rw [show ((w.alloc (.cells #[.slice a l.length c, .int .i64 last, .int .i64 armed, .int .i64 point, .bool want, .int .i64 left, .int .i64 pat] 30)).alloc (.cells #[.int .i64 3, .int .i64 no, .int .i64 pt, .bool wt] 41)).heap.size = w.heap.size + 1 + 1 from by simp only [World.size_alloc]] at hqA
  obtain ⟨w1, hw1⟩ : ∃ x, x = (((w.alloc (.cells #[.slice a l.length c, .int .i64 last, .int .i64 armed, .int .i64 point, .bool want, .int .i64 left, .int .i64 pat] 30)).alloc (.cells #[.int .i64 3, .int .i64 no, .int .i64 pt, .bool wt] 41)).alloc (.cells #[.slice none 0 0, .int .i64 0, .int .i64 0, .int .i64 0, .bool false, .int .i64 0, .int .i64 0] 30)) := ⟨_, rfl⟩
  rw [← hw1] at hqY hqZ hqA hb1 ⊢
  obtain ⟨Y, hnY⟩ : ∃ x, x = w.heap.size := ⟨_, rfl⟩
  obtain ⟨Z, hnZ⟩ : ∃ x, x = w.heap.size + 1 := ⟨_, rfl⟩
  obtain ⟨A, hnA⟩ : ∃ x, x = w.heap.size + 1 + 1 := ⟨_, rfl⟩
  have HNE : Hid (w.heap.size ≤ Y ∧ w.heap.size ≤ Z ∧ w.heap.size ≤ A ∧ Y ≠ Z ∧ Y ≠ A ∧ Z ≠ A) := ⟨by omega, by omega, by omega, by omega, by omega, by omega⟩
  rw [← hnY] at hqY
  rw [← hnZ] at hqZ
  rw [← hnA] at hqA
  rw [show (Value.pointer (some { block := w.heap.size, off := 0 })) = Value.pointer (some { block := Y, off := 0 }) by rw [hnY], show (Value.pointer (some { block := w.heap.size + 1, off := 0 })) = Value.pointer (some { block := Z, off := 0 }) by rw [hnZ], show (Value.pointer (some { block := w.heap.size + 1 + 1, off := 0 })) = Value.pointer (some { block := A, off := 0 }) by rw [hnA]]
  have HQY := hide' hqY
  have HQZ := hide' hqZ
  have HQA := hide' hqA
  have HB1 := hide' hb1
  clear hqY hqZ hqA hb1 hw1 hnY hnZ hnA
  have c0 : w1.cell? ⟨Y, 0, none⟩ = some (.slice a l.length c) := (cells_at HQY.out 0).trans rfl
  have c1 : w1.cell? ⟨Y, 1, none⟩ = some (.int .i64 last) := (cells_at HQY.out 1).trans rfl
  have c2 : w1.cell? ⟨Y, 2, none⟩ = some (.int .i64 armed) := (cells_at HQY.out 2).trans rfl
  have c3 : w1.cell? ⟨Y, 3, none⟩ = some (.int .i64 point) := (cells_at HQY.out 3).trans rfl
  have c4 : w1.cell? ⟨Y, 4, none⟩ = some (.bool want) := (cells_at HQY.out 4).trans rfl
  have c5 : w1.cell? ⟨Y, 5, none⟩ = some (.int .i64 left) := (cells_at HQY.out 5).trans rfl
  have c6 : w1.cell? ⟨Y, 6, none⟩ = some (.int .i64 pat) := (cells_at HQY.out 6).trans rfl
  go_wp2_with fail
  refine (HM.out w1).mono ?_
  rintro e w2 ⟨rfl, hb2⟩
  have HB2 : Hid (Below w.heap.size w w2) := HB1.out.trans (hb2.mono HB1.out.size)
  have HY2 := hide' ((hb2.block Y (lt_heap HQY.out)).trans HQY.out)
  have HZ2 := hide' ((hb2.block Z (lt_heap HQZ.out)).trans HQZ.out)
  have HA2 := hide' ((hb2.block A (lt_heap HQA.out)).trans HQA.out)
  clear hb2 HB1 HQY HQZ HQA HM
  clear c0 c1 c2 c3 c4 c5 c6
  have c0 : w2.cell? ⟨Y, 0, none⟩ = some (.slice a l.length c) := (cells_at HY2.out 0).trans rfl
  have c1 : w2.cell? ⟨Y, 1, none⟩ = some (.int .i64 last) := (cells_at HY2.out 1).trans rfl
  have c2 : w2.cell? ⟨Y, 2, none⟩ = some (.int .i64 armed) := (cells_at HY2.out 2).trans rfl
  have c3 : w2.cell? ⟨Y, 3, none⟩ = some (.int .i64 point) := (cells_at HY2.out 3).trans rfl
  have c4 : w2.cell? ⟨Y, 4, none⟩ = some (.bool want) := (cells_at HY2.out 4).trans rfl
  have c5 : w2.cell? ⟨Y, 5, none⟩ = some (.int .i64 left) := (cells_at HY2.out 5).trans rfl
  have c6 : w2.cell? ⟨Y, 6, none⟩ = some (.int .i64 pat) := (cells_at HY2.out 6).trans rfl
  go_wp2_with fail
  refine (HW.out w2 HB2.out).mono ?_
  rintro e w3 ⟨a1, d1, rfl, ho, hb3⟩
  have HB3 : Hid (Below w.heap.size w w3) := HB2.out.trans (hb3.mono HB2.out.size)
  have HZ3 := hide' ((hb3.block Z (lt_heap HZ2.out)).trans HZ2.out)
  have HA3 := hide' ((hb3.block A (lt_heap HA2.out)).trans HA2.out)
  have HO3 := hide' (own_mono ho HB2.out.size)
  clear ho hb3 HB2 HA2 HY2 HZ2 HW
  clear c0 c1 c2 c3 c4 c5 c6
  go_upto_region 4 with fail
  have HC4 := hide' (alloc_new w3 (.cells #[.slice a1 l.length d1, .int .i64 last, .int .i64 armed, .int .i64 point, .bool want, .int .i64 left, .int .i64 pat] 30))
  have HB4 := hide' (HB3.out.alloc HB3.out.size (.cells #[.slice a1 l.length d1, .int .i64 last, .int .i64 armed, .int .i64 point, .bool want, .int .i64 left, .int .i64 pat] 30))
  have HA4 := hide' ((alloc_old w3 (.cells #[.slice a1 l.length d1, .int .i64 last, .int .i64 armed, .int .i64 point, .bool want, .int .i64 left, .int .i64 pat] 30) (lt_heap HA3.out)).trans HA3.out)
  have HZ4 := hide' ((alloc_old w3 (.cells #[.slice a1 l.length d1, .int .i64 last, .int .i64 armed, .int .i64 point, .bool want, .int .i64 left, .int .i64 pat] 30) (lt_heap HZ3.out)).trans HZ3.out)
  have HO4 := hide' (own_below HO3.out (below_al w3 (.cells #[.slice a1 l.length d1, .int .i64 last, .int .i64 armed, .int .i64 point, .bool want, .int .i64 left, .int .i64 pat] 30)) (Nat.le_refl _))
  have HCA : Hid (w3.heap.size ≠ A) := by have := lt_heap HA3.out; show _ ≠ _; omega
  have HCW : Hid (w.heap.size ≤ w3.heap.size) := HB3.out.size
  obtain ⟨w4, hw4⟩ : ∃ x, x = w3.alloc (.cells #[.slice a1 l.length d1, .int .i64 last, .int .i64 armed, .int .i64 point, .bool want, .int .i64 left, .int .i64 pat] 30) := ⟨_, rfl⟩
  obtain ⟨C, hC⟩ : ∃ x, x = w3.heap.size := ⟨_, rfl⟩
  rw [← hw4] at HC4 HB4 HA4 HZ4 HO4 ⊢
  rw [← hC] at HC4 HCA HCW
  rw [show (Value.pointer (some { block := w3.heap.size, off := 0 })) = Value.pointer (some { block := C, off := 0 }) by rw [hC]]
  clear hw4 hC HB3 HA3 HZ3 HO3
  have m0 : w4.cell? ⟨Z, 0, none⟩ = some (.int .i64 3) := (cells_at HZ4.out 0).trans rfl
  have m1 : w4.cell? ⟨Z, 1, none⟩ = some (.int .i64 no) := (cells_at HZ4.out 1).trans rfl
  have m2 : w4.cell? ⟨Z, 2, none⟩ = some (.int .i64 pt) := (cells_at HZ4.out 2).trans rfl
  have m3 : w4.cell? ⟨Z, 3, none⟩ = some (.bool wt) := (cells_at HZ4.out 3).trans rfl
  go_wp2_with fail
  refine (HI.out _).mono ?_
  rintro e w9 ⟨rfl, rfl⟩
  clear HI
  go_upto_region 9 with fail
  have HM5 := hide' (alloc_new w9 (.cells #[.int .i64 3, .int .i64 no, .int .i64 pt, .bool wt] 41))
  have HB5 := hide' (HB4.out.alloc HB4.out.size (.cells #[.int .i64 3, .int .i64 no, .int .i64 pt, .bool wt] 41))
  have HA5 := hide' ((alloc_old w9 (.cells #[.int .i64 3, .int .i64 no, .int .i64 pt, .bool wt] 41) (lt_heap HA4.out)).trans HA4.out)
  have HZ5 := hide' ((alloc_old w9 (.cells #[.int .i64 3, .int .i64 no, .int .i64 pt, .bool wt] 41) (lt_heap HZ4.out)).trans HZ4.out)
  have HC5 := hide' ((alloc_old w9 (.cells #[.int .i64 3, .int .i64 no, .int .i64 pt, .bool wt] 41) (lt_heap HC4.out)).trans HC4.out)
  have HO5 := hide' (own_below HO4.out (below_al w9 (.cells #[.int .i64 3, .int .i64 no, .int .i64 pt, .bool wt] 41)) (Nat.le_refl _))
  have HMW : Hid (w.heap.size ≤ w9.heap.size ∧ C ≠ w9.heap.size ∧ A ≠ w9.heap.size ∧ Z ≠ w9.heap.size) := ⟨HB4.out.size, by have := lt_heap HC4.out; omega, by have := lt_heap HA4.out; omega, by have := lt_heap HZ4.out; omega⟩
  obtain ⟨w5, hw5⟩ : ∃ x, x = w9.alloc (.cells #[.int .i64 3, .int .i64 no, .int .i64 pt, .bool wt] 41) := ⟨_, rfl⟩
  obtain ⟨M, hM⟩ : ∃ x, x = w9.heap.size := ⟨_, rfl⟩
  rw [← hw5] at HM5 HB5 HA5 HZ5 HC5 HO5 ⊢
  rw [← hM] at HM5 HMW
  rw [show (Value.pointer (some { block := w9.heap.size, off := 0 })) = Value.pointer (some { block := M, off := 0 }) by rw [hM]]
  clear hw5 hM HB4 HA4 HZ4 HC4 HO4
  clear m0 m1 m2 m3
  have hx := HX.out
  clear HX HZ
  have m0 : w5.cell? ⟨Z, 0, none⟩ = some (.int .i64 3) := (cells_at HZ5.out 0).trans rfl
  have m1 : w5.cell? ⟨Z, 1, none⟩ = some (.int .i64 no) := (cells_at HZ5.out 1).trans rfl
  have m2 : w5.cell? ⟨Z, 2, none⟩ = some (.int .i64 pt) := (cells_at HZ5.out 2).trans rfl
  have m3 : w5.cell? ⟨Z, 3, none⟩ = some (.bool wt) := (cells_at HZ5.out 3).trans rfl
  have c0 : w5.cell? ⟨C, 0, none⟩ = some (.slice a1 l.length d1) := (cells_at HC5.out 0).trans rfl
  have c1 : w5.cell? ⟨C, 1, none⟩ = some (.int .i64 last) := (cells_at HC5.out 1).trans rfl
  have c2 : w5.cell? ⟨C, 2, none⟩ = some (.int .i64 armed) := (cells_at HC5.out 2).trans rfl
  have c3 : w5.cell? ⟨C, 3, none⟩ = some (.int .i64 point) := (cells_at HC5.out 3).trans rfl
  have c4 : w5.cell? ⟨C, 4, none⟩ = some (.bool want) := (cells_at HC5.out 4).trans rfl
  have c5 : w5.cell? ⟨C, 5, none⟩ = some (.int .i64 left) := (cells_at HC5.out 5).trans rfl
  have c6 : w5.cell? ⟨C, 6, none⟩ = some (.int .i64 pat) := (cells_at HC5.out 6).trans rfl
  obtain ⟨hx1, rfl, rfl, hx2⟩ := hx
  have hne : no ≠ last := by omega
  have hnl : ¬ no < last := by omega
  cases want <;> cases wt
  · exact absurd rfl hx2
  · have n0 : w5.cell? ⟨M, 0, none⟩ = some (.int .i64 3) := (cells_at HM5.out 0).trans rfl
    have z0 : w5.frozen? ⟨M, 0, none⟩ = false := frozen_no HM5.out _
    go_upto_region 25 with fail
    have HM6 : Hid ((w5.setCell ⟨M, 0, none⟩ (.int .i64 5)).heap[M]? = some (.cells #[.int .i64 5, .int .i64 no, .int .i64 pt, .bool true] 41 (0, 0))) := (set_any HM5.out 0 _).trans (by simp only [List.setIfInBounds_toArray, List.set_cons_zero])
    have HC6 := hide' ((Below.heap_setCell w5 ⟨M, 0, none⟩ (.int .i64 5) C HMW.out.2.1).trans HC5.out)
    have HA6 := hide' ((Below.heap_setCell w5 ⟨M, 0, none⟩ (.int .i64 5) A HMW.out.2.2.1).trans HA5.out)
    have HO6 := hide' (own_keep HO5.out (keep_set HM5.out 0 (.int .i64 5)) (by decide))
    have HB6 : Hid (Below w.heap.size w (w5.setCell ⟨M, 0, none⟩ (.int .i64 5))) := HB5.out.setCell (p := ⟨M, 0, none⟩) HMW.out.1 _
    obtain ⟨w6, hw6⟩ : ∃ x, x = w5.setCell ⟨M, 0, none⟩ (.int .i64 5) := ⟨_, rfl⟩
    rw [← hw6] at HM6 HC6 HA6 HO6 HB6 ⊢
    clear hw6 HM5 HC5 HA5 HO5 HB5 HZ5 n0 z0
    clear m0 m1 m2 m3 c0 c1 c2 c3 c4 c5 c6
    clear hne hnl hx1 hx2
    refine wp_region_tail (fun W => W.heap[C]? = some (.cells #[.slice a1 l.length d1, .int .i64 last, .int .i64 no, .int .i64 pt, .bool false, .int .i64 left, .int .i64 pat] 30 (0, 0)) ∧ W.heap[M]? = some (.cells #[.int .i64 5, .int .i64 no, .int .i64 pt, .bool true] 41 (0, 0))) 4 (by kernel_rfl) ?_
    refine wpAnyT_letter (fun W => (W.heap[C]? = some (.cells #[.slice a1 l.length d1, .int .i64 last, .int .i64 no, .int .i64 pt, .bool false, .int .i64 left, .int .i64 pat] 30 (0, 0)) ∧ W.heap[M]? = some (.cells #[.int .i64 5, .int .i64 no, .int .i64 pt, .bool true] 41 (0, 0))) ∧ W.heap[A]? = some (.cells #[.slice none 0 0, .int .i64 0, .int .i64 0, .int .i64 0, .bool false, .int .i64 0, .int .i64 0] 30 (0, 0)) ∧ W.ownsRow w.heap.size 4 1 (.slice a1 l.length d1) l.length (l.map Value.bool) ∧ Below w.heap.size w W ∧ w.heap.size ≤ W.heap.size) ⟨⟨HC6.out, HM6.out⟩, HA6.out, own_drewN HO6.out 1, HB6.out.drew, HB6.out.size⟩ ?_
    rintro w7 ⟨⟨hC7, hM7⟩, hA7, hO7, hB7⟩
    have HC7 := hide' hC7
    have HM7 := hide' hM7
    have HA7 := hide' hA7
    have HO7 := hide' hO7
    have HB7 := hide' hB7
    clear hC7 hM7 hA7 hO7 hB7 HC6 HM6 HA6 HO6 HB6
    refine wpAnyD_takeAt 0 (some 105) (v := ?_) rfl (by kernel_rfl) (by kernel_rfl) (by kernel_rfl) (by kernel_rfl) (by kernel_rfl) (fun _ _ _ h => h) (by exact ⟨HC7.out, HM7.out⟩) (fun o hop => ?_) ?_
    rotate_left
    · injection hop with hop
      subst hop
      refine ⟨rfl, fun W hW => ?_⟩
      obtain ⟨s0, s1⟩ := hW
      have y0 : W.cell? ⟨C, 0, none⟩ = some (.slice a1 l.length d1) := (cells_at s0 0).trans rfl
      have y1 : W.cell? ⟨C, 1, none⟩ = some (.int .i64 last) := (cells_at s0 1).trans rfl
      have y2 : W.cell? ⟨C, 2, none⟩ = some (.int .i64 no) := (cells_at s0 2).trans rfl
      have y3 : W.cell? ⟨C, 3, none⟩ = some (.int .i64 pt) := (cells_at s0 3).trans rfl
      have y4 : W.cell? ⟨C, 4, none⟩ = some (.bool false) := (cells_at s0 4).trans rfl
      have y5 : W.cell? ⟨C, 5, none⟩ = some (.int .i64 left) := (cells_at s0 5).trans rfl
      have y6 : W.cell? ⟨C, 6, none⟩ = some (.int .i64 pat) := (cells_at s0 6).trans rfl
      clear s0 s1
      go_simp
      try rfl
    try simp only [Act.put, List.setIfInBounds_toArray, List.set_cons_zero, List.set_cons_succ]
    refine wpAnyD_takeAt 1 (some 106) (v := ?_) rfl (by kernel_rfl) (by kernel_rfl) (by kernel_rfl) (by kernel_rfl) (by kernel_rfl) (fun _ _ _ h => h) (by exact ⟨HC7.out, HM7.out⟩) (fun o hop => ?_) ?_
    rotate_left
    · injection hop with hop
      subst hop
      refine ⟨rfl, fun W hW => ?_⟩
      obtain ⟨s0, s1⟩ := hW
      have y0 : W.cell? ⟨M, 0, none⟩ = some (.int .i64 5) := (cells_at s1 0).trans rfl
      have y1 : W.cell? ⟨M, 1, none⟩ = some (.int .i64 no) := (cells_at s1 1).trans rfl
      have y2 : W.cell? ⟨M, 2, none⟩ = some (.int .i64 pt) := (cells_at s1 2).trans rfl
      have y3 : W.cell? ⟨M, 3, none⟩ = some (.bool true) := (cells_at s1 3).trans rfl
      clear s0 s1
      go_simp
      try rfl
    try simp only [Act.put, List.setIfInBounds_toArray, List.set_cons_zero, List.set_cons_succ]
    have b0 : w7.cell? ⟨A, 0, none⟩ = some (.slice none 0 0) := (cells_at HA7.out 0).trans rfl
    have b1 : w7.cell? ⟨A, 1, none⟩ = some (.int .i64 0) := (cells_at HA7.out 1).trans rfl
    have b2 : w7.cell? ⟨A, 2, none⟩ = some (.int .i64 0) := (cells_at HA7.out 2).trans rfl
    have b3 : w7.cell? ⟨A, 3, none⟩ = some (.int .i64 0) := (cells_at HA7.out 3).trans rfl
    have b4 : w7.cell? ⟨A, 4, none⟩ = some (.bool false) := (cells_at HA7.out 4).trans rfl
    have b5 : w7.cell? ⟨A, 5, none⟩ = some (.int .i64 0) := (cells_at HA7.out 5).trans rfl
    have b6 : w7.cell? ⟨A, 6, none⟩ = some (.int .i64 0) := (cells_at HA7.out 6).trans rfl
    have e0 : w7.frozen? ⟨A, 0, none⟩ = false := frozen_no HA7.out _
    have e1 : w7.frozen? ⟨A, 1, none⟩ = false := frozen_no HA7.out _
    have e2 : w7.frozen? ⟨A, 2, none⟩ = false := frozen_no HA7.out _
    have e3 : w7.frozen? ⟨A, 3, none⟩ = false := frozen_no HA7.out _
    have e4 : w7.frozen? ⟨A, 4, none⟩ = false := frozen_no HA7.out _
    have e5 : w7.frozen? ⟨A, 5, none⟩ = false := frozen_no HA7.out _
    have e6 : w7.frozen? ⟨A, 6, none⟩ = false := frozen_no HA7.out _
    refine wpAnyT_two (i := 2) (j := 3) (by kernel_rfl) rfl rfl rfl rfl (fun K' hK => ?_) (fun K' hK => ?_)
    · have HF := hide' (reply_a (T := ⟨last, no, pt, false, left, pat⟩) (m := ⟨5, no, pt, true⟩) (v := .slice a1 l.length d1) HC7.out HM7.out HA7.out HO7.out HB7.out.1 HNE.out.2.2.1 HB7.out.2 HCA.out)
      unfold StM.cells MsM.cells at HF
      simp only at HF
      clear HC7 HM7 HO7 HB7
      go_simp
      refine hK.out _ _ (fun _ => ⟨HF.out.1, HF.out.2.1⟩) ?_
      clear hK K'
      try simp only [Act.put, List.setIfInBounds_toArray, List.set_cons_zero, List.set_cons_succ]
      have g0 := later b0
      have g1 := later b1
      have g2 := later b2
      have g3 := later b3
      have g4 := later b4
      have g5 := later b5
      have g6 := later b6
      have h0 : ∀ o, (w7.alloc o).frozen? ⟨A, 0, none⟩ = false := fun o => frozen_no ((alloc_old w7 o (lt_heap HA7.out)).trans HA7.out) _
      have h1 : ∀ o, (w7.alloc o).frozen? ⟨A, 1, none⟩ = false := fun o => frozen_no ((alloc_old w7 o (lt_heap HA7.out)).trans HA7.out) _
      have h2 : ∀ o, (w7.alloc o).frozen? ⟨A, 2, none⟩ = false := fun o => frozen_no ((alloc_old w7 o (lt_heap HA7.out)).trans HA7.out) _
      have h3 : ∀ o, (w7.alloc o).frozen? ⟨A, 3, none⟩ = false := fun o => frozen_no ((alloc_old w7 o (lt_heap HA7.out)).trans HA7.out) _
      have h4 : ∀ o, (w7.alloc o).frozen? ⟨A, 4, none⟩ = false := fun o => frozen_no ((alloc_old w7 o (lt_heap HA7.out)).trans HA7.out) _
      have h5 : ∀ o, (w7.alloc o).frozen? ⟨A, 5, none⟩ = false := fun o => frozen_no ((alloc_old w7 o (lt_heap HA7.out)).trans HA7.out) _
      have h6 : ∀ o, (w7.alloc o).frozen? ⟨A, 6, none⟩ = false := fun o => frozen_no ((alloc_old w7 o (lt_heap HA7.out)).trans HA7.out) _
      clear HA7
      refine wpAnyT_one (i := 3) (by kernel_rfl) rfl rfl (fun K' hK => ?_)
      go_simp
      refine hK.out _ _ (fun _ => ⟨HF.out.2.2.1, HF.out.2.2.2.1⟩) ?_
      clear hK K'
      try simp only [Act.put, List.setIfInBounds_toArray, List.set_cons_zero, List.set_cons_succ]
      refine wpAnyT_one (i := 4) (by kernel_rfl) rfl rfl (fun K' hK => ?_)
      go_simp
      refine hK.out _ _ (fun h => absurd rfl h) ?_
      clear hK K'
      try simp only [Act.put, List.setIfInBounds_toArray, List.set_cons_zero, List.set_cons_succ]
      refine wpAnyT_one (i := 5) (by kernel_rfl) rfl rfl (fun K' hK => ?_)
      go_simp
      refine hK.out _ _ (fun _ => ⟨HF.out.2.2.1, HF.out.2.2.2.1⟩) ?_
      clear hK K'
      try simp only [Act.put, List.setIfInBounds_toArray, List.set_cons_zero, List.set_cons_succ]
      refine wpAnyT_done (by kernel_rfl) ?_ _
      have HFF := hide' HF.out.2.2.2.2
      clear HF g0 g1 g2 g3 g4 g5 g6 h0 h1 h2 h3 h4 h5 h6 b0 b1 b2 b3 b4 b5 b6 e0 e1 e2 e3 e4 e5 e6
      go_wp2
      refine bodyPost_ret (results_cell_row2 rfl _ _ A 30 _ (0, 0) _ rfl HFF.out.1 Try.underlying30 rfl (by kernel_rfl)) rfl ?_
      exact ⟨a1, d1, _, rfl, own_mono HFF.out.2.1 (Nat.zero_le _), HFF.out.2.2.1, HFF.out.2.2.2⟩
    · have HF := hide' (reply_b (T := ⟨last, no, pt, false, left, pat⟩) (m := ⟨5, no, pt, true⟩) (v := .slice a1 l.length d1) HC7.out HM7.out HA7.out HO7.out HB7.out.1 HNE.out.2.2.1 HB7.out.2 HCA.out)
      unfold StM.cells MsM.cells at HF
      simp only at HF
      clear HC7 HM7 HO7 HB7 HA7
      go_simp
      refine hK.out _ _ (fun _ => ⟨HF.out.1, HF.out.2.1⟩) ?_
      clear hK K'
      try simp only [Act.put, List.setIfInBounds_toArray, List.set_cons_zero, List.set_cons_succ]
      refine wpAnyT_one (i := 2) (by kernel_rfl) rfl rfl (fun K' hK => ?_)
      go_simp
      refine hK.out _ _ (fun _ => ⟨HF.out.2.2.1, HF.out.2.2.2.1⟩) ?_
      clear hK K'
      try simp only [Act.put, List.setIfInBounds_toArray, List.set_cons_zero, List.set_cons_succ]
      refine wpAnyT_one (i := 4) (by kernel_rfl) rfl rfl (fun K' hK => ?_)
      go_simp
      refine hK.out _ _ (fun h => absurd rfl h) ?_
      clear hK K'
      try simp only [Act.put, List.setIfInBounds_toArray, List.set_cons_zero, List.set_cons_succ]
      refine wpAnyT_one (i := 5) (by kernel_rfl) rfl rfl (fun K' hK => ?_)
      go_simp
      refine hK.out _ _ (fun _ => ⟨HF.out.2.2.1, HF.out.2.2.2.1⟩) ?_
      clear hK K'
      try simp only [Act.put, List.setIfInBounds_toArray, List.set_cons_zero, List.set_cons_succ]
      refine wpAnyT_done (by kernel_rfl) ?_ _
      have HFF := hide' HF.out.2.2.2.2
      clear HF b0 b1 b2 b3 b4 b5 b6 e0 e1 e2 e3 e4 e5 e6
      go_wp2
      refine bodyPost_ret (results_cell_row2 rfl _ _ A 30 _ (0, 0) _ rfl HFF.out.1 Try.underlying30 rfl (by kernel_rfl)) rfl ?_
      exact ⟨a1, d1, _, rfl, own_mono HFF.out.2.1 (Nat.zero_le _), HFF.out.2.2.1, HFF.out.2.2.2⟩
  · have n0 : w5.cell? ⟨M, 0, none⟩ = some (.int .i64 3) := (cells_at HM5.out 0).trans rfl
    have z0 : w5.frozen? ⟨M, 0, none⟩ = false := frozen_no HM5.out _
    go_upto_region 25 with fail
    have HM6 : Hid ((w5.setCell ⟨M, 0, none⟩ (.int .i64 5)).heap[M]? = some (.cells #[.int .i64 5, .int .i64 no, .int .i64 pt, .bool false] 41 (0, 0))) := (set_any HM5.out 0 _).trans (by simp only [List.setIfInBounds_toArray, List.set_cons_zero])
    have HC6 := hide' ((Below.heap_setCell w5 ⟨M, 0, none⟩ (.int .i64 5) C HMW.out.2.1).trans HC5.out)
    have HA6 := hide' ((Below.heap_setCell w5 ⟨M, 0, none⟩ (.int .i64 5) A HMW.out.2.2.1).trans HA5.out)
    have HO6 := hide' (own_keep HO5.out (keep_set HM5.out 0 (.int .i64 5)) (by decide))
    have HB6 : Hid (Below w.heap.size w (w5.setCell ⟨M, 0, none⟩ (.int .i64 5))) := HB5.out.setCell (p := ⟨M, 0, none⟩) HMW.out.1 _
    obtain ⟨w6, hw6⟩ : ∃ x, x = w5.setCell ⟨M, 0, none⟩ (.int .i64 5) := ⟨_, rfl⟩
    rw [← hw6] at HM6 HC6 HA6 HO6 HB6 ⊢
    clear hw6 HM5 HC5 HA5 HO5 HB5 HZ5 n0 z0
    clear m0 m1 m2 m3 c0 c1 c2 c3 c4 c5 c6
    clear hne hnl hx1 hx2
    refine wp_region_tail (fun W => W.heap[C]? = some (.cells #[.slice a1 l.length d1, .int .i64 last, .int .i64 no, .int .i64 pt, .bool true, .int .i64 left, .int .i64 pat] 30 (0, 0)) ∧ W.heap[M]? = some (.cells #[.int .i64 5, .int .i64 no, .int .i64 pt, .bool false] 41 (0, 0))) 4 (by kernel_rfl) ?_
    refine wpAnyT_letter (fun W => (W.heap[C]? = some (.cells #[.slice a1 l.length d1, .int .i64 last, .int .i64 no, .int .i64 pt, .bool true, .int .i64 left, .int .i64 pat] 30 (0, 0)) ∧ W.heap[M]? = some (.cells #[.int .i64 5, .int .i64 no, .int .i64 pt, .bool false] 41 (0, 0))) ∧ W.heap[A]? = some (.cells #[.slice none 0 0, .int .i64 0, .int .i64 0, .int .i64 0, .bool false, .int .i64 0, .int .i64 0] 30 (0, 0)) ∧ W.ownsRow w.heap.size 4 1 (.slice a1 l.length d1) l.length (l.map Value.bool) ∧ Below w.heap.size w W ∧ w.heap.size ≤ W.heap.size) ⟨⟨HC6.out, HM6.out⟩, HA6.out, own_drewN HO6.out 1, HB6.out.drew, HB6.out.size⟩ ?_
    rintro w7 ⟨⟨hC7, hM7⟩, hA7, hO7, hB7⟩
    have HC7 := hide' hC7
    have HM7 := hide' hM7
    have HA7 := hide' hA7
    have HO7 := hide' hO7
    have HB7 := hide' hB7
    clear hC7 hM7 hA7 hO7 hB7 HC6 HM6 HA6 HO6 HB6
    refine wpAnyD_takeAt 0 (some 105) (v := ?_) rfl (by kernel_rfl) (by kernel_rfl) (by kernel_rfl) (by kernel_rfl) (by kernel_rfl) (fun _ _ _ h => h) (by exact ⟨HC7.out, HM7.out⟩) (fun o hop => ?_) ?_
    rotate_left
    · injection hop with hop
      subst hop
      refine ⟨rfl, fun W hW => ?_⟩
      obtain ⟨s0, s1⟩ := hW
      have y0 : W.cell? ⟨C, 0, none⟩ = some (.slice a1 l.length d1) := (cells_at s0 0).trans rfl
      have y1 : W.cell? ⟨C, 1, none⟩ = some (.int .i64 last) := (cells_at s0 1).trans rfl
      have y2 : W.cell? ⟨C, 2, none⟩ = some (.int .i64 no) := (cells_at s0 2).trans rfl
      have y3 : W.cell? ⟨C, 3, none⟩ = some (.int .i64 pt) := (cells_at s0 3).trans rfl
      have y4 : W.cell? ⟨C, 4, none⟩ = some (.bool true) := (cells_at s0 4).trans rfl
      have y5 : W.cell? ⟨C, 5, none⟩ = some (.int .i64 left) := (cells_at s0 5).trans rfl
      have y6 : W.cell? ⟨C, 6, none⟩ = some (.int .i64 pat) := (cells_at s0 6).trans rfl
      clear s0 s1
      go_simp
      try rfl
    try simp only [Act.put, List.setIfInBounds_toArray, List.set_cons_zero, List.set_cons_succ]
    refine wpAnyD_takeAt 1 (some 106) (v := ?_) rfl (by kernel_rfl) (by kernel_rfl) (by kernel_rfl) (by kernel_rfl) (by kernel_rfl) (fun _ _ _ h => h) (by exact ⟨HC7.out, HM7.out⟩) (fun o hop => ?_) ?_
    rotate_left
    · injection hop with hop
      subst hop
      refine ⟨rfl, fun W hW => ?_⟩
      obtain ⟨s0, s1⟩ := hW
      have y0 : W.cell? ⟨M, 0, none⟩ = some (.int .i64 5) := (cells_at s1 0).trans rfl
      have y1 : W.cell? ⟨M, 1, none⟩ = some (.int .i64 no) := (cells_at s1 1).trans rfl
      have y2 : W.cell? ⟨M, 2, none⟩ = some (.int .i64 pt) := (cells_at s1 2).trans rfl
      have y3 : W.cell? ⟨M, 3, none⟩ = some (.bool false) := (cells_at s1 3).trans rfl
      clear s0 s1
      go_simp
      try rfl
    try simp only [Act.put, List.setIfInBounds_toArray, List.set_cons_zero, List.set_cons_succ]
    have b0 : w7.cell? ⟨A, 0, none⟩ = some (.slice none 0 0) := (cells_at HA7.out 0).trans rfl
    have b1 : w7.cell? ⟨A, 1, none⟩ = some (.int .i64 0) := (cells_at HA7.out 1).trans rfl
    have b2 : w7.cell? ⟨A, 2, none⟩ = some (.int .i64 0) := (cells_at HA7.out 2).trans rfl
    have b3 : w7.cell? ⟨A, 3, none⟩ = some (.int .i64 0) := (cells_at HA7.out 3).trans rfl
    have b4 : w7.cell? ⟨A, 4, none⟩ = some (.bool false) := (cells_at HA7.out 4).trans rfl
    have b5 : w7.cell? ⟨A, 5, none⟩ = some (.int .i64 0) := (cells_at HA7.out 5).trans rfl
    have b6 : w7.cell? ⟨A, 6, none⟩ = some (.int .i64 0) := (cells_at HA7.out 6).trans rfl
    have e0 : w7.frozen? ⟨A, 0, none⟩ = false := frozen_no HA7.out _
    have e1 : w7.frozen? ⟨A, 1, none⟩ = false := frozen_no HA7.out _
    have e2 : w7.frozen? ⟨A, 2, none⟩ = false := frozen_no HA7.out _
    have e3 : w7.frozen? ⟨A, 3, none⟩ = false := frozen_no HA7.out _
    have e4 : w7.frozen? ⟨A, 4, none⟩ = false := frozen_no HA7.out _
    have e5 : w7.frozen? ⟨A, 5, none⟩ = false := frozen_no HA7.out _
    have e6 : w7.frozen? ⟨A, 6, none⟩ = false := frozen_no HA7.out _
    refine wpAnyT_two (i := 2) (j := 3) (by kernel_rfl) rfl rfl rfl rfl (fun K' hK => ?_) (fun K' hK => ?_)
    · have HF := hide' (reply_a (T := ⟨last, no, pt, true, left, pat⟩) (m := ⟨5, no, pt, false⟩) (v := .slice a1 l.length d1) HC7.out HM7.out HA7.out HO7.out HB7.out.1 HNE.out.2.2.1 HB7.out.2 HCA.out)
      unfold StM.cells MsM.cells at HF
      simp only at HF
      clear HC7 HM7 HO7 HB7
      go_simp
      refine hK.out _ _ (fun _ => ⟨HF.out.1, HF.out.2.1⟩) ?_
      clear hK K'
      try simp only [Act.put, List.setIfInBounds_toArray, List.set_cons_zero, List.set_cons_succ]
      have g0 := later b0
      have g1 := later b1
      have g2 := later b2
      have g3 := later b3
      have g4 := later b4
      have g5 := later b5
      have g6 := later b6
      have h0 : ∀ o, (w7.alloc o).frozen? ⟨A, 0, none⟩ = false := fun o => frozen_no ((alloc_old w7 o (lt_heap HA7.out)).trans HA7.out) _
      have h1 : ∀ o, (w7.alloc o).frozen? ⟨A, 1, none⟩ = false := fun o => frozen_no ((alloc_old w7 o (lt_heap HA7.out)).trans HA7.out) _
      have h2 : ∀ o, (w7.alloc o).frozen? ⟨A, 2, none⟩ = false := fun o => frozen_no ((alloc_old w7 o (lt_heap HA7.out)).trans HA7.out) _
      have h3 : ∀ o, (w7.alloc o).frozen? ⟨A, 3, none⟩ = false := fun o => frozen_no ((alloc_old w7 o (lt_heap HA7.out)).trans HA7.out) _
      have h4 : ∀ o, (w7.alloc o).frozen? ⟨A, 4, none⟩ = false := fun o => frozen_no ((alloc_old w7 o (lt_heap HA7.out)).trans HA7.out) _
      have h5 : ∀ o, (w7.alloc o).frozen? ⟨A, 5, none⟩ = false := fun o => frozen_no ((alloc_old w7 o (lt_heap HA7.out)).trans HA7.out) _
      have h6 : ∀ o, (w7.alloc o).frozen? ⟨A, 6, none⟩ = false := fun o => frozen_no ((alloc_old w7 o (lt_heap HA7.out)).trans HA7.out) _
      clear HA7
      refine wpAnyT_one (i := 3) (by kernel_rfl) rfl rfl (fun K' hK => ?_)
      go_simp
      refine hK.out _ _ (fun _ => ⟨HF.out.2.2.1, HF.out.2.2.2.1⟩) ?_
      clear hK K'
      try simp only [Act.put, List.setIfInBounds_toArray, List.set_cons_zero, List.set_cons_succ]
      refine wpAnyT_one (i := 4) (by kernel_rfl) rfl rfl (fun K' hK => ?_)
      go_simp
      refine hK.out _ _ (fun h => absurd rfl h) ?_
      clear hK K'
      try simp only [Act.put, List.setIfInBounds_toArray, List.set_cons_zero, List.set_cons_succ]
      refine wpAnyT_one (i := 5) (by kernel_rfl) rfl rfl (fun K' hK => ?_)
      go_simp
      refine hK.out _ _ (fun _ => ⟨HF.out.2.2.1, HF.out.2.2.2.1⟩) ?_
      clear hK K'
      try simp only [Act.put, List.setIfInBounds_toArray, List.set_cons_zero, List.set_cons_succ]
      refine wpAnyT_done (by kernel_rfl) ?_ _
      have HFF := hide' HF.out.2.2.2.2
      clear HF g0 g1 g2 g3 g4 g5 g6 h0 h1 h2 h3 h4 h5 h6 b0 b1 b2 b3 b4 b5 b6 e0 e1 e2 e3 e4 e5 e6
      go_wp2
      refine bodyPost_ret (results_cell_row2 rfl _ _ A 30 _ (0, 0) _ rfl HFF.out.1 Try.underlying30 rfl (by kernel_rfl)) rfl ?_
      exact ⟨a1, d1, _, rfl, own_mono HFF.out.2.1 (Nat.zero_le _), HFF.out.2.2.1, HFF.out.2.2.2⟩
    · have HF := hide' (reply_b (T := ⟨last, no, pt, true, left, pat⟩) (m := ⟨5, no, pt, false⟩) (v := .slice a1 l.length d1) HC7.out HM7.out HA7.out HO7.out HB7.out.1 HNE.out.2.2.1 HB7.out.2 HCA.out)
      unfold StM.cells MsM.cells at HF
      simp only at HF
      clear HC7 HM7 HO7 HB7 HA7
      go_simp
      refine hK.out _ _ (fun _ => ⟨HF.out.1, HF.out.2.1⟩) ?_
      clear hK K'
      try simp only [Act.put, List.setIfInBounds_toArray, List.set_cons_zero, List.set_cons_succ]
      refine wpAnyT_one (i := 2) (by kernel_rfl) rfl rfl (fun K' hK => ?_)
      go_simp
      refine hK.out _ _ (fun _ => ⟨HF.out.2.2.1, HF.out.2.2.2.1⟩) ?_
      clear hK K'
      try simp only [Act.put, List.setIfInBounds_toArray, List.set_cons_zero, List.set_cons_succ]
      refine wpAnyT_one (i := 4) (by kernel_rfl) rfl rfl (fun K' hK => ?_)
      go_simp
      refine hK.out _ _ (fun h => absurd rfl h) ?_
      clear hK K'
      try simp only [Act.put, List.setIfInBounds_toArray, List.set_cons_zero, List.set_cons_succ]
      refine wpAnyT_one (i := 5) (by kernel_rfl) rfl rfl (fun K' hK => ?_)
      go_simp
      refine hK.out _ _ (fun _ => ⟨HF.out.2.2.1, HF.out.2.2.2.1⟩) ?_
      clear hK K'
      try simp only [Act.put, List.setIfInBounds_toArray, List.set_cons_zero, List.set_cons_succ]
      refine wpAnyT_done (by kernel_rfl) ?_ _
      have HFF := hide' HF.out.2.2.2.2
      clear HF b0 b1 b2 b3 b4 b5 b6 e0 e1 e2 e3 e4 e5 e6
      go_wp2
      refine bodyPost_ret (results_cell_row2 rfl _ _ A 30 _ (0, 0) _ rfl HFF.out.1 Try.underlying30 rfl (by kernel_rfl)) rfl ?_
      exact ⟨a1, d1, _, rfl, own_mono HFF.out.2.1 (Nat.zero_le _), HFF.out.2.2.1, HFF.out.2.2.2⟩
  · exact absurd rfl hx2
end Go.Proofs.Ytjhmendiefojoal
