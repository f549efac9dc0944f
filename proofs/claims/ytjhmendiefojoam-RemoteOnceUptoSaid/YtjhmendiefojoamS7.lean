/- Stations and masters that begin. -/
import Derived.Test.YtjhmendiefojoamYc
import Derived.Test.YtjhmendiefojoamS4
namespace Go.Proofs.Ytjhmendiefojoam
open Go.RowKit Go.Shelf

/-- What Begin comes to. -/
def BegO (l : List Bool) (n : Nat) (p : Int) (l1 : List Bool) (T : StM) (code : Int) : Prop := (16 < n ∧ l1 = [] ∧ T = StM.nought ∧ code = 2) ∨ (n ≤ 16 ∧ ¬ (1 ≤ p ∧ p ≤ 1000) ∧ l1 = [] ∧ T = StM.nought ∧ code = 4) ∨ (n ≤ 16 ∧ (1 ≤ p ∧ p ≤ 1000) ∧ l1 = l ∧ T = ⟨-1, -1, 0, false, 0, p⟩ ∧ code = 0)
set_option maxRecDepth 100000 in
set_option maxHeartbeats 2000000 in
theorem Begin_any (l : List Bool) (n c : Nat) (a : Option Addr) (p : Int) (w : World) (hr : RowAt w (.slice a n c) n 1 (l.map Value.bool)) (hn : n ≤ 2000000) (l1 : List Bool) (T : StM) (code : Int) (hb : BegO l n p l1 T code) : Calls Try.prog 19 #[.slice a n c, .int .i64 p] w (StaO l1 T code w) := by
  have hln : l.length = n := by have h := hr.1; simpa using h
  have HW := hide' (fun w' (hb : Below w.heap.size w w') => atWork_any ⟨-1, -1, 0, false, 0, p⟩ l n c a w' (hr.below hb (Nat.le_refl _)) hn)
  have HI := hide' (within_any p 1 1000)
  have HZ := hide' (fun (x : World) (A : Nat) (h : x.heap[A]? = some (.cells #[.slice none 0 0, .int .i64 0, .int .i64 0, .int .i64 0, .bool false, .int .i64 0, .int .i64 0] 24 (0, 0))) => put7 (S0 := StM.nought) h)
  unfold StaO
  unfold StM.cells at HW HZ ⊢
  simp only at HW HZ ⊢
  clear hr
  rcases hb with ⟨h1, rfl, rfl, rfl⟩ | ⟨h1, h2, rfl, rfl, rfl⟩ | ⟨h1, h2, rfl, rfl, rfl⟩
  · clear HW HI
    unfold StM.nought
    go_enter Try.func19, Try.ntmps19
    go_upto_region 1 with fail
    have hqA := alloc_new w (.cells #[.slice none 0 0, .int .i64 0, .int .i64 0, .int .i64 0, .bool false, .int .i64 0, .int .i64 0] 24)
    have hb1 := below_al w (.cells #[.slice none 0 0, .int .i64 0, .int .i64 0, .int .i64 0, .bool false, .int .i64 0, .int .i64 0] 24)
    obtain ⟨w1, hw1⟩ : ∃ x, x = (w.alloc (.cells #[.slice none 0 0, .int .i64 0, .int .i64 0, .int .i64 0, .bool false, .int .i64 0, .int .i64 0] 24)) := ⟨_, rfl⟩
    rw [← hw1] at hqA hb1 ⊢
    obtain ⟨A, hnA⟩ : ∃ x, x = w.heap.size := ⟨_, rfl⟩
    have HNE : Hid (w.heap.size ≤ A) := by show _ ≤ _; omega
    rw [← hnA] at hqA
    rw [show (Value.pointer (some { block := w.heap.size, off := 0 })) = Value.pointer (some { block := A, off := 0 }) by rw [hnA]]
    have HQA := hide' hqA
    have HB1 := hide' hb1
    clear hqA hb1 hw1 hnA
    obtain ⟨b0, b1, b2, b3, b4, b5, b6⟩ := cellsP7 HQA.out
    obtain ⟨e0, e1, e2, e3, e4, e5, e6⟩ := frozenP7 HQA.out
    have HP := hide' (HZ.out w1 A HQA.out StM.nought (.slice none 0 0))
    unfold StM.nought at HP
    simp only at HP
    have HBF := hide' (HB1.out.trans (HP.out.2.below HNE.out HB1.out.size))
    clear HB1 HZ
    go_wp2
    refine bodyPost_ret (results_cell_row1 rfl _ _ A 24 _ (0, 0) _ rfl HP.out.1 Try.underlying24 rfl (by kernel_rfl)) rfl ?_
    exact ⟨none, 0, rfl, row_none _, HBF.out⟩
  · have hx : (decide (1 ≤ p) && decide (p ≤ 1000)) = false := by simp; omega
    rw [hx] at HI
    clear HW hx
    unfold StM.nought
    go_enter Try.func19, Try.ntmps19
    go_upto_region 1 with fail
    have hqA := alloc_new w (.cells #[.slice none 0 0, .int .i64 0, .int .i64 0, .int .i64 0, .bool false, .int .i64 0, .int .i64 0] 24)
    have hb1 := below_al w (.cells #[.slice none 0 0, .int .i64 0, .int .i64 0, .int .i64 0, .bool false, .int .i64 0, .int .i64 0] 24)
    obtain ⟨w1, hw1⟩ : ∃ x, x = (w.alloc (.cells #[.slice none 0 0, .int .i64 0, .int .i64 0, .int .i64 0, .bool false, .int .i64 0, .int .i64 0] 24)) := ⟨_, rfl⟩
    rw [← hw1] at hqA hb1 ⊢
    obtain ⟨A, hnA⟩ : ∃ x, x = w.heap.size := ⟨_, rfl⟩
    have HNE : Hid (w.heap.size ≤ A) := by show _ ≤ _; omega
    rw [← hnA] at hqA
    rw [show (Value.pointer (some { block := w.heap.size, off := 0 })) = Value.pointer (some { block := A, off := 0 }) by rw [hnA]]
    have HQA := hide' hqA
    have HB1 := hide' hb1
    clear hqA hb1 hw1 hnA
    obtain ⟨b0, b1, b2, b3, b4, b5, b6⟩ := cellsP7 HQA.out
    obtain ⟨e0, e1, e2, e3, e4, e5, e6⟩ := frozenP7 HQA.out
    have HP := hide' (HZ.out w1 A HQA.out StM.nought (.slice none 0 0))
    unfold StM.nought at HP
    simp only at HP
    have HBF := hide' (HB1.out.trans (HP.out.2.below HNE.out HB1.out.size))
    clear HB1 HZ
    go_wp2_with fail
    refine (HI.out _).mono ?_
    rintro e w2 ⟨rfl, rfl⟩
    go_wp2
    refine bodyPost_ret (results_cell_row1 rfl _ _ A 24 _ (0, 0) _ rfl HP.out.1 Try.underlying24 rfl (by kernel_rfl)) rfl ?_
    exact ⟨none, 0, rfl, row_none _, HBF.out⟩
  · have hx : (decide (1 ≤ p) && decide (p ≤ 1000)) = true := by simp; omega
    rw [hx] at HI
    clear hx
    subst hln
    go_enter Try.func19, Try.ntmps19
    go_upto_region 1 with fail
    have hqA := alloc_new w (.cells #[.slice none 0 0, .int .i64 0, .int .i64 0, .int .i64 0, .bool false, .int .i64 0, .int .i64 0] 24)
    have hb1 := below_al w (.cells #[.slice none 0 0, .int .i64 0, .int .i64 0, .int .i64 0, .bool false, .int .i64 0, .int .i64 0] 24)
    obtain ⟨w1, hw1⟩ : ∃ x, x = (w.alloc (.cells #[.slice none 0 0, .int .i64 0, .int .i64 0, .int .i64 0, .bool false, .int .i64 0, .int .i64 0] 24)) := ⟨_, rfl⟩
    rw [← hw1] at hqA hb1 ⊢
    obtain ⟨A, hnA⟩ : ∃ x, x = w.heap.size := ⟨_, rfl⟩
    have HNE : Hid (w.heap.size ≤ A) := by show _ ≤ _; omega
    rw [← hnA] at hqA
    rw [show (Value.pointer (some { block := w.heap.size, off := 0 })) = Value.pointer (some { block := A, off := 0 }) by rw [hnA]]
    have HQA := hide' hqA
    have HB1 := hide' hb1
    clear hqA hb1 hw1 hnA
    go_wp2_with fail
    refine (HI.out _).mono ?_
    rintro e w2 ⟨rfl, rfl⟩
    go_upto_region 6 with fail
    have HB2 := hide' (HB1.out.alloc HB1.out.size (.cells #[.slice a l1.length c, .int .i64 (-1), .int .i64 (-1), .int .i64 0, .bool false, .int .i64 0, .int .i64 p] 24))
    have HA2 := hide' ((alloc_old w2 (.cells #[.slice a l1.length c, .int .i64 (-1), .int .i64 (-1), .int .i64 0, .bool false, .int .i64 0, .int .i64 p] 24) (lt_heap HQA.out)).trans HQA.out)
    have HC2 := hide' (alloc_new w2 (.cells #[.slice a l1.length c, .int .i64 (-1), .int .i64 (-1), .int .i64 0, .bool false, .int .i64 0, .int .i64 p] 24))
    obtain ⟨w3, hw3⟩ : ∃ x, x = w2.alloc (.cells #[.slice a l1.length c, .int .i64 (-1), .int .i64 (-1), .int .i64 0, .bool false, .int .i64 0, .int .i64 p] 24) := ⟨_, rfl⟩
    obtain ⟨C, hC⟩ : ∃ x, x = w2.heap.size := ⟨_, rfl⟩
    rw [← hw3] at HB2 HA2 HC2 ⊢
    rw [← hC] at HC2
    rw [show (Value.pointer (some { block := w2.heap.size, off := 0 })) = Value.pointer (some { block := C, off := 0 }) by rw [hC]]
    clear hw3 hC HB1 HQA HI
    obtain ⟨c0, c1, c2, c3, c4, c5, c6⟩ := cellsP7 HC2.out
    go_wp2_with fail
    refine (HW.out w3 HB2.out).mono ?_
    rintro e w4 ⟨K, a1, d1, rfl, hK, hsK, ho, hb3⟩
    have HB4 : Hid (Below w.heap.size w w4) := HB2.out.trans (hb3.mono HB2.out.size)
    have HA4 := hide' ((hb3.block A (lt_heap HA2.out)).trans HA2.out)
    have HO4 := hide' (own_mono ho HB2.out.size)
    have HK4 := hide' hK
    clear hK hsK ho hb3 HB2 HA2 HC2 HW
    clear c0 c1 c2 c3 c4 c5 c6
    obtain ⟨c0, c1, c2, c3, c4, c5, c6⟩ := cellsP7 HK4.out
    obtain ⟨b0, b1, b2, b3, b4, b5, b6⟩ := cellsP7 HA4.out
    obtain ⟨e0, e1, e2, e3, e4, e5, e6⟩ := frozenP7 HA4.out
    have HP := hide' (HZ.out w4 A HA4.out ⟨-1, -1, 0, false, 0, p⟩ (.slice a1 l1.length d1))
    simp only at HP
    have HOF := hide' (rowAt_of_own (own_keep HO4.out (but_keep HP.out.2 HA4.out) (by decide)))
    have HBF := hide' (HB4.out.trans (HP.out.2.below HNE.out HB4.out.size))
    clear HB4 HZ HO4
    go_wp2
    refine bodyPost_ret (results_cell_row1 rfl _ _ A 24 _ (0, 0) _ rfl HP.out.1 Try.underlying24 rfl (by kernel_rfl)) rfl ?_
    exact ⟨a1, d1, rfl, HOF.out, HBF.out⟩
end Go.Proofs.Ytjhmendiefojoam
