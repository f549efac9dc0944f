/- Stations and masters that begin. -/
import Derived.Test.YtjhmendiefojoalS4
namespace Go.Proofs.Ytjhmendiefojoal
open Go.RowKit Go.Shelf

/-- What Begin comes to. -/
def BegO (l : List Bool) (n : Nat) (p : Int) (l1 : List Bool) (T : StM) (code : Int) : Prop := (16 < n ∧ l1 = [] ∧ T = StM.nought ∧ code = 2) ∨ (n ≤ 16 ∧ ¬ (1 ≤ p ∧ p ≤ 1000) ∧ l1 = [] ∧ T = StM.nought ∧ code = 4) ∨ (n ≤ 16 ∧ (1 ≤ p ∧ p ≤ 1000) ∧ l1 = l ∧ T = ⟨-1, -1, 0, false, 0, p⟩ ∧ code = 0)
set_option maxRecDepth 100000 in
set_option maxHeartbeats 2000000 in
theorem sides_any (l : List Bool) (v : Value) (w : World) (hr : RowAt w v l.length 1 (l.map Value.bool)) (hn : l.length ≤ 2000000) :
    Calls Try.prog 9 #[v] w fun e w' => ∃ v', e = .returned v' ∧ w'.ownsRow w.heap.size 4 1 v' l.length (l.map Value.bool) ∧ Below w.heap.size w w' := by
  obtain ⟨i4, hi4, h40, h41, h42⟩ := info_parts Try.info4
  have HR1 := hide' hr
  obtain ⟨a, cap, rfl⟩ := rowAt_slice hr
  clear hr
  go_enter Try.func9, Try.ntmps9
  go_wp2_with (at_builtin; refine wpList_append_any _ rfl _ _ 28 rfl w.heap.size 4 i4 _ 1 1 Try.underlying28 hi4 h40 h41 h42 rfl (by decide) _ _ _ rfl (World.ownsRow_nil _ _ _ _) _ _ _ rfl HR1.out (bools_one l) (by unfold maxLen; omega) (by omega) (Nat.le_refl _) ?_; intro v1 x1 hown1 hgrow1; refine Still.go ?_)
  unfold Still
  have HO : Hid (x1.ownsRow w.heap.size 4 1 v1 l.length (l.map Value.bool)) := by
    have h1 := hown1
    rw [Nat.zero_add, List.nil_append] at h1
    exact h1
  have HB : Hid (Below w.heap.size w x1) := (Below.refl _ w).grown hgrow1 (Nat.le_refl _) (fun k e => by cases e)
  obtain ⟨a1, c1, hv1⟩ := own_slice HO.out
  subst hv1
  clear hown1 hgrow1
  go_wp2
  go_ret
  exact ⟨_, rfl, HO.out, HB.out⟩
set_option maxRecDepth 100000 in
set_option maxHeartbeats 2000000 in
theorem Begin_any (l : List Bool) (n c : Nat) (a : Option Addr) (p : Int) (w : World) (hr : RowAt w (.slice a n c) n 1 (l.map Value.bool)) (hn : n ≤ 2000000) (l1 : List Bool) (T : StM) (code : Int) (hb : BegO l n p l1 T code) : Calls Try.prog 8 #[.slice a n c, .int .i64 p] w (StaO l1 T code w) := by
  have hln : l.length = n := by have h := hr.1; simpa using h
  have HW := hide' (fun w' (hb : Below w.heap.size w w') => atWork_any ⟨-1, -1, 0, false, 0, p⟩ l n c a w' (hr.below hb (Nat.le_refl _)) hn)
  have HI := hide' (within_any p 1 1000)
  have HZ := hide' (fun (x : World) (A : Nat) (h : x.heap[A]? = some (.cells #[.slice none 0 0, .int .i64 0, .int .i64 0, .int .i64 0, .bool false, .int .i64 0, .int .i64 0] 30 (0, 0))) => put7 (S0 := StM.nought) h)
  unfold StaO
  unfold StM.cells at HW HZ ⊢
  simp only at HW HZ ⊢
  clear hr
  rcases hb with ⟨h1, rfl, rfl, rfl⟩ | ⟨h1, h2, rfl, rfl, rfl⟩ | ⟨h1, h2, rfl, rfl, rfl⟩
  · clear HW HI
    unfold StM.nought
    go_enter Try.func8, Try.ntmps8
    go_upto_region 1 with fail
    have hqA := alloc_new w (.cells #[.slice none 0 0, .int .i64 0, .int .i64 0, .int .i64 0, .bool false, .int .i64 0, .int .i64 0] 30)
    have hb1 := below_al w (.cells #[.slice none 0 0, .int .i64 0, .int .i64 0, .int .i64 0, .bool false, .int .i64 0, .int .i64 0] 30)
    obtain ⟨w1, hw1⟩ : ∃ x, x = (w.alloc (.cells #[.slice none 0 0, .int .i64 0, .int .i64 0, .int .i64 0, .bool false, .int .i64 0, .int .i64 0] 30)) := ⟨_, rfl⟩
    rw [← hw1] at hqA hb1 ⊢
    obtain ⟨A, hnA⟩ : ∃ x, x = w.heap.size := ⟨_, rfl⟩
    have HNE : Hid (w.heap.size ≤ A) := by show _ ≤ _; omega
    rw [← hnA] at hqA
    rw [show (Value.pointer (some { block := w.heap.size, off := 0 })) = Value.pointer (some { block := A, off := 0 }) by rw [hnA]]
    have HQA := hide' hqA
    have HB1 := hide' hb1
    clear hqA hb1 hw1 hnA
    have b0 : w1.cell? ⟨A, 0, none⟩ = some (.slice none 0 0) := (cells_at HQA.out 0).trans rfl
    have b1 : w1.cell? ⟨A, 1, none⟩ = some (.int .i64 0) := (cells_at HQA.out 1).trans rfl
    have b2 : w1.cell? ⟨A, 2, none⟩ = some (.int .i64 0) := (cells_at HQA.out 2).trans rfl
    have b3 : w1.cell? ⟨A, 3, none⟩ = some (.int .i64 0) := (cells_at HQA.out 3).trans rfl
    have b4 : w1.cell? ⟨A, 4, none⟩ = some (.bool false) := (cells_at HQA.out 4).trans rfl
    have b5 : w1.cell? ⟨A, 5, none⟩ = some (.int .i64 0) := (cells_at HQA.out 5).trans rfl
    have b6 : w1.cell? ⟨A, 6, none⟩ = some (.int .i64 0) := (cells_at HQA.out 6).trans rfl
    have e0 : w1.frozen? ⟨A, 0, none⟩ = false := frozen_no HQA.out _
    have e1 : w1.frozen? ⟨A, 1, none⟩ = false := frozen_no HQA.out _
    have e2 : w1.frozen? ⟨A, 2, none⟩ = false := frozen_no HQA.out _
    have e3 : w1.frozen? ⟨A, 3, none⟩ = false := frozen_no HQA.out _
    have e4 : w1.frozen? ⟨A, 4, none⟩ = false := frozen_no HQA.out _
    have e5 : w1.frozen? ⟨A, 5, none⟩ = false := frozen_no HQA.out _
    have e6 : w1.frozen? ⟨A, 6, none⟩ = false := frozen_no HQA.out _
    have HP := hide' (HZ.out w1 A HQA.out StM.nought (.slice none 0 0))
    unfold StM.nought at HP
    simp only at HP
    have HBF := hide' (HB1.out.trans (HP.out.2.below HNE.out HB1.out.size))
    clear HB1 HZ
    go_wp2
    refine bodyPost_ret (results_cell_row1 rfl _ _ A 30 _ (0, 0) _ rfl HP.out.1 Try.underlying30 rfl (by kernel_rfl)) rfl ?_
    exact ⟨none, 0, rfl, row_none _, HBF.out⟩
  · have hx : (decide (1 ≤ p) && decide (p ≤ 1000)) = false := by simp; omega
    rw [hx] at HI
    clear HW hx
    unfold StM.nought
    go_enter Try.func8, Try.ntmps8
    go_upto_region 1 with fail
    have hqA := alloc_new w (.cells #[.slice none 0 0, .int .i64 0, .int .i64 0, .int .i64 0, .bool false, .int .i64 0, .int .i64 0] 30)
    have hb1 := below_al w (.cells #[.slice none 0 0, .int .i64 0, .int .i64 0, .int .i64 0, .bool false, .int .i64 0, .int .i64 0] 30)
    obtain ⟨w1, hw1⟩ : ∃ x, x = (w.alloc (.cells #[.slice none 0 0, .int .i64 0, .int .i64 0, .int .i64 0, .bool false, .int .i64 0, .int .i64 0] 30)) := ⟨_, rfl⟩
    rw [← hw1] at hqA hb1 ⊢
    obtain ⟨A, hnA⟩ : ∃ x, x = w.heap.size := ⟨_, rfl⟩
    have HNE : Hid (w.heap.size ≤ A) := by show _ ≤ _; omega
    rw [← hnA] at hqA
    rw [show (Value.pointer (some { block := w.heap.size, off := 0 })) = Value.pointer (some { block := A, off := 0 }) by rw [hnA]]
    have HQA := hide' hqA
    have HB1 := hide' hb1
    clear hqA hb1 hw1 hnA
    have b0 : w1.cell? ⟨A, 0, none⟩ = some (.slice none 0 0) := (cells_at HQA.out 0).trans rfl
    have b1 : w1.cell? ⟨A, 1, none⟩ = some (.int .i64 0) := (cells_at HQA.out 1).trans rfl
    have b2 : w1.cell? ⟨A, 2, none⟩ = some (.int .i64 0) := (cells_at HQA.out 2).trans rfl
    have b3 : w1.cell? ⟨A, 3, none⟩ = some (.int .i64 0) := (cells_at HQA.out 3).trans rfl
    have b4 : w1.cell? ⟨A, 4, none⟩ = some (.bool false) := (cells_at HQA.out 4).trans rfl
    have b5 : w1.cell? ⟨A, 5, none⟩ = some (.int .i64 0) := (cells_at HQA.out 5).trans rfl
    have b6 : w1.cell? ⟨A, 6, none⟩ = some (.int .i64 0) := (cells_at HQA.out 6).trans rfl
    have e0 : w1.frozen? ⟨A, 0, none⟩ = false := frozen_no HQA.out _
    have e1 : w1.frozen? ⟨A, 1, none⟩ = false := frozen_no HQA.out _
    have e2 : w1.frozen? ⟨A, 2, none⟩ = false := frozen_no HQA.out _
    have e3 : w1.frozen? ⟨A, 3, none⟩ = false := frozen_no HQA.out _
    have e4 : w1.frozen? ⟨A, 4, none⟩ = false := frozen_no HQA.out _
    have e5 : w1.frozen? ⟨A, 5, none⟩ = false := frozen_no HQA.out _
    have e6 : w1.frozen? ⟨A, 6, none⟩ = false := frozen_no HQA.out _
    have HP := hide' (HZ.out w1 A HQA.out StM.nought (.slice none 0 0))
    unfold StM.nought at HP
    simp only at HP
    have HBF := hide' (HB1.out.trans (HP.out.2.below HNE.out HB1.out.size))
    clear HB1 HZ
    go_wp2_with fail
    refine (HI.out _).mono ?_
    rintro e w2 ⟨rfl, rfl⟩
    go_wp2
    refine bodyPost_ret (results_cell_row1 rfl _ _ A 30 _ (0, 0) _ rfl HP.out.1 Try.underlying30 rfl (by kernel_rfl)) rfl ?_
    exact ⟨none, 0, rfl, row_none _, HBF.out⟩
  · have hx : (decide (1 ≤ p) && decide (p ≤ 1000)) = true := by simp; omega
    rw [hx] at HI
    clear hx
    subst hln
    go_enter Try.func8, Try.ntmps8
    go_upto_region 1 with fail
    have hqA := alloc_new w (.cells #[.slice none 0 0, .int .i64 0, .int .i64 0, .int .i64 0, .bool false, .int .i64 0, .int .i64 0] 30)
    have hb1 := below_al w (.cells #[.slice none 0 0, .int .i64 0, .int .i64 0, .int .i64 0, .bool false, .int .i64 0, .int .i64 0] 30)
    obtain ⟨w1, hw1⟩ : ∃ x, x = (w.alloc (.cells #[.slice none 0 0, .int .i64 0, .int .i64 0, .int .i64 0, .bool false, .int .i64 0, .int .i64 0] 30)) := ⟨_, rfl⟩
    rw [← hw1] at hqA hb1 ⊢
    obtain ⟨A, hnA⟩ : ∃ x, x = w.heap.size := ⟨_, rfl⟩
    have HNE : Hid (w.heap.size ≤ A) := by show _ ≤ _; omega
    rw [← hnA] at hqA
    rw [show (Value.pointer (some { block := w.heap.size, off := 0 })) = Value.pointer (some { block := A, off := 0 }) by rw [hnA]]
    have HQA := hide' hqA
    have HB1 := hide' hb1
    clear hqA hb1 hw1 hnA
    go_wp2_with fail
    refine (HI.out _).mono ?_
    rintro e w2 ⟨rfl, rfl⟩
    go_upto_region 6 with fail
    have HB2 := hide' (HB1.out.alloc HB1.out.size (.cells #[.slice a l1.length c, .int .i64 (-1), .int .i64 (-1), .int .i64 0, .bool false, .int .i64 0, .int .i64 p] 30))
    have HA2 := hide' ((alloc_old w2 (.cells #[.slice a l1.length c, .int .i64 (-1), .int .i64 (-1), .int .i64 0, .bool false, .int .i64 0, .int .i64 p] 30) (lt_heap HQA.out)).trans HQA.out)
    have HC2 := hide' (alloc_new w2 (.cells #[.slice a l1.length c, .int .i64 (-1), .int .i64 (-1), .int .i64 0, .bool false, .int .i64 0, .int .i64 p] 30))
    obtain ⟨w3, hw3⟩ : ∃ x, x = w2.alloc (.cells #[.slice a l1.length c, .int .i64 (-1), .int .i64 (-1), .int .i64 0, .bool false, .int .i64 0, .int .i64 p] 30) := ⟨_, rfl⟩
    obtain ⟨C, hC⟩ : ∃ x, x = w2.heap.size := ⟨_, rfl⟩
    rw [← hw3] at HB2 HA2 HC2 ⊢
    rw [← hC] at HC2
    rw [show (Value.pointer (some { block := w2.heap.size, off := 0 })) = Value.pointer (some { block := C, off := 0 }) by rw [hC]]
    clear hw3 hC HB1 HQA HI
    have c0 : w3.cell? ⟨C, 0, none⟩ = some (.slice a l1.length c) := (cells_at HC2.out 0).trans rfl
    have c1 : w3.cell? ⟨C, 1, none⟩ = some (.int .i64 (-1)) := (cells_at HC2.out 1).trans rfl
    have c2 : w3.cell? ⟨C, 2, none⟩ = some (.int .i64 (-1)) := (cells_at HC2.out 2).trans rfl
    have c3 : w3.cell? ⟨C, 3, none⟩ = some (.int .i64 0) := (cells_at HC2.out 3).trans rfl
    have c4 : w3.cell? ⟨C, 4, none⟩ = some (.bool false) := (cells_at HC2.out 4).trans rfl
    have c5 : w3.cell? ⟨C, 5, none⟩ = some (.int .i64 0) := (cells_at HC2.out 5).trans rfl
    have c6 : w3.cell? ⟨C, 6, none⟩ = some (.int .i64 p) := (cells_at HC2.out 6).trans rfl
    go_wp2_with fail
    refine (HW.out w3 HB2.out).mono ?_
    rintro e w4 ⟨K, a1, d1, rfl, hK, hsK, ho, hb3⟩
    have HB4 : Hid (Below w.heap.size w w4) := HB2.out.trans (hb3.mono HB2.out.size)
    have HA4 := hide' ((hb3.block A (lt_heap HA2.out)).trans HA2.out)
    have HO4 := hide' (own_mono ho HB2.out.size)
    have HK4 := hide' hK
    clear hK hsK ho hb3 HB2 HA2 HC2 HW
    clear c0 c1 c2 c3 c4 c5 c6
    have c0 : w4.cell? ⟨K, 0, none⟩ = some (.slice a1 l1.length d1) := (cells_at HK4.out 0).trans rfl
    have c1 : w4.cell? ⟨K, 1, none⟩ = some (.int .i64 (-1)) := (cells_at HK4.out 1).trans rfl
    have c2 : w4.cell? ⟨K, 2, none⟩ = some (.int .i64 (-1)) := (cells_at HK4.out 2).trans rfl
    have c3 : w4.cell? ⟨K, 3, none⟩ = some (.int .i64 0) := (cells_at HK4.out 3).trans rfl
    have c4 : w4.cell? ⟨K, 4, none⟩ = some (.bool false) := (cells_at HK4.out 4).trans rfl
    have c5 : w4.cell? ⟨K, 5, none⟩ = some (.int .i64 0) := (cells_at HK4.out 5).trans rfl
    have c6 : w4.cell? ⟨K, 6, none⟩ = some (.int .i64 p) := (cells_at HK4.out 6).trans rfl
    have b0 : w4.cell? ⟨A, 0, none⟩ = some (.slice none 0 0) := (cells_at HA4.out 0).trans rfl
    have b1 : w4.cell? ⟨A, 1, none⟩ = some (.int .i64 0) := (cells_at HA4.out 1).trans rfl
    have b2 : w4.cell? ⟨A, 2, none⟩ = some (.int .i64 0) := (cells_at HA4.out 2).trans rfl
    have b3 : w4.cell? ⟨A, 3, none⟩ = some (.int .i64 0) := (cells_at HA4.out 3).trans rfl
    have b4 : w4.cell? ⟨A, 4, none⟩ = some (.bool false) := (cells_at HA4.out 4).trans rfl
    have b5 : w4.cell? ⟨A, 5, none⟩ = some (.int .i64 0) := (cells_at HA4.out 5).trans rfl
    have b6 : w4.cell? ⟨A, 6, none⟩ = some (.int .i64 0) := (cells_at HA4.out 6).trans rfl
    have e0 : w4.frozen? ⟨A, 0, none⟩ = false := frozen_no HA4.out _
    have e1 : w4.frozen? ⟨A, 1, none⟩ = false := frozen_no HA4.out _
    have e2 : w4.frozen? ⟨A, 2, none⟩ = false := frozen_no HA4.out _
    have e3 : w4.frozen? ⟨A, 3, none⟩ = false := frozen_no HA4.out _
    have e4 : w4.frozen? ⟨A, 4, none⟩ = false := frozen_no HA4.out _
    have e5 : w4.frozen? ⟨A, 5, none⟩ = false := frozen_no HA4.out _
    have e6 : w4.frozen? ⟨A, 6, none⟩ = false := frozen_no HA4.out _
    have HP := hide' (HZ.out w4 A HA4.out ⟨-1, -1, 0, false, 0, p⟩ (.slice a1 l1.length d1))
    simp only at HP
    have HOF := hide' (rowAt_of_own (own_keep HO4.out (but_keep HP.out.2 HA4.out) (by decide)))
    have HBF := hide' (HB4.out.trans (HP.out.2.below HNE.out HB4.out.size))
    clear HB4 HZ HO4
    go_wp2
    refine bodyPost_ret (results_cell_row1 rfl _ _ A 30 _ (0, 0) _ rfl HP.out.1 Try.underlying30 rfl (by kernel_rfl)) rfl ?_
    exact ⟨a1, d1, rfl, HOF.out, HBF.out⟩
set_option maxRecDepth 100000 in
set_option maxHeartbeats 2000000 in
theorem BeginOf_any (l : List Bool) (n c : Nat) (a : Option Addr) (p : Int) (w : World) (hr : RowAt w (.slice a n c) n 1 (l.map Value.bool)) (hn : n ≤ 2000000) (l1 : List Bool) (T : StM) (code : Int) (hb : BegO l n p l1 T code) : Calls Try.prog 10 #[.slice a n c, .int .i64 p] w (StaO l1 T code w) := by
  have hln : l.length = n := by have h := hr.1; simpa using h
  have HRR := hide' hr
  obtain ⟨i4, hi4, h40, h41, h42⟩ := info_parts Try.info4
  have HI := hide' (inBounds_any p 1 1000)
  have HZ := hide' (fun (x : World) (A : Nat) (h : x.heap[A]? = some (.cells #[.slice none 0 0, .int .i64 0, .int .i64 0, .int .i64 0, .bool false, .int .i64 0, .int .i64 0] 30 (0, 0))) => put7 (S0 := StM.nought) h)
  unfold StaO
  unfold StM.cells at HZ ⊢
  clear hr
  rcases hb with ⟨h1, rfl, rfl, rfl⟩ | ⟨h1, h2, rfl, rfl, rfl⟩ | ⟨h1, h2, rfl, rfl, rfl⟩
  · clear HI HRR
    unfold StM.nought
    go_enter Try.func10, Try.ntmps10
    go_upto_region 1 with fail
    have hqA := alloc_new w (.cells #[.slice none 0 0, .int .i64 0, .int .i64 0, .int .i64 0, .bool false, .int .i64 0, .int .i64 0] 30)
    have hb1 := below_al w (.cells #[.slice none 0 0, .int .i64 0, .int .i64 0, .int .i64 0, .bool false, .int .i64 0, .int .i64 0] 30)
    obtain ⟨w1, hw1⟩ : ∃ x, x = (w.alloc (.cells #[.slice none 0 0, .int .i64 0, .int .i64 0, .int .i64 0, .bool false, .int .i64 0, .int .i64 0] 30)) := ⟨_, rfl⟩
    rw [← hw1] at hqA hb1 ⊢
    obtain ⟨A, hnA⟩ : ∃ x, x = w.heap.size := ⟨_, rfl⟩
    have HNE : Hid (w.heap.size ≤ A) := by show _ ≤ _; omega
    rw [← hnA] at hqA
    rw [show (Value.pointer (some { block := w.heap.size, off := 0 })) = Value.pointer (some { block := A, off := 0 }) by rw [hnA]]
    have HQA := hide' hqA
    have HB1 := hide' hb1
    clear hqA hb1 hw1 hnA
    have b0 : w1.cell? ⟨A, 0, none⟩ = some (.slice none 0 0) := (cells_at HQA.out 0).trans rfl
    have b1 : w1.cell? ⟨A, 1, none⟩ = some (.int .i64 0) := (cells_at HQA.out 1).trans rfl
    have b2 : w1.cell? ⟨A, 2, none⟩ = some (.int .i64 0) := (cells_at HQA.out 2).trans rfl
    have b3 : w1.cell? ⟨A, 3, none⟩ = some (.int .i64 0) := (cells_at HQA.out 3).trans rfl
    have b4 : w1.cell? ⟨A, 4, none⟩ = some (.bool false) := (cells_at HQA.out 4).trans rfl
    have b5 : w1.cell? ⟨A, 5, none⟩ = some (.int .i64 0) := (cells_at HQA.out 5).trans rfl
    have b6 : w1.cell? ⟨A, 6, none⟩ = some (.int .i64 0) := (cells_at HQA.out 6).trans rfl
    have e0 : w1.frozen? ⟨A, 0, none⟩ = false := frozen_no HQA.out _
    have e1 : w1.frozen? ⟨A, 1, none⟩ = false := frozen_no HQA.out _
    have e2 : w1.frozen? ⟨A, 2, none⟩ = false := frozen_no HQA.out _
    have e3 : w1.frozen? ⟨A, 3, none⟩ = false := frozen_no HQA.out _
    have e4 : w1.frozen? ⟨A, 4, none⟩ = false := frozen_no HQA.out _
    have e5 : w1.frozen? ⟨A, 5, none⟩ = false := frozen_no HQA.out _
    have e6 : w1.frozen? ⟨A, 6, none⟩ = false := frozen_no HQA.out _
    have HP := hide' (HZ.out w1 A HQA.out StM.nought (.slice none 0 0))
    unfold StM.nought at HP
    simp only at HP
    have HBF := hide' (HB1.out.trans (HP.out.2.below HNE.out HB1.out.size))
    clear HB1 HZ
    go_wp2
    refine bodyPost_ret (results_cell_row1 rfl _ _ A 30 _ (0, 0) _ rfl HP.out.1 Try.underlying30 rfl (by kernel_rfl)) rfl ?_
    exact ⟨none, 0, rfl, row_none _, HBF.out⟩
  · have hx : (decide (1 ≤ p) && decide (p ≤ 1000)) = false := by simp; omega
    rw [hx] at HI
    clear hx HRR
    unfold StM.nought
    go_enter Try.func10, Try.ntmps10
    go_upto_region 1 with fail
    have hqA := alloc_new w (.cells #[.slice none 0 0, .int .i64 0, .int .i64 0, .int .i64 0, .bool false, .int .i64 0, .int .i64 0] 30)
    have hb1 := below_al w (.cells #[.slice none 0 0, .int .i64 0, .int .i64 0, .int .i64 0, .bool false, .int .i64 0, .int .i64 0] 30)
    obtain ⟨w1, hw1⟩ : ∃ x, x = (w.alloc (.cells #[.slice none 0 0, .int .i64 0, .int .i64 0, .int .i64 0, .bool false, .int .i64 0, .int .i64 0] 30)) := ⟨_, rfl⟩
    rw [← hw1] at hqA hb1 ⊢
    obtain ⟨A, hnA⟩ : ∃ x, x = w.heap.size := ⟨_, rfl⟩
    have HNE : Hid (w.heap.size ≤ A) := by show _ ≤ _; omega
    rw [← hnA] at hqA
    rw [show (Value.pointer (some { block := w.heap.size, off := 0 })) = Value.pointer (some { block := A, off := 0 }) by rw [hnA]]
    have HQA := hide' hqA
    have HB1 := hide' hb1
    clear hqA hb1 hw1 hnA
    have b0 : w1.cell? ⟨A, 0, none⟩ = some (.slice none 0 0) := (cells_at HQA.out 0).trans rfl
    have b1 : w1.cell? ⟨A, 1, none⟩ = some (.int .i64 0) := (cells_at HQA.out 1).trans rfl
    have b2 : w1.cell? ⟨A, 2, none⟩ = some (.int .i64 0) := (cells_at HQA.out 2).trans rfl
    have b3 : w1.cell? ⟨A, 3, none⟩ = some (.int .i64 0) := (cells_at HQA.out 3).trans rfl
    have b4 : w1.cell? ⟨A, 4, none⟩ = some (.bool false) := (cells_at HQA.out 4).trans rfl
    have b5 : w1.cell? ⟨A, 5, none⟩ = some (.int .i64 0) := (cells_at HQA.out 5).trans rfl
    have b6 : w1.cell? ⟨A, 6, none⟩ = some (.int .i64 0) := (cells_at HQA.out 6).trans rfl
    have e0 : w1.frozen? ⟨A, 0, none⟩ = false := frozen_no HQA.out _
    have e1 : w1.frozen? ⟨A, 1, none⟩ = false := frozen_no HQA.out _
    have e2 : w1.frozen? ⟨A, 2, none⟩ = false := frozen_no HQA.out _
    have e3 : w1.frozen? ⟨A, 3, none⟩ = false := frozen_no HQA.out _
    have e4 : w1.frozen? ⟨A, 4, none⟩ = false := frozen_no HQA.out _
    have e5 : w1.frozen? ⟨A, 5, none⟩ = false := frozen_no HQA.out _
    have e6 : w1.frozen? ⟨A, 6, none⟩ = false := frozen_no HQA.out _
    have HP := hide' (HZ.out w1 A HQA.out StM.nought (.slice none 0 0))
    unfold StM.nought at HP
    simp only at HP
    have HBF := hide' (HB1.out.trans (HP.out.2.below HNE.out HB1.out.size))
    clear HB1 HZ
    go_wp2_with fail
    refine (HI.out _).mono ?_
    rintro e w2 ⟨rfl, rfl⟩
    go_wp2
    refine bodyPost_ret (results_cell_row1 rfl _ _ A 30 _ (0, 0) _ rfl HP.out.1 Try.underlying30 rfl (by kernel_rfl)) rfl ?_
    exact ⟨none, 0, rfl, row_none _, HBF.out⟩
  · have hx : (decide (1 ≤ p) && decide (p ≤ 1000)) = true := by simp; omega
    rw [hx] at HI
    clear hx
    subst hln
    go_enter Try.func10, Try.ntmps10
    go_upto_region 1 with fail
    have hqA := alloc_new w (.cells #[.slice none 0 0, .int .i64 0, .int .i64 0, .int .i64 0, .bool false, .int .i64 0, .int .i64 0] 30)
    have hb1 := below_al w (.cells #[.slice none 0 0, .int .i64 0, .int .i64 0, .int .i64 0, .bool false, .int .i64 0, .int .i64 0] 30)
    obtain ⟨w1, hw1⟩ : ∃ x, x = (w.alloc (.cells #[.slice none 0 0, .int .i64 0, .int .i64 0, .int .i64 0, .bool false, .int .i64 0, .int .i64 0] 30)) := ⟨_, rfl⟩
    rw [← hw1] at hqA hb1 ⊢
    obtain ⟨A, hnA⟩ : ∃ x, x = w.heap.size := ⟨_, rfl⟩
    have HNE : Hid (w.heap.size ≤ A) := by show _ ≤ _; omega
    rw [← hnA] at hqA
    rw [show (Value.pointer (some { block := w.heap.size, off := 0 })) = Value.pointer (some { block := A, off := 0 }) by rw [hnA]]
    have HQA := hide' hqA
    have HB1 := hide' hb1
    clear hqA hb1 hw1 hnA
    go_wp2_with fail
    refine (HI.out _).mono ?_
    rintro e w2 ⟨rfl, rfl⟩
    have HR1 := hide' (HRR.out.below HB1.out (Nat.le_refl _))
    go_wp2_with (at_builtin; refine wpList_append_any _ rfl _ _ 28 rfl w.heap.size 4 i4 _ 1 1 Try.underlying28 hi4 h40 h41 h42 rfl (by decide) _ _ _ rfl (World.ownsRow_nil _ _ _ _) _ _ _ rfl HR1.out (bools_one l1) (by unfold maxLen; omega) (by omega) HB1.out.size ?_; intro v1 x1 hown1 hgrow1; refine Still.go ?_)
    unfold Still
    have hg1 : w2.grownBy x1 none := hgrow1
    have ho1 : x1.ownsRow w.heap.size 4 1 v1 l1.length (l1.map Value.bool) := by have h := hown1; simpa using h
    obtain ⟨a1, d1, rfl⟩ := own_slice ho1
    have hb1 : Below w2.heap.size w2 x1 := (Below.refl _ w2).grown hg1 (Nat.le_refl _) (fun k e => by cases e)
    have HB4 : Hid (Below w.heap.size w x1) := HB1.out.trans (hb1.mono HB1.out.size)
    have HA4 := hide' ((hb1.block A (lt_heap HQA.out)).trans HQA.out)
    have HO4 := hide' ho1
    clear hown1 hgrow1 hg1 ho1 hb1 HR1 HB1 HQA HRR HI
    have b0 : x1.cell? ⟨A, 0, none⟩ = some (.slice none 0 0) := (cells_at HA4.out 0).trans rfl
    have b1 : x1.cell? ⟨A, 1, none⟩ = some (.int .i64 0) := (cells_at HA4.out 1).trans rfl
    have b2 : x1.cell? ⟨A, 2, none⟩ = some (.int .i64 0) := (cells_at HA4.out 2).trans rfl
    have b3 : x1.cell? ⟨A, 3, none⟩ = some (.int .i64 0) := (cells_at HA4.out 3).trans rfl
    have b4 : x1.cell? ⟨A, 4, none⟩ = some (.bool false) := (cells_at HA4.out 4).trans rfl
    have b5 : x1.cell? ⟨A, 5, none⟩ = some (.int .i64 0) := (cells_at HA4.out 5).trans rfl
    have b6 : x1.cell? ⟨A, 6, none⟩ = some (.int .i64 0) := (cells_at HA4.out 6).trans rfl
    have e0 : x1.frozen? ⟨A, 0, none⟩ = false := frozen_no HA4.out _
    have e1 : x1.frozen? ⟨A, 1, none⟩ = false := frozen_no HA4.out _
    have e2 : x1.frozen? ⟨A, 2, none⟩ = false := frozen_no HA4.out _
    have e3 : x1.frozen? ⟨A, 3, none⟩ = false := frozen_no HA4.out _
    have e4 : x1.frozen? ⟨A, 4, none⟩ = false := frozen_no HA4.out _
    have e5 : x1.frozen? ⟨A, 5, none⟩ = false := frozen_no HA4.out _
    have e6 : x1.frozen? ⟨A, 6, none⟩ = false := frozen_no HA4.out _
    have HP := hide' (HZ.out x1 A HA4.out ⟨-1, -1, 0, false, 0, p⟩ (.slice a1 l1.length d1))
    simp only at HP
    have HOF := hide' (rowAt_of_own (own_keep HO4.out (but_keep HP.out.2 HA4.out) (by decide)))
    have HBF := hide' (HB4.out.trans (HP.out.2.below HNE.out HB4.out.size))
    clear HB4 HZ HO4
    go_wp2
    refine bodyPost_ret (results_cell_row1 rfl _ _ A 30 _ (0, 0) _ rfl HP.out.1 Try.underlying30 rfl (by kernel_rfl)) rfl ?_
    exact ⟨a1, d1, rfl, HOF.out, HBF.out⟩
end Go.Proofs.Ytjhmendiefojoal
