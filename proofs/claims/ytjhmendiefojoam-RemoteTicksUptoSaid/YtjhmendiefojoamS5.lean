/- A station's tick in the document's answer; RemoteTicks answers true. -/
import Derived.Test.YtjhmendiefojoamS4
namespace Go.Proofs.Ytjhmendiefojoam
open Go.RowKit Go.Shelf

theorem off4 {w : World} {A e : Nat} {S : StM} {v : Value} (h : w.heap[A]? = some (.cells (S.cells v) e (0, 0))) : ((((w.setCell ⟨A, 2, none⟩ (.int .i64 (-1))).setCell ⟨A, 3, none⟩ (.int .i64 0)).setCell ⟨A, 4, none⟩ (.bool false)).setCell ⟨A, 5, none⟩ (.int .i64 0)).heap[A]? = some (.cells (S.off.cells v) e (0, 0)) ∧ But A w ((((w.setCell ⟨A, 2, none⟩ (.int .i64 (-1))).setCell ⟨A, 3, none⟩ (.int .i64 0)).setCell ⟨A, 4, none⟩ (.bool false)).setCell ⟨A, 5, none⟩ (.int .i64 0)) := by
  refine ⟨?_, But.set (But.set (But.set (But.set (But.refl A w) _ _) _ _) _ _) _ _⟩
  exact (set_any (set_any (set_any (set_any h 2 _) 3 _) 4 _) 5 _).trans (by unfold StM.cells StM.off; simp only [List.setIfInBounds_toArray, List.set_cons_zero, List.set_cons_succ])
theorem left1 {w : World} {A e : Nat} {S : StM} {v : Value} (h : w.heap[A]? = some (.cells (S.cells v) e (0, 0))) (x : Int) : (w.setCell ⟨A, 5, none⟩ (.int .i64 x)).heap[A]? = some (.cells ((⟨S.last, S.armed, S.point, S.want, x, S.pat⟩ : StM).cells v) e (0, 0)) ∧ But A w (w.setCell ⟨A, 5, none⟩ (.int .i64 x)) := ⟨(set_any h 5 _).trans (by unfold StM.cells; simp only [List.setIfInBounds_toArray, List.set_cons_zero, List.set_cons_succ]), But.set (But.refl A w) _ _⟩
set_option maxRecDepth 100000 in
set_option maxHeartbeats 4000000 in
theorem TickOf_any (S : StM) (l : List Bool) (n c : Nat) (a : Option Addr) (w : World) (hr : RowAt w (.slice a n c) n 1 (l.map Value.bool)) (hn : n ≤ 2000000) : Calls Try.prog 10 #[.agg (S.cells (.slice a n c))] w fun e w' => if mayS n S then StaO l (tickS S) 0 w e w' else StaO [] StM.nought 14 w e w' := by
  have hln : l.length = n := by have h := hr.1; simpa using h
  have HM := hide' (fun w' => StationMay_any S n c a w' (by omega))
  have HW := hide' (fun w' (hb : Below w.heap.size w w') => StationOf_any S l n c a w' (hr.below hb (Nat.le_refl _)) hn)
  have HMA := hide' (fun (hm : mayS n S = true) => (may_armed hm).2)
  have HZ := hide' (fun (x : World) (A : Nat) (h : x.heap[A]? = some (.cells #[.slice none 0 0, .int .i64 0, .int .i64 0, .int .i64 0, .bool false, .int .i64 0, .int .i64 0] 24 (0, 0))) => put7 (S0 := StM.nought) h)
  obtain ⟨M, hM⟩ : ∃ M, M = mayS n S := ⟨_, rfl⟩
  rw [← hM] at HM HMA ⊢
  obtain ⟨T, HTE⟩ : ∃ T, Hid (T = tickS S) := ⟨_, rfl⟩
  rw [← HTE.out]
  obtain ⟨tlast, tarmed, tpoint, twant, tleft, tpat⟩ := T
  clear hr hM
  subst hln
  obtain ⟨last, armed, point, want, left, pat⟩ := S
  unfold StaO
  unfold StM.cells at HM HW HZ ⊢
  simp only at HM HW HMA HZ ⊢
  go_enter Try.func10, Try.ntmps10
  go_upto_region 1 with fail
  have hqY := (alloc_old (w.alloc (.cells #[.slice a l.length c, .int .i64 last, .int .i64 armed, .int .i64 point, .bool want, .int .i64 left, .int .i64 pat] 24)) (.cells #[.slice none 0 0, .int .i64 0, .int .i64 0, .int .i64 0, .bool false, .int .i64 0, .int .i64 0] 24) (lt_heap (alloc_new w (.cells #[.slice a l.length c, .int .i64 last, .int .i64 armed, .int .i64 point, .bool want, .int .i64 left, .int .i64 pat] 24)))).trans (alloc_new w (.cells #[.slice a l.length c, .int .i64 last, .int .i64 armed, .int .i64 point, .bool want, .int .i64 left, .int .i64 pat] 24))
  have hqA := alloc_new (w.alloc (.cells #[.slice a l.length c, .int .i64 last, .int .i64 armed, .int .i64 point, .bool want, .int .i64 left, .int .i64 pat] 24)) (.cells #[.slice none 0 0, .int .i64 0, .int .i64 0, .int .i64 0, .bool false, .int .i64 0, .int .i64 0] 24)
  have hb1 := (below_al w (.cells #[.slice a l.length c, .int .i64 last, .int .i64 armed, .int .i64 point, .bool want, .int .i64 left, .int .i64 pat] 24)).alloc (below_al w (.cells #[.slice a l.length c, .int .i64 last, .int .i64 armed, .int .i64 point, .bool want, .int .i64 left, .int .i64 pat] 24)).size (.cells #[.slice none 0 0, .int .i64 0, .int .i64 0, .int .i64 0, .bool false, .int .i64 0, .int .i64 0] 24)
  rw [show (w.alloc (.cells #[.slice a l.length c, .int .i64 last, .int .i64 armed, .int .i64 point, .bool want, .int .i64 left, .int .i64 pat] 24)).heap.size = w.heap.size + 1 from by simp only [World.size_alloc]] at hqA
  obtain ⟨w1, hw1⟩ : ∃ x, x = ((w.alloc (.cells #[.slice a l.length c, .int .i64 last, .int .i64 armed, .int .i64 point, .bool want, .int .i64 left, .int .i64 pat] 24)).alloc (.cells #[.slice none 0 0, .int .i64 0, .int .i64 0, .int .i64 0, .bool false, .int .i64 0, .int .i64 0] 24)) := ⟨_, rfl⟩
  rw [← hw1] at hqY hqA hb1 ⊢
  obtain ⟨Y, hnY⟩ : ∃ x, x = w.heap.size := ⟨_, rfl⟩
  obtain ⟨A, hnA⟩ : ∃ x, x = w.heap.size + 1 := ⟨_, rfl⟩
  have HNE : Hid (w.heap.size ≤ Y ∧ w.heap.size ≤ A ∧ Y ≠ A) := ⟨by omega, by omega, by omega⟩
  rw [← hnY] at hqY
  rw [← hnA] at hqA
  rw [show (Value.pointer (some { block := w.heap.size, off := 0 })) = Value.pointer (some { block := Y, off := 0 }) by rw [hnY], show (Value.pointer (some { block := w.heap.size + 1, off := 0 })) = Value.pointer (some { block := A, off := 0 }) by rw [hnA]]
  have HQY := hide' hqY
  have HQA := hide' hqA
  have HB1 := hide' hb1
  clear hqY hqA hb1 hw1 hnY hnA
  have c0 : w1.cell? ⟨Y, 0, none⟩ = some (.slice a l.length c) := (cells_at HQY.out 0).trans rfl
  have c1 : w1.cell? ⟨Y, 1, none⟩ = some (.int .i64 last) := (cells_at HQY.out 1).trans rfl
  have c2 : w1.cell? ⟨Y, 2, none⟩ = some (.int .i64 armed) := (cells_at HQY.out 2).trans rfl
  have c3 : w1.cell? ⟨Y, 3, none⟩ = some (.int .i64 point) := (cells_at HQY.out 3).trans rfl
  have c4 : w1.cell? ⟨Y, 4, none⟩ = some (.bool want) := (cells_at HQY.out 4).trans rfl
  have c5 : w1.cell? ⟨Y, 5, none⟩ = some (.int .i64 left) := (cells_at HQY.out 5).trans rfl
  have c6 : w1.cell? ⟨Y, 6, none⟩ = some (.int .i64 pat) := (cells_at HQY.out 6).trans rfl
  go_wp2_with fail
  refine (HM.out w1).mono ?_
  rintro e w2 ⟨rfl, hb2⟩
  have HB2 : Hid (Below w.heap.size w w2) := HB1.out.trans (hb2.mono HB1.out.size)
  have HY2 := hide' ((hb2.block Y (lt_heap HQY.out)).trans HQY.out)
  have HA2 := hide' ((hb2.block A (lt_heap HQA.out)).trans HQA.out)
  clear hb2 HB1 HQY HQA HM
  clear c0 c1 c2 c3 c4 c5 c6
  cases M with
  | false =>
    clear HMA HW HY2
    have b0 : w2.cell? ⟨A, 0, none⟩ = some (.slice none 0 0) := (cells_at HA2.out 0).trans rfl
    have b1 : w2.cell? ⟨A, 1, none⟩ = some (.int .i64 0) := (cells_at HA2.out 1).trans rfl
    have b2 : w2.cell? ⟨A, 2, none⟩ = some (.int .i64 0) := (cells_at HA2.out 2).trans rfl
    have b3 : w2.cell? ⟨A, 3, none⟩ = some (.int .i64 0) := (cells_at HA2.out 3).trans rfl
    have b4 : w2.cell? ⟨A, 4, none⟩ = some (.bool false) := (cells_at HA2.out 4).trans rfl
    have b5 : w2.cell? ⟨A, 5, none⟩ = some (.int .i64 0) := (cells_at HA2.out 5).trans rfl
    have b6 : w2.cell? ⟨A, 6, none⟩ = some (.int .i64 0) := (cells_at HA2.out 6).trans rfl
    have e0 : w2.frozen? ⟨A, 0, none⟩ = false := frozen_no HA2.out _
    have e1 : w2.frozen? ⟨A, 1, none⟩ = false := frozen_no HA2.out _
    have e2 : w2.frozen? ⟨A, 2, none⟩ = false := frozen_no HA2.out _
    have e3 : w2.frozen? ⟨A, 3, none⟩ = false := frozen_no HA2.out _
    have e4 : w2.frozen? ⟨A, 4, none⟩ = false := frozen_no HA2.out _
    have e5 : w2.frozen? ⟨A, 5, none⟩ = false := frozen_no HA2.out _
    have e6 : w2.frozen? ⟨A, 6, none⟩ = false := frozen_no HA2.out _
    have HP := hide' (HZ.out w2 A HA2.out StM.nought (.slice none 0 0))
    unfold StM.nought at HP
    simp only at HP
    have HBF := hide' (HB2.out.trans (HP.out.2.below HNE.out.2.1 HB2.out.size))
    clear HB2 HZ
    go_wp2
    refine bodyPost_ret (results_cell_row1 rfl _ _ A 24 _ (0, 0) _ rfl HP.out.1 Try.underlying24 rfl (by kernel_rfl)) rfl ?_
    exact ⟨none, 0, rfl, row_none _, HBF.out⟩
  | true =>
    have hma := HMA.out rfl
    clear HMA
    have c0 : w2.cell? ⟨Y, 0, none⟩ = some (.slice a l.length c) := (cells_at HY2.out 0).trans rfl
    have c1 : w2.cell? ⟨Y, 1, none⟩ = some (.int .i64 last) := (cells_at HY2.out 1).trans rfl
    have c2 : w2.cell? ⟨Y, 2, none⟩ = some (.int .i64 armed) := (cells_at HY2.out 2).trans rfl
    have c3 : w2.cell? ⟨Y, 3, none⟩ = some (.int .i64 point) := (cells_at HY2.out 3).trans rfl
    have c4 : w2.cell? ⟨Y, 4, none⟩ = some (.bool want) := (cells_at HY2.out 4).trans rfl
    have c5 : w2.cell? ⟨Y, 5, none⟩ = some (.int .i64 left) := (cells_at HY2.out 5).trans rfl
    have c6 : w2.cell? ⟨Y, 6, none⟩ = some (.int .i64 pat) := (cells_at HY2.out 6).trans rfl
    go_wp2_with fail
    refine (HW.out w2 HB2.out).mono ?_
    rintro e w3 ⟨a1, d1, rfl, ho, hb3⟩
    have HB3 : Hid (Below w.heap.size w w3) := HB2.out.trans (hb3.mono HB2.out.size)
    have HA3 := hide' ((hb3.block A (lt_heap HA2.out)).trans HA2.out)
    have HO3 := hide' (own_mono ho HB2.out.size)
    clear ho hb3 HB2 HA2 HY2 HW
    clear c0 c1 c2 c3 c4 c5 c6
    have HMA := hide' hma
    clear hma
    go_upto_region 4 with fail
    have HBB := hide' (alloc_new w3 (.cells #[.slice a1 l.length d1, .int .i64 last, .int .i64 armed, .int .i64 point, .bool want, .int .i64 left, .int .i64 pat] 24))
    have HB4 := hide' (HB3.out.alloc HB3.out.size (.cells #[.slice a1 l.length d1, .int .i64 last, .int .i64 armed, .int .i64 point, .bool want, .int .i64 left, .int .i64 pat] 24))
    have HA4 := hide' ((alloc_old w3 (.cells #[.slice a1 l.length d1, .int .i64 last, .int .i64 armed, .int .i64 point, .bool want, .int .i64 left, .int .i64 pat] 24) (lt_heap HA3.out)).trans HA3.out)
    have HO4 := hide' (own_below HO3.out (below_al w3 (.cells #[.slice a1 l.length d1, .int .i64 last, .int .i64 armed, .int .i64 point, .bool want, .int .i64 left, .int .i64 pat] 24)) (Nat.le_refl _))
    have HBA : Hid (A ≠ w3.heap.size ∧ w.heap.size ≤ w3.heap.size) := ⟨by have := lt_heap HA3.out; omega, HB3.out.size⟩
    obtain ⟨w4, hw4⟩ : ∃ x, x = w3.alloc (.cells #[.slice a1 l.length d1, .int .i64 last, .int .i64 armed, .int .i64 point, .bool want, .int .i64 left, .int .i64 pat] 24) := ⟨_, rfl⟩
    obtain ⟨B, hB⟩ : ∃ x, x = w3.heap.size := ⟨_, rfl⟩
    rw [← hw4] at HBB HB4 HA4 HO4 ⊢
    rw [← hB] at HBB HBA
    rw [show (Value.pointer (some { block := w3.heap.size, off := 0 })) = Value.pointer (some { block := B, off := 0 }) by rw [hB]]
    clear hw4 hB HB3 HA3 HO3
    have c2 : w4.cell? ⟨B, 2, none⟩ = some (.int .i64 armed) := (cells_at HBB.out 2).trans rfl
    have c3 : w4.cell? ⟨B, 3, none⟩ = some (.int .i64 point) := (cells_at HBB.out 3).trans rfl
    have c4 : w4.cell? ⟨B, 4, none⟩ = some (.bool want) := (cells_at HBB.out 4).trans rfl
    have c5 : w4.cell? ⟨B, 5, none⟩ = some (.int .i64 left) := (cells_at HBB.out 5).trans rfl
    have f2 : w4.frozen? ⟨B, 2, none⟩ = false := frozen_no HBB.out _
    have f3 : w4.frozen? ⟨B, 3, none⟩ = false := frozen_no HBB.out _
    have f4 : w4.frozen? ⟨B, 4, none⟩ = false := frozen_no HBB.out _
    have f5 : w4.frozen? ⟨B, 5, none⟩ = false := frozen_no HBB.out _
    rcases HMA.out with ⟨rfl, rfl, rfl, rfl⟩ | ⟨ha, _, _, h1, h2⟩
    · have HF : Hid (((((w4.setCell ⟨B, 2, none⟩ (.int .i64 (-1))).setCell ⟨B, 3, none⟩ (.int .i64 0)).setCell ⟨B, 4, none⟩ (.bool false)).setCell ⟨B, 5, none⟩ (.int .i64 0)).heap[B]? = some (.cells ((⟨tlast, tarmed, tpoint, twant, tleft, tpat⟩ : StM).cells (.slice a1 l.length d1)) 24 (0, 0)) ∧ But B w4 ((((w4.setCell ⟨B, 2, none⟩ (.int .i64 (-1))).setCell ⟨B, 3, none⟩ (.int .i64 0)).setCell ⟨B, 4, none⟩ (.bool false)).setCell ⟨B, 5, none⟩ (.int .i64 0))) := by rw [HTE.out]; exact off4 (S := ⟨last, -1, 0, false, 0, pat⟩) HBB.out
      clear HMA
      go_upto_region 8 with fail
      have HB5 := hide' (HB4.out.trans (HF.out.2.below HBA.out.2 HB4.out.size))
      have HA5 := hide' ((HF.out.2.block A (lt_heap HA4.out) HBA.out.1).trans HA4.out)
      have HO5 := hide' (own_keep HO4.out (but_keep HF.out.2 HBB.out) (by decide))
      obtain ⟨w5, hw5⟩ : ∃ x, x = ((((w4.setCell ⟨B, 2, none⟩ (.int .i64 (-1))).setCell ⟨B, 3, none⟩ (.int .i64 0)).setCell ⟨B, 4, none⟩ (.bool false)).setCell ⟨B, 5, none⟩ (.int .i64 0)) := ⟨_, rfl⟩
      rw [← hw5] at HF HB5 HA5 HO5 ⊢
      have HF1 := hide' HF.out.1
      clear HF HB4 HA4 HO4 HBB hw5 HTE c2 c3 c4 c5 f2 f3 f4 f5
      unfold StM.cells at HF1
      simp only at HF1
      have c0 : w5.cell? ⟨B, 0, none⟩ = some (.slice a1 l.length d1) := (cells_at HF1.out 0).trans rfl
      have c1 : w5.cell? ⟨B, 1, none⟩ = some (.int .i64 tlast) := (cells_at HF1.out 1).trans rfl
      have c2 : w5.cell? ⟨B, 2, none⟩ = some (.int .i64 tarmed) := (cells_at HF1.out 2).trans rfl
      have c3 : w5.cell? ⟨B, 3, none⟩ = some (.int .i64 tpoint) := (cells_at HF1.out 3).trans rfl
      have c4 : w5.cell? ⟨B, 4, none⟩ = some (.bool twant) := (cells_at HF1.out 4).trans rfl
      have c5 : w5.cell? ⟨B, 5, none⟩ = some (.int .i64 tleft) := (cells_at HF1.out 5).trans rfl
      have c6 : w5.cell? ⟨B, 6, none⟩ = some (.int .i64 tpat) := (cells_at HF1.out 6).trans rfl
      have b0 : w5.cell? ⟨A, 0, none⟩ = some (.slice none 0 0) := (cells_at HA5.out 0).trans rfl
      have b1 : w5.cell? ⟨A, 1, none⟩ = some (.int .i64 0) := (cells_at HA5.out 1).trans rfl
      have b2 : w5.cell? ⟨A, 2, none⟩ = some (.int .i64 0) := (cells_at HA5.out 2).trans rfl
      have b3 : w5.cell? ⟨A, 3, none⟩ = some (.int .i64 0) := (cells_at HA5.out 3).trans rfl
      have b4 : w5.cell? ⟨A, 4, none⟩ = some (.bool false) := (cells_at HA5.out 4).trans rfl
      have b5 : w5.cell? ⟨A, 5, none⟩ = some (.int .i64 0) := (cells_at HA5.out 5).trans rfl
      have b6 : w5.cell? ⟨A, 6, none⟩ = some (.int .i64 0) := (cells_at HA5.out 6).trans rfl
      have e0 : w5.frozen? ⟨A, 0, none⟩ = false := frozen_no HA5.out _
      have e1 : w5.frozen? ⟨A, 1, none⟩ = false := frozen_no HA5.out _
      have e2 : w5.frozen? ⟨A, 2, none⟩ = false := frozen_no HA5.out _
      have e3 : w5.frozen? ⟨A, 3, none⟩ = false := frozen_no HA5.out _
      have e4 : w5.frozen? ⟨A, 4, none⟩ = false := frozen_no HA5.out _
      have e5 : w5.frozen? ⟨A, 5, none⟩ = false := frozen_no HA5.out _
      have e6 : w5.frozen? ⟨A, 6, none⟩ = false := frozen_no HA5.out _
      have HP := hide' (HZ.out w5 A HA5.out ⟨tlast, tarmed, tpoint, twant, tleft, tpat⟩ (.slice a1 l.length d1))
      simp only at HP
      have HOF := hide' (rowAt_of_own (own_keep HO5.out (but_keep HP.out.2 HA5.out) (by decide)))
      have HBF := hide' (HB5.out.trans (HP.out.2.below HNE.out.2.1 HB5.out.size))
      clear HB5 HZ HO5 HF1 HA5
      go_wp2
      refine bodyPost_ret (results_cell_row1 rfl _ _ A 24 _ (0, 0) _ rfl HP.out.1 Try.underlying24 rfl (by kernel_rfl)) rfl ?_
      exact ⟨a1, d1, rfl, HOF.out, HBF.out⟩
    · clear HMA
      by_cases hz : left = 1
      · subst hz
        have HF : Hid ((((((w4.setCell ⟨B, 5, none⟩ (.int .i64 0)).setCell ⟨B, 2, none⟩ (.int .i64 (-1))).setCell ⟨B, 3, none⟩ (.int .i64 0)).setCell ⟨B, 4, none⟩ (.bool false)).setCell ⟨B, 5, none⟩ (.int .i64 0)).heap[B]? = some (.cells ((⟨tlast, tarmed, tpoint, twant, tleft, tpat⟩ : StM).cells (.slice a1 l.length d1)) 24 (0, 0)) ∧ But B w4 (((((w4.setCell ⟨B, 5, none⟩ (.int .i64 0)).setCell ⟨B, 2, none⟩ (.int .i64 (-1))).setCell ⟨B, 3, none⟩ (.int .i64 0)).setCell ⟨B, 4, none⟩ (.bool false)).setCell ⟨B, 5, none⟩ (.int .i64 0))) := by
          have h5 := left1 (S := ⟨last, armed, point, want, 1, pat⟩) HBB.out 0
          have h6 := off4 h5.1
          refine ⟨?_, h5.2.trans h6.2⟩
          rw [HTE.out]
          unfold tickS
          rw [if_neg ha, if_pos rfl]
          exact h6.1
        go_upto_region 8 with fail
        have HB5 := hide' (HB4.out.trans (HF.out.2.below HBA.out.2 HB4.out.size))
        have HA5 := hide' ((HF.out.2.block A (lt_heap HA4.out) HBA.out.1).trans HA4.out)
        have HO5 := hide' (own_keep HO4.out (but_keep HF.out.2 HBB.out) (by decide))
        obtain ⟨w5, hw5⟩ : ∃ x, x = (((((w4.setCell ⟨B, 5, none⟩ (.int .i64 0)).setCell ⟨B, 2, none⟩ (.int .i64 (-1))).setCell ⟨B, 3, none⟩ (.int .i64 0)).setCell ⟨B, 4, none⟩ (.bool false)).setCell ⟨B, 5, none⟩ (.int .i64 0)) := ⟨_, rfl⟩
        rw [← hw5] at HF HB5 HA5 HO5 ⊢
        have HF1 := hide' HF.out.1
        clear HF HB4 HA4 HO4 HBB hw5 HTE c2 c3 c4 c5 f2 f3 f4 f5
        unfold StM.cells at HF1
        simp only at HF1
        have c0 : w5.cell? ⟨B, 0, none⟩ = some (.slice a1 l.length d1) := (cells_at HF1.out 0).trans rfl
        have c1 : w5.cell? ⟨B, 1, none⟩ = some (.int .i64 tlast) := (cells_at HF1.out 1).trans rfl
        have c2 : w5.cell? ⟨B, 2, none⟩ = some (.int .i64 tarmed) := (cells_at HF1.out 2).trans rfl
        have c3 : w5.cell? ⟨B, 3, none⟩ = some (.int .i64 tpoint) := (cells_at HF1.out 3).trans rfl
        have c4 : w5.cell? ⟨B, 4, none⟩ = some (.bool twant) := (cells_at HF1.out 4).trans rfl
        have c5 : w5.cell? ⟨B, 5, none⟩ = some (.int .i64 tleft) := (cells_at HF1.out 5).trans rfl
        have c6 : w5.cell? ⟨B, 6, none⟩ = some (.int .i64 tpat) := (cells_at HF1.out 6).trans rfl
        have b0 : w5.cell? ⟨A, 0, none⟩ = some (.slice none 0 0) := (cells_at HA5.out 0).trans rfl
        have b1 : w5.cell? ⟨A, 1, none⟩ = some (.int .i64 0) := (cells_at HA5.out 1).trans rfl
        have b2 : w5.cell? ⟨A, 2, none⟩ = some (.int .i64 0) := (cells_at HA5.out 2).trans rfl
        have b3 : w5.cell? ⟨A, 3, none⟩ = some (.int .i64 0) := (cells_at HA5.out 3).trans rfl
        have b4 : w5.cell? ⟨A, 4, none⟩ = some (.bool false) := (cells_at HA5.out 4).trans rfl
        have b5 : w5.cell? ⟨A, 5, none⟩ = some (.int .i64 0) := (cells_at HA5.out 5).trans rfl
        have b6 : w5.cell? ⟨A, 6, none⟩ = some (.int .i64 0) := (cells_at HA5.out 6).trans rfl
        have e0 : w5.frozen? ⟨A, 0, none⟩ = false := frozen_no HA5.out _
        have e1 : w5.frozen? ⟨A, 1, none⟩ = false := frozen_no HA5.out _
        have e2 : w5.frozen? ⟨A, 2, none⟩ = false := frozen_no HA5.out _
        have e3 : w5.frozen? ⟨A, 3, none⟩ = false := frozen_no HA5.out _
        have e4 : w5.frozen? ⟨A, 4, none⟩ = false := frozen_no HA5.out _
        have e5 : w5.frozen? ⟨A, 5, none⟩ = false := frozen_no HA5.out _
        have e6 : w5.frozen? ⟨A, 6, none⟩ = false := frozen_no HA5.out _
        have HP := hide' (HZ.out w5 A HA5.out ⟨tlast, tarmed, tpoint, twant, tleft, tpat⟩ (.slice a1 l.length d1))
        simp only at HP
        have HOF := hide' (rowAt_of_own (own_keep HO5.out (but_keep HP.out.2 HA5.out) (by decide)))
        have HBF := hide' (HB5.out.trans (HP.out.2.below HNE.out.2.1 HB5.out.size))
        clear HB5 HZ HO5 HF1 HA5
        go_wp2
        refine bodyPost_ret (results_cell_row1 rfl _ _ A 24 _ (0, 0) _ rfl HP.out.1 Try.underlying24 rfl (by kernel_rfl)) rfl ?_
        exact ⟨a1, d1, rfl, HOF.out, HBF.out⟩
      · have HF : Hid ((w4.setCell ⟨B, 5, none⟩ (.int .i64 (left - 1))).heap[B]? = some (.cells ((⟨tlast, tarmed, tpoint, twant, tleft, tpat⟩ : StM).cells (.slice a1 l.length d1)) 24 (0, 0)) ∧ But B w4 (w4.setCell ⟨B, 5, none⟩ (.int .i64 (left - 1)))) := by
          have h5 := left1 (S := ⟨last, armed, point, want, left, pat⟩) HBB.out (left - 1)
          refine ⟨?_, h5.2⟩
          rw [HTE.out]
          unfold tickS
          rw [if_neg ha, if_neg hz]
          exact h5.1
        go_upto_region 8 with fail
        have HB5 := hide' (HB4.out.trans (HF.out.2.below HBA.out.2 HB4.out.size))
        have HA5 := hide' ((HF.out.2.block A (lt_heap HA4.out) HBA.out.1).trans HA4.out)
        have HO5 := hide' (own_keep HO4.out (but_keep HF.out.2 HBB.out) (by decide))
        obtain ⟨w5, hw5⟩ : ∃ x, x = (w4.setCell ⟨B, 5, none⟩ (.int .i64 (left - 1))) := ⟨_, rfl⟩
        rw [← hw5] at HF HB5 HA5 HO5 ⊢
        have HF1 := hide' HF.out.1
        clear HF HB4 HA4 HO4 HBB hw5 HTE c2 c3 c4 c5 f2 f3 f4 f5
        unfold StM.cells at HF1
        simp only at HF1
        have c0 : w5.cell? ⟨B, 0, none⟩ = some (.slice a1 l.length d1) := (cells_at HF1.out 0).trans rfl
        have c1 : w5.cell? ⟨B, 1, none⟩ = some (.int .i64 tlast) := (cells_at HF1.out 1).trans rfl
        have c2 : w5.cell? ⟨B, 2, none⟩ = some (.int .i64 tarmed) := (cells_at HF1.out 2).trans rfl
        have c3 : w5.cell? ⟨B, 3, none⟩ = some (.int .i64 tpoint) := (cells_at HF1.out 3).trans rfl
        have c4 : w5.cell? ⟨B, 4, none⟩ = some (.bool twant) := (cells_at HF1.out 4).trans rfl
        have c5 : w5.cell? ⟨B, 5, none⟩ = some (.int .i64 tleft) := (cells_at HF1.out 5).trans rfl
        have c6 : w5.cell? ⟨B, 6, none⟩ = some (.int .i64 tpat) := (cells_at HF1.out 6).trans rfl
        have b0 : w5.cell? ⟨A, 0, none⟩ = some (.slice none 0 0) := (cells_at HA5.out 0).trans rfl
        have b1 : w5.cell? ⟨A, 1, none⟩ = some (.int .i64 0) := (cells_at HA5.out 1).trans rfl
        have b2 : w5.cell? ⟨A, 2, none⟩ = some (.int .i64 0) := (cells_at HA5.out 2).trans rfl
        have b3 : w5.cell? ⟨A, 3, none⟩ = some (.int .i64 0) := (cells_at HA5.out 3).trans rfl
        have b4 : w5.cell? ⟨A, 4, none⟩ = some (.bool false) := (cells_at HA5.out 4).trans rfl
        have b5 : w5.cell? ⟨A, 5, none⟩ = some (.int .i64 0) := (cells_at HA5.out 5).trans rfl
        have b6 : w5.cell? ⟨A, 6, none⟩ = some (.int .i64 0) := (cells_at HA5.out 6).trans rfl
        have e0 : w5.frozen? ⟨A, 0, none⟩ = false := frozen_no HA5.out _
        have e1 : w5.frozen? ⟨A, 1, none⟩ = false := frozen_no HA5.out _
        have e2 : w5.frozen? ⟨A, 2, none⟩ = false := frozen_no HA5.out _
        have e3 : w5.frozen? ⟨A, 3, none⟩ = false := frozen_no HA5.out _
        have e4 : w5.frozen? ⟨A, 4, none⟩ = false := frozen_no HA5.out _
        have e5 : w5.frozen? ⟨A, 5, none⟩ = false := frozen_no HA5.out _
        have e6 : w5.frozen? ⟨A, 6, none⟩ = false := frozen_no HA5.out _
        have HP := hide' (HZ.out w5 A HA5.out ⟨tlast, tarmed, tpoint, twant, tleft, tpat⟩ (.slice a1 l.length d1))
        simp only at HP
        have HOF := hide' (rowAt_of_own (own_keep HO5.out (but_keep HP.out.2 HA5.out) (by decide)))
        have HBF := hide' (HB5.out.trans (HP.out.2.below HNE.out.2.1 HB5.out.size))
        clear HB5 HZ HO5 HF1 HA5
        go_wp2
        refine bodyPost_ret (results_cell_row1 rfl _ _ A 24 _ (0, 0) _ rfl HP.out.1 Try.underlying24 rfl (by kernel_rfl)) rfl ?_
        exact ⟨a1, d1, rfl, HOF.out, HBF.out⟩
end Go.Proofs.Ytjhmendiefojoam
