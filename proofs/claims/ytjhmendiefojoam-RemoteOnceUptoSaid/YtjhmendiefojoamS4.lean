/- A station's tick. -/
import Derived.Test.YtjhmendiefojoamYc
import Derived.Test.YtjhmendiefojoamS3
namespace Go.Proofs.Ytjhmendiefojoam
open Go.RowKit Go.Shelf

/-- A station that is armed no more. -/
def StM.off (S : StM) : StM := ⟨S.last, -1, 0, false, 0, S.pat⟩
def tickS (S : StM) : StM := if S.armed = -1 then S else if S.left = 1 then S.off else ⟨S.last, S.armed, S.point, S.want, S.left - 1, S.pat⟩
def StM.nought : StM := ⟨0, 0, 0, false, 0, 0⟩
/-- A station and a word of error are answered. -/
def StaO (l : List Bool) (S : StM) (code : Int) (w : World) (e : Ending) (w' : World) : Prop := ∃ a c, e = .returned (.tuple #[.agg (S.cells (.slice a l.length c)), .int .i64 code]) ∧ RowAt w' (.slice a l.length c) l.length 1 (l.map Value.bool) ∧ Below w.heap.size w w'
theorem row_none (w : World) : RowAt w (.slice none 0 0) ([] : List Bool).length 1 (([] : List Bool).map Value.bool) := ⟨rfl, none, 0, rfl, fun j u h => by simp at h⟩
theorem may_armed {n : Nat} {S : StM} (h : mayS n S = true) : n ≤ 16 ∧ (S.armed = -1 ∧ S.point = 0 ∧ S.want = false ∧ S.left = 0 ∨ S.armed ≠ -1 ∧ (S.last < S.armed ∧ S.armed ≤ 1000000000) ∧ (0 ≤ S.point ∧ S.point < n) ∧ 1 ≤ S.left ∧ S.left ≤ 1000) := by
  unfold mayS at h
  simp only [Bool.and_eq_true, Bool.or_eq_true, decide_eq_true_eq] at h
  obtain ⟨⟨⟨h0, h1⟩, h2⟩, h3⟩ := h
  refine ⟨h0, ?_⟩
  rcases h3 with h3 | h3
  · exact .inl h3
  · exact .inr ⟨by omega, ⟨by omega, by omega⟩, ⟨by omega, by omega⟩, by omega, by omega⟩
set_option maxRecDepth 100000 in
set_option maxHeartbeats 2000000 in
theorem disarm_any (S : StM) (K : Nat) (v : Value) (w : World) (h : w.heap[K]? = some (.cells (S.cells v) 60 (0, 0))) : Calls Try.prog 43 #[.pointer (some ⟨K, 0, none⟩)] w fun e w' => e = .returned (.tuple #[]) ∧ w'.heap[K]? = some (.cells (S.off.cells v) 60 (0, 0)) ∧ But K w w' := by
  obtain ⟨_, _, c2, c3, c4, c5, _⟩ := cell7 h
  obtain ⟨-, -, e2, e3, e4, e5⟩ := frozenP6 h
  have HF : Hid (((((w.setCell ⟨K, 2, none⟩ (.int .i64 (-1))).setCell ⟨K, 3, none⟩ (.int .i64 0)).setCell ⟨K, 4, none⟩ (.bool false)).setCell ⟨K, 5, none⟩ (.int .i64 0)).heap[K]? = some (.cells (S.off.cells v) 60 (0, 0)) ∧ But K w ((((w.setCell ⟨K, 2, none⟩ (.int .i64 (-1))).setCell ⟨K, 3, none⟩ (.int .i64 0)).setCell ⟨K, 4, none⟩ (.bool false)).setCell ⟨K, 5, none⟩ (.int .i64 0))) := by
    refine ⟨?_, But.set (But.set (But.set (But.set (But.refl K w) _ _) _ _) _ _) _ _⟩
    exact (set_any (set_any (set_any (set_any h 2 _) 3 _) 4 _) 5 _).trans (by unfold StM.cells StM.off; simp only [List.setIfInBounds_toArray, List.set_cons_zero, List.set_cons_succ])
  clear h
  go_enter Try.func43, Try.ntmps43
  go_wp2
  refine bodyPost_end (results_none rfl _ _ _) rfl ?_
  exact ⟨rfl, HF.out⟩
set_option maxRecDepth 100000 in
set_option maxHeartbeats 2000000 in
theorem tick_any (S : StM) (K : Nat) (v : Value) (w : World) (h : w.heap[K]? = some (.cells (S.cells v) 60 (0, 0))) (hl : S.armed ≠ -1 → 1 ≤ S.left ∧ S.left ≤ 1000) : Calls Try.prog 25 #[.pointer (some ⟨K, 0, none⟩)] w fun e w' => e = .returned (.tuple #[]) ∧ w'.heap[K]? = some (.cells ((tickS S).cells v) 60 (0, 0)) ∧ But K w w' := by
  have HH := hide' h
  have HS : Hid (∀ x, (w.setCell ⟨K, 5, none⟩ (.int .i64 x)).heap[K]? = some (.cells ((⟨S.last, S.armed, S.point, S.want, x, S.pat⟩ : StM).cells v) 60 (0, 0)) ∧ But K w (w.setCell ⟨K, 5, none⟩ (.int .i64 x))) := fun x => ⟨(set_any h 5 _).trans (by unfold StM.cells; simp only [List.setIfInBounds_toArray, List.set_cons_zero, List.set_cons_succ]), But.set (But.refl K w) _ _⟩
  have HD := hide' (fun w' x (h' : w'.heap[K]? = some (.cells ((⟨S.last, S.armed, S.point, S.want, x, S.pat⟩ : StM).cells v) 60 (0, 0))) => disarm_any _ K v w' h')
  obtain ⟨-, -, c2, -, -, c5⟩ := cellsP6 h
  have e5 : w.frozen? ⟨K, 5, none⟩ = false := frozen_no h _
  have HT : Hid (tickS S = if S.armed = -1 then S else if S.left = 1 then S.off else ⟨S.last, S.armed, S.point, S.want, S.left - 1, S.pat⟩) := rfl
  have HOF : Hid (∀ x, (⟨S.last, S.armed, S.point, S.want, x, S.pat⟩ : StM).off = S.off) := fun _ => rfl
  clear h
  by_cases ha : S.armed = -1
  · go_enter Try.func25, Try.ntmps25
    go_wp2
    refine bodyPost_ret (results_none rfl _ _ _) rfl ?_
    refine ⟨rfl, ?_, But.refl K w⟩
    rw [HT.out, if_pos ha]
    exact HH.out
  · obtain ⟨h1, h2⟩ := hl ha
    rw [if_neg ha] at HT
    by_cases hz : S.left = 1
    · rw [if_pos hz] at HT
      clear hl
      go_enter Try.func25, Try.ntmps25
      go_upto_region 2 with fail
      have HS1 := hide' (HS.out 0)
      obtain ⟨w2, hw2⟩ : ∃ x, x = w.setCell ⟨K, 5, none⟩ (.int .i64 0) := ⟨_, rfl⟩
      rw [← hw2] at HS1 ⊢
      have f5 : w2.cell? ⟨K, 5, none⟩ = some (.int .i64 0) := (cells_at HS1.out.1 5).trans rfl
      clear HS HH hw2 c2 c5 e5
      go_wp2_with fail
      refine (HD.out w2 0 HS1.out.1).mono ?_
      rintro e w3 ⟨rfl, h3, b3⟩
      have HF : Hid (w3.heap[K]? = some (.cells ((tickS S).cells v) 60 (0, 0)) ∧ But K w w3) := ⟨by rw [HT.out]; exact h3, HS1.out.2.trans b3⟩
      clear h3 b3
      go_wp2
      refine bodyPost_end (results_none rfl _ _ _) rfl ?_
      exact ⟨rfl, HF.out⟩
    · rw [if_neg hz] at HT
      clear hl
      go_enter Try.func25, Try.ntmps25
      go_upto_region 2 with fail
      have HS1 := hide' (HS.out (S.left - 1))
      obtain ⟨w2, hw2⟩ : ∃ x, x = w.setCell ⟨K, 5, none⟩ (.int .i64 (S.left - 1)) := ⟨_, rfl⟩
      rw [← hw2] at HS1 ⊢
      have f5 : w2.cell? ⟨K, 5, none⟩ = some (.int .i64 (S.left - 1)) := (cells_at HS1.out.1 5).trans rfl
      clear HS HH hw2 c2 c5 e5
      go_wp2
      refine bodyPost_end (results_none rfl _ _ _) rfl ?_
      exact ⟨rfl, by rw [HT.out]; exact HS1.out.1, HS1.out.2⟩
set_option maxRecDepth 100000 in
set_option maxHeartbeats 2000000 in
theorem Tick_any (S : StM) (l : List Bool) (n c : Nat) (a : Option Addr) (w : World) (hr : RowAt w (.slice a n c) n 1 (l.map Value.bool)) (hn : n ≤ 2000000) : Calls Try.prog 8 #[.agg (S.cells (.slice a n c))] w fun e w' => if mayS n S then StaO l (tickS S) 0 w e w' else StaO [] StM.nought 14 w e w' := by
  have hln : l.length = n := by have h := hr.1; simpa using h
  have HM := hide' (fun w' => stationMayBe_any S n c a w' (by omega))
  have HW := hide' (fun w' (hb : Below w.heap.size w w') => atWork_any S l n c a w' (hr.below hb (Nat.le_refl _)) hn)
  have HT := hide' (fun K v w' h (hm : mayS n S = true) => tick_any S K v w' h (fun ha => by rcases (may_armed hm).2 with h | h; exact absurd h.1 ha; exact h.2.2.2))
  have HZ := hide' (fun (x : World) (A : Nat) (h : x.heap[A]? = some (.cells #[.slice none 0 0, .int .i64 0, .int .i64 0, .int .i64 0, .bool false, .int .i64 0, .int .i64 0] 24 (0, 0))) => put7 (S0 := StM.nought) h)
  obtain ⟨T, hT⟩ : ∃ T, T = tickS S := ⟨_, rfl⟩
  obtain ⟨M, hM⟩ : ∃ M, M = mayS n S := ⟨_, rfl⟩
  rw [← hT] at HT ⊢
  rw [← hM] at HM HT ⊢
  clear hr hT hM
  obtain ⟨last, armed, point, want, left, pat⟩ := S
  obtain ⟨tlast, tarmed, tpoint, twant, tleft, tpat⟩ := T
  unfold StaO
  unfold StM.cells at HM HW HT HZ ⊢
  simp only at HM HW HT HZ ⊢
  subst hln
  go_enter Try.func8, Try.ntmps8
  go_upto_region 1 with fail
  have hqY := (alloc_old (w.alloc (.cells #[.slice a l.length c, .int .i64 last, .int .i64 armed, .int .i64 point, .bool want, .int .i64 left, .int .i64 pat] 24)) (.cells #[.slice none 0 0, .int .i64 0, .int .i64 0, .int .i64 0, .bool false, .int .i64 0, .int .i64 0] 24) (lt_heap (alloc_new w (.cells #[.slice a l.length c, .int .i64 last, .int .i64 armed, .int .i64 point, .bool want, .int .i64 left, .int .i64 pat] 24)))).trans (alloc_new w (.cells #[.slice a l.length c, .int .i64 last, .int .i64 armed, .int .i64 point, .bool want, .int .i64 left, .int .i64 pat] 24))
  have hqA := alloc_new (w.alloc (.cells #[.slice a l.length c, .int .i64 last, .int .i64 armed, .int .i64 point, .bool want, .int .i64 left, .int .i64 pat] 24)) (.cells #[.slice none 0 0, .int .i64 0, .int .i64 0, .int .i64 0, .bool false, .int .i64 0, .int .i64 0] 24)
  have hb1 := (below_al w (.cells #[.slice a l.length c, .int .i64 last, .int .i64 armed, .int .i64 point, .bool want, .int .i64 left, .int .i64 pat] 24)).alloc (below_al w (.cells #[.slice a l.length c, .int .i64 last, .int .i64 armed, .int .i64 point, .bool want, .int .i64 left, .int .i64 pat] 24)).size (.cells #[.slice none 0 0, .int .i64 0, .int .i64 0, .int .i64 0, .bool false, .int .i64 0, .int .i64 0] 24)
  rw [show (w.alloc (.cells #[.slice a l.length c, .int .i64 last, .int .i64 armed, .int .i64 point, .bool want, .int .i64 left, .int .i64 pat] 24)).heap.size = w.heap.size + 1 from by simp only [World.size_alloc]] at hqA
  obtain ⟨w1, hw1⟩ : ∃ x, x = ((w.alloc (.cells #[.slice a l.length c, .int .i64 last, .int .i64 armed, .int .i64 point, .bool want, .int .i64 left, .int .i64 pat] 24)).alloc (.cells #[.slice none 0 0, .int .i64 0, .int .i64 0, .int .i64 0, .bool false, .int .i64 0, .int .i64 0] 24)) := ⟨_, rfl⟩
  rw [← hw1] at hqY hqA hb1 ⊢
  obtain ⟨Y, hnY⟩ : ∃ x, x = w.heap.size := ⟨_, rfl⟩
  obtain ⟨A, hnA⟩ : ∃ x, x = w.heap.size + 1 := ⟨_, rfl⟩
  have HNE : Hid (w.heap.size ≤ Y ∧ w.heap.size ≤ A ∧ Y ≠ A) := ⟨by omega, by omega, by omega⟩
  rw [← hnY] at hqY
  rw [← hnA] at hqA
  rw [show (Value.pointer (some { block := w.heap.size, off := 0 })) = Value.pointer (some { block := Y, off := 0 }) by rw [hnY], show (Value.pointer (some { block := w.heap.size + 1, off := 0 })) = Value.pointer (some { block := A, off := 0 }) by rw [hnA]]
  have HQY := hide' hqY
  have HQA := hide' hqA
  have HB1 := hide' hb1
  clear hqY hqA hb1 hw1 hnY hnA
  obtain ⟨c0, c1, c2, c3, c4, c5, c6⟩ := cellsP7 HQY.out
  go_wp2_with fail
  refine (HM.out w1).mono ?_
  rintro e w2 ⟨rfl, hb2⟩
  have HB2 : Hid (Below w.heap.size w w2) := HB1.out.trans (hb2.mono HB1.out.size)
  have HY2 := hide' ((hb2.block Y (lt_heap HQY.out)).trans HQY.out)
  have HA2 := hide' ((hb2.block A (lt_heap HQA.out)).trans HQA.out)
  clear hb2 HB1 HQY HQA HM
  clear c0 c1 c2 c3 c4 c5 c6
  cases M with
  | false =>
    clear HT HW HY2
    obtain ⟨b0, b1, b2, b3, b4, b5, b6⟩ := cellsP7 HA2.out
    obtain ⟨e0, e1, e2, e3, e4, e5, e6⟩ := frozenP7 HA2.out
    have HP := hide' (HZ.out w2 A HA2.out StM.nought (.slice none 0 0))
    unfold StM.nought at HP
    simp only at HP
    have HBF := hide' (HB2.out.trans (HP.out.2.below HNE.out.2.1 HB2.out.size))
    clear HB2 HZ
    go_wp2
    refine bodyPost_ret (results_cell_row1 rfl _ _ A 24 _ (0, 0) _ rfl HP.out.1 Try.underlying24 rfl (by kernel_rfl)) rfl ?_
    exact ⟨none, 0, rfl, row_none _, HBF.out⟩
  | true =>
    have HT1 := hide' (fun K v w' h => HT.out K v w' h rfl)
    clear HT
    obtain ⟨c0, c1, c2, c3, c4, c5, c6⟩ := cellsP7 HY2.out
    go_wp2_with fail
    refine (HW.out w2 HB2.out).mono ?_
    rintro e w3 ⟨K, a1, d1, rfl, hK, hsK, ho, hb3⟩
    have HB3 : Hid (Below w.heap.size w w3) := HB2.out.trans (hb3.mono HB2.out.size)
    have HA3 := hide' ((hb3.block A (lt_heap HA2.out)).trans HA2.out)
    have HO3 := hide' (own_mono ho HB2.out.size)
    have HAK : Hid (A ≠ K ∧ w.heap.size ≤ K) := ⟨by have := lt_heap HA2.out; omega, by have := HB2.out.size; omega⟩
    have HKK := hide' hK
    have HT2 := hide' (HT1.out K (.slice a1 l.length d1) w3 hK)
    clear hK hsK ho hb3 HB2 HA2 HY2 HT1 HW
    clear c0 c1 c2 c3 c4 c5 c6
    go_wp2_with fail
    refine HT2.out.mono ?_
    rintro e w4 ⟨rfl, hK4, hb4⟩
    have HB4 : Hid (Below w.heap.size w w4) := HB3.out.trans (hb4.below HAK.out.2 HB3.out.size)
    have HA4 := hide' ((hb4.block A (lt_heap HA3.out) HAK.out.1).trans HA3.out)
    have HO4 := hide' (own_keep HO3.out (but_keep hb4 HKK.out) (by decide))
    have HK4 := hide' hK4
    clear hK4 hb4 HT2 HB3 HA3 HO3 HKK
    obtain ⟨c0, c1, c2, c3, c4, c5, c6⟩ := cellsP7 HK4.out
    obtain ⟨b0, b1, b2, b3, b4, b5, b6⟩ := cellsP7 HA4.out
    obtain ⟨e0, e1, e2, e3, e4, e5, e6⟩ := frozenP7 HA4.out
    have HP := hide' (HZ.out w4 A HA4.out ⟨tlast, tarmed, tpoint, twant, tleft, tpat⟩ (.slice a1 l.length d1))
    simp only at HP
    have HOF := hide' (rowAt_of_own (own_keep HO4.out (but_keep HP.out.2 HA4.out) (by decide)))
    have HBF := hide' (HB4.out.trans (HP.out.2.below HNE.out.2.1 HB4.out.size))
    clear HB4 HZ HO4
    go_wp2
    refine bodyPost_ret (results_cell_row1 rfl _ _ A 24 _ (0, 0) _ rfl HP.out.1 Try.underlying24 rfl (by kernel_rfl)) rfl ?_
    exact ⟨a1, d1, rfl, HOF.out, HBF.out⟩
end Go.Proofs.Ytjhmendiefojoam
