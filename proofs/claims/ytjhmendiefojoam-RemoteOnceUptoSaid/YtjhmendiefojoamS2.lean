/- Whether a station may be, in the program and in the document's answer. -/
import Derived.Test.YtjhmendiefojoamS1
namespace Go.Proofs.Ytjhmendiefojoam
open Go.RowKit Go.Shelf

theorem lt_heap {w : World} {g : Nat} {o : Obj} (h : w.heap[g]? = some o) : g < w.heap.size := (Array.getElem?_eq_some_iff.1 h).1
set_option maxRecDepth 100000 in
set_option maxHeartbeats 2000000 in
theorem stationMayBe_any (S : StM) (n c : Nat) (a : Option Addr) (w : World) (hn : n ≤ 9000000000000000000) : Calls Try.prog 23 #[.agg (S.cells (.slice a n c))] w fun e w' => e = .returned (.bool (mayS n S)) ∧ Below w.heap.size w w' := by
  have HI := hide' (idle_any S)
  have HA := hide' (armedWell_any S)
  have H1 := hide' (within_any S.pat 1 1000)
  have H2 := hide' (within_any S.last (-1) 1000000000)
  obtain ⟨M, HM⟩ : ∃ M, Hid (M = mayS n S) := ⟨_, rfl⟩
  rw [← HM.out]
  unfold mayS at HM
  obtain ⟨last, armed, point, want, left, pat⟩ := S
  unfold StM.cells at HI HA ⊢
  simp only at HI HA H1 H2 HM ⊢
  obtain ⟨b1, hb1⟩ : ∃ b, b = (decide (1 ≤ pat) && decide (pat ≤ 1000)) := ⟨_, rfl⟩
  obtain ⟨b2, hb2⟩ : ∃ b, b = (decide (-1 ≤ last) && decide (last ≤ 1000000000)) := ⟨_, rfl⟩
  obtain ⟨b3, hb3⟩ : ∃ b, b = decide (armed = -1 ∧ point = 0 ∧ want = false ∧ left = 0) := ⟨_, rfl⟩
  obtain ⟨b4, hb4⟩ : ∃ b, b = (decide (last + 1 ≤ armed) && decide (armed ≤ 1000000000) && (decide (0 ≤ point) && decide (point ≤ (n : Int) - 1)) && (decide (1 ≤ left) && decide (left ≤ pat))) := ⟨_, rfl⟩
  rw [← hb1] at H1 HM
  rw [← hb2] at H2 HM
  rw [← hb3] at HI HM
  rw [← hb4] at HM
  have HA' : Hid (b2 = true → ∀ (K : Nat) (w1 : World), w1.heap[K]? = some (.cells #[.slice a n c, .int .i64 last, .int .i64 armed, .int .i64 point, .bool want, .int .i64 left, .int .i64 pat] 60 (0, 0)) → Calls Try.prog 42 #[.pointer (some ⟨K, 0, none⟩)] w1 fun e w' => e = .returned (.bool b4) ∧ ∃ m, w' = w1.drewN m) := fun h2 K w1 hk => by
    have h2' := h2
    rw [hb2] at h2'
    simp only [Bool.and_eq_true, decide_eq_true_eq] at h2'
    have := HA.out K n c a w1 hk hn h2'.1 h2'.2
    rw [← hb4] at this
    exact this
  clear hb1 hb2 hb3 hb4 HA
  go_enter Try.func23, Try.ntmps23
  go_upto_region 2 with fail
  have hqY := (alloc_old (w.alloc (.cells #[.slice a n c, .int .i64 last, .int .i64 armed, .int .i64 point, .bool want, .int .i64 left, .int .i64 pat] 24)) (.cells #[.slice a n c, .int .i64 last, .int .i64 armed, .int .i64 point, .bool want, .int .i64 left, .int .i64 pat] 60) (lt_heap (alloc_new w (.cells #[.slice a n c, .int .i64 last, .int .i64 armed, .int .i64 point, .bool want, .int .i64 left, .int .i64 pat] 24)))).trans (alloc_new w (.cells #[.slice a n c, .int .i64 last, .int .i64 armed, .int .i64 point, .bool want, .int .i64 left, .int .i64 pat] 24))
  have hqK := alloc_new (w.alloc (.cells #[.slice a n c, .int .i64 last, .int .i64 armed, .int .i64 point, .bool want, .int .i64 left, .int .i64 pat] 24)) (.cells #[.slice a n c, .int .i64 last, .int .i64 armed, .int .i64 point, .bool want, .int .i64 left, .int .i64 pat] 60)
  have hb1 := (below_al w (.cells #[.slice a n c, .int .i64 last, .int .i64 armed, .int .i64 point, .bool want, .int .i64 left, .int .i64 pat] 24)).alloc (below_al w (.cells #[.slice a n c, .int .i64 last, .int .i64 armed, .int .i64 point, .bool want, .int .i64 left, .int .i64 pat] 24)).size (.cells #[.slice a n c, .int .i64 last, .int .i64 armed, .int .i64 point, .bool want, .int .i64 left, .int .i64 pat] 60)
  rw [show (w.alloc (.cells #[.slice a n c, .int .i64 last, .int .i64 armed, .int .i64 point, .bool want, .int .i64 left, .int .i64 pat] 24)).heap.size = w.heap.size + 1 from by simp only [World.size_alloc]] at hqK
  obtain ⟨w1, hw1⟩ : ∃ x, x = ((w.alloc (.cells #[.slice a n c, .int .i64 last, .int .i64 armed, .int .i64 point, .bool want, .int .i64 left, .int .i64 pat] 24)).alloc (.cells #[.slice a n c, .int .i64 last, .int .i64 armed, .int .i64 point, .bool want, .int .i64 left, .int .i64 pat] 60)) := ⟨_, rfl⟩
  rw [← hw1] at hqY hqK hb1 ⊢
  obtain ⟨Y, hnY⟩ : ∃ x, x = w.heap.size := ⟨_, rfl⟩
  obtain ⟨K, hnK⟩ : ∃ x, x = w.heap.size + 1 := ⟨_, rfl⟩
  have HNE : Hid (w.heap.size ≤ Y ∧ w.heap.size ≤ K ∧ Y ≠ K) := ⟨by omega, by omega, by omega⟩
  rw [← hnY] at hqY
  rw [← hnK] at hqK
  rw [show (Value.pointer (some { block := w.heap.size, off := 0 })) = Value.pointer (some { block := Y, off := 0 }) by rw [hnY], show (Value.pointer (some { block := w.heap.size + 1, off := 0 })) = Value.pointer (some { block := K, off := 0 }) by rw [hnK]]
  have HQY := hide' hqY
  have HQK := hide' hqK
  have HB1 := hide' hb1
  clear hqY hqK hb1 hw1 hnY hnK
  have c0 : w1.cell? ⟨K, 0, none⟩ = some (.slice a n c) := (cells_at HQK.out 0).trans rfl
  have c1 : w1.cell? ⟨K, 1, none⟩ = some (.int .i64 last) := (cells_at HQK.out 1).trans rfl
  have c6 : w1.cell? ⟨K, 6, none⟩ = some (.int .i64 pat) := (cells_at HQK.out 6).trans rfl
  have HI1 := hide' (HI.out K _ w1 HQK.out)
  have HA1 := hide' (fun h => HA'.out h K w1 HQK.out)
  clear HI HA' HQY HQK hn
  by_cases h0 : n ≤ 16
  · have HM1 : Hid (M = (b1 && b2 && (b3 || b4))) := by
      show _ = _
      rw [HM.out, decide_eq_true h0, Bool.true_and]
    clear HM
    cases b1 with
    | false =>
      go_wp2_with fail
      refine (H1.out _).mono ?_
      rintro e w2 ⟨rfl, rfl⟩
      go_wp2
      go_ret
      exact ⟨ret_bool (by rw [HM1.out]; rfl), HB1.out⟩
    | true =>
      cases b2 with
      | false =>
        go_wp2_with fail
        refine (H1.out _).mono ?_
        rintro e w2 ⟨rfl, rfl⟩
        go_wp2_with fail
        refine (H2.out _).mono ?_
        rintro e w2 ⟨rfl, rfl⟩
        go_wp2
        go_ret
        exact ⟨ret_bool (by rw [HM1.out]; rfl), HB1.out⟩
      | true =>
        have HA2 := hide' (HA1.out rfl)
        clear HA1
        cases b3 with
        | true =>
          go_wp2_with fail
          refine (H1.out _).mono ?_
          rintro e w2 ⟨rfl, rfl⟩
          go_wp2_with fail
          refine (H2.out _).mono ?_
          rintro e w2 ⟨rfl, rfl⟩
          go_wp2_with fail
          refine HI1.out.mono ?_
          rintro e w2 ⟨rfl, rfl⟩
          go_wp2
          go_ret
          exact ⟨ret_bool (by rw [HM1.out]; rfl), HB1.out⟩
        | false =>
          go_wp2_with fail
          refine (H1.out _).mono ?_
          rintro e w2 ⟨rfl, rfl⟩
          go_wp2_with fail
          refine (H2.out _).mono ?_
          rintro e w2 ⟨rfl, rfl⟩
          go_wp2_with fail
          refine HI1.out.mono ?_
          rintro e w2 ⟨rfl, rfl⟩
          go_wp2_with fail
          refine HA2.out.mono ?_
          rintro e w2 ⟨rfl, m, rfl⟩
          go_wp2
          go_ret
          exact ⟨ret_bool (by rw [HM1.out]; simp), below_drewN HB1.out _⟩
  · go_wp2
    go_ret
    exact ⟨ret_bool (by rw [HM.out, decide_eq_false h0]; rfl), HB1.out⟩
set_option maxRecDepth 100000 in
set_option maxHeartbeats 2000000 in
theorem StationMay_any (S : StM) (n c : Nat) (a : Option Addr) (w : World) (hn : n ≤ 9000000000000000000) : Calls Try.prog 26 #[.agg (S.cells (.slice a n c))] w fun e w' => e = .returned (.bool (mayS n S)) ∧ Below w.heap.size w w' := by
  have H1 := hide' (inBounds_any S.pat 1 1000)
  have H2 := hide' (inBounds_any S.last (-1) 1000000000)
  have H3 := hide' (inBounds_any S.left 1 S.pat)
  obtain ⟨M, HM⟩ : ∃ M, Hid (M = mayS n S) := ⟨_, rfl⟩
  rw [← HM.out]
  unfold mayS at HM
  obtain ⟨last, armed, point, want, left, pat⟩ := S
  unfold StM.cells
  simp only at H1 H2 H3 HM ⊢
  obtain ⟨b1, hb1⟩ : ∃ b, b = (decide (1 ≤ pat) && decide (pat ≤ 1000)) := ⟨_, rfl⟩
  obtain ⟨b2, hb2⟩ : ∃ b, b = (decide (-1 ≤ last) && decide (last ≤ 1000000000)) := ⟨_, rfl⟩
  obtain ⟨b5, hb5⟩ : ∃ b, b = (decide (1 ≤ left) && decide (left ≤ pat)) := ⟨_, rfl⟩
  rw [← hb1] at H1 HM
  rw [← hb2] at H2 HM
  rw [← hb5] at H3 HM
  have HL : Hid (b2 = true → -1 ≤ last ∧ last ≤ 1000000000) := fun h2 => by
    rw [hb2] at h2
    simpa using h2
  clear hb1 hb2 hb5
  go_enter Try.func26, Try.ntmps26
  go_upto_region 1 with fail
  have hqY := alloc_new w (.cells #[.slice a n c, .int .i64 last, .int .i64 armed, .int .i64 point, .bool want, .int .i64 left, .int .i64 pat] 24)
  have hb1 := below_al w (.cells #[.slice a n c, .int .i64 last, .int .i64 armed, .int .i64 point, .bool want, .int .i64 left, .int .i64 pat] 24)
  obtain ⟨w1, hw1⟩ : ∃ x, x = (w.alloc (.cells #[.slice a n c, .int .i64 last, .int .i64 armed, .int .i64 point, .bool want, .int .i64 left, .int .i64 pat] 24)) := ⟨_, rfl⟩
  rw [← hw1] at hqY hb1 ⊢
  obtain ⟨Y, hnY⟩ : ∃ x, x = w.heap.size := ⟨_, rfl⟩
  have HNE : Hid (w.heap.size ≤ Y) := by show _ ≤ _; omega
  rw [← hnY] at hqY
  rw [show (Value.pointer (some { block := w.heap.size, off := 0 })) = Value.pointer (some { block := Y, off := 0 }) by rw [hnY]]
  have HQY := hide' hqY
  have HB1 := hide' hb1
  clear hqY hb1 hw1 hnY
  have c0 : w1.cell? ⟨Y, 0, none⟩ = some (.slice a n c) := (cells_at HQY.out 0).trans rfl
  have c1 : w1.cell? ⟨Y, 1, none⟩ = some (.int .i64 last) := (cells_at HQY.out 1).trans rfl
  have c2 : w1.cell? ⟨Y, 2, none⟩ = some (.int .i64 armed) := (cells_at HQY.out 2).trans rfl
  have c3 : w1.cell? ⟨Y, 3, none⟩ = some (.int .i64 point) := (cells_at HQY.out 3).trans rfl
  have c4 : w1.cell? ⟨Y, 4, none⟩ = some (.bool want) := (cells_at HQY.out 4).trans rfl
  have c5 : w1.cell? ⟨Y, 5, none⟩ = some (.int .i64 left) := (cells_at HQY.out 5).trans rfl
  have c6 : w1.cell? ⟨Y, 6, none⟩ = some (.int .i64 pat) := (cells_at HQY.out 6).trans rfl
  clear HQY
  by_cases h0 : n ≤ 16
  · have HM1 := hide' HM.out
    rw [decide_eq_true h0, Bool.true_and] at HM1
    clear HM
    cases b1 with
    | false =>
      go_wp2_with fail
      refine (H1.out _).mono ?_
      rintro e w2 ⟨rfl, rfl⟩
      go_wp2
      go_ret
      exact ⟨ret_bool (by rw [HM1.out]; rfl), HB1.out⟩
    | true =>
      cases b2 with
      | false =>
        go_wp2_with fail
        refine (H1.out _).mono ?_
        rintro e w2 ⟨rfl, rfl⟩
        go_wp2_with fail
        refine (H2.out _).mono ?_
        rintro e w2 ⟨rfl, rfl⟩
        go_wp2
        go_ret
        exact ⟨ret_bool (by rw [HM1.out]; rfl), HB1.out⟩
      | true =>
        obtain ⟨hl1, hl2⟩ := HL.out rfl
        go_wp2_with fail
        refine (H1.out _).mono ?_
        rintro e w2 ⟨rfl, rfl⟩
        go_wp2_with fail
        refine (H2.out _).mono ?_
        rintro e w2 ⟨rfl, rfl⟩
        clear HL H1 H2
        by_cases ha : armed = -1
        · by_cases hp : point = 0
          · cases want with
            | true =>
              go_wp2
              go_ret
              exact ⟨ret_bool (by rw [HM1.out]; simp <;> omega), HB1.out⟩
            | false =>
              go_wp2
              go_ret
              refine ⟨ret_bool ?_, HB1.out⟩
              have hq : decide (last + 1 ≤ armed) = false := decide_eq_false (by omega)
              rw [HM1.out, hq]
              by_cases hz : left = 0 <;> simp [ha, hp, hz]
          · cases want
            all_goals
              go_wp2
              go_ret
              exact ⟨ret_bool (by rw [HM1.out]; simp <;> omega), HB1.out⟩
        · by_cases h5 : last < armed
          · by_cases h6 : armed ≤ 1000000000
            · by_cases h7 : 0 ≤ point
              · by_cases h8 : point < n
                · cases b5
                  all_goals
                    go_wp2_with fail
                    refine (H3.out _).mono ?_
                    rintro e w2 ⟨rfl, rfl⟩
                    go_wp2
                    go_ret
                    exact ⟨ret_bool (by rw [HM1.out]; simp <;> omega), HB1.out⟩
                · cases b5
                  all_goals
                    go_wp2
                    go_ret
                    exact ⟨ret_bool (by rw [HM1.out]; simp <;> omega), HB1.out⟩
              · cases b5
                all_goals
                  go_wp2
                  go_ret
                  exact ⟨ret_bool (by rw [HM1.out]; simp <;> omega), HB1.out⟩
            · cases b5
              all_goals
                go_wp2
                go_ret
                exact ⟨ret_bool (by rw [HM1.out]; simp <;> omega), HB1.out⟩
          · cases b5
            all_goals
              go_wp2
              go_ret
              exact ⟨ret_bool (by rw [HM1.out]; simp <;> omega), HB1.out⟩
  · go_wp2
    go_ret
    exact ⟨ret_bool (by rw [HM.out, decide_eq_false h0]; rfl), HB1.out⟩
end Go.Proofs.Ytjhmendiefojoam
