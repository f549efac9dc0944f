/- Whether a yard may be, in the document's answer: all of it. -/
import Derived.Test.YtcnoipcpifackahZ1
namespace Go.Proofs.Ytcnoipcpifackah
open Go.RowKit Go.Shelf

set_option maxRecDepth 100000 in
set_option maxHeartbeats 2000000 in
theorem YardMay_any (y : YardM) (af ad as' : Option Addr) (cf cd cs : Nat) (w : World) (hy : YardAt w af ad as' cf cd cs y) (hf : y.fed.length ≤ 9000000000000000000) (hd : y.drawn.length ≤ 9000000000000000000) (hs : y.devs.length ≤ 9000000000000000000) :
    Calls Try.prog 22 #[.agg #[.int .i64 y.points, .slice af y.fed.length cf, .slice ad y.drawn.length cd, .slice as' y.devs.length cs]] w fun e w' => e = .returned (.bool (mayYB y)) ∧ Below w.heap.size w w' := by
  have HM : Hid (mayYB y = ((decide (1 ≤ y.points) && decide (y.points ≤ 10) && decide (y.devs.length ≤ 10)) && (risingB y.points y.fed && (risingB y.points y.drawn && y.devs.all (devB y.points))))) := rfl
  have HG := hide' hy
  obtain ⟨n, hn⟩ : ∃ n, n = y.points := ⟨_, rfl⟩
  obtain ⟨lf, hlf⟩ : ∃ l, l = y.fed.length := ⟨_, rfl⟩
  obtain ⟨ld, hld⟩ : ∃ l, l = y.drawn.length := ⟨_, rfl⟩
  obtain ⟨ls, hls⟩ : ∃ l, l = y.devs.length := ⟨_, rfl⟩
  have HLF := hide' hlf
  have HLD := hide' hld
  have HLS := hide' hls
  rw [← hlf] at hf
  rw [← hld] at hd
  rw [← hls, ← hn] at HM
  rw [← hls] at hs
  rw [← hlf, ← hld, ← hls, ← hn]
  have HROW : Hid (RowAt w (.slice as' ls cs) ls 4 (y.devs.flatMap DevM.cells)) := by have h5 := hy.s; rw [← hls] at h5; exact h5
  clear hy hn hlf hld hls
  have HB : Hid (∀ o, Below w.heap.size w (w.alloc o)) := fun o => (Below.refl _ w).alloc (Nat.le_refl _) o
  go_enter Try.func22, Try.ntmps22
  by_cases h1 : n < 1
  · go_wp2
    go_ret
    exact ⟨by rw [HM.out]; simp; omega, HB.out _⟩
  by_cases h2 : 10 < n
  · go_wp2
    go_ret
    exact ⟨by rw [HM.out]; simp; omega, HB.out _⟩
  by_cases h3 : 10 < ls
  · go_wp2
    go_ret
    exact ⟨by rw [HM.out]; simp; omega, HB.out _⟩
  have HC1 : Hid (∀ o, Calls Try.prog 33 #[.slice af lf cf, .int .i64 n] (w.alloc o) fun e w' => e = .returned (.bool (risingB n y.fed)) ∧ Below (w.alloc o).heap.size (w.alloc o) w') := fun o => by
    have h5 := HG.out.f.below (HB.out o) (Nat.le_refl _)
    rw [← HLF.out] at h5
    exact risingIn_any n y.fed _ _ (by rw [← HLF.out]; exact h5) (by rw [← HLF.out]; exact hf)
  have HC2 : Hid (∀ w', Below w.heap.size w w' → Calls Try.prog 33 #[.slice ad ld cd, .int .i64 n] w' fun e w2 => e = .returned (.bool (risingB n y.drawn)) ∧ Below w'.heap.size w' w2) := fun w' hb => by
    have h5 := HG.out.d.below hb (Nat.le_refl _)
    rw [← HLD.out] at h5
    exact risingIn_any n y.drawn _ _ (by rw [← HLD.out]; exact h5) (by rw [← HLD.out]; exact hd)
  have hbx := alloc_new w (.cells #[.int .i64 n, .slice af lf cf, .slice ad ld cd, .slice as' ls cs] 25)
  have hM1 : (decide (1 ≤ n) && decide (n ≤ 10) && decide (ls ≤ 10)) = true := by simp; omega
  rw [hM1, Bool.true_and] at HM
  obtain ⟨b1, hb1⟩ : ∃ b, b = risingB n y.fed := ⟨_, rfl⟩
  obtain ⟨b2, hb2⟩ : ∃ b, b = risingB n y.drawn := ⟨_, rfl⟩
  rw [← hb1] at HM HC1
  rw [← hb2] at HM HC2
  clear hb1 hb2 hM1
  go_wp2_with fail
  refine (HC1.out _).mono ?_
  rintro e w1 ⟨rfl, hb1⟩
  have HB1 := hide' ((HB.out _).trans (hb1.mono (HB.out _).size))
  have HQ1 := hide' ((hb1.block w.heap.size (by simp)).trans hbx)
  clear hb1 hbx HC1
  cases b1 with
  | false =>
    go_wp2
    go_ret
    exact ⟨by rw [HM.out]; rfl, HB1.out⟩
  | true =>
    have y0 : w1.cell? ⟨w.heap.size, 0, none⟩ = some (.int .i64 n) := (cells_at HQ1.out 0).trans rfl
    have y2 : w1.cell? ⟨w.heap.size, 2, none⟩ = some (.slice ad ld cd) := (cells_at HQ1.out 2).trans rfl
    have HC3 := hide' (HC2.out w1 HB1.out)
    go_wp2_with fail
    refine HC3.out.mono ?_
    rintro e w2 ⟨rfl, hb2⟩
    have HB2 := hide' (HB1.out.trans (hb2.mono HB1.out.size))
    have HQ2 := hide' ((hb2.block w.heap.size (Array.getElem?_eq_some_iff.1 HQ1.out).1).trans HQ1.out)
    clear hb2 HC3 HC2 HQ1 HB1 y0 y2
    cases b2 with
    | false =>
      go_wp2
      go_ret
      exact ⟨by rw [HM.out]; rfl, HB2.out⟩
    | true =>
      simp only [Bool.true_and] at HM
      obtain ⟨Y, hY⟩ : ∃ Y, Y = w.heap.size := ⟨_, rfl⟩
      rw [← hY] at HQ2
      rw [show (Value.pointer (some { block := w.heap.size, off := 0 })) = Value.pointer (some { block := Y, off := 0 }) by rw [hY]]
      clear hY
      go_upto_region 4 with fail
      go_wp2_with fail
      go_loopw [3] (fun i wr => ∃ (k : Nat), i = .int .i64 k ∧ k ≤ ls ∧ Hid (∀ (j : Nat) (d : DevM), y.devs[j]? = some d → j < k → devB n d = true) ∧ Hid (wr.heap[Y]? = some (.cells #[.int .i64 n, .slice af lf cf, .slice ad ld cd, .slice as' ls cs] 25 (0, 0))) ∧ Hid (Below w.heap.size w wr)) (fun i _ => ls - (intOf i).toNat)
      case atStart => exact ⟨0, rfl, Nat.zero_le _, fun j _ _ h => absurd h (Nat.not_lt_zero j), HQ2, HB2⟩
      case round =>
        clear HQ2 HB2
        obtain ⟨k, rfl, hk, HOK, HQ, HBE⟩ := hrel
        have y0 : wr.cell? ⟨Y, 0, none⟩ = some (.int .i64 n) := (cells_at HQ.out 0).trans rfl
        have y3 : wr.cell? ⟨Y, 3, none⟩ = some (.slice as' ls cs) := (cells_at HQ.out 3).trans rfl
        by_cases hlt : k < ls
        · obtain ⟨bt, ot, ct', ex, hbt, hct⟩ := row_elem (f := DevM.cells) (xs := y.devs) (fun _ => rfl) HROW.out k (by rw [← HLS.out]; exact hlt) (by decide)
          cases ex
          have hkl : k < y.devs.length := by rw [← HLS.out]; exact hlt
          obtain ⟨u, hu⟩ : ∃ u, u = y.devs[k]'hkl := ⟨_, rfl⟩
          rw [← hu] at hct
          have HK : Hid (y.devs[k]? = some u) := by show _ = _; rw [hu]; exact List.getElem?_eq_getElem hkl
          have d0 := up_cell HBE.out (hct 0 _ rfl)
          have d1 := up_cell HBE.out (hct 1 _ rfl)
          have d2 := up_cell HBE.out (hct 2 _ rfl)
          have d3 := up_cell HBE.out (hct 3 _ rfl)
          rw [Nat.add_zero] at d0
          have y0l := later y0
          have HBAD : Hid (devB n u = false → y.devs.all (devB n) = false) := fun h => by
            rw [List.all_eq_false]
            exact ⟨u, List.mem_of_getElem? HK.out, by rw [h]; decide⟩
          have HNEXT : Hid (devB n u = true → ∀ (j : Nat) (d : DevM), y.devs[j]? = some d → j < k + 1 → devB n d = true) := fun h j d hj hjk => by
            by_cases e : j = k
            · subst e; rw [HK.out] at hj; cases hj; exact h
            · exact HOK.out j d hj (by omega)
          have HAL : Hid (∀ o, Below w.heap.size w (wr.alloc o)) := fun o => HBE.out.alloc HBE.out.size o
          have HQL : Hid (∀ o, (wr.alloc o).heap[Y]? = some (.cells #[.int .i64 n, .slice af lf cf, .slice ad ld cd, .slice (some ⟨bt, ot, none⟩) ls cs] 25 (0, 0))) := fun o => (alloc_old _ _ (Array.getElem?_eq_some_iff.1 HQ.out).1).trans HQ.out
          obtain ⟨x0, x1, x2, x3⟩ := u
          dsimp only at d0 d1 d2 d3
          clear hct hu hbt hkl HOK HK HQ HBE
          by_cases h4 : x0 < 1
          · have HNO := hide' (HBAD.out (by rw [← Bool.not_eq_true, devB_iff]; unfold DevOk; dsimp only; omega))
            go_wp2
            go_ret
            exact ⟨by rw [HM.out, HNO.out]; rfl, HAL.out _⟩
          by_cases h5 : 3 < x0
          · have HNO := hide' (HBAD.out (by rw [← Bool.not_eq_true, devB_iff]; unfold DevOk; dsimp only; omega))
            go_wp2
            go_ret
            exact ⟨by rw [HM.out, HNO.out]; rfl, HAL.out _⟩
          by_cases h6 : x1 < 0
          · have HNO := hide' (HBAD.out (by rw [← Bool.not_eq_true, devB_iff]; unfold DevOk; dsimp only; omega))
            go_wp2
            go_ret
            exact ⟨by rw [HM.out, HNO.out]; rfl, HAL.out _⟩
          by_cases h7 : n ≤ x1
          · have HNO := hide' (HBAD.out (by rw [← Bool.not_eq_true, devB_iff]; unfold DevOk; dsimp only; omega))
            go_wp2
            go_ret
            exact ⟨by rw [HM.out, HNO.out]; rfl, HAL.out _⟩
          by_cases h8 : x0 = 3
          · subst h8
            by_cases h9 : x2 = 0
            · subst h9
              have HY := hide' (HNEXT.out (by rw [devB_iff]; unfold DevOk; dsimp only; omega))
              go_wp2
              go_roundw
              case rel => exact ⟨k + 1, by go_num, by omega, HY.out, HQL.out _, HAL.out _⟩
              case measure => simp [intOf]; omega
            · have hb9 : (x2 != 0) = true := by simp [h9]
              have HNO := hide' (HBAD.out (by rw [← Bool.not_eq_true, devB_iff]; unfold DevOk; dsimp only; omega))
              go_wp2
              go_ret
              exact ⟨by rw [HM.out, HNO.out]; rfl, HAL.out _⟩
          have e8 : (x0 == 3) = false := by simp [h8]
          have n8 : (x0 != 3) = true := by simp [h8]
          have h12 : x0 = 1 ∨ x0 = 2 := by omega
          by_cases h9 : x2 < 0
          · have HNO := hide' (HBAD.out (by rw [← Bool.not_eq_true, devB_iff]; unfold DevOk; dsimp only; omega))
            go_wp2
            go_ret
            exact ⟨by rw [HM.out, HNO.out]; rfl, HAL.out _⟩
          by_cases ha : n ≤ x2
          · have HNO := hide' (HBAD.out (by rw [← Bool.not_eq_true, devB_iff]; unfold DevOk; dsimp only; omega))
            go_wp2
            go_ret
            exact ⟨by rw [HM.out, HNO.out]; rfl, HAL.out _⟩
          by_cases hb : x1 = x2
          · have HNO := hide' (HBAD.out (by rw [← Bool.not_eq_true, devB_iff]; unfold DevOk; dsimp only; omega))
            have hb' : (x1 == x2) = true := by simp [hb]
            clear hb
            go_wp2
            go_ret
            exact ⟨by rw [HM.out, HNO.out]; rfl, HAL.out _⟩
          · have hb' : (x1 == x2) = false := by simp [hb]
            have HY := hide' (HNEXT.out (by rw [devB_iff]; unfold DevOk; dsimp only; omega))
            go_wp2
            go_roundw
            case rel => exact ⟨k + 1, by go_num, by omega, HY.out, HQL.out _, HAL.out _⟩
            case measure => simp [intOf]; omega
        · have HALL : Hid (y.devs.all (devB n) = true) := by
            show _ = _
            rw [List.all_eq_true]
            intro x hx
            obtain ⟨i, hi, rfl⟩ := List.getElem_of_mem hx
            exact HOK.out i _ (List.getElem?_eq_getElem hi) (by have := HLS.out; omega)
          go_wp2
          go_ret
          exact ⟨by rw [HM.out, HALL.out]; rfl, HBE.out⟩
end Go.Proofs.Ytcnoipcpifackah
