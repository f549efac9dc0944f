/- Planned, in the document's answer. -/
import Derived.Test.YtcnoipcpifackahXx
import Derived.Test.YtcnoipcpifackahZ2
namespace Go.Proofs.Ytcnoipcpifackah
open Go.RowKit Go.Shelf

theorem code_drop (l : List Bool) {j : Nat} (h : j < l.length) : codeB (l.drop j) = (if l[j] then 1 else 0) + 2 * codeB (l.drop (j + 1)) := by
  rw [List.drop_eq_getElem_cons h]
  rfl
set_option maxRecDepth 100000 in
set_option maxHeartbeats 4000000 in
theorem Planned_any (y : YardM) (goal : List Bool) (gv : Value) (af ad as' : Option Addr) (cf cd cs : Nat) (w : World) (hy : YardAt w af ad as' cf cd cs y) (hf : y.fed.length ≤ 9000000000000000000) (hd : y.drawn.length ≤ 9000000000000000000) (hs : y.devs.length ≤ 9000000000000000000) (hg : RowAt w gv goal.length 1 (goal.map Value.bool)) (hgl : goal.length ≤ 9000000000000000000) :
    Calls Try.prog 13 #[.agg #[.int .i64 y.points, .slice af y.fed.length cf, .slice ad y.drawn.length cd, .slice as' y.devs.length cs], gv] w (PlanAns y goal w) := by
  obtain ⟨ga, gc, rfl⟩ := rowAt_slice hg
  have HMY : Hid (∀ w', Below w.heap.size w w' → Calls Try.prog 22 #[.agg #[.int .i64 y.points, .slice af y.fed.length cf, .slice ad y.drawn.length cd, .slice as' y.devs.length cs]] w' fun e w2 => e = .returned (.bool (mayYB y)) ∧ Below w'.heap.size w' w2) := fun w' hb => YardMay_any y af ad as' cf cd cs w' (hy.below hb (Nat.le_refl _)) hf hd hs
  have HSO : Hid (MayY y → ∀ w', Below w.heap.size w w' → Calls Try.prog 23 #[.agg #[.int .i64 y.points, .slice af y.fed.length cf, .slice ad y.drawn.length cd, .slice as' y.devs.length cs]] w' fun e w2 => e = .returned (.bool (soundB y)) ∧ Below w'.heap.size w' w2) := fun hm w' hb => Sound_any y hm af ad as' cf cd cs w' (hy.below hb (Nat.le_refl _))
  have HPB := hide' (fun (hm : MayY y) (h2 : soundB y = true) (n al en : Nat) h3 h4 h5 h6 A => plannedB y hm h2 goal n al en h3 h4 h5 h6 w ga af ad as' gc cf cd cs A)
  have HYY : Hid (∀ w', Below w.heap.size w w' → YardAt w' af ad as' cf cd cs y) := fun w' hb => hy.below hb (Nat.le_refl _)
  have HG := hide' hg
  have HI := hide' (mayYB_iff (y := y))
  clear hy hg hf hd
  go_enter Try.func13, Try.ntmps13
  go_upto_region 1 with fail
  have hqA := alloc_new w (.cells #[.int .i64 y.points, .slice af y.fed.length cf, .slice ad y.drawn.length cd, .slice as' y.devs.length cs] 25)
  have hb1 := below_al w (.cells #[.int .i64 y.points, .slice af y.fed.length cf, .slice ad y.drawn.length cd, .slice as' y.devs.length cs] 25)
  obtain ⟨w1, hw1⟩ : ∃ x, x = (w.alloc (.cells #[.int .i64 y.points, .slice af y.fed.length cf, .slice ad y.drawn.length cd, .slice as' y.devs.length cs] 25)) := ⟨_, rfl⟩
  rw [← hw1] at hqA hb1 ⊢
  obtain ⟨A, hnA⟩ : ∃ x, x = w.heap.size := ⟨_, rfl⟩
  have HNE : Hid (w.heap.size ≤ A) := by show _ ≤ _; omega
  rw [← hnA] at hqA
  rw [show (Value.pointer (some { block := w.heap.size, off := 0 })) = Value.pointer (some { block := A, off := 0 }) by rw [hnA]]
  have HQA := hide' hqA
  have HB1 := hide' hb1
  clear hqA hb1 hw1 hnA
  have a0 : w1.cell? ⟨A, 0, none⟩ = some (.int .i64 y.points) := (cells_at HQA.out 0).trans rfl
  have a1 : w1.cell? ⟨A, 1, none⟩ = some (.slice af y.fed.length cf) := (cells_at HQA.out 1).trans rfl
  have a2 : w1.cell? ⟨A, 2, none⟩ = some (.slice ad y.drawn.length cd) := (cells_at HQA.out 2).trans rfl
  have a3 : w1.cell? ⟨A, 3, none⟩ = some (.slice as' y.devs.length cs) := (cells_at HQA.out 3).trans rfl
  go_wp2_with fail
  refine (HMY.out w1 HB1.out).mono ?_
  clear HMY
  rintro e w2 ⟨rfl, hb2⟩
  have HB2 := hide' (HB1.out.trans (hb2.mono HB1.out.size))
  have HA2 := hide' ((hb2.block A (lt_heap HQA.out)).trans HQA.out)
  clear hb2 a0 a1 a2 a3 HQA HB1
  rcases hmb : mayYB y with _ | _
  · have HMB : Hid ((mayYB y && soundB y) = false) := by show _ = _; rw [hmb]; rfl
    clear hmb
    go_wp2_with fail
    go_ret2
    exact .inl ⟨HMB.out, rfl, HB2.out⟩
  · have HMM : Hid (MayY y) := HI.out.1 hmb
    have HMB : Hid (mayYB y = true) := hmb
    clear hmb HI
    have a0 : w2.cell? ⟨A, 0, none⟩ = some (.int .i64 y.points) := (cells_at HA2.out 0).trans rfl
    have a1 : w2.cell? ⟨A, 1, none⟩ = some (.slice af y.fed.length cf) := (cells_at HA2.out 1).trans rfl
    have a2 : w2.cell? ⟨A, 2, none⟩ = some (.slice ad y.drawn.length cd) := (cells_at HA2.out 2).trans rfl
    have a3 : w2.cell? ⟨A, 3, none⟩ = some (.slice as' y.devs.length cs) := (cells_at HA2.out 3).trans rfl
    go_wp2_with fail
    refine (HSO.out HMM.out w2 HB2.out).mono ?_
    clear HSO
    rintro e w3 ⟨rfl, hb3⟩
    have HB3 := hide' (HB2.out.trans (hb3.mono HB2.out.size))
    have HA3 := hide' ((hb3.block A (lt_heap HA2.out)).trans HA2.out)
    clear hb3 a0 a1 a2 a3 HA2 HB2
    rcases hsb : soundB y with _ | _
    · have HMS : Hid ((mayYB y && soundB y) = false) := by show _ = _; rw [hsb, Bool.and_false]
      clear hsb
      go_wp2_with fail
      go_ret2
      exact .inl ⟨HMS.out, rfl, HB3.out⟩
    · have HMS : Hid ((mayYB y && soundB y) = true) := by show _ = _; rw [hsb, HMB.out]; rfl
      have HSB := hide' hsb
      clear hsb
      have a0 : w3.cell? ⟨A, 0, none⟩ = some (.int .i64 y.points) := (cells_at HA3.out 0).trans rfl
      have a1 : w3.cell? ⟨A, 1, none⟩ = some (.slice af y.fed.length cf) := (cells_at HA3.out 1).trans rfl
      have a2 : w3.cell? ⟨A, 2, none⟩ = some (.slice ad y.drawn.length cd) := (cells_at HA3.out 2).trans rfl
      have a3 : w3.cell? ⟨A, 3, none⟩ = some (.slice as' y.devs.length cs) := (cells_at HA3.out 3).trans rfl
      by_cases hl : goal.length = y.devs.length
      · obtain ⟨n, hn⟩ : ∃ n, n = y.devs.length := ⟨_, rfl⟩
        have hd10 := HMM.out.d
        rw [← hn] at hd10
        rw [← hn] at hl
        have HL := hide' hl
        rw [hl, ← hn] at ⊢
        rw [← hn] at a3 HA3
        rw [hl] at HG hgl HPB
        have HNN := hide' hn
        clear hl hn
        go_upto_region 6 with fail
        rename_i K0 hK0
        have HK0 := hide' hK0
        clear hK0
        go_wp2_with fail
        refine HK0.out _ _ ?_
        clear HK0
        refine wp_seq_k fun K1 hK1 => ?_
        have HK1 := hide' hK1
        clear hK1
        go_wp2_with fail
        go_loopw [6, 7, 8] (fun ev av iv wr => ∃ (j e a : Nat), ev = .int .i64 e ∧ av = .int .i64 a ∧ iv = .int .i64 ((j : Int) - 1) ∧ j ≤ n ∧ e < a ∧ a ≤ 1024 ∧ Hid (e = codeB (goal.drop j) ∧ a = 2 ^ (n - j)) ∧ wr = w3) (fun _ _ iv _ => (intOf iv + 1).toNat)
        case atStart => exact ⟨n, 0, 1, rfl, rfl, rfl, Nat.le_refl _, by decide, by decide, ⟨by rw [← HL.out, List.drop_length]; rfl, by rw [Nat.sub_self]⟩, rfl⟩
        case round =>
          obtain ⟨j, e, a, rfl, rfl, rfl, hj, he, ha, HE, rfl⟩ := hrel
          by_cases hj0 : 0 < j
          · obtain ⟨m, rfl⟩ : ∃ m, j = m + 1 := ⟨j - 1, by omega⟩
            rw [show (((m + 1 : Nat) : Int) - 1) = (m : Int) by omega]
            have hmn : m < n := by omega
            obtain ⟨b1, o1, c1, ex1, hc1⟩ := bool_cellX (HG.out.below HB3.out (Nat.le_refl _)) m hmn
            cases ex1
            have HE2 : Hid (2 * e + (if goal.getD m false then 1 else 0) = codeB (goal.drop m) ∧ 2 * a = 2 ^ (n - m)) := by
              have hmg : m < goal.length := by rw [HL.out]; exact hmn
              have h1 := code_drop goal hmg
              have h2 := HE.out
              refine ⟨?_, ?_⟩
              · rw [h1, h2.1, List.getD_eq_getElem?_getD, List.getElem?_eq_getElem hmg]
                show 2 * _ + (if goal[m] then 1 else 0) = _
                omega
              · rw [h2.2, show n - m = (n - (m + 1)) + 1 by omega, Nat.pow_succ]
                omega
            have ha2 : 2 * a ≤ 1024 := by rw [HE2.out.2]; exact Nat.le_trans (Nat.pow_le_pow_right (by decide) (show n - m ≤ 10 by omega)) (by decide)
            obtain ⟨x, hx⟩ : ∃ x, x = goal.getD m false := ⟨_, rfl⟩
            rw [← hx] at hc1 HE2
            clear hx HE
            cases x with
            | false =>
              go_wp2_with fail
              go_roundw
              case rel => exact ⟨m, 2 * e, 2 * a, by go_num, by go_num, by go_num, by omega, by omega, ha2, HE2.out, trivial⟩
              case measure => simp only [intOf]; omega
            | true =>
              go_wp2_with fail
              go_roundw
              case rel => exact ⟨m, 2 * e + 1, 2 * a, by go_num, by go_num, by go_num, by omega, by omega, ha2, HE2.out, trivial⟩
              case measure => simp only [intOf]; omega
          · obtain rfl : j = 0 := by omega
            go_wp2_with fail
            refine HK1.out _ _ ?_
            have hea : e < a := by
              have h1 := code_lt goal
              have h2 := HE.out
              rw [HL.out] at h1
              rw [List.drop_zero, Nat.sub_zero] at h2
              omega
            refine HPB.out HMM.out HSB.out n a e HNN.out rfl (by rw [HE.out.2]; rfl) (by rw [HE.out.1]; rfl) A wr HA3.out (HYY.out _ HB3.out) hea HB3.out _ _ _ _ _ _ _ _ _ _ _ _ _ _ _ _ _ _ _ _ _ _ _ _ _ _ _ _ _ _ _ _ _ _ _ _ _ _ _ _ _ _ _ _ _ _ _ _ _ _ _ _ _ _ _ _ _ _ _ _ _ _ _ _ _ _ _ _ _ _ _ _ _ _ _ _ _ _ _ _ _ _ _ _ _ _ _ _ _ _ _ _ _ _ _ _ _ _ _ _ _ _ _ _ _ _ _ _ _ _ _ _ _ _ _ _ _ _ _ _ _ _ _ _ _ _ _ _ _ _ _ _ _ _ _ _ _ _ _ _ _ _ _ _ _ _ _ _ _ _ _ _ _ _ _ _ _ _ _ _ _ _ _ _ _ _ _ _ _ _ _ _ _ _ _ _ _ _ _ _ _ _ _ _ _ _ _ _ _ _ _ _ _ _ _ _ _ _ _ _ _ _ _ _ _ _ _ _ _ _ _ _
      · go_wp2_with fail
        go_ret2
        exact .inr (.inl ⟨HMS.out, hl, rfl, HB3.out⟩)
end Go.Proofs.Ytcnoipcpifackah
