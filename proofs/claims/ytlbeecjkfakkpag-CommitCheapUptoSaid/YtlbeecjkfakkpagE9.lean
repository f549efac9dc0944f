/- Merit, in the program. -/
import Derived.Test.YtlbeecjkfakkpagE8
namespace Go.Proofs.Ytlbeecjkfakkpag
open Go.RowKit Go.Shelf

set_option maxRecDepth 100000 in
set_option maxHeartbeats 4000000 in
theorem Merit_good : MeritGood := by
  intro us on need lv ov w hx ho hul hol
  have HG := hide' hx
  have HO := hide' ho
  obtain ⟨ag, cg, rfl⟩ := rowAt_slice hx
  obtain ⟨ao, co, rfl⟩ := rowAt_slice ho
  clear hx ho
  go_enter Try.func8, Try.ntmps8
  by_cases h1 : us.length ≤ 4
  · by_cases h2 : on.length = us.length
    · have HUM := hide' (allUnits_any us (.slice ag us.length cg) w HG.out (by omega))
      have HL := hide' h2
      have HO2 : Hid (RowAt w (.slice ao us.length co) us.length 1 (on.map Value.bool)) := by have := HO.out; rw [BoolsAt, h2] at this; exact this
      rw [h2]
      clear h2 HO hol
      have HMB := hide' (mayUsB_iff us)
      obtain ⟨r, hr⟩ : ∃ r, r = us.all mayB := ⟨_, rfl⟩
      rw [← hr] at HUM HMB
      clear hr
      go_wp2_with fail
      refine HUM.out.mono ?_
      rintro e w1 ⟨rfl, hb1⟩
      have HB1 := hide' hb1
      clear hb1 HUM
      cases r with
      | false =>
        have HNO : Hid (¬ MayUs us) := fun h => by have := HMB.out.2 h; cases this
        go_wp2
        refine bodyPost_ret (results_tmp2 rfl _ _ _) rfl ?_
        exact MeritAs.state h1 HL.out HNO.out (answers_nil HB1.out)
      | true =>
        have HM := hide' (HMB.out.1 rfl)
        clear HMB
        by_cases h3 : 0 ≤ need ∧ need ≤ 400000
        · have h3a := h3.1
          have h3b := h3.2
          have HC := hide' (gather_any us (.slice ag us.length cg) w1 (HG.out.below HB1.out (Nat.le_refl _)) h1)
          have HIB : Hid (∀ w, Calls Try.prog 25 #[.int .i64 need] w fun e w' => e = .returned (.bool true) ∧ w' = w) := fun w => by have := mayBeAsked_any need w; rw [decide_eq_true h3a, decide_eq_true h3b] at this; exact this
          clear h3
          go_wp2_with fail
          refine (HIB.out _).mono ?_
          rintro e w' ⟨rfl, rfl⟩
          go_wp2_with fail
          refine HC.out.mono ?_
          rintro e w2 ⟨d, rv, rfl, hd, hrv, hb2⟩
          have HB2 := hide' (HB1.out.trans (hb2.mono HB1.out.size))
          obtain ⟨ar, cr, rfl⟩ := rowAt_slice (rowAt_of_own hrv)
          have HCM := hide' (merit_any us on need d (.slice ag us.length cg) (.slice ar us.length cr) (.slice ao us.length co) w2 (HG.out.below HB2.out (Nat.le_refl _)) (rowAt_of_own hrv) hd (HO2.out.below HB2.out (Nat.le_refl _)) HL.out h1 HM.out h3a h3b)
          clear hd hrv hb2 HC HIB
          go_wp2_with fail
          refine HCM.out.mono ?_
          rintro e w3 (⟨out, v, hmer, rfl, hrow, hb3⟩ | ⟨hno, rfl, hb3⟩)
          · have HME := hide' hmer
            have HRO := hide' hrow
            have HB3 := hide' (HB2.out.trans (hb3.mono HB2.out.size))
            obtain ⟨av, cv, rfl⟩ := rowAt_slice hrow
            clear hmer hrow hb3 HCM
            go_wp2
            refine bodyPost_ret (results_tmp2 rfl _ _ _) rfl ?_
            exact MeritAs.ok h1 HL.out HM.out ⟨h3a, h3b⟩ HME.out ⟨_, rfl, HRO.out, HB3.out⟩
          · have HNO := hide' hno
            have HB3 := hide' (HB2.out.trans (hb3.mono HB2.out.size))
            clear hno hb3 HCM
            go_wp2
            refine bodyPost_ret (results_tmp2 rfl _ _ _) rfl ?_
            exact MeritAs.sum h1 HL.out HM.out ⟨h3a, h3b⟩ HNO.out (answers_nil HB3.out)
        · have HIB : Hid (∀ w, Calls Try.prog 25 #[.int .i64 need] w fun e w' => e = .returned (.bool false) ∧ w' = w) := fun w => by
            have := mayBeAsked_any need w
            rw [show (decide (0 ≤ need) && decide (need ≤ 400000)) = false by rw [Bool.eq_false_iff]; intro h; rw [Bool.and_eq_true, decide_eq_true_iff, decide_eq_true_iff] at h; exact h3 h] at this
            exact this
          have H3 := hide' h3
          clear h3
          go_wp2_with (go_at_call 25; refine (HIB.out _).mono ?_; rintro e w' ⟨rfl, rfl⟩)
          refine bodyPost_ret (results_tmp2 rfl _ _ _) rfl ?_
          exact MeritAs.range h1 HL.out HM.out H3.out (answers_nil HB1.out)
    · have HL := hide' h2
      have h2' : ((on.length : Int) != (us.length : Int)) = true := bne_iff_ne.2 (by omega)
      clear h2
      go_wp2
      refine bodyPost_ret (results_tmp2 rfl _ _ _) rfl ?_
      exact MeritAs.size (.inr HL.out) (answers_nil (Below.refl _ w))
  · go_wp2
    refine bodyPost_ret (results_tmp2 rfl _ _ _) rfl ?_
    exact MeritAs.size (.inl (by omega)) (answers_nil (Below.refl _ w))
end Go.Proofs.Ytlbeecjkfakkpag
