/- Value, in the program. -/
import Derived.Test.YtlbeecjkfakkpagEe
namespace Go.Proofs.Ytlbeecjkfakkpag
open Go.RowKit Go.Shelf

theorem schedC_of {us : List UnitM} {need spare : List Int} (h : us.length ≤ 4 ∧ need.length ≤ 8 ∧ spare.length = need.length) :
    schedC us need spare = if us.all mayB = false then 14 else if (inRB need && inRB spare) = false then 4 else 0 := by
  unfold schedC
  rw [if_neg (fun hn => hn h)]
  cases us.all mayB <;> cases inRB need <;> cases inRB spare <;> simp
set_option maxRecDepth 100000 in
set_option maxHeartbeats 4000000 in
theorem Value_good : ValueGood := by
  intro us need spare on lv nv sv ov w hx hn hs ho hul hnl hsl hol hrl
  have HG := hide' hx
  have HN := hide' hn
  have HS := hide' hs
  have HO := hide' ho
  have HRL := hide' hrl
  obtain ⟨ag, cg, rfl⟩ := rowAt_slice hx
  obtain ⟨an, cn, rfl⟩ := rowAt_slice hn
  obtain ⟨as', cs, rfl⟩ := rowAt_slice hs
  obtain ⟨ao, co, rfl⟩ := ho.slice
  clear hx hn hs ho hrl
  have HA : Hid (∀ o, Below w.heap.size w (w.alloc o)) := fun o => (Below.refl _ w).alloc (Nat.le_refl _) o
  have HSZ := hide' (fun w => sized_any us.length need.length spare.length ag an as' cg cn cs w hul hnl hsl)
  have hbx := alloc_new w (.cells #[.slice ag us.length cg] 22)
  have hbc : (w.alloc (.cells #[.slice ag us.length cg] 22)).cell? ⟨w.heap.size, 0, none⟩ = some (.slice ag us.length cg) := by simp only [World.cell?, hbx]; rfl
  go_enter Try.func13, Try.ntmps13
  by_cases h1 : us.length ≤ 4 ∧ need.length ≤ 8 ∧ spare.length = need.length
  · obtain ⟨h4, h8, hse⟩ := h1
    have HSZ1 : Hid (∀ w, Calls Try.prog 32 #[.slice ag us.length cg, .slice an need.length cn, .slice as' spare.length cs] w fun e w' => e = .returned (.bool true) ∧ w' = w) := fun w => by
      have := HSZ.out w
      rw [decide_eq_true h4, decide_eq_true h8, decide_eq_true hse] at this
      exact this
    have HSE := hide' hse
    rw [hse] at HSZ1 ⊢
    clear HSZ
    by_cases h2 : on.length = need.length
    · have HON := hide' h2
      rw [h2]
      have HAB : Hid (∀ o, (w.alloc o).cell? ⟨w.heap.size, 0, none⟩ = some (.slice ag us.length cg) → Calls Try.prog 33 #[.slice ao need.length co, .func (.func 31) #[] #[.pointer (some ⟨w.heap.size, 0, none⟩)]] (w.alloc o) fun e w' => e = .returned (.bool (on.all fun r => r.length == us.length)) ∧ w' = w.alloc o) := fun o hc => by
        have := allBools_any on us.length ag cg w.heap.size (.slice ao on.length co) (w.alloc o) (HO.out.below (HA.out o) (Nat.le_refl _)) hc hul (by rw [h2]; omega) HRL.out
        rw [h2] at this
        exact this
      obtain ⟨ra, hra⟩ : ∃ r, r = on.all fun r => r.length == us.length := ⟨_, rfl⟩
      have HRA := hide' hra
      rw [← hra] at HAB
      clear h2 hra
      go_wp2_with fail
      refine (HSZ1.out _).mono ?_
      rintro e w' ⟨rfl, hw'⟩
      subst hw'
      go_wp2_with fail
      refine (HAB.out _ hbc).mono ?_
      rintro e w' ⟨rfl, hw'⟩
      subst hw'
      clear HAB HSZ1
      cases ra with
      | false =>
        have HER : Hid (valued us need spare on = (0, 2)) := by show _ = _; unfold valued; rw [if_pos]; rintro ⟨_, _, h⟩; rw [← HRA.out] at h; cases h
        go_wp2
        refine bodyPost_ret (results_tmp2 rfl _ _ _) rfl ?_
        exact ValueOut.of HER.out (HA.out _)
      | true =>
        have HDR := hide' (draft_any us need spare (.slice ag us.length cg) (.slice an need.length cn) (.slice as' need.length cs) (w.alloc (.cells #[.slice ag us.length cg] 22)) (HG.out.below (HA.out _) (Nat.le_refl _)) (HN.out.below (HA.out _) (Nat.le_refl _)) (by have := HS.out.below (HA.out (.cells #[.slice ag us.length cg] 22)) (Nat.le_refl _); rw [HSE.out] at this ⊢; exact this) h4 h8 (by rw [HSE.out]; exact h8))
        have HALL : Hid (SizeOk us need spare ∧ on.length = need.length ∧ RowsOk us on) := ⟨⟨h4, h8, HSE.out⟩, HON.out, (rowsB_iff us on).1 HRA.out.symm⟩
        have HSC := hide' (schedC_of ⟨h4, h8, HSE.out⟩)
        go_wp2_with fail
        refine HDR.out.mono ?_
        rintro e w2 ⟨⟨hum, rfl⟩ | ⟨hum, hin, rfl⟩ | ⟨hum, hin, dd, rv, rfl, hd, hrv⟩, hb2⟩
        · have HAL : Hid (∀ o, Below w.heap.size w (w2.alloc o)) := fun o => ((HA.out _).trans (hb2.mono (HA.out _).size)).alloc ((HA.out _).trans (hb2.mono (HA.out _).size)).size o
          have HER : Hid (valued us need spare on = (0, 14)) := by
            have h : schedC us need spare = 14 := by rw [HSC.out, hum]; rfl
            have := valued_fault HALL.out (by rw [h]; decide)
            rw [h] at this
            exact this
          clear hum hb2 HDR
          go_wp2
          refine bodyPost_ret (results_tmp2 rfl _ _ _) rfl ?_
          exact ValueOut.of HER.out (HAL.out _)
        · have HAL : Hid (∀ o, Below w.heap.size w (w2.alloc o)) := fun o => ((HA.out _).trans (hb2.mono (HA.out _).size)).alloc ((HA.out _).trans (hb2.mono (HA.out _).size)).size o
          have HER : Hid (valued us need spare on = (0, 4)) := by
            have h : schedC us need spare = 4 := by rw [HSC.out, hum, hin]; rfl
            have := valued_fault HALL.out (by rw [h]; decide)
            rw [h] at this
            exact this
          clear hum hin hb2 HDR
          go_wp2
          refine bodyPost_ret (results_tmp2 rfl _ _ _) rfl ?_
          exact ValueOut.of HER.out (HAL.out _)
        · have HAL : Hid (∀ o, Below w.heap.size w (w2.alloc o)) := fun o => ((HA.out _).trans (hb2.mono (HA.out _).size)).alloc ((HA.out _).trans (hb2.mono (HA.out _).size)).size o
          have HZ : Hid (schedC us need spare = 0) := by show _ = _; rw [HSC.out, hum, hin]; rfl
          obtain ⟨ar, cr, rfl⟩ := rowAt_slice hrv
          have hin2 := (Bool.and_eq_true _ _).mp hin
          have HVA : Hid (∀ o, Calls Try.prog 35 #[.agg #[.slice ag us.length cg, .slice ar us.length cr, .slice an need.length cn, .slice as' need.length cs], .slice ao need.length co] (w2.alloc o) (ValO us need spare on (w2.alloc o))) := fun o => by
            have hx1 : Below w2.heap.size w2 (w2.alloc o) := (Below.refl _ w2).alloc (Nat.le_refl _) o
            have hsv := HS.out.below (HAL.out o) (Nat.le_refl _)
            rw [HSE.out] at hsv
            have := value_any us need spare on dd (.slice ag us.length cg) (.slice ar us.length cr) (.slice an need.length cn) (.slice as' need.length cs) (.slice ao on.length co) (w2.alloc o) (HG.out.below (HAL.out o) (Nat.le_refl _)) (hrv.below hx1 (Nat.le_refl _)) hd (HN.out.below (HAL.out o) (Nat.le_refl _)) hsv (HO.out.below (HAL.out o) (Nat.le_refl _)) HSE.out HON.out (fun r hr => by have := List.all_eq_true.1 HRA.out.symm r hr; simpa using this) h4 h8 ((mayUsB_iff us).1 hum) ((inRB_iff need).1 hin2.1) ((inRB_iff spare).1 hin2.2)
            rw [HON.out] at this
            exact this
          clear hum hin hb2 HDR hrv hd hin2
          go_wp2_with fail
          refine (HVA.out _).mono ?_
          rintro e w3 ⟨⟨c, hc, rfl⟩ | ⟨t, c, hc, rfl⟩, hb3⟩
          · have HER : Hid (valued us need spare on = (0, c)) := valued_none HALL.out HZ.out hc
            have HB3 := hide' ((HAL.out _).trans (hb3.mono (HAL.out _).size))
            clear hc hb3 HVA
            go_wp2
            refine bodyPost_ret (results_tmp2 rfl _ _ _) rfl ?_
            exact ValueOut.of HER.out HB3.out
          · have HER : Hid (valued us need spare on = (c, 0)) := valued_some HALL.out HZ.out hc
            have HB3 := hide' ((HAL.out _).trans (hb3.mono (HAL.out _).size))
            clear hc hb3 HVA
            go_wp2
            refine bodyPost_ret (results_tmp2 rfl _ _ _) rfl ?_
            exact ValueOut.of HER.out HB3.out
    · have HER : Hid (valued us need spare on = (0, 2)) := by show _ = _; unfold valued; rw [if_pos]; rintro ⟨_, h, _⟩; exact h2 h
      have h2' : ((on.length : Int) != (need.length : Int)) = true := bne_iff_ne.2 (by omega)
      clear h2
      go_wp2_with (go_at_call 32; refine (HSZ1.out _).mono ?_; rintro e w' ⟨rfl, hw'⟩; subst hw')
      refine bodyPost_ret (results_tmp2 rfl _ _ _) rfl ?_
      exact ValueOut.of HER.out (HA.out _)
  · have HER : Hid (valued us need spare on = (0, 2)) := by show _ = _; unfold valued; rw [if_pos]; rintro ⟨h, _, _⟩; exact h1 h
    have HSZ1 : Hid (∀ w, Calls Try.prog 32 #[.slice ag us.length cg, .slice an need.length cn, .slice as' spare.length cs] w fun e w' => e = .returned (.bool false) ∧ w' = w) := fun w => by
      have := HSZ.out w
      rw [show (decide (us.length ≤ 4) && decide (need.length ≤ 8) && decide (spare.length = need.length)) = false by
        rw [Bool.eq_false_iff]; intro h; rw [Bool.and_eq_true, Bool.and_eq_true, decide_eq_true_iff, decide_eq_true_iff, decide_eq_true_iff] at h; exact h1 ⟨h.1.1, h.1.2, h.2⟩] at this
      exact this
    clear h1 HSZ
    go_wp2_with (go_at_call 32; refine (HSZ1.out _).mono ?_; rintro e w' ⟨rfl, hw'⟩; subst hw')
    refine bodyPost_ret (results_tmp2 rfl _ _ _) rfl ?_
    exact ValueOut.of HER.out (HA.out _)
end Go.Proofs.Ytlbeecjkfakkpag
