/- Best, in the program, out of search and schedule. -/
import Derived.Test.YtlbeecjkfakkpagEn
namespace Go.Proofs.Ytlbeecjkfakkpag
open Go.RowKit Go.Shelf

set_option maxRecDepth 100000 in
set_option maxHeartbeats 1000000 in
theorem Best_from (HSG : ∀ us need spare, Plan us need spare → SearchGood us need spare) (HSC : ∀ us need spare, Plan us need spare → ScheduleGood us need spare) : BestGood := by
  intro us need spare lv nv sv w hx hn hs hul hnl hsl
  have HG := hide' hx
  have HN := hide' hn
  have HS := hide' hs
  obtain ⟨ag, cg, rfl⟩ := rowAt_slice hx
  obtain ⟨an, cn, rfl⟩ := rowAt_slice hn
  obtain ⟨as', cs, rfl⟩ := rowAt_slice hs
  clear hx hn hs
  have HSZ := hide' (fun w => sized_any us.length need.length spare.length ag an as' cg cn cs w hul hnl hsl)
  go_enter Try.func17, Try.ntmps17
  by_cases h1 : us.length ≤ 4 ∧ need.length ≤ 8 ∧ spare.length = need.length
  · obtain ⟨h4, h8, hse⟩ := h1
    have HSZ1 : Hid (∀ w, Calls Try.prog 32 #[.slice ag us.length cg, .slice an need.length cn, .slice as' spare.length cs] w fun e w' => e = .returned (.bool true) ∧ w' = w) := fun w => by
      have := HSZ.out w
      rw [decide_eq_true h4, decide_eq_true h8, decide_eq_true hse] at this
      exact this
    have HSE := hide' hse
    rw [hse] at HSZ1 ⊢
    have HDR := hide' (draft_any us need spare (.slice ag us.length cg) (.slice an need.length cn) (.slice as' need.length cs) w HG.out HN.out (by have := HS.out; rw [hse] at this ⊢; exact this) h4 h8 (by rw [hse]; exact h8))
    have HSCH := hide' (schedC_of ⟨h4, h8, hse⟩)
    clear HSZ hse
    go_wp2_with fail
    refine (HSZ1.out _).mono ?_
    rintro e w' ⟨rfl, hw'⟩
    subst hw'
    go_wp2_with fail
    refine HDR.out.mono ?_
    rintro e w2 ⟨⟨hum, rfl⟩ | ⟨hum, hin, rfl⟩ | ⟨hum, hin, dd, rv, rfl, hd, hrv⟩, hb2⟩
    · have HAL : Hid (∀ o, Below w'.heap.size w' (w2.alloc o)) := fun o => hb2.alloc hb2.size o
      have HER : Hid (schedC us need spare = 14) := by show _ = _; rw [HSCH.out, hum]; rfl
      clear hum hb2 HDR
      go_wp2
      refine bodyPost_ret (results_tmp3 rfl _ _ _) rfl ?_
      exact ⟨.inl ⟨by rw [HER.out]; decide, by rw [HER.out]; rfl⟩, HAL.out _⟩
    · have HAL : Hid (∀ o, Below w'.heap.size w' (w2.alloc o)) := fun o => hb2.alloc hb2.size o
      have HER : Hid (schedC us need spare = 4) := by show _ = _; rw [HSCH.out, hum, hin]; rfl
      clear hum hin hb2 HDR
      go_wp2
      refine bodyPost_ret (results_tmp3 rfl _ _ _) rfl ?_
      exact ⟨.inl ⟨by rw [HER.out]; decide, by rw [HER.out]; rfl⟩, HAL.out _⟩
    · have HAL : Hid (∀ o, Below w'.heap.size w' (w2.alloc o)) := fun o => hb2.alloc hb2.size o
      have HZ : Hid (schedC us need spare = 0) := by show _ = _; rw [HSCH.out, hum, hin]; rfl
      obtain ⟨ar, cr, rfl⟩ := rowAt_slice hrv
      have hin2 := (Bool.and_eq_true _ _).mp hin
      have HPL : Hid (Plan us need spare) := ⟨h4, h8, HSE.out, (mayUsB_iff us).1 hum, (inRB_iff need).1 hin2.1, (inRB_iff spare).1 hin2.2⟩
      have HBA : Hid (∀ o, Calls Try.prog 40 #[.agg #[.slice ag us.length cg, .slice ar us.length cr, .slice an need.length cn, .slice as' need.length cs]] (w2.alloc o) (BestO us need spare (w2.alloc o))) := fun o => by
        have hx1 : Below w2.heap.size w2 (w2.alloc o) := (Below.refl _ w2).alloc (Nat.le_refl _) o
        have hsv := HS.out.below (HAL.out o) (Nat.le_refl _)
        rw [HSE.out] at hsv
        exact best_any us need spare HPL.out (HSG _ _ _ HPL.out) (HSC _ _ _ HPL.out) dd _ _ _ _ (w2.alloc o) (HG.out.below (HAL.out o) (Nat.le_refl _)) (hrv.below hx1 (Nat.le_refl _)) hd (HN.out.below (HAL.out o) (Nat.le_refl _)) hsv
      clear hum hin hb2 HDR hrv hd hin2
      go_wp2_with fail
      refine (HBA.out _).mono ?_
      rintro e w3 ⟨⟨hlk, rfl⟩ | ⟨c, k, v, hlk, rfl, hsg⟩, hb3⟩
      · have HB3 := hide' ((HAL.out _).trans (hb3.mono (HAL.out _).size))
        have HNB := hide' (look_none hlk)
        clear hlk hb3 HBA
        go_wp2
        refine bodyPost_ret (results_tmp3 rfl _ _ _) rfl ?_
        exact ⟨.inr (.inl ⟨HZ.out, HNB.out, rfl⟩), HB3.out⟩
      · have HB3 := hide' ((HAL.out _).trans (hb3.mono (HAL.out _).size))
        obtain ⟨tt, hbest⟩ := look_best hlk
        have HBE := hide' hbest
        have HSGN := hide' hsg
        obtain ⟨av, cv, rfl⟩ := hsg.slice
        clear hlk hb3 HBA hbest hsg
        go_wp2
        refine bodyPost_ret (results_tmp3 rfl _ _ _) rfl ?_
        exact ⟨.inr (.inr ⟨HZ.out, _, _, HBE.out, rfl, HSGN.out⟩), HB3.out⟩
  · have HER : Hid (schedC us need spare = 2) := schedC_size h1
    have HSZ1 : Hid (∀ w, Calls Try.prog 32 #[.slice ag us.length cg, .slice an need.length cn, .slice as' spare.length cs] w fun e w' => e = .returned (.bool false) ∧ w' = w) := fun w => by
      have := HSZ.out w
      rw [show (decide (us.length ≤ 4) && decide (need.length ≤ 8) && decide (spare.length = need.length)) = false by
        rw [Bool.eq_false_iff]; intro h; rw [Bool.and_eq_true, Bool.and_eq_true, decide_eq_true_iff, decide_eq_true_iff, decide_eq_true_iff] at h; exact h1 ⟨h.1.1, h.1.2, h.2⟩] at this
      exact this
    clear h1 HSZ
    go_wp2_with (go_at_call 32; refine (HSZ1.out _).mono ?_; rintro e w' ⟨rfl, hw'⟩; subst hw')
    refine bodyPost_ret (results_tmp3 rfl _ _ _) rfl ?_
    exact ⟨.inl ⟨by rw [HER.out]; decide, by rw [HER.out]; rfl⟩, Below.refl _ _⟩
end Go.Proofs.Ytlbeecjkfakkpag
