/- Merit, the document's answer: the list, or a fault. -/
import Derived.Test.YtlbeecjkfakkpagC3
namespace Go.Proofs.Ytlbeecjkfakkpag
open Go.RowKit Go.Shelf

/-- P9.2, with its faults. -/
def MeritAs (us : List UnitM) (on : List Bool) (need : Int) (w : World) (e : Ending) (w' : World) : Prop :=
  ((4 < us.length ∨ on.length ≠ us.length) → Answers [] 2 w e w') ∧
  (us.length ≤ 4 → on.length = us.length → ¬ MayUs us → Answers [] 14 w e w') ∧
  (us.length ≤ 4 → on.length = us.length → MayUs us → ¬ (0 ≤ need ∧ need ≤ 400000) → Answers [] 4 w e w') ∧
  (us.length ≤ 4 → on.length = us.length → MayUs us → (0 ≤ need ∧ need ≤ 400000) → (∀ out, ¬ Merit us on need out) → Answers [] 8 w e w') ∧
  (us.length ≤ 4 → on.length = us.length → MayUs us → (0 ≤ need ∧ need ≤ 400000) → ∀ out, Merit us on need out → Answers out 0 w e w')
/-- One list and one fault for both. -/
theorem merit_one (us : List UnitM) (on : List Bool) (need : Int) : ∃ (l : List Int) (c : Int), l.length ≤ 1000 ∧ ∀ w e w', MeritAs us on need w e w' → Answers l c w e w' := by
  by_cases h1 : 4 < us.length ∨ on.length ≠ us.length
  · exact ⟨[], 2, Nat.zero_le _, fun w e w' h => h.1 h1⟩
  · have h1a : us.length ≤ 4 := by omega
    have h1b : on.length = us.length := by omega
    by_cases h2 : MayUs us
    · by_cases h3 : 0 ≤ need ∧ need ≤ 400000
      · by_cases h4 : ∃ out, Merit us on need out
        · obtain ⟨out, h4⟩ := h4
          exact ⟨out, 0, by rw [h4.len]; omega, fun w e w' h => h.2.2.2.2 h1a h1b h2 h3 out h4⟩
        · exact ⟨[], 8, Nat.zero_le _, fun w e w' h => h.2.2.2.1 h1a h1b h2 h3 (fun out ho => h4 ⟨out, ho⟩)⟩
      · exact ⟨[], 4, Nat.zero_le _, fun w e w' h => h.2.2.1 h1a h1b h2 h3⟩
    · exact ⟨[], 14, Nat.zero_le _, fun w e w' h => h.2.1 h1a h1b h2⟩
theorem MeritAs.size {us : List UnitM} {on : List Bool} {need : Int} {w w' : World} {e : Ending} (h : 4 < us.length ∨ on.length ≠ us.length) (ha : Answers [] 2 w e w') : MeritAs us on need w e w' :=
  ⟨fun _ => ha, fun h1 h2 => by omega, fun h1 h2 => by omega, fun h1 h2 => by omega, fun h1 h2 => by omega⟩
theorem MeritAs.state {us : List UnitM} {on : List Bool} {need : Int} {w w' : World} {e : Ending} (h1 : us.length ≤ 4) (h2 : on.length = us.length) (h : ¬ MayUs us) (ha : Answers [] 14 w e w') : MeritAs us on need w e w' :=
  ⟨fun _ => by omega, fun _ _ _ => ha, fun _ _ h3 => absurd h3 h, fun _ _ h3 => absurd h3 h, fun _ _ h3 => absurd h3 h⟩
theorem MeritAs.range {us : List UnitM} {on : List Bool} {need : Int} {w w' : World} {e : Ending} (h1 : us.length ≤ 4) (h2 : on.length = us.length) (h3 : MayUs us) (h : ¬ (0 ≤ need ∧ need ≤ 400000)) (ha : Answers [] 4 w e w') : MeritAs us on need w e w' :=
  ⟨fun _ => by omega, fun _ _ h' => absurd h3 h', fun _ _ _ _ => ha, fun _ _ _ h4 => absurd h4 h, fun _ _ _ h4 => absurd h4 h⟩
theorem MeritAs.sum {us : List UnitM} {on : List Bool} {need : Int} {w w' : World} {e : Ending} (h1 : us.length ≤ 4) (h2 : on.length = us.length) (h3 : MayUs us) (h4 : 0 ≤ need ∧ need ≤ 400000) (h : ∀ out, ¬ Merit us on need out) (ha : Answers [] 8 w e w') : MeritAs us on need w e w' :=
  ⟨fun _ => by omega, fun _ _ h' => absurd h3 h', fun _ _ _ h' => absurd h4 h', fun _ _ _ _ _ => ha, fun _ _ _ _ out ho => absurd ho (h out)⟩
theorem MeritAs.ok {us : List UnitM} {on : List Bool} {need : Int} {w w' : World} {e : Ending} {out : List Int} (h1 : us.length ≤ 4) (h2 : on.length = us.length) (h3 : MayUs us) (h4 : 0 ≤ need ∧ need ≤ 400000) (h : Merit us on need out) (ha : Answers out 0 w e w') : MeritAs us on need w e w' :=
  ⟨fun _ => by omega, fun _ _ h' => absurd h3 h', fun _ _ _ h' => absurd h4 h', fun _ _ _ _ h' => absurd h (h' out), fun _ _ _ _ out' ho => by rw [ho.one h]; exact ha⟩
set_option maxRecDepth 100000 in
set_option maxHeartbeats 1000000 in
theorem Merited_any (us : List UnitM) (on : List Bool) (need : Int) (lv ov : Value) (w : World) (hx : UnitsAt w lv us) (ho : BoolsAt w ov on) :
    Calls Try.prog 11 #[lv, ov, .int .i64 need] w (MeritAs us on need w) := by
  have HG := hide' hx
  have HO := hide' ho
  obtain ⟨ag, cg, rfl⟩ := rowAt_slice hx
  obtain ⟨ao, co, rfl⟩ := rowAt_slice ho
  clear hx ho
  go_enter Try.func11, Try.ntmps11
  by_cases h1 : us.length ≤ 4
  · by_cases h2 : on.length = us.length
    · have HUM := hide' (unitsMay_any us (.slice ag us.length cg) w HG.out (by omega))
      have HL := hide' h2
      have HO2 : Hid (RowAt w (.slice ao us.length co) us.length 1 (on.map Value.bool)) := by have := HO.out; rw [BoolsAt, h2] at this; exact this
      rw [h2]
      clear h2 HO
      go_wp2_with (go_at_call 28; refine HUM.out.mono ?_; rintro e w1 ⟨⟨r, rfl, hr⟩, hb1⟩; refine Still.go ?_)
      unfold Still
      have HR := hide' hr
      have HB1 := hide' hb1
      clear hr hb1 HUM
      cases r with
      | false =>
        have HNO : Hid (¬ MayUs us) := fun h => by have := HR.out.2 h; cases this
        go_wp2
        refine bodyPost_ret (results_tmp2 rfl _ _ _) rfl ?_
        exact MeritAs.state h1 HL.out HNO.out (answers_nil HB1.out)
      | true =>
        have HM := hide' (HR.out.1 rfl)
        clear HR
        by_cases h3 : 0 ≤ need ∧ need ≤ 400000
        · have h3a := h3.1
          have h3b := h3.2
          have HC := hide' (meritOf_any us on need (.slice ag us.length cg) (.slice ao us.length co) w1 (HG.out.below HB1.out (Nat.le_refl _)) (HO2.out.below HB1.out (Nat.le_refl _)) HL.out h1 HM.out h3a h3b)
          have HIB : Hid (∀ w, Calls Try.prog 29 #[.int .i64 need, .int .i64 0, .int .i64 400000] w fun e w' => e = .returned (.bool true) ∧ w' = w) := fun w => by have := inBounds_any need 0 400000 w; rw [decide_eq_true h3a, decide_eq_true h3b] at this; exact this
          clear h3
          go_wp2_with fail
          refine (HIB.out _).mono ?_
          rintro e w' ⟨rfl, rfl⟩
          go_wp2_with fail
          refine HC.out.mono ?_
          rintro e w2 (⟨out, v, hmer, rfl, hrow, hb2⟩ | ⟨hno, rfl, hb2⟩)
          · have HME := hide' hmer
            have HRO := hide' hrow
            have HB2 := hide' (HB1.out.trans (hb2.mono HB1.out.size))
            obtain ⟨av, cv, rfl⟩ := rowAt_slice hrow
            clear hmer hrow hb2 HC HIB
            go_wp2
            refine bodyPost_ret (results_tmp2 rfl _ _ _) rfl ?_
            exact MeritAs.ok h1 HL.out HM.out ⟨h3a, h3b⟩ HME.out ⟨_, rfl, HRO.out, HB2.out⟩
          · have HNO := hide' hno
            have HB2 := hide' (HB1.out.trans (hb2.mono HB1.out.size))
            clear hno hb2 HC HIB
            go_wp2
            refine bodyPost_ret (results_tmp2 rfl _ _ _) rfl ?_
            exact MeritAs.sum h1 HL.out HM.out ⟨h3a, h3b⟩ HNO.out (answers_nil HB2.out)
        · have HIB : Hid (∀ w, Calls Try.prog 29 #[.int .i64 need, .int .i64 0, .int .i64 400000] w fun e w' => e = .returned (.bool false) ∧ w' = w) := fun w => by
            have := inBounds_any need 0 400000 w
            rw [show (decide (0 ≤ need) && decide (need ≤ 400000)) = false by rw [Bool.eq_false_iff]; intro h; rw [Bool.and_eq_true, decide_eq_true_iff, decide_eq_true_iff] at h; exact h3 h] at this
            exact this
          have H3 := hide' h3
          clear h3
          go_wp2_with (go_at_call 29; refine (HIB.out _).mono ?_; rintro e w' ⟨rfl, rfl⟩)
          refine bodyPost_ret (results_tmp2 rfl _ _ _) rfl ?_
          exact MeritAs.range h1 HL.out HM.out H3.out (answers_nil HB1.out)
    · have HL := hide' h2
      have h2' : ((on.length : Int) != (us.length : Int)) = true := bne_iff_ne.2 (by omega)
      clear h2
      go_wp2
      refine bodyPost_ret (results_tmp2 rfl _ _ _) rfl ?_
      exact MeritAs.size (.inr HL.out) (answers_nil (Below.refl _ w))
  · go_wp2
    refine bodyPost_ret (results_tmp2 rfl _ _ _) rfl ?_
    exact MeritAs.size (.inl (by omega)) (answers_nil (Below.refl _ w))
end Go.Proofs.Ytlbeecjkfakkpag
