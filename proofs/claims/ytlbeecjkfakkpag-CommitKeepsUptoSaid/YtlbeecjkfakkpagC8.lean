/- Value, as plain words; whether units, needs and spares may be, in the document's answer. -/
import Derived.Test.YtlbeecjkfakkpagC7
import Derived.Test.YtlbeecjkfakkpagCq
namespace Go.Proofs.Ytlbeecjkfakkpag
open Go.RowKit Go.Shelf

/-- An hour on: stays and what all has cost; 15: too early; 8: it can't be. -/
def stepV (us : List UnitM) (need spare : Int) (t : List Int) (c : Int) (on : List Bool) : Except Int (List Int × Int) :=
  match nextL us t on with
  | none => .error 15
  | some (l, s) => match hourC us on need spare with
    | none => .error 8
    | some x => .ok (l, c + (s + x))
def valK (us : List UnitM) (need spare : List Int) (on : List (List Bool)) : Nat → Except Int (List Int × Int)
  | 0 => .ok (staysL us, 0)
  | k + 1 => match valK us need spare on k with
    | .error e => .error e
    | .ok (t, c) => stepV us (need.getD k 0) (spare.getD k 0) t c (on.getD k [])
def SizeOk (us : List UnitM) (need spare : List Int) : Prop := us.length ≤ 4 ∧ need.length ≤ 8 ∧ spare.length = need.length
/-- The faults of units, needs and spares. -/
def schedC (us : List UnitM) (need spare : List Int) : Int := if ¬ (us.length ≤ 4 ∧ need.length ≤ 8 ∧ spare.length = need.length) then 2 else if ¬ us.all mayB = true then 14 else if ¬ (inRB need = true ∧ inRB spare = true) then 4 else 0
def RowsOk (us : List UnitM) (on : List (List Bool)) : Prop := ∀ (i : Nat) (b : List Bool), on[i]? = some b → b.length = us.length
theorem rowsB_iff (us : List UnitM) (on : List (List Bool)) : (on.all fun r => r.length == us.length) = true ↔ RowsOk us on := by
  rw [List.all_eq_true]
  constructor
  · intro h i b hb
    have := h b (List.mem_of_getElem? hb)
    simpa using this
  · intro h b hb
    obtain ⟨i, hi, rfl⟩ := List.getElem_of_mem hb
    simpa using h i _ (List.getElem?_eq_getElem hi)
/-- P9.4: the value, and the fault. -/
def valued (us : List UnitM) (need spare : List Int) (on : List (List Bool)) : Int × Int :=
  if ¬ ((us.length ≤ 4 ∧ need.length ≤ 8 ∧ spare.length = need.length) ∧ on.length = need.length ∧ (on.all fun r => r.length == us.length) = true) then (0, 2)
  else if schedC us need spare ≠ 0 then (0, schedC us need spare)
  else match valK us need spare on on.length with
    | .error e => (0, e)
    | .ok (_, c) => (c, 0)
theorem schedC_size {us : List UnitM} {need spare : List Int} (h : ¬ SizeOk us need spare) : schedC us need spare = 2 := by unfold schedC; exact if_pos h
theorem schedC_state {us : List UnitM} {need spare : List Int} (h : SizeOk us need spare) (h2 : ¬ MayUs us) : schedC us need spare = 14 := by
  have h2' : ¬ us.all mayB = true := fun x => h2 ((mayUsB_iff us).1 x)
  unfold schedC
  rw [if_neg (fun x => x h), if_pos h2']
theorem schedC_range {us : List UnitM} {need spare : List Int} (h : SizeOk us need spare) (h2 : MayUs us) (h3 : ¬ (InR need ∧ InR spare)) : schedC us need spare = 4 := by
  have h2' := (mayUsB_iff us).2 h2
  have h3' : ¬ (inRB need = true ∧ inRB spare = true) := fun x => h3 ⟨(inRB_iff _).1 x.1, (inRB_iff _).1 x.2⟩
  unfold schedC
  rw [if_neg (fun x => x h), if_neg (fun x => x h2'), if_pos h3']
theorem schedC_ok {us : List UnitM} {need spare : List Int} (h : SizeOk us need spare) (h2 : MayUs us) (h3 : InR need ∧ InR spare) : schedC us need spare = 0 := by
  have h2' := (mayUsB_iff us).2 h2
  have h3' : inRB need = true ∧ inRB spare = true := ⟨(inRB_iff _).2 h3.1, (inRB_iff _).2 h3.2⟩
  unfold schedC
  rw [if_neg (fun x => x h), if_neg (fun x => x h2'), if_neg (fun x => x h3')]
theorem schedC_zero {us : List UnitM} {need spare : List Int} (h : schedC us need spare = 0) : SizeOk us need spare ∧ MayUs us ∧ InR need ∧ InR spare := by
  by_cases h1 : SizeOk us need spare
  · by_cases h2 : MayUs us
    · by_cases h3 : InR need ∧ InR spare
      · exact ⟨h1, h2, h3⟩
      · rw [schedC_range h1 h2 h3] at h; cases h
    · rw [schedC_state h1 h2] at h; cases h
  · rw [schedC_size h1] at h; cases h
theorem valK_error {us : List UnitM} {need spare : List Int} {on : List (List Bool)} {k : Nat} {e : Int} (h : valK us need spare on k = .error e) : ∀ m, k ≤ m → valK us need spare on m = .error e := by
  intro m hm
  obtain ⟨d, rfl⟩ := Nat.exists_eq_add_of_le hm
  clear hm
  induction d with
  | zero => exact h
  | succ d ih => rw [← Nat.add_assoc, valK, ih]
theorem hour_bound {us : List UnitM} {on : List Bool} {need spare c : Int} (hm : MayUs us) (h4 : us.length ≤ 4) (h : hourC us on need spare = some c) : 0 ≤ c ∧ c ≤ 40000000000 := by
  obtain ⟨out, h1, _, rfl⟩ := hourC_hour hm h
  have := costK_bound hm h1 us.length (Nat.le_refl _)
  omega
theorem stepV_spec {us : List UnitM} {need spare : Int} {t : List Int} {c : Int} {on : List Bool} (hm : MayUs us) (h4 : us.length ≤ 4) {l : List Int} {x : Int} (h : stepV us need spare t c on = .ok (l, x)) :
    l.length = us.length ∧ (∀ y ∈ l, -3 ≤ y ∧ y ≤ 3) ∧ c ≤ x ∧ x ≤ c + 50000000000 := by
  unfold stepV at h
  cases hn : nextL us t on with
  | none => rw [hn] at h; cases h
  | some p =>
    obtain ⟨l0, s⟩ := p
    rw [hn] at h
    cases hh : hourC us on need spare with
    | none => simp only [hh] at h; cases h
    | some y =>
      simp only [hh] at h
      cases h
      have h1 := nextK_spec hm us.length (Nat.le_refl _) _ _ hn
      have h2 := hour_bound hm h4 hh
      exact ⟨h1.1, h1.2.1, by omega, by omega⟩
theorem staysL_spec (us : List UnitM) : (staysL us).length = us.length ∧ ∀ y ∈ staysL us, -3 ≤ y ∧ y ≤ 3 := by
  refine ⟨List.length_map _, fun y hy => ?_⟩
  obtain ⟨u, _, rfl⟩ := List.mem_map.1 hy
  exact clip_bound _
theorem valK_spec {us : List UnitM} {need spare : List Int} {on : List (List Bool)} (hm : MayUs us) (h4 : us.length ≤ 4) : ∀ (k : Nat) (l : List Int) (x : Int), valK us need spare on k = .ok (l, x) → l.length = us.length ∧ (∀ y ∈ l, -3 ≤ y ∧ y ≤ 3) ∧ 0 ≤ x ∧ x ≤ 50000000000 * k
  | 0, l, x, h => by
    rw [valK] at h
    cases h
    have := staysL_spec us
    exact ⟨this.1, this.2, by omega, by omega⟩
  | k + 1, l, x, h => by
    rw [valK] at h
    cases hv : valK us need spare on k with
    | error e => rw [hv] at h; cases h
    | ok p =>
      obtain ⟨t, c⟩ := p
      simp only [hv] at h
      have ih := valK_spec hm h4 k t c hv
      have := stepV_spec hm h4 h
      exact ⟨this.1, this.2.1, by omega, by omega⟩
set_option maxRecDepth 100000 in
set_option maxHeartbeats 2000000 in
theorem scheduleMay_any (us : List UnitM) (need spare : List Int) (lv nv sv : Value) (w : World) (hx : UnitsAt w lv us) (hn : RowAt w nv need.length 1 (ints need)) (hs : RowAt w sv spare.length 1 (ints spare)) :
    Calls Try.prog 36 #[lv, nv, sv] w fun e w' => e = .returned (.int .i64 (schedC us need spare)) ∧ Below w.heap.size w w' := by
  have HG := hide' hx
  have HN := hide' hn
  have HS := hide' hs
  obtain ⟨ag, cg, rfl⟩ := rowAt_slice hx
  obtain ⟨an, cn, rfl⟩ := rowAt_slice hn
  obtain ⟨as', cs, rfl⟩ := rowAt_slice hs
  clear hx hn hs
  go_enter Try.func36, Try.ntmps36
  by_cases h1 : us.length ≤ 4
  · by_cases h2 : need.length ≤ 8
    · by_cases h3 : spare.length = need.length
      · have HL := hide' h3
        have HS2 : Hid (RowAt w (.slice as' need.length cs) need.length 1 (ints spare)) := by have := HS.out; rw [h3] at this; exact this
        have HSZ : Hid (SizeOk us need spare) := ⟨h1, h2, h3⟩
        have HUM := hide' (unitsMay_any us (.slice ag us.length cg) w HG.out (by omega))
        rw [h3]
        clear h3 HS
        go_wp2_with (go_at_call 28; refine HUM.out.mono ?_; rintro e w1 ⟨⟨r, rfl, hr⟩, hb1⟩; refine Still.go ?_)
        unfold Still
        have HR := hide' hr
        have HB1 := hide' hb1
        clear hr hb1 HUM
        cases r with
        | false =>
          have HE : Hid (schedC us need spare = 14) := schedC_state HSZ.out (fun h => by have := HR.out.2 h; cases this)
          go_wp2
          go_ret
          exact ⟨congrArg (fun x => Ending.returned (.int .i64 x)) HE.out.symm, HB1.out⟩
        | true =>
          have HM := hide' (HR.out.1 rfl)
          clear HR
          go_wp2_with fail
          go_loopw [7] (fun i wr => ∃ (k : Nat), i = .int .i64 k ∧ k ≤ need.length ∧ Hid (∀ j, j < k → (0 ≤ need.getD j 0 ∧ need.getD j 0 ≤ 400000) ∧ (0 ≤ spare.getD j 0 ∧ spare.getD j 0 ≤ 400000)) ∧ wr = w1) (fun i _ => need.length - (intOf i).toNat)
          case atStart => exact ⟨0, rfl, Nat.zero_le _, fun j h => absurd h (Nat.not_lt_zero j), rfl⟩
          case round =>
            obtain ⟨k, rfl, hk, HOK, rfl⟩ := hrel
            by_cases hlt : k < need.length
            · obtain ⟨bt, ot, ct', ex, hct⟩ := ints_cell2 HN.out k hlt
              cases ex
              obtain ⟨bp, op, cp', exp, hcp⟩ := ints_cell2 HS2.out k (by rw [HL.out]; exact hlt)
              cases exp
              have d0 := (HB1.out.cell (World.block_lt_of_cell? w _ hct)).trans hct
              have d1 := (HB1.out.cell (World.block_lt_of_cell? w _ hcp)).trans hcp
              obtain ⟨x, hx⟩ : ∃ x, x = need.getD k 0 := ⟨_, rfl⟩
              obtain ⟨y, hy⟩ : ∃ x, x = spare.getD k 0 := ⟨_, rfl⟩
              rw [← hx] at d0
              rw [← hy] at d1
              obtain ⟨bx, hbx⟩ : ∃ b, b = (decide (0 ≤ x) && decide (x ≤ 400000)) := ⟨_, rfl⟩
              obtain ⟨by', hby⟩ : ∃ b, b = (decide (0 ≤ y) && decide (y ≤ 400000)) := ⟨_, rfl⟩
              have HIX : Hid (∀ w, Calls Try.prog 29 #[.int .i64 x, .int .i64 0, .int .i64 400000] w fun e w' => e = .returned (.bool bx) ∧ w' = w) := fun w => by rw [hbx]; exact inBounds_any x 0 400000 w
              have HIY : Hid (∀ w, Calls Try.prog 29 #[.int .i64 y, .int .i64 0, .int .i64 400000] w fun e w' => e = .returned (.bool by') ∧ w' = w) := fun w => by rw [hby]; exact inBounds_any y 0 400000 w
              have HGO : Hid (bx = true → by' = true → ∀ j, j < k + 1 → (0 ≤ need.getD j 0 ∧ need.getD j 0 ≤ 400000) ∧ (0 ≤ spare.getD j 0 ∧ spare.getD j 0 ≤ 400000)) := fun h h' j hj => by
                by_cases e : j = k
                · rw [e, ← hx, ← hy]
                  rw [hbx] at h
                  rw [hby] at h'
                  simpa using And.intro h h'
                · exact HOK.out j (by omega)
              have HNX : Hid (bx = false → schedC us need spare = 4) := fun h => schedC_range HSZ.out HM.out (fun hh => by
                have := hh.1 k hlt
                rw [← hx] at this
                rw [hbx, decide_eq_true this.1, decide_eq_true this.2] at h
                cases h)
              have HNY : Hid (by' = false → schedC us need spare = 4) := fun h => schedC_range HSZ.out HM.out (fun hh => by
                have := hh.2 k (by rw [HL.out]; exact hlt)
                rw [← hy] at this
                rw [hby, decide_eq_true this.1, decide_eq_true this.2] at h
                cases h)
              clear hct hcp hbx hby hx hy
              cases bx with
              | false =>
                have HE := hide' (HNX.out rfl)
                go_wp2_with (go_at_call 29; refine (HIX.out _).mono ?_; rintro e w' ⟨rfl, rfl⟩)
                go_ret
                exact ⟨congrArg (fun x => Ending.returned (.int .i64 x)) HE.out.symm, HB1.out⟩
              | true =>
                cases by' with
                | false =>
                  have HE := hide' (HNY.out rfl)
                  go_wp2_with fail
                  refine (HIX.out _).mono ?_
                  rintro e w' ⟨rfl, rfl⟩
                  go_wp2_with fail
                  refine (HIY.out _).mono ?_
                  rintro e w' ⟨rfl, rfl⟩
                  go_wp2
                  go_ret
                  exact ⟨congrArg (fun x => Ending.returned (.int .i64 x)) HE.out.symm, HB1.out⟩
                | true =>
                  have HG2 := hide' (HGO.out rfl rfl)
                  go_wp2_with fail
                  refine (HIX.out _).mono ?_
                  rintro e w' ⟨rfl, rfl⟩
                  go_wp2_with fail
                  refine (HIY.out _).mono ?_
                  rintro e w' ⟨rfl, rfl⟩
                  go_wp2
                  go_roundw
                  case rel => exact ⟨k + 1, by go_num, by omega, HG2, by trivial⟩
                  case measure => simp [intOf]; omega
            · have HE : Hid (schedC us need spare = 0) := schedC_ok HSZ.out HM.out ⟨fun i hi => (HOK.out i (by omega)).1, fun i hi => (HOK.out i (by rw [HL.out] at hi; omega)).2⟩
              go_wp2
              go_ret
              exact ⟨congrArg (fun x => Ending.returned (.int .i64 x)) HE.out.symm, HB1.out⟩
      · have HE : Hid (schedC us need spare = 2) := schedC_size (fun h => h3 h.2.2)
        have h3' : ((spare.length : Int) != (need.length : Int)) = true := bne_iff_ne.2 (by omega)
        clear h3
        go_wp2
        go_ret
        exact ⟨congrArg (fun x => Ending.returned (.int .i64 x)) HE.out.symm, Below.refl _ w⟩
    · have HE : Hid (schedC us need spare = 2) := schedC_size (fun h => h2 h.2.1)
      go_wp2
      go_ret
      exact ⟨congrArg (fun x => Ending.returned (.int .i64 x)) HE.out.symm, Below.refl _ w⟩
  · have HE : Hid (schedC us need spare = 2) := schedC_size (fun h => h1 h.1)
    go_wp2
    go_ret
    exact ⟨congrArg (fun x => Ending.returned (.int .i64 x)) HE.out.symm, Below.refl _ w⟩
end Go.Proofs.Ytlbeecjkfakkpag
