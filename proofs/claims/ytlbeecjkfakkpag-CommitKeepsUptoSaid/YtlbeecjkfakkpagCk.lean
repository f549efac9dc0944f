/- Lists compared; the laws of chapter 9 out of the contracts of the program's three functions. -/
import Derived.Test.YtlbeecjkfakkpagCj
namespace Go.Proofs.Ytlbeecjkfakkpag
open Go.RowKit Go.Shelf

theorem quiet_of2 {P : Program} {f : FuncId} {args : Array Value} {w : World} {q n : Nat} {v : Value} (h : Calls P f args (w.drewN (q + n)) fun e w' => e = .returned v ∧ ∃ m, w' = (w.drewN (q + n)).drewN m) : Calls P f args (w.drewN (q + n)) fun e w'' => e = .returned v ∧ ∃ m, w'' = w.drewN (q + m) :=
  h.mono fun _ _ ⟨he, m, hm⟩ => ⟨he, n + m, by rw [hm, World.drewN_drewN, Nat.add_assoc]⟩
set_option maxRecDepth 100000 in
set_option maxHeartbeats 1000000 in
theorem sameInts_one (l : List Int) (n : Nat) (av bv : Value) (w : World) (ha : RowAt w av n 1 (ints l)) (hb : RowAt w bv n 1 (ints l)) (hl : l.length = n) (hn : n ≤ 2000000) :
    Calls Try.prog 12 #[av, bv] w fun e w' => e = .returned (.bool true) ∧ ∃ m, w' = w.drewN m := by
  have HA := hide' ha
  have HB := hide' hb
  have HL := hide' hl
  obtain ⟨aa, ca, rfl⟩ := rowAt_slice ha
  obtain ⟨ab, cb, rfl⟩ := rowAt_slice hb
  clear ha hb hl
  go_enter Try.func12, Try.ntmps12
  go_wp2_with fail
  go_loopw [5] (fun iv W => ∃ (i : Nat), iv = .int .i64 i ∧ i ≤ n ∧ ∃ q, W = w.drewN q) (fun iv _ => n - (intOf iv).toNat)
  case atStart => exact ⟨0, rfl, Nat.zero_le _, 0, rfl⟩
  case round =>
    obtain ⟨i, rfl, hi, q, rfl⟩ := hrel
    by_cases hin : i < n
    · obtain ⟨bp, op, cp', exp, hcp⟩ := ints_cell2 HA.out i (by rw [HL.out]; exact hin)
      cases exp
      obtain ⟨bq, oq, cq', exq, hcq⟩ := ints_cell2 HB.out i (by rw [HL.out]; exact hin)
      cases exq
      obtain ⟨x, hx⟩ : ∃ x, x = l.getD i 0 := ⟨_, rfl⟩
      rw [← hx] at hcp hcq
      clear hx
      go_wp2_with fail
      go_quiet (fail)
      go_wp2
      go_roundw
      case rel => exact ⟨i + 1, by go_num, by omega, _, rfl⟩
      case measure => simp [intOf]; omega
    · go_wp2
      go_ret
      exact ⟨rfl, _, rfl⟩
set_option maxRecDepth 100000 in
set_option maxHeartbeats 1000000 in
theorem sameSides_one (l : List Bool) (n : Nat) (av bv : Value) (w : World) (ha : RowAt w av n 1 (l.map Value.bool)) (hb : RowAt w bv n 1 (l.map Value.bool)) (hl : l.length = n) (hn : n ≤ 2000000) :
    Calls Try.prog 19 #[av, bv] w fun e w' => e = .returned (.bool true) ∧ ∃ m, w' = w.drewN m := by
  have HA := hide' ha
  have HB := hide' hb
  have HL := hide' hl
  obtain ⟨aa, ca, rfl⟩ := rowAt_slice ha
  obtain ⟨ab, cb, rfl⟩ := rowAt_slice hb
  clear ha hb hl
  go_enter Try.func19, Try.ntmps19
  go_wp2_with fail
  go_loopw [5] (fun iv W => ∃ (i : Nat), iv = .int .i64 i ∧ i ≤ n ∧ ∃ q, W = w.drewN q) (fun iv _ => n - (intOf iv).toNat)
  case atStart => exact ⟨0, rfl, Nat.zero_le _, 0, rfl⟩
  case round =>
    obtain ⟨i, rfl, hi, q, rfl⟩ := hrel
    by_cases hin : i < n
    · obtain ⟨bp, op, cp', exp, _, hcp⟩ := Row1.cell HA.out i (by rw [HL.out]; exact hin)
      cases exp
      obtain ⟨bq, oq, cq', exq, _, hcq⟩ := Row1.cell HB.out i (by rw [HL.out]; exact hin)
      cases exq
      obtain ⟨x, hx⟩ : ∃ x, x = l.getD i false := ⟨_, rfl⟩
      rw [← hx] at hcp hcq
      clear hx
      go_wp2_with fail
      go_quiet (fail)
      go_wp2
      go_roundw
      case rel => exact ⟨i + 1, by go_num, by omega, _, rfl⟩
      case measure => simp [intOf]; omega
    · go_wp2
      go_ret
      exact ⟨rfl, _, rfl⟩
/-- One schedule, one cost and one fault for both. -/
theorem best_one (us : List UnitM) (need spare : List Int) : ∃ (on : List (List Bool)) (c code : Int), on.length ≤ 8 ∧ (∀ r ∈ on, r.length ≤ 4) ∧ ∀ w e w', BestOut us need spare w e w' → ∃ v, e = .returned (.tuple #[v, .int .i64 c, .int .i64 code]) ∧ SignsAt w' v on ∧ Below w.heap.size w w' := by
  have hnil : ∀ w, SignsAt w (.slice none 0 0) [] := fun w => ⟨[], rfl, ⟨rfl, none, 0, rfl, fun j u h => by simp at h⟩, fun i b h => by cases h⟩
  by_cases h1 : schedC us need spare = 0
  · have hok := schedC_zero h1
    by_cases h2 : ∃ s, BestIs us need spare s
    · obtain ⟨s, hs⟩ := h2
      refine ⟨s.on, s.cost, 0, by rw [hs.way.len]; exact hok.1.2.1, fun r hr => by rw [hs.way.rows r hr]; exact hok.1.1, fun w e w' h => ?_⟩
      obtain ⟨h, hb⟩ := h
      rcases h with ⟨h, _⟩ | ⟨_, h, _⟩ | ⟨_, s', v, hs', he, hv⟩
      · exact absurd h1 h
      · exact absurd hs (h s)
      · obtain ⟨e1, e2⟩ := hs'.one hs
        exact ⟨v, by rw [he, e2], by rw [← e1]; exact hv, hb⟩
    · refine ⟨[], 0, 9, Nat.zero_le _, fun r hr => absurd hr List.not_mem_nil, fun w e w' h => ?_⟩
      obtain ⟨h, hb⟩ := h
      rcases h with ⟨h, _⟩ | ⟨_, _, he⟩ | ⟨_, s', v, hs', he, hv⟩
      · exact absurd h1 h
      · exact ⟨_, he, hnil _, hb⟩
      · exact absurd ⟨s', hs'⟩ h2
  · refine ⟨[], 0, schedC us need spare, Nat.zero_le _, fun r hr => absurd hr List.not_mem_nil, fun w e w' h => ?_⟩
    obtain ⟨h, hb⟩ := h
    rcases h with ⟨_, he⟩ | ⟨h, _⟩ | ⟨h, _⟩
    · exact ⟨_, he, hnil _, hb⟩
    · exact absurd h h1
    · exact absurd h h1
def MeritGood : Prop := ∀ (us : List UnitM) (on : List Bool) (need : Int) (lv ov : Value) (w : World), UnitsAt w lv us → BoolsAt w ov on → us.length ≤ 2000000 → on.length ≤ 2000000 → Calls Try.prog 8 #[lv, ov, .int .i64 need] w (MeritAs us on need w)
def ValueGood : Prop := ∀ (us : List UnitM) (need spare : List Int) (on : List (List Bool)) (lv nv sv ov : Value) (w : World), UnitsAt w lv us → RowAt w nv need.length 1 (ints need) → RowAt w sv spare.length 1 (ints spare) → SignsAt w ov on → us.length ≤ 2000000 → need.length ≤ 2000000 → spare.length ≤ 2000000 → on.length ≤ 2000000 → (∀ r ∈ on, r.length ≤ 2000000) → Calls Try.prog 13 #[lv, nv, sv, ov] w (ValueOut us need spare on w)
def BestGood : Prop := ∀ (us : List UnitM) (need spare : List Int) (lv nv sv : Value) (w : World), UnitsAt w lv us → RowAt w nv need.length 1 (ints need) → RowAt w sv spare.length 1 (ints spare) → us.length ≤ 2000000 → need.length ≤ 2000000 → spare.length ≤ 2000000 → Calls Try.prog 17 #[lv, nv, sv] w (BestOut us need spare w)
theorem SignsAt.below {w w' : World} {B : Nat} {v : Value} {l : List (List Bool)} (h : SignsAt w v l) (hB : Below B w w') (hb : w.heap.size ≤ B) : SignsAt w' v l := by
  obtain ⟨vs, h1, h2, h3⟩ := h
  exact ⟨vs, h1, h2.below hB hb, fun i b hi => by obtain ⟨x, hx, hr⟩ := h3 i b hi; exact ⟨x, hx, hr.below hB hb⟩⟩
set_option maxRecDepth 100000 in
set_option maxHeartbeats 2000000 in
theorem CommitMerits_any (HP : MeritGood) (us : List UnitM) (on : List Bool) (need : Int) (lv ov : Value) (w : World) (hx : UnitsAt w lv us) (ho : BoolsAt w ov on) (hul : us.length ≤ 2000000) (hol : on.length ≤ 2000000) :
    Calls Try.prog 3 #[lv, ov, .int .i64 need] w fun e w' => e = .returned (.bool true) ∧ Below w.heap.size w w' := by
  have HPR := hide' HP
  have HX := hide' hx
  have HO := hide' ho
  obtain ⟨r, c, hrl, hone⟩ := merit_one us on need
  have HONE := hide' hone
  obtain ⟨ag, cg, rfl⟩ := rowAt_slice hx
  obtain ⟨ao, co, rfl⟩ := rowAt_slice ho
  clear HP hx ho hone
  go_enter Try.func3, Try.ntmps3
  go_wp2_with fail
  refine (units_any us (.slice ag us.length cg) w HX.out hul).mono ?_
  rintro e w1 ⟨v1, rfl, hr1, hb1⟩
  have HR1 := hide' hr1
  have HB1 := hide' hb1
  obtain ⟨a1, c1, rfl⟩ := rowAt_slice hr1
  clear hr1 hb1
  go_wp2_with fail
  refine (sides_any on on.length (.slice ao on.length co) w1 (HO.out.below HB1.out (Nat.le_refl _)) hol).mono ?_
  rintro e w2 ⟨v2, rfl, hr2, hb2⟩
  have HR2 := hide' (rowAt_of_own hr2)
  have HB2 := hide' (HB1.out.trans (hb2.mono HB1.out.size))
  have HR12 := hide' (HR1.out.below hb2 (Nat.le_refl _))
  obtain ⟨a2, c2, rfl⟩ := own_slice hr2
  clear hr2 hb2 HR1 HB1
  go_wp2_with fail
  refine (HPR.out us on need _ _ w2 HR12.out HR2.out hul hol).mono ?_
  intro e w3 h3
  obtain ⟨v3, rfl, hr3, hb3⟩ := HONE.out w2 e w3 h3
  have HR3 := hide' hr3
  have HB3 := hide' (HB2.out.trans (hb3.mono HB2.out.size))
  obtain ⟨a3, c3, rfl⟩ := rowAt_slice hr3
  clear h3 hr3 hb3 HR2 HR12 HB2
  go_wp2_with fail
  refine (Merited_any us on need (.slice ag us.length cg) (.slice ao on.length co) w3 (HX.out.below HB3.out (Nat.le_refl _)) (HO.out.below HB3.out (Nat.le_refl _))).mono ?_
  intro e w4 h4
  obtain ⟨v4, rfl, hr4, hb4⟩ := HONE.out w3 e w4 h4
  have HR4 := hide' hr4
  have HB4 := hide' (HB3.out.trans (hb4.mono HB3.out.size))
  have HR34 := hide' (HR3.out.below hb4 (Nat.le_refl _))
  obtain ⟨a4, c4, rfl⟩ := rowAt_slice hr4
  clear h4 hr4 hb4 HR3 HB3
  go_wp2_with fail
  refine (sameInts_one r r.length _ _ w4 HR34.out HR4.out rfl (by omega)).mono ?_
  rintro e w5 ⟨rfl, m, rfl⟩
  go_wp2
  go_ret
  exact ⟨rfl, below_drewN HB4.out m⟩
set_option maxRecDepth 100000 in
set_option maxHeartbeats 2000000 in
theorem CommitValues_any (HP : ValueGood) (us : List UnitM) (need spare : List Int) (on : List (List Bool)) (lv nv sv ov : Value) (w : World) (hx : UnitsAt w lv us) (hn : RowAt w nv need.length 1 (ints need)) (hs : RowAt w sv spare.length 1 (ints spare)) (ho : SignsAt w ov on)
    (hul : us.length ≤ 2000000) (hnl : need.length ≤ 2000000) (hsl : spare.length ≤ 2000000) (hol : on.length ≤ 1000000) (hrl : ∀ r ∈ on, r.length ≤ 2000000) :
    Calls Try.prog 4 #[lv, nv, sv, ov] w fun e w' => e = .returned (.bool true) ∧ Below w.heap.size w w' := by
  have HPR := hide' HP
  have HX := hide' hx
  have HN := hide' hn
  have HS := hide' hs
  have HO := hide' ho
  have HRL := hide' hrl
  obtain ⟨x0, y0, hxy⟩ : ∃ x y, valued us need spare on = (x, y) := ⟨_, _, rfl⟩
  have HXY := hide' hxy
  obtain ⟨ag, cg, rfl⟩ := rowAt_slice hx
  obtain ⟨an, cn, rfl⟩ := rowAt_slice hn
  obtain ⟨as', cs, rfl⟩ := rowAt_slice hs
  obtain ⟨ao, co, rfl⟩ := ho.slice
  clear HP hx hn hs ho hrl hxy
  go_enter Try.func4, Try.ntmps4
  go_wp2_with fail
  refine (units_any us (.slice ag us.length cg) w HX.out hul).mono ?_
  rintro e w1 ⟨v1, rfl, hr1, hb1⟩
  have HR1 := hide' hr1
  have HB1 := hide' hb1
  obtain ⟨a1, c1, rfl⟩ := rowAt_slice hr1
  clear hr1 hb1
  go_wp2_with fail
  refine (ints_any need (.slice an need.length cn) w1 (HN.out.below HB1.out (Nat.le_refl _)) hnl).mono ?_
  rintro e w2 ⟨v2, rfl, hr2, hb2⟩
  have HR2 := hide' hr2
  have HR1 := hide' (HR1.out.below hb2 (Nat.le_refl _))
  have HB2 := hide' (HB1.out.trans (hb2.mono HB1.out.size))
  obtain ⟨a2, c2, rfl⟩ := rowAt_slice hr2
  clear hr2 hb2 HB1
  go_wp2_with fail
  refine (ints_any spare (.slice as' spare.length cs) w2 (HS.out.below HB2.out (Nat.le_refl _)) hsl).mono ?_
  rintro e w3 ⟨v3, rfl, hr3, hb3⟩
  have HR3 := hide' hr3
  have HR1 := hide' (HR1.out.below hb3 (Nat.le_refl _))
  have HR2 := hide' (HR2.out.below hb3 (Nat.le_refl _))
  have HB3 := hide' (HB2.out.trans (hb3.mono HB2.out.size))
  obtain ⟨a3, c3, rfl⟩ := rowAt_slice hr3
  clear hr3 hb3 HB2
  go_wp2_with fail
  refine (signs_any on (.slice ao on.length co) w3 (HO.out.below HB3.out (Nat.le_refl _)) (by omega) HRL.out).mono ?_
  rintro e w4 ⟨v4, rfl, hr4, hb4⟩
  have HR4 := hide' hr4.at'
  have HR1 := hide' (HR1.out.below hb4 (Nat.le_refl _))
  have HR2 := hide' (HR2.out.below hb4 (Nat.le_refl _))
  have HR3 := hide' (HR3.out.below hb4 (Nat.le_refl _))
  have HB4 := hide' (HB3.out.trans (hb4.mono HB3.out.size))
  obtain ⟨a4, c4, rfl⟩ := hr4.at'.slice
  clear hr4 hb4 HB3
  go_wp2_with fail
  refine (HPR.out us need spare on _ _ _ _ w4 HR1.out HR2.out HR3.out HR4.out hul hnl hsl (by omega) HRL.out).mono ?_
  rintro e w5 ⟨rfl, hb5⟩
  rw [HXY.out]
  have HB5 := hide' (HB4.out.trans (hb5.mono HB4.out.size))
  clear hb5 HB4 HR1 HR2 HR3 HR4
  go_wp2_with fail
  refine (Valued_any us need spare on (.slice ag us.length cg) (.slice an need.length cn) (.slice as' spare.length cs) (.slice ao on.length co) w5 (HX.out.below HB5.out (Nat.le_refl _)) (HN.out.below HB5.out (Nat.le_refl _)) (HS.out.below HB5.out (Nat.le_refl _)) (HO.out.below HB5.out (Nat.le_refl _)) hol).mono ?_
  rintro e w6 ⟨rfl, hb6⟩
  rw [HXY.out]
  have HB6 := hide' (HB5.out.trans (hb6.mono HB5.out.size))
  clear hb6 HB5
  go_wp2
  go_ret
  exact ⟨rfl, HB6.out⟩
set_option maxRecDepth 100000 in
set_option maxHeartbeats 2000000 in
theorem CommitBest_any (HP : BestGood) (us : List UnitM) (need spare : List Int) (lv nv sv : Value) (w : World) (hx : UnitsAt w lv us) (hn : RowAt w nv need.length 1 (ints need)) (hs : RowAt w sv spare.length 1 (ints spare))
    (hul : us.length ≤ 2000000) (hnl : need.length ≤ 2000000) (hsl : spare.length ≤ 2000000) :
    Calls Try.prog 5 #[lv, nv, sv] w fun e w' => e = .returned (.bool true) ∧ Below w.heap.size w w' := by
  have HPR := hide' HP
  have HX := hide' hx
  have HN := hide' hn
  have HS := hide' hs
  obtain ⟨on, x0, y0, hon8, hon4, hone⟩ := best_one us need spare
  have HONE := hide' hone
  have HON4 := hide' hon4
  obtain ⟨ag, cg, rfl⟩ := rowAt_slice hx
  obtain ⟨an, cn, rfl⟩ := rowAt_slice hn
  obtain ⟨as', cs, rfl⟩ := rowAt_slice hs
  clear HP hx hn hs hone hon4
  go_enter Try.func5, Try.ntmps5
  go_wp2_with fail
  refine (units_any us (.slice ag us.length cg) w HX.out hul).mono ?_
  rintro e w1 ⟨v1, rfl, hr1, hb1⟩
  have HR1 := hide' hr1
  have HB1 := hide' hb1
  obtain ⟨a1, c1, rfl⟩ := rowAt_slice hr1
  clear hr1 hb1
  go_wp2_with fail
  refine (ints_any need (.slice an need.length cn) w1 (HN.out.below HB1.out (Nat.le_refl _)) hnl).mono ?_
  rintro e w2 ⟨v2, rfl, hr2, hb2⟩
  have HR2 := hide' hr2
  have HR1 := hide' (HR1.out.below hb2 (Nat.le_refl _))
  have HB2 := hide' (HB1.out.trans (hb2.mono HB1.out.size))
  obtain ⟨a2, c2, rfl⟩ := rowAt_slice hr2
  clear hr2 hb2 HB1
  go_wp2_with fail
  refine (ints_any spare (.slice as' spare.length cs) w2 (HS.out.below HB2.out (Nat.le_refl _)) hsl).mono ?_
  rintro e w3 ⟨v3, rfl, hr3, hb3⟩
  have HR3 := hide' hr3
  have HR1 := hide' (HR1.out.below hb3 (Nat.le_refl _))
  have HR2 := hide' (HR2.out.below hb3 (Nat.le_refl _))
  have HB3 := hide' (HB2.out.trans (hb3.mono HB2.out.size))
  obtain ⟨a3, c3, rfl⟩ := rowAt_slice hr3
  clear hr3 hb3 HB2
  go_wp2_with fail
  refine (HPR.out us need spare _ _ _ w3 HR1.out HR2.out HR3.out hul hnl hsl).mono ?_
  intro e w5 h5
  obtain ⟨v5, rfl, hr5, hb5⟩ := HONE.out w3 e w5 h5
  have HR5 := hide' hr5
  have HB5 := hide' (HB3.out.trans (hb5.mono HB3.out.size))
  obtain ⟨a5, c5, rfl⟩ := hr5.slice
  clear h5 hr5 hb5 HB3 HR1 HR2 HR3
  go_wp2_with fail
  refine (Cheapest_any us need spare (.slice ag us.length cg) (.slice an need.length cn) (.slice as' spare.length cs) w5 (HX.out.below HB5.out (Nat.le_refl _)) (HN.out.below HB5.out (Nat.le_refl _)) (HS.out.below HB5.out (Nat.le_refl _))).mono ?_
  intro e w6 h6
  obtain ⟨v6, rfl, hr6, hb6⟩ := HONE.out w5 e w6 h6
  have HR6 := hide' hr6
  have HR56 := hide' (HR5.out.below hb6 (Nat.le_refl _))
  have HB6 := hide' (HB5.out.trans (hb6.mono HB5.out.size))
  obtain ⟨a6, c6, rfl⟩ := hr6.slice
  clear h6 hr6 hb6 HB5 HR5
  go_wp2_with fail
  go_loopw [13] (fun iv W => ∃ (i : Nat), iv = .int .i64 i ∧ i ≤ on.length ∧ ∃ q, W = w6.drewN q) (fun iv _ => on.length - (intOf iv).toNat)
  case atStart => exact ⟨0, rfl, Nat.zero_le _, 0, rfl⟩
  case round =>
    obtain ⟨i, rfl, hi, q, rfl⟩ := hrel
    by_cases hlt : i < on.length
    · obtain ⟨bp, op, cp', ap, dp, exp, hcp, hrp⟩ := HR56.out.cell i hlt
      cases exp
      obtain ⟨bq, oq, cq', aq, dq, exq, hcq, hrq⟩ := HR6.out.cell i hlt
      cases exq
      obtain ⟨r, hr⟩ : ∃ r, r = on[i] := ⟨_, rfl⟩
      rw [← hr] at hcp hcq hrp hrq
      have hrl : r.length ≤ 4 := by rw [hr]; exact HON4.out _ (List.getElem_mem hlt)
      have HSA : Hid (∀ W, Below w6.heap.size w6 W → Calls Try.prog 19 #[.slice ap r.length dp, .slice aq r.length dq] W fun e w' => e = .returned (.bool true) ∧ ∃ m, w' = W.drewN m) := fun W hW => sameSides_one r r.length _ _ _ (hrp.below hW (Nat.le_refl _)) (hrq.below hW (Nat.le_refl _)) rfl (by omega)
      clear hr hrp hrq
      go_wp2_with fail
      go_quiet ((go_at_call 19; exact quiet_of2 (HSA.out _ (below_drewN (Below.refl _ w6) _))))
      go_wp2
      go_roundw
      case rel => exact ⟨i + 1, by go_num, by omega, _, rfl⟩
      case measure => simp [intOf]; omega
    · have HBF := hide' (below_drewN HB6.out q)
      go_wp2
      go_ret
      exact ⟨rfl, HBF.out⟩
end Go.Proofs.Ytlbeecjkfakkpag
