/- Whether a list of units may be, in the document's answer. -/
import Derived.Test.YtlbeecjkfakkpagC1
namespace Go.Proofs.Ytlbeecjkfakkpag
open Go.RowKit Go.Shelf

def UnitsAt (w : World) (v : Value) (us : List UnitM) : Prop := RowAt w v us.length 7 (us.flatMap UnitM.cells)
set_option maxRecDepth 100000 in
set_option maxHeartbeats 2000000 in
theorem unitsMay_any (us : List UnitM) (v : Value) (w : World) (hx : UnitsAt w v us) (hn : us.length ≤ 1000000) : Calls Try.prog 28 #[v] w (MayOut (MayUs us) w) := by
  have HG := hide' hx
  obtain ⟨ag, cg, rfl⟩ := rowAt_slice hx
  clear hx
  go_enter Try.func28, Try.ntmps28
  go_wp2_with fail
  go_loopw [3] (fun i wr => ∃ (k : Nat), i = .int .i64 k ∧ k ≤ us.length ∧ Hid (∀ (j : Nat) (u : UnitM), j < k → us[j]? = some u → MayU u) ∧ Hid (Below w.heap.size w wr)) (fun i _ => us.length - (intOf i).toNat)
  case atStart => exact ⟨0, rfl, Nat.zero_le _, fun j _ h => absurd h (Nat.not_lt_zero j), Below.refl _ w⟩
  case round =>
    obtain ⟨k, rfl, hk, HOK, HBE⟩ := hrel
    by_cases hlt : k < us.length
    · obtain ⟨bt, ot, ct', ex, hbt, hct⟩ := row_elem (f := UnitM.cells) (fun _ => rfl) HG.out k hlt (by decide)
      cases ex
      obtain ⟨u, hu⟩ : ∃ u, u = us[k] := ⟨_, rfl⟩
      rw [← hu] at hct
      have HK : Hid (us[k]? = some u) := by show _ = _; rw [hu]; exact List.getElem?_eq_getElem hlt
      have up : ∀ (c j : Nat) (u : Value), w.cell? ⟨c, j, none⟩ = some u → wr.cell? ⟨c, j, none⟩ = some u := fun c j u h => (HBE.out.cell (World.block_lt_of_cell? w _ h)).trans h
      have d0 := up _ _ _ (hct 0 _ rfl)
      have d1 := up _ _ _ (hct 1 _ rfl)
      have d2 := up _ _ _ (hct 2 _ rfl)
      have d3 := up _ _ _ (hct 3 _ rfl)
      have d4 := up _ _ _ (hct 4 _ rfl)
      have d5 := up _ _ _ (hct 5 _ rfl)
      have d6 := up _ _ _ (hct 6 _ rfl)
      rw [Nat.add_zero] at d0
      have HC := hide' (UnitMay_any u)
      obtain ⟨x0, hx0⟩ : ∃ x, x = u.least := ⟨_, rfl⟩
      rw [← hx0] at d0 HC
      obtain ⟨x1, hx1⟩ : ∃ x, x = u.most := ⟨_, rfl⟩
      rw [← hx1] at d1 HC
      obtain ⟨x2, hx2⟩ : ∃ x, x = u.cost := ⟨_, rfl⟩
      rw [← hx2] at d2 HC
      obtain ⟨x3, hx3⟩ : ∃ x, x = u.start := ⟨_, rfl⟩
      rw [← hx3] at d3 HC
      obtain ⟨x4, hx4⟩ : ∃ x, x = u.up := ⟨_, rfl⟩
      rw [← hx4] at d4 HC
      obtain ⟨x5, hx5⟩ : ∃ x, x = u.down := ⟨_, rfl⟩
      rw [← hx5] at d5 HC
      obtain ⟨x6, hx6⟩ : ∃ x, x = u.was := ⟨_, rfl⟩
      rw [← hx6] at d6 HC
      have HNEXT : Hid (MayU u → ∀ (j : Nat) (u' : UnitM), j < k + 1 → us[j]? = some u' → MayU u') := fun h j u' hj hu' => by
        by_cases e : j = k
        · rw [e, HK.out] at hu'
          cases hu'
          exact h
        · exact HOK.out j u' (by omega) hu'
      have HBAD : Hid (¬ MayU u → ¬ MayUs us) := fun h ha => h (ha k u HK.out)
      clear hct hu up hx0 hx1 hx2 hx3 hx4 hx5 hx6 hbt HOK HK
      go_wp2_with fail
      refine (HC.out _).mono ?_
      rintro e w1 ⟨⟨r, rfl, hr⟩, hb1⟩
      have HR := hide' hr
      have HB1 : Hid (Below w.heap.size w w1) := HBE.out.trans (hb1.mono HBE.out.size)
      clear hr hb1 d0 d1 d2 d3 d4 d5 d6 HC HBE
      cases r with
      | false =>
        have HNO : Hid (¬ MayUs us) := HBAD.out (fun h => by have := HR.out.2 h; cases this)
        go_wp2
        go_ret
        exact ⟨⟨false, rfl, ⟨fun h => (by cases h), fun h => absurd h HNO.out⟩⟩, HB1.out⟩
      | true =>
        have HY := HR.out.1 rfl
        have HY' := hide' HY
        clear HY
        go_wp2
        go_roundw
        case rel => exact ⟨k + 1, by go_num, by omega, HNEXT.out HY'.out, HB1.out⟩
        case measure => simp [intOf]; omega
    · have HALL : Hid (MayUs us) := fun j u hj => HOK.out j u (by have := (List.getElem?_eq_some_iff.1 hj).1; omega) hj
      go_wp2
      go_ret
      exact ⟨⟨true, rfl, ⟨fun _ => HALL.out, fun _ => rfl⟩⟩, HBE.out⟩
end Go.Proofs.Ytlbeecjkfakkpag
