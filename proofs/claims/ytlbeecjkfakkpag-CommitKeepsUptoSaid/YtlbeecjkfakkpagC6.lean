/- What an hour costs, in the document's answer. -/
import Derived.Test.YtlbeecjkfakkpagC5
namespace Go.Proofs.Ytlbeecjkfakkpag
open Go.RowKit Go.Shelf

def HourOut (us : List UnitM) (on : List Bool) (need spare : Int) (w : World) (e : Ending) (w' : World) : Prop :=
  ((∃ c, Hour us on need spare c ∧ e = .returned (.tuple #[.int .i64 c, .bool true])) ∨ ((∀ c, ¬ Hour us on need spare c) ∧ ∃ x, e = .returned (.tuple #[.int .i64 x, .bool false]))) ∧ Below w.heap.size w w'
set_option maxRecDepth 100000 in
set_option maxHeartbeats 4000000 in
theorem hourOf_any (us : List UnitM) (on : List Bool) (need spare : Int) (lv ov : Value) (w : World) (hx : UnitsAt w lv us) (ho : RowAt w ov us.length 1 (on.map Value.bool)) (hl : on.length = us.length) (h4 : us.length ≤ 4) (hm : MayUs us) (h0 : 0 ≤ need) (h1 : need ≤ 400000) (h2 : 0 ≤ spare) (h3 : spare ≤ 400000) :
    Calls Try.prog 39 #[lv, ov, .int .i64 need, .int .i64 spare] w (HourOut us on need spare w) := by
  have HC := hide' (meritOf_any us on need lv ov w hx ho hl h4 hm h0 h1)
  have HG := hide' hx
  have HO := hide' ho
  have HL := hide' hl
  have HM := hide' hm
  obtain ⟨ag, cg, rfl⟩ := rowAt_slice hx
  obtain ⟨ao, co, rfl⟩ := rowAt_slice ho
  clear hx ho hl hm
  go_enter Try.func39, Try.ntmps39
  go_wp2_with fail
  refine HC.out.mono ?_
  rintro e w1 (⟨out, v, hmer, rfl, hrow, hb1⟩ | ⟨hno, rfl, hb1⟩)
  · have HME := hide' hmer
    have HRO := hide' hrow
    have HB1 := hide' hb1
    rw [hmer.len] at hrow
    obtain ⟨av, cv, rfl⟩ := rowAt_slice hrow
    have HRO2 := hide' hrow
    clear hmer hrow hb1 HC HRO
    go_wp2_with fail
    go_loopw [12, 13, 14] (fun mv cv iv W => ∃ (k : Nat), mv = .int .i64 (mostK us on k) ∧ cv = .int .i64 (costK us on out k) ∧ iv = .int .i64 k ∧ k ≤ us.length ∧ ∃ q, W = w1.drewN q) (fun _ _ iv _ => us.length - (intOf iv).toNat)
    case atStart => exact ⟨0, rfl, rfl, rfl, Nat.zero_le _, 0, rfl⟩
    case round =>
      obtain ⟨k, rfl, rfl, rfl, hk, q, rfl⟩ := hrel
      by_cases hlt : k < us.length
      · obtain ⟨bt, ot, ct', ex, hbt, hct⟩ := row_elem (f := UnitM.cells) (fun _ => rfl) HG.out k hlt (by decide)
        cases ex
        obtain ⟨bp, op, cp', exp, hbp, hcp⟩ := Row1.cell HO.out k (by rw [HL.out]; exact hlt)
        cases exp
        obtain ⟨br, or, cr', exr, hcr⟩ := ints_cell2 HRO2.out k (by rw [HME.out.len]; exact hlt)
        cases exr
        obtain ⟨u, hu⟩ : ∃ u, u = us[k] := ⟨_, rfl⟩
        rw [← hu] at hct
        have HK : Hid (us[k]? = some u) := by show _ = _; rw [hu]; exact List.getElem?_eq_getElem hlt
        have up : ∀ (c j : Nat) (u : Value), w.cell? ⟨c, j, none⟩ = some u → w1.cell? ⟨c, j, none⟩ = some u := fun c j u h => (HB1.out.cell (World.block_lt_of_cell? w _ h)).trans h
        have d1 := up _ _ _ (hct 1 _ rfl)
        have d2 := up _ _ _ (hct 2 _ rfl)
        have d5 := up _ _ _ hcp
        have hbo := merit_bound HM.out HME.out k
        have hmo := mostK_bound on HM.out k hk
        have hco := costK_bound HM.out HME.out k hk
        have hmu := HM.out k u HK.out
        have hma : 0 ≤ u.most ∧ u.most ≤ 100000 := by have h1 := hmu.a; have h2 := hmu.b; have h3 := hmu.c; omega
        have hpr := mul_bound hbo.1 hbo.2 hmu.d.1 hmu.d.2
        obtain ⟨b, hb⟩ : ∃ b, b = on.getD k false := ⟨_, rfl⟩
        rw [← hb] at d5
        have HMK : Hid (mostK us on (k + 1) = mostK us on k + (if b then u.most else 0)) := by show _ = _; rw [mostK, HK.out, ← hb]; rfl
        have HCK : Hid (costK us on out (k + 1) = costK us on out k + (if b then out.getD k 0 * u.cost else 0)) := by show _ = _; rw [costK, HK.out, ← hb]; rfl
        obtain ⟨x1, hx1⟩ : ∃ x, x = u.most := ⟨_, rfl⟩
        rw [← hx1] at d1 HMK hma
        obtain ⟨x2, hx2⟩ : ∃ x, x = u.cost := ⟨_, rfl⟩
        rw [← hx2] at d2 HCK hpr
        obtain ⟨y, hy⟩ : ∃ y, y = out.getD k 0 := ⟨_, rfl⟩
        rw [← hy] at hcr HCK hbo hpr
        obtain ⟨mk, hmk⟩ : ∃ y, y = mostK us on k := ⟨_, rfl⟩
        rw [← hmk] at hmo HMK ⊢
        obtain ⟨ck, hck⟩ : ∃ y, y = costK us on out k := ⟨_, rfl⟩
        rw [← hck] at hco HCK ⊢
        clear hct hu up hbt hbp hcp hb hx1 hx2 hy hmu hmk hck HK
        cases b with
        | false =>
          go_wp2
          go_roundw
          case rel => exact ⟨k + 1, by rw [HMK.out]; simp, by rw [HCK.out]; simp, by go_num, by omega, _, rfl⟩
          case measure => simp [intOf]; omega
        | true =>
          go_wp2_with fail
          go_quiet (fail)
          go_wp2
          go_roundw
          case rel => exact ⟨k + 1, by rw [HMK.out]; simp, by rw [HCK.out]; simp, by go_num, by omega, _, rfl⟩
          case measure => simp [intOf]; omega
      · have hke : k = us.length := by omega
        subst hke
        have hmo := mostK_bound on HM.out us.length hk
        have HB2 : Hid (Below w.heap.size w (w1.drewN q)) := below_drewN HB1.out q
        by_cases hs : need + spare ≤ mostK us on us.length
        · have HOK : Hid (Hour us on need spare (costK us on out us.length)) := ⟨out, HME.out, hs, rfl⟩
          go_wp2
          refine bodyPost_ret (results_tmp2 rfl _ _ _) rfl ?_
          exact ⟨.inl ⟨_, HOK.out, rfl⟩, HB2.out⟩
        · have HNO : Hid (∀ c, ¬ Hour us on need spare c) := fun c ⟨_, _, h, _⟩ => hs h
          go_wp2
          refine bodyPost_ret (results_tmp2 rfl _ _ _) rfl ?_
          exact ⟨.inr ⟨HNO.out, _, rfl⟩, HB2.out⟩
  · have HNO : Hid (∀ c, ¬ Hour us on need spare c) := fun c ⟨out, h, _, _⟩ => hno out h
    have HB1 := hide' hb1
    clear hno hb1 HC
    go_wp2
    refine bodyPost_ret (results_tmp2 rfl _ _ _) rfl ?_
    exact ⟨.inr ⟨HNO.out, _, rfl⟩, HB1.out⟩
end Go.Proofs.Ytlbeecjkfakkpag
