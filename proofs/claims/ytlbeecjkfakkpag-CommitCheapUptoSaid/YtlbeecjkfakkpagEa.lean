/- What an hour costs, in the program. -/
import Derived.Test.YtlbeecjkfakkpagE9
namespace Go.Proofs.Ytlbeecjkfakkpag
open Go.RowKit Go.Shelf

theorem up_cell {w wr : World} (hb : Below w.heap.size w wr) {a : Addr} {u : Value} (hc : w.cell? a = some u) : wr.cell? a = some u := (hb.cell (World.block_lt_of_cell? w _ hc)).trans hc
set_option maxRecDepth 100000 in
set_option maxHeartbeats 4000000 in
theorem most_any (us : List UnitM) (on : List Bool) (lv rv ov : Value) (w : World) (hx : UnitsAt w lv us) (hr : ∃ a n c, rv = .slice a n c) (ho : RowAt w ov us.length 1 (on.map Value.bool)) (hl : on.length = us.length) (h4 : us.length ≤ 4) (hm : MayUs us) :
    Calls Try.prog 59 #[.agg #[lv, rv], ov] w fun e w' => e = .returned (.int .i64 (mostK us on us.length)) ∧ Below w.heap.size w w' := by
  have HG := hide' hx
  have HO := hide' ho
  have HL := hide' hl
  have HM := hide' hm
  obtain ⟨ag, cg, rfl⟩ := rowAt_slice hx
  obtain ⟨ao, co, rfl⟩ := rowAt_slice ho
  obtain ⟨ar, nr, cr, rfl⟩ := hr
  clear hx ho hl hm
  have HA : Hid (∀ o, Below w.heap.size w (w.alloc o)) := fun o => (Below.refl _ w).alloc (Nat.le_refl _) o
  go_enter Try.func59, Try.ntmps59
  go_wp2_with fail
  go_loopw [5, 11] (fun s i wr => ∃ (k : Nat), i = .int .i64 k ∧ k ≤ us.length ∧ s = .int .i64 (mostK us on k) ∧ Hid (Below w.heap.size w wr)) (fun _ i _ => us.length - (intOf i).toNat)
  case atStart => exact ⟨0, rfl, Nat.zero_le _, rfl, HA.out _⟩
  case round =>
    obtain ⟨k, rfl, hk, rfl, HBE⟩ := hrel
    by_cases hlt : k < us.length
    · obtain ⟨bt, ot, ct', ex, hbt, hct⟩ := row_elem (f := UnitM.cells) (fun _ => rfl) HG.out k hlt (by decide)
      cases ex
      obtain ⟨u, hu⟩ : ∃ u, u = us[k] := ⟨_, rfl⟩
      rw [← hu] at hct
      have HK : Hid (us[k]? = some u) := by show _ = _; rw [hu]; exact List.getElem?_eq_getElem hlt
      have d0 := up_cell HBE.out (hct 0 _ rfl)
      have d1 := up_cell HBE.out (hct 1 _ rfl)
      have d2 := up_cell HBE.out (hct 2 _ rfl)
      have d3 := up_cell HBE.out (hct 3 _ rfl)
      have d4 := up_cell HBE.out (hct 4 _ rfl)
      have d5 := up_cell HBE.out (hct 5 _ rfl)
      have d6 := up_cell HBE.out (hct 6 _ rfl)
      rw [Nat.add_zero] at d0
      obtain ⟨x0, hx0⟩ : ∃ x, x = u.least := ⟨_, rfl⟩
      rw [← hx0] at d0
      obtain ⟨x1, hx1⟩ : ∃ x, x = u.most := ⟨_, rfl⟩
      rw [← hx1] at d1
      obtain ⟨x2, hx2⟩ : ∃ x, x = u.cost := ⟨_, rfl⟩
      rw [← hx2] at d2
      obtain ⟨x3, hx3⟩ : ∃ x, x = u.start := ⟨_, rfl⟩
      rw [← hx3] at d3
      obtain ⟨x4, hx4⟩ : ∃ x, x = u.up := ⟨_, rfl⟩
      rw [← hx4] at d4
      obtain ⟨x5, hx5⟩ : ∃ x, x = u.down := ⟨_, rfl⟩
      rw [← hx5] at d5
      obtain ⟨x6, hx6⟩ : ∃ x, x = u.was := ⟨_, rfl⟩
      rw [← hx6] at d6
      obtain ⟨bp, op, cp', exp, hbp, hcp⟩ := Row1.cell HO.out k (by rw [HL.out]; exact hlt)
      cases exp
      obtain ⟨b, hb⟩ : ∃ b, b = on.getD k false := ⟨_, rfl⟩
      rw [← hb] at hcp
      have HAL : Hid (∀ o, Below w.heap.size w (wr.alloc o)) := fun o => HBE.out.alloc HBE.out.size o
      have d7 : ∀ o, (wr.alloc o).cell? ⟨bp, op + k, none⟩ = some (.bool b) := fun o => up_cell (HAL.out o) hcp
      have hs := mostK_bound on HM.out k hk
      have hmu := HM.out k u HK.out
      have hxa : 0 ≤ x1 ∧ x1 ≤ 100000 := by have h1 := hmu.a; have h2 := hmu.b; have h3 := hmu.c; omega
      have HY : Hid (b = true → mostK us on (k + 1) = mostK us on k + x1) := fun h => by rw [mostK, ← hb, h, HK.out, hx1]; rfl
      have HN : Hid (b = false → mostK us on (k + 1) = mostK us on k) := fun h => by rw [mostK, ← hb, h]; exact Int.add_zero _
      obtain ⟨s, hse⟩ : ∃ s, s = mostK us on k := ⟨_, rfl⟩
      rw [← hse] at hs HY HN ⊢
      clear hct hu hbt hbp hcp hb hx0 hx1 hx2 hx3 hx4 hx5 hx6 hmu HK hse HBE
      cases b with
      | false =>
        have HE := hide' (HN.out rfl)
        clear HY HN
        go_wp2
        go_roundw
        case rel => exact ⟨k + 1, by go_num, by omega, by rw [HE.out], HAL.out _⟩
        case measure => simp [intOf]; omega
      | true =>
        have HE := hide' (HY.out rfl)
        clear HY HN
        go_wp2
        go_roundw
        case rel => exact ⟨k + 1, by go_num, by omega, by rw [HE.out], HAL.out _⟩
        case measure => simp [intOf]; omega
    · have hke : k = us.length := by omega
      subst hke
      go_wp2
      go_ret
      exact ⟨rfl, HBE.out⟩
/-- What all generate, each at its cost. -/
def costA (us : List UnitM) (out : List Int) : Nat → Int
  | 0 => 0
  | k + 1 => costA us out k + out.getD k 0 * ((us[k]?.map UnitM.cost).getD 0)
theorem costA_is {us : List UnitM} {on : List Bool} {need : Int} {out : List Int} (h : Merit us on need out) : ∀ k, costA us out k = costK us on out k
  | 0 => rfl
  | k + 1 => by
    rw [costA, costK, costA_is h k]
    split
    · rfl
    · rename_i hn
      rw [h.off k (by simpa using hn), Int.zero_mul]
/-- What run answers. -/
def RunO (us : List UnitM) (on : List Bool) (need spare : Int) (w : World) (e : Ending) (w' : World) : Prop :=
  e = .returned (.tuple #[.int .i64 ((hourC us on need spare).getD 0), .int .i64 (if (hourC us on need spare).isSome then 0 else 8)]) ∧ Below w.heap.size w w'
theorem RunO.none {us : List UnitM} {on : List Bool} {need spare : Int} {w w' : World} (h : hourC us on need spare = none) (hb : Below w.heap.size w w') : RunO us on need spare w (.returned (.tuple #[.int .i64 0, .int .i64 8])) w' := by
  rw [RunO, h]; exact ⟨rfl, hb⟩
theorem RunO.some {us : List UnitM} {on : List Bool} {need spare c : Int} {w w' : World} (h : hourC us on need spare = some c) (hb : Below w.heap.size w w') : RunO us on need spare w (.returned (.tuple #[.int .i64 c, .int .i64 0])) w' := by
  rw [RunO, h]; exact ⟨rfl, hb⟩
set_option maxRecDepth 100000 in
set_option maxHeartbeats 4000000 in
theorem run_any (us : List UnitM) (on : List Bool) (need spare : Int) (d : Array Nat) (lv rv ov : Value) (w : World) (hx : UnitsAt w lv us) (hr : RowAt w rv us.length 1 (ints (natsI d))) (hd : Rk (costN us) us.length us.length d) (ho : RowAt w ov us.length 1 (on.map Value.bool)) (hl : on.length = us.length) (h4 : us.length ≤ 4) (hm : MayUs us) (h0 : 0 ≤ need) (h1 : need ≤ 400000) (h2 : 0 ≤ spare) (h3 : spare ≤ 400000) :
    Calls Try.prog 52 #[.agg #[lv, rv], ov, .int .i64 need, .int .i64 spare] w (RunO us on need spare w) := by
  have HG := hide' hx
  have HR := hide' hr
  have HD := hide' hd
  have HO := hide' ho
  have HL := hide' hl
  have HM := hide' hm
  obtain ⟨ag, cg, rfl⟩ := rowAt_slice hx
  obtain ⟨ar, cr, rfl⟩ := rowAt_slice hr
  obtain ⟨ao, co, rfl⟩ := rowAt_slice ho
  clear hx hr hd ho hl hm
  have HA : Hid (∀ o, Below w.heap.size w (w.alloc o)) := fun o => (Below.refl _ w).alloc (Nat.le_refl _) o
  have HC : Hid (∀ o, Calls Try.prog 27 #[.agg #[.slice ag us.length cg, .slice ar us.length cr], .slice ao us.length co, .int .i64 need] (w.alloc o) (MeritO us on need (w.alloc o))) := fun o =>
    merit_any us on need d _ _ _ _ (HG.out.below (HA.out o) (Nat.le_refl _)) (HR.out.below (HA.out o) (Nat.le_refl _)) HD.out (HO.out.below (HA.out o) (Nat.le_refl _)) HL.out h4 HM.out h0 h1
  go_enter Try.func52, Try.ntmps52
  go_wp2_with fail
  refine (HC.out _).mono ?_
  have hbx := alloc_new w (.cells #[.slice ag us.length cg, .slice ar us.length cr] 54)
  rintro e w1 (⟨out, v, hmer, rfl, hrow, hb1⟩ | ⟨hno, rfl, hb1⟩)
  · have HME := hide' hmer
    have HRO := hide' hrow
    have HB1 := hide' ((HA.out _).trans (hb1.mono (HA.out _).size))
    have hq := (hb1.block w.heap.size (by simp)).trans hbx
    have c0 : w1.cell? ⟨w.heap.size, 0, none⟩ = .some (.slice ag us.length cg) := by simp [World.cell?, hq]
    have c1 : w1.cell? ⟨w.heap.size, 1, none⟩ = .some (.slice ar us.length cr) := by simp [World.cell?, hq]
    have hol := hmer.len
    obtain ⟨av, cv, rfl⟩ := rowAt_slice hrow
    have HMO := hide' (most_any us on (.slice ag us.length cg) (.slice ar us.length cr) (.slice ao us.length co) w1 (HG.out.below HB1.out (Nat.le_refl _)) ⟨_, _, _, rfl⟩ (HO.out.below HB1.out (Nat.le_refl _)) HL.out h4 HM.out)
    have hmb := mostK_bound on HM.out us.length (Nat.le_refl _)
    have HBQ : Hid (∀ w2, Below w1.heap.size w1 w2 → w2.cell? ⟨w.heap.size, 0, none⟩ = .some (.slice ag us.length cg)) := fun w2 hb => (hb.cell (World.block_lt_of_cell? w1 _ c0)).trans c0
    have HHC : Hid ((need + spare ≤ mostK us on us.length → hourC us on need spare = .some (costA us out us.length)) ∧ (mostK us on us.length < need + spare → hourC us on need spare = .none)) := by
      refine ⟨fun h => hourC_some HM.out ⟨out, HME.out, h, costA_is HME.out _⟩, fun h => hourC_none HM.out (fun c hc => ?_)⟩
      obtain ⟨_, _, h', _⟩ := hc
      omega
    obtain ⟨mk, hmk⟩ : ∃ m, m = mostK us on us.length := ⟨_, rfl⟩
    rw [← hmk] at HMO hmb HHC
    clear hmer hrow hb1 hbx hq HC hmk
    go_wp2_with (go_at_call 59; refine HMO.out.mono ?_; rintro e w2 ⟨rfl, hb2⟩; refine Still.go ?_)
    unfold Still
    have HB2 := hide' (HB1.out.trans (hb2.mono HB1.out.size))
    have e0 := HBQ.out w2 hb2
    have HRO2 := hide' (HRO.out.below hb2 (Nat.le_refl _))
    clear hb2 c0 c1 HMO HBQ
    by_cases hlt0 : mk < need + spare
    · have HNN := hide' (HHC.out.2 hlt0)
      clear HHC
      go_wp2
      refine bodyPost_ret (results_tmp2 rfl _ _ _) rfl ?_
      exact RunO.none HNN.out HB2.out
    · have HNN := hide' (HHC.out.1 (by omega))
      clear HHC
      go_wp2_with fail
      go_loopw [12, 36] (fun s i wr => ∃ (k : Nat), i = .int .i64 k ∧ k ≤ us.length ∧ s = .int .i64 (costA us out k) ∧ Hid (Below w2.heap.size w2 wr)) (fun _ i _ => us.length - (intOf i).toNat)
      case atStart => exact ⟨0, rfl, Nat.zero_le _, rfl, Below.refl _ _⟩
      case round =>
        clear e0
        obtain ⟨k, rfl, hk, rfl, HBE⟩ := hrel
        have HBW := hide' (HB2.out.trans (HBE.out.mono HB2.out.size))
        by_cases hlt : k < us.length
        · obtain ⟨bt, ot, ct', ex, hbt, hct⟩ := row_elem (f := UnitM.cells) (fun _ => rfl) HG.out k hlt (by decide)
          cases ex
          obtain ⟨u, hu⟩ : ∃ u, u = us[k] := ⟨_, rfl⟩
          rw [← hu] at hct
          have HK : Hid (us[k]? = some u) := by show _ = _; rw [hu]; exact List.getElem?_eq_getElem hlt
          have d0 := up_cell HBW.out (hct 0 _ rfl)
          have d1 := up_cell HBW.out (hct 1 _ rfl)
          have d2 := up_cell HBW.out (hct 2 _ rfl)
          have d3 := up_cell HBW.out (hct 3 _ rfl)
          have d4 := up_cell HBW.out (hct 4 _ rfl)
          have d5 := up_cell HBW.out (hct 5 _ rfl)
          have d6 := up_cell HBW.out (hct 6 _ rfl)
          rw [Nat.add_zero] at d0
          obtain ⟨x0, hx0⟩ : ∃ x, x = u.least := ⟨_, rfl⟩
          rw [← hx0] at d0
          obtain ⟨x1, hx1⟩ : ∃ x, x = u.most := ⟨_, rfl⟩
          rw [← hx1] at d1
          obtain ⟨x2, hx2⟩ : ∃ x, x = u.cost := ⟨_, rfl⟩
          rw [← hx2] at d2
          obtain ⟨x3, hx3⟩ : ∃ x, x = u.start := ⟨_, rfl⟩
          rw [← hx3] at d3
          obtain ⟨x4, hx4⟩ : ∃ x, x = u.up := ⟨_, rfl⟩
          rw [← hx4] at d4
          obtain ⟨x5, hx5⟩ : ∃ x, x = u.down := ⟨_, rfl⟩
          rw [← hx5] at d5
          obtain ⟨x6, hx6⟩ : ∃ x, x = u.was := ⟨_, rfl⟩
          rw [← hx6] at d6
          have hcp := ints_cell (HRO2.out.below HBE.out (Nat.le_refl _)) k (by rw [hol]; exact hlt)
          obtain ⟨bp, op, cp', exp, hcp⟩ := hcp
          cases exp
          have HAL : Hid (∀ o q, Below w2.heap.size w2 ((wr.alloc o).drewN q)) := fun o q => below_drewN (HBE.out.alloc HBE.out.size o) q
          have d7 : ∀ o, (wr.alloc o).cell? ⟨bp, op + k, none⟩ = .some (.int .i64 (out.getD k 0)) := fun o => up_cell ((Below.refl wr.heap.size wr).alloc (Nat.le_refl _) o) hcp
          have hs := costK_bound HM.out HME.out k hk
          rw [← costA_is HME.out] at hs
          have hob := merit_bound HM.out HME.out k
          have hmu := (HM.out k u HK.out).d
          rw [← hx2] at hmu
          obtain ⟨y, hy⟩ : ∃ y, y = out.getD k 0 := ⟨_, rfl⟩
          rw [← hy] at d7 hob
          have hmul := mul_bound hob.1 hob.2 hmu.1 hmu.2
          have HE : Hid (costA us out (k + 1) = costA us out k + y * x2) := by show _ = _; rw [costA, HK.out, ← hy, hx2]; rfl
          obtain ⟨s, hse⟩ : ∃ s, s = costA us out k := ⟨_, rfl⟩
          rw [← hse] at hs HE ⊢
          clear hct hu hbt hcp hx0 hx1 hx2 hx3 hx4 hx5 hx6 hmu hob HK hse hy HBE HBW
          go_wp2_with fail
          go_quiet (fail)
          go_wp2
          go_roundw
          case rel => exact ⟨k + 1, by go_num, by omega, by rw [HE.out], HAL.out _ _⟩
          case measure => simp [intOf]; omega
        · have hke : k = us.length := by omega
          subst hke
          go_wp2
          refine bodyPost_ret (results_tmp2 rfl _ _ _) rfl ?_
          exact RunO.some HNN.out HBW.out
  · have HNN : Hid (hourC us on need spare = .none) := hourC_none HM.out (fun c hc => by obtain ⟨o, h, _⟩ := hc; exact hno o h)
    have HB1 := hide' ((HA.out _).trans (hb1.mono (HA.out _).size))
    clear hno hb1 hbx HC
    go_wp2
    refine bodyPost_ret (results_tmp2 rfl _ _ _) rfl ?_
    exact RunO.none HNN.out HB1.out
end Go.Proofs.Ytlbeecjkfakkpag
