/- waterMay. -/
import Derived.Test.YtnhddmcdmcpkeajW9
namespace Go.Proofs.Ytnhddmcdmcpkeaj
open Go.RowKit Go.Shelf

theorem inBounds_any (x a b : Int) (w : World) : Calls Try.prog 50 #[.int .i64 x, .int .i64 a, .int .i64 b] w fun e w' => e = .returned (.bool (withinB x a b)) ∧ w' = w := by
  go_enter Try.func50, Try.ntmps50
  go_wp2
  all_goals
    go_ret
    exact ⟨ret_bool (by unfold withinB; simp_all <;> omega), rfl⟩
theorem lakeB_way (a b c d g : Int) : lakeB ⟨a, b, c, d, g⟩ = (decide (0 ≤ a) && decide (a ≤ c) && decide (c ≤ b) && decide (b ≤ 20) && withinB d 0 4 && withinB g 0 1000) := by
  unfold lakeB
  show (withinB a 0 c && withinB b c 20 && withinB d 0 4 && withinB g 0 1000) = _
  unfold withinB
  simp only [Bool.and_assoc]
set_option maxRecDepth 100000 in
set_option maxHeartbeats 2000000 in
theorem LakeMay_any (k : LakeM) (w : World) : Calls Try.prog 67 #[.agg #[.int .i64 k.least, .int .i64 k.most, .int .i64 k.start, .int .i64 k.turb, .int .i64 k.worth]] w fun e w' => e = .returned (.bool (lakeB k)) ∧ Below w.heap.size w w' := by
  obtain ⟨a, b, c, d, g⟩ := k
  have HW : Hid (∀ x a b W, Calls Try.prog 50 #[.int .i64 x, .int .i64 a, .int .i64 b] W fun e w' => e = .returned (.bool (withinB x a b)) ∧ w' = W) := inBounds_any
  obtain ⟨Z, hZ⟩ : ∃ x, x = lakeB ⟨a, b, c, d, g⟩ := ⟨_, rfl⟩
  have HZ : Hid (Z = (decide (0 ≤ a) && decide (a ≤ c) && decide (c ≤ b) && decide (b ≤ 20) && withinB d 0 4 && withinB g 0 1000)) := hZ.trans (lakeB_way a b c d g)
  rw [← hZ]
  clear hZ
  go_enter Try.func67, Try.ntmps67
  go_upto_region 1 with fail
  have HB := hide' (below_al w (.cells #[.int .i64 a, .int .i64 b, .int .i64 c, .int .i64 d, .int .i64 g] 71))
  have hq := alloc_new w (.cells #[.int .i64 a, .int .i64 b, .int .i64 c, .int .i64 d, .int .i64 g] 71)
  obtain ⟨w1, hw1⟩ : ∃ x, x = w.alloc (.cells #[.int .i64 a, .int .i64 b, .int .i64 c, .int .i64 d, .int .i64 g] 71) := ⟨_, rfl⟩
  rw [← hw1] at HB hq ⊢
  have y0 : w1.cell? ⟨w.heap.size, 0, none⟩ = some (.int .i64 a) := (cells_at hq 0).trans rfl
  have y1 : w1.cell? ⟨w.heap.size, 1, none⟩ = some (.int .i64 b) := (cells_at hq 1).trans rfl
  have y2 : w1.cell? ⟨w.heap.size, 2, none⟩ = some (.int .i64 c) := (cells_at hq 2).trans rfl
  have y3 : w1.cell? ⟨w.heap.size, 3, none⟩ = some (.int .i64 d) := (cells_at hq 3).trans rfl
  have y4 : w1.cell? ⟨w.heap.size, 4, none⟩ = some (.int .i64 g) := (cells_at hq 4).trans rfl
  clear hq hw1
  by_cases h1 : 0 ≤ a
  · by_cases h2 : a ≤ c
    · by_cases h3 : c ≤ b
      · by_cases h4 : b ≤ 20
        · rw [decide_eq_true h1, decide_eq_true h2, decide_eq_true h3, decide_eq_true h4] at HZ
          go_wp2_with fail
          refine (HW.out d 0 4 w1).mono ?_
          rintro e z ⟨rfl, hz⟩
          obtain rfl := hz.symm
          obtain ⟨q3, hq3⟩ : ∃ x, x = withinB d 0 4 := ⟨_, rfl⟩
          rw [← hq3] at HZ ⊢
          clear hq3
          cases q3 with
          | false =>
            go_wp2
            go_ret
            exact ⟨by rw [HZ.out]; rfl, HB.out⟩
          | true =>
            go_wp2_with fail
            refine (HW.out g 0 1000 w1).mono ?_
            rintro e z ⟨rfl, hz⟩
            obtain rfl := hz.symm
            go_wp2
            go_ret
            exact ⟨by rw [HZ.out]; rfl, HB.out⟩
        · rw [decide_eq_false h4, Bool.and_false] at HZ
          go_wp2
          go_ret
          exact ⟨by rw [HZ.out]; rfl, HB.out⟩
      · rw [decide_eq_false h3, Bool.and_false] at HZ
        go_wp2
        go_ret
        exact ⟨by rw [HZ.out]; rfl, HB.out⟩
    · rw [decide_eq_false h2, Bool.and_false] at HZ
      go_wp2
      go_ret
      exact ⟨by rw [HZ.out]; rfl, HB.out⟩
  · rw [decide_eq_false h1, Bool.false_and] at HZ
    go_wp2
    go_ret
    exact ⟨by rw [HZ.out]; rfl, HB.out⟩
def rowsB (t : List (List Int)) (rows n : Nat) : Bool := decide (t.length = rows) && t.all fun l => decide (l.length = n)
set_option maxRecDepth 100000 in
theorem rowsAre_any (t : List (List Int)) (rows n : Nat) (v : Value) (w : World) (hx : TabAt w v t) (h1 : rows ≤ 9000000000000000000) (hn : t.length ≤ 9000000000000000000) : Calls Try.prog 42 #[v, .int .i64 (rows : Int), .int .i64 (n : Int)] w fun e w' => e = .returned (.bool (rowsB t rows n)) ∧ w' = w := by
  have HX := hide' hx
  obtain ⟨ag, cg, rfl⟩ := hx.slice
  clear hx
  obtain ⟨Z, hZ⟩ : ∃ x, x = rowsB t rows n := ⟨_, rfl⟩
  have HZ : Hid (Z = (decide (t.length = rows) && t.all fun l => decide (l.length = n))) := hZ
  rw [← hZ]
  clear hZ
  go_enter Try.func42, Try.ntmps42
  by_cases hr : t.length = rows
  · rw [decide_eq_true hr, Bool.true_and] at HZ
    have hne : ((t.length : Int) != (rows : Int)) = false := by rw [hr]; simp
    subst hr
    go_wp2_with fail
    go_loopw [7] (fun i wr => ∃ (k : Nat), i = .int .i64 k ∧ k ≤ t.length ∧ Hid (∀ j (hj : j < t.length), j < k → decide ((t[j]).length = n) = true) ∧ wr = w) (fun i _ => t.length - (intOf i).toNat)
    case atStart => exact ⟨0, rfl, Nat.zero_le _, fun j _ h => absurd h (Nat.not_lt_zero j), rfl⟩
    case round =>
      obtain ⟨k, rfl, hk, HOK, rfl⟩ := hrel
      by_cases hlt : k < t.length
      · obtain ⟨bt, ot, ct', a2, c2, ex, hct, hrow⟩ := HX.out.cell k hlt
        cases ex
        have HNX := hide' (all_next (p := fun l : List Int => decide (l.length = n)) hlt HOK.out)
        have HNO := hide' (all_no (p := fun l : List Int => decide (l.length = n)) hlt)
        by_cases hm : (t[k]).length = n
        · have HY := hide' (HNX.out (decide_eq_true hm))
          rw [hm] at hct
          clear hm hrow HNO HNX
          go_wp2
          go_roundw
          case rel => exact ⟨k + 1, by go_num, by omega, HY.out, trivial⟩
          case measure => simp [intOf]; omega
        · have HN := hide' (HNO.out (decide_eq_false hm))
          obtain ⟨m, hmq⟩ : ∃ m, m = (t[k]).length := ⟨_, rfl⟩
          rw [← hmq] at hct hm
          have hne2 : ((m : Int) != (n : Int)) = true := by simp; omega
          clear hmq hrow HNO HNX
          go_wp2
          go_ret
          exact ⟨by rw [HZ.out, HN.out]; rfl, rfl⟩
      · have HY := hide' (all_yes (p := fun l : List Int => decide (l.length = n)) (by omega) HOK.out)
        go_wp2
        go_ret
        exact ⟨by rw [HZ.out, HY.out]; rfl, rfl⟩
  · rw [decide_eq_false hr, Bool.false_and] at HZ
    have hne : ((t.length : Int) != (rows : Int)) = true := by simp; omega
    go_wp2
    go_ret
    exact ⟨by rw [HZ.out]; rfl, rfl⟩
end Go.Proofs.Ytnhddmcdmcpkeaj
namespace Go.Proofs.Ytnhddmcdmcpkeaj
open Go.RowKit Go.Shelf

def mayE (ls : List LakeM) (ti : List (List Int)) : Int := if sizedB ls.length ti = false then 2 else if ls.all lakeB = false then 14 else if comeB ti = false then 4 else 0
theorem sized_rows {L : Nat} {t : List (List Int)} (h2 : L ≤ 2) (h8 : t.length ≤ 8) : sizedB L t = rowsB t t.length L := by
  unfold sizedB rowsB
  rw [decide_eq_true h2, decide_eq_true h8, decide_eq_true rfl]
  rfl
theorem sized_iff' {L : Nat} {t : List (List Int)} : sizedB L t = true ↔ L ≤ 2 ∧ t.length ≤ 8 ∧ ∀ l ∈ t, l.length = L := by
  unfold sizedB
  simp only [Bool.and_eq_true, decide_eq_true_eq, List.all_eq_true]
  exact ⟨fun h => ⟨h.1.1, h.1.2, h.2⟩, fun h => ⟨⟨h.1, h.2.1⟩, h.2.2⟩⟩
theorem come_no {t : List (List Int)} {k j : Nat} (hk : k < t.length) (hj : j < (t[k]).length) (h : withinB ((t[k]).getD j 0) 0 10 = false) : comeB t = false := by
  unfold comeB
  refine all_no hk (all_no (p := fun x => withinB x 0 10) hj ?_)
  rw [← h, List.getD_eq_getElem?_getD, List.getElem?_eq_getElem hj]
  rfl
theorem row_next {l : List Int} {j : Nat} (hj : j < l.length) (h : ∀ i (hi : i < l.length), i < j → withinB l[i] 0 10 = true) (hq : withinB (l.getD j 0) 0 10 = true) : ∀ i (hi : i < l.length), i < j + 1 → withinB l[i] 0 10 = true := all_next (p := fun x => withinB x 0 10) hj h (by rw [← hq, List.getD_eq_getElem?_getD, List.getElem?_eq_getElem hj]; rfl)
set_option maxRecDepth 100000 in
set_option maxHeartbeats 4000000 in
theorem waterMay_any (ls : List LakeM) (ti : List (List Int)) (al ai : Option Addr) (cl ci : Nat) (w : World) (hx : RowAt w (.slice al ls.length cl) ls.length 5 (ls.flatMap LakeM.cells)) (hti : TabAt w (.slice ai ti.length ci) ti) (b1 : ls.length ≤ 9000000000000000000) (b2 : ti.length ≤ 9000000000000000000) :
    Calls Try.prog 41 #[.slice al ls.length cl, .slice ai ti.length ci] w fun e w' => e = .returned (.int .i64 (mayE ls ti)) ∧ Below w.heap.size w w' := by
  have HX := hide' hx
  have HT := hide' hti
  have HRA := hide' (rowsAre_any ti ti.length ls.length (.slice ai ti.length ci) w hti b2 b2)
  have HLM : Hid (∀ k W, Calls Try.prog 67 #[.agg #[.int .i64 k.least, .int .i64 k.most, .int .i64 k.start, .int .i64 k.turb, .int .i64 k.worth]] W fun e w' => e = .returned (.bool (lakeB k)) ∧ Below W.heap.size W w') := LakeMay_any
  have HIB : Hid (∀ x W, Calls Try.prog 50 #[.int .i64 x, .int .i64 0, .int .i64 10] W fun e w' => e = .returned (.bool (withinB x 0 10)) ∧ w' = W) := fun x W => inBounds_any x 0 10 W
  have HE2 : Hid (sizedB ls.length ti = false → mayE ls ti = 2) := fun h => by unfold mayE; rw [if_pos h]
  have HE14 : Hid (sizedB ls.length ti = true → ls.all lakeB = false → mayE ls ti = 14) := fun h h2 => by unfold mayE; rw [if_neg (by rw [h]; decide), if_pos h2]
  have HE4 : Hid (sizedB ls.length ti = true → ls.all lakeB = true → comeB ti = false → mayE ls ti = 4) := fun h h2 h3 => by unfold mayE; rw [if_neg (by rw [h]; decide), if_neg (by rw [h2]; decide), if_pos h3]
  have HE0 : Hid (sizedB ls.length ti = true → ls.all lakeB = true → comeB ti = true → mayE ls ti = 0) := fun h h2 h3 => by unfold mayE; rw [if_neg (by rw [h]; decide), if_neg (by rw [h2]; decide), if_neg (by rw [h3]; decide)]
  have HSL : Hid (¬ ls.length ≤ 2 → sizedB ls.length ti = false) := fun h => by unfold sizedB; rw [decide_eq_false h]; rfl
  have HSH : Hid (¬ ti.length ≤ 8 → sizedB ls.length ti = false) := fun h => by unfold sizedB; rw [decide_eq_false h, Bool.and_false]; rfl
  have HSR : Hid (ls.length ≤ 2 → ti.length ≤ 8 → sizedB ls.length ti = rowsB ti ti.length ls.length) := fun h2 h8 => sized_rows h2 h8
  obtain ⟨E, hE⟩ : ∃ x, x = mayE ls ti := ⟨_, rfl⟩
  rw [← hE] at HE2 HE14 HE4 HE0 ⊢
  obtain ⟨L, hL⟩ : ∃ x, x = ls.length := ⟨_, rfl⟩
  obtain ⟨H, hH⟩ : ∃ x, x = ti.length := ⟨_, rfl⟩
  have HLL := hide' hL.symm
  have HHH := hide' hH.symm
  rw [← hL] at HE2 HE14 HE4 HE0 HSL HSH HSR b1
  rw [← hH] at HSH HSR b2
  have HX2 : Hid (RowAt w (.slice al L cl) ls.length 5 (ls.flatMap LakeM.cells)) := by rw [hL]; exact HX.out
  have HT2 : Hid (TabAt w (.slice ai H ci) ti) := by rw [hH]; exact HT.out
  have HRA2 : Hid (Calls Try.prog 42 #[.slice ai H ci, .int .i64 (H : Int), .int .i64 (L : Int)] w fun e w' => e = .returned (.bool (rowsB ti H L)) ∧ w' = w) := by rw [hL, hH]; exact HRA.out
  rw [← hL, ← hH]
  clear hE hL hH HX HT HRA hx hti
  go_enter Try.func41, Try.ntmps41
  by_cases h2 : (L : Int) ≤ 2
  · by_cases h8 : (H : Int) ≤ 8
    · have HSE := hide' (HSR.out (by omega) (by omega))
      obtain ⟨q, hq⟩ : ∃ x, x = rowsB ti H L := ⟨_, rfl⟩
      rw [← hq] at HRA2 HSE
      clear hq HSL HSH HSR
      go_wp2_with fail
      refine HRA2.out.mono ?_
      rintro e z ⟨rfl, hz⟩
      obtain rfl := hz.symm
      clear hz HRA2
      cases q with
      | false =>
        have HF := hide' (HE2.out HSE.out)
        go_wp2
        go_ret
        exact ⟨by rw [HF.out]; rfl, Below.refl _ _⟩
      | true =>
        have HLE : Hid (∀ l ∈ ti, l.length = L) := fun l hl => (sized_iff'.1 HSE.out).2.2 l hl
        go_wp2_with fail
        go_loopw [5] (fun i wr => ∃ (k : Nat), i = .int .i64 k ∧ k ≤ L ∧ Hid (∀ j (hj : j < ls.length), j < k → lakeB ls[j] = true) ∧ Hid (Below w.heap.size w wr)) (fun i _ => L - (intOf i).toNat)
        case atStart => exact ⟨0, rfl, Nat.zero_le _, fun j _ h => absurd h (Nat.not_lt_zero j), Below.refl _ w⟩
        case round =>
          obtain ⟨k, rfl, hk, HOK, HB⟩ := hrel
          by_cases hlt : k < L
          · have hkl : k < ls.length := by rw [HLL.out]; exact hlt
            obtain ⟨lb, lo, rfl, _, c0, c1, c2, c3, c4⟩ := lake_cells HX2.out (k := k) hkl
            have HNX := hide' (all_next (p := lakeB) hkl HOK.out)
            have HNO := hide' (all_no (p := lakeB) hkl)
            rw [lk_at hkl] at HNX HNO
            replace c0 := up_cell HB.out c0
            replace c1 := up_cell HB.out c1
            replace c2 := up_cell HB.out c2
            replace c3 := up_cell HB.out c3
            replace c4 := up_cell HB.out c4
            obtain ⟨x, hx⟩ : ∃ x, x = lkD ls k := ⟨_, rfl⟩
            rw [← hx] at c0 c1 c2 c3 c4 HNX HNO
            have HC := hide' (HLM.out x)
            obtain ⟨q, hq⟩ : ∃ b, b = lakeB x := ⟨_, rfl⟩
            rw [← hq] at HC HNX HNO
            obtain ⟨x0, x1, x2, x3, x4⟩ := x
            simp only at c0 c1 c2 c3 c4
            clear hx hq
            go_wp2_with fail
            refine (HC.out _).mono ?_
            rintro e w1 ⟨rfl, hb1⟩
            have HB1 : Hid (Below w.heap.size w w1) := HB.out.trans (hb1.mono HB.out.size)
            clear hb1 HB
            cases q with
            | true =>
              have HY := hide' (HNX.out rfl)
              go_wp2
              go_roundw
              case rel => exact ⟨k + 1, by go_num, by omega, HY.out, HB1⟩
              case measure => simp [intOf]; omega
            | false =>
              have HF := hide' (HE14.out HSE.out (HNO.out rfl))
              go_wp2
              go_ret
              exact ⟨by rw [HF.out]; rfl, HB1.out⟩
          · have HAL := hide' (all_yes (p := lakeB) (by rw [HLL.out]; omega) HOK.out)
            go_wp2_with fail
            go_loopw [6] (fun i wq => ∃ (k : Nat), i = .int .i64 k ∧ k ≤ H ∧ Hid (∀ j (hj : j < ti.length), j < k → (ti[j]).all (fun x => withinB x 0 10) = true) ∧ wq = wr) (fun i _ => H - (intOf i).toNat)
            case atStart => exact ⟨0, rfl, Nat.zero_le _, fun j _ h => absurd h (Nat.not_lt_zero j), rfl⟩
            case round =>
              obtain ⟨h, rfl, hh, HOK2, hwq⟩ := hrel
              subst hwq
              by_cases hhl : h < H
              · have hki : h < ti.length := by rw [HHH.out]; exact hhl
                obtain ⟨bt, ot, ct', a2, c2, ex, hct, hrow⟩ := HT2.out.cell h hki
                simp only [Value.slice.injEq] at ex
                obtain ⟨rfl, hc0, rfl⟩ := ex
                clear hc0
                have hrl := HLE.out _ (List.getElem_mem hki)
                rw [hrl] at hct hrow
                have hct1 := up_cell HB.out hct
                have HRW := hide' hrow
                have HRL := hide' hrl
                have HNX := hide' (all_next (p := fun l : List Int => l.all (fun x => withinB x 0 10)) hki HOK2.out)
                clear hct hrow hrl
                go_wp2_with fail
                go_loopw [7] (fun j wq => ∃ (m : Nat), j = .int .i64 m ∧ m ≤ L ∧ Hid (∀ i (hi : i < (ti[h]).length), i < m → withinB (ti[h])[i] 0 10 = true) ∧ wq = wr) (fun j _ => L - (intOf j).toNat)
                case atStart => exact ⟨0, rfl, Nat.zero_le _, fun j _ h => absurd h (Nat.not_lt_zero j), rfl⟩
                case round =>
                  obtain ⟨m, rfl, hm, HOK3, hwq⟩ := hrel
                  subst hwq
                  by_cases hml : m < L
                  · have hmr : m < (ti[h]).length := by rw [HRL.out]; exact hml
                    obtain ⟨rb, ro, rc, ex, hrc⟩ := ints_cell2 HRW.out m hmr
                    simp only [Value.slice.injEq] at ex
                    obtain ⟨rfl, hc0, rfl⟩ := ex
                    clear hc0
                    have hrc1 := up_cell HB.out hrc
                    have HNX3 := hide' (row_next hmr HOK3.out)
                    have HNO3 := hide' (come_no hki hmr)
                    obtain ⟨x, hx⟩ : ∃ x, x = (ti[h]).getD m 0 := ⟨_, rfl⟩
                    rw [← hx] at hrc1 HNX3 HNO3
                    have HC := hide' (HIB.out x wr)
                    obtain ⟨q, hq⟩ : ∃ b, b = withinB x 0 10 := ⟨_, rfl⟩
                    rw [← hq] at HC HNX3 HNO3
                    clear hx hq hrc
                    go_wp2_with fail
                    refine HC.out.mono ?_
                    rintro e z ⟨rfl, hz⟩
                    obtain rfl := hz.symm
                    clear hz
                    cases q with
                    | true =>
                      have HY := hide' (HNX3.out rfl)
                      go_wp2
                      go_roundw
                      case rel => exact ⟨m + 1, by go_num, by omega, HY.out, trivial⟩
                      case measure => simp [intOf]; omega
                    | false =>
                      have HF := hide' (HE4.out HSE.out HAL.out (HNO3.out rfl))
                      go_wp2
                      go_ret
                      exact ⟨by rw [HF.out]; rfl, HB.out⟩
                  · have HY := hide' (HNX.out (all_yes (p := fun x => withinB x 0 10) (by rw [HRL.out]; omega) HOK3.out))
                    go_wp2_with fail
                    go_roundw
                    case rel => exact ⟨h + 1, by go_num, by omega, HY.out, trivial⟩
                    case measure => simp [intOf]; omega
              · have HCO : Hid (comeB ti = true) := all_yes (p := fun l : List Int => l.all (fun x => withinB x 0 10)) (by rw [HHH.out]; omega) HOK2.out
                have HF := hide' (HE0.out HSE.out HAL.out HCO.out)
                go_wp2
                go_ret
                exact ⟨by rw [HF.out]; rfl, HB.out⟩
    · have HF := hide' (HE2.out (HSH.out (by omega)))
      go_wp2
      go_ret
      exact ⟨by rw [HF.out]; rfl, Below.refl _ _⟩
  · have HF := hide' (HE2.out (HSL.out (by omega)))
    go_wp2
    go_ret
    exact ⟨by rw [HF.out]; rfl, Below.refl _ _⟩
end Go.Proofs.Ytnhddmcdmcpkeaj
