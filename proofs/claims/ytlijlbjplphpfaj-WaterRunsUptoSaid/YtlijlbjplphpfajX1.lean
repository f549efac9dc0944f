/- The document's small functions; rows and tables that are the same. -/
import Derived.Test.YtlijlbjplphpfajW9
namespace Go.Proofs.Ytlijlbjplphpfaj
open Go.RowKit Go.Shelf

theorem inBounds_any (x a b : Int) (w : World) : Calls Try.prog 50 #[.int .i64 x, .int .i64 a, .int .i64 b] w fun e w' => e = .returned (.bool (withinB x a b)) ∧ w' = w := by
  go_enter Try.func50, Try.ntmps50
  go_wp2
  all_goals
    go_ret
    exact ⟨ret_bool (by unfold withinB; simp_all <;> omega), rfl⟩
theorem lakeB_way (a b c d g : Int) : lakeB ⟨a, b, c, d, g⟩ = (decide (0 ≤ a) && decide (a ≤ c) && decide (c ≤ b) && decide (b ≤ 20) && withinB d 0 4 && withinB g 0 1000) := by
  unfold lakeB
  show (withinB a 0 c && withinB b c 20 && withinB d 0 4 && withinB g 0 1000) = _
  unfold withinB
  simp only [Bool.and_assoc]
set_option maxRecDepth 100000 in
set_option maxHeartbeats 2000000 in
theorem LakeMay_any (k : LakeM) (w : World) : Calls Try.prog 67 #[.agg #[.int .i64 k.least, .int .i64 k.most, .int .i64 k.start, .int .i64 k.turb, .int .i64 k.worth]] w fun e w' => e = .returned (.bool (lakeB k)) ∧ Below w.heap.size w w' := by
  obtain ⟨a, b, c, d, g⟩ := k
  have HW : Hid (∀ x a b W, Calls Try.prog 50 #[.int .i64 x, .int .i64 a, .int .i64 b] W fun e w' => e = .returned (.bool (withinB x a b)) ∧ w' = W) := inBounds_any
  obtain ⟨Z, hZ⟩ : ∃ x, x = lakeB ⟨a, b, c, d, g⟩ := ⟨_, rfl⟩
  have HZ : Hid (Z = (decide (0 ≤ a) && decide (a ≤ c) && decide (c ≤ b) && decide (b ≤ 20) && withinB d 0 4 && withinB g 0 1000)) := hZ.trans (lakeB_way a b c d g)
  rw [← hZ]
  clear hZ
  go_enter Try.func67, Try.ntmps67
  go_upto_region 1 with fail
  have HB := hide' (below_al w (.cells #[.int .i64 a, .int .i64 b, .int .i64 c, .int .i64 d, .int .i64 g] 71))
  have hq := alloc_new w (.cells #[.int .i64 a, .int .i64 b, .int .i64 c, .int .i64 d, .int .i64 g] 71)
  obtain ⟨w1, hw1⟩ : ∃ x, x = w.alloc (.cells #[.int .i64 a, .int .i64 b, .int .i64 c, .int .i64 d, .int .i64 g] 71) := ⟨_, rfl⟩
  rw [← hw1] at HB hq ⊢
  have y0 : w1.cell? ⟨w.heap.size, 0, none⟩ = some (.int .i64 a) := (cells_at hq 0).trans rfl
  have y1 : w1.cell? ⟨w.heap.size, 1, none⟩ = some (.int .i64 b) := (cells_at hq 1).trans rfl
  have y2 : w1.cell? ⟨w.heap.size, 2, none⟩ = some (.int .i64 c) := (cells_at hq 2).trans rfl
  have y3 : w1.cell? ⟨w.heap.size, 3, none⟩ = some (.int .i64 d) := (cells_at hq 3).trans rfl
  have y4 : w1.cell? ⟨w.heap.size, 4, none⟩ = some (.int .i64 g) := (cells_at hq 4).trans rfl
  clear hq hw1
  by_cases h1 : 0 ≤ a
  · by_cases h2 : a ≤ c
    · by_cases h3 : c ≤ b
      · by_cases h4 : b ≤ 20
        · rw [decide_eq_true h1, decide_eq_true h2, decide_eq_true h3, decide_eq_true h4] at HZ
          go_wp2_with fail
          refine (HW.out d 0 4 w1).mono ?_
          rintro e z ⟨rfl, hz⟩
          obtain rfl := hz.symm
          obtain ⟨q3, hq3⟩ : ∃ x, x = withinB d 0 4 := ⟨_, rfl⟩
          rw [← hq3] at HZ ⊢
          clear hq3
          cases q3 with
          | false =>
            go_wp2
            go_ret
            exact ⟨by rw [HZ.out]; rfl, HB.out⟩
          | true =>
            go_wp2_with fail
            refine (HW.out g 0 1000 w1).mono ?_
            rintro e z ⟨rfl, hz⟩
            obtain rfl := hz.symm
            go_wp2
            go_ret
            exact ⟨by rw [HZ.out]; rfl, HB.out⟩
        · rw [decide_eq_false h4, Bool.and_false] at HZ
          go_wp2
          go_ret
          exact ⟨by rw [HZ.out]; rfl, HB.out⟩
      · rw [decide_eq_false h3, Bool.and_false] at HZ
        go_wp2
        go_ret
        exact ⟨by rw [HZ.out]; rfl, HB.out⟩
    · rw [decide_eq_false h2, Bool.and_false] at HZ
      go_wp2
      go_ret
      exact ⟨by rw [HZ.out]; rfl, HB.out⟩
  · rw [decide_eq_false h1, Bool.false_and] at HZ
    go_wp2
    go_ret
    exact ⟨by rw [HZ.out]; rfl, HB.out⟩
def rowsB (t : List (List Int)) (rows n : Nat) : Bool := decide (t.length = rows) && t.all fun l => decide (l.length = n)
set_option maxRecDepth 100000 in
theorem rowsAre_any (t : List (List Int)) (rows n : Nat) (v : Value) (w : World) (hx : TabAt w v t) (h1 : rows ≤ 9000000000000000000) (hn : t.length ≤ 9000000000000000000) : Calls Try.prog 42 #[v, .int .i64 (rows : Int), .int .i64 (n : Int)] w fun e w' => e = .returned (.bool (rowsB t rows n)) ∧ w' = w := by
  have HX := hide' hx
  obtain ⟨ag, cg, rfl⟩ := hx.slice
  clear hx
  obtain ⟨Z, hZ⟩ : ∃ x, x = rowsB t rows n := ⟨_, rfl⟩
  have HZ : Hid (Z = (decide (t.length = rows) && t.all fun l => decide (l.length = n))) := hZ
  rw [← hZ]
  clear hZ
  go_enter Try.func42, Try.ntmps42
  by_cases hr : t.length = rows
  · rw [decide_eq_true hr, Bool.true_and] at HZ
    have hne : ((t.length : Int) != (rows : Int)) = false := by rw [hr]; simp
    subst hr
    go_wp2_with fail
    go_loopw [7] (fun i wr => ∃ (k : Nat), i = .int .i64 k ∧ k ≤ t.length ∧ Hid (∀ j (hj : j < t.length), j < k → decide ((t[j]).length = n) = true) ∧ wr = w) (fun i _ => t.length - (intOf i).toNat)
    case atStart => exact ⟨0, rfl, Nat.zero_le _, fun j _ h => absurd h (Nat.not_lt_zero j), rfl⟩
    case round =>
      obtain ⟨k, rfl, hk, HOK, rfl⟩ := hrel
      by_cases hlt : k < t.length
      · obtain ⟨bt, ot, ct', a2, c2, ex, hct, hrow⟩ := HX.out.cell k hlt
        cases ex
        have HNX := hide' (all_next (p := fun l : List Int => decide (l.length = n)) hlt HOK.out)
        have HNO := hide' (all_no (p := fun l : List Int => decide (l.length = n)) hlt)
        by_cases hm : (t[k]).length = n
        · have HY := hide' (HNX.out (decide_eq_true hm))
          rw [hm] at hct
          clear hm hrow HNO HNX
          go_wp2
          go_roundw
          case rel => exact ⟨k + 1, by go_num, by omega, HY.out, trivial⟩
          case measure => simp [intOf]; omega
        · have HN := hide' (HNO.out (decide_eq_false hm))
          obtain ⟨m, hmq⟩ : ∃ m, m = (t[k]).length := ⟨_, rfl⟩
          rw [← hmq] at hct hm
          have hne2 : ((m : Int) != (n : Int)) = true := by simp; omega
          clear hmq hrow HNO HNX
          go_wp2
          go_ret
          exact ⟨by rw [HZ.out, HN.out]; rfl, rfl⟩
      · have HY := hide' (all_yes (p := fun l : List Int => decide (l.length = n)) (by omega) HOK.out)
        go_wp2
        go_ret
        exact ⟨by rw [HZ.out, HY.out]; rfl, rfl⟩
  · rw [decide_eq_false hr, Bool.false_and] at HZ
    have hne : ((t.length : Int) != (rows : Int)) = true := by simp; omega
    go_wp2
    go_ret
    exact ⟨by rw [HZ.out]; rfl, rfl⟩
end Go.Proofs.Ytlijlbjplphpfaj
