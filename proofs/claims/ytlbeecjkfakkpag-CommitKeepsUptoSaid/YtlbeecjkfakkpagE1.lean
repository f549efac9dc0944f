/- Whether units may be, in the program. -/
import Derived.Test.YtlbeecjkfakkpagCk
namespace Go.Proofs.Ytlbeecjkfakkpag
open Go.RowKit Go.Shelf

theorem within_any (n lo hi : Int) (w : World) : Calls Try.prog 44 #[.int .i64 n, .int .i64 lo, .int .i64 hi] w fun e w' => e = .returned (.bool (decide (lo ≤ n) && decide (n ≤ hi))) ∧ w' = w := by
  go_enter Try.func44, Try.ntmps44
  go_wp2
  all_goals
    go_ret
    exact ⟨ret_bool (by rw [Bool.eq_iff_iff]; simp_all <;> omega), rfl⟩
theorem mayBeAsked_any (n : Int) (w : World) : Calls Try.prog 25 #[.int .i64 n] w fun e w' => e = .returned (.bool (decide (0 ≤ n) && decide (n ≤ 400000))) ∧ w' = w := by
  go_enter Try.func25, Try.ntmps25
  go_wp2_with (go_at_call 44; refine (within_any _ _ _ _).mono ?_; rintro e w' ⟨rfl, rfl⟩)
  all_goals
    go_ret
    exact ⟨rfl, rfl⟩
set_option maxRecDepth 100000 in
set_option maxHeartbeats 2000000 in
theorem mayBe_any (u : UnitM) (w : World) : Calls Try.prog 24 #[.agg #[.int .i64 u.least, .int .i64 u.most, .int .i64 u.cost, .int .i64 u.start, .int .i64 u.up, .int .i64 u.down, .int .i64 u.was]] w fun e w' => e = .returned (.bool (mayB u)) ∧ Below w.heap.size w w' := by
  have HU : Hid (mayB u = true ↔ (0 ≤ u.least ∧ u.least ≤ u.most ∧ u.most ≤ 100000 ∧ (0 ≤ u.cost ∧ u.cost ≤ 100000) ∧ (0 ≤ u.start ∧ u.start ≤ 1000000) ∧ (1 ≤ u.up ∧ u.up ≤ 3) ∧ (1 ≤ u.down ∧ u.down ≤ 3) ∧ (-24 ≤ u.was ∧ u.was ≤ 24) ∧ u.was ≠ 0)) := (mayB_iff u).trans ⟨fun h => ⟨h.a, h.b, h.c, h.d, h.e, h.f, h.g, h.h, h.i⟩, fun ⟨a, b, c, d, e, f, g, h, i⟩ => ⟨a, b, c, d, e, f, g, h, i⟩⟩
  have HB : Hid (∀ o, Below w.heap.size w (w.alloc o)) := fun o => (Below.refl _ w).alloc (Nat.le_refl _) o
  go_enter Try.func24, Try.ntmps24
  go_wp2_with (go_at_call 44; refine (within_any _ _ _ _).mono ?_; rintro e w' ⟨rfl, rfl⟩)
  all_goals
    go_ret
    refine ⟨ret_bool ?_, HB.out _⟩
    rw [Bool.eq_iff_iff, HU.out]
    simp_all
    try omega
theorem isNaN_any (x : Int) (w : World) : Calls Try.prog 58 #[.int .i64 x] w fun e w' => e = .returned (.bool false) ∧ w' = w := by
  go_enter Try.func58, Try.ntmps58
  go_wp2
  all_goals
    go_ret
    exact ⟨ret_bool (by simp), rfl⟩
/-- Which of two numbers is less. -/
def cmpI (x y : Int) : Int := if x < y then -1 else if y < x then 1 else 0
theorem Compare_any (x y : Int) (w : World) : Calls Try.prog 47 #[.int .i64 x, .int .i64 y] w fun e w' => e = .returned (.int .i64 (cmpI x y)) ∧ w' = w := by
  go_enter Try.func47, Try.ntmps47
  by_cases h1 : x < y
  · go_wp2_with (go_at_call 58; refine (isNaN_any _ _).mono ?_; rintro e w' ⟨rfl, rfl⟩)
    all_goals
      go_ret
      exact ⟨by rw [cmpI, if_pos (by omega)]; rfl, rfl⟩
  · by_cases h2 : y < x
    · go_wp2_with (go_at_call 58; refine (isNaN_any _ _).mono ?_; rintro e w' ⟨rfl, rfl⟩)
      all_goals
        go_ret
        exact ⟨by rw [cmpI, if_neg (by omega), if_pos (by omega)]; rfl, rfl⟩
    · go_wp2_with (go_at_call 58; refine (isNaN_any _ _).mono ?_; rintro e w' ⟨rfl, rfl⟩)
      all_goals
        go_ret
        exact ⟨by rw [cmpI, if_neg (by omega), if_neg (by omega)]; rfl, rfl⟩
end Go.Proofs.Ytlbeecjkfakkpag
