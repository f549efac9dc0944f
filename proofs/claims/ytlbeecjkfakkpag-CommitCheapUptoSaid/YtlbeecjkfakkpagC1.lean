/- Whether units may be, in the document's answer. -/
import Derived.Test.YtlbeecjkfakkpagC0
namespace Go.Proofs.Ytlbeecjkfakkpag
open Go.RowKit Go.Shelf

theorem inBounds_any (n lo hi : Int) (w : World) : Calls Try.prog 29 #[.int .i64 n, .int .i64 lo, .int .i64 hi] w fun e w' => e = .returned (.bool (decide (lo ≤ n) && decide (n ≤ hi))) ∧ w' = w := by
  go_enter Try.func29, Try.ntmps29
  go_wp2
  all_goals
    go_ret
    exact ⟨ret_bool (by rw [Bool.eq_iff_iff]; simp_all <;> omega), rfl⟩
def MayOut (p : Prop) (w : World) (e : Ending) (w' : World) : Prop := (∃ r : Bool, e = .returned (.bool r) ∧ (r = true ↔ p)) ∧ Below w.heap.size w w'
set_option maxRecDepth 100000 in
set_option maxHeartbeats 2000000 in
theorem UnitMay_any (u : UnitM) (w : World) : Calls Try.prog 48 #[.agg #[.int .i64 u.least, .int .i64 u.most, .int .i64 u.cost, .int .i64 u.start, .int .i64 u.up, .int .i64 u.down, .int .i64 u.was]] w (MayOut (MayU u) w) := by
  have HU : Hid (MayU u ↔ (0 ≤ u.least ∧ u.least ≤ u.most ∧ u.most ≤ 100000 ∧ (0 ≤ u.cost ∧ u.cost ≤ 100000) ∧ (0 ≤ u.start ∧ u.start ≤ 1000000) ∧ (1 ≤ u.up ∧ u.up ≤ 3) ∧ (1 ≤ u.down ∧ u.down ≤ 3) ∧ (-24 ≤ u.was ∧ u.was ≤ 24) ∧ u.was ≠ 0)) := ⟨fun h => ⟨h.a, h.b, h.c, h.d, h.e, h.f, h.g, h.h, h.i⟩, fun h => ⟨h.1, h.2.1, h.2.2.1, h.2.2.2.1, h.2.2.2.2.1, h.2.2.2.2.2.1, h.2.2.2.2.2.2.1, h.2.2.2.2.2.2.2.1, h.2.2.2.2.2.2.2.2⟩⟩
  have HB : Hid (∀ o, Below w.heap.size w (w.alloc o)) := fun o => (Below.refl _ w).alloc (Nat.le_refl _) o
  go_enter Try.func48, Try.ntmps48
  go_wp2_with (go_at_call 29; refine (inBounds_any _ _ _ _).mono ?_; rintro e w' ⟨rfl, rfl⟩)
  all_goals
    go_ret
    refine ⟨⟨_, rfl, ?_⟩, HB.out _⟩
    rw [HU.out]
    simp_all
    try omega
end Go.Proofs.Ytlbeecjkfakkpag
