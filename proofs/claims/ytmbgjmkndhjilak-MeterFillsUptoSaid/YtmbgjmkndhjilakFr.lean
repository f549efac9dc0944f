/- Fractions: pure facts on what a line shows. -/
import Derived.Test.YtmbgjmkndhjilakFq
namespace Go.Proofs.Ytmbgjmkndhjilak
open Go.RowKit Go.Shelf

theorem red {n d : Nat} (hd : 0 < d) : (n / Nat.gcd n d) * d = n * (d / Nat.gcd n d) ∧ 0 < d / Nat.gcd n d ∧ n / Nat.gcd n d ≤ n ∧ d / Nat.gcd n d ≤ d := by
  have hg : 0 < Nat.gcd n d := Nat.gcd_pos_of_pos_right _ hd
  have h1 := Nat.div_mul_cancel (Nat.gcd_dvd_left n d)
  have h2 := Nat.div_mul_cancel (Nat.gcd_dvd_right n d)
  refine ⟨?_, Nat.div_pos (Nat.le_of_dvd hd (Nat.gcd_dvd_right _ _)) hg, Nat.div_le_self _ _, Nat.div_le_self _ _⟩
  conv => lhs; rw [← h2]
  conv => rhs; rw [← h1]
  rw [Nat.mul_assoc, Nat.mul_comm (Nat.gcd _ _) (d / _)]
  rw [← h1, ← h2]
  simp only [h1, h2]
theorem frac_div {n d p q : Nat} (h : n * q = p * d) (hd : 0 < d) (hq : 0 < q) : n / d = p / q := by
  rw [← Nat.mul_div_mul_right n d hq, h, Nat.mul_comm d q, Nat.mul_div_mul_right p q hd]
theorem step_mul {n1 d1 n2 d2 dv dt dx : Nat} (h1 : n1 * dt = dv * d1) (h2 : n2 * d1 = (n1 * dx) * d2) (hd : 0 < d1) : n2 * dt = (dv * dx) * d2 := by
  apply Nat.eq_of_mul_eq_mul_right hd
  have e1 : n2 * dt * d1 = (n2 * d1) * dt := by ac_rfl
  have e2 : (n1 * dx) * d2 * dt = (n1 * dt) * (dx * d2) := by ac_rfl
  have e3 : (dv * d1) * (dx * d2) = (dv * dx) * d2 * d1 := by ac_rfl
  rw [e1, h2, e2, h1, e3]
theorem step_add {n2 d2 n3 d3 p dt c : Nat} (h2 : n2 * dt = c * d2) (h3 : n3 * d2 = (p * d2 + n2) * d3) (hd : 0 < d2) : n3 * dt = (p * dt + c) * d3 := by
  apply Nat.eq_of_mul_eq_mul_right hd
  have e1 : n3 * dt * d2 = (n3 * d2) * dt := by ac_rfl
  have e2 : (p * d2 + n2) * d3 * dt = (p * d2 * dt + n2 * dt) * d3 := by rw [Nat.mul_right_comm, Nat.add_mul]
  have e3 : (p * d2 * dt + c * d2) * d3 = (p * dt + c) * d3 * d2 := by rw [Nat.mul_right_comm p d2 dt, ← Nat.add_mul, Nat.mul_right_comm]
  rw [e1, h3, e2, h2, e3]
/-- What the document's fractions come to is what the program's line shows. -/
theorem line_frac {n3 d3 p0 p1 q0 q1 y : Nat} (h : n3 * (q1 - q0) = (p0 * (q1 - q0) + (p1 - p0) * (y - q0)) * d3) (hd : 0 < d3) (hq : q0 < q1) (hp : p0 ≤ p1) (hy : q0 ≤ y) :
    (4294967295 * d3 < n3 → lineV p0 p1 q0 q1 y = 4294967295) ∧ (n3 ≤ 4294967295 * d3 → lineV p0 p1 q0 q1 y = ((n3 / d3 : Nat) : Int) ∧ n3 / d3 ≤ 4294967295) := by
  obtain ⟨dt, hdt⟩ : ∃ x, x = q1 - q0 := ⟨_, rfl⟩
  obtain ⟨dv, hdv⟩ : ∃ x, x = p1 - p0 := ⟨_, rfl⟩
  obtain ⟨dx, hdx⟩ : ∃ x, x = y - q0 := ⟨_, rfl⟩
  rw [← hdt, ← hdv, ← hdx] at h
  have hp' : 0 < dt := by omega
  have e := frac_div h hd hp'
  have e2 : (p0 * dt + dv * dx) / dt = p0 + dv * dx / dt := by rw [Nat.add_comm, Nat.add_mul_div_right _ _ hp', Nat.add_comm]
  have e3 : ((p0 : Int) + ((p1 : Int) - (p0 : Int)) * ((y : Int) - (q0 : Int)) / ((q1 : Int) - (q0 : Int))) = ((n3 / d3 : Nat) : Int) := by
    rw [show (p1 : Int) - (p0 : Int) = (dv : Int) by omega, show (y : Int) - (q0 : Int) = (dx : Int) by omega, show (q1 : Int) - (q0 : Int) = (dt : Int) by omega, e, e2, Int.natCast_add, Int.natCast_ediv, Int.natCast_mul]
  unfold lineV
  rw [e3]
  constructor
  · intro hlt
    have h1 : 4294967295 ≤ n3 / d3 := (Nat.le_div_iff_mul_le hd).2 (Nat.le_of_lt hlt)
    by_cases h2 : n3 / d3 = 4294967295
    · rw [h2]
      split <;> rfl
    · rw [if_pos (by omega)]
  · intro hle
    have h1 : n3 / d3 ≤ 4294967295 := by
      have := Nat.div_le_div_right (c := d3) hle
      rwa [Nat.mul_div_cancel _ hd] at this
    exact ⟨by rw [if_neg (by omega)], h1⟩
theorem small_big {n : Nat} (h : n ≤ 10000 ^ 20) : Small n := by
  have h1 : (10000 : Nat) ^ 20 < 10000 ^ 100 := Nat.pow_lt_pow_right (by decide) (by decide)
  exact Nat.lt_of_le_of_lt h h1
end Go.Proofs.Ytmbgjmkndhjilak
