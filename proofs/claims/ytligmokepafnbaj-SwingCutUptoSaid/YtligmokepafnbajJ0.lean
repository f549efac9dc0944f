/- Pure: a number times 1 is itself; a number less itself is 0; where nothing is off, it stays so. -/
import Derived.Test.YtligmokepafnbajG0
namespace Go.Proofs.Ytligmokepafnbaj
open Go.RowKit Go.Shelf

theorem log2_shift {m : Nat} (hm : m ≠ 0) : (m * 4503599627370496).log2 = m.log2 + 52 := by
  have h : (m * 4503599627370496) = m <<< 52 := by rw [Nat.shiftLeft_eq]
  rw [h]
  refine (Nat.log2_eq_iff (by rw [Nat.shiftLeft_eq]; omega)).2 ?_
  have h1 := Nat.log2_self_le hm
  have h2 := Nat.lt_log2_self (n := m)
  rw [Nat.shiftLeft_eq]
  constructor
  · rw [Nat.pow_add]; exact Nat.mul_le_mul_right _ h1
  · rw [show m.log2 + 52 + 1 = (m.log2 + 1) + 52 by omega, Nat.pow_add]; exact (Nat.mul_lt_mul_right (by decide)).2 h2

theorem mag_log {m k r : Nat} (h : Mag m k r) (hm : m ≠ 0) : max ((-1074 + (k : Int)) - 52 + ((m.log2 + 52 : Nat) : Int) - 52) (-1074) = -1074 + (k : Int) := by
  rcases h with ⟨h1, h2, h3⟩ | ⟨h1, h2, h3⟩
  · have : m.log2 < 52 := (Nat.log2_lt hm).2 (by omega)
    omega
  · have a : m < 2 ^ 53 := by omega
    have b : m.log2 < 53 := (Nat.log2_lt hm).2 a
    have c : 52 ≤ m.log2 := (Nat.le_log2 hm).2 (by omega)
    omega

theorem word_rng {x : Nat} (hx : x < 2 ^ 64) : Ieee.double.word (sgn x) (rng x) = x := by
  have hs : Ieee.double.signWeight = 9223372036854775808 := by decide
  have h2 : (2 : Nat) ^ 64 = 18446744073709551616 := by decide
  unfold Ieee.Format.word sgn rng
  rw [hs]
  rw [h2] at hx
  by_cases h : x / 9223372036854775808 % 2 = 1
  · rw [if_pos (by simp [h])]; omega
  · rw [if_neg (by simp [h])]; omega

theorem mag_rung {m k r : Nat} (h : Mag m k r) (hr : r < 9218868437227405312) : min (k * 4503599627370496 + m) 9218868437227405312 = r := by
  have e : k * 4503599627370496 + m = r := by
    rcases h with ⟨h1, h2, h3⟩ | ⟨h1, h2, h3⟩ <;> omega
  rw [e]
  exact Nat.min_eq_left (Nat.le_of_lt hr)
/-- what is written of a word's own number is the word -/
theorem nearest_own {x m k : Nat} (hx : x < 2 ^ 64) (hr : rng x < 9218868437227405312) (h : Mag m k (rng x)) : Ieee.double.nearest (sgn x) (m * 4503599627370496) (-1074 + (k : Int) - 52) = x := by
  have hb : Ieee.double.binade = 4503599627370496 := by decide
  have hi : Ieee.double.infRung = 9218868437227405312 := by decide
  have hl : Ieee.double.leastPlace = -1074 := by decide
  have hf : (Ieee.double.fractionBits : Int) = 52 := by decide
  by_cases hm : m = 0
  · subst hm
    unfold Ieee.Format.nearest
    rw [Nat.zero_mul, if_pos rfl]
    have : rng x = 0 := by unfold Mag at h; omega
    have hw := word_rng hx
    rw [this] at hw
    exact hw
  · unfold Ieee.Format.nearest
    rw [if_neg (by omega)]
    dsimp only
    rw [hb, hi, hl, hf, log2_shift hm, mag_log h hm]
    have e1 : ((-1074 + (k : Int) - 52) - (-1074 + (k : Int))).toNat = 0 := by omega
    have e2 : ((-1074 + (k : Int)) - (-1074 + (k : Int) - 52)).toNat = 52 := by omega
    have e3 : ((-1074 + (k : Int)) - -1074).toNat = k := by omega
    rw [e1, e2, e3, Nat.shiftLeft_zero]
    have hc : Ieee.Toward.even.cut (sgn x) (m * 4503599627370496) 52 = m := by
      have hmin : min 52 (m.log2 + 52 + 2) = 52 := Nat.min_eq_left (by omega)
      have hg : (1 : Nat) <<< 52 = 4503599627370496 := rfl
      have hd : m * 4503599627370496 / 4503599627370496 = m := Nat.mul_div_cancel _ (Nat.succ_pos _)
      have hmd : m * 4503599627370496 % 4503599627370496 = 0 := Nat.mul_mod_left _ _
      unfold Ieee.Toward.cut
      dsimp only
      rw [log2_shift hm, hmin, hg, hd, hmd]
      rfl
    rw [hc]
    rw [mag_rung h hr]
    exact word_rng hx

theorem mul_one {x : Nat} (hx : x < 2 ^ 64) (hr : rng x < 9218868437227405312) : floatBits .mul .f64 x 4607182418800017408 = some x := by
  obtain ⟨m, k, h1, h2⟩ := read_number hr
  have h3 : Ieee.double.read 4607182418800017408 = .number false 4503599627370496 (-52) := by decide
  show Option.map Ieee.double.write ((Ieee.double.read x).product (Ieee.double.read 4607182418800017408)) = some x
  rw [h2, h3]
  show some (Ieee.double.nearest (sgn x ^^ false) (m * 4503599627370496) (-1074 + (k : Int) + -52)) = some x
  rw [Bool.xor_false, show (-1074 + (k : Int) + -52) = -1074 + (k : Int) - 52 by omega, nearest_own hx hr h1]

theorem sub_self {x : Nat} (hr : rng x < 9218868437227405312) : floatBits .sub .f64 x x = some 0 := by
  obtain ⟨m, k, _, h2⟩ := read_number hr
  show Option.map Ieee.double.write ((Ieee.double.read x).sum (Ieee.double.read x).opposite) = some 0
  rw [h2]
  simp only [Ieee.Datum.opposite, Ieee.Datum.sum, Int.min_self, Int.sub_self, Int.toNat_zero]
  have e : Ieee.signed (sgn x) m 0 + Ieee.signed (!sgn x) m 0 = 0 := by
    rw [signed_mul, signed_mul]
    cases sgn x <;> simp <;> omega
  rw [e, if_pos rfl]
  cases sgn x <;> rfl

theorem nm_num {x : Nat} (hr : rng x < 9218868437227405312) : nm x = some x := by
  refine nm_some ?_
  unfold nanB
  obtain ⟨m, k, _, h2⟩ := read_number hr
  rw [h2]
  rfl
/-- the frequency stays 0 -/
theorem step_still {x : Nat} (hx : x < 2 ^ 64) (hr : rng x < 9218868437227405312) : stepO (some 0) (nm x) (fop .mul (nm x) (some 4607182418800017408)) (some 4611686018427387904) (some 4617315517961601024) (some 4598175219545276416) = some 0 := by
  rw [nm_num hr]
  have h1 : fop .mul (some x) (some 4607182418800017408) = some x := mul_one hx hr
  have h2 : fop .sub (some x) (some x) = some 0 := sub_self hr
  unfold stepO
  rw [h1, h2]
  decide

end Go.Proofs.Ytligmokepafnbaj
