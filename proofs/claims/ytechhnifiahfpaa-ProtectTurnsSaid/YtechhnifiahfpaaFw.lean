/- Whole numbers as floats: sums, products and comparisons of whole floats below 2^53 are exact. -/
import Derived.Test.YtechhnifiahfpaaYb
import Derived.Laws.FloatArith
import Derived.Laws.ComplexArith
namespace Go.Proofs.Ytechhnifiahfpaa
open Ieee

/-- The float's bits stand for a whole number (either zero for nought). -/
def Wh (x : Nat) (z : Int) : Prop := x < 18446744073709551616 ∧ ∃ (s : Bool) (m k : Nat), double.read x = .number s m (-(k : Int)) ∧ signed s m 0 = z * 2 ^ k

theorem sw : double.signWeight = 9223372036854775808 := rfl
theorem bn : double.binade = 4503599627370496 := rfl
theorem ir : double.infRung = 9218868437227405312 := rfl
theorem lp : double.leastPlace = -1074 := rfl
theorem fb : double.fractionBits = 52 := rfl
theorem word_sign (s : Bool) (r : Nat) (h : r < 9223372036854775808) : (double.word s r / 9223372036854775808 % 2 == 1) = s ∧ double.word s r % 9223372036854775808 = r := by
  unfold Format.word
  rw [sw]
  cases s
  · simp only [Bool.false_eq_true, if_false]
    exact ⟨by rw [Nat.div_eq_of_lt h]; rfl, Nat.mod_eq_of_lt h⟩
  · simp only [if_true]
    refine ⟨?_, by omega⟩
    have : (9223372036854775808 + r) / 9223372036854775808 = 1 := by omega
    rw [this]; rfl
theorem read_norm (s : Bool) (r : Nat) (h1 : 4503599627370496 ≤ r) (h2 : r < 9218868437227405312) : double.read (double.word s r) = .number s (4503599627370496 + r % 4503599627370496) (-1074 + ((r / 4503599627370496 - 1 : Nat) : Int)) := by
  have hw := word_sign s r (by omega)
  unfold Format.read
  rw [sw, bn, ir, lp]
  simp only [hw.1, hw.2]
  rw [if_neg (by omega), if_pos h2]
theorem read_zero (s : Bool) : double.read (double.word s 0) = .number s 0 (-1074) := by
  have hw := word_sign s 0 (by decide)
  unfold Format.read
  rw [sw, bn, ir, lp]
  simp only [hw.1, hw.2]
  rw [if_pos (by decide)]
theorem log2_up (n K : Nat) (h : n ≠ 0) : (n * 2 ^ K).log2 = n.log2 + K := by
  have hK : 0 < 2 ^ K := Nat.two_pow_pos K
  have h0 : n * 2 ^ K ≠ 0 := Nat.mul_ne_zero h (by omega)
  rw [Nat.log2_eq_iff h0]
  have h1 := (Nat.log2_eq_iff h).1 rfl
  refine ⟨?_, ?_⟩
  · rw [Nat.pow_add]; exact Nat.mul_le_mul_right _ h1.1
  · rw [show n.log2 + K + 1 = (n.log2 + 1) + K by omega, Nat.pow_add]; exact Nat.mul_lt_mul_of_pos_right h1.2 hK
theorem cut_exact (s : Bool) (q d : Nat) : Toward.even.cut s (q * 2 ^ d) d = q := by
  unfold Toward.cut
  by_cases hq : q = 0
  · subst hq
    simp
  · have hl := log2_up q d hq
    have hm : min d ((q * 2 ^ d).log2 + 2) = d := by rw [hl]; omega
    have hp : 0 < 2 ^ d := Nat.two_pow_pos d
    simp only [hm, Nat.one_shiftLeft]
    rw [Nat.mul_div_cancel _ hp, Nat.mul_mod_left]
    have e1 : decide (2 ^ d < 2 * 0) = false := by simp
    have e2 : ((2 ^ d == 2 * 0) : Bool) = false := by
      rw [beq_eq_false_iff_ne]; omega
    simp [e2]
theorem nearest_whole (s : Bool) (n K : Nat) (h0 : n ≠ 0) (h : n < 2 ^ 53) : double.nearest s (n * 2 ^ K) (-(K : Int)) = double.word s ((n.log2 + 1022) * 4503599627370496 + n * 2 ^ (52 - n.log2)) := by
  have hK : 0 < 2 ^ K := Nat.two_pow_pos K
  have hL : n.log2 ≤ 52 := by
    have := (Nat.log2_lt h0).2 h
    omega
  have hl := log2_up n K h0
  unfold Format.nearest
  rw [if_neg (Nat.mul_ne_zero h0 (by omega)), lp, fb, bn, ir, hl]
  have e1 : max (-(K : Int) + ((n.log2 + K : Nat) : Int) - ((52 : Nat) : Int)) (-1074) = (n.log2 : Int) - 52 := by omega
  rw [e1]
  dsimp only
  have e2 : ((n.log2 : Int) - 52 - -1074).toNat = n.log2 + 1022 := by omega
  rw [e2]
  have hcut : Toward.even.cut s ((n * 2 ^ K) <<< (-(K : Int) - ((n.log2 : Int) - 52)).toNat) ((n.log2 : Int) - 52 - -(K : Int)).toNat = n * 2 ^ (52 - n.log2) := by
    by_cases hc : 52 - n.log2 ≤ K
    · have a1 : (-(K : Int) - ((n.log2 : Int) - 52)).toNat = 0 := by omega
      have a2 : ((n.log2 : Int) - 52 - -(K : Int)).toNat = K - (52 - n.log2) := by omega
      rw [a1, a2, Nat.shiftLeft_zero]
      have a3 : n * 2 ^ K = (n * 2 ^ (52 - n.log2)) * 2 ^ (K - (52 - n.log2)) := by
        rw [Nat.mul_assoc, ← Nat.pow_add, show 52 - n.log2 + (K - (52 - n.log2)) = K by omega]
      rw [a3]
      exact cut_exact _ _ _
    · have a1 : (-(K : Int) - ((n.log2 : Int) - 52)).toNat = 52 - n.log2 - K := by omega
      have a2 : ((n.log2 : Int) - 52 - -(K : Int)).toNat = 0 := by omega
      rw [a1, a2, Nat.shiftLeft_eq, Nat.mul_assoc, ← Nat.pow_add, show K + (52 - n.log2 - K) = 52 - n.log2 by omega]
      have := cut_exact s (n * 2 ^ (52 - n.log2)) 0
      rwa [Nat.pow_zero, Nat.mul_one] at this
  rw [hcut]
  have hb := (Nat.log2_eq_iff h0).1 rfl
  have hu : n * 2 ^ (52 - n.log2) < 9007199254740992 := by
    have : n * 2 ^ (52 - n.log2) < 2 ^ (n.log2 + 1) * 2 ^ (52 - n.log2) := Nat.mul_lt_mul_of_pos_right hb.2 (Nat.two_pow_pos _)
    rw [← Nat.pow_add, show n.log2 + 1 + (52 - n.log2) = 53 by omega] at this
    exact this
  rw [Nat.min_eq_left (by omega)]
theorem kept_bound (n : Nat) (h0 : n ≠ 0) (h : n < 2 ^ 53) : 4503599627370496 ≤ n * 2 ^ (52 - n.log2) ∧ n * 2 ^ (52 - n.log2) < 9007199254740992 ∧ n.log2 ≤ 52 := by
  have hL : n.log2 ≤ 52 := by
    have := (Nat.log2_lt h0).2 h
    omega
  have hb := (Nat.log2_eq_iff h0).1 rfl
  refine ⟨?_, ?_, hL⟩
  · have : 2 ^ n.log2 * 2 ^ (52 - n.log2) ≤ n * 2 ^ (52 - n.log2) := Nat.mul_le_mul_right _ hb.1
    rw [← Nat.pow_add, show n.log2 + (52 - n.log2) = 52 by omega] at this
    exact this
  · have : n * 2 ^ (52 - n.log2) < 2 ^ (n.log2 + 1) * 2 ^ (52 - n.log2) := Nat.mul_lt_mul_of_pos_right hb.2 (Nat.two_pow_pos _)
    rw [← Nat.pow_add, show n.log2 + 1 + (52 - n.log2) = 53 by omega] at this
    exact this
/-- What is written of a whole number is read as that number. -/
theorem read_nearest (s : Bool) (n K : Nat) (h : n < 2 ^ 53) : ∃ m k : Nat, double.read (double.nearest s (n * 2 ^ K) (-(K : Int))) = .number s m (-(k : Int)) ∧ m = n * 2 ^ k := by
  by_cases h0 : n = 0
  · subst h0
    refine ⟨0, 1074, ?_, by omega⟩
    rw [Nat.zero_mul]
    exact read_zero s
  · rw [nearest_whole s n K h0 h]
    obtain ⟨b1, b2, hL⟩ := kept_bound n h0 h
    obtain ⟨q, hq⟩ : ∃ q, q = n * 2 ^ (52 - n.log2) := ⟨_, rfl⟩
    rw [← hq] at b1 b2 ⊢
    rw [read_norm s _ (by omega) (by omega)]
    refine ⟨q, 52 - n.log2, ?_, hq⟩
    have e1 : 4503599627370496 + ((n.log2 + 1022) * 4503599627370496 + q) % 4503599627370496 = q := by omega
    have e2 : ((n.log2 + 1022) * 4503599627370496 + q) / 4503599627370496 - 1 = n.log2 + 1022 := by omega
    rw [e1, e2, show (-1074 + ((n.log2 + 1022 : Nat) : Int)) = -((52 - n.log2 : Nat) : Int) by omega]
theorem signed_eq (s : Bool) (m up : Nat) : signed s m up = signed s m 0 * 2 ^ up := by
  unfold signed
  simp only [Nat.shiftLeft_eq, Nat.pow_zero, Nat.mul_one]
  cases s
  · simp
  · simp [Int.neg_mul]
theorem signed_abs (z : Int) (k : Nat) (s : Bool) (hs : z ≠ 0 → s = decide (z < 0)) : signed s (z.natAbs * 2 ^ k) 0 = z * 2 ^ k := by
  unfold signed
  simp only [Nat.shiftLeft_zero]
  by_cases hz : z = 0
  · subst hz; cases s <;> simp
  · rw [hs hz]
    by_cases hn : z < 0
    · simp only [decide_eq_true hn, if_true]
      have : (z.natAbs : Int) = -z := by omega
      push_cast
      rw [this, Int.neg_mul, Int.neg_neg]
    · simp only [decide_eq_false hn, Bool.false_eq_true, if_false]
      have : (z.natAbs : Int) = z := by omega
      push_cast
      rw [this]
theorem mag_of {s : Bool} {m i : Nat} {a : Int} (hs : signed s m 0 = a * 2 ^ i) : m = a.natAbs * 2 ^ i := by
  have := congrArg Int.natAbs hs
  rw [Int.natAbs_mul, Int.natAbs_pow] at this
  unfold signed at this
  simp only [Nat.shiftLeft_zero] at this
  cases s <;> simp at this <;> omega
theorem sgn {s : Bool} {m i : Nat} {a : Int} (ha : a ≠ 0) (hs : signed s m 0 = a * 2 ^ i) : s = decide (a < 0) := by
  have hp : (0 : Int) < 2 ^ i := Int.pow_pos (by decide)
  unfold signed at hs
  simp only [Nat.shiftLeft_zero] at hs
  cases s
  · simp only [Bool.false_eq_true, if_false] at hs
    rw [eq_comm, decide_eq_false_iff_not]
    intro hc
    have := Int.mul_neg_of_neg_of_pos hc hp
    omega
  · simp only [if_true] at hs
    rw [eq_comm, decide_eq_true_iff]
    by_cases hc : a < 0
    · exact hc
    · exfalso
      have := Int.mul_pos (by omega : 0 < a) hp
      omega
/-- A whole number that is written. -/
theorem wh_write (s : Bool) (M K : Nat) (z : Int) (hM : M = z.natAbs * 2 ^ K) (hs : z ≠ 0 → s = decide (z < 0)) (h : z.natAbs < 2 ^ 53) : Wh (double.write (.number s M (-(K : Int)))) z := by
  subst hM
  obtain ⟨m, k, h1, rfl⟩ := read_nearest s z.natAbs K h
  exact ⟨double.write_lt _, s, _, k, h1, signed_abs z k s hs⟩
theorem wh_of (n : Int) (h : n.natAbs < 2 ^ 53) : Wh (floatOfInt .f64 n) n :=
  wh_write (decide (n < 0)) n.natAbs 0 n (by simp) (fun _ => rfl) h
theorem wh_add {x y : Nat} {a b : Int} (hx : Wh x a) (hy : Wh y b) (h : (a + b).natAbs < 2 ^ 53) : ∃ r, floatBits .add .f64 x y = some r ∧ Wh r (a + b) := by
  obtain ⟨_, s, m, i, hr, hs⟩ := hx
  obtain ⟨_, t, n, j, hq, ht⟩ := hy
  refine ⟨_, by show (Datum.sum (double.read x) (double.read y)).map double.write = _; rw [hr, hq]; rfl, ?_⟩
  have hb : min (-(i : Int)) (-(j : Int)) = -((max i j : Nat) : Int) := by omega
  rw [hb]
  have e1 : (-(i : Int) - -((max i j : Nat) : Int)).toNat = max i j - i := by omega
  have e2 : (-(j : Int) - -((max i j : Nat) : Int)).toNat = max i j - j := by omega
  rw [e1, e2]
  have e3 : signed s m (max i j - i) + signed t n (max i j - j) = (a + b) * 2 ^ max i j := by
    rw [signed_eq s, signed_eq t, hs, ht, Int.mul_assoc, Int.mul_assoc, ← Int.pow_add, ← Int.pow_add, show i + (max i j - i) = max i j by omega, show j + (max i j - j) = max i j by omega, Int.add_mul]
  rw [e3]
  have hp : (0 : Int) < 2 ^ max i j := Int.pow_pos (by decide)
  refine wh_write _ _ _ _ ?_ ?_ h
  · rw [Int.natAbs_mul, Int.natAbs_pow]; rfl
  · intro hz
    rw [if_neg (fun hc => by rcases Int.mul_eq_zero.1 hc with h1 | h1 <;> omega)]
    by_cases hn : a + b < 0
    · rw [decide_eq_true hn, decide_eq_true (Int.mul_neg_of_neg_of_pos hn hp)]
    · rw [decide_eq_false hn, decide_eq_false (by have := Int.mul_nonneg (by omega : 0 ≤ a + b) (Int.le_of_lt hp); omega)]
theorem wh_mul {x y : Nat} {a b : Int} (hx : Wh x a) (hy : Wh y b) (h : (a * b).natAbs < 2 ^ 53) : ∃ r, floatBits .mul .f64 x y = some r ∧ Wh r (a * b) := by
  obtain ⟨_, s, m, i, hr, hs⟩ := hx
  obtain ⟨_, t, n, j, hq, ht⟩ := hy
  refine ⟨_, by show (Datum.product (double.read x) (double.read y)).map double.write = _; rw [hr, hq]; rfl, ?_⟩
  have hb : -(i : Int) + -(j : Int) = -((i + j : Nat) : Int) := by omega
  rw [hb]
  have hm' := mag_of hs
  have hn' := mag_of ht
  refine wh_write _ _ _ _ ?_ ?_ h
  · rw [hm', hn', Int.natAbs_mul, Nat.pow_add]; ac_rfl
  · intro hz
    have ha : a ≠ 0 := fun e => hz (by rw [e, Int.zero_mul])
    have hb : b ≠ 0 := fun e => hz (by rw [e, Int.mul_zero])
    rw [sgn ha hs, sgn hb ht]
    by_cases h1 : a < 0 <;> by_cases h2 : b < 0
    · rw [decide_eq_true h1, decide_eq_true h2, decide_eq_false (by have := Int.mul_pos_of_neg_of_neg h1 h2; omega)]; rfl
    · rw [decide_eq_true h1, decide_eq_false h2, decide_eq_true (Int.mul_neg_of_neg_of_pos h1 (by omega))]; rfl
    · rw [decide_eq_false h1, decide_eq_true h2, decide_eq_true (Int.mul_neg_of_pos_of_neg (by omega) h2)]; rfl
    · rw [decide_eq_false h1, decide_eq_false h2, decide_eq_false (by have := Int.mul_pos (by omega : 0 < a) (by omega : 0 < b); omega)]; rfl
theorem wh_order {x y : Nat} {a b : Int} (hx : Wh x a) (hy : Wh y b) : double.order x y = some (compare a b) := by
  obtain ⟨_, s, m, i, hr, hs⟩ := hx
  obtain ⟨_, t, n, j, hq, ht⟩ := hy
  show Datum.order (double.read x) (double.read y) = _
  rw [hr, hq]
  show some (compare (signed s m _) (signed t n _)) = _
  have hb : min (-(i : Int)) (-(j : Int)) = -((max i j : Nat) : Int) := by omega
  rw [hb]
  have e1 : (-(i : Int) - -((max i j : Nat) : Int)).toNat = max i j - i := by omega
  have e2 : (-(j : Int) - -((max i j : Nat) : Int)).toNat = max i j - j := by omega
  rw [e1, e2, signed_eq s, signed_eq t, hs, ht, Int.mul_assoc, Int.mul_assoc, ← Int.pow_add, ← Int.pow_add, show i + (max i j - i) = max i j by omega, show j + (max i j - j) = max i j by omega]
  have hp : (0 : Int) < 2 ^ max i j := Int.pow_pos (by decide)
  congr 1
  unfold compare
  show compareOfLessAndEq _ _ = compareOfLessAndEq _ _
  unfold compareOfLessAndEq
  by_cases h1 : a < b
  · rw [if_pos h1, if_pos (Int.mul_lt_mul_of_pos_right h1 hp)]
  · by_cases h2 : a = b
    · rw [if_neg h1, if_pos h2, h2, if_neg (by omega), if_pos rfl]
    · have h3 : b < a := by omega
      have := Int.mul_lt_mul_of_pos_right h3 hp
      rw [if_neg h1, if_neg h2, if_neg (by omega), if_neg (by omega)]
theorem read_sign {x y : Nat} {s t : Bool} {m : Nat} {e : Int} (h : double.read x = .number s m e) (h1 : y % 9223372036854775808 = x % 9223372036854775808) (h2 : (y / 9223372036854775808 % 2 == 1) = t) : double.read y = .number t m e := by
  unfold Format.read at h ⊢
  rw [sw, bn, ir, lp] at h ⊢
  simp only [h1, h2]
  simp only at h
  split at h
  · next hc => cases h; rw [if_pos hc]
  · next hc =>
    split at h
    · next hd => cases h; rw [if_neg hc, if_pos hd]
    · split at h <;> cases h
theorem wh_abs {x : Nat} {z : Int} (h : Wh x z) : Wh (x % 9223372036854775808) (z.natAbs : Int) := by
  obtain ⟨_, s, m, k, hr, hs⟩ := h
  refine ⟨by omega, false, m, k, read_sign hr (Nat.mod_mod _ _) (by rw [Nat.div_eq_of_lt (Nat.mod_lt _ (by decide))]; rfl), ?_⟩
  rw [mag_of hs]
  exact signed_abs z.natAbs k false (fun hz => by rw [eq_comm, decide_eq_false_iff_not]; omega)
theorem wh_neg {x : Nat} {z : Int} (h : Wh x z) : Wh (Op.negFloat .f64 x) (-z) := by
  obtain ⟨hx, s, m, k, hr, hs⟩ := h
  have hn : Op.negFloat .f64 x = x ^^^ 2 ^ 63 := rfl
  have h1 : (x ^^^ 2 ^ 63) % 2 ^ 63 = x % 2 ^ 63 := by rw [Nat.xor_mod_two_pow]; simp
  have h2 : (x ^^^ 2 ^ 63) / 2 ^ 63 = (x / 2 ^ 63) ^^^ 1 := by rw [Nat.xor_div_two_pow, Nat.div_self (by decide)]
  have hd : x / 9223372036854775808 = 0 ∨ x / 9223372036854775808 = 1 := by omega
  have hsg : (x / 9223372036854775808 % 2 == 1) = s := by
    have := hr
    unfold Format.read at this
    rw [sw, bn, ir, lp] at this
    simp only at this
    split at this
    · injection this
    · split at this
      · injection this
      · split at this <;> cases this
  have hlt : (x ^^^ 2 ^ 63) < 18446744073709551616 := Nat.xor_lt_two_pow (n := 64) hx (by decide)
  rw [hn]
  refine ⟨hlt, !s, m, k, read_sign hr h1 ?_, ?_⟩
  · rw [show (9223372036854775808 : Nat) = 2 ^ 63 from rfl, h2, ← hsg]
    rcases hd with e | e <;> rw [show (2 : Nat) ^ 63 = 9223372036854775808 from rfl, e] <;> rfl
  · unfold signed at hs ⊢
    simp only [Nat.shiftLeft_zero] at hs ⊢
    cases s
    · simp only [Bool.false_eq_true, if_false, Bool.not_false, if_true] at hs ⊢
      rw [hs, Int.neg_mul]
    · simp only [Bool.false_eq_true, if_false, Bool.not_true, if_true] at hs ⊢
      rw [Int.neg_mul, ← hs, Int.neg_neg]
theorem cut_zero (s : Bool) (q d : Nat) : Toward.zero.cut s (q * 2 ^ d) d = q := by
  unfold Toward.cut
  by_cases hq : q = 0
  · subst hq
    simp
  · have hl := log2_up q d hq
    have hm : min d ((q * 2 ^ d).log2 + 2) = d := by rw [hl]; omega
    have hp : 0 < 2 ^ d := Nat.two_pow_pos d
    simp only [hm, Nat.one_shiftLeft]
    rw [Nat.mul_div_cancel _ hp]
    simp
theorem wh_trunc {x : Nat} {z : Int} (h : Wh x z) (hz : z.natAbs < 2 ^ 53) : Wh (FloatKind.f64.encode ((FloatKind.f64.decode x).integral .zero)) z := by
  obtain ⟨_, s, m, k, hr, hs⟩ := h
  have e1 : FloatKind.f64.decode x = .number s m (-(k : Int)) := hr
  rw [e1]
  show Wh (double.write (.number s (Toward.zero.cut s (m <<< (-(k : Int)).toNat) (-(-(k : Int))).toNat) 0)) z
  have a1 : (-(k : Int)).toNat = 0 := by omega
  have a2 : (-(-(k : Int))).toNat = k := by omega
  rw [a1, a2, Nat.shiftLeft_zero, mag_of hs, cut_zero]
  exact wh_write s z.natAbs 0 z (by simp) (fun h0 => sgn h0 hs) hz
theorem wh_num {x : Nat} {z : Int} (h : Wh x z) : ∃ s m e, FloatKind.f64.decode x = .number s m e := by
  obtain ⟨_, s, m, k, hr, _⟩ := h
  exact ⟨s, m, _, hr⟩
end Go.Proofs.Ytechhnifiahfpaa
