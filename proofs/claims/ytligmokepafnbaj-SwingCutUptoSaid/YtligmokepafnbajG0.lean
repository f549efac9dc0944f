/- Pure: two floats that stand alike are the same, but for the two noughts; the least of a row, as the program finds it and as the document tells it. -/
import Derived.Test.YtligmokepafnbajF1
namespace Go.Proofs.Ytligmokepafnbaj
open Go.RowKit Go.Shelf

/-- What a word that is no 'no number' reads as: its sign, and its rung. -/
def sgn (x : Nat) : Bool := x / 9223372036854775808 % 2 == 1
def rng (x : Nat) : Nat := x % 9223372036854775808

theorem read_eq (x : Nat) : Ieee.double.read x =
    (if rng x < 4503599627370496 then .number (sgn x) (rng x) (-1074)
    else if rng x < 9218868437227405312 then .number (sgn x) (4503599627370496 + rng x % 4503599627370496) (-1074 + (rng x / 4503599627370496 - 1 : Nat))
    else if rng x = 9218868437227405312 then .infinity (sgn x)
    else .nan (sgn x) (rng x - 9218868437227405312)) := by
  have hi : Ieee.double.infRung = 9218868437227405312 := by decide
  have hs : Ieee.double.signWeight = 9223372036854775808 := by decide
  have hb : Ieee.double.binade = 4503599627370496 := by decide
  have hl : Ieee.double.leastPlace = -1074 := by decide
  unfold Ieee.Format.read
  dsimp only
  rw [hi, hs, hb, hl]
  rfl

theorem word_of {x y : Nat} (hx : x < 2 ^ 64) (hy : y < 2 ^ 64) (hs : sgn x = sgn y) (hr : rng x = rng y) : x = y := by
  unfold sgn at hs
  unfold rng at hr
  have h2 : (2 : Nat) ^ 64 = 18446744073709551616 := by decide
  rw [h2] at hx hy
  have hq : x / 9223372036854775808 % 2 = y / 9223372036854775808 % 2 := by
    have a : x / 9223372036854775808 % 2 < 2 := Nat.mod_lt _ (by decide)
    have b : y / 9223372036854775808 % 2 < 2 := Nat.mod_lt _ (by decide)
    generalize x / 9223372036854775808 % 2 = p at *
    generalize y / 9223372036854775808 % 2 = q at *
    have hp : p = 0 ∨ p = 1 := by omega
    have hq : q = 0 ∨ q = 1 := by omega
    rcases hp with rfl | rfl <;> rcases hq with rfl | rfl <;> simp_all
  omega

theorem signed_mul (s : Bool) (m u : Nat) : Ieee.signed s m u = if s then -((m * 2 ^ u : Nat) : Int) else ((m * 2 ^ u : Nat) : Int) := by
  unfold Ieee.signed
  rw [Nat.shiftLeft_eq]

theorem signed_eq {s t : Bool} {m n u v : Nat} (h : Ieee.signed s m u = Ieee.signed t n v) : (m = 0 ∧ n = 0) ∨ (s = t ∧ m * 2 ^ u = n * 2 ^ v) := by
  rw [signed_mul, signed_mul] at h
  have h1 : m * 2 ^ u = n * 2 ^ v := by cases s <;> cases t <;> simp only [if_true, Bool.false_eq_true, if_false] at h <;> omega
  by_cases hm : m = 0
  · subst hm
    rw [Nat.zero_mul] at h1
    rcases Nat.mul_eq_zero.1 h1.symm with h2 | h2
    · exact .inl ⟨rfl, h2⟩
    · exact absurd h2 (Nat.ne_of_gt (Nat.two_pow_pos v))
  · have hp : 0 < m * 2 ^ u := Nat.mul_pos (Nat.pos_of_ne_zero hm) (Nat.two_pow_pos u)
    refine .inr ⟨?_, h1⟩
    cases s <;> cases t <;> simp only [if_true, Bool.false_eq_true, if_false] at h <;> first | rfl | omega

theorem pow_two_le {d : Nat} (h : 0 < d) : 2 ≤ 2 ^ d := by
  cases d with
  | zero => cases h
  | succ d => have := Nat.two_pow_pos d; rw [Nat.pow_succ]; omega

/-- magnitudes and places that a word may have -/
def Mag (m : Nat) (k : Nat) (r : Nat) : Prop := (r < 4503599627370496 ∧ m = r ∧ k = 0) ∨ (4503599627370496 ≤ r ∧ m = 4503599627370496 + r % 4503599627370496 ∧ k = r / 4503599627370496 - 1)

theorem mag_one {m n k l r q : Nat} (h : Mag m k r) (h' : Mag n l q) (hm : m * 2 ^ (k - min k l) = n * 2 ^ (l - min k l)) : r = q := by
  have a : m < 9007199254740992 := by rcases h with ⟨_, _, _⟩ | ⟨_, _, _⟩ <;> omega
  have b : n < 9007199254740992 := by rcases h' with ⟨_, _, _⟩ | ⟨_, _, _⟩ <;> omega
  rcases Nat.lt_trichotomy k l with hkl | hkl | hkl
  · rw [Nat.min_eq_left (Nat.le_of_lt hkl), Nat.sub_self, Nat.pow_zero, Nat.mul_one] at hm
    have h2 := pow_two_le (d := l - k) (by omega)
    have hn : 4503599627370496 ≤ n := by rcases h' with ⟨_, _, _⟩ | ⟨_, _, _⟩ <;> omega
    have := Nat.mul_le_mul hn h2
    omega
  · subst hkl
    rw [Nat.min_self, Nat.sub_self, Nat.pow_zero, Nat.mul_one, Nat.mul_one] at hm
    subst hm
    rcases h with ⟨h1, h2, h3⟩ | ⟨h1, h2, h3⟩ <;> rcases h' with ⟨g1, g2, g3⟩ | ⟨g1, g2, g3⟩ <;> omega
  · rw [Nat.min_eq_right (Nat.le_of_lt hkl), Nat.sub_self, Nat.pow_zero, Nat.mul_one] at hm
    have h2 := pow_two_le (d := k - l) (by omega)
    have hn : 4503599627370496 ≤ m := by rcases h with ⟨_, _, _⟩ | ⟨_, _, _⟩ <;> omega
    have := Nat.mul_le_mul hn h2
    omega

/-- a word of a number: its magnitude and place -/
theorem read_number {x : Nat} (h : rng x < 9218868437227405312) : ∃ m k, Mag m k (rng x) ∧ Ieee.double.read x = .number (sgn x) m (-1074 + (k : Int)) := by
  rw [read_eq]
  by_cases h1 : rng x < 4503599627370496
  · rw [if_pos h1]; exact ⟨rng x, 0, .inl ⟨h1, rfl, rfl⟩, rfl⟩
  · rw [if_neg h1, if_pos h]; exact ⟨_, _, .inr ⟨by omega, rfl, rfl⟩, rfl⟩

theorem min_shift (k l : Nat) : ((-1074 + (k : Int)) - min (-1074 + (k : Int)) (-1074 + (l : Int))).toNat = k - min k l ∧ ((-1074 + (l : Int)) - min (-1074 + (k : Int)) (-1074 + (l : Int))).toNat = l - min k l := by
  constructor <;> omega

/-- two that stand alike are one, or both are nought -/
theorem alike {x y : Nat} (hx : x < 2 ^ 64) (hy : y < 2 ^ 64) (h : FloatKind.f64.format.order x y = some .eq) : x = y ∨ (rng x = 0 ∧ rng y = 0) := by
  have hr : (Ieee.double.read x).order (Ieee.double.read y) = some .eq := h
  by_cases a : rng x < 9218868437227405312
  · by_cases b : rng y < 9218868437227405312
    · obtain ⟨m, k, h1, h2⟩ := read_number a
      obtain ⟨n, l, g1, g2⟩ := read_number b
      rw [h2, g2] at hr
      simp only [Ieee.Datum.order, Option.some.injEq] at hr
      have he := Std.LawfulEqCmp.eq_of_compare hr
      rw [(min_shift k l).1, (min_shift k l).2] at he
      rcases signed_eq he with ⟨e1, e2⟩ | ⟨e1, e2⟩
      · right
        unfold Mag at h1 g1
        constructor <;> omega
      · exact .inl (word_of hx hy e1 (mag_one h1 g1 e2))
    · obtain ⟨m, k, h1, h2⟩ := read_number a
      rw [h2, read_eq y, if_neg (by omega), if_neg b] at hr
      split at hr
      · cases s : sgn y <;> rw [s] at hr <;> simp [Ieee.Datum.order] at hr
      · simp [Ieee.Datum.order] at hr
  · rw [read_eq x, if_neg (by omega), if_neg a] at hr
    split at hr
    · by_cases b : rng y < 9218868437227405312
      · obtain ⟨n, l, g1, g2⟩ := read_number b
        rw [g2] at hr
        cases s : sgn x <;> rw [s] at hr <;> simp [Ieee.Datum.order] at hr
      · rw [read_eq y, if_neg (by omega), if_neg b] at hr
        split at hr
        · next e1 e2 =>
          left
          refine word_of hx hy ?_ (by rw [e1, e2])
          cases s : sgn x <;> cases t : sgn y <;> rw [s, t] at hr <;> first | rfl | simp [Ieee.Datum.order] at hr
        · simp [Ieee.Datum.order] at hr
    · simp [Ieee.Datum.order] at hr

theorem nought {x : Nat} (hx : x < 2 ^ 64) (h : rng x = 0) : x = 0 ∨ x = 9223372036854775808 := by
  unfold rng at h
  have h2 : (2 : Nat) ^ 64 = 18446744073709551616 := by decide
  omega

theorem order_back (x y : Nat) : FloatKind.f64.format.order y x = (FloatKind.f64.format.order x y).map Ordering.swap := by
  show (Ieee.double.read y).order (Ieee.double.read x) = ((Ieee.double.read x).order (Ieee.double.read y)).map _
  cases Ieee.double.read x <;> cases Ieee.double.read y
  · simp only [Ieee.Datum.order, Option.map_some, Option.some.injEq]
    rw [Int.min_comm, ← Std.OrientedCmp.eq_swap]
  · next a b c s => cases s <;> rfl
  · rfl
  · next s a b c => cases s <;> rfl
  · next s t => cases s <;> cases t <;> rfl
  · rfl
  · rfl
  · rfl
  · rfl

/-- the lesser of two, as 'min' has it -/
def minO (a b : Option Nat) : Option Nat :=
  match a, b with
  | some x, some y =>
    match FloatKind.f64.format.order x y with
    | some .lt => some x
    | some .gt => some y
    | some .eq => if (FloatKind.f64.decode x).neg then some x else some y
    | none => none
  | _, _ => none

/-- the lesser of two, as the document has it -/
def lessD (x y : Nat) (d : Bool) : Nat :=
  if (FloatKind.f64.format.order y x == some .lt) || ((FloatKind.f64.format.order y 0 == some .eq) && (FloatKind.f64.format.order x 0 == some .eq) && d) then y else x

theorem zero_alike {x : Nat} (hx : x < 2 ^ 64) : (FloatKind.f64.format.order x 0 == some .eq) = decide (rng x = 0) := by
  by_cases h : rng x = 0
  · rcases nought hx h with rfl | rfl <;> decide
  · rw [decide_eq_false h]
    cases e : FloatKind.f64.format.order x 0 == some .eq
    · rfl
    · rcases alike hx (by decide) (beq_iff_eq.1 e) with rfl | ⟨h1, _⟩
      · exact absurd rfl h
      · exact absurd h1 h

/-- Both ways are one: r is 1 over y. -/
theorem min_less {x y r : Nat} (hx : x < 2 ^ 64) (hy : y < 2 ^ 64) (nx : nanB x = false) (ny : nanB y = false) (hr : floatBits .quo .f64 4607182418800017408 y = some r) : minO (some x) (some y) = some (lessD x y (FloatKind.f64.format.order r 0 == some .lt)) := by
  unfold lessD
  rw [zero_alike hx, zero_alike hy, order_back x y]
  cases e : FloatKind.f64.format.order x y with
  | none =>
    exfalso
    unfold nanB at nx ny
    have e' : (Ieee.double.read x).order (Ieee.double.read y) = none := e
    cases h1 : Ieee.double.read x <;> cases h2 : Ieee.double.read y <;> rw [h1] at nx <;> rw [h2] at ny <;> first | (cases nx; done) | (cases ny; done) | (rw [h1, h2] at e'; cases e')
  | some o =>
    cases o with
    | lt =>
      have hz : ¬ (rng x = 0 ∧ rng y = 0) := fun ⟨h1, h2⟩ => by
        rcases nought hx h1 with rfl | rfl <;> rcases nought hy h2 with rfl | rfl <;> revert e <;> decide
      have hd : (decide (rng y = 0) && decide (rng x = 0)) = false := by
        by_cases h1 : rng x = 0 <;> by_cases h2 : rng y = 0 <;> simp_all
      rw [hd]
      simp only [minO, e]
      rfl
    | gt => simp only [minO, e]; rfl
    | eq =>
      simp only [minO, e]
      rcases alike hx hy e with rfl | ⟨h1, h2⟩
      · simp
      · rcases nought hx h1 with rfl | rfl <;> rcases nought hy h2 with rfl | rfl
        · simp
        · have : r = 18442240474082181120 := by
            have h : floatBits .quo .f64 4607182418800017408 9223372036854775808 = some 18442240474082181120 := by decide
            rw [h] at hr; exact (Option.some.inj hr).symm
          subst this
          decide
        · have : r = 9218868437227405312 := by
            have h : floatBits .quo .f64 4607182418800017408 0 = some 9218868437227405312 := by decide
            rw [h] at hr; exact (Option.some.inj hr).symm
          subst this
          decide
        · have : r = 18442240474082181120 := by
            have h : floatBits .quo .f64 4607182418800017408 9223372036854775808 = some 18442240474082181120 := by decide
            rw [h] at hr; exact (Option.some.inj hr).symm
          subst this
          decide

def leastO (l : List (Option Nat)) : Option Nat := l.foldl minO (some 9218868437227405312)

theorem fold_none (l : List (Option Nat)) : l.foldl minO none = none := by
  induction l with
  | nil => rfl
  | cons x r ih => exact ih

theorem fold_nan (l : List (Option Nat)) (a : Option Nat) (h : none ∈ l) : l.foldl minO a = none := by
  induction l generalizing a with
  | nil => cases h
  | cons x r ih =>
    cases x with
    | none =>
      have : minO a none = none := by cases a <;> rfl
      simp only [List.foldl_cons, this]
      exact fold_none r
    | some x =>
      refine ih _ ?_
      cases h with
      | tail _ h => exact h

end Go.Proofs.Ytligmokepafnbaj
