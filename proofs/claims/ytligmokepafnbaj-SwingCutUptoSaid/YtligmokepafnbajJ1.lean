/- The eighths of numbers up to 8000 are numbers. -/
import Derived.Test.YtligmokepafnbajJ0
namespace Go.Proofs.Ytligmokepafnbaj
def allB (f : Nat → Bool) : Nat → Bool
  | 0 => true
  | n + 1 => f n && allB f n
def fitB (o : Option Nat) : Bool :=
  match o with
  | some x => Nat.blt x 18446744073709551616 && Nat.blt (x % 9223372036854775808) 9218868437227405312
  | none => false
theorem all_spec {f : Nat → Bool} : ∀ {n : Nat}, allB f n = true → ∀ k, k < n → f k = true
  | 0, _, k, hk => absurd hk (Nat.not_lt_zero k)
  | n + 1, h, k, hk => by
    simp only [allB, Bool.and_eq_true] at h
    by_cases e : k = n
    · subst e; exact h.1
    · exact all_spec h.2 k (by omega)
set_option maxRecDepth 100000 in
theorem fit_up : allB (fun n => fitB (floatBits .quo .f64 (FloatKind.f64.nearest (Int.ofNat n)) 4620693217682128896)) 8000 = true := by decide +kernel
end Go.Proofs.Ytligmokepafnbaj
