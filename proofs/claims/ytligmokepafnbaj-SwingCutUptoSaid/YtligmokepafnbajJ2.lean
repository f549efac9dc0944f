/- The eighths of numbers down to -8000 are numbers; no limit is above 0. -/
import Derived.Test.YtligmokepafnbajJ0
namespace Go.Proofs.Ytligmokepafnbaj
def allC (f : Nat → Bool) : Nat → Bool
  | 0 => true
  | n + 1 => f n && allC f n
def fitC (o : Option Nat) : Bool :=
  match o with
  | some x => Nat.blt x 18446744073709551616 && Nat.blt (x % 9223372036854775808) 9218868437227405312
  | none => false
set_option maxRecDepth 100000 in
theorem fit_down : allC (fun n => fitC (floatBits .quo .f64 (FloatKind.f64.nearest (Int.negSucc n)) 4620693217682128896)) 8000 = true := by decide +kernel
end Go.Proofs.Ytligmokepafnbaj
