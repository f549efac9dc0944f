/- Plain facts on places and kinds that the reading alone did not want. -/
import Derived.Test.YtpbalclhdhjnoaaGreatDoorKA2
import Derived.Test.YtpbalclhdhjnoaaGreatDoorKA1
namespace Go.Proofs.YtpbalclhdhjnoaaGreatDoor
open Go.RowKit

def kOpen : ByteArray := ⟨#[111, 112, 101, 110]⟩
def kClosed : ByteArray := ⟨#[99, 108, 111, 115, 101, 100]⟩
theorem placeFrom_yes (s : ByteArray) : ∀ (xs : List ByteArray) (base k : Nat) (hk : k < xs.length), (∀ j (h : j < xs.length), j < k → ¬ xs[j] = s) → xs[k] = s → placeFrom s base xs = (base + k : Nat)
  | x :: r, base, 0, _, _, he => by simp at he; simp [placeFrom, he]
  | x :: r, base, k + 1, hk, hno, he => by
    have h0 := hno 0 (by simp) (by omega)
    simp at h0 he hk
    rw [placeFrom, if_neg h0, placeFrom_yes s r (base + 1) k (by omega) (fun j h a => by have := hno (j + 1) (by simp; omega) (by omega); simpa using this) he]
    congr 1; omega
theorem placeFrom_no (s : ByteArray) : ∀ (xs : List ByteArray) (base : Nat), (∀ j (h : j < xs.length), ¬ xs[j] = s) → placeFrom s base xs = -1
  | [], _, _ => rfl
  | x :: r, base, hno => by
    have h0 := hno 0 (by simp)
    simp at h0
    rw [placeFrom, if_neg h0, placeFrom_no s r (base + 1) (fun j h => by have := hno (j + 1) (by simp; omega); simpa using this)]
theorem placeL_yes {xs : List ByteArray} {s : ByteArray} {k : Nat} (hk : k < xs.length) (hno : ∀ j (h : j < xs.length), j < k → ¬ xs[j] = s) (he : xs[k] = s) : placeL xs s = k := by
  have := placeFrom_yes s xs 0 k hk hno he
  rw [Nat.zero_add] at this
  exact this
theorem placeL_no {xs : List ByteArray} {s : ByteArray} (hno : ∀ j (h : j < xs.length), ¬ xs[j] = s) : placeL xs s = -1 := placeFrom_no s xs 0 hno
end Go.Proofs.YtpbalclhdhjnoaaGreatDoor
