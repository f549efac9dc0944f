/- Numbers as rows of digits: pure facts on products. -/
import Derived.Test.YtmbgjmkndhjilakFf
namespace Go.Proofs.Ytmbgjmkndhjilak
open Go.RowKit Go.Shelf

theorem set_val : ∀ (l : List Nat) (p y : Nat), p < l.length → valN (l.set p y) + 10000 ^ p * l.getD p 0 = valN l + 10000 ^ p * y
  | [], p, y, h => absurd h (Nat.not_lt_zero _)
  | d :: r, 0, y, _ => by
    show y + 10000 * valN r + 10000 ^ 0 * d = d + 10000 * valN r + 10000 ^ 0 * y
    rw [Nat.pow_zero, Nat.one_mul, Nat.one_mul]
    omega
  | d :: r, p + 1, y, h => by
    have ih := set_val r p y (by simpa using h)
    show d + 10000 * valN (r.set p y) + 10000 ^ (p + 1) * r.getD p 0 = d + 10000 * valN r + 10000 ^ (p + 1) * y
    have e1 : 10000 ^ (p + 1) * r.getD p 0 = 10000 * (10000 ^ p * r.getD p 0) := by rw [Nat.pow_succ, Nat.mul_comm (10000 ^ p) 10000, Nat.mul_assoc]
    have e2 : 10000 ^ (p + 1) * y = 10000 * (10000 ^ p * y) := by rw [Nat.pow_succ, Nat.mul_comm (10000 ^ p) 10000, Nat.mul_assoc]
    omega
theorem set_get (l : List Nat) (p q y : Nat) (h : p ≠ q) : (l.set p y).getD q 0 = l.getD q 0 := by
  rw [List.getD_eq_getElem?_getD, List.getD_eq_getElem?_getD, List.getElem?_set_ne h]
theorem dgs_set {l : List Nat} (h : Dgs l) (p : Nat) {y : Nat} (hy : y < 10000) : Dgs (l.set p y) := fun d hd => by
  rcases List.mem_or_eq_of_mem_set hd with q | q
  · exact h d q
  · rw [q]; exact hy
/-- While two are multiplied: i digits of the one are done. -/
structure MulI (a b o : List Nat) (i : Nat) : Prop where
  len : o.length = a.length + b.length
  dg : Dgs o
  v : valN o = valN (a.take i) * valN b
  z : ∀ p, i + b.length ≤ p → o.getD p 0 = 0
/-- And of the next one j digits of the other. -/
structure MulJ (a b o : List Nat) (i j c : Nat) : Prop where
  len : o.length = a.length + b.length
  dg : Dgs o
  c1 : c < 10000
  v : valN o + 10000 ^ (i + j) * c = valN (a.take i) * valN b + 10000 ^ i * (a.getD i 0 * valN (b.take j))
  z : ∀ p, i + b.length ≤ p → o.getD p 0 = 0
theorem MulI.first (a b : List Nat) : MulI a b (List.replicate (a.length + b.length) 0) 0 := by
  have hz : ∀ n, valN (List.replicate n 0) = 0 := fun n => by
    induction n with
    | zero => rfl
    | succ n ih => rw [List.replicate_succ, valN, ih]
  refine ⟨List.length_replicate, fun d hd => ?_, ?_, fun p _ => ?_⟩
  · rw [List.eq_of_mem_replicate hd]; decide
  · rw [hz, List.take_zero]
    show 0 = 0 * _
    rw [Nat.zero_mul]
  · rw [List.getD_eq_getElem?_getD, List.getElem?_replicate]
    split <;> rfl
theorem MulI.start {a b o : List Nat} {i : Nat} (h : MulI a b o i) : MulJ a b o i 0 0 := ⟨h.len, h.dg, by decide, by rw [List.take_zero, h.v]; simp [valN], h.z⟩
theorem mul_lt {x y : Nat} (hx : x < 10000) (hy : y < 10000) : x * y ≤ 99980001 := Nat.mul_le_mul (by omega : x ≤ 9999) (by omega : y ≤ 9999)
theorem MulJ.next {a b o : List Nat} {i j c x : Nat} (h : MulJ a b o i j c) (ha : Dgs a) (hb : Dgs b) (hi : i < a.length) (hj : j < b.length) (hx : x = o.getD (i + j) 0 + a.getD i 0 * b.getD j 0 + c) : MulJ a b (o.set (i + j) (x % 10000)) i (j + 1) (x / 10000) := by
  have h1 := mul_lt (dgs_get ha i) (dgs_get hb j)
  have h2 := dgs_get h.dg (i + j)
  have h3 := h.c1
  refine ⟨by rw [List.length_set]; exact h.len, dgs_set h.dg _ (by omega), by omega, ?_, fun p hp => by rw [set_get _ _ _ _ (by omega)]; exact h.z p hp⟩
  have e1 := set_val o (i + j) (x % 10000) (by rw [h.len]; omega)
  have e2 := pow_split (p := i + j) (x := x) (by omega)
  have e3 : 10000 ^ (i + j) * x = 10000 ^ (i + j) * o.getD (i + j) 0 + 10000 ^ (i + j) * (a.getD i 0 * b.getD j 0) + 10000 ^ (i + j) * c := by rw [hx, Nat.mul_add, Nat.mul_add]
  have e4 : 10000 ^ i * (a.getD i 0 * valN (b.take (j + 1))) = 10000 ^ i * (a.getD i 0 * valN (b.take j)) + 10000 ^ (i + j) * (a.getD i 0 * b.getD j 0) := by
    rw [take_val, Nat.mul_add, Nat.mul_add, Nat.pow_add]
    congr 1
    rw [Nat.mul_assoc, Nat.mul_left_comm (10000 ^ j)]
  rw [e4, ← Nat.add_assoc i j 1]
  have e5 := h.v
  omega
theorem MulJ.fin {a b o : List Nat} {i c : Nat} (h : MulJ a b o i b.length c) (hi : i < a.length) : MulI a b (o.set (i + b.length) (o.getD (i + b.length) 0 + c)) (i + 1) := by
  have hz := h.z (i + b.length) (Nat.le_refl _)
  rw [hz, Nat.zero_add]
  refine ⟨by rw [List.length_set]; exact h.len, dgs_set h.dg _ h.c1, ?_, fun p hp => by rw [set_get _ _ _ _ (by omega)]; exact h.z p (by omega)⟩
  have e1 := set_val o (i + b.length) c (by rw [h.len]; omega)
  rw [hz, Nat.mul_zero, Nat.add_zero] at e1
  rw [e1, h.v, List.take_of_length_le (Nat.le_refl _), take_val, Nat.add_mul, Nat.mul_assoc]
theorem MulI.fin {a b o : List Nat} (h : MulI a b o a.length) : valN o = valN a * valN b := by rw [h.v, List.take_of_length_le (Nat.le_refl _)]
end Go.Proofs.Ytmbgjmkndhjilak
