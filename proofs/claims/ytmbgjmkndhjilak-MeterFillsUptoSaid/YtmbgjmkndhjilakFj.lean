/- Numbers as rows of digits: pure facts on quotients. -/
import Derived.Test.YtmbgjmkndhjilakFi
namespace Go.Proofs.Ytmbgjmkndhjilak
open Go.RowKit Go.Shelf

/-- While one is divided by another. -/
structure DivI (a qs : List Nat) (b k r : Nat) : Prop where
  len : qs.length = a.length
  dg : Dgs qs
  r1 : r < b
  v : valN (a.drop k) = valN (qs.drop k) * b + r
  z : ∀ p, p < k → qs.getD p 0 = 0
theorem DivI.first (a : List Nat) {b : Nat} (hb : 0 < b) : DivI a (List.replicate a.length 0) b a.length 0 := by
  refine ⟨List.length_replicate, fun d hd => ?_, hb, ?_, fun p _ => ?_⟩
  · rw [List.eq_of_mem_replicate hd]; decide
  · rw [List.drop_of_length_le (Nat.le_refl _), List.drop_of_length_le (by rw [List.length_replicate]; exact Nat.le_refl _)]
    simp [valN]
  · rw [List.getD_eq_getElem?_getD, List.getElem?_replicate]
    split <;> rfl
theorem drop_val {l : List Nat} {m : Nat} (h : m < l.length) : valN (l.drop m) = l.getD m 0 + 10000 * valN (l.drop (m + 1)) := by rw [drop_step h, valN]
theorem DivI.no {a qs : List Nat} {b m r R : Nat} (h : DivI a qs b (m + 1) r) (hm : m < a.length) (hR : R = a.getD m 0 + 10000 * r) (hb : R < b) : DivI a qs b m R := by
  refine ⟨h.len, h.dg, hb, ?_, fun p hp => h.z p (by omega)⟩
  rw [drop_val (l := a) hm, drop_val (l := qs) (m := m) (by rw [h.len]; exact hm), h.v, h.z m (by omega), Nat.zero_add, hR, Nat.mul_add, Nat.mul_assoc]
  omega
theorem DivI.yes {a qs : List Nat} {b m r R d : Nat} (h : DivI a qs b (m + 1) r) (ha : Dgs a) (hm : m < a.length) (hR : R = a.getD m 0 + 10000 * r) (h1 : b * d ≤ R) (h2 : R < b * (d + 1)) : DivI a (qs.set m d) b m (R - b * d) := by
  have hd := dgs_get ha m
  have hr := h.r1
  have h3 : d < 10000 := by
    apply Nat.lt_of_not_le
    intro q
    have : b * 10000 ≤ b * d := Nat.mul_le_mul_left _ q
    omega
  refine ⟨by rw [List.length_set]; exact h.len, dgs_set h.dg _ h3, by rw [Nat.mul_succ] at h2; omega, ?_, fun p hp => by rw [set_get _ _ _ _ (by omega)]; exact h.z p (by omega)⟩
  have hl : m < (qs.set m d).length := by rw [List.length_set, h.len]; exact hm
  have e0 : (qs.set m d).getD m 0 = d := by rw [List.getD_eq_getElem?_getD, List.getElem?_set_self (by rw [h.len]; exact hm)]; rfl
  have e1 : (qs.set m d).drop (m + 1) = qs.drop (m + 1) := List.drop_set_of_lt (by omega)
  rw [drop_val (l := a) hm, drop_val hl, e0, e1, h.v, Nat.mul_add, Nat.add_mul, Nat.mul_assoc, Nat.mul_comm d b]
  omega
theorem DivI.fin {a qs : List Nat} {b r : Nat} (h : DivI a qs b 0 r) : valN qs = valN a / b ∧ r = valN a % b := by
  have e := h.v
  rw [List.drop_zero, List.drop_zero] at e
  have hr := h.r1
  have h1 : valN a / b = valN qs := by
    rw [e, Nat.mul_comm, Nat.mul_add_div (by omega), Nat.div_eq_of_lt hr]
    rfl
  have h2 : valN a % b = r := by rw [e, Nat.mul_comm, Nat.mul_add_mod, Nat.mod_eq_of_lt hr]
  exact ⟨h1.symm, h2.symm⟩
/-- A quotient and a rest are answered. -/
def DivR (a b : Nat) (w : World) (e : Ending) (w' : World) : Prop := ∃ q r, e = .returned (.tuple #[q, r]) ∧ Num w' q (a / b) ∧ Num w' r (a % b) ∧ Below w.heap.size w w'
theorem OutAt.below {w wr wr' : World} {G : Nat} {o : List Nat} (h : OutAt w G o wr) (hb : Below wr.heap.size wr wr') : OutAt w G o wr' := ⟨own_below h.1 hb (Nat.le_refl _), h.2.trans (hb.mono h.2.size)⟩
theorem Num.setOut {wr : World} {v : Value} {n G : Nat} (h : Num wr v n) {p : Nat} {x : Value} (hG : ∀ b off k c, v = .slice (some ⟨b, off, none⟩) k c → b ≠ G) : Num (wr.setCell ⟨G, p, none⟩ x) v n := by
  obtain ⟨l, h1, h2, h3⟩ := h
  refine ⟨l, h1, h2, ?_⟩
  obtain ⟨e0, a, c, e1, e2⟩ := h3
  refine ⟨e0, a, c, e1, fun j u hj => ?_⟩
  obtain ⟨b, off, e3, e4⟩ := e2 j u hj
  refine ⟨b, off, e3, ?_⟩
  have hb := hG b off _ c (by rw [e1, e3])
  rw [← e4]
  exact World.cell?_of_block (Below.heap_setCell wr ⟨G, p, none⟩ x b (show b ≠ G from hb))
end Go.Proofs.Ytmbgjmkndhjilak
