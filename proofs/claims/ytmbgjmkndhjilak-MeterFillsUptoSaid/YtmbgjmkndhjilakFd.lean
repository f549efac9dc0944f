/- Numbers as rows of digits: pure facts on sums and differences. -/
import Derived.Test.YtmbgjmkndhjilakFc
namespace Go.Proofs.Ytmbgjmkndhjilak
open Go.RowKit Go.Shelf

theorem canon_of_ge {l : List Nat} (h : Dgs l) (_hl : l ≠ []) (hv : 10000 ^ (l.length - 1) ≤ valN l) : Canon l := ⟨h, fun hne h0 => by
  have e := List.dropLast_concat_getLast hne
  rw [h0] at e
  have h1 := val_app l.dropLast [0]
  rw [e] at h1
  have h2 : valN [0] = 0 := rfl
  have h3 := val_lt (l := l.dropLast) (fun d hd => h d ((List.dropLast_sublist l).mem hd))
  rw [List.length_dropLast] at h3
  rw [h2, Nat.mul_zero] at h1
  omega⟩
theorem val_snoc (l : List Nat) (x : Nat) : valN (l ++ [x]) = valN l + 10000 ^ l.length * x := by
  rw [val_app]
  simp [valN]
theorem dgs_snoc {l : List Nat} {x : Nat} (h : Dgs l) (hx : x < 10000) : Dgs (l ++ [x]) := fun d hd => by
  rcases List.mem_append.1 hd with q | q
  · exact h d q
  · rw [List.mem_singleton.1 q]; exact hx
theorem getD_ge {l : List Nat} {k : Nat} (h : l.length ≤ k) : l.getD k 0 = 0 := by
  rw [List.getD_eq_getElem?_getD, List.getElem?_eq_none h]
  rfl
theorem take_val (l : List Nat) (k : Nat) : valN (l.take (k + 1)) = valN (l.take k) + 10000 ^ k * l.getD k 0 := by
  by_cases h : k < l.length
  · rw [take_succ_get h, val_snoc, List.length_take, Nat.min_eq_left (by omega)]
  · rw [List.take_of_length_le (by omega), List.take_of_length_le (by omega), getD_ge (by omega)]
    omega
theorem dgs_get {l : List Nat} (h : Dgs l) (k : Nat) : l.getD k 0 < 10000 := by
  by_cases hk : k < l.length
  · rw [List.getD_eq_getElem?_getD, List.getElem?_eq_getElem hk]
    exact h _ (List.getElem_mem hk)
  · rw [getD_ge (by omega)]
    decide
/-- While two are added. -/
structure AddI (a b : List Nat) (k c : Nat) (o : List Nat) : Prop where
  len : o.length = k
  dg : Dgs o
  c1 : c ≤ 1
  v : valN o + 10000 ^ k * c = valN (a.take k) + valN (b.take k)
theorem pow_split {p x : Nat} (h : x = x % 10000 + 10000 * (x / 10000)) : 10000 ^ p * x = 10000 ^ p * (x % 10000) + 10000 ^ (p + 1) * (x / 10000) := by
  rw [Nat.pow_succ, Nat.mul_assoc, ← Nat.mul_add, ← h]
theorem AddI.next {a b o : List Nat} {k c : Nat} (h : AddI a b k c o) (ha : Dgs a) (hb : Dgs b) {x : Nat} (hx : x = c + a.getD k 0 + b.getD k 0) : AddI a b (k + 1) (x / 10000) (o ++ [x % 10000]) := by
  have h1 := dgs_get ha k
  have h2 := dgs_get hb k
  have h3 := h.c1
  refine ⟨by rw [List.length_append, h.len]; rfl, dgs_snoc h.dg (by omega), by omega, ?_⟩
  rw [val_snoc, h.len, take_val, take_val]
  have h4 := pow_split (p := k) (x := x) (by omega)
  have h5 : 10000 ^ k * x = 10000 ^ k * c + 10000 ^ k * a.getD k 0 + 10000 ^ k * b.getD k 0 := by rw [hx, Nat.mul_add, Nat.mul_add]
  have h6 := h.v
  omega
theorem AddI.fin {a b o : List Nat} {k c : Nat} (h : AddI a b k c o) (ha : Canon a) (hb : Canon b) (hk : k = max a.length b.length) : (c = 0 → Canon o ∧ valN o = valN a + valN b) ∧ (0 < c → Canon (o ++ [c]) ∧ valN (o ++ [c]) = valN a + valN b) := by
  have e := h.v
  rw [List.take_of_length_le (by omega), List.take_of_length_le (by omega)] at e
  refine ⟨fun h0 => ?_, fun h0 => ?_⟩
  · rw [h0, Nat.mul_zero, Nat.add_zero] at e
    refine ⟨?_, e⟩
    by_cases hz : o = []
    · rw [hz]; exact canon_nil
    · have hp : 0 < k := by rw [← h.len]; exact List.length_pos_iff.2 hz
      refine canon_of_ge h.dg hz ?_
      rw [h.len, e]
      by_cases hab : a.length < b.length
      · have := canon_ge hb (by intro q; rw [q] at hab; simp at hab)
        rw [show k - 1 = b.length - 1 by omega]
        omega
      · have hka : k = a.length := by omega
        have := canon_ge ha (by intro q; rw [q] at hka; simp at hka; omega)
        rw [show k - 1 = a.length - 1 by omega]
        omega
  · refine ⟨⟨dgs_snoc h.dg (by have := h.c1; omega), fun hne => ?_⟩, ?_⟩
    · rw [List.getLast_append_of_ne_nil (by simp) (by simp)]
      simp only [List.getLast_singleton]
      omega
    · rw [val_snoc, h.len]
      exact e
/-- While one is taken from another. -/
structure SubI (a b : List Nat) (k c : Nat) (o : List Nat) : Prop where
  len : o.length = k
  dg : Dgs o
  c1 : c ≤ 1
  v : valN o + valN (b.take k) = valN (a.take k) + 10000 ^ k * c
theorem SubI.next {a b o : List Nat} {k c x d : Nat} (h : SubI a b k c o) (hd : d < 10000) (hx : x ≤ 1) (he : d + b.getD k 0 + c = a.getD k 0 + 10000 * x) : SubI a b (k + 1) x (o ++ [d]) := by
  refine ⟨by rw [List.length_append, h.len]; rfl, dgs_snoc h.dg hd, hx, ?_⟩
  rw [val_snoc, h.len, take_val, take_val, Nat.pow_succ]
  have h6 := h.v
  have h5 : 10000 ^ k * (d + b.getD k 0 + c) = 10000 ^ k * (a.getD k 0 + 10000 * x) := by rw [he]
  rw [Nat.mul_add, Nat.mul_add, Nat.mul_add, ← Nat.mul_assoc] at h5
  omega
theorem SubI.fin {a b o : List Nat} {c : Nat} (h : SubI a b a.length c o) (hb : Canon b) (ha : Dgs a) (hab : valN b ≤ valN a) : valN o = valN a - valN b := by
  have hl : b.length ≤ a.length := by
    apply Nat.le_of_not_lt
    intro q
    have := len_lt_val ha hb q
    omega
  have e := h.v
  rw [List.take_of_length_le hl, List.take_of_length_le (Nat.le_refl _)] at e
  have h1 := val_lt h.dg
  rw [h.len] at h1
  have h2 := h.c1
  have h3 : c = 0 := by
    apply Nat.eq_zero_of_not_pos
    intro q
    have : c = 1 := by omega
    rw [this, Nat.mul_one] at e
    omega
  rw [h3, Nat.mul_zero] at e
  omega
end Go.Proofs.Ytmbgjmkndhjilak
