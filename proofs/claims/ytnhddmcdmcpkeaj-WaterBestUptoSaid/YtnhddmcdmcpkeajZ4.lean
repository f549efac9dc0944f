/- All releases that turbines let through (pure). -/
import Derived.Test.YtnhddmcdmcpkeajVk
namespace Go.Proofs.Ytnhddmcdmcpkeaj
open Go.RowKit Go.Shelf

/-- A row, and behind it each release up to t. -/
def rng (t : Nat) (r : List Int) : List (List Int) := (List.range (t + 1)).map fun (j : Nat) => r ++ [(j : Int)]
/-- The releases of the first i lakes. -/
def relN (ls : List LakeM) : Nat → List (List Int)
  | 0 => [[]]
  | i + 1 => (relN ls i).flatMap (rng (lkD ls i).turb.toNat)
/-- What is there while the k-th row is gone through, up to n. -/
def moreL (O : List (List Int)) (t k n : Nat) : List (List Int) := (O.take k).flatMap (rng t) ++ (List.range n).map fun (j : Nat) => O.getD k [] ++ [(j : Int)]
theorem more_zero (O : List (List Int)) (t : Nat) : moreL O t 0 0 = [] := by simp [moreL]
theorem more_next (O : List (List Int)) (t k n : Nat) : moreL O t k n ++ [O.getD k [] ++ [(n : Int)]] = moreL O t k (n + 1) := by
  unfold moreL
  rw [List.range_succ, List.map_append, List.append_assoc]
  rfl
theorem more_row {O : List (List Int)} {t k : Nat} (hk : k < O.length) : moreL O t k (t + 1) = moreL O t (k + 1) 0 := by
  unfold moreL
  rw [List.take_add_one, List.getElem?_eq_getElem hk, List.flatMap_append, List.getD_eq_getElem?_getD, List.getElem?_eq_getElem hk]
  simp [rng]
theorem more_all (O : List (List Int)) (t : Nat) : moreL O t O.length 0 = O.flatMap (rng t) := by
  unfold moreL
  rw [List.take_of_length_le (Nat.le_refl _)]
  simp
theorem rng_len (t : Nat) (r : List Int) : (rng t r).length = t + 1 := by unfold rng; simp
theorem flat_rng (t : Nat) : ∀ O : List (List Int), (O.flatMap (rng t)).length = O.length * (t + 1)
  | [] => by simp
  | r :: O => by rw [List.flatMap_cons, List.length_append, rng_len, flat_rng t O, List.length_cons, Nat.add_mul]; omega
theorem more_len {O : List (List Int)} {t k n : Nat} (hO : O.length ≤ 25) (ht : t ≤ 4) (hn : n ≤ 5) : (moreL O t k n).length ≤ 200 := by
  unfold moreL
  rw [List.length_append, flat_rng, List.length_map, List.length_range, List.length_take]
  have h1 : min k O.length * (t + 1) ≤ 25 * 5 := Nat.mul_le_mul (by omega) (by omega)
  omega
theorem rel_len {ls : List LakeM} (hok : ∀ k ∈ ls, LakeOk k) : ∀ i, i ≤ ls.length → ∀ l ∈ relN ls i, l.length = i
  | 0, _, l, h => by unfold relN at h; simp at h; rw [h]; rfl
  | i + 1, hi, l, h => by
    unfold relN at h
    obtain ⟨r, hr, hl⟩ := List.mem_flatMap.1 h
    unfold rng at hl
    obtain ⟨j, _, rfl⟩ := List.mem_map.1 hl
    rw [List.length_append, rel_len hok i (by omega) r hr]
    rfl
theorem turb_le {ls : List LakeM} (hok : ∀ k ∈ ls, LakeOk k) {i : Nat} (hi : i < ls.length) : 0 ≤ (lkD ls i).turb ∧ (lkD ls i).turb ≤ 4 := by
  rw [← lk_at hi]
  exact (hok _ (List.getElem_mem hi)).t
theorem rel_count {ls : List LakeM} (hok : ∀ k ∈ ls, LakeOk k) {i : Nat} (hi : i ≤ ls.length) : (relN ls i).length ≤ 5 ^ i := by
  induction i with
  | zero => simp [relN]
  | succ i ih =>
    have h1 := ih (by omega)
    have h2 := turb_le hok (i := i) (by omega)
    unfold relN
    rw [flat_rng, Nat.pow_succ]
    exact Nat.mul_le_mul h1 (by omega)
theorem rel_25 {ls : List LakeM} (hok : ∀ k ∈ ls, LakeOk k) (hL : ls.length ≤ 2) {i : Nat} (hi : i ≤ ls.length) : (relN ls i).length ≤ 25 := by
  have h := rel_count hok hi
  have h2 : 5 ^ i ≤ 5 ^ 2 := Nat.pow_le_pow_right (by omega) (by omega)
  omega
theorem rng_mem {t : Nat} {r : List Int} {a : Int} (h0 : 0 ≤ a) (h1 : a ≤ t) : r ++ [a] ∈ rng t r := by
  unfold rng
  exact List.mem_map.2 ⟨a.toNat, List.mem_range.2 (by omega), by rw [Int.toNat_of_nonneg h0]⟩
theorem rel_all {ls : List LakeM} {L : Nat} (hok : ∀ k ∈ ls, LakeOk k) (hl : ls.length = L) (hL : L ≤ 2) : AllR ls L (relN ls L) := by
  refine ⟨fun l h => rel_len hok L (by omega) l h, fun a b ha hb => ?_⟩
  match L, hL, hl with
  | 0, _, _ => simp [relN, listOf]
  | 1, _, hl =>
    have ht := turb_le hok (i := 0) (by omega)
    have e : listOf a b 1 = [] ++ [a] := rfl
    rw [e]
    unfold relN
    exact List.mem_flatMap.2 ⟨[], by simp [relN], rng_mem ha.1 (by rw [Int.toNat_of_nonneg (by exact ht.1)]; exact ha.2 (by omega))⟩
  | 2, _, hl =>
    have ht := turb_le hok (i := 0) (by omega)
    have ht1 := turb_le hok (i := 1) (by omega)
    have e : listOf a b 2 = ([] ++ [a]) ++ [b] := rfl
    rw [e]
    unfold relN
    refine List.mem_flatMap.2 ⟨[] ++ [a], ?_, rng_mem hb.1 (by rw [Int.toNat_of_nonneg (by exact ht1.1)]; exact hb.2 (by omega))⟩
    unfold relN
    exact List.mem_flatMap.2 ⟨[], by simp [relN], rng_mem ha.1 (by rw [Int.toNat_of_nonneg (by exact ht.1)]; exact ha.2 (by omega))⟩
end Go.Proofs.Ytnhddmcdmcpkeaj
