/- What the proofs of several seats want, with no function of a program in it. -/
import Derived.Test.YtmbgjmkndhjilakYb
namespace Go.Proofs.Ytmbgjmkndhjilak
open Go.RowKit Go.Shelf

theorem cells_at {w : World} {g : Nat} {cur : Array Value} {e : TypeId} {fz : Nat × Nat} (h : w.heap[g]? = some (.cells cur e fz)) (j : Nat) : w.cell? ⟨g, j, none⟩ = cur[j]? := by simp [World.cell?, h]
theorem bools_own {w : World} {B T n : Nat} {l : List Bool} (h : w.heap[T]? = some (.cells (l.map Value.bool).toArray 4 (0, 0))) (hs : B ≤ T) (hl : l.length = n) (hn : n ≤ 1000) : w.ownsRow B 4 1 (.slice (some ⟨T, 0, none⟩) n n) n (l.map Value.bool) := by
  subst hl
  exact ⟨by simp, .inr ⟨T, _, _, rfl, hs, h, Nat.le_refl _, by unfold maxLen; omega, by simp, by rw [List.take_of_length_le (by simp)]⟩⟩
theorem bools_cell {w : World} {T m : Nat} {l : List Bool} (h : w.heap[T]? = some (.cells (l.map Value.bool).toArray 4 (0, 0))) (hm : m < l.length) : w.cell? ⟨T, m, none⟩ = some (.bool (l.getD m false)) := by
  simp only [World.cell?, h]
  rw [List.getElem?_toArray, List.getElem?_map, List.getElem?_eq_getElem hm, List.getD_eq_getElem?_getD, List.getElem?_eq_getElem hm]
  rfl
/-- Nothing but one block has changed. -/
structure But (M : Nat) (W W' : World) : Prop where
  os : W'.os = W.os
  tape : W'.tape = W.tape
  output : W'.output = W.output
  size : W.heap.size ≤ W'.heap.size
  block : ∀ k, k < W.heap.size → k ≠ M → W'.heap[k]? = W.heap[k]?
theorem But.refl (M : Nat) (W : World) : But M W W := ⟨rfl, rfl, rfl, Nat.le_refl _, fun _ _ _ => rfl⟩
theorem But.trans {M : Nat} {W W' W'' : World} (h : But M W W') (h' : But M W' W'') : But M W W'' :=
  ⟨h'.os.trans h.os, h'.tape.trans h.tape, h'.output.trans h.output, Nat.le_trans h.size h'.size, fun k hk hm => (h'.block k (Nat.lt_of_lt_of_le hk h.size) hm).trans (h.block k hk hm)⟩
theorem But.of {M : Nat} {W W' : World} (h : Below W.heap.size W W') : But M W W' := ⟨h.os, h.tape, h.output, h.size, fun k hk _ => h.block k hk⟩
theorem But.set {M : Nat} {W W' : World} (h : But M W W') (j : Nat) (x : Value) : But M W (W'.setCell ⟨M, j, none⟩ x) := by
  have hb := Below.setCell (p := ⟨M, j, none⟩) (Below.refl 0 W') (Nat.zero_le _) x
  exact ⟨hb.os.trans h.os, hb.tape.trans h.tape, hb.output.trans h.output, Nat.le_trans h.size hb.size, fun k hk hm => (Below.heap_setCell _ _ _ k hm).trans (h.block k hk hm)⟩
theorem own_int {w : World} {B G n cg : Nat} {l : List Int} (h : w.ownsRow B 3 1 (.slice (some ⟨G, 0, none⟩) n cg) n (ints l)) {p : Nat} (hp : p < n) : w.cell? ⟨G, p, none⟩ = some (.int .i64 (l.getD p 0)) ∧ w.frozen? ⟨G, p, none⟩ = false := by
  have hl : l.length = n := by have := h.1; rw [ints_len] at this; omega
  rcases h.2 with ⟨h1, _⟩ | ⟨g, cap, cur, h1, _, h2, h3, _, h4, h5⟩
  · cases h1
  · cases h1
    refine ⟨?_, frozen_no h2 _⟩
    rw [cells_at h2]
    have h6 : (cur.toList.take (n * 1))[p]? = some (.int .i64 (l.getD p 0)) := by
      rw [h5, ints, List.getElem?_map, List.getElem?_eq_getElem (by omega), List.getD_eq_getElem?_getD, List.getElem?_eq_getElem (by omega)]
      rfl
    rw [List.getElem?_take_of_lt (by omega)] at h6
    simpa using h6
theorem own_int_set {w : World} {B G n cg : Nat} {l : List Int} (h : w.ownsRow B 3 1 (.slice (some ⟨G, 0, none⟩) n cg) n (ints l)) {p : Nat} (_hp : p < n) (x : Int) : (w.setCell ⟨G, p, none⟩ (.int .i64 x)).ownsRow B 3 1 (.slice (some ⟨G, 0, none⟩) n cg) n (ints (l.set p x)) := by
  have hl : l.length = n := by have := h.1; rw [ints_len] at this; omega
  rcases h.2 with ⟨h1, _⟩ | ⟨g, cap, cur, h1, h0, h2, h3, h3', h4, h5⟩
  · cases h1
  · cases h1
    refine ⟨by rw [ints_len, List.length_set]; omega, .inr ⟨G, cg, _, rfl, h0, set_any h2 p _, h3, h3', by simpa using h4, ?_⟩⟩
    rw [Array.toList_setIfInBounds, List.take_set, h5, ints, ints, List.map_set]
theorem own_blk {w : World} {B G n cg e : Nat} {xs : List Value} (h : w.ownsRow B e 1 (.slice (some ⟨G, 0, none⟩) n cg) n xs) : ∃ cur, w.heap[G]? = some (.cells cur e (0, 0)) := by
  rcases h.2 with ⟨h1, _⟩ | ⟨g, cap, cur, h1, _, h2, _⟩
  · cases h1
  · cases h1; exact ⟨_, h2⟩
theorem set_same {l : List Int} {p : Nat} : l.set p (l.getD p 0) = l := by
  by_cases hp : p < l.length
  · rw [List.getD_eq_getElem?_getD, List.getElem?_eq_getElem hp]
    exact List.set_getElem_self hp
  · exact List.set_eq_of_length_le (by omega)
theorem row_bool {w : World} {L n c : Nat} {l : List Bool} (h : RowAt w (.slice (some ⟨L, 0, none⟩) n c) n 1 (l.map Value.bool)) {p : Nat} (hp : p < n) : w.cell? ⟨L, p, none⟩ = some (.bool (l.getD p false)) := by
  obtain ⟨h1, a, c', e, h2⟩ := h
  cases e
  have hl : l.length = n := by simpa using h1
  obtain ⟨b, off, e2, h3⟩ := h2 p (.bool (l.getD p false)) (by rw [List.getElem?_map, List.getElem?_eq_getElem (by omega), List.getD_eq_getElem?_getD, List.getElem?_eq_getElem (by omega)]; rfl)
  cases e2
  rw [Nat.zero_add] at h3
  exact h3
theorem own_cell {w : World} {B V n c e sz : Nat} {xs : List Value} (h : w.ownsRow B e sz (.slice (some ⟨V, 0, none⟩) n c) n xs) {j : Nat} {u : Value} (hj : xs[j]? = some u) : w.cell? ⟨V, j, none⟩ = some u ∧ w.frozen? ⟨V, j, none⟩ = false := by
  rcases h.2 with ⟨h1, _⟩ | ⟨g, cap, cur, h1, _, h2, _, _, _, h5⟩
  · cases h1
  · cases h1
    refine ⟨?_, frozen_no h2 _⟩
    rw [cells_at h2]
    have hlt : j < n * sz := by rw [← h.1]; exact (List.getElem?_eq_some_iff.1 hj).1
    rw [← h5, List.getElem?_take_of_lt hlt] at hj
    simpa using hj
end Go.Proofs.Ytmbgjmkndhjilak
