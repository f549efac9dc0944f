/- Rows of rows, and what a step leaves as it was. -/
import Derived.Test.YtpejnkngmnabfaiQ2
import Derived.Test.YtpejnkngmnabfaiYt
namespace Go.Proofs.Ytpejnkngmnabfai
open Go.RowKit Go.Shelf

theorem Try.info22 : (Try.prog.info? 22).map (fun i => (i.zero, i.size, i.bytes)) = some (some (.slice none 0 0), 1, 24) := by kernel_rfl
theorem own_bool_set {w : World} {B G n cg : Nat} {l : List Bool} (h : w.ownsRow B 4 1 (.slice (some ⟨G, 0, none⟩) n cg) n (l.map Value.bool)) (p : Nat) (x : Bool) : (w.setCell ⟨G, p, none⟩ (.bool x)).ownsRow B 4 1 (.slice (some ⟨G, 0, none⟩) n cg) n ((l.set p x).map Value.bool) := by
  rcases h.2 with ⟨h1, _⟩ | ⟨g, cap, cur, h1, h0, h2, h3, h3', h4, h5⟩
  · cases h1
  · cases h1
    refine ⟨by have := h.1; rw [List.length_map] at this ⊢; rw [List.length_set]; exact this, .inr ⟨G, cg, _, rfl, h0, set_any h2 p _, h3, h3', by simpa using h4, ?_⟩⟩
    rw [Array.toList_setIfInBounds, List.take_set, h5, List.map_set]
theorem own_bool {w : World} {B G n cg : Nat} {l : List Bool} (h : w.ownsRow B 4 1 (.slice (some ⟨G, 0, none⟩) n cg) n (l.map Value.bool)) {p : Nat} (hp : p < n) : w.cell? ⟨G, p, none⟩ = some (.bool (l.getD p false)) ∧ w.frozen? ⟨G, p, none⟩ = false := by
  have hl : p < l.length := by have := h.1; rw [List.length_map] at this; omega
  exact own_cell h (j := p) (by rw [List.getElem?_map, List.getElem?_eq_getElem hl, List.getD_eq_getElem?_getD, List.getElem?_eq_getElem hl]; rfl)
theorem But.over {M : Nat} {W W' : World} (h : But M W W') {x : Nat} (hx : W.heap.size ≤ x) (j : Nat) (v : Value) : But M W (W'.setCell ⟨x, j, none⟩ v) := by
  have hb := Below.setCell (p := ⟨x, j, none⟩) (Below.refl 0 W') (Nat.zero_le _) v
  exact ⟨hb.os.trans h.os, hb.tape.trans h.tape, hb.output.trans h.output, Nat.le_trans h.size hb.size, fun k hk hm => (Below.heap_setCell _ _ _ k (by show k ≠ x; omega)).trans (h.block k hk hm)⟩
theorem But.drew {M : Nat} {W W' : World} (h : But M W W') : But M W W'.drew := ⟨h.os, h.tape, h.output, h.size, h.block⟩
theorem But.app {M : Nat} {W W' W1 : World} {o : Obj} {e sz n : Nat} {v : Value} {xs : List Value} (h : But M W W') (hown : W'.ownsRow W.heap.size e sz v n xs) (hg : (W'.alloc o).grownBy W1 v.ownBlock) : But M W W1 := by
  have h1 : But M W (W'.alloc o) := h.trans (But.of (below_al W' o))
  refine ⟨hg.os.trans h1.os, hg.tape.trans h1.tape, hg.output.trans h1.output, Nat.le_trans h1.size hg.size, fun k hk hm => ?_⟩
  refine (hg.block k (Nat.lt_of_lt_of_le hk h1.size) (fun e => ?_)).trans (h1.block k hk hm)
  have := (hown.lt k e.symm).1
  omega
theorem But.below {M B : Nat} {W0 W W' : World} (h0 : Below B W0 W) (hB : B ≤ W0.heap.size) (hM : B ≤ M) (h : But M W W') : Below B W0 W' :=
  ⟨h.os.trans h0.os, h.tape.trans h0.tape, h.output.trans h0.output, Nat.le_trans h0.size h.size, fun k hk => (h.block k (Nat.lt_of_lt_of_le (Nat.lt_of_lt_of_le hk hB) h0.size) (by omega)).trans (h0.block k hk)⟩
/-- A row whose block is another one's stays. -/
theorem own_but {M B e sz n : Nat} {W W' : World} {v : Value} {xs : List Value} (h : W.ownsRow B e sz v n xs) (hb : But M W W') (hne : v.ownBlock ≠ some M) : W'.ownsRow B e sz v n xs := by
  refine ⟨h.1, ?_⟩
  rcases h.2 with h2 | ⟨g, cap, cur, h3, h4, h5, h6⟩
  · exact .inl h2
  · refine .inr ⟨g, cap, cur, h3, h4, (hb.block g (Array.getElem?_eq_some_iff.1 h5).1 (fun e => hne ?_)).trans h5, h6⟩
    rw [h3, e]; rfl
theorem own_not {W : World} {M B e sz n : Nat} {v : Value} {xs : List Value} {cur : Array Value} {t : TypeId} (h : W.ownsRow B e sz v n xs) (hM : W.heap[M]? = some (.cells cur t (0, 0))) (hte : e ≠ t) : v.ownBlock ≠ some M := fun he => by
  rcases h.2 with ⟨h1, _⟩ | ⟨g, cap, cur', h3, _, h5, _⟩
  · rw [h1] at he; cases he
  · rw [h3] at he
    have : g = M := by simpa [Value.ownBlock] using he
    subst this
    rw [hM] at h5
    cases h5
    exact hte rfl
/-- A row of rows of numbers. -/
def StepsAt (W : World) (B : Nat) (sv : Value) (ls : List (List Int)) : Prop := ∃ vals : List Value, vals.length = ls.length ∧ W.ownsRow B 22 1 sv ls.length vals ∧ ∀ (j : Nat) (x : Value) (l : List Int), vals[j]? = some x → ls[j]? = some l → W.ownsRow B 3 1 x l.length (ints l)
theorem StepsAt.but {W W' : World} {B M : Nat} {sv : Value} {ls : List (List Int)} {cur : Array Value} (h : StepsAt W B sv ls) (hM : W.heap[M]? = some (.cells cur 4 (0, 0))) (hb : But M W W') : StepsAt W' B sv ls := by
  obtain ⟨vals, h1, h2, h3⟩ := h
  exact ⟨vals, h1, own_but h2 hb (own_not h2 hM (by decide)), fun j x l hx hl => own_but (h3 j x l hx hl) hb (own_not (h3 j x l hx hl) hM (by decide))⟩
theorem StepsAt.nil (W : World) (B : Nat) : StepsAt W B (.slice none 0 0) [] := ⟨[], rfl, World.ownsRow_nil _ _ _ _, fun j x l hx => by simp at hx⟩
theorem StepsAt.more {W W' : World} {B n : Nat} {sv sv' ov : Value} {ls : List (List Int)} {l : List Int} {vals : List Value} {o : Obj} (hl : vals.length = ls.length) (h : W.ownsRow B 22 1 sv ls.length vals) (hr : ∀ (j : Nat) (x : Value) (l : List Int), vals[j]? = some x → ls[j]? = some l → W.ownsRow B 3 1 x l.length (ints l)) (ho : W.ownsRow B 3 1 ov l.length (ints l)) (hown : W'.ownsRow B 22 1 sv' n (vals ++ [ov])) (hn : n = ls.length + 1) (hg : (W.alloc o).grownBy W' sv.ownBlock) : StepsAt W' B sv' (ls ++ [l]) := by
  have keep : ∀ x l, W.ownsRow B 3 1 x l.length (ints l) → W'.ownsRow B 3 1 x l.length (ints l) := fun x l hx => by
    have h1 := own_below hx (below_al W o) (Nat.le_refl _)
    refine ⟨h1.1, ?_⟩
    rcases h1.2 with h2 | ⟨g, cap, cur, h3, h4, h5, h6⟩
    · exact .inl h2
    · refine .inr ⟨g, cap, cur, h3, h4, (hg.block g (Array.getElem?_eq_some_iff.1 h5).1 (fun e => ?_)).trans h5, h6⟩
      have h7 := own_below h (below_al W o) (Nat.le_refl _)
      exact own_not h7 h5 (by decide) e.symm
  refine ⟨vals ++ [ov], by simp [hl], by rw [List.length_append, List.length_singleton, ← hn]; exact hown, fun j x l' hx hl' => ?_⟩
  by_cases e : j < ls.length
  · rw [List.getElem?_append_left (by omega)] at hx
    rw [List.getElem?_append_left e] at hl'
    exact keep x l' (hr j x l' hx hl')
  · have hj : j = ls.length := by
      have := (List.getElem?_eq_some_iff.1 hl').1
      rw [List.length_append, List.length_singleton] at this
      omega
    subst hj
    rw [List.getElem?_append_right (by omega), ← hl] at hx
    rw [List.getElem?_append_right (Nat.le_refl _)] at hl'
    simp at hx hl'
    rw [← hx, ← hl']
    exact keep ov l ho
end Go.Proofs.Ytpejnkngmnabfai
