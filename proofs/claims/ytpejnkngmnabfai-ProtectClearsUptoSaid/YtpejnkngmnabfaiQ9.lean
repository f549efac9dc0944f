/- Rows that grow one by one. -/
import Derived.Test.YtpejnkngmnabfaiQ8
namespace Go.Proofs.Ytpejnkngmnabfai
open Go.RowKit Go.Shelf

theorem own_row_set {w : World} {B G n cg : Nat} {l : List Value} (h : w.ownsRow B 22 1 (.slice (some ⟨G, 0, none⟩) n cg) n l) (p : Nat) (x : Value) : (w.setCell ⟨G, p, none⟩ x).ownsRow B 22 1 (.slice (some ⟨G, 0, none⟩) n cg) n (l.set p x) := by
  rcases h.2 with ⟨h1, _⟩ | ⟨g, cap, cur, h1, h0, h2, h3, h3', h4, h5⟩
  · cases h1
  · cases h1
    refine ⟨by have := h.1; rw [List.length_set]; exact this, .inr ⟨G, cg, _, rfl, h0, set_any h2 p _, h3, h3', by simpa using h4, ?_⟩⟩
    rw [Array.toList_setIfInBounds, List.take_set, h5]
/-- The rows on their way: each own, from block B on; what is empty is nothing. -/
def RowsAt (W : World) (B : Nat) (vals : List Value) (ls : List (List Int)) : Prop := vals.length = ls.length ∧ ∀ (j : Nat) (x : Value) (l : List Int), vals[j]? = some x → ls[j]? = some l → W.ownsRow B 3 1 x l.length (ints l) ∧ (l = [] → x = .slice none 0 0)
theorem RowsAt.nil (W : World) (B L : Nat) : RowsAt W B (List.replicate L (.slice none 0 0)) (List.replicate L []) := by
  refine ⟨by simp, fun j x l hx hl => ?_⟩
  have h1 := List.eq_of_mem_replicate (List.mem_of_getElem? hx)
  have h2 := List.eq_of_mem_replicate (List.mem_of_getElem? hl)
  subst h1
  subst h2
  exact ⟨World.ownsRow_nil _ _ _ _, fun _ => rfl⟩
/-- Two rows that begin unlike lie in two blocks. -/
theorem rows_apart {W : World} {B B' : Nat} {x y : Value} {l l' : List Int} (h : W.ownsRow B 3 1 x l.length (ints l)) (h' : W.ownsRow B' 3 1 y l'.length (ints l')) (h0 : l' = [] → y = .slice none 0 0) (h1 : l = [] → x = .slice none 0 0) (hne : ∀ a ∈ l, ∀ b ∈ l', a ≠ b) : ∀ g, x.ownBlock = some g → some g ≠ y.ownBlock := fun g hg he => by
  cases l with
  | nil => rw [h1 rfl] at hg; cases hg
  | cons a r =>
    cases l' with
    | nil => rw [h0 rfl] at he; cases he
    | cons b r' =>
      rcases h.2 with ⟨e1, _⟩ | ⟨g1, cap1, cur1, e1, _, e2, _, _, _, e3⟩
      · rw [e1] at hg; cases hg
      · rcases h'.2 with ⟨f1, _⟩ | ⟨g2, cap2, cur2, f1, _, f2, _, _, _, f3⟩
        · rw [f1] at he; cases he
        · rw [e1] at hg
          rw [f1] at he
          have hg1 : g1 = g := by simpa [Value.ownBlock] using hg
          have hg2 : g = g2 := by simpa [Value.ownBlock] using he
          subst hg1
          subst hg2
          rw [e2] at f2
          cases f2
          have c1 : (cur1.toList.take ((a :: r).length * 1))[0]? = some (.int .i64 a) := by rw [e3]; rfl
          have c2 : (cur1.toList.take ((b :: r').length * 1))[0]? = some (.int .i64 b) := by rw [f3]; rfl
          rw [List.getElem?_take_of_lt (by simp)] at c1 c2
          rw [c1] at c2
          injection c2 with c2
          injection c2 with c2 c3
          exact hne a (by simp) b (by simp) c3
theorem RowsAt.keep {W W' : World} {B : Nat} {vals : List Value} {ls : List (List Int)} (h : RowsAt W B vals ls) (hk : ∀ (j : Nat) (x : Value) (l : List Int), vals[j]? = some x → ls[j]? = some l → W.ownsRow B 3 1 x l.length (ints l) → W'.ownsRow B 3 1 x l.length (ints l)) : RowsAt W' B vals ls := ⟨h.1, fun j x l hx hl => ⟨hk j x l hx hl (h.2 j x l hx hl).1, (h.2 j x l hx hl).2⟩⟩
/-- One row gets one more. -/
theorem RowsAt.app {W W' : World} {B i : Nat} {vals : List Value} {ls : List (List Int)} {x v' : Value} {l : List Int} {k : Int} {o : Obj} (h : RowsAt W B vals ls) (hx : vals[i]? = some x) (hl : ls[i]? = some l) (hown : W'.ownsRow B 3 1 v' (l ++ [k]).length (ints (l ++ [k]))) (hg : (W.alloc o).grownBy W' x.ownBlock) (hne : ∀ j l', j ≠ i → ls[j]? = some l' → ∀ a ∈ l, ∀ b ∈ l', a ≠ b) : RowsAt W' B (vals.set i v') (ls.set i (l ++ [k])) := by
  have hx0 := h.2 i x l hx hl
  refine ⟨by rw [List.length_set, List.length_set]; exact h.1, fun j y l' hy hl' => ?_⟩
  by_cases e : j = i
  · subst e
    rw [List.getElem?_set_self (List.getElem?_eq_some_iff.1 hx).1] at hy
    rw [List.getElem?_set_self (List.getElem?_eq_some_iff.1 hl).1] at hl'
    injection hy with hy
    injection hl' with hl'
    subst hy
    subst hl'
    exact ⟨hown, fun h0 => by simp at h0⟩
  · rw [List.getElem?_set_ne (fun h => e h.symm)] at hy hl'
    have h1 := h.2 j y l' hy hl'
    have h2 := own_below h1.1 (below_al W o) (Nat.le_refl _)
    have h3 := own_below hx0.1 (below_al W o) (Nat.le_refl _)
    exact ⟨own_grown h2 hg (rows_apart h2 h3 hx0.2 h1.2 (fun a ha b hb e2 => hne j l' e hl' b hb a ha e2.symm)), h1.2⟩
def rowsL (lv : List Nat) (cs : List CutM) (st : List Bool) (L k : Nat) : List (List Int) := (List.range L).map fun t => opL lv cs st (t + 1) k
theorem rows_zero (lv : List Nat) (cs : List CutM) (st : List Bool) (L : Nat) : rowsL lv cs st L 0 = List.replicate L [] := by
  unfold rowsL
  rw [show List.replicate L ([] : List Int) = (List.range L).map fun _ => [] by simp [List.map_const']]
  exact rmap_ext fun t _ => opL_zero lv cs st (t + 1)
theorem rows_get {lv : List Nat} {cs : List CutM} {st : List Bool} {L k i : Nat} (hi : i < L) : (rowsL lv cs st L k)[i]? = some (opL lv cs st (i + 1) k) := by
  unfold rowsL
  rw [List.getElem?_map, List.getElem?_range hi]; rfl
theorem rows_skip {lv : List Nat} {cs : List CutM} {st : List Bool} {L k : Nat} (h : mkk lv cs k = 0 ∨ st.getD k false = true) : rowsL lv cs st L (k + 1) = rowsL lv cs st L k := rmap_ext fun t _ => op_skip (by
  rcases h with h | h
  · exact .inl (by omega)
  · exact .inr h)
theorem rows_meet {lv : List Nat} {cs : List CutM} {st : List Bool} {L k i : Nat} (h : mkk lv cs k = i + 1) (hs : st.getD k false = false) : rowsL lv cs st L (k + 1) = (rowsL lv cs st L k).set i (opL lv cs st (i + 1) k ++ [(k : Int)]) := by
  unfold rowsL
  rw [rmap_set]
  refine rmap_ext fun t _ => ?_
  by_cases e : t = i
  · rw [if_pos e]; subst e; exact op_meet h hs
  · rw [if_neg e]; exact op_skip (.inl (by omega))
theorem op_in {lv : List Nat} {cs : List CutM} {st : List Bool} {i k : Nat} {a : Int} (h : a ∈ opL lv cs st i k) : ∃ q : Nat, a = (q : Int) ∧ mkk lv cs q = i := by
  unfold opL opN at h
  obtain ⟨q, hq, rfl⟩ := List.mem_map.1 h
  rw [List.mem_filter, Bool.and_eq_true, decide_eq_true_iff] at hq
  exact ⟨q, rfl, hq.2.2⟩
theorem rows_ne {lv : List Nat} {cs : List CutM} {st : List Bool} {L k i j : Nat} {l' : List Int} (hj : j ≠ i) (hl : (rowsL lv cs st L k)[j]? = some l') : ∀ a ∈ opL lv cs st (i + 1) k, ∀ b ∈ l', a ≠ b := fun a ha b hb e => by
  have hjL : j < L := by
    have := (List.getElem?_eq_some_iff.1 hl).1
    simpa [rowsL] using this
  rw [rows_get hjL] at hl
  injection hl with hl
  subst hl
  obtain ⟨q, e1, h1⟩ := op_in ha
  obtain ⟨q', e2, h2⟩ := op_in hb
  have : q = q' := by omega
  subst this
  omega
theorem rows_steps {W : World} {B0 B SB cg : Nat} {lv : List Nat} {cs : List CutM} {st : List Bool} {L : Nat} {vals : List Value} (hb : B0 ≤ B) (ho : W.ownsRow B0 22 1 (.slice (some ⟨SB, 0, none⟩) L cg) L vals) (h : RowsAt W B vals (rowsL lv cs st L cs.length)) : StepsAt W B0 (.slice (some ⟨SB, 0, none⟩) L cg) (stepsL lv cs st L) := by
  refine ⟨vals, h.1, ?_, fun j x l hx hl => own_base (h.2 j x l hx hl).1 hb⟩
  rw [steps_len]; exact ho
end Go.Proofs.Ytpejnkngmnabfai
