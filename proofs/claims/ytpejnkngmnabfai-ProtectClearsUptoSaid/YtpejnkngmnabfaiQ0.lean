/- How faults are cleared, as plain words: of each part in which step it gets dark. -/
import Derived.Test.YtpejnkngmnabfaiYv
namespace Go.Proofs.Ytpejnkngmnabfai
open Go.RowKit Go.Shelf

abbrev CutM : Type := Nat × Nat
def CutM.cells (c : CutM) : List Value := [.int .i64 (c.1 : Int), .int .i64 (c.2 : Int)]
theorem rmap_getD {α : Type} {n p : Nat} {f : Nat → α} {d : α} : ((List.range n).map f).getD p d = if p < n then f p else d := by
  rw [List.getD_eq_getElem?_getD, List.getElem?_map]
  by_cases h : p < n
  · rw [List.getElem?_range h, if_pos h]; rfl
  · rw [List.getElem?_eq_none (by simpa using h), if_neg h]; rfl
theorem rmap_ext {α : Type} {n : Nat} {f g : Nat → α} (h : ∀ p, p < n → f p = g p) : (List.range n).map f = (List.range n).map g := List.map_congr_left fun p hp => h p (List.mem_range.1 hp)
/-- Each breaker stands between two unlike parts that there are. -/
def Placed (n : Nat) (cs : List CutM) : Prop := ∀ k, k < cs.length → (cs.getD k (0, 0)).1 < n ∧ (cs.getD k (0, 0)).2 < n ∧ (cs.getD k (0, 0)).1 ≠ (cs.getD k (0, 0)).2
/-- The step in which a breaker is tripped; 0: in none. -/
def mlv (lv : List Nat) (c : CutM) : Nat := if lv.getD c.1 0 = 0 then lv.getD c.2 0 else if lv.getD c.2 0 = 0 then lv.getD c.1 0 else min (lv.getD c.1 0) (lv.getD c.2 0)
def mkk (lv : List Nat) (cs : List CutM) (k : Nat) : Nat := mlv lv (cs.getD k (0, 0))
/-- Parts get dark by steps, up to step i; what is stuck has been followed up to step t. -/
structure Lev (n f : Nat) (cs : List CutM) (st : List Bool) (i t : Nat) (lv : List Nat) : Prop where
  len : lv.length = n
  pos : 1 ≤ i
  one : ∀ p, p < n → (lv.getD p 0 = 1 ↔ p = f)
  le : ∀ p, lv.getD p 0 ≤ i
  has : ∃ p, p < n ∧ lv.getD p 0 = i
  on : ∀ k, k < cs.length → st.getD k false = true → ∀ j, 0 < j → j ≤ t → (lv.getD (cs.getD k (0, 0)).1 0 = j → 0 < lv.getD (cs.getD k (0, 0)).2 0 ∧ lv.getD (cs.getD k (0, 0)).2 0 ≤ j + 1) ∧ (lv.getD (cs.getD k (0, 0)).2 0 = j → 0 < lv.getD (cs.getD k (0, 0)).1 0 ∧ lv.getD (cs.getD k (0, 0)).1 0 ≤ j + 1)
  fro : ∀ p, p < n → 2 ≤ lv.getD p 0 → ∃ k, k < cs.length ∧ st.getD k false = true ∧ (((cs.getD k (0, 0)).1 = p ∧ lv.getD (cs.getD k (0, 0)).2 0 + 1 = lv.getD p 0) ∨ ((cs.getD k (0, 0)).2 = p ∧ lv.getD (cs.getD k (0, 0)).1 0 + 1 = lv.getD p 0))
  cnt : i ≤ (List.range n).countP (fun p => decide (0 < lv.getD p 0))
theorem Lev.small {n f i t : Nat} {cs : List CutM} {st : List Bool} {lv : List Nat} (h : Lev n f cs st i t lv) : i ≤ n := by
  have := h.cnt
  have h2 := List.countP_le_length (p := fun p => decide (0 < lv.getD p 0)) (l := List.range n)
  rw [List.length_range] at h2
  omega
/-- What is dark. -/
def dkL (n : Nat) (lv : List Nat) : List Bool := (List.range n).map fun p => decide (0 < lv.getD p 0)
/-- What has been tripped, in step i, among the first j breakers. -/
def trL (lv : List Nat) (cs : List CutM) (i j : Nat) : List Bool := (List.range cs.length).map fun k => decide (0 < mkk lv cs k ∧ (mkk lv cs k < i ∨ (mkk lv cs k = i ∧ k < j)))
/-- What has opened. -/
def opN (lv : List Nat) (cs : List CutM) (st : List Bool) (i j : Nat) : List Nat := (List.range j).filter fun k => !st.getD k false && decide (mkk lv cs k = i)
def opL (lv : List Nat) (cs : List CutM) (st : List Bool) (i j : Nat) : List Int := (opN lv cs st i j).map fun k : Nat => (k : Int)
/-- What is dark next. -/
def nxP (lv : List Nat) (cs : List CutM) (st : List Bool) (i j p : Nat) : Bool := decide (0 < lv.getD p 0) || (List.range j).any fun k => st.getD k false && (decide (mkk lv cs k = i) && (decide ((cs.getD k (0, 0)).1 = p) || decide ((cs.getD k (0, 0)).2 = p)))
def nxL (n : Nat) (lv : List Nat) (cs : List CutM) (st : List Bool) (i j : Nat) : List Bool := (List.range n).map (nxP lv cs st i j)
/-- All steps up to the i-th. -/
def stepsL (lv : List Nat) (cs : List CutM) (st : List Bool) (i : Nat) : List (List Int) := (List.range i).map fun t => opL lv cs st (t + 1) cs.length
theorem nxL_zero (n : Nat) (lv : List Nat) (cs : List CutM) (st : List Bool) (i : Nat) : nxL n lv cs st i 0 = dkL n lv := rmap_ext fun p _ => by simp [nxP]
theorem opL_zero (lv : List Nat) (cs : List CutM) (st : List Bool) (i : Nat) : opL lv cs st i 0 = [] := rfl
theorem mk_le {n f i t : Nat} {cs : List CutM} {st : List Bool} {lv : List Nat} (h : Lev n f cs st i t lv) (k : Nat) : mkk lv cs k ≤ i := by
  have h1 := h.le (cs.getD k (0, 0)).1
  have h2 := h.le (cs.getD k (0, 0)).2
  unfold mkk mlv
  split
  · exact h2
  · split
    · exact h1
    · omega
theorem mk_zero {lv : List Nat} {cs : List CutM} {k : Nat} : mkk lv cs k = 0 ↔ lv.getD (cs.getD k (0, 0)).1 0 = 0 ∧ lv.getD (cs.getD k (0, 0)).2 0 = 0 := by
  unfold mkk mlv
  split
  · rename_i h; exact ⟨fun e => ⟨h, e⟩, fun e => e.2⟩
  · split <;> omega
/-- A breaker that is not met in this step. -/
theorem tr_skip {lv : List Nat} {cs : List CutM} {i j : Nat} (h : mkk lv cs j ≠ i) : trL lv cs i (j + 1) = trL lv cs i j := rmap_ext fun k _ => by
  by_cases e : k = j
  · subst e
    congr 1
    simp only [eq_iff_iff]
    constructor
    · rintro ⟨h0, h1 | ⟨h1, _⟩⟩
      · exact ⟨h0, .inl h1⟩
      · exact absurd h1 h
    · rintro ⟨h0, h1 | ⟨h1, _⟩⟩
      · exact ⟨h0, .inl h1⟩
      · exact absurd h1 h
  · congr 1
    simp only [eq_iff_iff]
    constructor
    · rintro ⟨h0, h1 | ⟨h1, h2⟩⟩
      · exact ⟨h0, .inl h1⟩
      · exact ⟨h0, .inr ⟨h1, by omega⟩⟩
    · rintro ⟨h0, h1 | ⟨h1, h2⟩⟩
      · exact ⟨h0, .inl h1⟩
      · exact ⟨h0, .inr ⟨h1, by omega⟩⟩
theorem rmap_set {α : Type} {n j : Nat} {f : Nat → α} {x : α} : ((List.range n).map f).set j x = (List.range n).map fun p => if p = j then x else f p := by
  refine List.ext_getElem (by simp) fun k h1 h2 => ?_
  rw [List.getElem_set, List.getElem_map, List.getElem_map, List.getElem_range]
  by_cases e : j = k
  · rw [if_pos e, if_pos e.symm]
  · rw [if_neg e, if_neg (fun h => e h.symm)]
theorem tr_meet {lv : List Nat} {cs : List CutM} {i j : Nat} (hi : 1 ≤ i) (h : mkk lv cs j = i) : trL lv cs i (j + 1) = (trL lv cs i j).set j true := by
  unfold trL
  rw [rmap_set]
  refine rmap_ext fun k _ => ?_
  by_cases e : k = j
  · rw [if_pos e]; subst e; rw [decide_eq_true_iff]; exact ⟨by omega, .inr ⟨h, by omega⟩⟩
  · rw [if_neg e]
    congr 1
    simp only [eq_iff_iff]
    constructor
    · rintro ⟨h0, h1 | ⟨h1, h2⟩⟩
      · exact ⟨h0, .inl h1⟩
      · exact ⟨h0, .inr ⟨h1, by omega⟩⟩
    · rintro ⟨h0, h1 | ⟨h1, h2⟩⟩
      · exact ⟨h0, .inl h1⟩
      · exact ⟨h0, .inr ⟨h1, by omega⟩⟩
theorem op_skip {lv : List Nat} {cs : List CutM} {st : List Bool} {i j : Nat} (h : mkk lv cs j ≠ i ∨ st.getD j false = true) : opL lv cs st i (j + 1) = opL lv cs st i j := by
  unfold opL opN
  rw [List.range_succ, List.filter_append]
  have : [j].filter (fun k => !st.getD k false && decide (mkk lv cs k = i)) = [] := by
    rw [List.filter_cons_of_neg]
    · rfl
    · rcases h with h | h
      · simp [h]
      · rw [h]; simp
  rw [this, List.append_nil]
theorem op_meet {lv : List Nat} {cs : List CutM} {st : List Bool} {i j : Nat} (h : mkk lv cs j = i) (hs : st.getD j false = false) : opL lv cs st i (j + 1) = opL lv cs st i j ++ [(j : Int)] := by
  unfold opL opN
  rw [List.range_succ, List.filter_append]
  have : [j].filter (fun k => !st.getD k false && decide (mkk lv cs k = i)) = [j] := by
    rw [List.filter_cons_of_pos]
    · rfl
    · rw [hs]; simp [h]
  rw [this, List.map_append]; rfl
theorem nx_skip {n : Nat} {lv : List Nat} {cs : List CutM} {st : List Bool} {i j : Nat} (h : mkk lv cs j ≠ i ∨ st.getD j false = false) : nxL n lv cs st i (j + 1) = nxL n lv cs st i j := rmap_ext fun p _ => by
  unfold nxP
  rw [List.range_succ, List.any_append]
  have : [j].any (fun k => st.getD k false && (decide (mkk lv cs k = i) && (decide ((cs.getD k (0, 0)).1 = p) || decide ((cs.getD k (0, 0)).2 = p)))) = false := by
    rw [List.any_cons, List.any_nil, Bool.or_false]
    rcases h with h | h
    · simp [h]
    · rw [h]; rfl
  rw [this, Bool.or_false]
theorem nx_meet {n : Nat} {lv : List Nat} {cs : List CutM} {st : List Bool} {i j : Nat} (h : mkk lv cs j = i) (hs : st.getD j false = true) : nxL n lv cs st i (j + 1) = ((nxL n lv cs st i j).set (cs.getD j (0, 0)).1 true).set (cs.getD j (0, 0)).2 true := by
  unfold nxL
  rw [rmap_set, rmap_set]
  refine rmap_ext fun p _ => ?_
  unfold nxP
  rw [List.range_succ, List.any_append, List.any_cons, List.any_nil, Bool.or_false, hs, h]
  by_cases e1 : p = (cs.getD j (0, 0)).2
  · rw [if_pos e1]; subst e1; simp
  · rw [if_neg e1]
    by_cases e2 : p = (cs.getD j (0, 0)).1
    · rw [if_pos e2]; subst e2; simp
    · rw [if_neg e2]
      have h1 : decide ((cs.getD j (0, 0)).1 = p) = false := by simp; exact fun e => e2 e.symm
      have h2 : decide ((cs.getD j (0, 0)).2 = p) = false := by simp; exact fun e => e1 e.symm
      rw [h1, h2]; simp
end Go.Proofs.Ytpejnkngmnabfai
