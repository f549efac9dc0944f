/- A station's tick. -/
import Derived.Test.YtjhmendiefojoalS3
namespace Go.Proofs.Ytjhmendiefojoal
open Go.RowKit Go.Shelf

/-- A station that is armed no more. -/
def StM.off (S : StM) : StM := ⟨S.last, -1, 0, false, 0, S.pat⟩
def tickS (S : StM) : StM := if S.armed = -1 then S else if S.left = 1 then S.off else ⟨S.last, S.armed, S.point, S.want, S.left - 1, S.pat⟩
def StM.nought : StM := ⟨0, 0, 0, false, 0, 0⟩
/-- A station and a word of error are answered. -/
def StaO (l : List Bool) (S : StM) (code : Int) (w : World) (e : Ending) (w' : World) : Prop := ∃ a c, e = .returned (.tuple #[.agg (S.cells (.slice a l.length c)), .int .i64 code]) ∧ RowAt w' (.slice a l.length c) l.length 1 (l.map Value.bool) ∧ Below w.heap.size w w'
theorem row_none (w : World) : RowAt w (.slice none 0 0) ([] : List Bool).length 1 (([] : List Bool).map Value.bool) := ⟨rfl, none, 0, rfl, fun j u h => by simp at h⟩
theorem may_armed {n : Nat} {S : StM} (h : mayS n S = true) : n ≤ 16 ∧ (S.armed = -1 ∧ S.point = 0 ∧ S.want = false ∧ S.left = 0 ∨ S.armed ≠ -1 ∧ (S.last < S.armed ∧ S.armed ≤ 1000000000) ∧ (0 ≤ S.point ∧ S.point < n) ∧ 1 ≤ S.left ∧ S.left ≤ 1000) := by
  unfold mayS at h
  simp only [Bool.and_eq_true, Bool.or_eq_true, decide_eq_true_eq] at h
  obtain ⟨⟨⟨h0, h1⟩, h2⟩, h3⟩ := h
  refine ⟨h0, ?_⟩
  rcases h3 with h3 | h3
  · exact .inl h3
  · exact .inr ⟨by omega, ⟨by omega, by omega⟩, ⟨by omega, by omega⟩, by omega, by omega⟩
set_option maxRecDepth 100000 in
set_option maxHeartbeats 2000000 in
theorem disarm_any (S : StM) (K : Nat) (v : Value) (w : World) (h : w.heap[K]? = some (.cells (S.cells v) 55 (0, 0))) : Calls Try.prog 45 #[.pointer (some ⟨K, 0, none⟩)] w fun e w' => e = .returned (.tuple #[]) ∧ w'.heap[K]? = some (.cells (S.off.cells v) 55 (0, 0)) ∧ But K w w' := by
  obtain ⟨_, _, c2, c3, c4, c5, _⟩ := cell7 h
  have e2 : w.frozen? ⟨K, 2, none⟩ = false := frozen_no h _
  have e3 : w.frozen? ⟨K, 3, none⟩ = false := frozen_no h _
  have e4 : w.frozen? ⟨K, 4, none⟩ = false := frozen_no h _
  have e5 : w.frozen? ⟨K, 5, none⟩ = false := frozen_no h _
  have HF : Hid (((((w.setCell ⟨K, 2, none⟩ (.int .i64 (-1))).setCell ⟨K, 3, none⟩ (.int .i64 0)).setCell ⟨K, 4, none⟩ (.bool false)).setCell ⟨K, 5, none⟩ (.int .i64 0)).heap[K]? = some (.cells (S.off.cells v) 55 (0, 0)) ∧ But K w ((((w.setCell ⟨K, 2, none⟩ (.int .i64 (-1))).setCell ⟨K, 3, none⟩ (.int .i64 0)).setCell ⟨K, 4, none⟩ (.bool false)).setCell ⟨K, 5, none⟩ (.int .i64 0))) := by
    refine ⟨?_, But.set (But.set (But.set (But.set (But.refl K w) _ _) _ _) _ _) _ _⟩
    exact (set_any (set_any (set_any (set_any h 2 _) 3 _) 4 _) 5 _).trans (by unfold StM.cells StM.off; simp only [List.setIfInBounds_toArray, List.set_cons_zero, List.set_cons_succ])
  clear h
  go_enter Try.func45, Try.ntmps45
  go_wp2
  refine bodyPost_end (results_none rfl _ _ _) rfl ?_
  exact ⟨rfl, HF.out⟩
end Go.Proofs.Ytjhmendiefojoal
