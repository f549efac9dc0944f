/- Whether a Blade would part or join what flows, in the document's answer. -/
import Derived.Test.YtcnoipcpifackahZ7
import Derived.Test.YtcnoipcpifackahYh
namespace Go.Proofs.Ytcnoipcpifackah
open Go.RowKit Go.Shelf

theorem opened_devs {y : YardM} {k : Nat} (hk : k < y.devs.length) : (y.opened k).devs = y.devs.modify k fun d => { d with shut := false } := by
  obtain ⟨h1, _⟩ := dev_get hk
  unfold YardM.opened
  refine List.ext_getElem (by split <;> simp [YardM.turn]) fun i h2 h3 => ?_
  have hi : i < y.devs.length := by simpa using h3
  rw [List.getElem_modify]
  have hd : y.dev k = y.devs[k] := by rw [List.getElem?_eq_getElem hk] at h1; exact (Option.some.inj h1).symm
  by_cases hs : (y.dev k).shut = true
  · simp only [hs, if_true, YardM.turn, List.getElem_modify]
    split
    · rename_i e; subst e; rw [← hd]; unfold DevM.turn; rw [hs]; rfl
    · rfl
  · simp only [Bool.not_eq_true] at hs
    simp only [hs, Bool.false_eq_true, if_false]
    split
    · rename_i e; subst e; rw [← hd, ← hs]
    · rfl
theorem opened_same (y : YardM) (k : Nat) : (y.opened k).points = y.points ∧ (y.opened k).fed = y.fed ∧ (y.opened k).drawn = y.drawn := by
  unfold YardM.opened; split <;> exact ⟨rfl, rfl, rfl⟩
/-- What is together with one point. -/
theorem one_with {n : Nat} {ds : List DevM} (he : Ends n ds) {a : Nat} (ha : a < n) : togL n ds (theseL n [(a : Int)]) = withL (grpL n ds) n [(a : Int)] := tog_with he (fun q hq => by simp at hq; rw [hq]; simpa using ha)
theorem one_get {g : List Int} {n a p : Nat} (hp : p < n) : (withL g n [(a : Int)]).getD p false = (g.getD a 0 == g.getD p 0) := by rw [withL_get hp]; simp
theorem one_some {g : List Int} {n a : Nat} {fs : List Int} (ha : a < n) (hf : ∀ q ∈ fs, 0 ≤ q ∧ q < n) : someB (withL g n [(a : Int)]) fs = (withL g n fs).getD a false := by
  rw [withL_get ha, someB, Bool.eq_iff_iff, List.any_eq_true, List.any_eq_true]
  constructor
  · rintro ⟨q, hq, h⟩
    have := hf q hq
    rw [one_get (by omega)] at h
    exact ⟨q, hq, by rw [beq_iff_eq] at h ⊢; exact h.symm⟩
  · rintro ⟨q, hq, h⟩
    have := hf q hq
    refine ⟨q, hq, ?_⟩
    rw [one_get (by omega)]
    rw [beq_iff_eq] at h ⊢; exact h.symm
end Go.Proofs.Ytcnoipcpifackah
