/- For every yard and every row of signs, of bulk at most 1048576, YardPlans answers true, and both read afterwards as they did before. Condition: the bulk (the second form). -/
import Derived.Test.YtcnoipcpifackahXz
import Derived.Test.YtcnoipcpifackahRy
import Derived.Test.YtcnoipcpifackahChecked
import Derived.WalkKit
import Derived.ProofKit
import Derived.OpenShut
import Derived.JoinedCond
namespace Go.Proofs.Ytcnoipcpifackah.Arg
open Go.ChangeShapes Go.WideShapes Go.ChangeAt Go.RowKit Go.Deep

section
variable {H : Type} {enc : TypeId × Value → H} {W : World} {base : Nat} {spare : Nat → Bool} {held : Bool}
/-- The row of signs that came in. -/
theorem bools_of {r : Reach} {b0 : Nat} {v : Value} {d : DataW H} {p : List MemPlace} (hv : Value.okWide Try.prog W r b0 32 v) (h : DataW.Trod enc Try.prog W base spare held 32 v d p) (hk : Rows.uptoBulk d ≤ 1048576) : ∃ l : List Bool, RowAt W v l.length 1 (l.map Value.bool) ∧ l.length ≤ 1048576 := by
  obtain ⟨fuel, hf0⟩ := h
  obtain ⟨a, len, cap, rfl⟩ := okWide_slice Try.underlying32 hv
  have hc : (Value.slice a len cap).cells.toList = [.slice a len cap] := rfl
  rw [hc] at hf0
  obtain ⟨bs, hb, lb, _⟩ := open_rows (fun x => [Value.bool x]) (fun _ _ => True) Try.underlying32 c4 (by decide) (fun _ => rfl) (fun _ _ _ _ _ => trivial) bool_rd hf0
  rw [flat_one] at hb
  exact ⟨bs, hb, by have : bs.length ≤ Rows.uptoBulk d := lb; omega⟩
end
end Go.Proofs.Ytcnoipcpifackah.Arg
namespace Go.Proofs.Ytcnoipcpifackah.Plans
open Go.ChangeShapes Go.WideShapes Go.ChangeAt Go.RowKit

theorem laidOut : laidOutB Try.prog = true := by kernel_rfl
theorem own : ownKnob Try.prog.godebug = none := by kernel_rfl
set_option maxRecDepth 100000 in
set_option maxHeartbeats 2000000 in
theorem lifted (os : Os) (started : os.Started) (H : Type) (enc : TypeId × Value → H) (F : Stop.Interp) :
    ReturnsInHanded {} Try.checked os 4 .any ((Rows.OpenSpec.upto Rows.yardPlansSpec).pre6 enc Try.prog Try.f4 Rows.yardPlansUptoRow.domain false) (((Rows.OpenSpec.upto Rows.yardPlansSpec).at F).post enc Try.prog Try.f4 false true false false) := by
  refine returnsInHanded_of_cond (C := Try.checked) (s := Rows.OpenSpec.upto Rows.yardPlansSpec) (k := Rows.uptoSmall) rfl own started (by kernel_rfl) Try.func4
    (OpenSpec.witness (enc := enc) (C := Try.checked) (s := Rows.OpenSpec.upto Rows.yardPlansSpec) (k := Rows.uptoSmall) rfl false ⟨#[], #[.agg #[.int .i64 0, .slice none 0 0, .slice none 0 0, .slice none 0 0], .slice none 0 0], []⟩ 4 (by kernel_rfl) (by kernel_rfl) (by kernel_rfl)
      (x := ([.agg [.lit (.int .i64 0), .nil, .nil, .nil], .nil], [], [])) (by kernel_rfl) rfl (by kernel_rfl)) ?_
  intro W base args ds gs before hval0 hW _ hk _
  have hval : ∀ (j : Nat) t v, Try.f4.params[j]? = some t → args[j]? = some v → Value.okWide Try.prog W .any base t v := hval0
  have hW' := hW
  obtain ⟨p, q, hA0, hV0, rfl, _, _⟩ := hW
  have hA : DataW.TrodAll enc Try.prog W 0 (fun _ => true) true Try.f4.params.toList args.toList ds p := hA0
  rw [Try.params4] at hA hval
  obtain ⟨v0, vs0, d0, ds0, p0, q0, hargs, rfl, rfl, h0, r0⟩ := trodAll_cons hA
  obtain ⟨v1, vs1, d1, ds1, p1, q1, rfl, rfl, rfl, h1, r1⟩ := trodAll_cons r0
  obtain ⟨rfl, rfl, rfl⟩ := trodAll_nil r1
  obtain rfl : args = #[v0, v1] := by cases args; simp_all
  obtain ⟨rfl, rfl⟩ := trodVars_none hV0
  have hbulk := Arg.bulk_bound hk
  simp only [List.append_nil, Rows.uptoBulkAll, Nat.add_zero] at hbulk
  have hlt : ∀ x ∈ p0 ++ (p1 ++ []), x.block < W.heap.size := DataW.TrodAll.lt hA0
  obtain ⟨y, af, ad, as', cf, cd, cs, rfl, hy, l1, l2, l3⟩ := Arg.yard_of (hval 0 25 v0 rfl rfl) h0 (by omega)
  obtain ⟨gl, hg, hgl⟩ := Arg.bools_of (hval 1 32 v1 rfl rfl) h1 (by omega)
  clear hA0 hV0 hval0
  refine (YardPlans_any y gl v1 af ad as' cf cd cs W hy (by omega) (by omega) (by omega) hg (by omega)).mono ?_
  rintro e W' ⟨rfl, bel⟩
  have e1 : ((Rows.OpenSpec.upto Rows.yardPlansSpec).at F).fn H ([d0, d1] ++ []) = { results := [.lit (.bool true)], args := [d0, d1] } := rfl
  refine ⟨_, rfl, _, _, _, [], p0 ++ (p1 ++ []), [], hW', ?_, ?_, ?_, bel.frame _, fun h => by cases h⟩
  · rw [e1]; exact trodAll_mk1 (shut_bool Try.underlying4 _)
  · rw [e1]
    exact trodAll_cons_mk (Below.trod laidOut (by kernel_rfl) (of_decide_eq_true (by kernel_rfl)) h0 bel (fun x hx => hlt x (List.mem_append_left _ hx))) (trodAll_cons_mk (Below.trod laidOut (by kernel_rfl) (of_decide_eq_true (by kernel_rfl)) h1 bel (fun x hx => hlt x (List.mem_append_right _ (List.mem_append_left _ hx)))) trodAll_mk0)
  · rw [e1]; rfl

theorem over : Rows.yardPlansUptoRow.holds Try.pinned (Rows.OpenSpec.upto Rows.yardPlansSpec) :=
  OpenClaim.holds_of_cond 4 Try.f4 rfl rfl rfl rfl rfl rfl rfl ⟨rfl, rfl, rfl, rfl, rfl⟩ rfl rfl rfl rfl rfl (by kernel_rfl) Try.func4 (by kernel_rfl)
    (of_decide_eq_true (by kernel_rfl)) (by unfold Func.isWrapper; first | (rw [if_pos (by decide +kernel)]; kernel_rfl) | (rw [if_neg (by decide +kernel)]; exact ⟨rfl, rfl⟩))
    (fun os started H enc _ F => lifted os started H enc F)
end Go.Proofs.Ytcnoipcpifackah.Plans
namespace Go.Proofs.Ytcnoipcpifackah
theorem yardPlans_upto : Rows.YardPlansUptoSaid := Plans.over
end Go.Proofs.Ytcnoipcpifackah
