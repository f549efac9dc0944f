/- For every row of lakes, every table of numbers and every two rows of numbers, of bulk at most 1048576 together, WaterBest answers true, and all read afterwards as they did before. Condition: the bulk (the second form). -/
import Derived.Test.YtnhddmcdmcpkeajZn
import Derived.Test.YtnhddmcdmcpkeajRx
import Derived.Test.YtnhddmcdmcpkeajChecked
import Derived.WalkKit
import Derived.ProofKit
import Derived.OpenShut
import Derived.JoinedCond
namespace Go.Proofs.Ytnhddmcdmcpkeaj.Arg
open Go.ChangeShapes Go.WideShapes Go.ChangeAt Go.RowKit Go.Deep
variable {H : Type} {enc : TypeId × Value → H} {W : World} {base : Nat} {spare : Nat → Bool} {held : Bool}
set_option maxRecDepth 100000 in
theorem ints_of {r : Reach} {b0 : Nat} {v : Value} {d : DataW H} {p : List MemPlace} (hv : Value.okWide Try.prog W r b0 39 v) (h : DataW.Trod enc Try.prog W base spare held 39 v d p) (hk : Rows.uptoBulk d ≤ 1048576) : ∃ (l : List Int) (a : Option Addr) (c : Nat), v = .slice a l.length c ∧ RowAt W v l.length 1 (ints l) ∧ l.length ≤ 1048576 := by
  obtain ⟨fuel, hf0⟩ := h
  obtain ⟨a, len, cap, rfl⟩ := okWide_slice Try.underlying39 hv
  have hc : (Value.slice a len cap).cells.toList = [.slice a len cap] := rfl
  rw [hc] at hf0
  obtain ⟨bs, hb, lb, _⟩ := open_rows (fun x => [Value.int .i64 x]) (fun m _ => I6 m) Try.underlying39 c3 (by decide) (fun _ => rfl) (fun _ _ _ h _ => h) int_rd6 hf0
  rw [flat_one] at hb
  obtain ⟨a', c', e⟩ := rowAt_slice hb
  exact ⟨bs, a', c', e, hb, by have : bs.length ≤ Rows.uptoBulk d := lb; omega⟩
end Go.Proofs.Ytnhddmcdmcpkeaj.Arg
namespace Go.Proofs.Ytnhddmcdmcpkeaj.WBest
open Go.ChangeShapes Go.WideShapes Go.ChangeAt Go.RowKit

theorem laidOut : laidOutB Try.prog = true := by kernel_rfl
theorem own : ownKnob Try.prog.godebug = none := by kernel_rfl
set_option maxRecDepth 100000 in
set_option maxHeartbeats 2000000 in
theorem lifted (os : Os) (started : os.Started) (H : Type) (enc : TypeId × Value → H) (F : Stop.Interp) :
    ReturnsInHanded {} Try.checked os 8 .any ((Rows.OpenSpec.upto Rows.waterBestSpec).pre6 enc Try.prog Try.f8 Rows.waterBestUptoRow.domain false) (((Rows.OpenSpec.upto Rows.waterBestSpec).at F).post enc Try.prog Try.f8 false true false false) := by
  refine returnsInHanded_of_cond (C := Try.checked) (s := Rows.OpenSpec.upto Rows.waterBestSpec) (k := Rows.uptoSmall) rfl own started (by kernel_rfl) Try.func8
    (OpenSpec.witness (enc := enc) (C := Try.checked) (s := Rows.OpenSpec.upto Rows.waterBestSpec) (k := Rows.uptoSmall) rfl false ⟨#[], #[.slice none 0 0, .slice none 0 0, .slice none 0 0, .slice none 0 0], []⟩ 8 (by kernel_rfl) (by kernel_rfl) (by kernel_rfl)
      (x := ([.nil, .nil, .nil, .nil], [], [])) (by kernel_rfl) rfl (by kernel_rfl)) ?_
  intro W base args ds gs before hval0 hW _ hk _
  have hval : ∀ (j : Nat) t v, Try.f8.params[j]? = some t → args[j]? = some v → Value.okWide Try.prog W .any base t v := hval0
  have hW' := hW
  obtain ⟨p, q, hA0, hV0, rfl, _, _⟩ := hW
  have hA : DataW.TrodAll enc Try.prog W 0 (fun _ => true) true Try.f8.params.toList args.toList ds p := hA0
  rw [Try.params8] at hA hval
  obtain ⟨v0, vs0, d0, ds0, p0, q0, hargs, rfl, rfl, h0, r0⟩ := trodAll_cons hA
  obtain ⟨v1, vs1, d1, ds1, p1, q1, rfl, rfl, rfl, h1, r1⟩ := trodAll_cons r0
  obtain ⟨v2, vs2, d2, ds2, p2, q2, rfl, rfl, rfl, h2, r2⟩ := trodAll_cons r1
  obtain ⟨v3, vs3, d3, ds3, p3, q3, rfl, rfl, rfl, h3, r3⟩ := trodAll_cons r2
  obtain ⟨rfl, rfl, rfl⟩ := trodAll_nil r3
  obtain rfl : args = #[v0, v1, v2, v3] := by cases args; simp_all
  obtain ⟨rfl, rfl⟩ := trodVars_none hV0
  have hbulk := Arg.bulk_bound hk
  simp only [List.append_nil, Rows.uptoBulkAll, Nat.add_zero] at hbulk
  have hlt : ∀ x ∈ p0 ++ (p1 ++ (p2 ++ (p3 ++ []))), x.block < W.heap.size := DataW.TrodAll.lt hA0
  obtain ⟨ls, al, cl, el, hl, hll⟩ := Arg.lakes_of (hval 0 50 v0 rfl rfl) h0 (by omega)
  obtain ⟨ti, ai, ci, ei, hi, hil, hi2⟩ := Arg.table_of (hval 1 51 v1 rfl rfl) h1 (by omega)
  obtain ⟨pr, ap, cp, epr, hpr, hprl⟩ := Arg.ints_of (hval 2 39 v2 rfl rfl) h2 (by omega)
  obtain ⟨en, ae, ce, een, hen, henl⟩ := Arg.ints_of (hval 3 39 v3 rfl rfl) h3 (by omega)
  subst el ei epr een
  clear hA0 hV0 hval0
  refine (WaterBest_any ls ti pr en al ai ap ae cl ci cp ce W hl hi hpr hen (by omega) (by omega) (by omega) (by omega) (fun l h => by have := hi2 l h; omega)).mono ?_
  rintro e W' ⟨rfl, bel⟩
  have e1 : ((Rows.OpenSpec.upto Rows.waterBestSpec).at F).fn H ([d0, d1, d2, d3] ++ []) = { results := [.lit (.bool true)], args := [d0, d1, d2, d3] } := rfl
  refine ⟨_, rfl, _, _, _, [], p0 ++ (p1 ++ (p2 ++ (p3 ++ []))), [], hW', ?_, ?_, ?_, bel.frame _, fun h => by cases h⟩
  · rw [e1]; exact trodAll_mk1 (shut_bool Try.underlying4 _)
  · rw [e1]
    exact trodAll_cons_mk (Below.trod laidOut (by kernel_rfl) (of_decide_eq_true (by kernel_rfl)) h0 bel (fun x hx => hlt x (List.mem_append_left _ hx))) (trodAll_cons_mk (Below.trod laidOut (by kernel_rfl) (of_decide_eq_true (by kernel_rfl)) h1 bel (fun x hx => hlt x (List.mem_append_right _ (List.mem_append_left _ hx)))) (trodAll_cons_mk (Below.trod laidOut (by kernel_rfl) (of_decide_eq_true (by kernel_rfl)) h2 bel (fun x hx => hlt x (List.mem_append_right _ (List.mem_append_right _ (List.mem_append_left _ hx))))) (trodAll_cons_mk (Below.trod laidOut (by kernel_rfl) (of_decide_eq_true (by kernel_rfl)) h3 bel (fun x hx => hlt x (List.mem_append_right _ (List.mem_append_right _ (List.mem_append_right _ (List.mem_append_left _ hx)))))) trodAll_mk0)))
  · rw [e1]; rfl

theorem over : Rows.waterBestUptoRow.holds Try.pinned (Rows.OpenSpec.upto Rows.waterBestSpec) :=
  OpenClaim.holds_of_cond 8 Try.f8 rfl rfl rfl rfl rfl rfl rfl ⟨rfl, rfl, rfl, rfl, rfl⟩ rfl rfl rfl rfl rfl (by kernel_rfl) Try.func8 (by kernel_rfl)
    (of_decide_eq_true (by kernel_rfl)) (by unfold Func.isWrapper; first | (rw [if_pos (by decide +kernel)]; kernel_rfl) | (rw [if_neg (by decide +kernel)]; exact ⟨rfl, rfl⟩))
    (fun os started H enc _ F => lifted os started H enc F)
end Go.Proofs.Ytnhddmcdmcpkeaj.WBest
namespace Go.Proofs.Ytnhddmcdmcpkeaj
theorem waterBest_upto : Rows.WaterBestUptoSaid := WBest.over
end Go.Proofs.Ytnhddmcdmcpkeaj
