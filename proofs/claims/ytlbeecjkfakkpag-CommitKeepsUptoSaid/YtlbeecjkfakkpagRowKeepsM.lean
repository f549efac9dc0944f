/- For every list of raw units, every number of hours, needs and spares, of bulk at most 1048576 together, CommitKeeps answers true, and the arguments read afterwards as they did before. Condition: the bulk (the second form). -/
import Derived.Test.YtlbeecjkfakkpagRa
import Derived.Test.YtlbeecjkfakkpagCl
import Derived.Test.YtlbeecjkfakkpagM1
import Derived.Test.YtlbeecjkfakkpagM3
import Derived.Test.YtlbeecjkfakkpagChecked
import Derived.WalkKit
import Derived.ProofKit
import Derived.OpenShut
import Derived.JoinedCond
namespace Go.Proofs.Ytlbeecjkfakkpag.Arg
open Go.ChangeShapes Go.WideShapes Go.ChangeAt Go.RowKit Go.Deep

section
variable {H : Type} {enc : TypeId × Value → H} {W : World} {base : Nat} {spare : Nat → Bool} {held : Bool}
theorem int_of6 {fuel : Nat} {v : Value} {y : DataW H × List MemPlace} (h : DataW.trod enc Try.prog W base spare held fuel 3 [v] = some y) : ∃ n : Int, v = .int .i64 n ∧ I6 n := by
  obtain ⟨n, e, _, hw⟩ := DataW.trod_int Try.underlying3 h
  cases e
  exact ⟨n, rfl, by have := bounds_i64 hw; unfold I6; omega⟩
theorem int_rd6 (fuel : Nat) (cs : List Value) (x : DataW H × List MemPlace) (hl : cs.length = 1) (h : DataW.trod enc Try.prog W base spare held fuel 3 cs = some x) : ∃ m : Int, cs = [.int .i64 m] ∧ I6 m := by
  match cs, hl with
  | [v], _ =>
    obtain ⟨n, rfl, hn⟩ := int_of6 h
    exact ⟨n, rfl, hn⟩
theorem seven6 {t : TypeId} {f0 f1 f2 f3 f4 f5 f6 : Field} {fuel : Nat} {cs : List Value} {x : DataW H × List MemPlace} (ht : Try.prog.underlying t = some (.struct #[f0, f1, f2, f3, f4, f5, f6])) (h : DataW.trod enc Try.prog W base spare held fuel t cs = some x) (hl : cs.length = 7)
    (e0 : f0.type = 3 ∧ f0.offset = 0) (e1 : f1.type = 3 ∧ f1.offset = 1) (e2 : f2.type = 3 ∧ f2.offset = 2) (e3 : f3.type = 3 ∧ f3.offset = 3) (e4 : f4.type = 3 ∧ f4.offset = 4) (e5 : f5.type = 3 ∧ f5.offset = 5) (e6 : f6.type = 3 ∧ f6.offset = 6) : ∃ m : UnitM, cs = m.cells ∧ I7 m := by
  obtain ⟨xs, n, _, rfl, _, hlen, hf⟩ := DataW.trod_struct ht h
  obtain ⟨v0, v1, v2, v3, v4, v5, v6, rfl⟩ := list7 hl
  match xs, hlen with
  | [y0, y1, y2, y3, y4, y5, y6], _ =>
    have g0 := hf 0 f0 rfl
    have g1 := hf 1 f1 rfl
    have g2 := hf 2 f2 rfl
    have g3 := hf 3 f3 rfl
    have g4 := hf 4 f4 rfl
    have g5 := hf 5 f5 rfl
    have g6 := hf 6 f6 rfl
    simp [e0.1, e0.2, e1.1, e1.2, e2.1, e2.2, e3.1, e3.2, e4.1, e4.2, e5.1, e5.2, e6.1, e6.2, c3] at g0 g1 g2 g3 g4 g5 g6
    obtain ⟨a0, rfl, i0⟩ := int_of6 g0
    obtain ⟨a1, rfl, i1⟩ := int_of6 g1
    obtain ⟨a2, rfl, i2⟩ := int_of6 g2
    obtain ⟨a3, rfl, i3⟩ := int_of6 g3
    obtain ⟨a4, rfl, i4⟩ := int_of6 g4
    obtain ⟨a5, rfl, i5⟩ := int_of6 g5
    obtain ⟨a6, rfl, i6⟩ := int_of6 g6
    exact ⟨⟨a0, a1, a2, a3, a4, a5, a6⟩, rfl, i0, i1, i2, i3, i4, i5, i6⟩
theorem raw_rd6 (fuel : Nat) (cs : List Value) (x : DataW H × List MemPlace) (hl : cs.length = 7) (h : DataW.trod enc Try.prog W base spare held fuel 82 cs = some x) : ∃ m : UnitM, cs = m.cells ∧ I7 m :=
  seven6 Try.underlying82 h hl ⟨rfl, rfl⟩ ⟨rfl, rfl⟩ ⟨rfl, rfl⟩ ⟨rfl, rfl⟩ ⟨rfl, rfl⟩ ⟨rfl, rfl⟩ ⟨rfl, rfl⟩
set_option maxRecDepth 100000 in
theorem raws_of {r : Reach} {b0 : Nat} {v : Value} {d : DataW H} {p : List MemPlace} (hv : Value.okWide Try.prog W r b0 42 v) (h : DataW.Trod enc Try.prog W base spare held 42 v d p) (hk : Rows.uptoBulk d ≤ 1048576) : ∃ l : List UnitM, UnitsAt W v l ∧ l.length ≤ 1048576 ∧ ∀ u ∈ l, I7 u := by
  obtain ⟨fuel, hf0⟩ := h
  obtain ⟨a, len, cap, rfl⟩ := okWide_slice Try.underlying42 hv
  have hc : (Value.slice a len cap).cells.toList = [.slice a len cap] := rfl
  rw [hc] at hf0
  obtain ⟨bs, hb, lb, ok⟩ := open_rows UnitM.cells (fun m _ => I7 m) Try.underlying42 c82 (by decide) (fun _ => rfl) (fun _ _ _ h _ => h) raw_rd6 hf0
  exact ⟨bs, hb, by have : bs.length ≤ Rows.uptoBulk d := lb; omega, ok⟩
set_option maxRecDepth 100000 in
theorem ints_of6 {r : Reach} {b0 : Nat} {v : Value} {d : DataW H} {p : List MemPlace} (hv : Value.okWide Try.prog W r b0 24 v) (h : DataW.Trod enc Try.prog W base spare held 24 v d p) (hk : Rows.uptoBulk d ≤ 1048576) : ∃ l : List Int, RowAt W v l.length 1 (ints l) ∧ l.length ≤ 1048576 ∧ ∀ x ∈ l, I6 x := by
  obtain ⟨fuel, hf0⟩ := h
  obtain ⟨a, len, cap, rfl⟩ := okWide_slice Try.underlying24 hv
  have hc : (Value.slice a len cap).cells.toList = [.slice a len cap] := rfl
  rw [hc] at hf0
  obtain ⟨bs, hb, lb, ok⟩ := open_rows (fun x => [Value.int .i64 x]) (fun m _ => I6 m) Try.underlying24 c3 (by decide) (fun _ => rfl) (fun _ _ _ h _ => h) int_rd6 hf0
  rw [flat_one] at hb
  exact ⟨bs, hb, by have : bs.length ≤ Rows.uptoBulk d := lb; omega, ok⟩
end
end Go.Proofs.Ytlbeecjkfakkpag.Arg
namespace Go.Proofs.Ytlbeecjkfakkpag.Keeps
open Go.ChangeShapes Go.WideShapes Go.ChangeAt Go.RowKit

theorem laidOut : laidOutB Try.prog = true := by kernel_rfl
theorem own : ownKnob Try.prog.godebug = none := by kernel_rfl
set_option maxRecDepth 100000 in
set_option maxHeartbeats 2000000 in
theorem lifted (os : Os) (started : os.Started) (H : Type) (enc : TypeId × Value → H) (F : Stop.Interp) :
    ReturnsInHanded {} Try.checked os 7 .any ((Rows.OpenSpec.upto Rows.commitKeepsSpec).pre6 enc Try.prog Try.f7 Rows.commitKeepsUptoRow.domain false) (((Rows.OpenSpec.upto Rows.commitKeepsSpec).at F).post enc Try.prog Try.f7 false true false false) := by
  refine returnsInHanded_of_cond (C := Try.checked) (s := Rows.OpenSpec.upto Rows.commitKeepsSpec) (k := Rows.uptoSmall) rfl own started (by kernel_rfl) Try.func7
    (OpenSpec.witness (enc := enc) (C := Try.checked) (s := Rows.OpenSpec.upto Rows.commitKeepsSpec) (k := Rows.uptoSmall) rfl false ⟨#[], #[.slice none 0 0, .int .i64 0, .slice none 0 0, .slice none 0 0], []⟩ 8 (by kernel_rfl) (by kernel_rfl) (by kernel_rfl)
      (x := ([.nil, .lit (.int .i64 0), .nil, .nil], [], [])) (by kernel_rfl) rfl (by kernel_rfl)) ?_
  intro W base args ds gs before hval0 hW _ hk _
  have hval : ∀ (j : Nat) t v, Try.f7.params[j]? = some t → args[j]? = some v → Value.okWide Try.prog W .any base t v := hval0
  have hW' := hW
  obtain ⟨p, q, hA0, hV0, rfl, _, _⟩ := hW
  have hA : DataW.TrodAll enc Try.prog W 0 (fun _ => true) true Try.f7.params.toList args.toList ds p := hA0
  rw [Try.params7] at hA hval
  obtain ⟨v0, vs0, d0, ds0, p0, q0, hargs, rfl, rfl, h0, r0⟩ := trodAll_cons hA
  obtain ⟨v1, vs1, d1, ds1, p1, q1, rfl, rfl, rfl, h1, r1⟩ := trodAll_cons r0
  obtain ⟨v2, vs2, d2, ds2, p2, q2, rfl, rfl, rfl, h2, r2⟩ := trodAll_cons r1
  obtain ⟨v3, vs3, d3, ds3, p3, q3, rfl, rfl, rfl, h3, r3⟩ := trodAll_cons r2
  obtain ⟨rfl, rfl, rfl⟩ := trodAll_nil r3
  obtain rfl : args = #[v0, v1, v2, v3] := by cases args; simp_all
  obtain ⟨rfl, rfl⟩ := trodVars_none hV0
  have hbulk := Arg.bulk_bound hk
  simp only [List.append_nil, Rows.uptoBulkAll, Nat.add_zero] at hbulk
  have hlt : ∀ x ∈ p0 ++ (p1 ++ (p2 ++ (p3 ++ []))), x.block < W.heap.size := DataW.TrodAll.lt hA0
  obtain ⟨raw, hraw, hrawl, hrawi⟩ := Arg.raws_of (hval 0 42 v0 rfl rfl) h0 (by omega)
  obtain ⟨l2, hl2, hll2, hb2⟩ := Arg.ints_of6 (hval 2 24 v2 rfl rfl) h2 (by omega)
  obtain ⟨l3, hl3, hll3, hb3⟩ := Arg.ints_of6 (hval 3 24 v3 rfl rfl) h3 (by omega)
  obtain ⟨a1, rfl, rfl, rfl, w1⟩ := open_int Try.underlying3 (hval 1 3 v1 rfl rfl) h1
  have ha1 : I6 a1 := by have := bounds_i64 w1; unfold I6; omega
  clear hA0 hV0 hval0
  refine (CommitKeeps_any Best_good Merit_good raw a1 l2 l3 v0 v2 v3 W hraw hl2 hl3 hrawi ha1 hb2 hb3 (by omega) (by omega) (by omega)).mono ?_
  rintro e W' ⟨rfl, bel⟩
  have e1 : ((Rows.OpenSpec.upto Rows.commitKeepsSpec).at F).fn H ([d0, .lit (.int .i64 a1), d2, d3] ++ []) = { results := [.lit (.bool true)], args := [d0, .lit (.int .i64 a1), d2, d3] } := rfl
  refine ⟨_, rfl, _, _, _, [], p0 ++ ([] ++ (p2 ++ (p3 ++ []))), [], hW', ?_, ?_, ?_, bel.frame _, fun h => by cases h⟩
  · rw [e1]; exact trodAll_mk1 (shut_bool Try.underlying4 _)
  · rw [e1]
    exact trodAll_cons_mk (Below.trod laidOut (by kernel_rfl) (of_decide_eq_true (by kernel_rfl)) h0 bel (fun x hx => hlt x (List.mem_append_left _ hx))) (trodAll_cons_mk (shut_int Try.underlying3 w1) (trodAll_cons_mk (Below.trod laidOut (by kernel_rfl) (of_decide_eq_true (by kernel_rfl)) h2 bel (fun x hx => hlt x (List.mem_append_right _ (List.mem_append_right _ (List.mem_append_left _ hx))))) (trodAll_cons_mk (Below.trod laidOut (by kernel_rfl) (of_decide_eq_true (by kernel_rfl)) h3 bel (fun x hx => hlt x (List.mem_append_right _ (List.mem_append_right _ (List.mem_append_right _ (List.mem_append_left _ hx)))))) trodAll_mk0)))
  · rw [e1]; rfl

theorem over : Rows.commitKeepsUptoRow.holds Try.pinned (Rows.OpenSpec.upto Rows.commitKeepsSpec) :=
  OpenClaim.holds_of_cond 7 Try.f7 rfl rfl rfl rfl rfl rfl rfl ⟨rfl, rfl, rfl, rfl, rfl⟩ rfl rfl rfl rfl rfl (by kernel_rfl) Try.func7 (by kernel_rfl)
    (of_decide_eq_true (by kernel_rfl)) (by unfold Func.isWrapper; first | (rw [if_pos (by decide +kernel)]; kernel_rfl) | (rw [if_neg (by decide +kernel)]; exact ⟨rfl, rfl⟩))
    (fun os started H enc _ F => lifted os started H enc F)
end Go.Proofs.Ytlbeecjkfakkpag.Keeps
namespace Go.Proofs.Ytlbeecjkfakkpag
theorem commitKeeps_upto : Rows.CommitKeepsUptoSaid := Keeps.over
end Go.Proofs.Ytlbeecjkfakkpag
