/- Arguments: a row of turns. -/
import Derived.Test.YtjhmendiefojoamRs
import Derived.Test.YtjhmendiefojoamO1
namespace Go.Proofs.Ytjhmendiefojoam.Arg
open Go.ChangeShapes Go.WideShapes Go.ChangeAt Go.RowKit Go.Deep

section
variable {H : Type} {enc : TypeId × Value → H} {W : World} {base : Nat} {spare : Nat → Bool} {held : Bool}
theorem int_of6 {fuel : Nat} {v : Value} {y : DataW H × List MemPlace} (h : DataW.trod enc Try.prog W base spare held fuel 3 [v] = some y) : ∃ n : Int, v = .int .i64 n ∧ I6 n := by
  obtain ⟨n, e, _, hw⟩ := DataW.trod_int Try.underlying3 h
  cases e
  exact ⟨n, rfl, by have := bounds_i64 hw; unfold I6; omega⟩
theorem c55 : Try.prog.cellsOf 55 = 7 := by kernel_rfl
def TurnOk (t : TuM) : Prop := I6 t.ask ∧ I6 t.mix ∧ I6 t.lose ∧ I6 t.again
set_option maxRecDepth 100000 in
theorem turn_rd (fuel : Nat) (cs : List Value) (x : DataW H × List MemPlace) (hl : cs.length = 7) (h : DataW.trod enc Try.prog W base spare held fuel 55 cs = some x) : ∃ m : TuM, cs = m.cells.toList ∧ TurnOk m := by
  obtain ⟨xs, n, _, rfl, _, hlen, hf⟩ := DataW.trod_struct Try.underlying55 h
  obtain ⟨v0, v1, v2, v3, v4, v5, v6, rfl⟩ := list7 hl
  match xs, hlen with
  | [y0, y1, y2, y3, y4, y5, y6], _ =>
    have g0 := hf 0 _ rfl
    have g1 := hf 1 _ rfl
    have g2 := hf 2 _ rfl
    have g3 := hf 3 _ rfl
    have g4 := hf 4 _ rfl
    have g5 := hf 5 _ rfl
    have g6 := hf 6 _ rfl
    simp [c3, c4] at g0 g1 g2 g3 g4 g5 g6
    obtain ⟨a0, rfl, b0⟩ := int_of6 g0
    obtain ⟨a1, rfl⟩ := bool_of g1
    obtain ⟨a2, rfl, _⟩ := int_of6 g2
    obtain ⟨a3, rfl, b3⟩ := int_of6 g3
    obtain ⟨a4, rfl, b4⟩ := int_of6 g4
    obtain ⟨a5, rfl, b5⟩ := int_of6 g5
    obtain ⟨a6, rfl⟩ := bool_of g6
    exact ⟨⟨a0, a1, a2, a3, a4, a5, a6⟩, rfl, b0, b5, b3, b4⟩
set_option maxRecDepth 100000 in
theorem turns_of {r : Reach} {b0 : Nat} {v : Value} {d : DataW H} {p : List MemPlace} (hv : Value.okWide Try.prog W r b0 44 v) (h : DataW.Trod enc Try.prog W base spare held 44 v d p) (hk : Rows.uptoBulk d ≤ 1048576) : ∃ (l : List TuM), RowAt W v l.length 7 (l.flatMap fun t => t.cells.toList) ∧ l.length ≤ 1048576 ∧ ∀ t ∈ l, TurnOk t := by
  obtain ⟨fuel, hf0⟩ := h
  obtain ⟨a, len, cap, rfl⟩ := okWide_slice Try.underlying44 hv
  have hc : (Value.slice a len cap).cells.toList = [.slice a len cap] := rfl
  rw [hc] at hf0
  obtain ⟨bs, hb, lb, ho⟩ := open_rows (fun t : TuM => t.cells.toList) (fun t _ => TurnOk t) Try.underlying44 c55 (by decide) (fun _ => rfl) (fun _ _ _ h _ => h) turn_rd hf0
  exact ⟨bs, hb, by have : bs.length ≤ Rows.uptoBulk d := lb; omega, ho⟩
end
end Go.Proofs.Ytjhmendiefojoam.Arg
