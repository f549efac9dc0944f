/- An argument read as a message. -/
import Derived.Test.YtjhmendiefojoalRs
import Derived.Test.YtjhmendiefojoalS13
namespace Go.Proofs.Ytjhmendiefojoal.Arg
open Go.ChangeShapes Go.WideShapes Go.ChangeAt Go.RowKit Go.Deep
section
variable {H : Type} {enc : TypeId × Value → H} {W : World} {base : Nat} {spare : Nat → Bool} {held : Bool}
theorem list4 {cs : List Value} (h : cs.length = 4) : ∃ a b c d, cs = [a, b, c, d] := by
  match cs, h with
  | [a, b, c, d], _ => exact ⟨a, b, c, d, rfl⟩
theorem array4 {cs : Array Value} (h : cs.size = 4) : ∃ a b c d, cs = #[a, b, c, d] := by
  obtain ⟨l⟩ := cs
  obtain ⟨a, b, c, d, rfl⟩ := list4 (cs := l) (by simpa using h)
  exact ⟨a, b, c, d, rfl⟩
theorem cMsg : Try.prog.cellsOf 41 = 4 := by kernel_rfl
set_option maxRecDepth 100000 in
/-- The message that came in. -/
theorem msg_of {r : Reach} {b0 : Nat} {v : Value} {d : DataW H} {p : List MemPlace} (hv : Value.okWide Try.prog W r b0 41 v) (h : DataW.Trod enc Try.prog W base spare held 41 v d p) : ∃ m : MsM, v = .agg m.cells := by
  obtain ⟨cs, rfl, hsz⟩ := okWide_struct Try.underlying41 hv
  obtain ⟨u0, u1, u2, u3, rfl⟩ := array4 (hsz.trans cMsg)
  obtain ⟨fuel, hf0⟩ := h
  have hc : (Value.agg #[u0, u1, u2, u3]).cells.toList = [u0, u1, u2, u3] := rfl
  rw [hc] at hf0
  obtain ⟨xs, n, _, hx, _, hlen, hf⟩ := DataW.trod_struct Try.underlying41 hf0
  match xs, hlen with
  | [y0, y1, y2, y3], _ =>
    have g0 := hf 0 _ rfl
    have g1 := hf 1 _ rfl
    have g2 := hf 2 _ rfl
    have g3 := hf 3 _ rfl
    simp [c3, c4] at g0 g1 g2 g3
    obtain ⟨a0, rfl⟩ := int_of g0
    obtain ⟨a1, rfl⟩ := int_of g1
    obtain ⟨a2, rfl⟩ := int_of g2
    obtain ⟨a3, rfl⟩ := bool_of g3
    exact ⟨⟨a0, a1, a2, a3⟩, rfl⟩
end
end Go.Proofs.Ytjhmendiefojoal.Arg
