/- Arguments: rows of numbers and of pairs. -/
import Derived.Test.YtligmokepafnbajRa
import Derived.Test.YtligmokepafnbajJ4
namespace Go.Proofs.Ytligmokepafnbaj.Arg
open Go.ChangeShapes Go.WideShapes Go.ChangeAt Go.RowKit Go.Deep
section
variable {H : Type} {enc : TypeId × Value → H} {W : World} {base : Nat} {spare : Nat → Bool} {held : Bool}
theorem int_of6 {fuel : Nat} {v : Value} {y : DataW H × List MemPlace} (h : DataW.trod enc Try.prog W base spare held fuel 3 [v] = some y) : ∃ n : Int, v = .int .i64 n ∧ I6 n := by
  obtain ⟨n, e, _, hw⟩ := DataW.trod_int Try.underlying3 h
  cases e
  exact ⟨n, rfl, by have := bounds_i64 hw; unfold I6; omega⟩
set_option maxRecDepth 100000 in
theorem ints_of {r : Reach} {b0 : Nat} {v : Value} {d : DataW H} {p : List MemPlace} (hv : Value.okWide Try.prog W r b0 39 v) (h : DataW.Trod enc Try.prog W base spare held 39 v d p) (hk : Rows.uptoBulk d ≤ 1048576) : ∃ l : List Int, RowAt W v l.length 1 (ints l) ∧ l.length ≤ 1048576 := by
  obtain ⟨fuel, hf0⟩ := h
  obtain ⟨a, len, cap, rfl⟩ := okWide_slice Try.underlying39 hv
  have hc : (Value.slice a len cap).cells.toList = [.slice a len cap] := rfl
  rw [hc] at hf0
  obtain ⟨bs, hb, lb, _⟩ := open_rows (fun x => [Value.int .i64 x]) (fun _ _ => True) Try.underlying39 c3 (by decide) (fun _ => rfl) (fun _ _ _ _ _ => trivial) int_rd hf0
  rw [flat_one] at hb
  exact ⟨bs, hb, by have : bs.length ≤ Rows.uptoBulk d := lb; omega⟩
theorem pr_rd (fuel : Nat) (cs : List Value) (x : DataW H × List MemPlace) (hl : cs.length = 2) (h : DataW.trod enc Try.prog W base spare held fuel 44 cs = some x) : ∃ m : Int × Int, cs = prc m ∧ (I6 m.1 ∧ I6 m.2) := by
  obtain ⟨xs, n, _, rfl, _, hlen, hf⟩ := DataW.trod_struct Try.underlying44 h
  obtain ⟨v0, v1, rfl⟩ := list2 hl
  match xs, hlen with
  | [y0, y1], _ =>
    have g0 := hf 0 _ rfl
    have g1 := hf 1 _ rfl
    simp [c3] at g0 g1
    obtain ⟨a0, rfl, h0⟩ := int_of6 g0
    obtain ⟨a1, rfl, h1⟩ := int_of6 g1
    exact ⟨(a0, a1), rfl, h0, h1⟩
set_option maxRecDepth 100000 in
theorem pairs_of {r : Reach} {b0 : Nat} {v : Value} {d : DataW H} {p : List MemPlace} (hv : Value.okWide Try.prog W r b0 40 v) (h : DataW.Trod enc Try.prog W base spare held 40 v d p) (hk : Rows.uptoBulk d ≤ 1048576) : ∃ l : List (Int × Int), RowAt W v l.length 2 (l.flatMap prc) ∧ l.length ≤ 1048576 ∧ ∀ m ∈ l, I6 m.1 ∧ I6 m.2 := by
  obtain ⟨fuel, hf0⟩ := h
  obtain ⟨a, len, cap, rfl⟩ := okWide_slice Try.underlying40 hv
  have hc : (Value.slice a len cap).cells.toList = [.slice a len cap] := rfl
  rw [hc] at hf0
  obtain ⟨bs, hb, lb, ok⟩ := open_rows prc (fun m _ => I6 m.1 ∧ I6 m.2) Try.underlying40 c44 (by decide) (fun _ => rfl) (fun _ _ _ h _ => h) pr_rd hf0
  exact ⟨bs, hb, by have : bs.length ≤ Rows.uptoBulk d := lb; omega, ok⟩
end
end Go.Proofs.Ytligmokepafnbaj.Arg
