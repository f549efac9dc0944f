/- Arguments: a swing, rows of stages. -/
import Derived.Test.YtligmokepafnbajRa
import Derived.Test.YtligmokepafnbajH5
namespace Go.Proofs.Ytligmokepafnbaj.Arg
open Go.ChangeShapes Go.WideShapes Go.ChangeAt Go.RowKit Go.Deep
section
variable {H : Type} {enc : TypeId × Value → H} {W : World} {base : Nat} {spare : Nat → Bool} {held : Bool}
theorem st_rd (fuel : Nat) (cs : List Value) (x : DataW H × List MemPlace) (hl : cs.length = 2) (h : DataW.trod enc Try.prog W base spare held fuel 46 cs = some x) : ∃ m : Nat × Nat, cs = sgc m ∧ True := by
  obtain ⟨xs, n, _, rfl, _, hlen, hf⟩ := DataW.trod_struct Try.underlying46 h
  obtain ⟨v0, v1, rfl⟩ := list2 hl
  match xs, hlen with
  | [y0, y1], _ =>
    have g0 := hf 0 _ rfl
    have g1 := hf 1 _ rfl
    simp [c22] at g0 g1
    obtain ⟨a0, rfl, _⟩ := float_of g0
    obtain ⟨a1, rfl, _⟩ := float_of g1
    exact ⟨(a0, a1), rfl, trivial⟩
set_option maxRecDepth 100000 in
theorem stages_of {r : Reach} {b0 : Nat} {v : Value} {d : DataW H} {p : List MemPlace} (hv : Value.okWide Try.prog W r b0 27 v) (h : DataW.Trod enc Try.prog W base spare held 27 v d p) (hk : Rows.uptoBulk d ≤ 1048576) : ∃ l : List (Nat × Nat), RowAt W v l.length 2 (l.flatMap sgc) ∧ l.length ≤ 1048576 := by
  obtain ⟨fuel, hf0⟩ := h
  obtain ⟨a, len, cap, rfl⟩ := okWide_slice Try.underlying27 hv
  have hc : (Value.slice a len cap).cells.toList = [.slice a len cap] := rfl
  rw [hc] at hf0
  obtain ⟨bs, hb, lb, _⟩ := open_rows sgc (fun _ _ => True) Try.underlying27 c46 (by decide) (fun _ => rfl) (fun _ _ _ _ _ => trivial) st_rd hf0
  exact ⟨bs, hb, by have : bs.length ≤ Rows.uptoBulk d := lb; omega⟩
set_option maxRecDepth 100000 in
/-- The swing that came in. -/
theorem swing_of {r : Reach} {b0 : Nat} {v : Value} {d : DataW H} {p : List MemPlace} (hv : Value.okWide Try.prog W r b0 25 v) (h : DataW.Trod enc Try.prog W base spare held 25 v d p) (hk : Rows.uptoBulk d ≤ 1048576) :
    ∃ (f : Nat) (g : List Bool) (vg : Value), v = .agg #[.float .f64 f, vg] ∧ RowAt W vg g.length 1 (g.map Value.bool) ∧ g.length ≤ 1048576 := by
  obtain ⟨cs, rfl, hsz⟩ := okWide_struct Try.underlying25 hv
  obtain ⟨u0, u1, rfl⟩ := array2 (hsz.trans c25)
  obtain ⟨fuel, hf0⟩ := h
  have hc : (Value.agg #[u0, u1]).cells.toList = [u0, u1] := rfl
  rw [hc] at hf0
  obtain ⟨xs, n, _, hx, _, hlen, hf⟩ := DataW.trod_struct Try.underlying25 hf0
  match xs, hlen with
  | [y0, y1], _ =>
    have g0 := hf 0 _ rfl
    have g1 := hf 1 _ rfl
    simp [c22, c23] at g0 g1
    simp only [Prod.mk.injEq] at hx
    obtain ⟨rfl, _⟩ := hx
    obtain ⟨a0, rfl, _⟩ := float_of g0
    obtain ⟨bs, hb, lb, _⟩ := open_rows (fun x => [Value.bool x]) (fun _ _ => True) Try.underlying23 c4 (by decide) (fun _ => rfl) (fun _ _ _ _ _ => trivial) bool_rd g1
    rw [flat_one] at hb
    simp only [Rows.uptoBulk, Rows.uptoBulkAll, List.map_cons, List.map_nil] at hk
    exact ⟨a0, bs, u1, rfl, hb, by omega⟩
end
end Go.Proofs.Ytligmokepafnbaj.Arg
