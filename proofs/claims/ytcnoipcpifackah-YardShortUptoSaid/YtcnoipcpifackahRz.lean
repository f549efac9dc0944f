/- Arguments read as a raw yard and as numbers. -/
import Derived.Test.YtcnoipcpifackahRy
import Derived.Test.YtcnoipcpifackahZh
namespace Go.Proofs.Ytcnoipcpifackah.Arg
open Go.ChangeShapes Go.WideShapes Go.ChangeAt Go.RowKit Go.Deep
section
variable {H : Type} {enc : TypeId × Value → H} {W : World} {base : Nat} {spare : Nat → Bool} {held : Bool}
theorem int_of6 {fuel : Nat} {v : Value} {y : DataW H × List MemPlace} (h : DataW.trod enc Try.prog W base spare held fuel 3 [v] = some y) : ∃ n : Int, v = .int .i64 n ∧ I6 n := by
  obtain ⟨n, e, _, hw⟩ := DataW.trod_int Try.underlying3 h
  cases e
  exact ⟨n, rfl, by have := bounds_i64 hw; unfold I6; omega⟩
theorem int_rd6 (fuel : Nat) (cs : List Value) (x : DataW H × List MemPlace) (hl : cs.length = 1) (h : DataW.trod enc Try.prog W base spare held fuel 3 cs = some x) : ∃ m : Int, cs = [.int .i64 m] ∧ I6 m := by
  match cs, hl with
  | [v], _ =>
    obtain ⟨n, rfl, hn⟩ := int_of6 h
    exact ⟨n, rfl, hn⟩
set_option maxRecDepth 100000 in
theorem ints_of {r : Reach} {b0 : Nat} {v : Value} {d : DataW H} {p : List MemPlace} (hv : Value.okWide Try.prog W r b0 22 v) (h : DataW.Trod enc Try.prog W base spare held 22 v d p) (hk : Rows.uptoBulk d ≤ 1048576) : ∃ l : List Int, RowAt W v l.length 1 (ints l) ∧ l.length ≤ 1048576 ∧ ∀ x ∈ l, I6 x := by
  obtain ⟨fuel, hf0⟩ := h
  obtain ⟨a, len, cap, rfl⟩ := okWide_slice Try.underlying22 hv
  have hc : (Value.slice a len cap).cells.toList = [.slice a len cap] := rfl
  rw [hc] at hf0
  obtain ⟨bs, hb, lb, ok⟩ := open_rows (fun x => [Value.int .i64 x]) (fun m _ => I6 m) Try.underlying22 c3 (by decide) (fun _ => rfl) (fun _ _ _ h _ => h) int_rd6 hf0
  rw [flat_one] at hb
  exact ⟨bs, hb, by have : bs.length ≤ Rows.uptoBulk d := lb; omega, ok⟩
theorem c38 : Try.prog.cellsOf 38 = 1 := by kernel_rfl
theorem c40 : Try.prog.cellsOf 40 = 4 := by kernel_rfl
theorem c60 : Try.prog.cellsOf 60 = 3 := by kernel_rfl
theorem list3 {cs : List Value} (h : cs.length = 3) : ∃ a b c, cs = [a, b, c] := by
  match cs, h with
  | [a, b, c], _ => exact ⟨a, b, c, rfl⟩
theorem raw_rd (fuel : Nat) (cs : List Value) (x : DataW H × List MemPlace) (hl : cs.length = 3) (h : DataW.trod enc Try.prog W base spare held fuel 60 cs = some x) : ∃ m : RawD, cs = m.cells ∧ (I6 m.kind ∧ I6 m.a ∧ I6 m.b) := by
  obtain ⟨xs, n, _, rfl, _, hlen, hf⟩ := DataW.trod_struct Try.underlying60 h
  obtain ⟨v0, v1, v2, rfl⟩ := list3 hl
  match xs, hlen with
  | [y0, y1, y2], _ =>
    have g0 := hf 0 _ rfl
    have g1 := hf 1 _ rfl
    have g2 := hf 2 _ rfl
    simp [c3] at g0 g1 g2
    obtain ⟨a0, rfl, i0⟩ := int_of6 g0
    obtain ⟨a1, rfl, i1⟩ := int_of6 g1
    obtain ⟨a2, rfl, i2⟩ := int_of6 g2
    exact ⟨⟨a0, a1, a2⟩, rfl, i0, i1, i2⟩
set_option maxRecDepth 100000 in
set_option maxHeartbeats 1000000 in
/-- The raw yard that came in. -/
theorem raw_of {r : Reach} {b0 : Nat} {v : Value} {d : DataW H} {p : List MemPlace} (hv : Value.okWide Try.prog W r b0 40 v) (h : DataW.Trod enc Try.prog W base spare held 40 v d p) (hk : Rows.uptoBulk d ≤ 1048576) :
    ∃ (y : RawY) (ag : Option Addr) (cg : Nat), v = .agg #[.int .i64 y.points, .int .i64 y.fed, .int .i64 y.drawn, .slice ag y.devs.length cg] ∧ RowAt W (.slice ag y.devs.length cg) y.devs.length 3 (y.devs.flatMap RawD.cells) ∧ (∀ m ∈ y.devs, I6 m.kind ∧ I6 m.a ∧ I6 m.b) ∧ I6 y.points ∧ I6 y.fed ∧ I6 y.drawn := by
  obtain ⟨cs, rfl, hsz⟩ := okWide_struct Try.underlying40 hv
  obtain ⟨u0, u1, u2, u3, rfl⟩ := array4 (hsz.trans c40)
  obtain ⟨fuel, hf0⟩ := h
  have hc : (Value.agg #[u0, u1, u2, u3]).cells.toList = [u0, u1, u2, u3] := rfl
  rw [hc] at hf0
  obtain ⟨xs, n, _, hx, _, hlen, hf⟩ := DataW.trod_struct Try.underlying40 hf0
  match xs, hlen with
  | [y0, y1, y2, y3], _ =>
    have g0 := hf 0 _ rfl
    have g1 := hf 1 _ rfl
    have g2 := hf 2 _ rfl
    have g3 := hf 3 _ rfl
    simp [c3, c38] at g0 g1 g2 g3
    simp only [Prod.mk.injEq] at hx
    obtain ⟨rfl, _⟩ := hx
    obtain ⟨a0, rfl, i0⟩ := int_of6 g0
    obtain ⟨a1, rfl, i1⟩ := int_of6 g1
    obtain ⟨a2, rfl, i2⟩ := int_of6 g2
    obtain ⟨vs, hvr, _, ok⟩ := open_rows RawD.cells (fun m _ => I6 m.kind ∧ I6 m.a ∧ I6 m.b) Try.underlying38 c60 (by decide) (fun _ => rfl) (fun _ _ _ h _ => h) raw_rd g3
    obtain ⟨ag, cg, rfl⟩ := rowAt_slice hvr
    exact ⟨⟨a0, a1, a2, vs⟩, ag, cg, rfl, hvr, ok, i0, i1, i2⟩
end
end Go.Proofs.Ytcnoipcpifackah.Arg
