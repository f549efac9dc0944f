/- What is known of moments, kept in a map. -/
import Derived.Test.YtlbeecjkfakkpagEf
import Derived.Test.YtlbeecjkfakkpagDa
import Derived.Maps.Keyed
import Derived.DeepKeys4
namespace Go.Proofs.Ytlbeecjkfakkpag
open Go.RowKit Go.Shelf Go.ChangeMaps

/-- Nothing but one block has changed. -/
structure But (M : Nat) (W W' : World) : Prop where
  os : W'.os = W.os
  tape : W'.tape = W.tape
  output : W'.output = W.output
  size : W.heap.size ≤ W'.heap.size
  block : ∀ k, k < W.heap.size → k ≠ M → W'.heap[k]? = W.heap[k]?
theorem But.refl (M : Nat) (W : World) : But M W W := ⟨rfl, rfl, rfl, Nat.le_refl _, fun _ _ _ => rfl⟩
theorem But.trans {M : Nat} {W W' W'' : World} (h : But M W W') (h' : But M W' W'') : But M W W'' :=
  ⟨h'.os.trans h.os, h'.tape.trans h.tape, h'.output.trans h.output, Nat.le_trans h.size h'.size, fun k hk hm => (h'.block k (Nat.lt_of_lt_of_le hk h.size) hm).trans (h.block k hk hm)⟩
theorem But.of {M : Nat} {W W' : World} (h : Below W.heap.size W W') : But M W W' := ⟨h.os, h.tape, h.output, h.size, fun k hk _ => h.block k hk⟩
theorem But.cell {M : Nat} {W W' : World} {es : Array MapEntry} {clock : Nat} (h : But M W W') (hm : W.heap[M]? = some (.map es clock)) {b o : Nat} {u : Value} (hc : W.cell? ⟨b, o, none⟩ = some u) : W'.cell? ⟨b, o, none⟩ = some u := by
  have hlt := World.block_lt_of_cell? W _ hc
  have hne : b ≠ M := by
    intro e
    subst e
    simp [World.cell?, hm] at hc
  simp only [World.cell?] at hc ⊢
  rw [h.block b hlt hne]
  exact hc
theorem But.row {M : Nat} {W W' : World} {es : Array MapEntry} {clock : Nat} (h : But M W W') (hm : W.heap[M]? = some (.map es clock)) {v : Value} {n sz : Nat} {xs : List Value} (hr : RowAt W v n sz xs) : RowAt W' v n sz xs := by
  obtain ⟨h1, a, c, h2, h3⟩ := hr
  exact ⟨h1, a, c, h2, fun j u hj => by obtain ⟨b, o, e1, e2⟩ := h3 j u hj; exact ⟨b, o, e1, h.cell hm e2⟩⟩
theorem But.signs {M : Nat} {W W' : World} {es : Array MapEntry} {clock : Nat} (h : But M W W') (hm : W.heap[M]? = some (.map es clock)) {v : Value} {l : List (List Bool)} (hr : SignsAt W v l) : SignsAt W' v l := by
  obtain ⟨vs, h1, h2, h3⟩ := hr
  exact ⟨vs, h1, h.row hm h2, fun i b hi => by obtain ⟨x, hx, hr⟩ := h3 i b hi; exact ⟨x, hx, h.row hm hr⟩⟩
/-- A moment, as it is told. -/
def momV (h : Nat) (a b c d : Int) : Value := .agg #[.int .i64 h, .int .i64 a, .int .i64 b, .int .i64 c, .int .i64 d]
def never : Int := 9223372036854775807
/-- An outlook, as it is told. -/
def outV (o : Option (Int × Nat)) : Value := match o with
  | none => .agg #[.int .i64 never, .int .i64 0]
  | some p => .agg #[.int .i64 p.1, .int .i64 p.2]
theorem laidOut9 : laidOutB Try.prog = true := by kernel_rfl
theorem types_size : Try.prog.types.size = 127 := by kernel_rfl
theorem keyed97 : Maps.Keyed Try.prog 97 := Maps.Keyed.of_law (Go.deep_law_laid laidOut9 (m := 3) (by decide) (by rw [types_size]; decide) (by kernel_rfl) (by kernel_rfl))
theorem wf_small {x : Int} (h : -1000 ≤ x ∧ x ≤ 1000) : (Lit.int .i64 x).wf = true := by
  simp [Lit.wf, IntKind.min, IntKind.max, IntKind.signed, IntKind.bits]
  omega
theorem lits_int {n : Nat} {x : Int} (h : -1000 ≤ x ∧ x ≤ 1000) : Try.prog.keyLits (n + 1) 3 [.int .i64 x] = some [.int .i64 x] := by
  simp [Program.keyLits, Try.underlying3, wf_small h]
theorem cells3 : Try.prog.cellsOf 3 = 1 := by kernel_rfl
theorem cells86 : Try.prog.cellsOf 86 = 4 := by kernel_rfl
theorem cells97 : Try.prog.cellsOf 97 = 5 := by kernel_rfl
theorem lits_stand {n : Nat} {a b c d : Int} (ha : -1000 ≤ a ∧ a ≤ 1000) (hb : -1000 ≤ b ∧ b ≤ 1000) (hc : -1000 ≤ c ∧ c ≤ 1000) (hd : -1000 ≤ d ∧ d ≤ 1000) : Try.prog.keyLits (n + 1 + 1) 86 [.int .i64 a, .int .i64 b, .int .i64 c, .int .i64 d] = some [.int .i64 a, .int .i64 b, .int .i64 c, .int .i64 d] := by
  simp [Program.keyLits, Try.underlying86, Try.underlying3, cells86, cells3, List.range_succ, wf_small ha, wf_small hb, wf_small hc, wf_small hd]
theorem key_is {h : Nat} {a b c d : Int} (hh : h ≤ 8) (ha : -1000 ≤ a ∧ a ≤ 1000) (hb : -1000 ≤ b ∧ b ≤ 1000) (hc : -1000 ≤ c ∧ c ≤ 1000) (hd : -1000 ≤ d ∧ d ≤ 1000) : ∃ l, keyOf Try.prog 97 (momV h a b c d) = some l := by
  have hk : Try.prog.keyType 97 = true := by kernel_rfl
  have hl : Try.prog.keyLits (Try.prog.types.size + 1) 97 [.int .i64 h, .int .i64 a, .int .i64 b, .int .i64 c, .int .i64 d] = some [.int .i64 h, .int .i64 a, .int .i64 b, .int .i64 c, .int .i64 d] := by
    rw [types_size, show 127 + 1 = 125 + 1 + 1 + 1 from rfl]
    generalize 125 = m
    simp [Program.keyLits, Try.underlying97, Try.underlying86, Try.underlying3, cells97, cells86, cells3, List.range_succ, wf_small (x := (h : Int)) (by omega), wf_small ha, wf_small hb, wf_small hc, wf_small hd]
  unfold keyOf
  rw [Try.underlying97]
  simp only [momV, Value.formed, Try.underlying97, cells97, hk, Value.cells]
  rw [hl]
  exact ⟨_, rfl⟩
def I3 (x : Int) : Prop := -1000 ≤ x ∧ x ≤ 1000
end Go.Proofs.Ytlbeecjkfakkpag
