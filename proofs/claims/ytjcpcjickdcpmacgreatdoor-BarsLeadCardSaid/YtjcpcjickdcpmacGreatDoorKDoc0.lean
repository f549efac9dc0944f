/- Contracts of the document's small functions: letters, names, places. -/
import Derived.Test.YtjcpcjickdcpmacGreatDoorKA2
import Derived.Test.YtjcpcjickdcpmacGreatDoorKPz
import Derived.Maps.AppendAt
namespace Go.Proofs.YtjcpcjickdcpmacGreatDoor.Doc
open Go.RowKit

theorem ret_int {k : IntKind} {a b : Int} (h : a = b) : Ending.returned (.int k a) = .returned (.int k b) := by rw [h]
theorem RowAt.below {w w' : World} {B n sz : Nat} {v : Value} {xs : List Value} (h : RowAt w v n sz xs) (hB : Below B w w') (hb : w.heap.size ≤ B) : RowAt w' v n sz xs := by
  obtain ⟨h1, a, cap, rfl, hc⟩ := h
  refine ⟨h1, a, cap, rfl, fun j u hj => ?_⟩
  obtain ⟨b, off, rfl, hcell⟩ := hc j u hj
  exact ⟨b, off, rfl, (hB.cell (p := ⟨b, off + j, none⟩) (Nat.lt_of_lt_of_le (World.block_lt_of_cell? w _ hcell) hb)).trans hcell⟩
abbrev TextsAt (w : World) (v : Value) (xs : List ByteArray) : Prop := RowAt w v xs.length 1 (xs.map Value.string)
theorem flat_get {α : Type} (f : α → List Value) (sz : Nat) (hf : ∀ x, (f x).length = sz) : ∀ (xs : List α) (k j : Nat) (hk : k < xs.length), j < sz → (xs.flatMap f)[k * sz + j]? = (f xs[k])[j]?
  | x :: r, 0, j, _, hj => by
    rw [List.flatMap_cons, Nat.zero_mul, Nat.zero_add, List.getElem?_append_left (by rw [hf]; exact hj)]; rfl
  | x :: r, k + 1, j, hk, hj => by
    have h := flat_get f sz hf r k j (by simpa using hk) hj
    rw [List.flatMap_cons, List.getElem?_append_right (by rw [hf, Nat.succ_mul]; omega), hf]
    rw [show (k + 1) * sz + j - sz = k * sz + j by rw [Nat.succ_mul]; omega, h]
    simp
theorem flat_len {α : Type} (f : α → List Value) (sz : Nat) (hf : ∀ x, (f x).length = sz) (xs : List α) : (xs.flatMap f).length = xs.length * sz := by
  induction xs with
  | nil => simp
  | cons x r ih => rw [List.flatMap_cons, List.length_append, hf, ih, List.length_cons, Nat.succ_mul]; omega
/-- A network's value, its lists readable. -/
def NetAt (w : World) (v : Value) (n : NetM) : Prop :=
  ∃ b l g d t, v = .agg #[.string n.name, b, l, g, d, t] ∧ TextsAt w b n.buses ∧ RowAt w l n.lines.length 5 (n.lines.flatMap LineM.cells) ∧ RowAt w g n.gens.length 5 (n.gens.flatMap GenM.cells) ∧
    RowAt w d n.loads.length 3 (n.loads.flatMap LoadM.cells) ∧ RowAt w t n.ties.length 4 (n.ties.flatMap TieM.cells)
variable {P : Program}
theorem add_off (b off j : Nat) : (⟨b, off, none⟩ : Addr).add j = ⟨b, off + j, none⟩ := by
  by_cases h0 : j = 0
  · subst h0; simp [Addr.add]
  · simp [Addr.add, h0]
theorem run_append_nils (w : World) (t ty e : TypeId) (i : TypeInfo) (ht : P.underlying t = some (.slice e)) (hi : P.info? e = some i) (c : Nat) :
    (Builtin.append_ #[t, t] ty #[.slice none 0 0, .slice none 0 c]).run P w = .ok (.slice none 0 0) w := by
  have hl : (Builtin.lenOf (.slice none 0 c)).run P w = .ok 0 w := rfl
  simp [Builtin.append_, run_underlying ht, sizeOf, typeInfo, hi, hl, Builtin.firstCells]
end Go.Proofs.YtjcpcjickdcpmacGreatDoor.Doc
