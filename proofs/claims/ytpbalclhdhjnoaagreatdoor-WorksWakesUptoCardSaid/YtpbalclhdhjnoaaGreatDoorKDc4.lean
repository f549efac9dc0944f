/- A network with memory of its own: the copies that the statement hands on. -/
import Derived.Test.YtpbalclhdhjnoaaGreatDoorKDc1
import Derived.Test.YtpbalclhdhjnoaaGreatDoorKEq0
namespace Go.Proofs.YtpbalclhdhjnoaaGreatDoor.Doc
open Go.RowKit

/-- A mark at which a walk stands still. -/
def Stand (p : Prop) : Prop := p
theorem Stand.go {p : Prop} (h : Stand p) : p := h
section
variable {P : Program}
end
/-- The copy at work: the network in its box p, the result's box behind it. -/
structure Cp (w W : World) (p : Nat) (nm : ByteArray) (c1 c2 c3 c4 c5 : Value) : Prop where
  box : W.heap[p]? = some (.cells #[.string nm, c1, c2, c3, c4, c5] 28 (0, 0))
  res : W.heap[p + 1]? = some (.cells #[.string ⟨#[]⟩, .slice none 0 0, .slice none 0 0, .slice none 0 0, .slice none 0 0, .slice none 0 0] 28 (0, 0))
  bel : Below p w W
section
variable {w W W1 : World} {p : Nat} {nm : ByteArray} {c1 c2 c3 c4 c5 : Value}
theorem Cp.size (h : Cp w W p nm c1 c2 c3 c4 c5) : p + 1 < W.heap.size := (Array.getElem?_eq_some_iff.1 h.res).1
theorem Cp.grow (h : Cp w W p nm c1 c2 c3 c4 c5) (hb : Below W.heap.size W W1) : Cp w W1 p nm c1 c2 c3 c4 c5 := by
  have hs := h.size
  exact ⟨(hb.block p (by omega)).trans h.box, (hb.block _ hs).trans h.res, h.bel.trans (hb.mono (by omega))⟩
theorem Cp.set (h : Cp w W p nm c1 c2 c3 c4 c5) {j : Nat} {x : Value} {cs : Array Value} (hc : (#[.string nm, c1, c2, c3, c4, c5] : Array Value).setIfInBounds j x = cs) :
    (W.setCell ⟨p, j, none⟩ x).heap[p]? = some (.cells cs 28 (0, 0)) ∧ (W.setCell ⟨p, j, none⟩ x).heap[p + 1]? = some (.cells #[.string ⟨#[]⟩, .slice none 0 0, .slice none 0 0, .slice none 0 0, .slice none 0 0, .slice none 0 0] 28 (0, 0)) ∧ Below p w (W.setCell ⟨p, j, none⟩ x) := by
  refine ⟨by rw [← hc]; exact set_any h.box j x, (Below.heap_setCell _ _ _ _ (by show p + 1 ≠ p; omega)).trans h.res, h.bel.setCell (p := ⟨p, j, none⟩) (Nat.le_refl _) _⟩
theorem Cp.own (h : Cp w W p nm c1 c2 c3 c4 c5) {B e sz n : Nat} {v : Value} {xs : List Value} (ho : W.ownsRow B e sz v n xs) (he : e ≠ 28) (j : Nat) (x : Value) : (W.setCell ⟨p, j, none⟩ x).ownsRow B e sz v n xs :=
  own_block ho h.box he fun _ _ hk => Below.heap_setCell _ _ _ _ hk
end

end Go.Proofs.YtpbalclhdhjnoaaGreatDoor.Doc
