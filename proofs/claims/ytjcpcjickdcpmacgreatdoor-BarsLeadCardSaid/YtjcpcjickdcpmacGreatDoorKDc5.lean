/- The document's own word on which networks may be. -/
import Derived.Test.YtjcpcjickdcpmacGreatDoorKDc1
import Derived.Test.YtjcpcjickdcpmacGreatDoorKEq0
import Derived.Test.YtjcpcjickdcpmacGreatDoorKGw2
namespace Go.Proofs.YtjcpcjickdcpmacGreatDoor.Doc
open Go.RowKit

theorem row_elem {α : Type} {w : World} {f : α → List Value} {sz n : Nat} {v : Value} {xs : List α} (hf : ∀ x, (f x).length = sz) (h : RowAt w v n sz (xs.flatMap f)) (k : Nat) (hk : k < xs.length) (hsz : 0 < sz) :
    ∃ b off c, v = .slice (some ⟨b, off, none⟩) n c ∧ b < w.heap.size ∧ ∀ j u, (f xs[k])[j]? = some u → w.cell? ⟨b, off + k * sz + j, none⟩ = some u := by
  obtain ⟨-, a, c, rfl, hc⟩ := h
  obtain ⟨u0, hu0⟩ : ∃ u, (f xs[k])[0]? = some u := ⟨(f xs[k])[0]'(by rw [hf]; exact hsz), List.getElem?_eq_getElem _⟩
  have e0 := flat_get f sz hf xs k 0 hk hsz
  rw [hu0] at e0
  obtain ⟨b, off, rfl, hc0⟩ := hc _ _ e0
  refine ⟨b, off, c, rfl, World.block_lt_of_cell? w _ hc0, fun j u hj => ?_⟩
  have hjs : j < sz := by rw [← hf xs[k]]; exact (List.getElem?_eq_some_iff.1 hj).1
  have e := flat_get f sz hf xs k j hk hjs
  rw [hj] at e
  obtain ⟨b', off', e1, hc1⟩ := hc _ _ e
  cases e1
  rwa [Nat.add_assoc]
/-- The network in its box p. -/
structure Bx1 (w W : World) (p : Nat) (N : NetM) (b l g d t : Value) : Prop where
  box : W.heap[p]? = some (.cells #[.string N.name, b, l, g, d, t] 33 (0, 0))
  bel : Below w.heap.size w W
  hp : p = w.heap.size
  hb : TextsAt W b N.buses
  hl : RowAt W l N.lines.length 5 (N.lines.flatMap LineM.cells)
  hg : RowAt W g N.gens.length 5 (N.gens.flatMap GenM.cells)
  hd : RowAt W d N.loads.length 3 (N.loads.flatMap LoadM.cells)
  ht : RowAt W t N.ties.length 4 (N.ties.flatMap TieM.cells)
theorem Bx1.later {w W W' : World} {p : Nat} {N : NetM} {b l g d t : Value} (h : Bx1 w W p N b l g d t) (hb : Below W.heap.size W W') : Bx1 w W' p N b l g d t := by
  have hs : p < W.heap.size := (Array.getElem?_eq_some_iff.1 h.box).1
  have := h.hp
  exact ⟨(hb.block p hs).trans h.box, h.bel.trans (hb.mono (by omega)), h.hp, RowAt.below h.hb hb (Nat.le_refl _), RowAt.below h.hl hb (Nat.le_refl _), RowAt.below h.hg hb (Nat.le_refl _), RowAt.below h.hd hb (Nat.le_refl _), RowAt.below h.ht hb (Nat.le_refl _)⟩
end Go.Proofs.YtjcpcjickdcpmacGreatDoor.Doc

namespace Go.Proofs.YtjcpcjickdcpmacGreatDoor.Doc
open Go.RowKit


end Go.Proofs.YtjcpcjickdcpmacGreatDoor.Doc
