/- The numbers of the groups: the program's reckoning. -/
import Derived.Test.YtpbalclhdhjnoaaGreatDoorKBr5
import Derived.Sort.LoopGhostIn
import Derived.Test.YtpbalclhdhjnoaaGreatDoorKDc5
namespace Go.Proofs.YtpbalclhdhjnoaaGreatDoor.Bar
open Go.RowKit Go.Shelf Doc

/-- The lists at work. -/
structure GSt (w W : World) (F : Nat) (g : Array Value) (G : List Int) : Prop where
  hF : W.heap[F]? = some (.cells (ints G).toArray 3 (0, 0))
  bel : Below w.heap.size w W
  box : W.heap[w.heap.size]? = some (.cells g 80 (0, 0))
  hlt : w.heap.size < F
theorem GSt.later {w W W' : World} {F : Nat} {g : Array Value} {G : List Int} (h : GSt w W F g G) (hb : Below W.heap.size W W') : GSt w W' F g G :=
  ⟨(hb.block F (Array.getElem?_eq_some_iff.1 h.hF).1).trans h.hF, h.bel.trans (hb.mono h.bel.size), (hb.block _ (Array.getElem?_eq_some_iff.1 h.box).1).trans h.box, h.hlt⟩
theorem GSt.set {w W : World} {F : Nat} {g : Array Value} {G : List Int} (h : GSt w W F g G) (v : Nat) (x : Int) : GSt w (W.setCell ⟨F, v, none⟩ (.int .i64 x)) F g (G.set v x) := by
  have := h.hlt
  refine ⟨by rw [set_any h.hF v (.int .i64 x), ints_set], h.bel.setCell (p := ⟨F, v, none⟩) (by show w.heap.size ≤ F; omega) _, (Below.heap_setCell _ _ _ _ (by show w.heap.size ≠ F; omega)).trans h.box, h.hlt⟩

end Go.Proofs.YtpbalclhdhjnoaaGreatDoor.Bar

namespace Go.Proofs.YtpbalclhdhjnoaaGreatDoor.Bar
open Go.RowKit Go.Shelf Doc

def levelL (l : List Int) (a b : Nat) : List Int := if l.getD a 0 < l.getD b 0 then l.set b (l.getD a 0) else l.set a (l.getD b 0)
theorem levelL_len (l : List Int) (a b : Nat) : (levelL l a b).length = l.length := by
  unfold levelL
  split <;> rw [List.length_set]
/-- Nothing but the block F has changed. -/
structure Only (F : Nat) (w w' : World) : Prop where
  os : w'.os = w.os
  tape : w'.tape = w.tape
  output : w'.output = w.output
  size : w'.heap.size = w.heap.size
  block : ∀ k, k ≠ F → w'.heap[k]? = w.heap[k]?
theorem Only.below {F n : Nat} {w w' : World} (h : Only F w w') (hn : n ≤ F) : Below n w w' := ⟨h.os, h.tape, h.output, Nat.le_of_eq h.size.symm, fun k hk => h.block k (by omega)⟩
theorem Only.set (F v : Nat) (x : Value) (w : World) : Only F w (w.setCell ⟨F, v, none⟩ x) :=
  ⟨by simp [World.setCell], by simp [World.setCell], by simp [World.setCell], World.size_setCell _ _ _, fun k hk => Below.heap_setCell _ _ _ k hk⟩
theorem Only.drew' {F : Nat} {w w' : World} (h : Only F w w') : Only F w w'.drew := ⟨h.os, h.tape, h.output, h.size, h.block⟩
theorem Only.drew {F : Nat} {w w' : World} (h : Only F w w') : Only F w.drew w' := ⟨h.os, h.tape, h.output, h.size, h.block⟩

end Go.Proofs.YtpbalclhdhjnoaaGreatDoor.Bar
