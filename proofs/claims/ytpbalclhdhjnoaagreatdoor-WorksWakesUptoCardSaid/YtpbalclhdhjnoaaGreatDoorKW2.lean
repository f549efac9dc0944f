/- The document's way. -/
import Derived.Test.YtpbalclhdhjnoaaGreatDoorKW1
import Derived.Test.YtpbalclhdhjnoaaGreatDoorKBr5
import Derived.Sort.LoopGhostIn
namespace Go.Proofs.YtpbalclhdhjnoaaGreatDoor.Bar
open Go.RowKit Go.Shelf Doc

end Go.Proofs.YtpbalclhdhjnoaaGreatDoor.Bar

namespace Go.Proofs.YtpbalclhdhjnoaaGreatDoor.Bar
open Go.RowKit Go.Shelf Doc
attribute [local go_sem] Oper.semAt_some wide_fn wide_depth

/-- The way at work: the counts, the hops so far, and where it stands. -/
structure WayP (W : World) (F P8 P9 P10 B n : Nat) (D : List Int) (u : Int) (lv : Value) (dn : List LinkM) : Prop where
  hF : W.heap[F]? = some (.cells (ints D).toArray 3 (0, 0))
  h8 : W.heap[P8]? = some (.cells #[.slice (some ⟨F, 0, none⟩) n n] 30 (0, 0))
  h9 : W.heap[P9]? = some (.cells #[lv] 43 (0, 0))
  h10 : W.heap[P10]? = some (.cells #[.int .i64 u] 3 (0, 0))
  own : W.ownsRow B 47 2 lv dn.length (dn.flatMap hopCells)
  ne : P10 ≠ F
theorem WayP.grow {W W' : World} {F P8 P9 P10 B n : Nat} {D : List Int} {u : Int} {lv : Value} {dn : List LinkM} (h : WayP W F P8 P9 P10 B n D u lv dn) (hb : ∀ (k : Nat) c t fz, W.heap[k]? = some (Obj.cells c t fz) → W'.heap[k]? = some (Obj.cells c t fz)) : WayP W' F P8 P9 P10 B n D u lv dn := by
  refine ⟨hb _ _ _ _ h.hF, hb _ _ _ _ h.h8, hb _ _ _ _ h.h9, hb _ _ _ _ h.h10, own_other h.own (fun k hk => ?_), h.ne⟩
  rcases h.own.2 with ⟨rfl, _⟩ | ⟨g, cp, cur, rfl, _, h5, _⟩
  · cases hk
  · cases hk; rw [h5]; exact hb _ _ _ _ h5
theorem WayP.next {W : World} {F P8 P9 P10 B n : Nat} {D : List Int} {u : Int} {lv : Value} {dn : List LinkM} (h : WayP W F P8 P9 P10 B n D u lv dn) : WayP (W.alloc (.cells #[.int .i64 u] 3)) F P8 P9 W.heap.size B n D u lv dn := by
  have h2 := h.grow (W' := W.alloc (.cells #[.int .i64 u] 3)) (fun k c t fz hk => (Below.heap_alloc _ _ _ (Array.getElem?_eq_some_iff.1 hk).1).trans hk)
  exact ⟨h2.hF, h2.h8, h2.h9, World.alloc_heap_new W _, h2.own, fun e => by have := (Array.getElem?_eq_some_iff.1 h.hF).1; omega⟩
theorem WayP.same {X1 w3 : World} {F P8 P9 P10 B n : Nat} {D : List Int} {u : Int} {lv : Value} {dn : List LinkM} {o : Obj} (h : WayP X1 F P8 P9 P10 B n D u lv dn) (hg : (X1.alloc o).grownBy w3 lv.ownBlock) {k : Nat} {c : Array Value} {t : TypeId} (ht : t ≠ 47) (hk : X1.heap[k]? = some (.cells c t (0, 0))) : w3.heap[k]? = some (.cells c t (0, 0)) := by
  have hkl := (Array.getElem?_eq_some_iff.1 hk).1
  rw [hg.block k (by rw [World.size_alloc]; omega) (fun e => by
    rcases h.own.2 with ⟨e0, _⟩ | ⟨g, cp, cur, e0, _, h6, _⟩
    · rw [e0] at e; cases e
    · rw [e0] at e; cases e; rw [hk] at h6; cases h6; exact ht rfl), Below.heap_alloc _ _ _ hkl, hk]
end Go.Proofs.YtpbalclhdhjnoaaGreatDoor.Bar

namespace Go.Proofs.YtpbalclhdhjnoaaGreatDoor.Bar
open Go.RowKit Go.Shelf Doc

end Go.Proofs.YtpbalclhdhjnoaaGreatDoor.Bar

namespace Go.Proofs.YtpbalclhdhjnoaaGreatDoor.Bar
open Go.RowKit Go.Shelf Doc

end Go.Proofs.YtpbalclhdhjnoaaGreatDoor.Bar
