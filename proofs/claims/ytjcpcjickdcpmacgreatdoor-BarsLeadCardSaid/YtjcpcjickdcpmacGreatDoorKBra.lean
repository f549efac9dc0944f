/- The document's own numbering of the buses that are joined. -/
import Derived.Test.YtjcpcjickdcpmacGreatDoorKBr8
namespace Go.Proofs.YtjcpcjickdcpmacGreatDoor.Bar
open Go.RowKit Go.Shelf Doc

def idTo (n : Nat) : Nat → List Int
  | 0 => List.replicate n 0
  | k + 1 => (idTo n k).set k (k : Int)
def tieTo (ts : List TieM) (l : List Int) : Nat → List Int
  | 0 => l
  | k + 1 => match ts[k]? with
    | some t => if t.closed then levelL (tieTo ts l k) t.frm.toNat t.to.toNat else tieTo ts l k
    | none => tieTo ts l k
def lineTo (ls : List LineM) (out : List Bool) (l : List Int) : Nat → List Int
  | 0 => l
  | k + 1 => match ls[k]? with
    | some t => if out.getD k false then lineTo ls out l k else levelL (lineTo ls out l k) t.frm.toNat t.to.toNat
    | none => lineTo ls out l k
def sweepL (N : NetM) (out : List Bool) (lines : Bool) (l : List Int) : List Int := if lines then lineTo N.lines out (tieTo N.ties l N.ties.length) N.lines.length else tieTo N.ties l N.ties.length
def whoS (N : NetM) (out : List Bool) (lines : Bool) : Nat → List Int
  | 0 => idTo N.buses.length N.buses.length
  | k + 1 => sweepL N out lines (whoS N out lines k)
def whoL (N : NetM) (out : List Bool) (lines : Bool) : List Int := whoS N out lines N.buses.length
def numS (n : Nat) (who : List Int) : Nat → List Int × Nat
  | 0 => (List.replicate n 0, 0)
  | k + 1 => if who.getD k 0 = (k : Int) then ((numS n who k).1.set k ((numS n who k).2 : Int), (numS n who k).2 + 1) else ((numS n who k).1.set k ((numS n who k).1.getD (who.getD k 0).toNat 0), (numS n who k).2)
def joinedL (N : NetM) (out : List Bool) (lines : Bool) : List Int := (numS N.buses.length (whoL N out lines) N.buses.length).1
theorem idTo_len (n : Nat) : ∀ k, (idTo n k).length = n
  | 0 => by simp [idTo]
  | k + 1 => by rw [idTo, List.length_set, idTo_len n k]
theorem numS_len (n : Nat) (who : List Int) : ∀ k, (numS n who k).1.length = n
  | 0 => by simp [numS]
  | k + 1 => by
    rw [numS]
    split <;> rw [List.length_set, numS_len n who k]
/-- The ends are buses. -/
structure EndsM (N : NetM) : Prop where
  lines : ∀ l ∈ N.lines, 0 ≤ l.frm ∧ l.frm < N.buses.length ∧ 0 ≤ l.to ∧ l.to < N.buses.length
  ties : ∀ l ∈ N.ties, 0 ≤ l.frm ∧ l.frm < N.buses.length ∧ 0 ≤ l.to ∧ l.to < N.buses.length
theorem Row1.cell {w : World} {v : Value} {out : List Bool} {n : Nat} (h : RowAt w v n 1 (out.map Value.bool)) (k : Nat) (hk : k < out.length) : ∃ b off c, v = .slice (some ⟨b, off, none⟩) n c ∧ b < w.heap.size ∧ w.cell? ⟨b, off + k, none⟩ = some (.bool (out.getD k false)) := by
  obtain ⟨-, a, c, rfl, hc⟩ := h
  obtain ⟨b, off, rfl, hcell⟩ := hc k (.bool (out.getD k false)) (by rw [List.getElem?_map, List.getD_eq_getElem?_getD, List.getElem?_eq_getElem hk]; rfl)
  exact ⟨b, off, c, rfl, World.block_lt_of_cell? w _ hcell, hcell⟩

end Go.Proofs.YtjcpcjickdcpmacGreatDoor.Bar
