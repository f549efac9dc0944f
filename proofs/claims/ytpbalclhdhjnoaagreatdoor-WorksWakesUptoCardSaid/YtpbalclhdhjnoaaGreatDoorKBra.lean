/- The document's own numbering of the buses that are joined. -/
import Derived.Test.YtpbalclhdhjnoaaGreatDoorKBr8
namespace Go.Proofs.YtpbalclhdhjnoaaGreatDoor.Bar
open Go.RowKit Go.Shelf Doc

def idTo (n : Nat) : Nat → List Int
  | 0 => List.replicate n 0
  | k + 1 => (idTo n k).set k (k : Int)
def tieTo (ts : List TieM) (l : List Int) : Nat → List Int
  | 0 => l
  | k + 1 => match ts[k]? with
    | some t => if t.closed then levelL (tieTo ts l k) t.frm.toNat t.to.toNat else tieTo ts l k
    | none => tieTo ts l k
def lineTo (ls : List LineM) (out : List Bool) (l : List Int) : Nat → List Int
  | 0 => l
  | k + 1 => match ls[k]? with
    | some t => if out.getD k false then lineTo ls out l k else levelL (lineTo ls out l k) t.frm.toNat t.to.toNat
    | none => lineTo ls out l k
theorem tieTo_len (ts : List TieM) (l : List Int) : ∀ k, (tieTo ts l k).length = l.length
  | 0 => rfl
  | k + 1 => by
    rw [tieTo]
    split
    · split
      · rw [levelL_len, tieTo_len ts l k]
      · exact tieTo_len ts l k
    · exact tieTo_len ts l k
theorem lineTo_len (ls : List LineM) (out : List Bool) (l : List Int) : ∀ k, (lineTo ls out l k).length = l.length
  | 0 => rfl
  | k + 1 => by
    rw [lineTo]
    split
    · split
      · exact lineTo_len ls out l k
      · rw [levelL_len, lineTo_len ls out l k]
    · exact lineTo_len ls out l k
/-- Every number is a bus's. -/
def InR (n : Nat) (l : List Int) : Prop := ∀ x ∈ l, 0 ≤ x ∧ x < (n : Int)
theorem InR.set {n : Nat} {l : List Int} (h : InR n l) {v : Nat} {x : Int} (hx : 0 ≤ x ∧ x < (n : Int)) : InR n (l.set v x) := fun y hy => by
  rcases List.mem_or_eq_of_mem_set hy with hy | rfl
  · exact h y hy
  · exact hx
theorem InR.level {n : Nat} {l : List Int} (h : InR n l) {a b : Nat} (ha : a < l.length) (hb : b < l.length) : InR n (levelL l a b) := by
  unfold levelL
  split
  · exact h.set (h _ (getD_in ha).2)
  · exact h.set (h _ (getD_in hb).2)
/-- The ends are buses. -/
structure EndsM (N : NetM) : Prop where
  lines : ∀ l ∈ N.lines, 0 ≤ l.frm ∧ l.frm < N.buses.length ∧ 0 ≤ l.to ∧ l.to < N.buses.length
  ties : ∀ l ∈ N.ties, 0 ≤ l.frm ∧ l.frm < N.buses.length ∧ 0 ≤ l.to ∧ l.to < N.buses.length
theorem InR.ties {N : NetM} (he : EndsM N) {l : List Int} (h : InR N.buses.length l) (hl : l.length = N.buses.length) : ∀ k, InR N.buses.length (tieTo N.ties l k)
  | 0 => h
  | k + 1 => by
    rw [tieTo]
    split
    · next t ht =>
      have := he.ties t (List.mem_of_getElem? ht)
      split
      · exact (InR.ties he h hl k).level (by rw [tieTo_len, hl]; omega) (by rw [tieTo_len, hl]; omega)
      · exact InR.ties he h hl k
    · exact InR.ties he h hl k
theorem InR.lines {N : NetM} (he : EndsM N) {out : List Bool} {l : List Int} (h : InR N.buses.length l) (hl : l.length = N.buses.length) : ∀ k, InR N.buses.length (lineTo N.lines out l k)
  | 0 => h
  | k + 1 => by
    rw [lineTo]
    split
    · next t ht =>
      have := he.lines t (List.mem_of_getElem? ht)
      split
      · exact InR.lines he h hl k
      · exact (InR.lines he h hl k).level (by rw [lineTo_len, hl]; omega) (by rw [lineTo_len, hl]; omega)
    · exact InR.lines he h hl k
theorem InR.id (n : Nat) (h0 : 0 < n) : ∀ k, k ≤ n → InR n (idTo n k)
  | 0, _ => fun x hx => by rw [List.eq_of_mem_replicate hx]; omega
  | k + 1, hk => (InR.id n h0 k (by omega)).set (by omega)
/-- The list at work beside the network's box. -/
structure JSt (w W : World) (F : Nat) (g : Array Value) (l : List Int) : Prop where
  hF : W.heap[F]? = some (.cells (ints l).toArray 3 (0, 0))
  bel : Below w.heap.size w W
  box : W.heap[w.heap.size]? = some (.cells g 28 (0, 0))
  hlt : w.heap.size < F
theorem JSt.later {w W W' : World} {F : Nat} {g : Array Value} {l : List Int} (h : JSt w W F g l) (hb : Below W.heap.size W W') : JSt w W' F g l :=
  ⟨(hb.block F (Array.getElem?_eq_some_iff.1 h.hF).1).trans h.hF, h.bel.trans (hb.mono h.bel.size), (hb.block _ (Array.getElem?_eq_some_iff.1 h.box).1).trans h.box, h.hlt⟩
theorem JSt.only {w W W' : World} {F : Nat} {g : Array Value} {l l' : List Int} (h : JSt w W F g l) (hf : W'.heap[F]? = some (.cells (ints l').toArray 3 (0, 0))) (ho : Only F W W') : JSt w W' F g l' :=
  ⟨hf, h.bel.trans (ho.below (Nat.le_of_lt h.hlt)), (ho.block _ (Nat.ne_of_lt h.hlt)).trans h.box, h.hlt⟩
theorem JSt.other {w W W' : World} {F G : Nat} {g : Array Value} {l : List Int} (h : JSt w W F g l) (hFG : F ≠ G) (hG : w.heap.size < G) (ho : Only G W W') : JSt w W' F g l :=
  ⟨(ho.block _ hFG).trans h.hF, h.bel.trans (ho.below (Nat.le_of_lt hG)), (ho.block _ (Nat.ne_of_lt hG)).trans h.box, h.hlt⟩
theorem JSt.set {w W : World} {F : Nat} {g : Array Value} {l : List Int} (h : JSt w W F g l) (v : Nat) (x : Int) : JSt w (W.setCell ⟨F, v, none⟩ (.int .i64 x)) F g (l.set v x) :=
  h.only (by rw [set_any h.hF v (.int .i64 x), ints_set]) (Only.set F v _ W)
theorem Row1.cell {w : World} {v : Value} {out : List Bool} {n : Nat} (h : RowAt w v n 1 (out.map Value.bool)) (k : Nat) (hk : k < out.length) : ∃ b off c, v = .slice (some ⟨b, off, none⟩) n c ∧ b < w.heap.size ∧ w.cell? ⟨b, off + k, none⟩ = some (.bool (out.getD k false)) := by
  obtain ⟨-, a, c, rfl, hc⟩ := h
  obtain ⟨b, off, rfl, hcell⟩ := hc k (.bool (out.getD k false)) (by rw [List.getElem?_map, List.getD_eq_getElem?_getD, List.getElem?_eq_getElem hk]; rfl)
  exact ⟨b, off, c, rfl, World.block_lt_of_cell? w _ hcell, hcell⟩

end Go.Proofs.YtpbalclhdhjnoaaGreatDoor.Bar
