/- The raw network's builder: its state, and what an append to one of its lists leaves. -/
import Derived.Test.YtefkgllanghmfabDoorNf0
namespace Go.Proofs.YtefkgllanghmfabDoor
open Go.RowKit Go.Shelf

def nm (c : UInt8) (k : Nat) : ByteArray := (⟨#[c]⟩ : ByteArray) ++ decB k
/-- The builder at work: the raw value's box, the result's, the network's; its lists are its own. -/
structure Nf (w wr : World) (raw : Array Value) (N : NetM) (b l g d t : Value) : Prop where
  box : wr.heap[w.heap.size + 2]? = some (.cells #[.string N.name, b, l, g, d, t] 32 (0, 0))
  raw : wr.heap[w.heap.size]? = some (.cells raw 25 (0, 0))
  res : wr.heap[w.heap.size + 1]? = some (.cells #[.string ⟨#[]⟩, .slice none 0 0, .slice none 0 0, .slice none 0 0, .slice none 0 0, .slice none 0 0] 32 (0, 0))
  owns : Owns wr (w.heap.size + 3) b l g d t N
  bel : Below w.heap.size w wr
  sz : w.heap.size + 3 ≤ wr.heap.size
section
variable {w W w2 : World} {raw : Array Value} {N : NetM} {b l g d t v v' : Value} {e sz m : Nat} {xs : List Value}
theorem Nf.later (h : Nf w W raw N b l g d t) (hb : Below W.heap.size W w2) : Nf w w2 raw N b l g d t := by
  have hs := h.sz
  have hs2 := hb.size
  exact ⟨(hb.block _ (by omega)).trans h.box, (hb.block _ (by omega)).trans h.raw, (hb.block _ (by omega)).trans h.res, owns_later h.owns hb, h.bel.trans (hb.mono (by omega)), by omega⟩
theorem Nf.cell (h : Nf w W raw N b l g d t) (j : Nat) {u : Value} (hv : (#[.string N.name, b, l, g, d, t] : Array Value)[j]? = some u) : W.cell? ⟨w.heap.size + 2, j, none⟩ = some u := by
  simp only [World.cell?, h.box]
  exact hv
theorem Nf.rawc (h : Nf w W raw N b l g d t) (j : Nat) {u : Value} (hv : raw[j]? = some u) : W.cell? ⟨w.heap.size, j, none⟩ = some u := by
  simp only [World.cell?, h.raw]
  exact hv
theorem Nf.keep (h : Nf w W raw N b l g d t) {p : Addr} {u : Value} (hp : w.cell? p = some u) : W.cell? p = some u := (h.bel.cell (World.block_lt_of_cell? w _ hp)).trans hp
/-- What an append to a list leaves as it was. -/
theorem Nf.grown (h : Nf w W raw N b l g d t) (o : Obj) (hv : W.ownsRow (w.heap.size + 3) e sz v m xs) (hg : (W.alloc o).grownBy w2 v.ownBlock) :
    (∀ k, k < w.heap.size + 3 → w2.heap[k]? = W.heap[k]?) ∧ Below w.heap.size w w2 ∧ w.heap.size + 3 ≤ w2.heap.size ∧ (∀ e' sz' v' m' xs', e' ≠ e → W.ownsRow (w.heap.size + 3) e' sz' v' m' xs' → w2.ownsRow (w.heap.size + 3) e' sz' v' m' xs') := by
  have hblk : ∀ k, k < W.heap.size → some k ≠ v.ownBlock → w2.heap[k]? = W.heap[k]? := fun k hk hne => (hg.block k (by rw [World.size_alloc]; omega) hne).trans (((Below.refl _ W).alloc (Nat.le_refl _) o).block k hk)
  have hrow : ∀ k, some k = v.ownBlock → w.heap.size + 3 ≤ k ∧ ∃ cur, W.heap[k]? = some (.cells cur e (0, 0)) := by
    intro k hk
    rcases hv.2 with ⟨rfl, _⟩ | ⟨g', cap, cur, rfl, h4, h5, _⟩
    · simp [Value.ownBlock] at hk
    · simp only [Value.ownBlock, Option.some.injEq] at hk
      subst hk
      exact ⟨h4, cur, h5⟩
  have hs := h.sz
  have hs2 : W.heap.size ≤ w2.heap.size := by have := hg.size; rw [World.size_alloc] at this; omega
  have h1 : ∀ k, k < w.heap.size + 3 → w2.heap[k]? = W.heap[k]? := fun k hk => hblk k (by omega) fun hk' => by
    have := (hrow k hk').1
    omega
  refine ⟨h1, h.bel.trans ⟨hg.os, hg.tape, hg.output, hs2, fun k hk => h1 k (by omega)⟩, by omega, ?_⟩
  intro e' sz' v' m' xs' hne h'
  refine ⟨h'.1, ?_⟩
  rcases h'.2 with h2 | ⟨g', cap, cur', h3, h4, h5, h6⟩
  · exact .inl h2
  · refine .inr ⟨g', cap, cur', h3, h4, (hblk g' (Array.getElem?_eq_some_iff.1 h5).1 ?_).trans h5, h6⟩
    intro hk
    obtain ⟨_, cur, hc⟩ := hrow g' hk
    rw [h5] at hc; cases hc; exact hne rfl
theorem set_own32 {K j : Nat} {cur : Array Value} {B : Nat} {u : Value} (h : w2.ownsRow B e sz v m xs) (hK : w2.heap[K]? = some (.cells cur 32 (0, 0))) (he : e ≠ 32) : (w2.setCell ⟨K, j, none⟩ u).ownsRow B e sz v m xs :=
  own_block h hK he fun k _ hk => Below.heap_setCell w2 _ _ k hk
theorem Nf.set (h : Nf w W raw N b l g d t) (h1 : ∀ k, k < w.heap.size + 3 → w2.heap[k]? = W.heap[k]?) (h2 : Below w.heap.size w w2) (h3 : w.heap.size + 3 ≤ w2.heap.size) (j : Nat) (u : Value) {N' : NetM} {b' l' g' d' t' : Value}
    (hc : (#[.string N.name, b, l, g, d, t] : Array Value).setIfInBounds j u = #[.string N'.name, b', l', g', d', t']) (ho : Owns w2 (w.heap.size + 3) b' l' g' d' t' N') : Nf w (w2.setCell ⟨w.heap.size + 2, j, none⟩ u) raw N' b' l' g' d' t' := by
  have hK := (h1 (w.heap.size + 2) (by omega)).trans h.box
  refine ⟨?_, ?_, ?_, ⟨set_own32 ho.hb hK (by decide), set_own32 ho.hl hK (by decide), set_own32 ho.hg hK (by decide), set_own32 ho.hd hK (by decide), set_own32 ho.ht hK (by decide)⟩, ?_, ?_⟩
  · have := set_any hK j u
    rwa [hc] at this
  · exact (Below.heap_setCell w2 _ _ _ (by show w.heap.size ≠ w.heap.size + 2; omega)).trans ((h1 _ (by omega)).trans h.raw)
  · exact (Below.heap_setCell w2 _ _ _ (by show w.heap.size + 1 ≠ w.heap.size + 2; omega)).trans ((h1 _ (by omega)).trans h.res)
  · exact h2.setCell (p := ⟨w.heap.size + 2, j, none⟩) (by show w.heap.size ≤ w.heap.size + 2; omega) _
  · rw [World.size_setCell]
    exact h3
theorem Nf.bus (h : Nf w W raw N b l g d t) {o : Obj} {x : ByteArray} (hg : (W.alloc o).grownBy w2 b.ownBlock) (ho : w2.ownsRow (w.heap.size + 3) 9 1 v' (N.buses.length + 1) (N.buses.map Value.string ++ [.string x])) :
    Nf w (w2.setCell ⟨w.heap.size + 2, 1, none⟩ v') raw { N with buses := N.buses ++ [x] } v' l g d t := by
  obtain ⟨h1, h2, h3, h4⟩ := h.grown o h.owns.hb hg
  refine h.set h1 h2 h3 1 v' rfl ⟨?_, h4 _ _ _ _ _ (by decide) h.owns.hl, h4 _ _ _ _ _ (by decide) h.owns.hg, h4 _ _ _ _ _ (by decide) h.owns.hd, h4 _ _ _ _ _ (by decide) h.owns.ht⟩
  have e1 : (N.buses ++ [x]).length = N.buses.length + 1 := by simp
  have e2 : (N.buses ++ [x]).map Value.string = N.buses.map Value.string ++ [.string x] := by simp
  show w2.ownsRow _ 9 1 v' (N.buses ++ [x]).length ((N.buses ++ [x]).map Value.string)
  rw [e1, e2]
  exact ho
theorem Nf.line (h : Nf w W raw N b l g d t) {o : Obj} {x : LineM} (hg : (W.alloc o).grownBy w2 l.ownBlock) (ho : w2.ownsRow (w.heap.size + 3) 48 5 v' (N.lines.length + 1) (N.lines.flatMap LineM.cells ++ x.cells)) :
    Nf w (w2.setCell ⟨w.heap.size + 2, 2, none⟩ v') raw { N with lines := N.lines ++ [x] } b v' g d t := by
  obtain ⟨h1, h2, h3, h4⟩ := h.grown o h.owns.hl hg
  refine h.set h1 h2 h3 2 v' rfl ⟨h4 _ _ _ _ _ (by decide) h.owns.hb, ?_, h4 _ _ _ _ _ (by decide) h.owns.hg, h4 _ _ _ _ _ (by decide) h.owns.hd, h4 _ _ _ _ _ (by decide) h.owns.ht⟩
  have e1 : (N.lines ++ [x]).length = N.lines.length + 1 := by simp
  have e2 : (N.lines ++ [x]).flatMap LineM.cells = N.lines.flatMap LineM.cells ++ x.cells := by simp
  show w2.ownsRow _ 48 5 v' (N.lines ++ [x]).length ((N.lines ++ [x]).flatMap LineM.cells)
  rw [e1, e2]
  exact ho
theorem Nf.tie (h : Nf w W raw N b l g d t) {o : Obj} {x : TieM} (hg : (W.alloc o).grownBy w2 t.ownBlock) (ho : w2.ownsRow (w.heap.size + 3) 52 4 v' (N.ties.length + 1) (N.ties.flatMap TieM.cells ++ x.cells)) :
    Nf w (w2.setCell ⟨w.heap.size + 2, 5, none⟩ v') raw { N with ties := N.ties ++ [x] } b l g d v' := by
  obtain ⟨h1, h2, h3, h4⟩ := h.grown o h.owns.ht hg
  refine h.set h1 h2 h3 5 v' rfl ⟨h4 _ _ _ _ _ (by decide) h.owns.hb, h4 _ _ _ _ _ (by decide) h.owns.hl, h4 _ _ _ _ _ (by decide) h.owns.hg, h4 _ _ _ _ _ (by decide) h.owns.hd, ?_⟩
  have e1 : (N.ties ++ [x]).length = N.ties.length + 1 := by simp
  have e2 : (N.ties ++ [x]).flatMap TieM.cells = N.ties.flatMap TieM.cells ++ x.cells := by simp
  show w2.ownsRow _ 52 4 v' (N.ties ++ [x]).length ((N.ties ++ [x]).flatMap TieM.cells)
  rw [e1, e2]
  exact ho
/-- Behind the append, ahead of the store. -/
theorem Nf.mid (h : Nf w W raw N b l g d t) (o : Obj) (hv : W.ownsRow (w.heap.size + 3) e sz v m xs) (hg : (W.alloc o).grownBy w2 v.ownBlock) (j : Nat) {u : Value} (hu : (#[.string N.name, b, l, g, d, t] : Array Value)[j]? = some u) : w2.cell? ⟨w.heap.size + 2, j, none⟩ = some u ∧ w2.frozen? ⟨w.heap.size + 2, j, none⟩ = false := by
  obtain ⟨h1, _⟩ := h.grown o hv hg
  have hK := (h1 (w.heap.size + 2) (by omega)).trans h.box
  refine ⟨?_, by simp [World.frozen?, hK]⟩
  simp only [World.cell?, hK]
  exact hu
end
end Go.Proofs.YtefkgllanghmfabDoor
