/- What the law on feeds wants besides. -/
import Derived.Test.YtakcpemboeekfadGreatDoorKDoc0
import Derived.Test.YtakcpemboeekfadGreatDoorKD6
import Derived.RangeFuncNested
import Derived.RangeFuncBound
import Derived.RangeFuncCalls
import Derived.RangeFuncLeaves
import Derived.Shelf.Abstract
import Derived.OwnWalkIn
import Derived.TacticsInMore
import Derived.LoopNIn
import Derived.LoopIn
import Derived.Deep.RegionHeld3
import Derived.Shelf.LaysM
import Derived.Shelf.Bits.Mul64
import Derived.Test.YtakcpemboeekfadGreatDoorProg
import Derived.Test.YtakcpemboeekfadGreatDoorKDc1
import Derived.Laws.CopyOwn
import Derived.OwnWalk
import Derived.Deep.RegionLaw
import Derived.Sort.LoopGhostIn
import Derived.Test.YtakcpemboeekfadGreatDoorKDc5
import Derived.Test.YtakcpemboeekfadGreatDoorKGw3
namespace Go.Proofs.YtakcpemboeekfadGreatDoor.Bar
open Go.RowKit Go.Shelf Doc

theorem wide_fn (f : FuncId) : Fence.wide.fn f = True := rfl
theorem wide_depth : Fence.wide.depth = none := rfl
/-- A mark at which a walk stands still. -/
def Still (p : Prop) : Prop := p
theorem Still.go {p : Prop} (h : Still p) : p := h
theorem getD_in {D : List Int} {j : Nat} (h : j < D.length) : D[j]? = some (D.getD j 0) ∧ D.getD j 0 ∈ D := by
  rw [List.getD_eq_getElem?_getD, List.getElem?_eq_getElem h]
  exact ⟨rfl, List.getElem_mem h⟩
theorem made_zero (n : Nat) : (madeCells (Value.int .i64 0).cells (n * 1)).toList = List.replicate n (.int .i64 0) := by
  apply List.ext_getElem
  · simp [madeCells]
  · intro i h1 h2
    simp [madeCells, Value.cells, Nat.mod_one]
theorem row_of_own {w : World} {B g n : Nat} {xs : List Value} (h : w.ownsRow B 3 1 (.slice (some ⟨g, 0, none⟩) n n) n xs) : w.heap[g]? = some (.cells xs.toArray 3 (0, 0)) := by
  rcases h.2 with ⟨h1, _⟩ | ⟨g', cap, cur, h1, _, h2, _, _, h3, h4⟩
  · cases h1
  · cases h1
    rw [h2]
    have e : cur = xs.toArray := by
      rw [← h4, List.take_of_length_le (by rw [Array.length_toList, h3]; exact Nat.le_refl _)]
    rw [e]
def ints (l : List Int) : List Value := l.map (Value.int .i64)
theorem own_other {W W' : World} {B e sz m : Nat} {v : Value} {xs : List Value} (h : W.ownsRow B e sz v m xs) (hb : ∀ k, v.ownBlock = some k → W'.heap[k]? = W.heap[k]?) : W'.ownsRow B e sz v m xs := by
  refine ⟨h.1, ?_⟩
  rcases h.2 with h2 | ⟨g, cp, cur, h3, h4, h5, h6⟩
  · exact .inl h2
  · exact .inr ⟨g, cp, cur, h3, h4, (hb g (by rw [h3]; rfl)).trans h5, h6⟩
theorem ints_set (l : List Int) (v : Nat) (x : Int) : (ints l).toArray.setIfInBounds v (.int .i64 x) = (ints (l.set v x)).toArray := by
  simp [ints, List.map_set]
theorem intsCell {w : World} {p t : Nat} {l : List Int} (h : w.heap[p]? = some (.cells (ints l).toArray t (0, 0))) {j : Nat} (hj : j < l.length) : w.cell? ⟨p, j, none⟩ = some (.int .i64 (l.getD j 0)) ∧ w.frozen? ⟨p, j, none⟩ = false := by
  refine ⟨?_, by simp [World.frozen?, h]⟩
  simp only [World.cell?, h]
  show (ints l).toArray[j]? = _
  rw [List.getElem?_toArray, ints, List.getElem?_map, (getD_in hj).1]
  rfl
/-- Nothing but the block F has changed. -/
structure Only (F : Nat) (w w' : World) : Prop where
  os : w'.os = w.os
  tape : w'.tape = w.tape
  output : w'.output = w.output
  size : w'.heap.size = w.heap.size
  block : ∀ k, k ≠ F → w'.heap[k]? = w.heap[k]?
theorem Only.below {F n : Nat} {w w' : World} (h : Only F w w') (hn : n ≤ F) : Below n w w' := ⟨h.os, h.tape, h.output, Nat.le_of_eq h.size.symm, fun k hk => h.block k (by omega)⟩
theorem Only.set (F v : Nat) (x : Value) (w : World) : Only F w (w.setCell ⟨F, v, none⟩ x) :=
  ⟨by simp [World.setCell], by simp [World.setCell], by simp [World.setCell], World.size_setCell _ _ _, fun k hk => Below.heap_setCell _ _ _ k hk⟩
/-- The list at work beside the network's box. -/
structure JSt (w W : World) (F : Nat) (g : Array Value) (l : List Int) : Prop where
  hF : W.heap[F]? = some (.cells (ints l).toArray 3 (0, 0))
  bel : Below w.heap.size w W
  box : W.heap[w.heap.size]? = some (.cells g 28 (0, 0))
  hlt : w.heap.size < F
theorem JSt.later {w W W' : World} {F : Nat} {g : Array Value} {l : List Int} (h : JSt w W F g l) (hb : Below W.heap.size W W') : JSt w W' F g l :=
  ⟨(hb.block F (Array.getElem?_eq_some_iff.1 h.hF).1).trans h.hF, h.bel.trans (hb.mono h.bel.size), (hb.block _ (Array.getElem?_eq_some_iff.1 h.box).1).trans h.box, h.hlt⟩
theorem JSt.only {w W W' : World} {F : Nat} {g : Array Value} {l l' : List Int} (h : JSt w W F g l) (hf : W'.heap[F]? = some (.cells (ints l').toArray 3 (0, 0))) (ho : Only F W W') : JSt w W' F g l' :=
  ⟨hf, h.bel.trans (ho.below (Nat.le_of_lt h.hlt)), (ho.block _ (Nat.ne_of_lt h.hlt)).trans h.box, h.hlt⟩
theorem JSt.set {w W : World} {F : Nat} {g : Array Value} {l : List Int} (h : JSt w W F g l) (v : Nat) (x : Int) : JSt w (W.setCell ⟨F, v, none⟩ (.int .i64 x)) F g (l.set v x) :=
  h.only (by rw [set_any h.hF v (.int .i64 x), ints_set]) (Only.set F v _ W)
theorem Row1.cell {w : World} {v : Value} {out : List Bool} {n : Nat} (h : RowAt w v n 1 (out.map Value.bool)) (k : Nat) (hk : k < out.length) : ∃ b off c, v = .slice (some ⟨b, off, none⟩) n c ∧ b < w.heap.size ∧ w.cell? ⟨b, off + k, none⟩ = some (.bool (out.getD k false)) := by
  obtain ⟨-, a, c, rfl, hc⟩ := h
  obtain ⟨b, off, rfl, hcell⟩ := hc k (.bool (out.getD k false)) (by rw [List.getElem?_map, List.getD_eq_getElem?_getD, List.getElem?_eq_getElem hk]; rfl)
  exact ⟨b, off, c, rfl, World.block_lt_of_cell? w _ hcell, hcell⟩
/-- The network's box. -/
structure NBx (w W : World) (g : Array Value) : Prop where
  bel : Below w.heap.size w W
  box : W.heap[w.heap.size]? = some (.cells g 28 (0, 0))
theorem NBx.later {w W W' : World} {g : Array Value} (h : NBx w W g) (hb : Below W.heap.size W W') : NBx w W' g :=
  ⟨h.bel.trans (hb.mono h.bel.size), (hb.block _ (Array.getElem?_eq_some_iff.1 h.box).1).trans h.box⟩
theorem NBx.alloc {w W : World} {g : Array Value} (h : NBx w W g) (o : Obj) : NBx w (W.alloc o) g := h.later ((Below.refl _ W).alloc (Nat.le_refl _) o)
theorem NBx.grown {w W W' : World} {g : Array Value} (h : NBx w W g) {row : Option Nat} (hg : W.grownBy W' row) (hr : ∀ k, row = some k → w.heap.size < k) : NBx w W' g :=
  ⟨h.bel.grown hg h.bel.size (fun k e => Nat.le_of_lt (hr k e)), (hg.block _ (Array.getElem?_eq_some_iff.1 h.box).1 (fun e => absurd (hr _ e.symm) (Nat.lt_irrefl _))).trans h.box⟩
theorem own_at {w : World} {B e sz m : Nat} {v : Value} {xs : List Value} (h : w.ownsRow B e sz v m xs) : ∀ k, v.ownBlock = some k → B ≤ k := fun k hk => by
  rcases h.2 with ⟨rfl, _⟩ | ⟨g, cp, cur, rfl, h4, _⟩
  · cases hk
  · cases hk; exact h4
theorem ints_cell {w : World} {v : Value} {l : List Int} (h : RowAt w v l.length 1 (ints l)) (k : Nat) (hk : k < l.length) : ∃ b off c, v = .slice (some ⟨b, off, none⟩) l.length c ∧ w.cell? ⟨b, off + k, none⟩ = some (.int .i64 (l.getD k 0)) := by
  obtain ⟨-, a, c, rfl, hc⟩ := h
  obtain ⟨b, off, rfl, hcell⟩ := hc k (.int .i64 (l.getD k 0)) (by rw [ints, List.getElem?_map, (getD_in hk).1]; rfl)
  exact ⟨b, off, c, rfl, hcell⟩
set_option maxRecDepth 100000 in
set_option maxHeartbeats 2000000 in
theorem sameInts_any (l : List Int) (va vb : Value) (w : World) (ha : RowAt w va l.length 1 (ints l)) (hb : RowAt w vb l.length 1 (ints l)) (hl : l.length ≤ 1000) :
    Calls Tryz.prog 8 #[va, vb] w fun e w' => e = .returned (.bool true) ∧ ∃ q, w' = w.drewN q := by
  have HA := hide' ha
  have HB := hide' hb
  obtain ⟨aa, ca, rfl⟩ := rowAt_slice ha
  obtain ⟨ab, cb, rfl⟩ := rowAt_slice hb
  clear ha hb
  go_enter Tryz.func8, Tryz.ntmps8
  go_wp2_with fail
  go_loopw [5] (fun i wr => ∃ (k : Nat), i = .int .i64 k ∧ k ≤ l.length ∧ ∃ q, wr = w.drewN q) (fun i _ => l.length - (intOf i).toNat)
  case atStart => exact ⟨0, rfl, Nat.zero_le _, 0, rfl⟩
  case round =>
    obtain ⟨k, rfl, hk, q, rfl⟩ := hrel
    by_cases hlt : k < l.length
    · obtain ⟨b1, o1, c1, e1, h1⟩ := ints_cell HA.out k hlt
      cases e1
      obtain ⟨b2, o2, c2, e2, h2⟩ := ints_cell HB.out k hlt
      cases e2
      obtain ⟨x, hx⟩ : ∃ x, x = l.getD k 0 := ⟨_, rfl⟩
      rw [← hx] at h1 h2
      clear hx
      go_wp2_with fail
      go_region
      go_wp2
      go_roundw
      case rel => exact ⟨k + 1, by go_num, by omega, q + 1, rfl⟩
      case measure => simp [intOf]; omega
    · go_wp2
      go_ret
      exact ⟨rfl, q, rfl⟩
/-- What the answer on nodes or islands is: a list, or a fault. -/
def Answers (l : List Int) (code : Int) (w : World) (e : Ending) (w' : World) : Prop := ∃ v, e = .returned (.tuple #[v, .int .i64 code]) ∧ RowAt w' v l.length 1 (ints l) ∧ Below w.heap.size w w'
theorem answers_nil {code : Int} {w w' : World} (hb : Below w.heap.size w w') : Answers [] code w (.returned (.tuple #[.slice none 0 0, .int .i64 code])) w' := ⟨_, rfl, ⟨rfl, none, 0, rfl, fun j u h => by simp [ints] at h⟩, hb⟩
theorem rowAt_ints {w : World} {F n : Nat} {l : List Int} (h : w.heap[F]? = some (.cells (ints l).toArray 3 (0, 0))) (hl : l.length = n) : RowAt w (.slice (some ⟨F, 0, none⟩) n n) l.length 1 (ints l) := by
  subst hl
  refine ⟨by simp [ints], _, _, rfl, fun j u hj => ⟨F, 0, rfl, ?_⟩⟩
  simp only [World.cell?, h]
  show (ints l).toArray[0 + j]? = _
  rw [Nat.zero_add, List.getElem?_toArray, hj]
theorem NBx.cells {w W : World} {c0 c1 c2 c3 c4 c5 : Value} (h : NBx w W #[c0, c1, c2, c3, c4, c5]) : W.cell? ⟨w.heap.size, 0, none⟩ = some c0 ∧ W.cell? ⟨w.heap.size, 1, none⟩ = some c1 ∧ W.cell? ⟨w.heap.size, 2, none⟩ = some c2 ∧ W.cell? ⟨w.heap.size, 3, none⟩ = some c3 ∧ W.cell? ⟨w.heap.size, 4, none⟩ = some c4 ∧ W.cell? ⟨w.heap.size, 5, none⟩ = some c5 := by
  refine ⟨?_, ?_, ?_, ?_, ?_, ?_⟩ <;> (simp only [World.cell?, h.box]; rfl)
theorem owns_net {w : World} {B : Nat} {b l g d t : Value} {N : NetM} (h : Owns w B b l g d t N) : NetAt w (.agg #[.string N.name, b, l, g, d, t]) N := ⟨b, l, g, d, t, rfl, rowAt_of_own h.hb, rowAt_of_own h.hl, rowAt_of_own h.hg, rowAt_of_own h.hd, rowAt_of_own h.ht⟩
theorem _root_.Go.Proofs.YtakcpemboeekfadGreatDoor.Doc.Bx1.net2 {w W : World} {p : Nat} {N : NetM} {b l g d t : Value} (h : Bx1 w W p N b l g d t) : NetAt W (.agg #[.string N.name, b, l, g, d, t]) N := ⟨b, l, g, d, t, rfl, h.hb, h.hl, h.hg, h.hd, h.ht⟩
theorem answers_row {l : List Int} {code : Int} {w : World} {e : Ending} {w' : World} (h : Answers l code w e w') : ∃ a c, e = .returned (.tuple #[.slice a l.length c, .int .i64 code]) ∧ RowAt w' (.slice a l.length c) l.length 1 (ints l) ∧ Below w.heap.size w w' := by
  obtain ⟨v, rfl, hr, hb⟩ := h
  obtain ⟨a, c, rfl⟩ := rowAt_slice hr
  exact ⟨a, c, rfl, hr, hb⟩
end Go.Proofs.YtakcpemboeekfadGreatDoor.Bar
