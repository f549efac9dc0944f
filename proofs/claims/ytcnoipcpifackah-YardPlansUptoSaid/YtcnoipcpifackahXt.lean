/- The document's search: what lies in memory. -/
import Derived.Test.YtcnoipcpifackahXs
namespace Go.Proofs.Ytcnoipcpifackah
open Go.RowKit Go.Shelf

/-- Where a move leads, as the document writes it. -/
def leadI (y : YardM) (c k : Nat) : Int := match leadF y c k with
  | some t => (t : Int)
  | none => -1
theorem leadI_some {y : YardM} {c k t : Nat} (h : leadF y c k = some t) : leadI y c k = (t : Int) := by unfold leadI; rw [h]
theorem leadI_none {y : YardM} {c k : Nat} (h : leadF y c k = none) : leadI y c k = -1 := by unfold leadI; rw [h]
/-- A row of numbers that is stored into. -/
structure IntsF (w : World) (b n : Nat) (g : Nat → Int) : Prop where
  blk : ∃ cs : Array Value, w.heap[b]? = some (.cells cs 3 (0, 0)) ∧ cs.size = n ∧ ∀ c, c < n → cs[c]? = some (.int .i64 (g c))
theorem IntsF.cell {w : World} {b n : Nat} {g : Nat → Int} (h : IntsF w b n g) {c : Nat} (hc : c < n) : w.cell? ⟨b, c, none⟩ = some (.int .i64 (g c)) ∧ w.frozen? ⟨b, c, none⟩ = false := by
  obtain ⟨cs, h1, _, h3⟩ := h.blk
  exact ⟨(cells_at h1 c).trans (h3 c hc), frozen_no h1 _⟩
theorem IntsF.set {w : World} {b n : Nat} {g : Nat → Int} (h : IntsF w b n g) {c : Nat} (hc : c < n) (v : Int) : IntsF (w.setCell ⟨b, c, none⟩ (.int .i64 v)) b n (fun x => if x = c then v else g x) := by
  obtain ⟨cs, h1, h2, h3⟩ := h.blk
  refine ⟨_, set_any h1 c _, by rw [Array.size_setIfInBounds]; exact h2, fun x hx => ?_⟩
  rw [Array.getElem?_setIfInBounds]
  by_cases e : c = x
  · subst e
    rw [if_pos rfl, if_pos (by omega), if_pos rfl]
  · rw [if_neg e, if_neg (Ne.symm e)]
    exact h3 x hx
theorem IntsF.keep {w w' : World} {b n : Nat} {g : Nat → Int} (h : IntsF w b n g) (hk : w'.heap[b]? = w.heap[b]?) : IntsF w' b n g := by
  obtain ⟨cs, h1, h2, h3⟩ := h.blk
  exact ⟨cs, hk.trans h1, h2, h3⟩
theorem IntsF.below {w w' : World} {b n : Nat} {g : Nat → Int} (h : IntsF w b n g) (hb : Below w.heap.size w w') : IntsF w' b n g := by
  obtain ⟨cs, h1, h2, h3⟩ := h.blk
  exact h.keep (hb.block b (lt_heap h1))
theorem IntsF.congr {w : World} {b n : Nat} {g g' : Nat → Int} (h : IntsF w b n g) (he : ∀ c, c < n → g c = g' c) : IntsF w b n g' := by
  obtain ⟨cs, h1, h2, h3⟩ := h.blk
  exact ⟨cs, h1, h2, fun c hc => by rw [← he c hc]; exact h3 c hc⟩
theorem IntsF.of_own {w : World} {B b n : Nat} (h : w.ownsRow B 3 1 (.slice (some ⟨b, 0, none⟩) n n) n (madeCells (Value.int .i64 0).cells (n * 1)).toList) : IntsF w b n (fun _ => 0) := by
  rcases h.2 with ⟨h1, _⟩ | ⟨g, cap, cur, h1, _, h2, _, _, h4, h5⟩
  · cases h1
  · cases h1
    refine ⟨cur, h2, by omega, fun c hc => ?_⟩
    have e : cur[c]? = (cur.toList.take (n * 1))[c]? := by rw [List.getElem?_take, if_pos (by omega), Array.getElem?_toList]
    rw [e, h5, Array.getElem?_toList]
    have e2 : (madeCells (Value.int .i64 0).cells (n * 1)).size = n * 1 := by
      have := h.1
      rw [Array.length_toList] at this
      exact this
    rw [Array.getElem?_eq_getElem (by omega)]
    simp [madeCells, Value.cells, Nat.mod_one]
theorem IntsF.at_ {w : World} {b n : Nat} {g : Nat → Int} (h : IntsF w b n g) : b < w.heap.size := by
  obtain ⟨cs, h1, _, _⟩ := h.blk
  exact lt_heap h1
theorem IntsF.keepE {w w' : World} {b n e : Nat} {g : Nat → Int} (h : IntsF w b n g) (hk : KeepE e w w') (he : (3 : Nat) ≠ e) : IntsF w' b n g := by
  obtain ⟨cs, h1, h2, h3⟩ := h.blk
  exact h.keep (hk _ _ _ _ h1 he)
/-- The rows of leads, cell by cell. -/
def LeadsC (w : World) (lb n all : Nat) (y : YardM) : Prop := ∀ c, c < all → ∃ b, w.cell? ⟨lb, c, none⟩ = some (.slice (some ⟨b, 0, none⟩) n n) ∧ ∀ k, k < n → w.cell? ⟨b, k, none⟩ = some (.int .i64 (leadI y c k))
theorem LeadsC.below {w w' : World} {lb n all : Nat} {y : YardM} (h : LeadsC w lb n all y) (hb : Below w.heap.size w w') : LeadsC w' lb n all y := fun c hc => by
  obtain ⟨b, h1, h2⟩ := h c hc
  exact ⟨b, up_cell hb h1, fun k hk => up_cell hb (h2 k hk)⟩
/-- A sum of the first numbers. -/
def sumN : Nat → (Nat → Nat) → Nat
  | 0, _ => 0
  | n + 1, D => sumN n D + D n
theorem sumN_congr : ∀ (n : Nat) (D D' : Nat → Nat), (∀ c, c < n → D c = D' c) → sumN n D = sumN n D'
  | 0, _, _, _ => rfl
  | n + 1, D, D', h => by
    show sumN n D + D n = sumN n D' + D' n
    rw [sumN_congr n D D' (fun c hc => h c (by omega)), h n (by omega)]
theorem sumN_set : ∀ (n : Nat) (D : Nat → Nat) (c v : Nat), c < n → sumN n (fun x => if x = c then v else D x) + D c = sumN n D + v
  | 0, _, _, _, h => absurd h (Nat.not_lt_zero _)
  | n + 1, D, c, v, h => by
    show sumN n (fun x => if x = c then v else D x) + (if n = c then v else D n) + D c = sumN n D + D n + v
    by_cases e : n = c
    · rw [if_pos e, sumN_congr n (fun x => if x = c then v else D x) D (fun x hx => if_neg (by omega)), e]
      omega
    · rw [if_neg e]
      have := sumN_set n D c v (by omega)
      omega
def sumW (w : World) (F all : Nat) : Nat := sumN all (fun c => (intOf ((w.cell? ⟨F, c, none⟩).getD undef)).toNat)
theorem IntsF.sum {w : World} {F n : Nat} {D : Nat → Nat} (h : IntsF w F n (fun c => (D c : Int))) : sumW w F n = sumN n D := by
  unfold sumW
  refine sumN_congr _ _ _ (fun c hc => ?_)
  rw [(h.cell hc).1]
  rfl
theorem IntsF.setN {w : World} {b n : Nat} {D : Nat → Nat} (h : IntsF w b n (fun c => (D c : Int))) {c : Nat} (hc : c < n) (v : Nat) : IntsF (w.setCell ⟨b, c, none⟩ (.int .i64 (v : Int))) b n (fun x => ((if x = c then v else D x : Nat) : Int)) :=
  (h.set hc (v : Int)).congr (fun x _ => by split <;> rfl)
end Go.Proofs.Ytcnoipcpifackah
