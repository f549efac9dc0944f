/- The search's own blocks, at work. -/
import Derived.Test.YtlbeecjkfakkpagEs
namespace Go.Proofs.Ytlbeecjkfakkpag
open Go.RowKit Go.Shelf Go.ChangeMaps

/-- Lists of numbers, each apart. -/
def NumsO (w : World) (vs : List Value) (l : List (List Int)) : Prop := vs.length = l.length ∧ ∀ (i : Nat) (b : List Int), l[i]? = some b → ∃ x, vs[i]? = some x ∧ IntsO w x b
theorem NumsO.keep {e : TypeId} {w w' : World} {vs : List Value} {l : List (List Int)} (h : NumsO w vs l) (hk : KeepE e w w') (h4 : (3 : Nat) ≠ e) : NumsO w' vs l :=
  ⟨h.1, fun i b hb => by obtain ⟨x, hx, ho⟩ := h.2 i b hb; exact ⟨x, hx, own_keep ho hk h4⟩⟩
theorem NumsO.snoc {w : World} {vs : List Value} {l : List (List Int)} {x : Value} {b : List Int} (h : NumsO w vs l) (hx : IntsO w x b) : NumsO w (vs ++ [x]) (l ++ [b]) := by
  refine ⟨by simp [h.1], fun i c hc => ?_⟩
  by_cases hi : i < l.length
  · rw [List.getElem?_append_left hi] at hc
    obtain ⟨y, hy, ho⟩ := h.2 i c hc
    exact ⟨y, by rw [List.getElem?_append_left (by rw [h.1]; exact hi)]; exact hy, ho⟩
  · by_cases he : i = l.length
    · subst he
      rw [List.getElem?_append_right (Nat.le_refl _), Nat.sub_self] at hc
      cases hc
      exact ⟨x, by rw [List.getElem?_append_right (by rw [h.1]; exact Nat.le_refl _), h.1, Nat.sub_self]; rfl, hx⟩
    · rw [List.getElem?_eq_none (by simp; omega)] at hc
      cases hc
theorem NumsO.at' {w : World} {v : Value} {vs : List Value} {l : List (List Int)} (h1 : w.ownsRow 0 24 1 v l.length vs) (h2 : NumsO w vs l) : NumsAt w v l :=
  ⟨vs, h2.1, rowAt_of_own h1, fun i b hb => by obtain ⟨x, hx, ho⟩ := h2.2 i b hb; exact ⟨x, hx, rowAt_of_own ho⟩⟩
theorem CSt.keep {e : TypeId} {w wr wr' : World} {P n k : Nat} {vs : List Value} (h : CSt w wr P n k vs) (hk : KeepE e wr wr') (h4 : (4 : Nat) ≠ e) (h23 : (23 : Nat) ≠ e) (hb : Below w.heap.size w wr') : CSt w wr' P n k vs :=
  ⟨h.len, (hk P _ _ _ h.hP h23).trans h.hP, h.sP, hb, fun j hj => by
    obtain ⟨g, h1, h2, h3⟩ := h.rows j hj
    exact ⟨g, h1, h2, (hk g _ _ _ h3 h4).trans h3⟩⟩
theorem CSt.base {W w wr : World} {P n k : Nat} {vs : List Value} (h : CSt w wr P n k vs) (hb : Below W.heap.size W w) : CSt W wr P n k vs :=
  ⟨h.len, h.hP, Nat.le_trans hb.size h.sP, hb.trans (h.bel.mono hb.size), h.rows⟩
def zero7 : Array Value := #[.slice none 0 0, .slice none 0 0, .slice none 0 0, .slice none 0 0, .slice none 0 0, .slice none 0 0, .map none]
/-- The blocks that the search has laid first. -/
structure SPre (W wr : World) (P A : Nat) (pv : Array Value) : Prop where
  hP : wr.heap[P]? = some (.cells pv 64 (0, 0))
  hA : wr.heap[A]? = some (.cells zero7 94 (0, 0))
  sA : W.heap.size ≤ A
  bel : Below W.heap.size W wr
theorem SPre.more {W wr wr' : World} {P A : Nat} {pv : Array Value} (h : SPre W wr P A pv) (hb : Below wr.heap.size wr wr') : SPre W wr' P A pv :=
  ⟨(hb.block P (Array.getElem?_eq_some_iff.1 h.hP).1).trans h.hP, (hb.block A (Array.getElem?_eq_some_iff.1 h.hA).1).trans h.hA, h.sA, h.bel.trans (hb.mono h.bel.size)⟩
/-- The blocks that the search has laid. -/
structure SBox (W wr : World) (P A S M C n : Nat) (pv sv : Array Value) (cvs : List Value) : Prop where
  pre : SPre W wr P A pv
  hS : wr.heap[S]? = some (.cells sv 94 (0, 0))
  hM : ∃ cl, wr.heap[M]? = some (.map #[] cl)
  cst : CSt W wr C n (2 ^ n) cvs
  nAS : A ≠ S
  sS : W.heap.size ≤ S
  sM : W.heap.size ≤ M
theorem SBox.more {W wr wr' : World} {P A S M C n : Nat} {pv sv : Array Value} {cvs : List Value} (h : SBox W wr P A S M C n pv sv cvs) (hb : Below wr.heap.size wr wr') : SBox W wr' P A S M C n pv sv cvs := by
  obtain ⟨cl, hm⟩ := h.hM
  exact ⟨h.pre.more hb, (hb.block S (Array.getElem?_eq_some_iff.1 h.hS).1).trans h.hS, ⟨cl, (hb.block M (Array.getElem?_eq_some_iff.1 hm).1).trans hm⟩, h.cst.more hb, h.nAS, h.sS, h.sM⟩
/-- The search at work: rows of hours that are done. -/
structure SSt (W wr : World) (P A S M C n : Nat) (pv sv : Array Value) (cvs : List Value) (uv : Value) (vs : List Value) (k : Nat) (dn : List (List Int)) : Prop where
  box : SBox W wr P A S M C n pv sv cvs
  own : wr.ownsRow W.heap.size 24 1 uv k vs
  rows : NumsO wr vs dn
theorem SSt.more {W wr wr' : World} {P A S M C n k : Nat} {pv sv : Array Value} {cvs vs : List Value} {uv : Value} {dn : List (List Int)} (h : SSt W wr P A S M C n pv sv cvs uv vs k dn) (hb : Below wr.heap.size wr wr') : SSt W wr' P A S M C n pv sv cvs uv vs k dn :=
  ⟨h.box.more hb, own_keep h.own (KeepE.below (e := 76) hb (Nat.le_refl _)) (by decide), h.rows.keep (KeepE.below (e := 76) hb (Nat.le_refl _)) (by decide)⟩
theorem map_grown {e : TypeId} {B sz n M cl : Nat} {es : Array MapEntry} {v : Value} {xs : List Value} {w w' : World} (h : w.ownsRow B e sz v n xs) (hg : w.grownBy w' v.ownBlock) (hm : w.heap[M]? = some (.map es cl)) : w'.heap[M]? = some (.map es cl) := by
  refine (hg.block M (Array.getElem?_eq_some_iff.1 hm).1 ?_).trans hm
  rcases h.2 with ⟨rfl, _⟩ | ⟨g, cap, cur', rfl, _, hg', _⟩
  · simp [Value.ownBlock]
  · simp only [Value.ownBlock, ne_eq, Option.some.injEq]
    rintro rfl
    rw [hm] at hg'
    cases hg'
theorem SSt.app {W wr : World} {P A S M C n k : Nat} {pv sv : Array Value} {cvs vs : List Value} {uv : Value} {dn : List (List Int)} {wr' : World} {uv' x : Value} {b : List Int} {o : Obj} (h : SSt W wr P A S M C n pv sv cvs uv vs k dn) (hg : (wr.alloc o).grownBy wr' uv.ownBlock) (ho : wr'.ownsRow W.heap.size 24 1 uv' (k + 1) (vs ++ [x])) (hx : IntsO wr x b) : SSt W wr' P A S M C n pv sv cvs uv' (vs ++ [x]) (k + 1) (dn ++ [b]) := by
  obtain ⟨cl, hm⟩ := h.box.hM
  have hb : Below W.heap.size wr wr' := below_app (Below.refl _ wr) h.own (Nat.le_refl _) h.box.pre.bel.size hg
  have hke : KeepE 24 wr wr' := (KeepE.alloc 24 wr o).trans (KeepE.grown (h.own.alloc o) hg)
  have hB := h.box.pre.bel.trans hb
  exact ⟨⟨⟨(hke P _ _ _ h.box.pre.hP (by decide)).trans h.box.pre.hP, (hke A _ _ _ h.box.pre.hA (by decide)).trans h.box.pre.hA, h.box.pre.sA, hB⟩, (hke S _ _ _ h.box.hS (by decide)).trans h.box.hS, ⟨cl, map_grown (h.own.alloc o) hg ((alloc_old _ _ (Array.getElem?_eq_some_iff.1 hm).1).trans hm)⟩, h.box.cst.keep hke (by decide) (by decide) hB, h.box.nAS, h.box.sS, h.box.sM⟩, ho, (h.rows.keep hke (by decide)).snoc (own_keep hx hke (by decide))⟩
theorem keep_set {w : World} {S : Nat} {sv : Array Value} {e : TypeId} (h : w.heap[S]? = some (.cells sv e (0, 0))) (j : Nat) (x : Value) : KeepE e w (w.setCell ⟨S, j, none⟩ x) := fun k cur e1 fz hk he => Below.heap_setCell _ _ _ k (fun e => by subst e; rw [h] at hk; cases hk; exact he rfl)
theorem SSt.set {W wr : World} {P A S M C n k j : Nat} {pv sv : Array Value} {cvs vs : List Value} {uv x : Value} {dn : List (List Int)} (h : SSt W wr P A S M C n pv sv cvs uv vs k dn) : SSt W (wr.setCell ⟨S, j, none⟩ x) P A S M C n pv (sv.setIfInBounds j x) cvs uv vs k dn := by
  obtain ⟨cl, hm⟩ := h.box.hM
  have hke : KeepE 94 wr (wr.setCell ⟨S, j, none⟩ x) := keep_set h.box.hS j x
  have hB := h.box.pre.bel.setCell (p := ⟨S, j, none⟩) h.box.sS x
  exact ⟨⟨⟨(hke P _ _ _ h.box.pre.hP (by decide)).trans h.box.pre.hP, (Below.heap_setCell _ _ _ A h.box.nAS).trans h.box.pre.hA, h.box.pre.sA, hB⟩, set_any h.box.hS j x, ⟨cl, (Below.heap_setCell _ _ _ M (fun e => by have e' : M = S := e; rw [e', h.box.hS] at hm; cases hm)).trans hm⟩, h.box.cst.keep hke (by decide) (by decide) hB, h.box.nAS, h.box.sS, h.box.sM⟩, own_keep h.own hke (by decide), h.rows.keep hke (by decide)⟩
/-- What the search lies on when it is answered. -/
theorem SSt.fin {W wr wr' : World} {us : List UnitM} {need spare : List Int} {P A S M C n c : Nat} {pv sv : Array Value} {cvs vs : List Value} {lv uv : Value} (h : SSt W wr P A S M C us.length pv sv cvs uv vs need.length (runsL us need spare)) (hn : n = 2 ^ us.length) (hu : UnitsAt W lv us) (hk : KeepE 94 wr wr') (hm : wr'.heap[M]? = wr.heap[M]?) (hb : Below W.heap.size W wr') : Srch wr' us need spare lv (.slice (some ⟨C, 0, none⟩) n c) uv M := by
  obtain ⟨cl, hm0⟩ := h.box.hM
  subst hn
  refine ⟨hu.below hb (Nat.le_refl _), (h.box.cst.keep hk (by decide) (by decide) hb).signs, NumsO.at' ?_ (h.rows.keep hk (by decide)), #[], cl, hm.trans hm0, ?_⟩
  · rw [runsL_len]
    exact own_base (own_keep h.own hk (by decide)) (Nat.zero_le _)
  · intro x hx
    cases hx
end Go.Proofs.Ytlbeecjkfakkpag
