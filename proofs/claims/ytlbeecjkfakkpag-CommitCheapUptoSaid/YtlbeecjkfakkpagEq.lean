/- The schedule that is told, in the program. -/
import Derived.Test.YtlbeecjkfakkpagEn
import Derived.Test.YtlbeecjkfakkpagEp
namespace Go.Proofs.Ytlbeecjkfakkpag
open Go.RowKit Go.Shelf Go.ChangeMaps

theorem keep_but {M : Nat} {W W' : World} {es : Array MapEntry} {clock e : Nat} (h : But M W W') (hm : W.heap[M]? = some (.map es clock)) : KeepE e W W' := fun k cur e1 fz1 hk _ => by
  have hne : k ≠ M := by intro e; subst e; rw [hm] at hk; cases hk
  exact h.block k (Array.getElem?_eq_some_iff.1 hk).1 hne
/-- The schedule at work. -/
structure PSt (W wr : World) (us : List UnitM) (need spare : List Int) (M A B : Nat) (av bv : Array Value) (mv : Value) (vs : List Value) (k : Nat) (done : List (List Bool)) : Prop where
  tb : TBox wr A B av bv
  but : But M W wr
  known : ∃ es clock, wr.heap[M]? = some (.map es clock) ∧ Known us need spare es.toList
  sB : W.heap.size ≤ B
  nA : A ≠ M
  nB : B ≠ M
  nAB : A ≠ B
  own : wr.ownsRow W.heap.size 23 1 mv k vs
  rows : RowsO wr vs done
theorem But.then {M : Nat} {W wr wr' : World} (h : But M W wr) (hb : Below W.heap.size wr wr') : But M W wr' :=
  ⟨hb.os.trans h.os, hb.tape.trans h.tape, hb.output.trans h.output, Nat.le_trans h.size hb.size, fun k hk hm => (hb.block k hk).trans (h.block k hk hm)⟩
theorem PSt.on {W wr : World} {us : List UnitM} {need spare : List Int} {M A B k : Nat} {av bv : Array Value} {mv : Value} {vs : List Value} {dn : List (List Bool)} {wr' : World} (h : PSt W wr us need spare M A B av bv mv vs k dn) (hb : But M wr wr') (hk : ∃ es clock, wr'.heap[M]? = some (.map es clock) ∧ Known us need spare es.toList) : PSt W wr' us need spare M A B av bv mv vs k dn := by
  obtain ⟨es, cl, hm, _⟩ := h.known
  exact ⟨⟨(hb.block A (Array.getElem?_eq_some_iff.1 h.tb.a).1 h.nA).trans h.tb.a, (hb.block B (Array.getElem?_eq_some_iff.1 h.tb.b).1 h.nB).trans h.tb.b⟩, h.but.trans hb, hk, h.sB, h.nA, h.nB, h.nAB, own_keep h.own (keep_but (e := 97) hb hm) (by decide), h.rows.keep (keep_but (e := 97) hb hm) (by decide)⟩
theorem PSt.below {W wr : World} {us : List UnitM} {need spare : List Int} {M A B k : Nat} {av bv : Array Value} {mv : Value} {vs : List Value} {dn : List (List Bool)} {wr' : World} (h : PSt W wr us need spare M A B av bv mv vs k dn) (hb : Below wr.heap.size wr wr') : PSt W wr' us need spare M A B av bv mv vs k dn := by
  obtain ⟨es, cl, hm, hk⟩ := h.known
  exact h.on (But.of hb) ⟨es, cl, (hb.block M (Array.getElem?_eq_some_iff.1 hm).1).trans hm, hk⟩
theorem PSt.app {W wr : World} {us : List UnitM} {need spare : List Int} {M A B k : Nat} {av bv : Array Value} {mv : Value} {vs : List Value} {dn : List (List Bool)} {wr' : World} {mv' x : Value} {r : List Bool} {o : Obj} (h : PSt W wr us need spare M A B av bv mv vs k dn) (hM : M < W.heap.size) (hg : (wr.alloc o).grownBy wr' mv.ownBlock) (ho : wr'.ownsRow W.heap.size 23 1 mv' (k + 1) (vs ++ [x])) (hx : BoolsO wr x r) : PSt W wr' us need spare M A B av bv mv' (vs ++ [x]) (k + 1) (dn ++ [r]) := by
  obtain ⟨es, cl, hm, hk⟩ := h.known
  have hb : Below W.heap.size wr wr' := below_app (Below.refl _ wr) h.own (Nat.le_refl _) h.but.size hg
  have hke : KeepE 23 wr wr' := (KeepE.alloc 23 wr o).trans (KeepE.grown (h.own.alloc o) hg)
  exact ⟨⟨(hke A _ _ _ h.tb.a (by decide)).trans h.tb.a, (hke B _ _ _ h.tb.b (by decide)).trans h.tb.b⟩, h.but.then hb, ⟨es, cl, (hb.block M hM).trans hm, hk⟩, h.sB, h.nA, h.nB, h.nAB, ho, (h.rows.keep hke (by decide)).snoc (own_keep hx hke (by decide))⟩
theorem PSt.setB {W wr : World} {us : List UnitM} {need spare : List Int} {M A B k : Nat} {av : Array Value} {mv : Value} {vs : List Value} {dn : List (List Bool)} {z0 z1 z2 z3 z4 x0 x1 x2 x3 x4 : Value} (h : PSt W wr us need spare M A B av #[z0, z1, z2, z3, z4] mv vs k dn) : PSt W (((((wr.setCell ⟨B, 0, none⟩ x0).setCell ⟨B, 1, none⟩ x1).setCell ⟨B, 2, none⟩ x2).setCell ⟨B, 3, none⟩ x3).setCell ⟨B, 4, none⟩ x4) us need spare M A B av #[x0, x1, x2, x3, x4] mv vs k dn := by
  obtain ⟨es, cl, hm, hk⟩ := h.known
  have hs : ∀ j, j ≠ B → (((((wr.setCell ⟨B, 0, none⟩ x0).setCell ⟨B, 1, none⟩ x1).setCell ⟨B, 2, none⟩ x2).setCell ⟨B, 3, none⟩ x3).setCell ⟨B, 4, none⟩ x4).heap[j]? = wr.heap[j]? := fun j hj => by
    rw [Below.heap_setCell _ _ _ j hj, Below.heap_setCell _ _ _ j hj, Below.heap_setCell _ _ _ j hj, Below.heap_setCell _ _ _ j hj, Below.heap_setCell _ _ _ j hj]
  have hke : KeepE 97 wr (((((wr.setCell ⟨B, 0, none⟩ x0).setCell ⟨B, 1, none⟩ x1).setCell ⟨B, 2, none⟩ x2).setCell ⟨B, 3, none⟩ x3).setCell ⟨B, 4, none⟩ x4) := fun j cur e1 fz hj he => hs j (fun e => by subst e; rw [h.tb.b] at hj; cases hj; exact he rfl)
  exact ⟨⟨(hs A h.nAB).trans h.tb.a, (set_any (set_any (set_any (set_any (set_any h.tb.b 0 _) 1 _) 2 _) 3 _) 4 _).trans rfl⟩, ((((h.but.set h.sB _).set h.sB _).set h.sB _).set h.sB _).set h.sB _, ⟨es, cl, (hs M (fun e => h.nB e.symm)).trans hm, hk⟩, h.sB, h.nA, h.nB, h.nAB, own_keep h.own hke (by decide), h.rows.keep hke (by decide)⟩
theorem PSt.srch {W wr : World} {us : List UnitM} {need spare : List Int} {M A B k : Nat} {av bv : Array Value} {mv : Value} {vs : List Value} {dn : List (List Bool)} {lv cv uv : Value} (h : PSt W wr us need spare M A B av bv mv vs k dn) (hs : Srch W us need spare lv cv uv M) : Srch wr us need spare lv cv uv M := hs.but h.but h.known
theorem plan_succ {us : List UnitM} {need spare : List Int} {d h k : Nat} {t : List Int} {c : Int} (hl : look us need spare (d + 1) h t = some (c, k)) : ∃ t' s o, nextL us t (bits us.length k) = some (t', s) ∧ look us need spare d (h + 1) t' = some o ∧ k < 2 ^ us.length ∧ planL us need spare (d + 1) h t = bits us.length k :: planL us need spare d (h + 1) t' := by
  have hl2 := hl
  rw [look_succ] at hl2
  obtain ⟨b1, b2, b3⟩ := bestK_some _ _ _ hl2
  obtain ⟨c2, t2, s2, o2, e1, e2, e3, e4⟩ := thruL_some b2
  refine ⟨t2, s2, o2, e2, e3, b1, ?_⟩
  rw [planL, hl]
  simp only [e2]
end Go.Proofs.Ytlbeecjkfakkpag
