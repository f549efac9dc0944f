/- For the document's Run: sizes, starts, a row made in a drawing region, two tables that grow. -/
import Derived.Test.YtnhddmcdmcpkeajX6
namespace Go.Proofs.Ytnhddmcdmcpkeaj
open Go.RowKit Go.Shelf

theorem doc_size {L : Nat} {ti tr : List (List Int)} (h : sizedB L ti = true) : sizeOk L ti tr = rowsB tr ti.length L := by
  obtain ⟨h2, h8, _⟩ := sized_iff.1 h
  unfold sizeOk rowsB
  rw [h, Bool.true_and]
  by_cases e : tr.length = ti.length
  · have h3 : sizedB L tr = tr.all fun l => decide (l.length = L) := by
      unfold sizedB
      rw [decide_eq_true h2, decide_eq_true (show tr.length ≤ 8 by omega)]
      rfl
    rw [h3, decide_eq_true e, Bool.and_true, Bool.true_and]
  · rw [decide_eq_false e, Bool.and_false, Bool.false_and]
theorem doc_size_no {L : Nat} {ti tr : List (List Int)} (h : sizedB L ti = false) : sizeOk L ti tr = false := by
  unfold sizeOk
  rw [h]
  rfl
theorem doc_starts {ls : List LakeM} {L : Nat} (hl : ls.length = L) (hL : L ≤ 2) : ls.map LakeM.start = listOf (startS ls L).l0 (startS ls L).l1 L := by
  subst hl
  match ls, hL with
  | [], _ => rfl
  | [_], _ => rfl
  | [_, _], _ => rfl
theorem zeros_list (L : Nat) (hL : L ≤ 2) : List.replicate L (0 : Int) = listOf 0 0 L := by
  have h : L = 0 ∨ L = 1 ∨ L = 2 := by omega
  rcases h with rfl | rfl | rfl <;> rfl
theorem step_make_full {P : Program} {ops : Array Oper} {o : Oper} {a : Act} {w : World} {K : Act → World → Prop} {Q : Exit → Act → World → Prop} {E : Prop}
    (hg : o.guard = none) (l c : Operand) (t : TypeId) (hop : o.op = Op.makeSlice t l c)
    (base : Nat) (e : TypeId) (i : TypeInfo) (z : Value) (size : Nat) (h1 : P.underlying t = some (.slice e)) (h2 : P.info? e = some i) (h3 : i.zero = some z) (h4 : i.size = size)
    (kl kc : IntKind) (L C : Int) (n : Nat) (hl : a.eval l = .int kl L) (hc : a.eval c = .int kc C) (hL : L = (n : Int)) (hC : C = (n : Int)) (b2 : i.bytes * n ≤ 281474976710656) (b3 : n ≤ maxLen) (b4 : base ≤ w.heap.size)
    (hK : ∀ w', w'.ownsRow base e size (.slice (some ⟨w.heap.size, 0, none⟩) n n) n (madeCells z.cells (n * size)).toList → w.grownBy w' none → K (a.put o.dst (.slice (some ⟨w.heap.size, 0, none⟩) n n)) w') :
    if Region.wanted o (yielded ops a.tmps) = true then Oper.wp P o a w K Q else E := by
  have hw : Region.wanted o (yielded ops a.tmps) = true := by simp [Region.wanted, hg]
  rw [if_pos hw]
  obtain ⟨w', hrun, r1, r2⟩ := run_make_full (P := P) w base t e i z size h1 h2 h3 h4 kl kc n b2 b3 b4
  subst hL hC
  unfold Oper.wp
  simp [execOp, hop, hl, hc, hrun, Result.andThen]
  exact hK _ r1 r2
/-- Two tables that grow. -/
structure RT (w W : World) (lv sp : Value) (tl ts : List (List Int)) : Prop where
  a : StepsAt W w.heap.size lv tl
  b : StepsAt W w.heap.size sp ts
  ap : Apart lv sp
  bel : Below w.heap.size w W
section
variable {w W W' : World} {lv sp : Value} {tl ts : List (List Int)}
theorem RT.more (h : RT w W lv sp tl ts) (hb : Below W.heap.size W W') : RT w W' lv sp tl ts := ⟨h.a.below hb, h.b.below hb, h.ap, h.bel.trans (hb.mono h.bel.size)⟩
theorem RT.growA {l : List Int} {v' ov : Value} {vals : List Value} {o : Obj} {n : Nat} (h : RT w W lv sp tl ts) (hl : vals.length = tl.length) (ho : W.ownsRow w.heap.size 39 1 lv tl.length vals) (hr : ∀ (j : Nat) (x : Value) (l : List Int), vals[j]? = some x → tl[j]? = some l → W.ownsRow w.heap.size 3 1 x l.length (ints l)) (hov : W.ownsRow w.heap.size 3 1 ov l.length (ints l)) (hown : W'.ownsRow w.heap.size 39 1 v' n (vals ++ [ov])) (hn : n = tl.length + 1) (hg : (W.alloc o).grownBy W' lv.ownBlock) (hat : v'.ownBlock = lv.ownBlock ∨ v'.ownBlock = some (W.alloc o).heap.size) : RT w W' v' sp (tl ++ [l]) ts :=
  ⟨StepsAt.more hl ho hr hov hown hn hg, (h.b.below (below_al W o)).grown (own_below ho (below_al W o) (Nat.le_refl _)) (fun k hk h2 => h.ap k h2 hk) hg, apart_new h.ap h.b hat, (h.bel.trans ((below_al W o).mono h.bel.size)).grown hg (Nat.le_trans h.bel.size (below_al W o).size) (own_at ho)⟩
theorem RT.growB {l : List Int} {v' ov : Value} {vals : List Value} {o : Obj} {n : Nat} (h : RT w W lv sp tl ts) (hl : vals.length = ts.length) (ho : W.ownsRow w.heap.size 39 1 sp ts.length vals) (hr : ∀ (j : Nat) (x : Value) (l : List Int), vals[j]? = some x → ts[j]? = some l → W.ownsRow w.heap.size 3 1 x l.length (ints l)) (hov : W.ownsRow w.heap.size 3 1 ov l.length (ints l)) (hown : W'.ownsRow w.heap.size 39 1 v' n (vals ++ [ov])) (hn : n = ts.length + 1) (hg : (W.alloc o).grownBy W' sp.ownBlock) (hat : v'.ownBlock = sp.ownBlock ∨ v'.ownBlock = some (W.alloc o).heap.size) : RT w W' lv v' tl (ts ++ [l]) :=
  ⟨(h.a.below (below_al W o)).grown (own_below ho (below_al W o) (Nat.le_refl _)) (fun k hk h2 => h.ap k hk h2) hg, StepsAt.more hl ho hr hov hown hn hg, fun k hk h2 => apart_new (fun k a b => h.ap k b a) h.a hat k h2 hk, (h.bel.trans ((below_al W o).mono h.bel.size)).grown hg (Nat.le_trans h.bel.size (below_al W o).size) (own_at ho)⟩
end
/-- A row of numbers that is not in a table's own row stays, whatever the table's row grows to. -/
theorem row_grown {w W W' : World} {sv v : Value} {n m : Nat} {xs : List Value} {l : List Int} {o : Obj} (h : W.ownsRow w.heap.size 3 1 v m (ints l)) (ho : W.ownsRow w.heap.size 39 1 sv n xs) (hg : (W.alloc o).grownBy W' sv.ownBlock) : W'.ownsRow w.heap.size 3 1 v m (ints l) := by
  have h1 := own_below h (below_al W o) (Nat.le_refl _)
  refine ⟨h1.1, ?_⟩
  rcases h1.2 with q | ⟨g, cap, cur, q3, q4, q5, q6⟩
  · exact .inl q
  · refine .inr ⟨g, cap, cur, q3, q4, (hg.block g (lt_heap q5) (fun e => ?_)).trans q5, q6⟩
    exact own_not (own_below ho (below_al W o) (Nat.le_refl _)) q5 (by decide) e.symm
end Go.Proofs.Ytnhddmcdmcpkeaj
