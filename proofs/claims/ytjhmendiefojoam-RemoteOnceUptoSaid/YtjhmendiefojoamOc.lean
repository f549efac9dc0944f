/- The station hears, at the end of a line. -/
import Derived.Test.YtjhmendiefojoamOb
namespace Go.Proofs.Ytjhmendiefojoam
open Go.RowKit Go.Shelf

theorem hear_choose (l : List Bool) (S : StM) (x : MsM) (hk : x.kind = 1) : ChooseR l.length S x (hearS l S x).2.2 (hearS l S x).2.1 ∧ (hearS l S x).1 = l := by
  unfold hearS ChooseR
  rw [if_pos hk]
  by_cases h1 : x.no = S.last
  · rw [if_pos h1]
    exact ⟨.inl ⟨h1, rfl, rfl⟩, rfl⟩
  · rw [if_neg h1]
    by_cases h2 : x.no < S.last ∨ x.no < S.armed
    · rw [if_pos h2]
      exact ⟨.inr (.inl ⟨h1, h2, rfl, rfl⟩), rfl⟩
    · rw [if_neg h2]
      by_cases h3 : 0 ≤ x.pt ∧ x.pt ≤ (l.length : Int) - 1
      · rw [if_neg (fun h => h h3)]
        exact ⟨.inr (.inr (.inr ⟨by omega, by omega, h3, rfl, rfl⟩)), rfl⟩
      · rw [if_pos h3]
        exact ⟨.inr (.inr (.inl ⟨by omega, by omega, h3, rfl, rfl⟩)), rfl⟩
theorem hear_operate (l : List Bool) (S : StM) (x : MsM) (hm : mayS l.length S = true) (hk : x.kind = 3) (hn : 0 ≤ x.no) : OperR l l.length S x (hearS l S x).1 (hearS l S x).2.2 (hearS l S x).2.1 := by
  unfold hearS OperR
  rw [if_neg (by omega)]
  by_cases h1 : x.no = S.last
  · rw [if_pos h1]
    exact .inl ⟨h1, rfl, rfl, rfl⟩
  · rw [if_neg h1]
    by_cases h2 : x.no < S.last
    · rw [if_pos h2]
      exact .inr (.inl ⟨h2, rfl, rfl, rfl⟩)
    · rw [if_neg h2]
      by_cases h3 : x.no ≠ S.armed ∨ x.pt ≠ S.point ∨ x.wt ≠ S.want
      · rw [if_pos h3]
        exact .inr (.inr (.inl ⟨by omega, h3, rfl, rfl, rfl⟩))
      · rw [if_neg h3]
        have q1 : x.no = S.armed := Classical.byContradiction fun h => h3 (.inl h)
        have q2 : x.pt = S.point := Classical.byContradiction fun h => h3 (.inr (.inl h))
        have q3 : x.wt = S.want := Classical.byContradiction fun h => h3 (.inr (.inr h))
        have hb : 0 ≤ x.pt ∧ x.pt < l.length := by
          obtain ⟨_, h | ⟨_, _, h, _⟩⟩ := may_armed hm
          · omega
          · omega
        exact .inr (.inr (.inr ⟨by omega, q1, q2, q3, hb, rfl, rfl, rfl⟩))
theorem hear_len (l : List Bool) (S : StM) (x : MsM) : (hearS l S x).1.length = l.length := by
  unfold hearS
  repeat' split
  all_goals first | rfl | simp
theorem Hear_ok (S : StM) (x : MsM) (l : List Bool) (n c : Nat) (a : Option Addr) (w : World) (hr : RowAt w (.slice a n c) n 1 (l.map Value.bool)) (hln : l.length = n) (hn : n ≤ 2000000) (hm : mayS n S = true) (hk : x.kind = 1 ∨ x.kind = 3) (hno : 0 ≤ x.no ∧ x.no ≤ 1000000000) : Calls Try.prog 52 #[.agg (S.cells (.slice a n c)), .agg x.cells] w (HearO (hearS l S x).1 (hearS l S x).2.1 (replyL x (hearS l S x).2.2) 0 w) := by
  subst hln
  rcases hk with hk | hk
  · have h := hear_choose l S x hk
    exact Hear_4 S x l l.length c a w hr hn _ _ _ _ ⟨hm, hk, hno, _, ⟨h.1, h.2⟩, rfl, rfl⟩
  · have h := hear_operate l S x hm hk hno.1
    exact Hear_5 S x l l.length c a w hr hn _ _ _ _ ⟨hm, hk, hno, _, h, rfl, rfl⟩
theorem put7v {w : World} {A e : Nat} {x0 x1 x2 x3 x4 x5 x6 : Value} (h : w.heap[A]? = some (.cells #[x0, x1, x2, x3, x4, x5, x6] e (0, 0))) (v0 v1 v2 v3 v4 v5 v6 : Value) : (((((((w.setCell ⟨A, 0, none⟩ v0).setCell ⟨A, 1, none⟩ v1).setCell ⟨A, 2, none⟩ v2).setCell ⟨A, 3, none⟩ v3).setCell ⟨A, 4, none⟩ v4).setCell ⟨A, 5, none⟩ v5).setCell ⟨A, 6, none⟩ v6).heap[A]? = some (.cells #[v0, v1, v2, v3, v4, v5, v6] e (0, 0)) ∧ But A w (((((((w.setCell ⟨A, 0, none⟩ v0).setCell ⟨A, 1, none⟩ v1).setCell ⟨A, 2, none⟩ v2).setCell ⟨A, 3, none⟩ v3).setCell ⟨A, 4, none⟩ v4).setCell ⟨A, 5, none⟩ v5).setCell ⟨A, 6, none⟩ v6) := by
  refine ⟨?_, But.set (But.set (But.set (But.set (But.set (But.set (But.set (But.refl A w) _ _) _ _) _ _) _ _) _ _) _ _) _ _⟩
  exact (set_any (set_any (set_any (set_any (set_any (set_any (set_any (h) 0 _) 1 _) 2 _) 3 _) 4 _) 5 _) 6 _).trans (by simp only [List.setIfInBounds_toArray, List.set_cons_zero, List.set_cons_succ])
theorem own_putE {w w' : World} {B e sz n A e1 : Nat} {v : Value} {xs : List Value} {cur : Array Value} (h : w.ownsRow B e sz v n xs) (hA : w.heap[A]? = some (.cells cur e1 (0, 0))) (hb : But A w w') (hne : e ≠ e1) : w'.ownsRow B e sz v n xs := own_keep h (but_keep hb hA) hne
theorem WAt.putE {w w' : World} {B K A e1 : Nat} {W : Wl} {pv dv uv ov av cv : Value} {cur : Array Value} (h : WAt w B K W pv dv uv ov av cv) (hA : w.heap[A]? = some (.cells cur e1 (0, 0))) (hb : But A w w') (hne : K ≠ A) (h39 : 39 ≠ e1) (h3 : 3 ≠ e1) (h4 : 4 ≠ e1) : WAt w' B K W pv dv uv ov av cv := by
  have hk := but_keep hb hA
  exact ⟨(hb.block K (lt_heap h.cell) hne).trans h.cell, h.bk, own_keep h.pts hk h4, own_keep h.dn hk h39, own_keep h.up hk h39, own_keep h.od hk h39, own_keep h.ak hk h39, own_keep h.ac hk h3, h.adu, h.ado, h.ada, h.auo, h.aua, h.aoa⟩
end Go.Proofs.Ytjhmendiefojoam
