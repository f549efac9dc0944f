/- An hour, as the document has it: the rows that grow. -/
import Derived.Test.YtnhddmcdmcpkeajX4
namespace Go.Proofs.Ytnhddmcdmcpkeaj
open Go.RowKit Go.Shelf

theorem own_far {W W' : World} {B n : Nat} {v s : Value} {xs : List Value} {o : Obj} (h : W.ownsRow B 3 1 v n xs) (hne : Apart v s) (hg : (W.alloc o).grownBy W' s.ownBlock) : W'.ownsRow B 3 1 v n xs := by
  have h1 := own_below h (below_al W o) (Nat.le_refl _)
  refine ⟨h1.1, ?_⟩
  rcases h1.2 with q | ⟨g, cap, cur, q3, q4, q5, q6⟩
  · exact .inl q
  · refine .inr ⟨g, cap, cur, q3, q4, (hg.block g (lt_heap q5) (fun e => ?_)).trans q5, q6⟩
    exact hne g (by rw [q3]; rfl) e.symm
theorem apart_own {W : World} {B n : Nat} {v v' s2 : Value} {xs : List Value} {o : Obj} (hap : Apart v s2) (h2 : W.ownsRow B 3 1 s2 n xs) (hat : v'.ownBlock = v.ownBlock ∨ v'.ownBlock = some (W.alloc o).heap.size) : Apart v' s2 := fun k hk h => by
  have hlt := own_lt h2 h
  rcases hat with e | e
  · exact hap k (e ▸ hk) h
  · rw [hk] at e
    have e2 := Option.some.inj e
    rw [World.size_alloc] at e2
    omega
/-- The rows of an hour, so far. -/
structure HS (w W : World) (nv sv : Value) (G : Nat) (ln lsp nx : List Int) : Prop where
  a : W.ownsRow w.heap.size 3 1 nv ln.length (ints ln)
  b : W.ownsRow w.heap.size 3 1 sv lsp.length (ints lsp)
  g : W.heap[G]? = some (.cells (ints nx).toArray 3 (0, 0))
  ap : Apart nv sv
  ga : nv.ownBlock ≠ some G
  gb : sv.ownBlock ≠ some G
  sG : w.heap.size ≤ G
  bel : Below w.heap.size w W
section
variable {w W W' : World} {nv sv : Value} {G : Nat} {ln lsp nx : List Int}
theorem HS.more (h : HS w W nv sv G ln lsp nx) (hb : Below W.heap.size W W') : HS w W' nv sv G ln lsp nx :=
  ⟨own_below h.a hb (Nat.le_refl _), own_below h.b hb (Nat.le_refl _), (hb.block G (lt_heap h.g)).trans h.g, h.ap, h.ga, h.gb, h.sG, h.bel.trans (hb.mono h.bel.size)⟩
theorem new_not {v v' : Value} {o : Obj} (hg : G < W.heap.size) (h : v.ownBlock ≠ some G) (hat : v'.ownBlock = v.ownBlock ∨ v'.ownBlock = some (W.alloc o).heap.size) : v'.ownBlock ≠ some G := fun e => by
  rcases hat with q | q
  · exact h (q ▸ e)
  · rw [e] at q
    have := Option.some.inj q
    rw [World.size_alloc] at this
    omega
theorem HS.growA {x : Int} {v' : Value} {o : Obj} (h : HS w W nv sv G ln lsp nx) (hown : W'.ownsRow w.heap.size 3 1 v' (ln.length + 1) (ints ln ++ [.int .i64 x])) (hg : (W.alloc o).grownBy W' nv.ownBlock) (hat : v'.ownBlock = nv.ownBlock ∨ v'.ownBlock = some (W.alloc o).heap.size) : HS w W' v' sv G (ln ++ [x]) lsp nx :=
  ⟨own_snoc (f := Value.int .i64) hown, own_far h.b (fun k a b => h.ap k b a) hg, (hg.block G (lt_heap ((alloc_old W o (lt_heap h.g)).trans h.g)) (fun e => h.ga e.symm)).trans ((alloc_old W o (lt_heap h.g)).trans h.g), apart_own h.ap h.b hat, new_not (lt_heap h.g) h.ga hat, h.gb, h.sG, (h.bel.trans ((below_al W o).mono h.bel.size)).grown hg (Nat.le_trans h.bel.size (below_al W o).size) (own_at h.a)⟩
theorem HS.growB {x : Int} {v' : Value} {o : Obj} (h : HS w W nv sv G ln lsp nx) (hown : W'.ownsRow w.heap.size 3 1 v' (lsp.length + 1) (ints lsp ++ [.int .i64 x])) (hg : (W.alloc o).grownBy W' sv.ownBlock) (hat : v'.ownBlock = sv.ownBlock ∨ v'.ownBlock = some (W.alloc o).heap.size) : HS w W' nv v' G ln (lsp ++ [x]) nx :=
  ⟨own_far h.a h.ap hg, own_snoc (f := Value.int .i64) hown, (hg.block G (lt_heap ((alloc_old W o (lt_heap h.g)).trans h.g)) (fun e => h.gb e.symm)).trans ((alloc_old W o (lt_heap h.g)).trans h.g), fun k hk h2 => apart_own (fun k a b => h.ap k b a) h.a hat k h2 hk, h.ga, new_not (lt_heap h.g) h.gb hat, h.sG, (h.bel.trans ((below_al W o).mono h.bel.size)).grown hg (Nat.le_trans h.bel.size (below_al W o).size) (own_at h.b)⟩
theorem own_butX {B n : Nat} {v : Value} {xs : List Value} (h : W.ownsRow B 3 1 v n xs) (hne : v.ownBlock ≠ some G) (j : Nat) (x : Value) : (W.setCell ⟨G, j, none⟩ x).ownsRow B 3 1 v n xs := by
  refine ⟨h.1, ?_⟩
  rcases h.2 with q | ⟨g, cap, cur, q3, q4, q5, q6⟩
  · exact .inl q
  · exact .inr ⟨g, cap, cur, q3, q4, (Below.heap_setCell _ _ _ g (fun e => hne (by rw [q3]; show some g = some G; rw [show g = G from e]))).trans q5, q6⟩
theorem HS.set (h : HS w W nv sv G ln lsp nx) (j : Nat) (x : Int) : HS w (W.setCell ⟨G, j, none⟩ (.int .i64 x)) nv sv G ln lsp (nx.set j x) :=
  ⟨own_butX h.a h.ga j _, own_butX h.b h.gb j _, by rw [set_any h.g j (.int .i64 x), List.setIfInBounds_toArray]; unfold ints; rw [List.map_set], h.ap, h.ga, h.gb, h.sG, h.bel.setCell (p := ⟨G, j, none⟩) h.sG _⟩
end
/-- The document's words for a release that may not be. -/
theorem shut_iff {k : LakeM} {f r : Int} : (withinB r 0 (freeOf k f) = true) ↔ (¬ r < 0 ∧ ¬ k.turb < r ∧ ¬ f - r < k.least) := by
  unfold withinB freeOf
  simp only [Bool.and_eq_true, decide_eq_true_eq]
  split <;> omega
theorem lev_doc {k : LakeM} {f r : Int} : levOf k f r = (f - r) - (if k.most < f - r then f - r - k.most else 0) ∧ spOf k f r = (if k.most < f - r then f - r - k.most else 0) := by
  unfold spOf levOf
  split <;> omega
end Go.Proofs.Ytnhddmcdmcpkeaj
