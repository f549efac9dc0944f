/- A network's value whose lists are the call's own. -/
import Derived.Test.YtjmadnpcadidhaaDoorA2
import Derived.Deep.RegionLaw
import Derived.Deep.RegionHeld3
import Derived.Deep.DeepCutAuto
namespace Go.Proofs.YtjmadnpcadidhaaDoor
open Go.RowKit

/-- The five lists, owned. -/
structure Owns (w : World) (B : Nat) (b l g d t : Value) (n : NetM) : Prop where
  hb : w.ownsRow B 9 1 b n.buses.length (n.buses.map Value.string)
  hl : w.ownsRow B 43 5 l n.lines.length (n.lines.flatMap LineM.cells)
  hg : w.ownsRow B 45 5 g n.gens.length (n.gens.flatMap GenM.cells)
  hd : w.ownsRow B 47 3 d n.loads.length (n.loads.flatMap LoadM.cells)
  ht : w.ownsRow B 49 4 t n.ties.length (n.ties.flatMap TieM.cells)
theorem Owns.at {w : World} {B : Nat} {b l g d t : Value} {n : NetM} (h : Owns w B b l g d t n) : NetAt w (.agg #[.string n.name, b, l, g, d, t]) n :=
  ⟨b, l, g, d, t, rfl, rowAt_of_own h.hb, rowAt_of_own h.hl, rowAt_of_own h.hg, rowAt_of_own h.hd, rowAt_of_own h.ht⟩
theorem own_below {w w' : World} {B B' e sz n : Nat} {v : Value} {xs : List Value} (h : w.ownsRow B e sz v n xs) (hB : Below B' w w') (hb : w.heap.size ≤ B') : w'.ownsRow B e sz v n xs := by
  refine ⟨h.1, ?_⟩
  rcases h.2 with h2 | ⟨g, cap, cur, h3, h4, h5, h6⟩
  · exact .inl h2
  · exact .inr ⟨g, cap, cur, h3, h4, (hB.block g (Nat.lt_of_lt_of_le (Array.getElem?_eq_some_iff.1 h5).1 hb)).trans h5, h6⟩
theorem Owns.below {w w' : World} {B B' : Nat} {b l g d t : Value} {n : NetM} (h : Owns w B b l g d t n) (hB : Below B' w w') (hb : w.heap.size ≤ B') : Owns w' B b l g d t n :=
  ⟨own_below h.hb hB hb, own_below h.hl hB hb, own_below h.hg hB hb, own_below h.hd hB hb, own_below h.ht hB hb⟩
theorem own_slice {w : World} {B e sz n : Nat} {v : Value} {xs : List Value} (h : w.ownsRow B e sz v n xs) : ∃ a cap, v = .slice a n cap := by
  rcases h.2 with ⟨rfl, rfl⟩ | ⟨g, cap, cur, rfl, _⟩
  · exact ⟨none, 0, rfl⟩
  · exact ⟨_, cap, rfl⟩
end Go.Proofs.YtjmadnpcadidhaaDoor
/- A law: an append to a list of the call's own, as one step of a region that leaves its order open. -/
namespace Go.Proofs.YtjmadnpcadidhaaDoor
open Go.RowKit

theorem step_append_own {P : Program} {ops : Array Oper} {o : Oper} {a : Act} {w : World} {K : Act → World → Prop} {Q : Exit → Act → World → Prop} {E : Prop}
    (hg : o.guard = none) (s x : Operand) (t : TypeId) (hop : o.op = Op.call { callee := Callee.builtin Builtin.append, args := #[s, x], argTypes := #[t, t] })
    (base : Nat) (e : TypeId) (i : TypeInfo) (z : Value) (size bytes : Nat) (h1 : P.underlying t = some (.slice e)) (h2 : P.info? e = some i) (h3 : i.zero = some z) (h4 : i.size = size) (h5 : i.bytes = bytes) (h6 : z.cells.size = size) (h7 : 0 < size)
    (v : Value) (n : Nat) (xs : List Value) (hs : a.eval s = v) (hown : w.ownsRow base e size v n xs)
    (ad : Addr) (m c : Nat) (news : List Value) (hx : a.eval x = .slice (some ad) m c) (hn : news.length = m * size) (hc : ∀ j u, news[j]? = some u → w.cell? (ad.add j) = some u) (h1c : ∀ u ∈ news, u.oneCell' = true)
    (b1 : n + m ≤ maxLen) (b2 : (n + m) * bytes ≤ 140737488355328) (b3 : base ≤ w.heap.size)
    (hK : ∀ v' w', w'.ownsRow base e size v' (n + m) (xs ++ news) → w.grownBy w' v.ownBlock → K (a.put o.dst v') w') :
    if Region.wanted o (yielded ops a.tmps) = true then Oper.wp P o a w K Q else E := by
  have hw : Region.wanted o (yielded ops a.tmps) = true := by simp [Region.wanted, hg]
  rw [if_pos hw]
  obtain ⟨v', w', hrun, r1, r2, _⟩ := run_append_own (P := P) w base t o.type e i z size bytes h1 h2 h3 h4 h5 h6 h7 v n xs hown ad m c news hn hc h1c b1 b2 b3
  unfold Oper.wp
  simp [execOp, hop, resolve, invoke, builtin, hs, hx, hrun, Result.andThen]
  exact hK v' w' r1 r2

/-- The row that an append may write is not block k, if that block holds cells of another type. -/
theorem own_ne {w : World} {B e sz n : Nat} {v : Value} {xs : List Value} (h : w.ownsRow B e sz v n xs) {k : Nat} {cur : Array Value} {e' : TypeId} {fz : Nat × Nat} (hk : w.heap[k]? = some (.cells cur e' fz)) (he : e ≠ e') : some k ≠ v.ownBlock := by
  rcases h.2 with ⟨rfl, _⟩ | ⟨g, cap, cur', rfl, _, hg, _⟩
  · simp [Value.ownBlock]
  · intro h2
    simp [Value.ownBlock] at h2
    subst h2
    rw [hk] at hg
    cases hg
    exact he rfl
/-- One owned list stands while another, of another type, grows. -/
theorem own_kept {w w' : World} {B B' e e' sz sz' n n' : Nat} {v v' : Value} {xs xs' : List Value} (h : w.ownsRow B e sz v n xs) (h' : w.ownsRow B' e' sz' v' n' xs') (he : e' ≠ e) (hg : w.grownBy w' v'.ownBlock) : w'.ownsRow B e sz v n xs := by
  refine h.kept hg ?_
  rcases h.2 with ⟨rfl, _⟩ | ⟨g, cap, cur', rfl, _, hg', _⟩
  · exact .inl rfl
  · exact .inr (own_ne h' hg' he)

/-- Block k is a network's box. -/
def IsBox (W : World) (k : Nat) : Prop := ∃ cur, W.heap[k]? = some (.cells cur 28 (0, 0))
theorem IsBox.new (w : World) (cur : Array Value) : IsBox (w.alloc (.cells cur 28)) w.heap.size := ⟨cur, heap_alloc_new w _⟩
theorem IsBox.below {W W' : World} {B k : Nat} (h : IsBox W k) (hB : Below B W W') (hk : k < B) : IsBox W' k := by
  obtain ⟨cur, hc⟩ := h
  exact ⟨cur, (hB.block k hk).trans hc⟩
theorem IsBox.grown {W W' : World} {k : Nat} {row : Option Nat} (h : IsBox W k) (hg : W.grownBy W' row) (hk : some k ≠ row) : IsBox W' k := by
  obtain ⟨cur, hc⟩ := h
  exact ⟨cur, (hg.block k (Array.getElem?_eq_some_iff.1 hc).1 hk).trans hc⟩
theorem IsBox.alloc {W : World} {k : Nat} (h : IsBox W k) (o : Obj) : IsBox (W.alloc o) k := by
  obtain ⟨cur, hc⟩ := h
  exact ⟨cur, (Below.heap_alloc W o k (Array.getElem?_eq_some_iff.1 hc).1).trans hc⟩
theorem IsBox.setCell {W : World} {k : Nat} (h : IsBox W k) (p : Addr) (u : Value) : IsBox (W.setCell p u) k := by
  obtain ⟨cur, hc⟩ := h
  by_cases e : k = p.block
  · subst e
    obtain ⟨hlt, hk'⟩ := Array.getElem?_eq_some_iff.1 hc
    refine ⟨if p.spot.isSome = true then cur else cur.setIfInBounds p.off u, ?_⟩
    show (W.heap.modify p.block _)[p.block]? = _
    rw [Array.getElem?_eq_getElem (by rw [Array.size_modify]; exact hlt), Array.getElem_modify_self, hk']
  · exact ⟨cur, (Below.heap_setCell W p u k e).trans hc⟩
theorem own_setBox {W : World} {B e sz n : Nat} {v : Value} {xs : List Value} (h : W.ownsRow B e sz v n xs) {p : Addr} (hk : IsBox W p.block) (he : e ≠ 28) (u : Value) : (W.setCell p u).ownsRow B e sz v n xs := by
  refine ⟨h.1, ?_⟩
  rcases h.2 with h2 | ⟨g, cap, cur, h3, h4, h5, h6⟩
  · exact .inl h2
  · refine .inr ⟨g, cap, cur, h3, h4, ?_, h6⟩
    obtain ⟨cur', hc⟩ := hk
    have hne : g ≠ p.block := by
      intro e1; subst e1; rw [hc] at h5; cases h5; exact he rfl
    exact (Below.heap_setCell W p u g hne).trans h5
theorem Owns.setBox {W : World} {B : Nat} {b l g d t : Value} {n : NetM} (h : Owns W B b l g d t n) {p : Addr} (hk : IsBox W p.block) (u : Value) : Owns (W.setCell p u) B b l g d t n :=
  ⟨own_setBox h.hb hk (by decide) u, own_setBox h.hl hk (by decide) u, own_setBox h.hg hk (by decide) u, own_setBox h.hd hk (by decide) u, own_setBox h.ht hk (by decide) u⟩
theorem own_ne_box {w : World} {B e sz n : Nat} {v : Value} {xs : List Value} (h : w.ownsRow B e sz v n xs) {k : Nat} (hk : IsBox w k) (he : e ≠ 28) : some k ≠ v.ownBlock := by
  obtain ⟨cur, hc⟩ := hk; exact own_ne h hc he
end Go.Proofs.YtjmadnpcadidhaaDoor
