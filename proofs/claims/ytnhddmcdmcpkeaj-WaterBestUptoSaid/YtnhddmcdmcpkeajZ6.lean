/- Ways to stand in a row, and where each stands. -/
import Derived.Test.YtnhddmcdmcpkeajZ5
import Derived.Test.YtnhddmcdmcpkeajGB
namespace Go.Proofs.Ytnhddmcdmcpkeaj
open Go.RowKit Go.Shelf

/-- No two stand alike. -/
def WApart (nx : List Wet) : Prop := ∀ (i j : Nat) (x y : Wet), nx[i]? = some x → nx[j]? = some y → x.s = y.s → i = j
theorem put_none : ∀ {nx : List Wet} {w : Wet}, (∀ x ∈ nx, x.s ≠ w.s) → putW nx w = nx ++ [w]
  | [], _, _ => rfl
  | x :: r, w, h => by
    unfold putW
    rw [if_neg (h x (List.mem_cons_self ..)), put_none (fun y hy => h y (List.mem_cons_of_mem _ hy))]
    rfl
theorem put_over : ∀ {nx : List Wet} {w x : Wet} {j : Nat}, nx[j]? = some x → x.s = w.s → (∀ i y, i < j → nx[i]? = some y → y.s ≠ w.s) → w.over x → putW nx w = nx.set j w
  | [], _, _, _, h, _, _, _ => by simp at h
  | y :: r, w, x, 0, h, hs, _, ho => by
    simp at h
    subst h
    unfold putW
    rw [if_pos hs, if_pos ho]
    rfl
  | y :: r, w, x, j + 1, h, hs, hf, ho => by
    unfold putW
    rw [if_neg (hf 0 y (by omega) rfl), put_over (j := j) (x := x) (by simpa using h) hs (fun i z hi hz => hf (i + 1) z (by omega) (by simpa using hz)) ho]
    rfl
theorem put_keep : ∀ {nx : List Wet} {w x : Wet} {j : Nat}, nx[j]? = some x → x.s = w.s → (∀ i y, i < j → nx[i]? = some y → y.s ≠ w.s) → ¬ w.over x → putW nx w = nx
  | [], _, _, _, h, _, _, _ => by simp at h
  | y :: r, w, x, 0, h, hs, _, ho => by
    simp at h
    subst h
    unfold putW
    rw [if_pos hs, if_neg ho]
  | y :: r, w, x, j + 1, h, hs, hf, ho => by
    unfold putW
    rw [if_neg (hf 0 y (by omega) rfl), put_keep (j := j) (x := x) (by simpa using h) hs (fun i z hi hz => hf (i + 1) z (by omega) (by simpa using hz)) ho]
theorem WApart.nil : WApart [] := fun i j x y h => by simp at h
theorem WApart.first {nx : List Wet} (h : WApart nx) {w x : Wet} {j : Nat} (hj : nx[j]? = some x) (hs : x.s = w.s) : ∀ i y, i < j → nx[i]? = some y → y.s ≠ w.s := fun i y hi hy e => by
  have := h i j y x hy hj (e.trans hs.symm)
  omega
theorem WApart.more {nx : List Wet} (h : WApart nx) {w : Wet} (hw : ∀ x ∈ nx, x.s ≠ w.s) : WApart (nx ++ [w]) := fun i j x y hi hj hs => by
  have hx : ∀ {i : Nat} {x : Wet}, (nx ++ [w])[i]? = some x → (i < nx.length ∧ nx[i]? = some x) ∨ (i = nx.length ∧ x = w) := fun {i x} hi => by
    by_cases hl : i < nx.length
    · rw [List.getElem?_append_left hl] at hi
      exact .inl ⟨hl, hi⟩
    · rw [List.getElem?_append_right (by omega)] at hi
      have hlt := (List.getElem?_eq_some_iff.1 hi).1
      simp at hlt
      have e : i - nx.length = 0 := by omega
      rw [e] at hi
      simp at hi
      exact .inr ⟨by omega, hi.symm⟩
  rcases hx hi with ⟨h1, h2⟩ | ⟨h1, h2⟩ <;> rcases hx hj with ⟨h3, h4⟩ | ⟨h3, h4⟩
  · exact h i j x y h2 h4 hs
  · subst h4; exact absurd hs (hw x (List.mem_of_getElem? h2))
  · subst h2; exact absurd hs.symm (hw y (List.mem_of_getElem? h4))
  · omega
theorem WApart.set {nx : List Wet} (h : WApart nx) {w x : Wet} {k : Nat} (hk : nx[k]? = some x) (hs : x.s = w.s) : WApart (nx.set k w) := fun i j a b hi hj he => by
  have hx : ∀ {i : Nat} {a : Wet}, (nx.set k w)[i]? = some a → ∃ a', nx[i]? = some a' ∧ a'.s = a.s := fun {i a} hi => by
    rw [List.getElem?_set] at hi
    split at hi
    · next e =>
      subst e
      split at hi
      · cases hi; exact ⟨x, hk, hs⟩
      · cases hi
    · exact ⟨a, hi, rfl⟩
  obtain ⟨a', h1, h2⟩ := hx hi
  obtain ⟨b', h3, h4⟩ := hx hj
  exact h i j a' b' h1 h3 (by rw [h2, h4]; exact he)
/-- A way to stand, as its four cells tell it. -/
def WetAt (W : World) (L : Nat) (x : Wet) (c : List Value) : Prop := ∃ al cl ac cc ar cr, c = [.slice al L cl, .slice ac L cc, .int .i64 x.e, .slice ar x.t.length cr] ∧ W.ownsRow 0 3 1 (.slice al L cl) L (ints (listOf x.s.l0 x.s.l1 L)) ∧ W.ownsRow 0 3 1 (.slice ac L cc) L (ints (listOf x.s.u0 x.s.u1 L)) ∧ StepsAt W 0 (.slice ar x.t.length cr) x.t
/-- A row of its own of ways to stand. -/
def WetsAt (W : World) (B : Nat) (v : Value) (L : Nat) (xs : List Wet) : Prop := ∃ cs : List (List Value), cs.length = xs.length ∧ (∀ c ∈ cs, c.length = 4) ∧ W.ownsRow B 93 4 v xs.length cs.flatten ∧ ∀ (j : Nat) x c, xs[j]? = some x → cs[j]? = some c → WetAt W L x c
theorem WetAt.keep {W W' : World} {L e : Nat} {x : Wet} {c : List Value} (h : WetAt W L x c) (hk : KeepE e W W') (h1 : 39 ≠ e) (h2 : 3 ≠ e) : WetAt W' L x c := by
  obtain ⟨al, cl, ac, cc, ar, cr, rfl, g1, g2, g3⟩ := h
  exact ⟨al, cl, ac, cc, ar, cr, rfl, own_keep g1 hk h2, own_keep g2 hk h2, g3.keep hk h1 h2⟩
theorem WetAt.below {W W' : World} {L : Nat} {x : Wet} {c : List Value} (h : WetAt W L x c) (hb : Below W.heap.size W W') : WetAt W' L x c := by
  obtain ⟨al, cl, ac, cc, ar, cr, rfl, g1, g2, g3⟩ := h
  exact ⟨al, cl, ac, cc, ar, cr, rfl, own_below g1 hb (Nat.le_refl _), own_below g2 hb (Nat.le_refl _), g3.below hb⟩
theorem WetsAt.below {W W' : World} {B L : Nat} {v : Value} {xs : List Wet} (h : WetsAt W B v L xs) (hb : Below W.heap.size W W') : WetsAt W' B v L xs := by
  obtain ⟨cs, h1, h2, h3, h4⟩ := h
  exact ⟨cs, h1, h2, own_below h3 hb (Nat.le_refl _), fun j x c hx hc => (h4 j x c hx hc).below hb⟩
theorem WetsAt.nil (W : World) (B L : Nat) : WetsAt W B (.slice none 0 0) L [] := ⟨[], rfl, (fun _ h => by cases h), World.ownsRow_nil _ _ _ _, fun j x c hx => by simp at hx⟩
theorem WetsAt.slice {W : World} {B L : Nat} {v : Value} {xs : List Wet} (h : WetsAt W B v L xs) : ∃ a c, v = .slice a xs.length c := by
  obtain ⟨cs, _, _, h3, _⟩ := h
  exact own_slice h3
end Go.Proofs.Ytnhddmcdmcpkeaj
