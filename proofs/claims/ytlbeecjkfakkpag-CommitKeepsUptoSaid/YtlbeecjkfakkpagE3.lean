/- The order in which units are asked for more: sorted by their costs, those of one cost as they stand. -/
import Derived.Test.YtlbeecjkfakkpagE2
import Derived.Sort.Row
namespace Go.Proofs.Ytlbeecjkfakkpag
open Go.RowKit Go.Shelf

def costN (us : List UnitM) (i : Nat) : Int := ((us[i]?).map UnitM.cost).getD 0
/-- Who comes first, by places alone. -/
def Ah (c : Nat → Int) (i j : Nat) : Prop := c i < c j ∨ (c i = c j ∧ i < j)
theorem Ah.trans {c : Nat → Int} {i j k : Nat} (h : Ah c i j) (h' : Ah c j k) : Ah c i k := by unfold Ah at *; omega
theorem Ah.irrefl {c : Nat → Int} {i : Nat} (h : Ah c i i) : False := by unfold Ah at h; omega
theorem Ah.asymm {c : Nat → Int} {i j : Nat} (h : Ah c i j) (h' : Ah c j i) : False := by unfold Ah at *; omega
theorem Ahead.ah {us : List UnitM} {i j : Nat} (h : Ahead us i j) : Ah (costN us) i j := by
  obtain ⟨u, v, h1, h2, h3⟩ := h
  unfold Ah costN
  rw [h1, h2]
  exact h3
def ltC (c : Nat → Int) (x y : Nat) : Bool := decide (c x < c y)
/-- The first m places are in order, the others stand as they stood. -/
structure Rk (c : Nat → Int) (n m : Nat) (d : Array Nat) : Prop where
  size : d.size = n
  ord : ∀ p q, p < q → q < m → Ah c d[p]! d[q]!
  less : ∀ p, p < m → d[p]! < m
  all : ∀ v, v < m → ∃ p, p < m ∧ d[p]! = v
  rest : ∀ p, m ≤ p → p < n → d[p]! = p
/-- One more is being put among them: it stands at j. -/
structure RkI (c : Nat → Int) (n i j : Nat) (d : Array Nat) : Prop where
  size : d.size = n
  ord : ∀ p q, p < q → q ≤ i → p ≠ j → q ≠ j → Ah c d[p]! d[q]!
  here : d[j]! = i
  later : ∀ q, j < q → q ≤ i → Ah c i d[q]!
  less : ∀ p, p ≤ i → p ≠ j → d[p]! < i
  all : ∀ v, v < i → ∃ p, p ≤ i ∧ p ≠ j ∧ d[p]! = v
  rest : ∀ p, i < p → p < n → d[p]! = p
theorem swp_get (d : Array Nat) (j p : Nat) (hj : j + 1 < d.size) : (Go.Sort.swp d (j + 1) j)[p]! = if p = j then d[j + 1]! else if p = j + 1 then d[j]! else d[p]! := by
  unfold Go.Sort.swp
  by_cases h1 : p = j
  · subst h1
    rw [if_pos rfl, Go.Sort.getElem!_set_same _ _ _ (by simp; omega)]
  · rw [if_neg h1, Go.Sort.getElem!_set_other _ _ _ _ h1]
    by_cases h2 : p = j + 1
    · subst h2
      rw [if_pos rfl, Go.Sort.getElem!_set_same _ _ _ hj]
    · rw [if_neg h2, Go.Sort.getElem!_set_other _ _ _ _ h2]
theorem RkI.step {c : Nat → Int} {n i j : Nat} {d : Array Nat} (h : RkI c n i (j + 1) d) (hji : j + 1 ≤ i) (hin : i < n) (hl : c d[j + 1]! < c d[j]!) : RkI c n i j (Go.Sort.swp d (j + 1) j) := by
  have hs : j + 1 < d.size := by rw [h.size]; omega
  have g : ∀ p, (Go.Sort.swp d (j + 1) j)[p]! = if p = j then d[j + 1]! else if p = j + 1 then d[j]! else d[p]! := fun p => swp_get d j p hs
  have gj : (Go.Sort.swp d (j + 1) j)[j]! = i := by rw [g, if_pos rfl, h.here]
  have gj1 : (Go.Sort.swp d (j + 1) j)[j + 1]! = d[j]! := by rw [g, if_neg (by omega), if_pos rfl]
  have go : ∀ p, p ≠ j → p ≠ j + 1 → (Go.Sort.swp d (j + 1) j)[p]! = d[p]! := fun p h1 h2 => by rw [g, if_neg h1, if_neg h2]
  have hdj : Ah c i d[j]! := by rw [h.here] at hl; exact .inl hl
  refine ⟨?_, ?_, gj, ?_, ?_, ?_, ?_⟩
  · unfold Go.Sort.swp; simp [h.size]
  · intro p q hpq hq hp1 hq1
    by_cases e1 : p = j + 1
    · subst e1
      rw [gj1, go q hq1 (by omega)]
      exact h.ord j q (by omega) hq (by omega) (by omega)
    · rw [go p hp1 e1]
      by_cases e2 : q = j + 1
      · subst e2
        rw [gj1]
        exact h.ord p j (by omega) (by omega) e1 (by omega)
      · rw [go q hq1 e2]
        exact h.ord p q hpq hq e1 e2
  · intro q hq hqi
    by_cases e : q = j + 1
    · subst e; rw [gj1]; exact hdj
    · rw [go q (by omega) e]; exact h.later q (by omega) hqi
  · intro p hp hpj
    by_cases e : p = j + 1
    · subst e; rw [gj1]; exact h.less j (by omega) (by omega)
    · rw [go p hpj e]; exact h.less p hp e
  · intro v hv
    obtain ⟨p, hp, hpj, hpv⟩ := h.all v hv
    by_cases e : p = j
    · exact ⟨j + 1, hji, by omega, by rw [gj1, ← e]; exact hpv⟩
    · exact ⟨p, hp, e, by rw [go p e hpj]; exact hpv⟩
  · intro p hp hpn
    rw [go p (by omega) (by omega)]
    exact h.rest p hp hpn
theorem RkI.stop {c : Nat → Int} {n i j : Nat} {d : Array Nat} (h : RkI c n i j d) (hji : j ≤ i) (hl : ∀ p, p < j → Ah c d[p]! i) : Rk c n (i + 1) d := by
  refine ⟨h.size, ?_, ?_, ?_, fun p hp hpn => h.rest p (by omega) hpn⟩
  · intro p q hpq hq
    by_cases e1 : p = j
    · subst e1; rw [h.here]; exact h.later q hpq (by omega)
    · by_cases e2 : q = j
      · subst e2; rw [h.here]; exact hl p hpq
      · exact h.ord p q hpq (by omega) e1 e2
  · intro p hp
    by_cases e : p = j
    · subst e; rw [h.here]; omega
    · have := h.less p (by omega) e; omega
  · intro v hv
    by_cases e : v = i
    · exact ⟨j, by omega, by rw [h.here, e]⟩
    · obtain ⟨p, hp, _, hpv⟩ := h.all v (by omega)
      exact ⟨p, by omega, hpv⟩
theorem insInner_rk {c : Nat → Int} {n i : Nat} (hin : i < n) : ∀ (j : Nat) (d : Array Nat), j ≤ i → RkI c n i j d → Rk c n (i + 1) (Go.Sort.insInner (ltC c) 0 j d)
  | 0, d, hj, h => by
    rw [Go.Sort.insInner]
    exact h.stop hj (fun p hp => absurd hp (Nat.not_lt_zero p))
  | j + 1, d, hj, h => by
    rw [Go.Sort.insInner]
    by_cases hl : c d[j + 1]! < c d[j]!
    · rw [if_pos (by simp [ltC, hl])]
      exact insInner_rk hin j _ (by omega) (h.step hj hin hl)
    · rw [if_neg (by simp [ltC]; omega)]
      have h1 : Ah c d[j]! i := by
        rw [h.here] at hl
        have := h.less j (by omega) (by omega)
        unfold Ah
        omega
      refine h.stop hj (fun p hp => ?_)
      by_cases e : p = j
      · subst e; exact h1
      · exact (h.ord p j (by omega) (by omega) (by omega) (by omega)).trans h1
theorem Rk.next {c : Nat → Int} {n m : Nat} {d : Array Nat} (h : Rk c n m d) (hm : m < n) : RkI c n m m d := by
  refine ⟨h.size, fun p q hpq hq hp hq' => h.ord p q hpq (by omega), h.rest m (Nat.le_refl _) hm, fun q h1 h2 => by omega, fun p hp hpm => h.less p (by omega), fun v hv => ?_, fun p hp hpn => h.rest p (by omega) hpn⟩
  obtain ⟨p, hp, hpv⟩ := h.all v hv
  exact ⟨p, by omega, by omega, hpv⟩
theorem insOuter_rk {c : Nat → Int} {n : Nat} : ∀ (k i : Nat) (d : Array Nat), n - i ≤ k → i ≤ n → Rk c n i d → Rk c n n (Go.Sort.insOuter (ltC c) 0 n i d)
  | 0, i, d, hk, hi, h => by
    rw [Go.Sort.insOuter, if_neg (by omega)]
    rw [show n = i by omega] at h ⊢
    exact h
  | k + 1, i, d, hk, hi, h => by
    rw [Go.Sort.insOuter]
    split
    · rename_i hlt
      exact insOuter_rk k (i + 1) _ (by omega) (by omega) (insInner_rk hlt i d (Nat.le_refl _) (h.next hlt))
    · rw [show n = i by omega] at h ⊢
      exact h
theorem Rk.start (c : Nat → Int) (n : Nat) (hn : 0 < n) : Rk c n 1 (Array.range n) := by
  have g : ∀ p, p < n → (Array.range n)[p]! = p := fun p hp => by rw [getElem!_pos _ p (by simpa using hp), Array.getElem_range]
  refine ⟨by simp, fun p q h1 h2 => by omega, fun p hp => by rw [g p (by omega)]; exact hp, fun v hv => ⟨v, hv, g v (by omega)⟩, fun p _ hp => g p hp⟩
theorem Rk.of {c c' : Nat → Int} {n : Nat} {d : Array Nat} (h : Rk c n n d) (hc : ∀ i, i < n → c i = c' i) : Rk c' n n d := by
  refine ⟨h.size, fun p q hpq hq => ?_, h.less, h.all, h.rest⟩
  have h1 := h.ord p q hpq hq
  have h2 := hc _ (h.less p (by omega))
  have h3 := hc _ (h.less q hq)
  unfold Ah at *
  omega
/-- Sorted, each is there, and those that come first are ahead. -/
theorem sort_rk (c : Nat → Int) (n : Nat) : Rk c n n (Go.Sort.insertionSort (ltC c) (Array.range n) 0 n) := by
  unfold Go.Sort.insertionSort
  rcases Nat.eq_zero_or_pos n with h | h
  · subst h
    rw [Go.Sort.insOuter, if_neg (by omega)]
    exact ⟨by simp, fun p q _ h => absurd h (Nat.not_lt_zero _), fun p h => absurd h (Nat.not_lt_zero _), fun p h => absurd h (Nat.not_lt_zero _), fun p _ h => absurd h (Nat.not_lt_zero _)⟩
  · exact insOuter_rk _ 1 _ (Nat.le_refl _) h (Rk.start c n h)
end Go.Proofs.Ytlbeecjkfakkpag
