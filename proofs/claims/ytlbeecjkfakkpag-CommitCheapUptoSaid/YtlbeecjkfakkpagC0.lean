/- Units that may be, and what each generates, as plain words: there is at most one such list. -/
import Derived.Test.YtlbeecjkfakkpagB0
namespace Go.Proofs.Ytlbeecjkfakkpag
open Go.RowKit Go.Shelf

structure UnitM where
  least : Int
  most : Int
  cost : Int
  start : Int
  up : Int
  down : Int
  was : Int
def UnitM.cells (u : UnitM) : List Value := [.int .i64 u.least, .int .i64 u.most, .int .i64 u.cost, .int .i64 u.start, .int .i64 u.up, .int .i64 u.down, .int .i64 u.was]
/-- P9.1. -/
structure MayU (u : UnitM) : Prop where
  a : 0 ≤ u.least
  b : u.least ≤ u.most
  c : u.most ≤ 100000
  d : 0 ≤ u.cost ∧ u.cost ≤ 100000
  e : 0 ≤ u.start ∧ u.start ≤ 1000000
  f : 1 ≤ u.up ∧ u.up ≤ 3
  g : 1 ≤ u.down ∧ u.down ≤ 3
  h : -24 ≤ u.was ∧ u.was ≤ 24
  i : u.was ≠ 0
def MayUs (us : List UnitM) : Prop := ∀ (i : Nat) (u : UnitM), us[i]? = some u → MayU u
/-- Who comes first. -/
def Ahead (us : List UnitM) (i j : Nat) : Prop := ∃ u v, us[i]? = some u ∧ us[j]? = some v ∧ (u.cost < v.cost ∨ (u.cost = v.cost ∧ i < j))
/-- What each generates, so far: so much is left. -/
structure Fill (us : List UnitM) (on : List Bool) (need left : Int) (out : List Int) : Prop where
  len : out.length = us.length
  off : ∀ i, on.getD i false = false → out.getD i 0 = 0
  lo : ∀ i u, us[i]? = some u → on.getD i false = true → u.least ≤ out.getD i 0 ∧ out.getD i 0 ≤ u.most
  sum : out.sum + left = need
  first : ∀ i j u v, us[i]? = some u → us[j]? = some v → on.getD i false = true → on.getD j false = true → Ahead us i j → v.least < out.getD j 0 → out.getD i 0 = u.most
/-- P9.2. -/
def Merit (us : List UnitM) (on : List Bool) (need : Int) (out : List Int) : Prop := Fill us on need 0 out
theorem sum_mono : ∀ (a b : List Int), a.length = b.length → (∀ i, a.getD i 0 ≤ b.getD i 0) → a.sum ≤ b.sum
  | [], [], _, _ => Int.le_refl _
  | x :: a, y :: b, hl, h => by
    have h0 : x ≤ y := h 0
    have := sum_mono a b (by simpa using hl) (fun i => h (i + 1))
    simp only [List.sum_cons]
    omega
theorem sum_same : ∀ (a b : List Int), a.length = b.length → (∀ i, a.getD i 0 ≤ b.getD i 0) → a.sum = b.sum → a = b
  | [], [], _, _, _ => rfl
  | x :: a, y :: b, hl, h, hs => by
    have h0 : x ≤ y := h 0
    have hl' : a.length = b.length := by simpa using hl
    have h1 := sum_mono a b hl' (fun i => h (i + 1))
    simp only [List.sum_cons] at hs
    have e : x = y := by omega
    rw [e, sum_same a b hl' (fun i => h (i + 1)) (by omega)]
theorem sum_set : ∀ (a : List Int) (k : Nat) (x : Int), k < a.length → (a.set k x).sum = a.sum - a.getD k 0 + x
  | y :: a, 0, x, _ => by simp; omega
  | y :: a, k + 1, x, h => by
    have := sum_set a k x (by simpa using h)
    simp only [List.set_cons_succ, List.sum_cons, List.getD_cons_succ]
    omega
theorem getD_set_eq {a : List Int} {k : Nat} {x : Int} (h : k < a.length) : (a.set k x).getD k 0 = x := by
  rw [List.getD_eq_getElem?_getD, List.getElem?_set_self h]; rfl
theorem getD_set_ne {a : List Int} {k i : Nat} {x : Int} (h : k ≠ i) : (a.set k x).getD i 0 = a.getD i 0 := by
  rw [List.getD_eq_getElem?_getD, List.getElem?_set_ne h, List.getD_eq_getElem?_getD]
theorem getD_out {a : List Int} {i : Nat} (h : a.length ≤ i) : a.getD i 0 = 0 := by
  rw [List.getD_eq_getElem?_getD, List.getElem?_eq_none h]; rfl
theorem unit_in {us : List UnitM} {i : Nat} (h : i < us.length) : ∃ u, us[i]? = some u := ⟨us[i], List.getElem?_eq_getElem h⟩
theorem Merit.one {us : List UnitM} {on : List Bool} {need : Int} {a b : List Int} (ha : Merit us on need a) (hb : Merit us on need b) : a = b := by
  have hl : a.length = b.length := ha.len.trans hb.len.symm
  have hs : a.sum = b.sum := by have := ha.sum; have := hb.sum; omega
  have key : ∀ (a b : List Int), Merit us on need a → Merit us on need b → ∀ i j, b.getD i 0 < a.getD i 0 → a.getD j 0 < b.getD j 0 → ¬ Ahead us i j := by
    intro a b ha hb i j hi hj h
    have hol : ∀ (c d : List Int), Merit us on need c → Merit us on need d → ∀ k, c.getD k 0 < d.getD k 0 → ∃ u, us[k]? = some u ∧ on.getD k false = true := by
      intro c d hc hd k hk
      have hkl : k < us.length := by
        rcases Nat.lt_or_ge k us.length with h | h
        · exact h
        · rw [getD_out (by rw [hc.len]; exact h), getD_out (by rw [hd.len]; exact h)] at hk
          omega
      obtain ⟨u, hu⟩ := unit_in hkl
      refine ⟨u, hu, ?_⟩
      by_cases ho : on.getD k false = true
      · exact ho
      · have ho' : on.getD k false = false := by simpa using ho
        rw [hc.off k ho', hd.off k ho'] at hk
        omega
    obtain ⟨u, hu, hui⟩ := hol b a hb ha i hi
    obtain ⟨v, hv, hvj⟩ := hol a b ha hb j hj
    have h1 := (ha.lo i u hu hui).2
    have h2 := (ha.lo j v hv hvj).1
    have := hb.first i j u v hu hv hui hvj h (by omega)
    omega
  by_cases h1 : ∃ j, a.getD j 0 < b.getD j 0
  · by_cases h2 : ∃ i, b.getD i 0 < a.getD i 0
    · obtain ⟨j, hj⟩ := h1
      obtain ⟨i, hi⟩ := h2
      exfalso
      have hij : i ≠ j := by intro e; rw [e] at hi; omega
      have hil : i < us.length := by
        rcases Nat.lt_or_ge i us.length with h | h
        · exact h
        · rw [getD_out (a := a) (by rw [ha.len]; exact h), getD_out (a := b) (by rw [hb.len]; exact h)] at hi
          omega
      have hjl : j < us.length := by
        rcases Nat.lt_or_ge j us.length with h | h
        · exact h
        · rw [getD_out (by rw [ha.len]; exact h), getD_out (by rw [hb.len]; exact h)] at hj
          omega
      obtain ⟨u, hu⟩ := unit_in hil
      obtain ⟨v, hv⟩ := unit_in hjl
      have k1 := key a b ha hb i j hi hj
      have k2 := key b a hb ha j i hj hi
      rcases Int.lt_trichotomy u.cost v.cost with h | h | h
      · exact k1 ⟨u, v, hu, hv, .inl h⟩
      · rcases Nat.lt_or_ge i j with h' | h'
        · exact k1 ⟨u, v, hu, hv, .inr ⟨h, h'⟩⟩
        · exact k2 ⟨v, u, hv, hu, .inr ⟨h.symm, by omega⟩⟩
      · exact k2 ⟨v, u, hv, hu, .inl h⟩
    · exact sum_same a b hl (fun i => by rcases Int.lt_or_le (b.getD i 0) (a.getD i 0) with h | h; exact absurd ⟨i, h⟩ h2; exact h) hs
  · exact (sum_same b a hl.symm (fun i => by rcases Int.lt_or_le (a.getD i 0) (b.getD i 0) with h | h; exact absurd ⟨i, h⟩ h1; exact h) hs.symm).symm
/-- Those that are on at their least. -/
def leastK (us : List UnitM) (on : List Bool) : Nat → List Int
  | 0 => List.replicate us.length 0
  | k + 1 => if on.getD k false then (leastK us on k).set k ((us[k]?.map UnitM.least).getD 0) else leastK us on k
theorem leastK_len (us : List UnitM) (on : List Bool) : ∀ k, (leastK us on k).length = us.length
  | 0 => List.length_replicate
  | k + 1 => by
    rw [leastK]
    split
    · rw [List.length_set]; exact leastK_len us on k
    · exact leastK_len us on k
theorem leastK_later (us : List UnitM) (on : List Bool) : ∀ k i, k ≤ i → (leastK us on k).getD i 0 = 0
  | 0, i, _ => by
    rw [leastK, List.getD_eq_getElem?_getD]
    by_cases h : i < us.length
    · rw [List.getElem?_replicate_of_lt h]; rfl
    · rw [List.getElem?_eq_none (by rw [List.length_replicate]; omega)]; rfl
  | k + 1, i, h => by
    rw [leastK]
    split
    · rw [getD_set_ne (by omega)]; exact leastK_later us on k i (by omega)
    · exact leastK_later us on k i (by omega)
theorem leastK_get (us : List UnitM) (on : List Bool) : ∀ k i u, i < k → us[i]? = some u → (leastK us on k).getD i 0 = if on.getD i false then u.least else 0
  | k + 1, i, u, h, hu => by
    have hil : i < us.length := (List.getElem?_eq_some_iff.1 hu).1
    rw [leastK]
    by_cases e : i = k
    · subst e
      split
      · rename_i ho
        rw [getD_set_eq (by rw [leastK_len]; exact hil), hu]
        rfl
      · exact leastK_later us on i i (Nat.le_refl _)
    · have ih := leastK_get us on k i u (by omega) hu
      split
      · rw [getD_set_ne (by omega)]; exact ih
      · exact ih
theorem least_all {us : List UnitM} {on : List Bool} (i : Nat) : (on.getD i false = false → (leastK us on us.length).getD i 0 = 0) ∧ ∀ u, us[i]? = some u → on.getD i false = true → (leastK us on us.length).getD i 0 = u.least := by
  refine ⟨fun h => ?_, fun u hu h => ?_⟩
  · by_cases hi : i < us.length
    · obtain ⟨u, hu⟩ := unit_in hi
      rw [leastK_get us on _ i u hi hu, h]; rfl
    · exact leastK_later us on _ i (by omega)
  · rw [leastK_get us on _ i u (List.getElem?_eq_some_iff.1 hu).1 hu, h]; rfl
theorem fill_start {us : List UnitM} {on : List Bool} (hm : MayUs us) (need : Int) : Fill us on need (need - (leastK us on us.length).sum) (leastK us on us.length) := by
  refine ⟨leastK_len us on _, fun i h => (least_all i).1 h, fun i u hu h => ?_, by omega, fun i j u v hu hv hi hj _ h => ?_⟩
  · rw [(least_all i).2 u hu h]
    exact ⟨Int.le_refl _, (hm i u hu).b⟩
  · rw [(least_all j).2 v hv hj] at h
    omega
/-- Too much at least. -/
theorem fill_over {us : List UnitM} {on : List Bool} {need : Int} (h : need < (leastK us on us.length).sum) (out : List Int) : ¬ Merit us on need out := fun hm => by
  have hs := hm.sum
  have := sum_mono (leastK us on us.length) out (by rw [leastK_len, hm.len]) (fun i => by
    by_cases ho : on.getD i false = true
    · by_cases hi : i < us.length
      · obtain ⟨u, hu⟩ := unit_in hi
        rw [(least_all i).2 u hu ho]
        exact (hm.lo i u hu ho).1
      · rw [leastK_later us on _ i (by omega), getD_out (by rw [hm.len]; omega)]
        omega
    · have ho' : on.getD i false = false := by simpa using ho
      rw [(least_all i).1 ho', hm.off i ho']
      omega)
  omega
/-- Too little at most. -/
theorem fill_short {us : List UnitM} {on : List Bool} {need left : Int} {cur : List Int} (hc : Fill us on need left cur) (hp : 0 < left) (hn : ∀ i u, us[i]? = some u → on.getD i false = true → ¬ cur.getD i 0 < u.most) (out : List Int) : ¬ Merit us on need out := fun hm => by
  have hs := hm.sum
  have hs' := hc.sum
  have := sum_mono out cur (by rw [hc.len, hm.len]) (fun i => by
    by_cases ho : on.getD i false = true
    · by_cases hi : i < us.length
      · obtain ⟨u, hu⟩ := unit_in hi
        have h1 := (hm.lo i u hu ho).2
        have h2 := hn i u hu ho
        omega
      · rw [getD_out (by rw [hm.len]; omega), getD_out (by rw [hc.len]; omega)]
        omega
    · have ho' : on.getD i false = false := by simpa using ho
      rw [hc.off i ho', hm.off i ho']
      omega)
  omega
/-- The cheapest with room takes more. -/
theorem fill_more {us : List UnitM} {on : List Bool} {need left x : Int} {cur : List Int} {k : Nat} {u : UnitM} (hc : Fill us on need left cur) (hu : us[k]? = some u) (hon : on.getD k false = true) (hr : cur.getD k 0 < u.most) (hx : 0 ≤ x) (hxm : x ≤ u.most - cur.getD k 0)
    (hk : ∀ i v, us[i]? = some v → on.getD i false = true → Ahead us i k → ¬ cur.getD i 0 < v.most) : Fill us on need (left - x) (cur.set k (cur.getD k 0 + x)) := by
  have hkl : k < cur.length := by rw [hc.len]; exact (List.getElem?_eq_some_iff.1 hu).1
  refine ⟨by rw [List.length_set]; exact hc.len, fun i h => ?_, fun i v hv h => ?_, by rw [sum_set _ _ _ hkl]; have := hc.sum; omega, fun i j v v' hv hv' hi hj ha h => ?_⟩
  · have : k ≠ i := by intro e; rw [e, h] at hon; cases hon
    rw [getD_set_ne this]; exact hc.off i h
  · by_cases e : k = i
    · subst e
      rw [getD_set_eq hkl]
      rw [hu] at hv
      cases hv
      have := (hc.lo k u hu h).1
      omega
    · rw [getD_set_ne e]; exact hc.lo i v hv h
  · have hno : ¬ Ahead us k k := by
      rintro ⟨a, b, ha, hb, h⟩
      rw [ha] at hb
      cases hb
      rcases h with h | ⟨_, h⟩ <;> omega
    by_cases ej : k = j
    · subst ej
      have e : k ≠ i := by intro e; rw [← e] at ha; exact hno ha
      rw [getD_set_ne e]
      have h1 := hk i v hv hi ha
      have h2 := (hc.lo i v hv hi).2
      omega
    · rw [getD_set_ne ej] at h
      have h1 := hc.first i j v v' hv hv' hi hj ha h
      by_cases e : k = i
      · subst e
        rw [hu] at hv
        cases hv
        omega
      · rw [getD_set_ne e]; exact h1
theorem Ahead.anti {us : List UnitM} {i j : Nat} (h : Ahead us i j) (h' : Ahead us j i) : False := by
  obtain ⟨u, v, hu, hv, h⟩ := h
  obtain ⟨v', u', hv', hu', h'⟩ := h'
  rw [hu] at hu'
  cases hu'
  rw [hv] at hv'
  cases hv'
  omega
def Room (us : List UnitM) (on : List Bool) (cur : List Int) (j : Nat) : Prop := ∃ u, us[j]? = some u ∧ on.getD j false = true ∧ cur.getD j 0 < u.most
/-- The cheapest with room among the first i; -1: there is none. -/
def Pick (us : List UnitM) (on : List Bool) (cur : List Int) (i : Nat) (kk : Int) : Prop :=
  (kk = -1 ∧ ∀ j, j < i → ¬ Room us on cur j) ∨ (∃ m : Nat, kk = (m : Int) ∧ m < i ∧ Room us on cur m ∧ ∀ j, j < i → Room us on cur j → j ≠ m → Ahead us m j)
theorem Pick.skip {us : List UnitM} {on : List Bool} {cur : List Int} {i : Nat} {kk : Int} (h : Pick us on cur i kk) (hr : ¬ Room us on cur i) : Pick us on cur (i + 1) kk := by
  rcases h with ⟨h1, h2⟩ | ⟨m, h1, h2, h3, h4⟩
  · exact .inl ⟨h1, fun j hj => by by_cases e : j = i; rw [e]; exact hr; exact h2 j (by omega)⟩
  · exact .inr ⟨m, h1, by omega, h3, fun j hj hr' hne => by
      by_cases e : j = i
      · rw [e] at hr'; exact absurd hr' hr
      · exact h4 j (by omega) hr' hne⟩
theorem Pick.start {us : List UnitM} {on : List Bool} {cur : List Int} {i : Nat} (h : Pick us on cur i (-1)) (hr : Room us on cur i) : Pick us on cur (i + 1) i := by
  rcases h with ⟨_, h2⟩ | ⟨m, h1, _⟩
  · exact .inr ⟨i, rfl, by omega, hr, fun j hj hr' hne => absurd hr' (h2 j (by omega))⟩
  · omega
theorem Pick.keep {us : List UnitM} {on : List Bool} {cur : List Int} {i m : Nat} {u v : UnitM} (h : Pick us on cur i m) (hu : us[i]? = some u) (hv : us[m]? = some v) (hc : ¬ u.cost < v.cost) : Pick us on cur (i + 1) m := by
  rcases h with ⟨h1, _⟩ | ⟨m', h1, h2, h3, h4⟩
  · omega
  · obtain rfl : m = m' := by omega
    exact .inr ⟨m, rfl, by omega, h3, fun j hj hr' hne => by
      by_cases e : j = i
      · subst e
        exact ⟨v, u, hv, hu, by omega⟩
      · exact h4 j (by omega) hr' hne⟩
theorem Pick.new {us : List UnitM} {on : List Bool} {cur : List Int} {i m : Nat} {u v : UnitM} (h : Pick us on cur i m) (hr : Room us on cur i) (hu : us[i]? = some u) (hv : us[m]? = some v) (hc : u.cost < v.cost) : Pick us on cur (i + 1) i := by
  rcases h with ⟨h1, _⟩ | ⟨m', h1, h2, h3, h4⟩
  · omega
  · obtain rfl : m = m' := by omega
    exact .inr ⟨i, rfl, by omega, hr, fun j hj hr' hne => by
      by_cases e : j = m
      · subst e
        exact ⟨u, v, hu, hv, .inl hc⟩
      · obtain ⟨v', x, hv', hx, h5⟩ := h4 j (by omega) hr' e
        rw [hv] at hv'
        cases hv'
        exact ⟨u, x, hu, hx, .inl (by omega)⟩⟩
theorem Pick.none {us : List UnitM} {on : List Bool} {cur : List Int} (h : Pick us on cur us.length (-1)) : ∀ i u, us[i]? = some u → on.getD i false = true → ¬ cur.getD i 0 < u.most := by
  rcases h with ⟨_, h2⟩ | ⟨m, h1, _⟩
  · exact fun i u hu ho hr => h2 i (List.getElem?_eq_some_iff.1 hu).1 ⟨u, hu, ho, hr⟩
  · omega
theorem Pick.first {us : List UnitM} {on : List Bool} {cur : List Int} {m : Nat} (h : Pick us on cur us.length m) : Room us on cur m ∧ ∀ i v, us[i]? = some v → on.getD i false = true → Ahead us i m → ¬ cur.getD i 0 < v.most := by
  rcases h with ⟨h1, _⟩ | ⟨m', h1, h2, h3, h4⟩
  · omega
  · obtain rfl : m = m' := by omega
    refine ⟨h3, fun i v hv ho ha hr => ?_⟩
    by_cases e : i = m
    · rw [e] at ha; exact ha.anti ha
    · exact ha.anti (h4 i (List.getElem?_eq_some_iff.1 hv).1 ⟨v, hv, ho, hr⟩ e)
end Go.Proofs.Ytlbeecjkfakkpag
