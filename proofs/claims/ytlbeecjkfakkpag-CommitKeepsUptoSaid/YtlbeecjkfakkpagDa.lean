/- The best schedule found from the end on: from any moment on, of all choices the first of the cheapest. -/
import Derived.Test.YtlbeecjkfakkpagCg
namespace Go.Proofs.Ytlbeecjkfakkpag
open Go.RowKit Go.Shelf

/-- Which are on, by a choice's number: the first unit counts most. -/
def bits : Nat → Nat → List Bool
  | 0, _ => []
  | n + 1, k => decide (k / 2 ^ n % 2 = 1) :: bits n k
theorem bits_len : ∀ (n k : Nat), (bits n k).length = n
  | 0, _ => rfl
  | n + 1, k => by rw [bits, List.length_cons, bits_len n k]
theorem bits_get : ∀ (n k i : Nat), i < n → (bits n k)[i]? = some (decide (k / 2 ^ (n - 1 - i) % 2 = 1))
  | 0, _, _, h => absurd h (Nat.not_lt_zero _)
  | n + 1, k, 0, _ => rfl
  | n + 1, k, i + 1, h => by
    rw [bits, List.getElem?_cons_succ, bits_get n k i (by omega)]
    rw [show n + 1 - 1 - (i + 1) = n - 1 - i by omega]
theorem num_cons (b : Bool) (r : List Bool) : num (b :: r) = b.toNat * 2 ^ r.length + num r := by
  rw [num, List.map_cons, val, List.length_map]; rfl
theorem num_bits : ∀ (n k : Nat), num (bits n k) = k % 2 ^ n
  | 0, k => by rw [Nat.pow_zero, Nat.mod_one]; rfl
  | n + 1, k => by
    rw [bits, num_cons, num_bits n k, bits_len]
    have h1 : k % 2 ^ (n + 1) = k % 2 ^ n + 2 ^ n * (k / 2 ^ n % 2) := by rw [Nat.pow_succ, Nat.mod_mul]
    rw [h1]
    rcases Nat.mod_two_eq_zero_or_one (k / 2 ^ n) with h | h
    · rw [h]; simp
    · rw [h]; simp; omega
theorem bits_num {r : List Bool} {n : Nat} (h : r.length = n) : bits n (num r) = r := by
  refine num_inj (by rw [bits_len, h]) ?_
  rw [num_bits, Nat.mod_eq_of_lt (by have := num_lt r; rwa [h] at this)]
theorem sched_cons (n : Nat) (r : List Bool) (rs : List (List Bool)) : sched n (r :: rs) = num r * (2 ^ n) ^ rs.length + sched n rs := by
  rw [sched, List.map_cons, val, List.length_map]; rfl
/-- What the hours from one on cost. -/
def tailV (us : List UnitM) (need spare : List Int) : Nat → List Int → List (List Bool) → Option Int
  | _, _, [] => some 0
  | h, t, r :: rs => match nextL us t r, hourC us r (need.getD h 0) (spare.getD h 0) with
    | some (t', s), some c => (tailV us need spare (h + 1) t' rs).map fun x => c + s + x
    | _, _ => none
/-- The first of the cheapest of the first k choices. -/
def bestK (thr : Nat → Option Int) : Nat → Option (Int × Nat)
  | 0 => none
  | k + 1 => match thr k, bestK thr k with
    | none, b => b
    | some c, none => some (c, k)
    | some c, some (c', k') => if c < c' then some (c, k) else some (c', k')
theorem bestK_none {thr : Nat → Option Int} : ∀ k, bestK thr k = none → ∀ j, j < k → thr j = none
  | 0, _, j, h => absurd h (Nat.not_lt_zero _)
  | k + 1, hb, j, h => by
    rw [bestK] at hb
    cases ht : thr k with
    | none =>
      rw [ht] at hb
      rcases Nat.lt_or_ge j k with h' | h'
      · exact bestK_none k hb j h'
      · rw [show j = k by omega]; exact ht
    | some c =>
      rw [ht] at hb
      cases hk : bestK thr k with
      | none => rw [hk] at hb; cases hb
      | some p =>
        rw [hk] at hb
        simp only at hb
        split at hb <;> cases hb
theorem bestK_some {thr : Nat → Option Int} : ∀ k c m, bestK thr k = some (c, m) → m < k ∧ thr m = some c ∧ ∀ j x, j < k → thr j = some x → c < x ∨ (c = x ∧ m ≤ j)
  | 0, c, m, h => by cases h
  | k + 1, c, m, hb => by
    rw [bestK] at hb
    cases ht : thr k with
    | none =>
      rw [ht] at hb
      obtain ⟨h1, h2, h3⟩ := bestK_some k c m hb
      refine ⟨by omega, h2, fun j x hj hx => ?_⟩
      rcases Nat.lt_or_ge j k with h' | h'
      · exact h3 j x h' hx
      · rw [show j = k by omega, ht] at hx; cases hx
    | some y =>
      rw [ht] at hb
      cases hk : bestK thr k with
      | none =>
        rw [hk] at hb
        cases hb
        refine ⟨by omega, ht, fun j x hj hx => ?_⟩
        rcases Nat.lt_or_ge j k with h' | h'
        · rw [bestK_none k hk j h'] at hx; cases hx
        · rw [show j = k by omega, ht] at hx; cases hx; exact .inr ⟨rfl, h'⟩
      | some p =>
        obtain ⟨c', m'⟩ := p
        rw [hk] at hb
        obtain ⟨h1, h2, h3⟩ := bestK_some k c' m' hk
        simp only at hb
        split at hb
        · rename_i hlt
          cases hb
          refine ⟨by omega, ht, fun j x hj hx => ?_⟩
          rcases Nat.lt_or_ge j k with h' | h'
          · have := h3 j x h' hx; omega
          · rw [show j = k by omega, ht] at hx; cases hx; exact .inr ⟨rfl, h'⟩
        · rename_i hlt
          cases hb
          refine ⟨by omega, h2, fun j x hj hx => ?_⟩
          rcases Nat.lt_or_ge j k with h' | h'
          · exact h3 j x h' hx
          · rw [show j = k by omega, ht] at hx; cases hx; omega
/-- From a moment on, d hours: what they cost at least, and what is chosen first. -/
def look (us : List UnitM) (need spare : List Int) : Nat → Nat → List Int → Option (Int × Nat)
  | 0, _, _ => some (0, 0)
  | d + 1, h, t => bestK (fun k => match hourC us (bits us.length k) (need.getD h 0) (spare.getD h 0), nextL us t (bits us.length k) with
    | some c, some (t', s) => (look us need spare d (h + 1) t').map fun o => c + s + o.1
    | _, _ => none) (2 ^ us.length)
def thruL (us : List UnitM) (need spare : List Int) (d h : Nat) (t : List Int) (k : Nat) : Option Int :=
  match hourC us (bits us.length k) (need.getD h 0) (spare.getD h 0), nextL us t (bits us.length k) with
  | some c, some (t', s) => (look us need spare d (h + 1) t').map fun o => c + s + o.1
  | _, _ => none
theorem look_succ (us : List UnitM) (need spare : List Int) (d h : Nat) (t : List Int) : look us need spare (d + 1) h t = bestK (thruL us need spare d h t) (2 ^ us.length) := rfl
/-- The schedule that is told. -/
def planL (us : List UnitM) (need spare : List Int) : Nat → Nat → List Int → List (List Bool)
  | 0, _, _ => []
  | d + 1, h, t => match look us need spare (d + 1) h t with
    | none => []
    | some (_, k) => match nextL us t (bits us.length k) with
      | none => []
      | some (t', _) => bits us.length k :: planL us need spare d (h + 1) t'
theorem thruL_some {us : List UnitM} {need spare : List Int} {d h : Nat} {t : List Int} {k : Nat} {x : Int} (hx : thruL us need spare d h t k = some x) : ∃ c t' s o, hourC us (bits us.length k) (need.getD h 0) (spare.getD h 0) = some c ∧ nextL us t (bits us.length k) = some (t', s) ∧ look us need spare d (h + 1) t' = some o ∧ x = c + s + o.1 := by
  unfold thruL at hx
  split at hx
  · rename_i c t' s h1 h2
    obtain ⟨o, h3, rfl⟩ := Option.map_eq_some_iff.1 hx
    exact ⟨c, t', s, o, h1, h2, h3, rfl⟩
  · cases hx
/-- A schedule from a moment on is no better than what is told. -/
theorem look_least {us : List UnitM} {need spare : List Int} : ∀ (d h : Nat) (t : List Int) (rs : List (List Bool)) (x : Int), rs.length = d → (∀ r ∈ rs, r.length = us.length) → tailV us need spare h t rs = some x →
    ∃ c k, look us need spare d h t = some (c, k) ∧ Le c (sched us.length (planL us need spare d h t)) x (sched us.length rs)
  | 0, h, t, rs, x, hl, hr, hv => by
    have := List.length_eq_zero_iff.1 hl
    subst this
    cases hv
    exact ⟨0, 0, rfl, Le.refl _ _⟩
  | d + 1, h, t, r :: rs, x, hl, hr, hv => by
    have hrl : r.length = us.length := hr r List.mem_cons_self
    rw [tailV] at hv
    split at hv
    · rename_i t' s c h1 h2
      obtain ⟨y, hy, rfl⟩ := Option.map_eq_some_iff.1 hv
      obtain ⟨c', k', hk', hle⟩ := look_least d (h + 1) t' rs y (by simpa using hl) (fun q hq => hr q (List.mem_cons_of_mem _ hq)) hy
      have hth : thruL us need spare d h t (num r) = some (c + s + c') := by
        unfold thruL
        rw [bits_num hrl, h1, h2]
        simp only [hk', Option.map_some]
      have hnr : num r < 2 ^ us.length := by have := num_lt r; rwa [hrl] at this
      rw [look_succ]
      cases hb : bestK (thruL us need spare d h t) (2 ^ us.length) with
      | none => rw [bestK_none _ hb _ hnr] at hth; cases hth
      | some p =>
        obtain ⟨m, j⟩ := p
        obtain ⟨b1, b2, b3⟩ := bestK_some _ _ _ hb
        refine ⟨m, j, rfl, ?_⟩
        have hcmp := b3 _ _ hnr hth
        obtain ⟨c2, t2, s2, o2, e1, e2, e3, e4⟩ := thruL_some b2
        have hp : planL us need spare (d + 1) h t = bits us.length j :: planL us need spare d (h + 1) t2 := by
          rw [planL, look_succ, hb]
          simp only [e2]
        have hpl : (planL us need spare d (h + 1) t2).length = d ∧ ∀ q ∈ planL us need spare d (h + 1) t2, q.length = us.length := by
          have : ∀ (d h : Nat) (t : List Int) (o : Int × Nat), look us need spare d h t = some o → (planL us need spare d h t).length = d ∧ ∀ q ∈ planL us need spare d h t, q.length = us.length := by
            intro d
            induction d with
            | zero => intro h t o _; exact ⟨rfl, fun q hq => absurd hq List.not_mem_nil⟩
            | succ d ih =>
              intro h t o ho
              obtain ⟨m, j⟩ := o
              rw [planL, ho]
              rw [look_succ] at ho
              obtain ⟨b1, b2, b3⟩ := bestK_some _ _ _ ho
              obtain ⟨c2, t2, s2, o2, e1, e2, e3, e4⟩ := thruL_some b2
              simp only [e2]
              obtain ⟨i1, i2⟩ := ih (h + 1) t2 o2 e3
              refine ⟨by rw [List.length_cons, i1], fun q hq => ?_⟩
              rcases List.mem_cons.1 hq with rfl | hq
              · exact bits_len _ _
              · exact i2 q hq
          exact this d (h + 1) t2 o2 e3
        have hrs : rs.length = d := by simpa using hl
        have hlt : sched us.length (planL us need spare d (h + 1) t2) < (2 ^ us.length) ^ d := by
          have := val_lt _ (rows_lt hpl.2)
          rwa [List.length_map, hpl.1] at this
        rw [hp, sched_cons, sched_cons, num_bits, Nat.mod_eq_of_lt b1, hpl.1, hrs]
        unfold Le at hle ⊢
        rcases Nat.lt_or_ge j (num r) with hj | hj
        · have hmul : (j + 1) * (2 ^ us.length) ^ d ≤ num r * (2 ^ us.length) ^ d := Nat.mul_le_mul_right _ hj
          rw [Nat.add_mul, Nat.one_mul] at hmul
          rcases hcmp with hc | ⟨hc, _⟩
          · left; omega
          · rcases hle with hle | ⟨hle, hle2⟩
            · left; omega
            · right; exact ⟨by omega, by omega⟩
        · rcases hcmp with hc | ⟨hc, hc2⟩
          · left; omega
          · have hjn : j = num r := by omega
            subst hjn
            rw [bits_num hrl, h1] at e2
            cases e2
            rw [bits_num hrl, h2] at e1
            cases e1
            rw [hk'] at e3
            cases e3
            omega
    · cases hv
theorem look_tail {us : List UnitM} {need spare : List Int} : ∀ (d h : Nat) (t : List Int) (c : Int) (k : Nat), look us need spare d h t = some (c, k) → tailV us need spare h t (planL us need spare d h t) = some c ∧ (planL us need spare d h t).length = d ∧ ∀ q ∈ planL us need spare d h t, q.length = us.length
  | 0, h, t, c, k, hl => by cases hl; exact ⟨rfl, rfl, fun q hq => absurd hq List.not_mem_nil⟩
  | d + 1, h, t, c, k, hl => by
    rw [planL, hl]
    rw [look_succ] at hl
    obtain ⟨b1, b2, b3⟩ := bestK_some _ _ _ hl
    obtain ⟨c2, t2, s2, ⟨o, k2⟩, e1, e2, e3, e4⟩ := thruL_some b2
    obtain ⟨i1, i2, i3⟩ := look_tail d (h + 1) t2 o k2 e3
    simp only [e2]
    refine ⟨?_, by rw [List.length_cons, i2], fun q hq => ?_⟩
    · rw [tailV, e2, e1]
      simp only [i1, Option.map_some]
      rw [e4]
    · rcases List.mem_cons.1 hq with rfl | hq
      · exact bits_len _ _
      · exact i3 q hq
theorem tail_split {us : List UnitM} {need spare : List Int} (on : List (List Bool)) : ∀ k, k ≤ on.length → tailV us need spare 0 (staysL us) on = match valK us need spare on k with
    | .ok (t, c) => (tailV us need spare k t (on.drop k)).map fun x => c + x
    | .error _ => none
  | 0, _ => by
    rw [valK]
    simp only [List.drop_zero]
    cases tailV us need spare 0 (staysL us) on with
    | none => rfl
    | some x => simp
  | k + 1, hk => by
    rw [tail_split on k (by omega), valK]
    cases hv : valK us need spare on k with
    | error e => rfl
    | ok p =>
      obtain ⟨t, c⟩ := p
      simp only
      have hd : on.drop k = on[k] :: on.drop (k + 1) := List.drop_eq_getElem_cons (by omega)
      have hg : on.getD k [] = on[k] := by rw [List.getD_eq_getElem?_getD, List.getElem?_eq_getElem (by omega)]; rfl
      rw [hd, tailV, stepV, hg]
      cases h1 : nextL us t on[k] with
      | none => rfl
      | some p =>
        obtain ⟨t', s⟩ := p
        cases h2 : hourC us on[k] (need.getD k 0) (spare.getD k 0) with
        | none => rfl
        | some y =>
          simp only
          cases h3 : tailV us need spare (k + 1) t' (on.drop (k + 1)) with
          | none => rfl
          | some z => simp only [Option.map_some]; rw [show c + (y + s + z) = c + (s + y) + z by omega]
theorem way_tail {us : List UnitM} {need spare : List Int} {N : Nat} {s : StepM} (h : Way us need spare N s) : tailV us need spare 0 (staysL us) s.on = some s.cost := by
  rw [tail_split s.on N (by rw [h.len]; exact Nat.le_refl _), h.v]
  simp only
  rw [List.drop_eq_nil_of_le (by rw [h.len]; exact Nat.le_refl _), tailV]
  simp
theorem tail_way {us : List UnitM} {need spare : List Int} {on : List (List Bool)} {c : Int} (hr : ∀ r ∈ on, r.length = us.length) (h : tailV us need spare 0 (staysL us) on = some c) : ∃ t, Way us need spare on.length ⟨t, c, on⟩ := by
  rw [tail_split on on.length (Nat.le_refl _)] at h
  cases hv : valK us need spare on on.length with
  | error e => rw [hv] at h; cases h
  | ok p =>
    obtain ⟨t, x⟩ := p
    rw [hv] at h
    simp only [List.drop_length, tailV, Option.map_some, Option.some.injEq] at h
    exact ⟨t, rfl, hr, by rw [hv, ← h]; simp⟩
/-- What is told from the start on is the best. -/
theorem look_best {us : List UnitM} {need spare : List Int} {c : Int} {k : Nat} (h : look us need spare need.length 0 (staysL us) = some (c, k)) : ∃ t, BestIs us need spare ⟨t, c, planL us need spare need.length 0 (staysL us)⟩ := by
  obtain ⟨h1, h2, h3⟩ := look_tail _ _ _ _ _ h
  obtain ⟨t, ht⟩ := tail_way h3 h1
  refine ⟨t, by rw [h2] at ht; exact ht, fun x hx => ?_⟩
  obtain ⟨c', k', e, hle⟩ := look_least need.length 0 (staysL us) x.on x.cost hx.len hx.rows (way_tail hx)
  rw [h] at e
  cases e
  exact hle
theorem look_none {us : List UnitM} {need spare : List Int} (h : look us need spare need.length 0 (staysL us) = none) (s : StepM) : ¬ BestIs us need spare s := fun hb => by
  obtain ⟨c', k', e, _⟩ := look_least need.length 0 (staysL us) s.on s.cost hb.way.len hb.way.rows (way_tail hb.way)
  rw [h] at e
  cases e
end Go.Proofs.Ytlbeecjkfakkpag
