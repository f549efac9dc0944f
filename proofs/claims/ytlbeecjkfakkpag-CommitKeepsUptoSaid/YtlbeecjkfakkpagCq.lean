/- What each unit generates, reckoned outright; which units and hours may be, by tests. -/
import Derived.Test.YtlbeecjkfakkpagC5
namespace Go.Proofs.Ytlbeecjkfakkpag
open Go.RowKit Go.Shelf

/-- The cheapest with room among the first i. -/
def pickB (us : List UnitM) (on : List Bool) (cur : List Int) : Nat → Option Nat
  | 0 => none
  | i + 1 => match us[i]? with
    | none => pickB us on cur i
    | some u => if on.getD i false = true ∧ cur.getD i 0 < u.most then (match pickB us on cur i with
        | none => some i
        | some m => if u.cost < ((us[m]?).map UnitM.cost).getD 0 then some i else some m) else pickB us on cur i
def pickI : Option Nat → Int
  | none => -1
  | some m => (m : Int)
theorem pickB_spec (us : List UnitM) (on : List Bool) (cur : List Int) : ∀ i, i ≤ us.length → Pick us on cur i (pickI (pickB us on cur i))
  | 0, _ => .inl ⟨rfl, fun j h => absurd h (Nat.not_lt_zero j)⟩
  | i + 1, hi => by
    have ih := pickB_spec us on cur i (by omega)
    obtain ⟨u, hu⟩ := unit_in (us := us) (i := i) (by omega)
    rw [pickB, hu]
    simp only
    split
    · rename_i hc
      have hr : Room us on cur i := ⟨u, hu, hc.1, hc.2⟩
      cases hp : pickB us on cur i with
      | none =>
        rw [hp] at ih
        exact ih.start hr
      | some m =>
        rw [hp] at ih
        have hm : ∃ v, us[m]? = some v := by
          rcases ih with ⟨h, _⟩ | ⟨m', h, h2, _⟩
          · have h : (m : Int) = -1 := h
            omega
          · have h : (m : Int) = (m' : Int) := h
            exact unit_in (by omega)
        obtain ⟨v, hv⟩ := hm
        simp only [hv, Option.map_some, Option.getD_some]
        split
        · rename_i hcc; exact ih.new hr hu hv hcc
        · rename_i hcc; exact ih.keep hu hv hcc
    · rename_i hc
      refine ih.skip (fun ⟨u', hu', h1, h2⟩ => hc ?_)
      rw [hu] at hu'
      cases hu'
      exact ⟨h1, h2⟩
def fillF (us : List UnitM) (on : List Bool) : Nat → List Int → Int → Option (List Int)
  | 0, cur, left => if left = 0 then some cur else none
  | f + 1, cur, left => if left = 0 then some cur else match pickB us on cur us.length with
    | none => none
    | some k => fillF us on f (cur.set k (cur.getD k 0 + min (((us[k]?).map UnitM.most).getD 0 - cur.getD k 0) left)) (left - min (((us[k]?).map UnitM.most).getD 0 - cur.getD k 0) left)
theorem fillF_spec {us : List UnitM} {on : List Bool} {need : Int} : ∀ (f : Nat) (cur : List Int) (left : Int), 0 ≤ left → left ≤ f → Fill us on need left cur → (∀ out, fillF us on f cur left = some out → Merit us on need out) ∧ (fillF us on f cur left = none → ∀ out, ¬ Merit us on need out)
  | 0, cur, left, h0, h1, hf => by
    have : left = 0 := by omega
    subst this
    rw [fillF, if_pos rfl]
    exact ⟨fun out h => by cases h; exact hf, fun h => by cases h⟩
  | f + 1, cur, left, h0, h1, hf => by
    rw [fillF]
    by_cases hz : left = 0
    · subst hz
      rw [if_pos rfl]
      exact ⟨fun out h => by cases h; exact hf, fun h => by cases h⟩
    · rw [if_neg hz]
      have hp := pickB_spec us on cur us.length (Nat.le_refl _)
      cases hk : pickB us on cur us.length with
      | none =>
        rw [hk] at hp
        exact ⟨fun out h => (by cases h), fun _ out => fill_short hf (by omega) hp.none out⟩
      | some k =>
        rw [hk] at hp
        simp only
        obtain ⟨⟨u, hu, hon, hroom⟩, hfirst⟩ := hp.first
        simp only [hu, Option.map_some, Option.getD_some]
        have hx0 : 0 < min (u.most - cur.getD k 0) left := by omega
        have hx1 : min (u.most - cur.getD k 0) left ≤ u.most - cur.getD k 0 := by omega
        have hx2 : min (u.most - cur.getD k 0) left ≤ left := by omega
        exact fillF_spec f _ _ (by omega) (by omega) (fill_more hf hu hon hroom (by omega) hx1 hfirst)
def meritF (us : List UnitM) (on : List Bool) (need : Int) : Option (List Int) :=
  if need - (leastK us on us.length).sum < 0 then none else fillF us on (need - (leastK us on us.length).sum).toNat (leastK us on us.length) (need - (leastK us on us.length).sum)
theorem meritF_spec {us : List UnitM} {on : List Bool} {need : Int} (hm : MayUs us) : (∀ out, meritF us on need = some out → Merit us on need out) ∧ (meritF us on need = none → ∀ out, ¬ Merit us on need out) := by
  unfold meritF
  split
  · rename_i h
    exact ⟨fun out h => (by cases h), fun _ out => fill_over (by omega) out⟩
  · exact fillF_spec _ _ _ (by omega) (by omega) (fill_start hm need)
/-- What an hour costs; none: it can't be. -/
def hourC (us : List UnitM) (on : List Bool) (need spare : Int) : Option Int :=
  match meritF us on need with
  | none => none
  | some out => if need + spare ≤ mostK us on us.length then some (costK us on out us.length) else none
theorem hourC_some {us : List UnitM} {on : List Bool} {need spare c : Int} (hm : MayUs us) (h : Hour us on need spare c) : hourC us on need spare = some c := by
  obtain ⟨out, h1, h2, rfl⟩ := h
  have hs := meritF_spec (on := on) (need := need) hm
  unfold hourC
  cases hf : meritF us on need with
  | none => exact absurd h1 (hs.2 hf out)
  | some o =>
    simp only
    rw [if_pos h2, (hs.1 o hf).one h1]
theorem hourC_hour {us : List UnitM} {on : List Bool} {need spare c : Int} (hm : MayUs us) (h : hourC us on need spare = some c) : Hour us on need spare c := by
  have hs := meritF_spec (on := on) (need := need) hm
  unfold hourC at h
  cases hf : meritF us on need with
  | none => rw [hf] at h; cases h
  | some o =>
    rw [hf] at h
    simp only at h
    split at h
    · rename_i hc
      cases h
      exact ⟨o, hs.1 o hf, hc, rfl⟩
    · cases h
theorem hourC_none {us : List UnitM} {on : List Bool} {need spare : Int} (hm : MayUs us) (h : ∀ c, ¬ Hour us on need spare c) : hourC us on need spare = none := by
  cases hc : hourC us on need spare with
  | none => rfl
  | some c => exact absurd (hourC_hour hm hc) (h c)
def mayB (u : UnitM) : Bool := decide (0 ≤ u.least) && decide (u.least ≤ u.most) && decide (u.most ≤ 100000) && decide (0 ≤ u.cost) && decide (u.cost ≤ 100000) && decide (0 ≤ u.start) && decide (u.start ≤ 1000000) && decide (1 ≤ u.up) && decide (u.up ≤ 3) && decide (1 ≤ u.down) && decide (u.down ≤ 3) && decide (-24 ≤ u.was) && decide (u.was ≤ 24) && decide (u.was ≠ 0)
theorem mayB_iff (u : UnitM) : mayB u = true ↔ MayU u := by
  simp only [mayB, Bool.and_eq_true, decide_eq_true_eq]
  exact ⟨fun h => ⟨by omega, by omega, by omega, by omega, by omega, by omega, by omega, by omega, by omega⟩, fun h => by have := h.a; have := h.b; have := h.c; have := h.d; have := h.e; have := h.f; have := h.g; have := h.h; have := h.i; omega⟩
def inRB (l : List Int) : Bool := l.all fun x => decide (0 ≤ x) && decide (x ≤ 400000)
def InR (l : List Int) : Prop := ∀ i, i < l.length → 0 ≤ l.getD i 0 ∧ l.getD i 0 ≤ 400000
theorem inRB_iff (l : List Int) : inRB l = true ↔ InR l := by
  rw [inRB, List.all_eq_true]
  constructor
  · intro h i hi
    have := h _ (getD_in hi).2
    simpa using this
  · intro h x hx
    obtain ⟨i, hi, rfl⟩ := List.getElem_of_mem hx
    have := h i hi
    rw [List.getD_eq_getElem?_getD, List.getElem?_eq_getElem hi] at this
    simpa using this
theorem mayUsB_iff (us : List UnitM) : us.all mayB = true ↔ MayUs us := by
  rw [List.all_eq_true]
  constructor
  · intro h i u hu
    exact (mayB_iff u).1 (h u (List.mem_of_getElem? hu))
  · intro h u hu
    obtain ⟨i, hi, rfl⟩ := List.getElem_of_mem hu
    exact (mayB_iff _).2 (h i _ (List.getElem?_eq_getElem hi))
end Go.Proofs.Ytlbeecjkfakkpag
