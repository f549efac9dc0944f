/- What an hour costs, and how long each unit has stayed as it is, as plain words. -/
import Derived.Test.YtlbeecjkfakkpagC4
namespace Go.Proofs.Ytlbeecjkfakkpag
open Go.RowKit Go.Shelf

def mostK (us : List UnitM) (on : List Bool) : Nat → Int
  | 0 => 0
  | k + 1 => mostK us on k + (if on.getD k false then (us[k]?.map UnitM.most).getD 0 else 0)
def costK (us : List UnitM) (on : List Bool) (out : List Int) : Nat → Int
  | 0 => 0
  | k + 1 => costK us on out k + (if on.getD k false then out.getD k 0 * (us[k]?.map UnitM.cost).getD 0 else 0)
/-- What an hour costs; where it can't be, it costs nothing at all. -/
def Hour (us : List UnitM) (on : List Bool) (need spare c : Int) : Prop := ∃ out, Merit us on need out ∧ need + spare ≤ mostK us on us.length ∧ c = costK us on out us.length
theorem Hour.one {us : List UnitM} {on : List Bool} {need spare a b : Int} (ha : Hour us on need spare a) (hb : Hour us on need spare b) : a = b := by
  obtain ⟨o, h1, _, rfl⟩ := ha
  obtain ⟨o', h1', _, rfl⟩ := hb
  rw [h1.one h1']
theorem mostK_bound {us : List UnitM} (on : List Bool) (hm : MayUs us) : ∀ k, k ≤ us.length → 0 ≤ mostK us on k ∧ mostK us on k ≤ 100000 * k
  | 0, _ => ⟨Int.le_refl _, Int.le_refl _⟩
  | k + 1, h => by
    have ih := mostK_bound on hm k (by omega)
    obtain ⟨u, hu⟩ := unit_in (us := us) (i := k) (by omega)
    have h1 := (hm k u hu).a
    have h2 := (hm k u hu).b
    have h3 := (hm k u hu).c
    rw [mostK, hu]
    simp only [Option.map_some, Option.getD_some]
    split <;> omega
theorem mul_bound {x y : Int} (h1 : 0 ≤ x) (h2 : x ≤ 100000) (h3 : 0 ≤ y) (h4 : y ≤ 100000) : 0 ≤ x * y ∧ x * y ≤ 10000000000 := by
  refine ⟨Int.mul_nonneg h1 h3, ?_⟩
  have := Int.mul_le_mul h2 h4 h3 (by omega : (0 : Int) ≤ 100000)
  omega
theorem merit_bound {us : List UnitM} {on : List Bool} {need : Int} {out : List Int} (hm : MayUs us) (h : Merit us on need out) (k : Nat) : 0 ≤ out.getD k 0 ∧ out.getD k 0 ≤ 100000 := by
  by_cases ho : on.getD k false = true
  · by_cases hk : k < us.length
    · obtain ⟨u, hu⟩ := unit_in hk
      have h0 := h.lo k u hu ho
      have h1 := (hm k u hu).a
      have h3 := (hm k u hu).c
      omega
    · rw [getD_out (by rw [h.len]; omega)]; omega
  · rw [h.off k (by simpa using ho)]; omega
theorem costK_bound {us : List UnitM} {on : List Bool} {need : Int} {out : List Int} (hm : MayUs us) (hmer : Merit us on need out) : ∀ k, k ≤ us.length → 0 ≤ costK us on out k ∧ costK us on out k ≤ 10000000000 * k
  | 0, _ => ⟨Int.le_refl _, Int.le_refl _⟩
  | k + 1, h => by
    have ih := costK_bound hm hmer k (by omega)
    obtain ⟨u, hu⟩ := unit_in (us := us) (i := k) (by omega)
    have h1 := merit_bound hm hmer k
    have h2 := (hm k u hu).d
    have h3 := mul_bound h1.1 h1.2 h2.1 h2.2
    rw [costK, hu]
    simp only [Option.map_some, Option.getD_some]
    split <;> omega
/-- What is longer than three hours is three. -/
def clip (x : Int) : Int := if 3 < x then 3 else if x < -3 then -3 else x
theorem clip_bound (x : Int) : -3 ≤ clip x ∧ clip x ≤ 3 := by
  unfold clip
  split
  · omega
  · split <;> omega
def staysL (us : List UnitM) : List Int := us.map fun u => clip u.was
/-- A unit's stay, an hour on; none: too early. -/
def stayOn (u : UnitM) (x : Int) (b : Bool) : Option Int :=
  if b then (if x < 0 then (if -x < u.down then none else some 1) else some (clip (x + 1)))
  else (if 0 < x then (if x < u.up then none else some (-1)) else some (clip (x - 1)))
def startOf (u : UnitM) (x : Int) (b : Bool) : Int := if b && decide (x < 0) then u.start else 0
def nextK (us : List UnitM) (t : List Int) (on : List Bool) : Nat → Option (List Int × Int)
  | 0 => some ([], 0)
  | k + 1 => (nextK us t on k).bind fun p => (us[k]?).bind fun u => (stayOn u (t.getD k 0) (on.getD k false)).map fun y => (p.1 ++ [y], p.2 + startOf u (t.getD k 0) (on.getD k false))
/-- All units' stays, an hour on, and what it costs to turn on. -/
def nextL (us : List UnitM) (t : List Int) (on : List Bool) : Option (List Int × Int) := nextK us t on us.length
theorem nextK_none {us : List UnitM} {t : List Int} {on : List Bool} {k : Nat} (h : nextK us t on k = none) : ∀ m, k ≤ m → nextK us t on m = none := by
  intro m hm
  obtain ⟨d, rfl⟩ := Nat.exists_eq_add_of_le hm
  clear hm
  induction d with
  | zero => exact h
  | succ d ih => rw [← Nat.add_assoc, nextK, ih]; rfl
theorem stayOn_bound {u : UnitM} {x y : Int} {b : Bool} (h : stayOn u x b = some y) : -3 ≤ y ∧ y ≤ 3 := by
  unfold stayOn at h
  split at h
  · split at h
    · split at h
      · cases h
      · cases h; omega
    · cases h; exact clip_bound _
  · split at h
    · split at h
      · cases h
      · cases h; omega
    · cases h; exact clip_bound _
theorem nextK_spec {us : List UnitM} {t : List Int} {on : List Bool} (hm : MayUs us) : ∀ k, k ≤ us.length → ∀ l s, nextK us t on k = some (l, s) → l.length = k ∧ (∀ x ∈ l, -3 ≤ x ∧ x ≤ 3) ∧ 0 ≤ s ∧ s ≤ 1000000 * k
  | 0, _, l, s, h => by
    rw [nextK] at h
    cases h
    exact ⟨rfl, fun x hx => absurd hx List.not_mem_nil, by omega, by omega⟩
  | k + 1, hk, l, s, h => by
    rw [nextK] at h
    obtain ⟨⟨l0, s0⟩, h0, h⟩ := Option.bind_eq_some_iff.1 h
    obtain ⟨u, hu, h⟩ := Option.bind_eq_some_iff.1 h
    obtain ⟨y, hy, h⟩ := Option.map_eq_some_iff.1 h
    cases h
    obtain ⟨h1, h2, h3, h4⟩ := nextK_spec hm k (by omega) l0 s0 h0
    have he := (hm k u hu).e
    refine ⟨by simp [h1], fun x hx => ?_, ?_, ?_⟩
    · rcases List.mem_append.1 hx with hx | hx
      · exact h2 x hx
      · rw [List.mem_singleton.1 hx]; exact stayOn_bound hy
    · show 0 ≤ s0 + startOf u _ _
      unfold startOf
      split <;> omega
    · show s0 + startOf u _ _ ≤ _
      unfold startOf
      split <;> omega
end Go.Proofs.Ytlbeecjkfakkpag
