/- What each unit generates, in the program. -/
import Derived.Test.YtlbeecjkfakkpagE6
namespace Go.Proofs.Ytlbeecjkfakkpag
open Go.RowKit Go.Shelf

/-- The first p in order have no room left, or nothing more is needed. -/
structure Fl (us : List UnitM) (on : List Bool) (need : Int) (d : Array Nat) (p : Nat) (left : Int) (cur : List Int) : Prop where
  fill : Fill us on need left cur
  pos : 0 ≤ left
  full : 0 < left → ∀ q, q < p → ¬ Room us on cur d[q]!
theorem Fl.skip {us : List UnitM} {on : List Bool} {need left : Int} {d : Array Nat} {p : Nat} {cur : List Int} (h : Fl us on need d p left cur) (ho : on.getD d[p]! false = false) : Fl us on need d (p + 1) left cur :=
  ⟨h.fill, h.pos, fun hl q hq hr => by
    by_cases e : q = p
    · subst e
      obtain ⟨u, _, h2, _⟩ := hr
      rw [ho] at h2
      cases h2
    · exact h.full hl q (by omega) hr⟩
theorem set_same_getD {l : List Int} {i : Nat} : l.set i (l.getD i 0 + 0) = l := by
  apply List.ext_getElem?
  intro k
  by_cases e : i = k
  · subst e
    by_cases hi : i < l.length
    · rw [List.getElem?_set_self hi, List.getElem?_eq_getElem hi, List.getD_eq_getElem?_getD, List.getElem?_eq_getElem hi]
      simp
    · rw [List.getElem?_eq_none (by rw [List.length_set]; omega), List.getElem?_eq_none (by omega)]
  · rw [List.getElem?_set_ne e]
theorem Fl.step {us : List UnitM} {on : List Bool} {need left : Int} {d : Array Nat} {p : Nat} {cur : List Int} {u : UnitM} (hd : Rk (costN us) us.length us.length d) (hp : p < us.length) (h : Fl us on need d p left cur) (hu : us[d[p]!]? = some u) (ho : on.getD d[p]! false = true) :
    Fl us on need d (p + 1) (left - min left (u.most - cur.getD d[p]! 0)) (cur.set d[p]! (cur.getD d[p]! 0 + min left (u.most - cur.getD d[p]! 0))) := by
  have hlo := h.fill.lo _ _ hu ho
  have hpos := h.pos
  have hpl : d[p]! < cur.length := by rw [h.fill.len]; exact hd.less p hp
  have hx0 : 0 ≤ min left (u.most - cur.getD d[p]! 0) := by omega
  have hxl : min left (u.most - cur.getD d[p]! 0) ≤ left := by omega
  have hxm : min left (u.most - cur.getD d[p]! 0) ≤ u.most - cur.getD d[p]! 0 := by omega
  have hcase : 0 < left → left - min left (u.most - cur.getD d[p]! 0) = 0 ∨ min left (u.most - cur.getD d[p]! 0) = u.most - cur.getD d[p]! 0 := by omega
  have hzero : left = 0 → min left (u.most - cur.getD d[p]! 0) = 0 := by omega
  have hzero2 : ¬ cur.getD d[p]! 0 < u.most → min left (u.most - cur.getD d[p]! 0) = 0 := by omega
  generalize min left (u.most - cur.getD d[p]! 0) = x at *
  refine ⟨?_, by omega, ?_⟩
  · by_cases hr : cur.getD d[p]! 0 < u.most
    · by_cases hl : 0 < left
      · refine fill_more h.fill hu ho hr hx0 hxm (fun i v hv hi ha hroom => ?_)
        have hil : i < us.length := (List.getElem?_eq_some_iff.1 hv).1
        obtain ⟨q, hq, hqi⟩ := hd.all i hil
        have hah := ha.ah
        rw [← hqi] at hah
        rcases Nat.lt_trichotomy q p with hlt | heq | hgt
        · exact h.full hl q hlt ⟨v, by rw [hqi]; exact hv, by rw [hqi]; exact hi, by rw [hqi]; exact hroom⟩
        · subst heq; exact hah.irrefl
        · exact hah.asymm (hd.ord p q hgt hq)
      · have := hzero (by omega)
        subst this
        rw [set_same_getD, Int.sub_zero]
        exact h.fill
    · have := hzero2 hr
      subst this
      rw [set_same_getD, Int.sub_zero]
      exact h.fill
  · intro hl q hq hroom
    obtain ⟨v, hv, hon, hr⟩ := hroom
    by_cases e : q = p
    · subst e
      rw [getD_set_eq hpl] at hr
      rw [hu] at hv
      cases hv
      rcases hcase (by omega) with h1 | h1
      · omega
      · omega
    · have hne : d[p]! ≠ d[q]! := fun he => by
        rcases Nat.lt_or_ge p q with h1 | h1
        · have := hd.ord p q h1 (by omega)
          rw [he] at this
          exact this.irrefl
        · have := hd.ord q p (by omega) hp
          rw [he] at this
          exact this.irrefl
      rw [getD_set_ne hne] at hr
      exact h.full (by omega) q (by omega) ⟨v, hv, hon, hr⟩
theorem Fl.done {us : List UnitM} {on : List Bool} {need left : Int} {d : Array Nat} {cur : List Int} (hd : Rk (costN us) us.length us.length d) (h : Fl us on need d us.length left cur) : (left = 0 → Merit us on need cur) ∧ (0 < left → ∀ out, ¬ Merit us on need out) := by
  refine ⟨fun e => by subst e; exact h.fill, fun hl out => fill_short h.fill hl (fun i u hu ho hr => ?_) out⟩
  obtain ⟨q, hq, hqi⟩ := hd.all i (List.getElem?_eq_some_iff.1 hu).1
  exact h.full hl q hq ⟨u, by rw [hqi]; exact hu, by rw [hqi]; exact ho, by rw [hqi]; exact hr⟩
end Go.Proofs.Ytlbeecjkfakkpag
