/- The search for the best schedule: what it lies on; through a choice. -/
import Derived.Test.YtlbeecjkfakkpagEh
namespace Go.Proofs.Ytlbeecjkfakkpag
open Go.RowKit Go.Shelf Go.ChangeMaps

/-- All choices of so many units. -/
def choL (n : Nat) : List (List Bool) := (List.range (2 ^ n)).map (bits n)
theorem choL_len (n : Nat) : (choL n).length = 2 ^ n := by rw [choL, List.length_map, List.length_range]
theorem choL_get {n k : Nat} (hk : k < 2 ^ n) : (choL n)[k]? = some (bits n k) := by
  rw [choL, List.getElem?_map, List.getElem?_range hk]; rfl
/-- What an hour costs with a choice; never: it can't be. -/
def runV (us : List UnitM) (need spare : List Int) (h k : Nat) : Int := (hourC us (bits us.length k) (need.getD h 0) (spare.getD h 0)).getD never
def runL (us : List UnitM) (need spare : List Int) (h : Nat) : List Int := (List.range (2 ^ us.length)).map (runV us need spare h)
theorem runL_len (us : List UnitM) (need spare : List Int) (h : Nat) : (runL us need spare h).length = 2 ^ us.length := by rw [runL, List.length_map, List.length_range]
theorem runL_getD {us : List UnitM} {need spare : List Int} {h k : Nat} (hk : k < 2 ^ us.length) : (runL us need spare h).getD k 0 = runV us need spare h k := by
  rw [runL, List.getD_eq_getElem?_getD, List.getElem?_map, List.getElem?_range hk]; rfl
/-- Lists of numbers, in a list. -/
def NumsAt (w : World) (v : Value) (l : List (List Int)) : Prop := ∃ vs : List Value, vs.length = l.length ∧ RowAt w v l.length 1 vs ∧ ∀ (i : Nat) (b : List Int), l[i]? = some b → ∃ x, vs[i]? = some x ∧ RowAt w x b.length 1 (ints b)
theorem NumsAt.slice {w : World} {v : Value} {l : List (List Int)} (h : NumsAt w v l) : ∃ a c, v = .slice a l.length c := by
  obtain ⟨vs, _, h, _⟩ := h
  exact rowAt_slice h
theorem NumsAt.cell {w : World} {v : Value} {l : List (List Int)} (h : NumsAt w v l) (k : Nat) (hk : k < l.length) : ∃ b off c a' c', v = .slice (some ⟨b, off, none⟩) l.length c ∧ w.cell? ⟨b, off + k, none⟩ = some (.slice a' l[k].length c') ∧ RowAt w (.slice a' l[k].length c') l[k].length 1 (ints l[k]) := by
  obtain ⟨vs, hv, ⟨-, a, c, rfl, hc⟩, hr⟩ := h
  obtain ⟨x, hx, hrx⟩ := hr k l[k] (List.getElem?_eq_getElem hk)
  obtain ⟨b, off, rfl, hcell⟩ := hc k x hx
  obtain ⟨a', c', rfl⟩ := rowAt_slice hrx
  exact ⟨b, off, c, a', c', rfl, hcell, hrx⟩
theorem But.nums {M : Nat} {W W' : World} {es : Array MapEntry} {clock : Nat} (h : But M W W') (hm : W.heap[M]? = some (.map es clock)) {v : Value} {l : List (List Int)} (hr : NumsAt W v l) : NumsAt W' v l := by
  obtain ⟨vs, h1, h2, h3⟩ := hr
  exact ⟨vs, h1, h.row hm h2, fun i b hi => by obtain ⟨x, hx, hr⟩ := h3 i b hi; exact ⟨x, hx, h.row hm hr⟩⟩
def runsL (us : List UnitM) (need spare : List Int) : List (List Int) := (List.range need.length).map (runL us need spare)
theorem runsL_len (us : List UnitM) (need spare : List Int) : (runsL us need spare).length = need.length := by rw [runsL, List.length_map, List.length_range]
/-- The search at work. -/
structure Srch (W : World) (us : List UnitM) (need spare : List Int) (lv cv uv : Value) (M : Nat) : Prop where
  units : UnitsAt W lv us
  cho : SignsAt W cv (choL us.length)
  runs : NumsAt W uv (runsL us need spare)
  known : ∃ es clock, W.heap[M]? = some (.map es clock) ∧ Known us need spare es.toList
theorem Srch.but {W W' : World} {us : List UnitM} {need spare : List Int} {lv cv uv : Value} {M : Nat} (h : Srch W us need spare lv cv uv M) (hb : But M W W') (hk : ∃ es clock, W'.heap[M]? = some (.map es clock) ∧ Known us need spare es.toList) : Srch W' us need spare lv cv uv M := by
  obtain ⟨es, clock, hm, _⟩ := h.known
  exact ⟨hb.row hm h.units, hb.signs hm h.cho, hb.nums hm h.runs, hk⟩
theorem Srch.below {W W' : World} {us : List UnitM} {need spare : List Int} {lv cv uv : Value} {M : Nat} (h : Srch W us need spare lv cv uv M) (hb : Below W.heap.size W W') : Srch W' us need spare lv cv uv M := by
  obtain ⟨es, clock, hm, hk⟩ := h.known
  exact h.but (But.of hb) ⟨es, clock, (hb.block M (Array.getElem?_eq_some_iff.1 hm).1).trans hm, hk⟩
/-- What the search is handed. -/
structure Plan (us : List UnitM) (need spare : List Int) : Prop where
  h4 : us.length ≤ 4
  h8 : need.length ≤ 8
  hs : spare.length = need.length
  may : MayUs us
  rn : InR need
  rs : InR spare
/-- What ahead answers, d hours from the end. -/
def AheadGood (us : List UnitM) (need spare : List Int) (d : Nat) : Prop :=
  ∀ (h : Nat) (t : List Int) (lv cv uv : Value) (ar an as' : Option Addr) (nr cr cn ns cs M : Nat) (W : World), h + d = need.length → t.length = us.length → StayOk t → Srch W us need spare lv cv uv M →
    Calls Try.prog 54 #[.agg #[lv, .slice ar nr cr, .slice an need.length cn, .slice as' ns cs, cv, uv, .map (some M)], momT h t] W fun e W' =>
      e = .returned (outV (look us need spare d h t)) ∧ But M W W' ∧ Srch W' us need spare lv cv uv M
theorem pow16' {n : Nat} (h : n ≤ 4) : 2 ^ n ≤ 16 := Nat.le_trans (Nat.pow_le_pow_right (by decide) h) (by decide)
theorem look_bound {us : List UnitM} {need spare : List Int} (hp : Plan us need spare) : ∀ (d h : Nat) (t : List Int) (c : Int) (k : Nat), look us need spare d h t = some (c, k) → 0 ≤ c ∧ c ≤ 50000000000 * d ∧ k < 2 ^ us.length
  | 0, h, t, c, k, hl => by cases hl; exact ⟨by omega, by omega, Nat.two_pow_pos _⟩
  | d + 1, h, t, c, k, hl => by
    rw [look_succ] at hl
    obtain ⟨b1, b2, b3⟩ := bestK_some _ _ _ hl
    obtain ⟨c2, t2, s2, ⟨o, k2⟩, e1, e2, e3, e4⟩ := thruL_some b2
    have h1 := look_bound hp d (h + 1) t2 o k2 e3
    have h2 := hour_bound hp.may hp.h4 e1
    have h3 := (nextK_spec hp.may us.length (Nat.le_refl _) t2 s2 e2).2.2
    have := hp.h4
    refine ⟨by rw [e4]; show 0 ≤ c2 + s2 + o; omega, ?_, b1⟩
    rw [e4]
    show c2 + s2 + o ≤ _
    omega
end Go.Proofs.Ytlbeecjkfakkpag
