/- What is filled in never falls, and is what is known where it is known. -/
import Derived.Test.YtmbgjmkndhjilakN4
namespace Go.Proofs.Ytmbgjmkndhjilak
open Go.RowKit Go.Shelf

theorem line_mono {vl vm tl tm x y : Int} (hv : vl ≤ vm) (ht : tl < tm) (hxy : x ≤ y) : lineV vl vm tl tm x ≤ lineV vl vm tl tm y := by
  have h1 : (vm - vl) * (x - tl) ≤ (vm - vl) * (y - tl) := Int.mul_le_mul_of_nonneg_left (by omega) (by omega)
  have h2 := Int.ediv_le_ediv (c := tm - tl) (by omega) h1
  unfold lineV
  repeat' split
  all_goals omega
theorem line_end {vl vm tl tm : Int} (ht : tl < tm) (h4 : vm ≤ 4294967295) : lineV vl vm tl tm tm = vm := by
  have h2 : (vm - vl) * (tm - tl) / (tm - tl) = vm - vl := Int.mul_ediv_cancel _ (by omega)
  unfold lineV
  rw [h2]
  split <;> omega
theorem line_start {vl vm tl tm : Int} (h4 : vl ≤ 4294967295) : lineV vl vm tl tm tl = vl := by
  unfold lineV
  rw [Int.sub_self, Int.mul_zero, Int.zero_ediv]
  split <;> omega
theorem at_one {ts : List Int} {x y : Int} {p q : Nat} (hp : AtP ts x p) (hq : AtP ts y q) (h : x ≤ y) : p ≤ q := by
  rcases Nat.lt_or_ge q p with h1 | h1
  · have h2 := hp.lo q h1
    have h3 := hq.hi q (Nat.le_refl _) (by have := hp.le; omega)
    omega
  · exact h1
/-- Up to a known one it is no more than what is known. -/
theorem val_le {ts vs : List Int} {x : Int} {p i : Nat} (ho : KnownOk ts vs) (hp : AtP ts x p) (hi : i < ts.length) (h : x ≤ ts.getD i 0) : valP ts vs p x ≤ vs.getD i 0 := by
  have hpi : p ≤ i := by
    rcases Nat.lt_or_ge i p with h1 | h1
    · have := hp.lo i h1; omega
    · exact h1
  unfold valP
  split
  · exact ho.vsorted 0 i (Nat.zero_le _) hi
  · next hc =>
    have e : min p (ts.length - 1) = p := by omega
    rw [e]
    obtain ⟨L, rfl⟩ : ∃ L, p = L + 1 := ⟨p - 1, by omega⟩
    simp only [Nat.add_sub_cancel]
    have hL : L + 1 < ts.length := by omega
    refine Int.le_trans (line_mono (ho.vr L hL) (ho.tr L hL) (hp.hi (L + 1) (Nat.le_refl _) hL)) ?_
    rw [line_end (ho.tr L hL) (ho.v (L + 1) hL).2]
    exact ho.vsorted (L + 1) i hpi hi
/-- From a known one on it is no less than what is known. -/
theorem val_ge {ts vs : List Int} {x : Int} {p i : Nat} (ho : KnownOk ts vs) (hp : AtP ts x p) (hi : i < ts.length) (h : ts.getD i 0 ≤ x) : vs.getD i 0 ≤ valP ts vs p x := by
  unfold valP
  split
  · next hc =>
    rcases hc with hc | hc
    · have h1 := hp.hi i (by omega) hi
      have h0 := hp.hi 0 (by omega) (by omega)
      have : i = 0 := by
        rcases Nat.eq_zero_or_pos i with e | e
        · exact e
        · have h3 := ho.tr 0 (by omega)
          have h4 := ho.sorted (0 + 1) i (by omega) hi
          omega
      rw [this]
      exact Int.le_refl _
    · rw [show i = 0 by omega]
      exact Int.le_refl _
  · next hc =>
    obtain ⟨m, hm⟩ : ∃ m, m = min p (ts.length - 1) := ⟨_, rfl⟩
    rw [← hm]
    obtain ⟨L, rfl⟩ : ∃ L, m = L + 1 := ⟨m - 1, by omega⟩
    simp only [Nat.add_sub_cancel]
    have hL : L + 1 < ts.length := by omega
    by_cases hiL : i ≤ L
    · refine Int.le_trans (ho.vsorted i L hiL (by omega)) ?_
      have := line_mono (ho.vr L hL) (ho.tr L hL) (Int.le_of_lt (hp.lo L (by omega)))
      rwa [line_start (ho.v L (by omega)).2] at this
    · by_cases hpi : p = i
      · have hx : ts.getD i 0 = x := by
          have := hp.hi i (by omega) hi
          omega
        have eL : L + 1 = i := by omega
        have ht := ho.tr L hL
        rw [eL] at ht ⊢
        rw [← hx, line_end ht (ho.v i hi).2]
        exact Int.le_refl _
      · by_cases hlt : p < i
        · exfalso
          have h1 := hp.hi p (Nat.le_refl _) (by omega)
          have h2 := ho.tr p (by omega)
          have h3 := ho.sorted (p + 1) i (by omega) hi
          omega
        · have : i = L + 1 := by omega
          subst this
          have := line_mono (ho.vr L hL) (ho.tr L hL) h
          rwa [line_end (ho.tr L hL) (ho.v (L + 1) hL).2] at this
theorem val_at {ts vs : List Int} {p i : Nat} (ho : KnownOk ts vs) (hi : i < ts.length) (hp : AtP ts (ts.getD i 0) p) : valP ts vs p (ts.getD i 0) = vs.getD i 0 :=
  Int.le_antisymm (val_le ho hp hi (Int.le_refl _)) (val_ge ho hp hi (Int.le_refl _))
theorem val_mono {ts vs : List Int} {x y : Int} {p q : Nat} (ho : KnownOk ts vs) (hp : AtP ts x p) (hq : AtP ts y q) (h : x ≤ y) : valP ts vs p x ≤ valP ts vs q y := by
  rcases Nat.lt_or_ge p q with h1 | h1
  · have hpn : p < ts.length := by have := hq.le; omega
    exact Int.le_trans (val_le ho hp hpn (hp.hi p (Nat.le_refl _) hpn)) (val_ge ho hq hpn (Int.le_of_lt (hq.lo p h1)))
  · have : p = q := Nat.le_antisymm (at_one hp hq h) h1
    subst this
    unfold valP
    split
    · exact Int.le_refl _
    · next hc =>
      have hn1 := ho.n1
      obtain ⟨m, hm⟩ : ∃ m, m = min p (ts.length - 1) := ⟨_, rfl⟩
      rw [← hm]
      obtain ⟨L, rfl⟩ : ∃ L, m = L + 1 := ⟨m - 1, by omega⟩
      simp only [Nat.add_sub_cancel]
      exact line_mono (ho.vr L (by omega)) (ho.tr L (by omega)) h
end Go.Proofs.Ytmbgjmkndhjilak
