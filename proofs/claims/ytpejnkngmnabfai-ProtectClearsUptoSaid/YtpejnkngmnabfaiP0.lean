/- Breakers one behind the other: their times, as plain words. -/
import Derived.Test.YtpejnkngmnabfaiYv
namespace Go.Proofs.Ytpejnkngmnabfai
open Go.RowKit Go.Shelf

theorem Try.info3 : (Try.prog.info? 3).map (fun i => (i.zero, i.size, i.bytes)) = some (some (.int .i64 0), 1, 8) := by kernel_rfl
theorem Try.info4 : (Try.prog.info? 4).map (fun i => (i.zero, i.size, i.bytes)) = some (some (.bool false), 1, 1) := by kernel_rfl
def aheadB : List Int → Nat → Bool
  | [], _ => true
  | b :: r, k => (decide (-1 ≤ b) && decide (b < (k : Int))) && aheadB r (k + 1)
/-- Each is behind a smaller number, or behind none. -/
def Ahead (bs : List Int) : Prop := ∀ k, k < bs.length → -1 ≤ bs.getD k (-1) ∧ bs.getD k (-1) < (k : Int)
theorem aheadB_step {bs : List Int} {k : Nat} (h : k < bs.length) : aheadB (bs.drop k) k = ((decide (-1 ≤ bs.getD k (-1)) && decide (bs.getD k (-1) < (k : Int))) && aheadB (bs.drop (k + 1)) (k + 1)) := by
  rw [List.drop_eq_getElem_cons h, aheadB, List.getD_eq_getElem?_getD, List.getElem?_eq_getElem h]
  rfl
theorem aheadB_iff_from : ∀ (r : List Int) (k : Nat), aheadB r k = true ↔ ∀ j, j < r.length → -1 ≤ r.getD j (-1) ∧ r.getD j (-1) < ((k + j : Nat) : Int)
  | [], k => by simp [aheadB]
  | b :: r, k => by
    rw [aheadB, Bool.and_eq_true, Bool.and_eq_true, decide_eq_true_iff, decide_eq_true_iff, aheadB_iff_from r (k + 1)]
    constructor
    · rintro ⟨⟨h1, h2⟩, h3⟩ j hj
      cases j with
      | zero => exact ⟨h1, by simpa using h2⟩
      | succ j =>
        have h4 := h3 j (by simpa using hj)
        rw [List.getD_cons_succ]
        exact ⟨h4.1, by have := h4.2; omega⟩
    · intro h
      refine ⟨by have := h 0 (by simp); simpa using this, fun j hj => ?_⟩
      have h4 := h (j + 1) (by simpa using hj)
      rw [List.getD_cons_succ] at h4
      exact ⟨h4.1, by have := h4.2; omega⟩
theorem aheadB_iff {bs : List Int} : aheadB bs 0 = true ↔ Ahead bs := by
  rw [aheadB_iff_from]
  unfold Ahead
  simp only [Nat.zero_add]
/-- Times, as far as told by what stands from m on. -/
structure Timed (bs : List Int) (base step : Int) (m : Nat) (T : List Int) : Prop where
  len : T.length = bs.length
  lo : ∀ k, k < bs.length → base ≤ T.getD k 0
  hi : ∀ k, k < bs.length → T.getD k 0 ≤ base + step * ((bs.length - 1 - k : Nat) : Int)
  up : ∀ c k : Nat, m ≤ c → c < bs.length → bs.getD c (-1) = (k : Int) → T.getD c 0 + step ≤ T.getD k 0
  eq : ∀ k, k < bs.length → T.getD k 0 = base ∨ ∃ c, m ≤ c ∧ c < bs.length ∧ bs.getD c (-1) = (k : Int) ∧ T.getD k 0 = T.getD c 0 + step
theorem rep_getD {n k : Nat} {x : Int} (h : k < n) : (List.replicate n x).getD k 0 = x := by rw [List.getD_eq_getElem?_getD, List.getElem?_replicate, if_pos h]; rfl
theorem Timed.start (bs : List Int) {base step : Int} (hs : 0 ≤ step) : Timed bs base step bs.length (List.replicate bs.length base) := by
  refine ⟨by simp, fun k hk => by rw [rep_getD hk]; omega, fun k hk => ?_, fun c k h1 h2 => by omega, fun k hk => .inl (rep_getD hk)⟩
  rw [rep_getD hk]
  have := Int.mul_nonneg hs (Int.natCast_nonneg (bs.length - 1 - k))
  omega
theorem Timed.skip {bs : List Int} {base step : Int} {m : Nat} {T : List Int} (h : Timed bs base step (m + 1) T) (hb : bs.getD m (-1) < 0) : Timed bs base step m T := by
  refine ⟨h.len, h.lo, h.hi, fun c k h1 h2 h3 => ?_, fun k hk => ?_⟩
  · by_cases hc : c = m
    · subst hc; omega
    · exact h.up c k (by omega) h2 h3
  · rcases h.eq k hk with h1 | ⟨c, h1, h2⟩
    · exact .inl h1
    · exact .inr ⟨c, by omega, h2⟩
theorem set_getD {T : List Int} {b k : Nat} {x : Int} (hb : b < T.length) : (T.set b x).getD k 0 = if k = b then x else T.getD k 0 := by
  rw [List.getD_eq_getElem?_getD, List.getElem?_set]
  split
  · rename_i h; subst h; simp
  · rename_i h; rw [if_neg (fun e => h e.symm)]; rw [List.getD_eq_getElem?_getD]
theorem Timed.next {bs : List Int} {base step : Int} {m b : Nat} {T : List Int} (hs : 0 ≤ step) (h : Timed bs base step (m + 1) T) (hm : m < bs.length) (hb : bs.getD m (-1) = (b : Int)) (hbm : b < m) : Timed bs base step m (T.set b (max (T.getD b 0) (T.getD m 0 + step))) := by
  have hbl : b < T.length := by rw [h.len]; omega
  have hg : ∀ k, (T.set b (max (T.getD b 0) (T.getD m 0 + step))).getD k 0 = if k = b then max (T.getD b 0) (T.getD m 0 + step) else T.getD k 0 := fun k => set_getD hbl
  have hne : ∀ c, m ≤ c → (T.set b (max (T.getD b 0) (T.getD m 0 + step))).getD c 0 = T.getD c 0 := fun c hc => by rw [hg, if_neg (by omega)]
  refine ⟨by rw [List.length_set]; exact h.len, fun k hk => ?_, fun k hk => ?_, fun c k h1 h2 h3 => ?_, fun k hk => ?_⟩
  · rw [hg]
    split
    · have := h.lo b (by omega); omega
    · exact h.lo k hk
  · rw [hg]
    split
    · rename_i e
      subst e
      have h1 := h.hi k hk
      have h2 := h.hi m hm
      have h3 : step * ((bs.length - 1 - m : Nat) : Int) + step ≤ step * ((bs.length - 1 - k : Nat) : Int) := by
        have e : step * ((bs.length - 1 - m : Nat) : Int) + step = step * (((bs.length - 1 - m : Nat) : Int) + 1) := by rw [Int.mul_add, Int.mul_one]
        rw [e]
        exact Int.mul_le_mul_of_nonneg_left (by omega) hs
      omega
    · exact h.hi k hk
  · rw [hne c h1, hg]
    by_cases hc : c = m
    · subst hc
      have : b = k := by omega
      rw [if_pos this.symm]
      omega
    · have h4 := h.up c k (by omega) h2 h3
      split
      · rename_i e; subst e; omega
      · exact h4
  · rw [hg]
    split
    · rename_i e
      subst e
      by_cases hx : T.getD k 0 ≤ T.getD m 0 + step
      · refine .inr ⟨m, Nat.le_refl _, hm, hb, ?_⟩
        rw [hne m (Nat.le_refl _)]
        omega
      · have e : max (T.getD k 0) (T.getD m 0 + step) = T.getD k 0 := by omega
        rw [e]
        rcases h.eq k hk with h1 | ⟨c, h1, h2, h3, h4⟩
        · exact .inl h1
        · exact .inr ⟨c, by omega, h2, h3, by rw [← e, hne c (by omega)]; omega⟩
    · rcases h.eq k hk with h1 | ⟨c, h1, h2, h3, h4⟩
      · exact .inl h1
      · exact .inr ⟨c, by omega, h2, h3, by rw [hne c (by omega)]; exact h4⟩
theorem getD_ext {T T' : List Int} (hl : T.length = T'.length) (h : ∀ k, k < T.length → T.getD k 0 = T'.getD k 0) : T = T' := by
  refine List.ext_getElem hl fun k h1 h2 => ?_
  have := h k h1
  rw [List.getD_eq_getElem?_getD, List.getD_eq_getElem?_getD, List.getElem?_eq_getElem h1, List.getElem?_eq_getElem h2] at this
  exact this
/-- There is one row of times. -/
theorem Timed.one {bs : List Int} {base step : Int} {T T' : List Int} (ha : Ahead bs) (h : Timed bs base step 0 T) (h' : Timed bs base step 0 T') : T = T' := by
  have key : ∀ d k, k < bs.length → bs.length - k ≤ d → T.getD k 0 = T'.getD k 0 := by
    intro d
    induction d with
    | zero => intro k h1 h2; omega
    | succ d ih =>
      intro k hk hd
      have hch : ∀ c, c < bs.length → bs.getD c (-1) = (k : Int) → T.getD c 0 = T'.getD c 0 := fun c h1 h2 => ih c h1 (by have := (ha c h1).2; omega)
      have l1 := h.lo k hk
      have l2 := h'.lo k hk
      rcases h.eq k hk with e | ⟨c, _, h2, h3, e⟩ <;> rcases h'.eq k hk with e' | ⟨c', _, h2', h3', e'⟩
      · omega
      · have := h.up c' k (Nat.zero_le _) h2' h3'
        have := hch c' h2' h3'
        omega
      · have := h'.up c k (Nat.zero_le _) h2 h3
        have := hch c h2 h3
        omega
      · have h5 := h.up c' k (Nat.zero_le _) h2' h3'
        have h6 := hch c' h2' h3'
        have h7 := h'.up c k (Nat.zero_le _) h2 h3
        have h8 := hch c h2 h3
        omega
  exact getD_ext (by rw [h.len, h'.len]) fun k hk => key bs.length k (by rw [← h.len]; exact hk) (by omega)
end Go.Proofs.Ytpejnkngmnabfai
