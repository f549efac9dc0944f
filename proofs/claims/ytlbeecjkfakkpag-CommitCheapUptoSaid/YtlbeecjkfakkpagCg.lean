/- What the search for the best schedule keeps. -/
import Derived.Test.YtlbeecjkfakkpagCf
import Derived.Deep.CutRange
import Derived.Deep.CutBlock
namespace Go.Proofs.Ytlbeecjkfakkpag
open Go.RowKit Go.Shelf

theorem putL_len (n : Nat) (s : StepM) : ∀ (l : List StepM), (putL n l s).length ≤ l.length + 1
  | [] => Nat.le_refl _
  | x :: l => by
    rw [putL]
    split
    · split <;> simp
    · have := putL_len n s l
      simp only [List.length_cons]
      omega
theorem putO_len (us : List UnitM) (need spare : Int) (x : StepM) (acc : List StepM) (r : List Bool) : (putO us need spare x acc r).length ≤ acc.length + 1 := by
  unfold putO
  split
  · omega
  · exact putL_len _ _ _
theorem rowF_len (us : List UnitM) (need spare : Int) (x : StepM) : ∀ (rs : List (List Bool)) (acc : List StepM), (rowF us need spare x rs acc).length ≤ acc.length + rs.length
  | [], acc => Nat.le_refl _
  | r :: rs, acc => by
    have h1 := putO_len us need spare x acc r
    have h2 := rowF_len us need spare x rs (putO us need spare x acc r)
    show (rowF us need spare x rs (putO us need spare x acc r)).length ≤ _
    simp only [List.length_cons]
    omega
theorem hourF_len (us : List UnitM) (need spare : Int) (rs : List (List Bool)) (h16 : rs.length ≤ 16) : ∀ (now acc : List StepM), (hourF us need spare rs now acc).length ≤ acc.length + 16 * now.length
  | [], acc => Nat.le_refl _
  | x :: now, acc => by
    have h1 := rowF_len us need spare x rs acc
    have h2 := hourF_len us need spare rs h16 now (rowF us need spare x rs acc)
    show (hourF us need spare rs now (rowF us need spare x rs acc)).length ≤ _
    simp only [List.length_cons]
    omega
theorem sets16 {n : Nat} (h4 : n ≤ 4) : (setsL n).length ≤ 16 := by rw [setsL_len]; exact Nat.le_trans (Nat.pow_le_pow_right (by decide) h4) (by decide)
theorem dpK_len {us : List UnitM} (h4 : us.length ≤ 4) (need spare : List Int) : ∀ k, (dpK us need spare k).length ≤ 16 ^ k
  | 0 => by simp [dpK]
  | k + 1 => by
    have h1 := hourF_len us (need.getD k 0) (spare.getD k 0) (setsL us.length) (sets16 h4) (dpK us need spare k) []
    have h2 := dpK_len h4 need spare k
    rw [dpK, Nat.pow_succ]
    simp only [List.length_nil] at h1
    omega
theorem pow16 {k : Nat} (h : k ≤ 8) : 16 ^ k ≤ 4294967296 := Nat.le_trans (Nat.pow_le_pow_right (by decide) h) (by decide)
theorem rowF_snoc (us : List UnitM) (need spare : Int) (x : StepM) (rs : List (List Bool)) (acc : List StepM) (j : Nat) (hj : j < rs.length) : rowF us need spare x (rs.take (j + 1)) acc = putO us need spare x (rowF us need spare x (rs.take j) acc) rs[j] := by
  rw [List.take_succ_eq_append_getElem hj, rowF, List.foldl_append]; rfl
theorem hourF_snoc (us : List UnitM) (need spare : Int) (rs : List (List Bool)) (now acc : List StepM) (k : Nat) (hk : k < now.length) : hourF us need spare rs (now.take (k + 1)) acc = rowF us need spare now[k] rs (hourF us need spare rs (now.take k) acc) := by
  rw [List.take_succ_eq_append_getElem hk, hourF, List.foldl_append]; rfl
theorem pickF_snoc (n : Nat) (b : StepM) (l : List StepM) (k : Nat) (hk : k < l.length) : pickF n b (l.take (k + 1)) = if bet n l[k] (pickF n b (l.take k)) then l[k] else pickF n b (l.take k) := by
  rw [List.take_succ_eq_append_getElem hk, pickF, List.foldl_append]; rfl
theorem Way.shape {us : List UnitM} {need spare : List Int} {k : Nat} {s : StepM} (hm : MayUs us) (h4 : us.length ≤ 4) (h : Way us need spare k s) : Shape us.length k s := by
  have := valK_spec hm h4 _ _ _ h.v
  exact ⟨this.1, this.2.1, h.len, h.rows⟩
theorem Way.bound {us : List UnitM} {need spare : List Int} {k : Nat} {s : StepM} (hm : MayUs us) (h4 : us.length ≤ 4) (h : Way us need spare k s) : 0 ≤ s.cost ∧ s.cost ≤ 50000000000 * k := (valK_spec hm h4 _ _ _ h.v).2.2
/-- What Cheapest answers. -/
def BestOut (us : List UnitM) (need spare : List Int) (w : World) (e : Ending) (w' : World) : Prop :=
  ((schedC us need spare ≠ 0 ∧ e = .returned (.tuple #[.slice none 0 0, .int .i64 0, .int .i64 (schedC us need spare)])) ∨
   (schedC us need spare = 0 ∧ (∀ s, ¬ BestIs us need spare s) ∧ e = .returned (.tuple #[.slice none 0 0, .int .i64 0, .int .i64 9])) ∨
   (schedC us need spare = 0 ∧ ∃ s v, BestIs us need spare s ∧ e = .returned (.tuple #[v, .int .i64 s.cost, .int .i64 0]) ∧ SignsAt w' v s.on)) ∧ Below w.heap.size w w'
theorem extend_next {us : List UnitM} {need spare : Int} {x : StepM} {r : List Bool} (h : nextL us x.stay r = none) : extend us need spare x r = none := by rw [extend, stepV, h]
theorem extend_hour {us : List UnitM} {need spare : Int} {x : StepM} {r : List Bool} {l : List Int} {s : Int} (h : nextL us x.stay r = some (l, s)) (h2 : hourC us r need spare = none) : extend us need spare x r = none := by rw [extend, stepV, h]; simp only [h2]
theorem extend_some {us : List UnitM} {need spare : Int} {x : StepM} {r : List Bool} {l : List Int} {s c : Int} (h : nextL us x.stay r = some (l, s)) (h2 : hourC us r need spare = some c) : extend us need spare x r = some ⟨l, x.cost + (s + c), x.on ++ [r]⟩ := by rw [extend, stepV, h]; simp only [h2]
theorem putO_none {us : List UnitM} {need spare : Int} {x : StepM} {acc : List StepM} {r : List Bool} (h : extend us need spare x r = none) : putO us need spare x acc r = acc := by rw [putO, h]
theorem putO_some {us : List UnitM} {need spare : Int} {x s : StepM} {acc : List StepM} {r : List Bool} (h : extend us need spare x r = some s) : putO us need spare x acc r = putL us.length acc s := by rw [putO, h]
end Go.Proofs.Ytlbeecjkfakkpag
