/- Raw times and values made into known ones. -/
import Derived.Test.YtmbgjmkndhjilalN5
namespace Go.Proofs.Ytmbgjmkndhjilal
open Go.RowKit Go.Shelf

theorem tmod_within (x : Int) (f : Nat) (hx : 0 ≤ x) (hf : 0 < f) : ∃ p : Nat, x.tmod f = (p : Int) ∧ p < f := by
  refine ⟨(x.tmod f).toNat, ?_, ?_⟩
  · have := Int.tmod_nonneg (f : Int) hx
    omega
  · have := Int.tmod_lt_of_pos x (b := (f : Int)) (by omega)
    omega
theorem picked_is (n : Int) (f : Nat) (h : I6 n) (hf : 0 < f) (hf1 : f ≤ 1000000000) :
    ∃ p : Nat, p < f ∧ ∀ w : World, Calls Try.prog 4 #[.int .i64 n, .int .i64 f] w fun e w' => e = .returned (.int .i64 (p : Int)) ∧ w' = w := by
  obtain ⟨h0, h1⟩ := h
  have hf0 : ((f : Int) == 0) = false := by simp; omega
  by_cases hn : n < 0
  · obtain ⟨p, hp, hlt⟩ := tmod_within (-(n + 1)) f (by omega) hf
    rw [Int.neg_tmod] at hp
    refine ⟨p, hlt, fun w => ?_⟩
    go_enter Try.func4, Try.ntmps4
    go_wp2
    go_ret
    exact ⟨by first | rfl | rw [hp], rfl⟩
  · obtain ⟨p, hp, hlt⟩ := tmod_within n f (by omega) hf
    refine ⟨p, hlt, fun w => ?_⟩
    go_enter Try.func4, Try.ntmps4
    go_wp2
    go_ret
    exact ⟨by first | rfl | rw [hp], rfl⟩
def Apart (a b : Value) : Prop := ∀ k, a.ownBlock = some k → b.ownBlock ≠ some k
/-- Two rows that grow. -/
structure TwoR (w W : World) (a b : Value) (ts vs : List Int) : Prop where
  ra : W.ownsRow w.heap.size 3 1 a ts.length (ints ts)
  rb : W.ownsRow w.heap.size 3 1 b vs.length (ints vs)
  ap : Apart a b
  bel : Below w.heap.size w W
theorem own_lt {W : World} {B e sz n : Nat} {v : Value} {xs : List Value} (h : W.ownsRow B e sz v n xs) : ∀ k, v.ownBlock = some k → k < W.heap.size := fun k hk => by
  rcases h.2 with ⟨rfl, _⟩ | ⟨g, cap, cur, rfl, h4, h5, _⟩
  · cases hk
  · cases hk; exact (Array.getElem?_eq_some_iff.1 h5).1
section
variable {w W W' : World} {a b : Value} {ts vs : List Int}
theorem TwoR.more (h : TwoR w W a b ts vs) (hb : Below W.heap.size W W') : TwoR w W' a b ts vs := ⟨own_below h.ra hb (Nat.le_refl _), own_below h.rb hb (Nat.le_refl _), h.ap, h.bel.trans (hb.mono h.bel.size)⟩
theorem ints_snoc (ts : List Int) (x : Int) : ints ts ++ [.int .i64 x] = ints (ts ++ [x]) := by simp [ints]
theorem TwoR.growA {v' : Value} {x : Int} (h : TwoR w W a b ts vs) (ho : W'.ownsRow w.heap.size 3 1 v' (ts.length + 1) (ints ts ++ [.int .i64 x])) (hg : W.grownBy W' a.ownBlock) (hat : v'.ownBlock = a.ownBlock ∨ v'.ownBlock = some W.heap.size) : TwoR w W' v' b (ts ++ [x]) vs := by
  refine ⟨?_, ?_, ?_, h.bel.grown hg h.bel.size (own_at h.ra)⟩
  · rw [ints_snoc] at ho; simpa using ho
  · refine own_other h.rb fun k hk => hg.block k (own_lt h.rb k hk) ?_
    intro e
    exact h.ap k e.symm hk
  · intro k hk hk2
    rcases hat with e | e
    · exact h.ap k (e.symm.trans hk) hk2
    · have := own_lt h.rb k hk2
      rw [e] at hk; cases hk; omega
theorem TwoR.growB {v' : Value} {x : Int} (h : TwoR w W a b ts vs) (ho : W'.ownsRow w.heap.size 3 1 v' (vs.length + 1) (ints vs ++ [.int .i64 x])) (hg : W.grownBy W' b.ownBlock) (hat : v'.ownBlock = b.ownBlock ∨ v'.ownBlock = some W.heap.size) : TwoR w W' a v' ts (vs ++ [x]) := by
  refine ⟨?_, ?_, ?_, h.bel.grown hg h.bel.size (own_at h.rb)⟩
  · refine own_other h.ra fun k hk => hg.block k (own_lt h.ra k hk) ?_
    intro e
    exact h.ap k hk e.symm
  · rw [ints_snoc] at ho; simpa using ho
  · intro k hk hk2
    rcases hat with e | e
    · exact h.ap k hk (e.symm.trans hk2)
    · have := own_lt h.ra k hk
      rw [e] at hk2; cases hk2; omega
end
/-- Times that rise up to x, values that don't fall up to y. -/
structure MadeP (ts vs : List Int) (k x y : Nat) : Prop where
  n : ts.length = k
  m : vs.length = k
  bx : x ≤ 1000 * k
  bY : y ≤ 100000 * k
  t : ∀ j, j < k → 0 ≤ ts.getD j 0 ∧ ts.getD j 0 ≤ x
  v : ∀ j, j < k → 0 ≤ vs.getD j 0 ∧ vs.getD j 0 ≤ y
  tr : ∀ j, j + 1 < k → ts.getD j 0 < ts.getD (j + 1) 0
  vr : ∀ j, j + 1 < k → vs.getD j 0 ≤ vs.getD (j + 1) 0
theorem snoc_old {l : List Int} {x : Int} {j : Nat} (h : j < l.length) : (l ++ [x]).getD j 0 = l.getD j 0 := by
  rw [List.getD_eq_getElem?_getD, List.getElem?_append_left h, ← List.getD_eq_getElem?_getD]
theorem snoc_new {l : List Int} {x : Int} {j : Nat} (h : j = l.length) : (l ++ [x]).getD j 0 = x := by
  subst h
  simp
theorem MadeP.start : MadeP [] [] 0 0 0 := ⟨rfl, rfl, by omega, by omega, fun j h => by omega, fun j h => by omega, fun j h => by omega, fun j h => by omega⟩
theorem MadeP.next {ts vs : List Int} {k x y p q : Nat} (h : MadeP ts vs k x y) (hp : p < 1000) (hq : q < 100000) : MadeP (ts ++ [((x + (1 + p) : Nat) : Int)]) (vs ++ [((y + q : Nat) : Int)]) (k + 1) (x + (1 + p)) (y + q) := by
  have hn := h.n
  have hm := h.m
  refine ⟨by simp [hn], by simp [hm], by have := h.bx; omega, by have := h.bY; omega, fun j hj => ?_, fun j hj => ?_, fun j hj => ?_, fun j hj => ?_⟩
  · by_cases e : j < k
    · rw [snoc_old (by omega)]; have := h.t j e; omega
    · rw [snoc_new (by omega)]; omega
  · by_cases e : j < k
    · rw [snoc_old (by omega)]; have := h.v j e; omega
    · rw [snoc_new (by omega)]; omega
  · by_cases e : j + 1 < k
    · rw [snoc_old (by omega), snoc_old (by omega)]; exact h.tr j e
    · rw [snoc_old (by omega), snoc_new (by omega)]; have := h.t j (by omega); omega
  · by_cases e : j + 1 < k
    · rw [snoc_old (by omega), snoc_old (by omega)]; exact h.vr j e
    · rw [snoc_old (by omega), snoc_new (by omega)]; have := h.v j (by omega); omega
theorem MadeP.ok {ts vs : List Int} {k x y : Nat} (h : MadeP ts vs k x y) (h1 : 1 ≤ k) (h50 : k ≤ 50) : KnownOk ts vs := by
  have hn := h.n
  have hm := h.m
  have hx := h.bx
  have hy := h.bY
  exact ⟨by omega, by omega, by omega, fun j hj => by have := h.t j (by omega); omega, fun j hj => by have := h.v j (by omega); omega, fun j hj => h.tr j (by omega), fun j hj => h.vr j (by omega)⟩
theorem toB_of {m : Int} {l : List Int} (h : ∀ k, k < l.length → 0 ≤ l.getD k 0 ∧ l.getD k 0 ≤ m) : toB m l = true := List.all_eq_true.2 fun x hx => by
  obtain ⟨j, hj, rfl⟩ := List.mem_iff_getElem.1 hx
  rw [withinB_iff, ← getD_get hj]
  exact h j hj
theorem fill_zero {ts vs qs : List Int} (ho : KnownOk ts vs) (hq : ∀ k, k < qs.length → 0 ≤ qs.getD k 0 ∧ qs.getD k 0 ≤ 1000000000) (hl : qs.length ≤ 50) : fillE ts vs qs = 0 := by
  have h1 : sizedB ts.length vs.length = true := by
    unfold sizedB
    rw [Bool.and_eq_true, withinB_iff, decide_eq_true_eq]
    have := ho.n1
    have := ho.n50
    exact ⟨by omega, ho.same⟩
  have h2 := toB_of ho.t
  have h3 := toB_of hq
  have h4 : toB 4294967295 vs = true := toB_of fun k hk => ho.v k (by rw [← ho.same]; exact hk)
  have h5 : orderB ts vs = true := by
    unfold orderB
    rw [Bool.and_eq_true]
    refine ⟨each_yes ts fun j hj => ?_, each_yes vs fun j hj => ?_⟩
    · have := ho.tr j hj
      rw [getD_get (by omega), getD_get hj] at this
      exact decide_eq_true this
    · have := ho.vr j (by rw [← ho.same]; exact hj)
      rw [getD_get (by omega), getD_get hj] at this
      exact decide_eq_true this
  unfold fillE
  rw [h1, h2, h3, h4, h5, if_neg (fun h => by rcases h with h | h; exact absurd h (by decide); omega)]
  rfl
/-- What Fill answers where all is well. -/
theorem fill_good {ts vs qs : List Int} {w w' : World} {e : Ending} (h : FillO ts vs qs w e w') (hz : fillE ts vs qs = 0) : ∃ v out, e = .returned (.tuple #[v, .int .i64 0]) ∧ w'.ownsRow w.heap.size 3 1 v qs.length (ints out) ∧ Fld ts vs qs out qs.length ∧ Below w.heap.size w w' := by
  obtain ⟨h1, hb⟩ := h
  rcases h1 with ⟨h1, _⟩ | ⟨_, v, out, h2, h3, h4⟩
  · exact absurd hz h1
  · exact ⟨v, out, h2, h3, h4, hb⟩
theorem fill_none {w w' : World} {e : Ending} {qs : List Int} (h : FillO [] [] qs w e w') : e = .returned (.tuple #[.slice none 0 0, .int .i64 2]) ∧ Below w.heap.size w w' := by
  obtain ⟨h1, hb⟩ := h
  have hz : fillE [] [] qs = 2 := by unfold fillE; exact if_pos (Or.inl (by decide))
  rw [hz] at h1
  rcases h1 with ⟨_, h1⟩ | ⟨h1, _⟩
  · exact ⟨h1, hb⟩
  · exact absurd h1 (by decide)
end Go.Proofs.Ytmbgjmkndhjilal
