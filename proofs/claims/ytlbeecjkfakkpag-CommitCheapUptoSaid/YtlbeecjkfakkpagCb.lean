/- The best schedule found hour by hour: of all ways to stand the best that leads there. -/
import Derived.Test.YtlbeecjkfakkpagCa
namespace Go.Proofs.Ytlbeecjkfakkpag
open Go.RowKit Go.Shelf

def digit (x : Int) : Nat := (x + 3).toNat
/-- Stays as one number. -/
def code (t : List Int) : Nat := val 7 (t.map digit)
theorem digits_lt {t : List Int} (h : ∀ x ∈ t, -3 ≤ x ∧ x ≤ 3) : ∀ d ∈ t.map digit, d < 7 := fun d hd => by
  obtain ⟨x, hx, rfl⟩ := List.mem_map.1 hd
  have := h x hx
  unfold digit
  omega
theorem code_inj {a b : List Int} (hl : a.length = b.length) (ha : ∀ x ∈ a, -3 ≤ x ∧ x ≤ 3) (hb : ∀ x ∈ b, -3 ≤ x ∧ x ≤ 3) (h : code a = code b) : a = b := by
  have h1 := val_inj _ _ (by rw [List.length_map, List.length_map]; exact hl) (digits_lt ha) (digits_lt hb) h
  apply List.ext_getElem hl
  intro i h2 h3
  have := congrArg (fun l => l[i]?) h1
  simp only [List.getElem?_map, List.getElem?_eq_getElem h2, List.getElem?_eq_getElem h3, Option.map_some, Option.some.injEq] at this
  have h4 := ha _ (List.getElem_mem h2)
  have h5 := hb _ (List.getElem_mem h3)
  unfold digit at this
  omega
/-- Is one ahead of another? -/
def bet (n : Nat) (s x : StepM) : Bool := decide (s.cost < x.cost) || (decide (s.cost = x.cost) && decide (sched n s.on < sched n x.on))
theorem bet_yes {n : Nat} {s x : StepM} (h : bet n s x = true) : Le s.cost (sched n s.on) x.cost (sched n x.on) := by
  simp only [bet, Bool.or_eq_true, Bool.and_eq_true, decide_eq_true_eq] at h
  unfold Le; omega
theorem bet_no {n : Nat} {s x : StepM} (h : bet n s x = false) : Le x.cost (sched n x.on) s.cost (sched n s.on) := by
  have h : ¬ bet n s x = true := by rw [h]; decide
  simp only [bet, Bool.or_eq_true, Bool.and_eq_true, decide_eq_true_eq] at h
  unfold Le; omega
/-- A way to stand is put among the others. -/
def putL (n : Nat) : List StepM → StepM → List StepM
  | [], s => [s]
  | x :: l, s => if code x.stay = code s.stay then (if bet n s x then s :: l else x :: l) else x :: putL n l s
theorem putL_at {n : Nat} {s x : StepM} : ∀ (l : List StepM) (i : Nat), (∀ (j : Nat) (y : StepM), j < i → l[j]? = some y → code y.stay ≠ code s.stay) → l[i]? = some x → code x.stay = code s.stay → putL n l s = if bet n s x then l.set i s else l
  | y :: l, 0, _, hx, hc => by
    simp only [List.getElem?_cons_zero, Option.some.injEq] at hx
    subst hx
    rw [putL, if_pos hc]; rfl
  | y :: l, i + 1, h, hx, hc => by
    rw [putL, if_neg (h 0 y (by omega) rfl), putL_at l i (fun j z hj hz => h (j + 1) z (by omega) hz) hx hc]
    split <;> rfl
theorem putL_new {n : Nat} {s : StepM} : ∀ (l : List StepM), (∀ (j : Nat) (y : StepM), l[j]? = some y → code y.stay ≠ code s.stay) → putL n l s = l ++ [s]
  | [], _ => rfl
  | y :: l, h => by rw [putL, if_neg (h 0 y rfl), putL_new l (fun j z hz => h (j + 1) z hz)]; rfl
theorem putL_mem {n : Nat} {s y : StepM} : ∀ (l : List StepM), y ∈ putL n l s → y = s ∨ y ∈ l
  | [], h => .inl (List.mem_singleton.1 h)
  | x :: l, h => by
    rw [putL] at h
    split at h
    · split at h
      · rcases List.mem_cons.1 h with h | h
        · exact .inl h
        · exact .inr (List.mem_cons_of_mem _ h)
      · exact .inr h
    · rcases List.mem_cons.1 h with h | h
      · exact .inr (h ▸ List.mem_cons_self)
      · rcases putL_mem l h with h | h
        · exact .inl h
        · exact .inr (List.mem_cons_of_mem _ h)
def Dom (n : Nat) (l : List StepM) (s : StepM) : Prop := ∃ x ∈ l, x.stay = s.stay ∧ Le x.cost (sched n x.on) s.cost (sched n s.on)
theorem putL_new_dom {n : Nat} {s : StepM} : ∀ (l : List StepM), (∀ x ∈ l, code x.stay = code s.stay → x.stay = s.stay) → Dom n (putL n l s) s
  | [], _ => ⟨s, List.mem_singleton.2 rfl, rfl, Le.refl _ _⟩
  | x :: l, h => by
    rw [putL]
    split
    · rename_i hc
      split
      · exact ⟨s, List.mem_cons_self, rfl, Le.refl _ _⟩
      · rename_i hb
        exact ⟨x, List.mem_cons_self, h x List.mem_cons_self hc, bet_no (by simpa using hb)⟩
    · obtain ⟨y, hy, h1, h2⟩ := putL_new_dom l (fun z hz => h z (List.mem_cons_of_mem _ hz))
      exact ⟨y, List.mem_cons_of_mem _ hy, h1, h2⟩
theorem putL_old_dom {n : Nat} {s y : StepM} : ∀ (l : List StepM), (∀ x ∈ l, code x.stay = code s.stay → x.stay = s.stay) → Dom n l y → Dom n (putL n l s) y
  | x :: l, h, ⟨z, hz, h1, h2⟩ => by
    rw [putL]
    split
    · rename_i hc
      split
      · rename_i hb
        rcases List.mem_cons.1 hz with hz | hz
        · subst hz
          exact ⟨s, List.mem_cons_self, (h z List.mem_cons_self hc).symm.trans h1, (bet_yes hb).trans h2⟩
        · exact ⟨z, List.mem_cons_of_mem _ hz, h1, h2⟩
      · exact ⟨z, hz, h1, h2⟩
    · rcases List.mem_cons.1 hz with hz | hz
      · exact ⟨z, hz ▸ List.mem_cons_self, h1, h2⟩
      · obtain ⟨u, hu, h3, h4⟩ := putL_old_dom l (fun z hz => h z (List.mem_cons_of_mem _ hz)) ⟨z, hz, h1, h2⟩
        exact ⟨u, List.mem_cons_of_mem _ hu, h3, h4⟩
/-- One way to stand, an hour on. -/
def extend (us : List UnitM) (need spare : Int) (x : StepM) (r : List Bool) : Option StepM :=
  match stepV us need spare x.stay x.cost r with
  | .error _ => none
  | .ok (t, c) => some ⟨t, c, x.on ++ [r]⟩
def putO (us : List UnitM) (need spare : Int) (x : StepM) (acc : List StepM) (r : List Bool) : List StepM :=
  match extend us need spare x r with
  | none => acc
  | some s => putL us.length acc s
def rowF (us : List UnitM) (need spare : Int) (x : StepM) (rs : List (List Bool)) (acc : List StepM) : List StepM := rs.foldl (putO us need spare x) acc
def hourF (us : List UnitM) (need spare : Int) (rs : List (List Bool)) (now acc : List StepM) : List StepM := now.foldl (fun acc x => rowF us need spare x rs acc) acc
def setsL : Nat → List (List Bool)
  | 0 => [[]]
  | n + 1 => (setsL n).flatMap fun p => [p ++ [false], p ++ [true]]
theorem setsL_mem : ∀ (n : Nat) (r : List Bool), r ∈ setsL n ↔ r.length = n
  | 0, r => by rw [setsL, List.mem_singleton, List.length_eq_zero_iff]
  | n + 1, r => by
    rw [setsL, List.mem_flatMap]
    constructor
    · rintro ⟨p, hp, hr⟩
      have := (setsL_mem n p).1 hp
      simp only [List.mem_cons, List.not_mem_nil, or_false] at hr
      rcases hr with rfl | rfl <;> simp [this]
    · intro h
      have hne : r ≠ [] := by intro e; rw [e] at h; cases h
      refine ⟨r.dropLast, (setsL_mem n _).2 (by rw [List.length_dropLast, h]; rfl), ?_⟩
      have hs := List.dropLast_concat_getLast hne
      cases hb : r.getLast hne with
      | false => rw [hb] at hs; rw [hs]; exact List.mem_cons_self
      | true => rw [hb] at hs; rw [hs]; exact List.mem_cons_of_mem _ List.mem_cons_self
def dpK (us : List UnitM) (need spare : List Int) : Nat → List StepM
  | 0 => [⟨staysL us, 0, []⟩]
  | k + 1 => hourF us (need.getD k 0) (spare.getD k 0) (setsL us.length) (dpK us need spare k) []
theorem Way.stay_inj {us : List UnitM} {need spare : List Int} {k : Nat} (hm : MayUs us) (h4 : us.length ≤ 4) {a b : StepM} (ha : Way us need spare k a) (hb : Way us need spare k b) (h : code a.stay = code b.stay) : a.stay = b.stay := by
  have h1 := valK_spec hm h4 _ _ _ ha.v
  have h2 := valK_spec hm h4 _ _ _ hb.v
  exact code_inj (h1.1.trans h2.1.symm) h1.2.1 h2.2.1 h
theorem extend_way {us : List UnitM} {need spare : List Int} {k : Nat} {x s : StepM} {r : List Bool} (hx : Way us need spare k x) (hr : r.length = us.length) (h : extend us (need.getD k 0) (spare.getD k 0) x r = some s) : Way us need spare (k + 1) s := by
  unfold extend at h
  split at h
  · cases h
  · rename_i t c hs
    cases h
    exact hx.more hr hs
theorem rowF_inv {us : List UnitM} {need spare : List Int} {k : Nat} (hm : MayUs us) (h4 : us.length ≤ 4) {x : StepM} (hx : Way us need spare k x) : ∀ (rs : List (List Bool)) (acc : List StepM), (∀ r ∈ rs, r.length = us.length) → (∀ s ∈ acc, Way us need spare (k + 1) s) →
    (∀ s ∈ rowF us (need.getD k 0) (spare.getD k 0) x rs acc, Way us need spare (k + 1) s) ∧ (∀ s, Dom us.length acc s → Dom us.length (rowF us (need.getD k 0) (spare.getD k 0) x rs acc) s) ∧
    (∀ r ∈ rs, ∀ s, extend us (need.getD k 0) (spare.getD k 0) x r = some s → Dom us.length (rowF us (need.getD k 0) (spare.getD k 0) x rs acc) s)
  | [], acc, _, ha => ⟨ha, fun s h => h, fun r hr => absurd hr List.not_mem_nil⟩
  | r :: rs, acc, hr, ha => by
    have hr0 := hr r List.mem_cons_self
    have key : (∀ s ∈ putO us (need.getD k 0) (spare.getD k 0) x acc r, Way us need spare (k + 1) s) ∧ (∀ s, Dom us.length acc s → Dom us.length (putO us (need.getD k 0) (spare.getD k 0) x acc r) s) ∧ (∀ s, extend us (need.getD k 0) (spare.getD k 0) x r = some s → Dom us.length (putO us (need.getD k 0) (spare.getD k 0) x acc r) s) := by
      unfold putO
      cases he : extend us (need.getD k 0) (spare.getD k 0) x r with
      | none => exact ⟨ha, fun s h => h, fun s h => by cases h⟩
      | some s =>
        have hw := extend_way hx hr0 he
        have hi : ∀ y ∈ acc, code y.stay = code s.stay → y.stay = s.stay := fun y hy => (ha y hy).stay_inj hm h4 hw
        refine ⟨fun y hy => ?_, fun y hy => putL_old_dom acc hi hy, fun y hy => ?_⟩
        · rcases putL_mem acc hy with h | h
          · rw [h]; exact hw
          · exact ha y h
        · cases hy
          exact putL_new_dom acc hi
    have ih := rowF_inv hm h4 hx rs (putO us (need.getD k 0) (spare.getD k 0) x acc r) (fun r' h => hr r' (List.mem_cons_of_mem _ h)) key.1
    refine ⟨ih.1, fun s h => ih.2.1 s (key.2.1 s h), fun r' hr' s h => ?_⟩
    rcases List.mem_cons.1 hr' with h' | h'
    · subst h'
      exact ih.2.1 s (key.2.2 s h)
    · exact ih.2.2 r' h' s h
theorem hourF_inv {us : List UnitM} {need spare : List Int} {k : Nat} (hm : MayUs us) (h4 : us.length ≤ 4) : ∀ (now acc : List StepM), (∀ x ∈ now, Way us need spare k x) → (∀ s ∈ acc, Way us need spare (k + 1) s) →
    (∀ s ∈ hourF us (need.getD k 0) (spare.getD k 0) (setsL us.length) now acc, Way us need spare (k + 1) s) ∧ (∀ s, Dom us.length acc s → Dom us.length (hourF us (need.getD k 0) (spare.getD k 0) (setsL us.length) now acc) s) ∧
    (∀ x ∈ now, ∀ r, r.length = us.length → ∀ s, extend us (need.getD k 0) (spare.getD k 0) x r = some s → Dom us.length (hourF us (need.getD k 0) (spare.getD k 0) (setsL us.length) now acc) s)
  | [], acc, _, ha => ⟨ha, fun s h => h, fun x hx => absurd hx List.not_mem_nil⟩
  | x :: now, acc, hx, ha => by
    have key := rowF_inv hm h4 (hx x List.mem_cons_self) (setsL us.length) acc (fun r hr => (setsL_mem _ r).1 hr) ha
    have ih := hourF_inv hm h4 now _ (fun y hy => hx y (List.mem_cons_of_mem _ hy)) key.1
    refine ⟨ih.1, fun s h => ih.2.1 s (key.2.1 s h), fun y hy r hr s h => ?_⟩
    rcases List.mem_cons.1 hy with h' | h'
    · subst h'
      exact ih.2.1 s (key.2.2 r ((setsL_mem _ r).2 hr) s h)
    · exact ih.2.2 y h' r hr s h
theorem stepV_cost {us : List UnitM} {need spare : Int} {t l : List Int} {c c' x : Int} {on : List Bool} (h : stepV us need spare t c on = .ok (l, x)) : stepV us need spare t c' on = .ok (l, c' + (x - c)) := by
  unfold stepV at h ⊢
  cases hn : nextL us t on with
  | none => rw [hn] at h; cases h
  | some p =>
    obtain ⟨l0, s⟩ := p
    rw [hn] at h
    cases hh : hourC us on need spare with
    | none => simp only [hh] at h; cases h
    | some y =>
      simp only [hh] at h ⊢
      cases h
      congr 2
      omega
theorem dpK_inv {us : List UnitM} {need spare : List Int} (hm : MayUs us) (h4 : us.length ≤ 4) : ∀ k, (∀ s ∈ dpK us need spare k, Way us need spare k s) ∧ ∀ s, Way us need spare k s → Dom us.length (dpK us need spare k) s
  | 0 => by
    refine ⟨fun s hs => ?_, fun s hs => ⟨⟨staysL us, 0, []⟩, List.mem_singleton.2 rfl, ?_⟩⟩
    · rw [List.mem_singleton.1 hs]; exact Way.start us need spare
    · have hv := hs.v
      rw [valK] at hv
      have e1 : staysL us = s.stay := congrArg Prod.fst (Except.ok.inj hv)
      have e2 : (0 : Int) = s.cost := congrArg Prod.snd (Except.ok.inj hv)
      have e3 : s.on = [] := List.length_eq_zero_iff.1 hs.len
      exact ⟨e1, .inr ⟨e2, by rw [e3]; exact Nat.le_refl _⟩⟩
  | k + 1 => by
    obtain ⟨ih1, ih2⟩ := dpK_inv hm h4 (need := need) (spare := spare) k
    have key := hourF_inv hm h4 (dpK us need spare k) [] ih1 (fun s hs => absurd hs List.not_mem_nil)
    refine ⟨key.1, fun s hs => ?_⟩
    obtain ⟨s0, r, hw, hr, hon, hst⟩ := hs.less
    obtain ⟨x, hx, h1, h2⟩ := ih2 s0 hw
    have hst' := stepV_cost (c' := x.cost) hst
    have he : extend us (need.getD k 0) (spare.getD k 0) x r = some ⟨s.stay, x.cost + (s.cost - s0.cost), x.on ++ [r]⟩ := by
      rw [extend, h1, hst']
    obtain ⟨y, hy, h3, h5⟩ := key.2.2 x hx r hr _ he
    refine ⟨y, hy, h3, h5.trans ?_⟩
    show Le (x.cost + (s.cost - s0.cost)) (sched us.length (x.on ++ [r])) s.cost (sched us.length s.on)
    rw [hon, sched_snoc, sched_snoc]
    rcases h2 with h2 | ⟨h2, h2'⟩
    · exact .inl (by omega)
    · exact .inr ⟨by omega, Nat.add_le_add_right (Nat.mul_le_mul_right _ h2') _⟩
/-- The first of the best. -/
def pickF (n : Nat) (b : StepM) (l : List StepM) : StepM := l.foldl (fun b x => if bet n x b then x else b) b
theorem pickF_spec (n : Nat) : ∀ (l : List StepM) (b : StepM), pickF n b l ∈ b :: l ∧ ∀ x ∈ b :: l, Le (pickF n b l).cost (sched n (pickF n b l).on) x.cost (sched n x.on)
  | [], b => ⟨List.mem_singleton.2 rfl, fun x hx => by rw [List.mem_singleton.1 hx]; exact Le.refl _ _⟩
  | y :: l, b => by
    show pickF n (if bet n y b then y else b) l ∈ _ ∧ ∀ x ∈ b :: y :: l, Le (pickF n (if bet n y b then y else b) l).cost _ _ _
    have ih := pickF_spec n l (if bet n y b then y else b)
    refine ⟨?_, fun x hx => ?_⟩
    · rcases List.mem_cons.1 ih.1 with h | h
      · rw [h]
        split
        · exact List.mem_cons_of_mem _ List.mem_cons_self
        · exact List.mem_cons_self
      · exact List.mem_cons_of_mem _ (List.mem_cons_of_mem _ h)
    · have h0 := ih.2 _ List.mem_cons_self
      rcases List.mem_cons.1 hx with h | h
      · subst h
        refine h0.trans ?_
        split
        · rename_i hb; exact bet_yes hb
        · exact Le.refl _ _
      · rcases List.mem_cons.1 h with h | h
        · subst h
          refine h0.trans ?_
          split
          · exact Le.refl _ _
          · rename_i hb; exact bet_no (by simpa using hb)
        · exact ih.2 x (List.mem_cons_of_mem _ h)
/-- P9.5: no way is better. -/
structure BestIs (us : List UnitM) (need spare : List Int) (s : StepM) : Prop where
  way : Way us need spare need.length s
  least : ∀ x, Way us need spare need.length x → Le s.cost (sched us.length s.on) x.cost (sched us.length x.on)
theorem BestIs.one {us : List UnitM} {need spare : List Int} {a b : StepM} (ha : BestIs us need spare a) (hb : BestIs us need spare b) : a.on = b.on ∧ a.cost = b.cost := by
  have h1 := ha.least b hb.way
  have h2 := hb.least a ha.way
  unfold Le at h1 h2
  exact ⟨sched_inj (ha.way.len.trans hb.way.len.symm) ha.way.rows hb.way.rows (by omega), by omega⟩
theorem dp_best {us : List UnitM} {need spare : List Int} (hm : MayUs us) (h4 : us.length ≤ 4) {b : StepM} {l : List StepM} (h : dpK us need spare need.length = b :: l) : BestIs us need spare (pickF us.length b l) := by
  obtain ⟨h1, h2⟩ := dpK_inv hm h4 (need := need) (spare := spare) need.length
  have h3 := pickF_spec us.length l b
  rw [h] at h1 h2
  refine ⟨h1 _ h3.1, fun x hx => ?_⟩
  obtain ⟨y, hy, _, h5⟩ := h2 x hx
  exact (h3.2 y hy).trans h5
theorem dp_none {us : List UnitM} {need spare : List Int} (hm : MayUs us) (h4 : us.length ≤ 4) (h : dpK us need spare need.length = []) (s : StepM) : ¬ BestIs us need spare s := fun hb => by
  obtain ⟨y, hy, _⟩ := (dpK_inv hm h4 (need := need) (spare := spare) need.length).2 s hb.way
  rw [h] at hy
  exact absurd hy List.not_mem_nil
end Go.Proofs.Ytlbeecjkfakkpag
