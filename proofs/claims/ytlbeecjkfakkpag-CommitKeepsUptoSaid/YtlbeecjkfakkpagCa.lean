/- The best schedule, as plain words: of all that can be the cheapest, the first of several; hour by hour, of all ways to stand the best that leads there. -/
import Derived.Test.YtlbeecjkfakkpagC9
namespace Go.Proofs.Ytlbeecjkfakkpag
open Go.RowKit Go.Shelf

/-- Digits to a base, as a number. -/
def val (B : Nat) : List Nat → Nat
  | [] => 0
  | d :: l => d * B ^ l.length + val B l
theorem val_lt {B : Nat} : ∀ (l : List Nat), (∀ d ∈ l, d < B) → val B l < B ^ l.length
  | [], _ => by simp [val]
  | d :: l, h => by
    have h1 : d < B := h d List.mem_cons_self
    have ih := val_lt l (fun x hx => h x (List.mem_cons_of_mem _ hx))
    rw [val, List.length_cons, Nat.pow_succ]
    have : (d + 1) * B ^ l.length ≤ B * B ^ l.length := Nat.mul_le_mul_right _ h1
    rw [Nat.add_mul, Nat.one_mul] at this
    rw [Nat.mul_comm (B ^ l.length) B]
    omega
theorem val_snoc (B : Nat) (d : Nat) : ∀ (l : List Nat), val B (l ++ [d]) = val B l * B + d
  | [] => by simp [val]
  | x :: l => by
    rw [List.cons_append, val, val_snoc B d l, val, List.length_append, List.length_singleton, Nat.pow_succ, Nat.add_mul, ← Nat.mul_assoc]
    omega
theorem val_first {B : Nat} : ∀ (a b : List Nat) (m : Nat), a.length = b.length → (∀ d ∈ a, d < B) → (∀ d ∈ b, d < B) → (∀ j, j < m → a.getD j 0 = b.getD j 0) → a.getD m 0 < b.getD m 0 → val B a < val B b
  | [], [], m, _, _, _, _, h => by simp at h
  | x :: a, y :: b, 0, hl, ha, hb, _, h => by
    have hl' : a.length = b.length := by simpa using hl
    have h1 := val_lt a (fun d hd => ha d (List.mem_cons_of_mem _ hd))
    have hx : x < y := h
    rw [val, val, hl'] at *
    have : (x + 1) * B ^ b.length ≤ y * B ^ b.length := Nat.mul_le_mul_right _ hx
    rw [Nat.add_mul, Nat.one_mul] at this
    omega
  | x :: a, y :: b, m + 1, hl, ha, hb, he, h => by
    have hl' : a.length = b.length := by simpa using hl
    have e : x = y := he 0 (by omega)
    have ih := val_first a b m hl' (fun d hd => ha d (List.mem_cons_of_mem _ hd)) (fun d hd => hb d (List.mem_cons_of_mem _ hd)) (fun j hj => he (j + 1) (by omega)) h
    rw [val, val, hl', e]
    omega
theorem val_inj {B : Nat} : ∀ (a b : List Nat), a.length = b.length → (∀ d ∈ a, d < B) → (∀ d ∈ b, d < B) → val B a = val B b → a = b
  | [], [], _, _, _, _ => rfl
  | x :: a, y :: b, hl, ha, hb, h => by
    have hl' : a.length = b.length := by simpa using hl
    have h1 := val_lt a (fun d hd => ha d (List.mem_cons_of_mem _ hd))
    have h2 := val_lt b (fun d hd => hb d (List.mem_cons_of_mem _ hd))
    rw [val, val, hl'] at h
    rw [hl'] at h1
    have e : x = y := by
      rcases Nat.lt_trichotomy x y with hx | hx | hx
      · have : (x + 1) * B ^ b.length ≤ y * B ^ b.length := Nat.mul_le_mul_right _ hx
        rw [Nat.add_mul, Nat.one_mul] at this
        omega
      · exact hx
      · have : (y + 1) * B ^ b.length ≤ x * B ^ b.length := Nat.mul_le_mul_right _ hx
        rw [Nat.add_mul, Nat.one_mul] at this
        omega
    subst e
    rw [val_inj a b hl' (fun d hd => ha d (List.mem_cons_of_mem _ hd)) (fun d hd => hb d (List.mem_cons_of_mem _ hd)) (by omega)]
def num (r : List Bool) : Nat := val 2 (r.map Bool.toNat)
theorem bits_lt (r : List Bool) : ∀ d ∈ r.map Bool.toNat, d < 2 := fun d hd => by
  obtain ⟨b, _, rfl⟩ := List.mem_map.1 hd
  exact Bool.toNat_lt b
theorem num_lt (r : List Bool) : num r < 2 ^ r.length := by have := val_lt _ (bits_lt r); rwa [List.length_map] at this
theorem num_inj {a b : List Bool} (hl : a.length = b.length) (h : num a = num b) : a = b := by
  have := val_inj _ _ (by rw [List.length_map, List.length_map]; exact hl) (bits_lt a) (bits_lt b) h
  exact (List.map_inj_right (fun x y h => by cases x <;> cases y <;> simp_all)).1 this
/-- A schedule's number: the first of several is the least. -/
def sched (n : Nat) (on : List (List Bool)) : Nat := val (2 ^ n) (on.map num)
theorem rows_lt {n : Nat} {on : List (List Bool)} (h : ∀ r ∈ on, r.length = n) : ∀ d ∈ on.map num, d < 2 ^ n := fun d hd => by
  obtain ⟨r, hr, rfl⟩ := List.mem_map.1 hd
  have := num_lt r
  rwa [h r hr] at this
theorem sched_snoc (n : Nat) (on : List (List Bool)) (r : List Bool) : sched n (on ++ [r]) = sched n on * 2 ^ n + num r := by rw [sched, List.map_append, List.map_singleton, val_snoc]; rfl
theorem sched_inj {n : Nat} {a b : List (List Bool)} (hl : a.length = b.length) (ha : ∀ r ∈ a, r.length = n) (hb : ∀ r ∈ b, r.length = n) (h : sched n a = sched n b) : a = b := by
  have h1 := val_inj _ _ (by rw [List.length_map, List.length_map]; exact hl) (rows_lt ha) (rows_lt hb) h
  apply List.ext_getElem hl
  intro i h2 h3
  have := congrArg (fun l => l[i]?) h1
  simp only [List.getElem?_map, List.getElem?_eq_getElem h2, List.getElem?_eq_getElem h3, Option.map_some, Option.some.injEq] at this
  exact num_inj (by rw [ha _ (List.getElem_mem h2), hb _ (List.getElem_mem h3)]) this
/-- Which of two comes first: the cheaper one, or of the same cost the first one. -/
def Le (c : Int) (a : Nat) (c' : Int) (a' : Nat) : Prop := c < c' ∨ (c = c' ∧ a ≤ a')
theorem Le.refl (c : Int) (a : Nat) : Le c a c a := .inr ⟨rfl, Nat.le_refl _⟩
theorem Le.trans {c c' c'' : Int} {a a' a'' : Nat} (h : Le c a c' a') (h' : Le c' a' c'' a'') : Le c a c'' a'' := by unfold Le at *; omega
structure StepM where
  stay : List Int
  cost : Int
  on : List (List Bool)
/-- A way to stand, behind so many hours. -/
structure Way (us : List UnitM) (need spare : List Int) (k : Nat) (s : StepM) : Prop where
  len : s.on.length = k
  rows : ∀ r ∈ s.on, r.length = us.length
  v : valK us need spare s.on k = .ok (s.stay, s.cost)
theorem valK_prefix {us : List UnitM} {need spare : List Int} {a b : List (List Bool)} : ∀ (k : Nat), (∀ j, j < k → a.getD j [] = b.getD j []) → valK us need spare a k = valK us need spare b k
  | 0, _ => rfl
  | k + 1, h => by rw [valK, valK, valK_prefix k (fun j hj => h j (by omega)), h k (by omega)]
theorem getD_snoc_lt {α : Type} {l : List α} {x d : α} {j : Nat} (h : j < l.length) : (l ++ [x]).getD j d = l.getD j d := by
  rw [List.getD_eq_getElem?_getD, List.getElem?_append_left h, List.getD_eq_getElem?_getD]
theorem getD_snoc_eq {α : Type} {l : List α} {x d : α} : (l ++ [x]).getD l.length d = x := by
  rw [List.getD_eq_getElem?_getD, List.getElem?_append_right (Nat.le_refl _), Nat.sub_self]; rfl
theorem Way.start (us : List UnitM) (need spare : List Int) : Way us need spare 0 ⟨staysL us, 0, []⟩ := ⟨rfl, fun _r hr => absurd hr List.not_mem_nil, rfl⟩
theorem Way.more {us : List UnitM} {need spare : List Int} {k : Nat} {s : StepM} {r : List Bool} {t : List Int} {c : Int} (h : Way us need spare k s) (hr : r.length = us.length) (hs : stepV us (need.getD k 0) (spare.getD k 0) s.stay s.cost r = .ok (t, c)) : Way us need spare (k + 1) ⟨t, c, s.on ++ [r]⟩ := by
  refine ⟨by simp [h.len], fun x hx => ?_, ?_⟩
  · rcases List.mem_append.1 hx with hx | hx
    · exact h.rows x hx
    · rw [List.mem_singleton.1 hx]; exact hr
  · show valK us need spare (s.on ++ [r]) (k + 1) = _
    rw [valK, valK_prefix (b := s.on) k (fun j hj => getD_snoc_lt (by rw [h.len]; exact hj)), h.v]
    simp only
    rw [show (s.on ++ [r]).getD k [] = r by rw [← h.len]; exact getD_snoc_eq]
    exact hs
theorem Way.less {us : List UnitM} {need spare : List Int} {k : Nat} {s : StepM} (h : Way us need spare (k + 1) s) : ∃ (s0 : StepM) (r : List Bool), Way us need spare k s0 ∧ r.length = us.length ∧ s.on = s0.on ++ [r] ∧ stepV us (need.getD k 0) (spare.getD k 0) s0.stay s0.cost r = .ok (s.stay, s.cost) := by
  have hne : s.on ≠ [] := by intro e; have := h.len; rw [e] at this; cases this
  have hsplit := List.dropLast_concat_getLast hne
  have hdl : s.on.dropLast.length = k := by rw [List.length_dropLast, h.len]; rfl
  have hv := h.v
  rw [valK] at hv
  cases hk : valK us need spare s.on k with
  | error e => rw [hk] at hv; cases hv
  | ok p =>
    obtain ⟨t, c⟩ := p
    simp only [hk] at hv
    refine ⟨⟨t, c, s.on.dropLast⟩, s.on.getLast hne, ⟨hdl, fun r hr => h.rows r (List.dropLast_subset _ hr), ?_⟩, h.rows _ (List.getLast_mem hne), hsplit.symm, ?_⟩
    · show valK us need spare s.on.dropLast k = _
      rw [← hk]
      refine valK_prefix k (fun j hj => ?_)
      conv => rhs; rw [← hsplit]
      rw [getD_snoc_lt (by rw [hdl]; exact hj)]
    · have : s.on.getD k [] = s.on.getLast hne := by
        conv => lhs; rw [← hsplit]
        rw [← hdl]; exact getD_snoc_eq
      rw [← this]
      exact hv
end Go.Proofs.Ytlbeecjkfakkpag
