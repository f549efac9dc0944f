/- How far the goal is, and the first move that leads nearer: pure. -/
import Derived.Test.YtcnoipcpifackahB0
namespace Go.Proofs.Ytcnoipcpifackah

/-- Where moves lead. -/
def runK (f : Nat → Nat → Option Nat) : Nat → List Nat → Option Nat
  | s, [] => some s
  | s, k :: r => match f s k with
    | some t => runK f t r
    | none => none
/-- Of rows of one length the first. -/
def lexL : List Nat → List Nat → Prop
  | [], _ => True
  | a :: r, b :: s => a < b ∨ (a = b ∧ lexL r s)
  | _ :: _, [] => False
/-- The shorter, of one length the first. -/
def sl (p q : List Nat) : Prop := p.length < q.length ∨ (p.length = q.length ∧ lexL p q)
theorem lex_refl : ∀ p, lexL p p
  | [] => trivial
  | _ :: r => .inr ⟨rfl, lex_refl r⟩
theorem lex_trans : ∀ {p q r : List Nat}, p.length = q.length → q.length = r.length → lexL p q → lexL q r → lexL p r
  | [], _, _, _, _, _, _ => trivial
  | a :: p, [], _, h, _, _, _ => by simp at h
  | a :: p, b :: q, [], _, h, _, _ => by simp at h
  | a :: p, b :: q, c :: r, h1, h2, h3, h4 => by
    simp only [List.length_cons, Nat.add_right_cancel_iff] at h1 h2
    rcases h3 with h3 | ⟨rfl, h3⟩
    · rcases h4 with h4 | ⟨rfl, _⟩
      · exact .inl (Nat.lt_trans h3 h4)
      · exact .inl h3
    · rcases h4 with h4 | ⟨rfl, h4⟩
      · exact .inl h4
      · exact .inr ⟨rfl, lex_trans h1 h2 h3 h4⟩
theorem lex_anti : ∀ {p q : List Nat}, p.length = q.length → lexL p q → lexL q p → p = q
  | [], [], _, _, _ => rfl
  | [], _ :: _, h, _, _ => by simp at h
  | _ :: _, [], h, _, _ => by simp at h
  | a :: p, b :: q, h, h1, h2 => by
    simp only [List.length_cons, Nat.add_right_cancel_iff] at h
    rcases h1 with h1 | ⟨rfl, h1⟩
    · rcases h2 with h2 | ⟨rfl, _⟩ <;> omega
    · rcases h2 with h2 | ⟨_, h2⟩
      · omega
      · rw [lex_anti h h1 h2]
theorem lex_snoc : ∀ {p q : List Nat} (a b : Nat), p.length = q.length → lexL p q → (p = q → a ≤ b) → lexL (p ++ [a]) (q ++ [b])
  | [], [], a, b, _, _, h => by
    have h3 := h rfl
    rcases Nat.lt_or_ge a b with h4 | h4
    · exact .inl h4
    · exact .inr ⟨by omega, trivial⟩
  | [], _ :: _, _, _, h, _, _ => by simp at h
  | _ :: _, [], _, _, h, _, _ => by simp at h
  | x :: p, y :: q, a, b, h, h1, h2 => by
    simp only [List.length_cons, Nat.add_right_cancel_iff] at h
    rcases h1 with h1 | ⟨rfl, h1⟩
    · exact .inl h1
    · exact .inr ⟨rfl, lex_snoc a b h h1 (fun e => h2 (by rw [e]))⟩
theorem sl_refl (p : List Nat) : sl p p := .inr ⟨rfl, lex_refl p⟩
theorem sl_trans {p q r : List Nat} (h1 : sl p q) (h2 : sl q r) : sl p r := by
  rcases h1 with h1 | ⟨e1, h1⟩
  · rcases h2 with h2 | ⟨e2, _⟩
    · exact .inl (Nat.lt_trans h1 h2)
    · exact .inl (by omega)
  · rcases h2 with h2 | ⟨e2, h2⟩
    · exact .inl (by omega)
    · exact .inr ⟨e1.trans e2, lex_trans e1 e2 h1 h2⟩
theorem sl_anti {p q : List Nat} (h1 : sl p q) (h2 : sl q p) : p = q := by
  rcases h1 with h1 | ⟨e1, h1⟩
  · rcases h2 with h2 | ⟨e2, _⟩ <;> omega
  · rcases h2 with h2 | ⟨_, h2⟩
    · omega
    · exact lex_anti e1 h1 h2
theorem sl_snoc {p q : List Nat} (k : Nat) (h : sl p q) : sl (p ++ [k]) (q ++ [k]) := by
  rcases h with h | ⟨e, h⟩
  · exact .inl (by simp; exact h)
  · exact .inr ⟨by simp [e], lex_snoc k k e h (fun _ => Nat.le_refl _)⟩
theorem sl_more {p q : List Nat} (k : Nat) (h : sl p q) : sl p (q ++ [k]) := by
  rcases h with h | ⟨e, _⟩
  · exact .inl (by rw [List.length_append]; exact Nat.lt_of_lt_of_le h (Nat.le_add_right _ _))
  · exact .inl (by rw [List.length_append, e]; exact Nat.lt_succ_self _)
theorem run_snoc (f : Nat → Nat → Option Nat) : ∀ (s : Nat) (p : List Nat) (k t : Nat), runK f s (p ++ [k]) = some t ↔ ∃ c, runK f s p = some c ∧ f c k = some t
  | s, [], k, t => by
    show (match f s k with | some t => runK f t [] | none => none) = some t ↔ _
    constructor
    · intro h
      refine ⟨s, rfl, ?_⟩
      cases e : f s k with
      | none => rw [e] at h; cases h
      | some u => rw [e] at h; exact h
    · rintro ⟨c, h1, h2⟩
      cases h1
      rw [h2]
      rfl
  | s, a :: p, k, t => by
    show (match f s a with | some u => runK f u (p ++ [k]) | none => none) = some t ↔ ∃ c, (match f s a with | some u => runK f u p | none => none) = some c ∧ f c k = some t
    cases f s a with
    | none => exact ⟨fun h => (by cases h), fun h => (by obtain ⟨_, h, _⟩ := h; cases h)⟩
    | some u => exact run_snoc f u p k t
/-- The row of moves that is asked for. -/
def BestP (f : Nat → Nat → Option Nat) (s g : Nat) (p : List Nat) : Prop := runK f s p = some g ∧ ∀ q, runK f s q = some g → sl p q
theorem best_one {f : Nat → Nat → Option Nat} {s g : Nat} {p q : List Nat} (h1 : BestP f s g p) (h2 : BestP f s g q) : p = q := sl_anti (h1.2 q h2.1) (h2.2 p h1.1)
/-- A search in breadth: places reached, with the moves that led there; those ahead of 'at' are done, of 'at' the first k moves. -/
structure Bfs (f : Nat → Nat → Option Nat) (s : Nat) (R : List (Nat × List Nat)) (a k : Nat) : Prop where
  first : R[0]? = some (s, [])
  run : ∀ (i c : Nat) (p : List Nat), R[i]? = some (c, p) → runK f s p = some c
  inc : ∀ (i j c : Nat) (p : List Nat) (d : Nat) (q : List Nat), i < j → R[i]? = some (c, p) → R[j]? = some (d, q) → sl p q ∧ p ≠ q
  dis : ∀ (i j c : Nat) (p q : List Nat), R[i]? = some (c, p) → R[j]? = some (c, q) → i = j
  done : ∀ (i c : Nat) (p : List Nat) (m t : Nat), R[i]? = some (c, p) → (i < a ∨ (i = a ∧ m < k)) → f c m = some t → ∃ (j : Nat) (q : List Nat), R[j]? = some (t, q) ∧ sl q (p ++ [m])
  src : ∀ (j d : Nat) (q : List Nat), 0 < j → R[j]? = some (d, q) → ∃ (i c : Nat) (p : List Nat) (m : Nat), R[i]? = some (c, p) ∧ q = p ++ [m] ∧ (i < a ∨ (i = a ∧ m < k))
theorem Bfs.start (f : Nat → Nat → Option Nat) (s : Nat) : Bfs f s [(s, [])] 0 0 := by
  refine ⟨rfl, fun i c p h => ?_, fun i j c p d q hij h1 h2 => ?_, fun i j c p q h1 h2 => ?_, fun i c p m t h1 h2 _ => by omega, fun j d q hj h => ?_⟩
  · match i, h with
    | 0, h => cases h; rfl
    | i + 1, h => simp at h
  · match j, h2 with
    | 0, _ => omega
    | j + 1, h2 => simp at h2
  · match i, j, h1, h2 with
    | 0, 0, _, _ => rfl
    | 0, j + 1, _, h => simp at h
    | i + 1, _, h, _ => simp at h
  · match j, h with
    | 0, _ => omega
    | j + 1, h => simp at h
/-- A move that may not be, or leads to a place that is known. -/
theorem Bfs.skip {f : Nat → Nat → Option Nat} {s a k c : Nat} {R : List (Nat × List Nat)} {p : List Nat} (h : Bfs f s R a k) (ha : R[a]? = some (c, p)) (hk : ∀ t, f c k = some t → ∃ (j : Nat) (q : List Nat), R[j]? = some (t, q)) : Bfs f s R a (k + 1) := by
  refine ⟨h.first, h.run, h.inc, h.dis, fun i d q m t h1 h2 h3 => ?_, fun j d q hj h1 => ?_⟩
  · by_cases e : i = a ∧ m = k
    · obtain ⟨rfl, rfl⟩ := e
      rw [ha] at h1
      cases h1
      obtain ⟨j, r, hj⟩ := hk t h3
      refine ⟨j, r, hj, ?_⟩
      by_cases j0 : j = 0
      · subst j0
        rw [h.first] at hj
        cases hj
        exact .inl (by simp)
      · obtain ⟨i', c', p', m', g1, g2, g3⟩ := h.src j t r (Nat.pos_of_ne_zero j0) hj
        subst g2
        rcases g3 with g3 | ⟨rfl, g3⟩
        · obtain ⟨q1, q2⟩ := h.inc i' i c' p' c p g3 g1 ha
          rcases q1 with q1 | ⟨e1, q1⟩
          · exact .inl (by simp; exact q1)
          · exact .inr ⟨by simp [e1], lex_snoc _ _ e1 q1 (fun e => absurd e q2)⟩
        · rw [ha] at g1
          cases g1
          exact .inr ⟨by simp, lex_snoc _ _ rfl (lex_refl _) (fun _ => Nat.le_of_lt g3)⟩
    · exact h.done i d q m t h1 (by omega) h3
  · obtain ⟨i, c', p', m, g1, g2, g3⟩ := h.src j d q hj h1
    exact ⟨i, c', p', m, g1, g2, by omega⟩
/-- A move that leads to a new place. -/
theorem Bfs.more {f : Nat → Nat → Option Nat} {s a k c t : Nat} {R : List (Nat × List Nat)} {p : List Nat} (h : Bfs f s R a k) (ha : R[a]? = some (c, p)) (hf : f c k = some t) (hn : ∀ (j : Nat) (q : List Nat), R[j]? ≠ some (t, q)) : Bfs f s (R ++ [(t, p ++ [k])]) a (k + 1) := by
  have old : ∀ {i : Nat} {x : Nat × List Nat}, R[i]? = some x → (R ++ [(t, p ++ [k])])[i]? = some x := fun {i x} hx => by
    rw [List.getElem?_append_left (List.getElem?_eq_some_iff.1 hx).1]
    exact hx
  have back : ∀ {i : Nat} {x : Nat × List Nat}, (R ++ [(t, p ++ [k])])[i]? = some x → R[i]? = some x ∨ (i = R.length ∧ x = (t, p ++ [k])) := fun {i x} hx => by
    by_cases hi : i < R.length
    · left
      rwa [List.getElem?_append_left hi] at hx
    · right
      have hl := (List.getElem?_eq_some_iff.1 hx).1
      simp at hl
      have e : i = R.length := by omega
      subst e
      rw [List.getElem?_append_right (Nat.le_refl _)] at hx
      simp at hx
      exact ⟨rfl, hx.symm⟩
  have hlast : (R ++ [(t, p ++ [k])])[R.length]? = some (t, p ++ [k]) := by
    rw [List.getElem?_append_right (Nat.le_refl _)]
    simp
  have hbig : ∀ (i d : Nat) (q : List Nat), R[i]? = some (d, q) → sl q (p ++ [k]) ∧ q ≠ p ++ [k] := fun i d q hq => by
    by_cases i0 : i = 0
    · subst i0
      rw [h.first] at hq
      cases hq
      exact ⟨.inl (by simp), by simp⟩
    · obtain ⟨i', c', p', m', g1, g2, g3⟩ := h.src i d q (Nat.pos_of_ne_zero i0) hq
      subst g2
      rcases g3 with g3 | ⟨rfl, g3⟩
      · obtain ⟨q1, q2⟩ := h.inc i' a c' p' c p g3 g1 ha
        refine ⟨?_, fun e => q2 (List.append_inj_left' e rfl)⟩
        rcases q1 with q1 | ⟨e1, q1⟩
        · exact .inl (by simp; exact q1)
        · exact .inr ⟨by simp [e1], lex_snoc _ _ e1 q1 (fun e => absurd e q2)⟩
      · rw [ha] at g1
        cases g1
        refine ⟨.inr ⟨by simp, lex_snoc _ _ rfl (lex_refl _) (fun _ => Nat.le_of_lt g3)⟩, fun e => ?_⟩
        have := List.append_inj_right' e rfl
        simp at this
        omega
  refine ⟨old h.first, fun i d q hq => ?_, fun i j d q e r hij h1 h2 => ?_, fun i j d q r h1 h2 => ?_, fun i d q m u h1 h2 h3 => ?_, fun j d q hj hq => ?_⟩
  · rcases back hq with hq | ⟨_, hq⟩
    · exact h.run i d q hq
    · cases hq
      exact (run_snoc f s p k t).2 ⟨c, h.run a c p ha, hf⟩
  · rcases back h1 with h1 | ⟨e1, h1⟩
    · rcases back h2 with h2 | ⟨_, h2⟩
      · exact h.inc i j d q e r hij h1 h2
      · cases h2
        exact hbig i d q h1
    · have hl := (List.getElem?_eq_some_iff.1 h2).1
      simp at hl
      omega
  · rcases back h1 with h1 | ⟨e1, h1⟩
    · rcases back h2 with h2 | ⟨_, h2⟩
      · exact h.dis i j d q r h1 h2
      · cases h2
        exact absurd h1 (hn i q)
    · cases h1
      rcases back h2 with h2 | ⟨e2, _⟩
      · exact absurd h2 (hn j r)
      · omega
  · rcases back h1 with h1' | ⟨e1, h1'⟩
    · by_cases e : i = a ∧ m = k
      · obtain ⟨rfl, rfl⟩ := e
        rw [ha] at h1'
        cases h1'
        rw [hf] at h3
        cases h3
        exact ⟨R.length, _, hlast, sl_refl _⟩
      · obtain ⟨j, r, hj, hs⟩ := h.done i d q m u h1' (by omega) h3
        exact ⟨j, r, old hj, hs⟩
    · have := (List.getElem?_eq_some_iff.1 ha).1
      omega
  · rcases back hq with hq | ⟨_, hq⟩
    · obtain ⟨i, c', p', m, g1, g2, g3⟩ := h.src j d q hj hq
      exact ⟨i, c', p', m, old g1, g2, by omega⟩
    · cases hq
      exact ⟨a, c, p, k, old ha, rfl, by omega⟩
/-- All moves of a place are done. -/
theorem Bfs.next {f : Nat → Nat → Option Nat} {s a n : Nat} {R : List (Nat × List Nat)} (h : Bfs f s R a n) (hf : ∀ c m t, f c m = some t → m < n) : Bfs f s R (a + 1) 0 := by
  refine ⟨h.first, h.run, h.inc, h.dis, fun i d q m t h1 h2 h3 => ?_, fun j d q hj hq => ?_⟩
  · exact h.done i d q m t h1 (by have := hf d m t h3; omega) h3
  · obtain ⟨i, c', p', m, g1, g2, g3⟩ := h.src j d q hj hq
    exact ⟨i, c', p', m, g1, g2, by omega⟩
theorem Bfs.all {f : Nat → Nat → Option Nat} {s a : Nat} {R : List (Nat × List Nat)} (h : Bfs f s R a 0) : ∀ (n : Nat) (q : List Nat) (c : Nat), q.length = n → runK f s q = some c → (∃ (i : Nat) (p : List Nat), R[i]? = some (c, p) ∧ sl p q) ∨ (∃ (d : Nat) (p : List Nat), R[a]? = some (d, p) ∧ sl p q) := fun n => by
  induction n with
  | zero =>
    intro q c hq hr
    obtain rfl := List.eq_nil_of_length_eq_zero hq
    cases hr
    exact .inl ⟨0, [], h.first, sl_refl _⟩
  | succ n ih =>
    intro q c hq hr
    obtain ⟨q', k, rfl⟩ : ∃ q' k, q = q' ++ [k] := ⟨q.dropLast, q.getLast (by intro e; rw [e] at hq; simp at hq), (List.dropLast_concat_getLast _).symm⟩
    obtain ⟨c', h1, h2⟩ := (run_snoc f s q' k c).1 hr
    rcases ih q' c' (by simpa using hq) h1 with ⟨i, p, hi, hp⟩ | ⟨d, p, hd, hp⟩
    · by_cases hia : i < a
      · obtain ⟨j, r, hj, hs⟩ := h.done i c' p k c hi (.inl hia) h2
        exact .inl ⟨j, r, hj, sl_trans hs (sl_snoc k hp)⟩
      · right
        have hil := (List.getElem?_eq_some_iff.1 hi).1
        obtain ⟨x, hx⟩ : ∃ x, R[a]? = some x := ⟨R[a], List.getElem?_eq_getElem (by omega)⟩
        obtain ⟨d, p2⟩ := x
        refine ⟨d, p2, hx, sl_more k ?_⟩
        by_cases e : a = i
        · subst e
          rw [hi] at hx
          cases hx
          exact hp
        · exact sl_trans (h.inc a i d p2 c' p (by omega) hx hi).1 hp
    · exact .inr ⟨d, p, hd, sl_more k hp⟩
/-- What is popped first is best. -/
theorem Bfs.found {f : Nat → Nat → Option Nat} {s a g : Nat} {R : List (Nat × List Nat)} {p : List Nat} (h : Bfs f s R a 0) (hg : R[a]? = some (g, p)) : BestP f s g p := by
  refine ⟨h.run a g p hg, fun q hq => ?_⟩
  rcases h.all q.length q g rfl hq with ⟨i, r, hi, hs⟩ | ⟨d, r, hd, hs⟩
  · obtain rfl := h.dis i a g r p hi hg
    rw [hg] at hi
    cases hi
    exact hs
  · rw [hg] at hd
    cases hd
    exact hs
theorem Bfs.none {f : Nat → Nat → Option Nat} {s a g : Nat} {R : List (Nat × List Nat)} (h : Bfs f s R a 0) (ha : R.length ≤ a) (hg : ∀ (i : Nat) (p : List Nat), R[i]? ≠ some (g, p)) (q : List Nat) : runK f s q ≠ some g := fun hq => by
  rcases h.all q.length q g rfl hq with ⟨i, r, hi, _⟩ | ⟨d, r, hd, _⟩
  · exact hg i r hi
  · have := (List.getElem?_eq_some_iff.1 hd).1
    omega
end Go.Proofs.Ytcnoipcpifackah
namespace Go.Proofs.Ytcnoipcpifackah

theorem pigeon : ∀ (n : Nat) (l : List Nat), l.Nodup → (∀ x ∈ l, x < n) → l.length ≤ n
  | 0, l, _, h => by
    match l, h with
    | [], _ => exact Nat.le_refl _
    | x :: _, h => exact absurd (h x List.mem_cons_self) (Nat.not_lt_zero _)
  | n + 1, l, hd, h => by
    have h1 := pigeon n (l.erase n) (hd.erase n) (fun x hx => by
      have h2 := (List.Nodup.mem_erase_iff hd).1 hx
      have h3 := h x h2.2
      have := h2.1
      omega)
    have h4 : l.length ≤ (l.erase n).length + 1 := by
      by_cases hm : n ∈ l
      · rw [List.length_erase_of_mem hm]
        have := List.length_pos_of_mem hm
        omega
      · rw [List.erase_of_not_mem hm]
        omega
    omega
/-- While the distances are found. -/
structure Rlx (f : Nat → Nat → Option Nat) (e all : Nat) (D : Nat → Nat) : Prop where
  z : D e = 0
  top : ∀ c, D c ≤ all
  path : ∀ c, c < all → D c < all → ∃ q, runK f c q = some e ∧ q.length = D c
theorem Rlx.start (f : Nat → Nat → Option Nat) {e all : Nat} {D : Nat → Nat} (h : ∀ c, D c = if c = e then 0 else all) : Rlx f e all D := by
  refine ⟨by rw [h, if_pos rfl], fun c => by rw [h]; split <;> omega, fun c _ hd => ?_⟩
  rw [h] at hd
  split at hd
  · next e1 => exact ⟨[], by rw [e1]; rfl, by rw [h, if_pos e1]; rfl⟩
  · omega
theorem Rlx.relax {f : Nat → Nat → Option Nat} {e all c k t : Nat} {D D' : Nat → Nat} (h : Rlx f e all D) (hf : f c k = some t) (ht : t < all) (hlt : D t + 1 < D c) (hD : ∀ x, D' x = if x = c then D t + 1 else D x) : Rlx f e all D' := by
  have hc := h.top c
  have hne : e ≠ c := fun q => by
    subst q
    have := h.z
    omega
  refine ⟨by rw [hD, if_neg hne]; exact h.z, fun x => by rw [hD]; split; omega; exact h.top x, fun x hx hd => ?_⟩
  by_cases hxc : x = c
  · subst hxc
    obtain ⟨q, h1, h2⟩ := h.path t ht (by omega)
    refine ⟨k :: q, ?_, by rw [hD, if_pos rfl, List.length_cons, h2]⟩
    show (match f x k with | some u => runK f u q | none => none) = some e
    rw [hf]
    exact h1
  · rw [hD, if_neg hxc] at hd ⊢
    exact h.path x hx hd
/-- The distances are found. -/
structure Far (f : Nat → Nat → Option Nat) (e all : Nat) (D : Nat → Nat) : Prop where
  r : Rlx f e all D
  ea : e < all
  cl : ∀ c k t, c < all → f c k = some t → t < all
  le : ∀ c k t, c < all → f c k = some t → D c ≤ D t + 1
section
variable {f : Nat → Nat → Option Nat} {e all : Nat} {D : Nat → Nat}
theorem Far.low (h : Far f e all D) : ∀ (q : List Nat) (c : Nat), c < all → runK f c q = some e → D c ≤ q.length
  | [], c, _, hr => by
    cases hr
    rw [h.r.z]
    exact Nat.zero_le _
  | k :: q, c, hc, hr => by
    have hr' : (match f c k with | some u => runK f u q | none => none) = some e := hr
    cases hf : f c k with
    | none => rw [hf] at hr'; cases hr'
    | some t =>
      rw [hf] at hr'
      have h1 := h.low q t (h.cl c k t hc hf) hr'
      have h2 := h.le c k t hc hf
      rw [List.length_cons]
      omega
theorem Far.step (h : Far f e all D) {c : Nat} (hc : c < all) (hd : D c < all) (h0 : D c ≠ 0) : ∃ k t, f c k = some t ∧ D t + 1 = D c ∧ t < all := by
  obtain ⟨q, h1, h2⟩ := h.r.path c hc hd
  match q, h1, h2 with
  | [], _, h2 => exact absurd h2.symm h0
  | k :: q, h1, h2 =>
    have h1' : (match f c k with | some u => runK f u q | none => none) = some e := h1
    cases hf : f c k with
    | none => rw [hf] at h1'; cases h1'
    | some t =>
      rw [hf] at h1'
      have ht := h.cl c k t hc hf
      have h3 := h.low q t ht h1'
      have h4 := h.le c k t hc hf
      rw [List.length_cons] at h2
      exact ⟨k, t, hf, by omega, ht⟩
theorem Far.chain (h : Far f e all D) : ∀ (m c : Nat), c < all → D c = m → m < all → ∃ l : List Nat, l.length = m + 1 ∧ l.Nodup ∧ ∀ x ∈ l, x < all ∧ D x ≤ m
  | 0, c, hc, hd, _ => ⟨[c], rfl, List.pairwise_singleton _ _, fun x hx => by rw [List.mem_singleton.1 hx]; exact ⟨hc, by omega⟩⟩
  | m + 1, c, hc, hd, hm => by
    obtain ⟨k, t, _, h2, h3⟩ := h.step hc (by omega) (by omega)
    obtain ⟨l, g1, g2, g3⟩ := h.chain m t h3 (by omega) (by omega)
    refine ⟨c :: l, by rw [List.length_cons, g1], List.nodup_cons.2 ⟨fun q => ?_, g2⟩, fun x hx => ?_⟩
    · have := (g3 c q).2
      omega
    · rcases List.mem_cons.1 hx with rfl | hx
      · exact ⟨hc, by omega⟩
      · exact ⟨(g3 x hx).1, Nat.le_succ_of_le (g3 x hx).2⟩
theorem Far.there (h : Far f e all D) : ∀ (q : List Nat) (c : Nat), c < all → runK f c q = some e → D c < all
  | [], c, _, hr => by
    cases hr
    rw [h.r.z]
    have := h.ea
    omega
  | k :: q, c, hc, hr => by
    have hr' : (match f c k with | some u => runK f u q | none => none) = some e := hr
    cases hf : f c k with
    | none => rw [hf] at hr'; cases hr'
    | some t =>
      rw [hf] at hr'
      have ht := h.cl c k t hc hf
      have h1 := h.there q t ht hr'
      have h2 := h.le c k t hc hf
      have h3 := h.r.top c
      apply Nat.lt_of_not_le
      intro hge
      obtain ⟨l, g1, g2, g3⟩ := h.chain (D t) t ht rfl h1
      have g4 := pigeon all (c :: l) (List.nodup_cons.2 ⟨fun q => by have := (g3 c q).2; omega, g2⟩) (fun x hx => by
        rcases List.mem_cons.1 hx with rfl | hx
        · exact hc
        · exact (g3 x hx).1)
      rw [List.length_cons, g1] at g4
      omega
/-- The first move that leads nearer, again and again. -/
def Greedy (f : Nat → Nat → Option Nat) (e : Nat) (D : Nat → Nat) : Nat → List Nat → Prop
  | c, [] => c = e
  | c, k :: r => c ≠ e ∧ ∃ t, f c k = some t ∧ D t + 1 = D c ∧ (∀ m t', m < k → f c m = some t' → D t' + 1 ≠ D c) ∧ Greedy f e D t r
theorem Greedy.run : ∀ {p : List Nat} {c : Nat}, Greedy f e D c p → runK f c p = some e
  | [], c, h => by rw [show c = e from h]; rfl
  | k :: r, c, ⟨_, t, h1, _, _, h4⟩ => by
    show (match f c k with | some u => runK f u r | none => none) = some e
    rw [h1]
    exact Greedy.run h4
theorem Greedy.len (hz : D e = 0) : ∀ {p : List Nat} {c : Nat}, Greedy f e D c p → p.length = D c
  | [], c, h => by rw [show c = e from h, hz]; rfl
  | k :: r, c, ⟨_, t, _, h2, _, h4⟩ => by rw [List.length_cons, Greedy.len hz h4, h2]
theorem Greedy.lex (h : Far f e all D) : ∀ {p q : List Nat} {c : Nat}, c < all → Greedy f e D c p → runK f c q = some e → p.length = q.length → lexL p q
  | [], _, _, _, _, _, _ => trivial
  | _ :: _, [], _, _, _, _, hl => by simp at hl
  | k :: r, m :: q, c, hc, ⟨_, t, h1, h2, h3, h4⟩, hr, hl => by
    have hr' : (match f c m with | some u => runK f u q | none => none) = some e := hr
    cases hf : f c m with
    | none => rw [hf] at hr'; cases hr'
    | some u =>
      rw [hf] at hr'
      have hu := h.cl c m u hc hf
      have g1 := h.low q u hu hr'
      have g2 := h.le c m u hc hf
      have g3 := Greedy.len h.r.z h4
      simp only [List.length_cons, Nat.add_right_cancel_iff] at hl
      have g4 : D u + 1 = D c := by omega
      rcases Nat.lt_trichotomy k m with hkm | rfl | hkm
      · exact .inl hkm
      · rw [h1] at hf
        cases hf
        exact .inr ⟨rfl, Greedy.lex h hu h4 hr' hl⟩
      · exact absurd g4 (h3 m u hkm hf)
theorem Greedy.best (h : Far f e all D) {p : List Nat} {c : Nat} (hc : c < all) (hg : Greedy f e D c p) : BestP f c e p := by
  refine ⟨hg.run, fun q hq => ?_⟩
  have h1 := h.low q c hc hq
  have h2 := Greedy.len h.r.z hg
  rcases Nat.lt_or_ge p.length q.length with h3 | h3
  · exact .inl h3
  · exact .inr ⟨by omega, Greedy.lex h hc hg hq (by omega)⟩
end
end Go.Proofs.Ytcnoipcpifackah
