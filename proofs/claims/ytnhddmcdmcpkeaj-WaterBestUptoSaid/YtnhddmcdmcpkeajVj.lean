/- The best of all ways to stand, hour by hour: what such a search finds is the plan. -/
import Derived.Test.YtnhddmcdmcpkeajVh
namespace Go.Proofs.Ytnhddmcdmcpkeaj
open Go.RowKit Go.Shelf

/-- Rows in order. -/
def lx : List Int → List Int → Prop
  | [], [] => False
  | [], _ :: _ => True
  | _ :: _, [] => False
  | x :: xs, y :: ys => x < y ∨ x = y ∧ lx xs ys
theorem lx_irr : ∀ a, ¬ lx a a
  | [] => fun h => h
  | x :: xs => fun h => by
    rcases h with h | h
    · omega
    · exact lx_irr xs h.2
theorem lx_trans : ∀ {a b c}, lx a b → lx b c → lx a c
  | [], [], _, h, _ => absurd h (fun h => h)
  | [], _ :: _, [], _, h => absurd h (fun h => h)
  | [], _ :: _, _ :: _, _, _ => trivial
  | _ :: _, [], _, h, _ => absurd h (fun h => h)
  | _ :: _, _ :: _, [], _, h => absurd h (fun h => h)
  | x :: xs, y :: ys, z :: zs, h, h' => by
    rcases h with h | h <;> rcases h' with h' | h'
    · exact Or.inl (by omega)
    · exact Or.inl (by omega)
    · exact Or.inl (by omega)
    · exact Or.inr ⟨h.1.trans h'.1, lx_trans h.2 h'.2⟩
theorem lx_tri : ∀ a b, a = b ∨ lx a b ∨ lx b a
  | [], [] => Or.inl rfl
  | [], _ :: _ => Or.inr (Or.inl trivial)
  | _ :: _, [] => Or.inr (Or.inr trivial)
  | x :: xs, y :: ys => by
    rcases Int.lt_trichotomy x y with h | h | h
    · exact Or.inr (Or.inl (Or.inl h))
    · rcases lx_tri xs ys with g | g | g
      · exact Or.inl (by rw [h, g])
      · exact Or.inr (Or.inl (Or.inr ⟨h, g⟩))
      · exact Or.inr (Or.inr (Or.inr ⟨h.symm, g⟩))
    · exact Or.inr (Or.inr (Or.inl h))
theorem lx_app : ∀ {a b c d : List Int}, a.length = b.length → (lx (a ++ c) (b ++ d) ↔ lx a b ∨ a = b ∧ lx c d)
  | [], [], c, d, _ => ⟨fun h => Or.inr ⟨rfl, h⟩, fun h => h.elim (fun h => absurd h (fun h => h)) (fun h => h.2)⟩
  | [], _ :: _, _, _, h => by cases h
  | _ :: _, [], _, _, h => by cases h
  | x :: xs, y :: ys, c, d, h => by
    have ih := lx_app (a := xs) (b := ys) (c := c) (d := d) (by simpa using h)
    show (x < y ∨ x = y ∧ lx (xs ++ c) (ys ++ d)) ↔ ((x < y ∨ x = y ∧ lx xs ys) ∨ x :: xs = y :: ys ∧ lx c d)
    rw [ih]
    constructor
    · rintro (h | ⟨h, h1 | ⟨h1, h2⟩⟩)
      · exact Or.inl (Or.inl h)
      · exact Or.inl (Or.inr ⟨h, h1⟩)
      · exact Or.inr ⟨by rw [h, h1], h2⟩
    · rintro ((h | ⟨h, h1⟩) | ⟨h, h1⟩)
      · exact Or.inl h
      · exact Or.inr ⟨h, Or.inl h1⟩
      · cases h
        exact Or.inr ⟨rfl, Or.inr ⟨rfl, h1⟩⟩
/-- Tables whose first row that differs is ahead. -/
theorem lx_rows : ∀ {t u : List (List Int)} {h : Nat}, h < t.length → h < u.length → (∀ k, k < h → t.getD k [] = u.getD k []) → (t.getD h []).length = (u.getD h []).length → lx (t.getD h []) (u.getD h []) → lx t.flatten u.flatten
  | [], _, _, h, _, _, _, _ => by cases h
  | _ :: _, [], _, _, h, _, _, _ => by cases h
  | x :: t, y :: u, 0, _, _, _, hl, h => (lx_app hl).2 (Or.inl h)
  | x :: t, y :: u, h + 1, h1, h2, he, hl, hx => by
    have e : x = y := he 0 (by omega)
    subst e
    exact (lx_app rfl).2 (Or.inr ⟨rfl, lx_rows (h := h) (by simpa using h1) (by simpa using h2) (fun k hk => he (k + 1) (by omega)) hl hx⟩)
/-- A way to stand, what it is worth so far, what was released. -/
structure Wet where
  s : Stnd
  e : Int
  t : List (List Int)
def Wet.over (x w : Wet) : Prop := w.e < x.e ∨ w.e = x.e ∧ lx x.t.flatten w.t.flatten
def Wet.as (x w : Wet) : Prop := ¬ w.over x
theorem Wet.as_refl (x : Wet) : x.as x := fun h => by
  rcases h with h | h
  · omega
  · exact lx_irr _ h.2
theorem Wet.as_trans {x y z : Wet} (h : x.as y) (h' : y.as z) : x.as z := fun h0 => by
  have a1 : ¬ x.e < y.e := fun q => h (Or.inl q)
  have a2 : ¬ y.e < z.e := fun q => h' (Or.inl q)
  rcases h0 with h0 | ⟨h0, h1⟩
  · omega
  · have b1 : ¬ lx y.t.flatten x.t.flatten := fun q => h (Or.inr ⟨by omega, q⟩)
    have b2 : ¬ lx z.t.flatten y.t.flatten := fun q => h' (Or.inr ⟨by omega, q⟩)
    rcases lx_tri z.t.flatten y.t.flatten with q | q | q
    · rw [q] at h1; exact b1 h1
    · exact b2 q
    · exact b1 (lx_trans q h1)
theorem Wet.over_as {x w : Wet} (h : x.over w) : x.as w := fun h' => by
  rcases h with h | h <;> rcases h' with h' | h'
  · omega
  · omega
  · omega
  · exact lx_irr _ (lx_trans h.2 h'.2)
def lxB : List Int → List Int → Bool
  | [], [] => false
  | [], _ :: _ => true
  | _ :: _, [] => false
  | a :: x, b :: y => decide (a < b) || (decide (a = b) && lxB x y)
theorem lxB_iff : ∀ {a b : List Int}, lxB a b = true ↔ lx a b
  | [], [] => ⟨fun h => (by cases h), fun h => h.elim⟩
  | [], _ :: _ => ⟨fun _ => trivial, fun _ => rfl⟩
  | _ :: _, [] => ⟨fun h => (by cases h), fun h => h.elim⟩
  | a :: x, b :: y => by
    have h := @lxB_iff x y
    simp only [lxB, lx, Bool.or_eq_true, Bool.and_eq_true, decide_eq_true_eq, h]
def overB (x w : Wet) : Bool := decide (w.e < x.e) || (decide (w.e = x.e) && lxB x.t.flatten w.t.flatten)
theorem overB_iff {x w : Wet} : overB x w = true ↔ x.over w := by
  simp only [overB, Wet.over, Bool.or_eq_true, Bool.and_eq_true, decide_eq_true_eq, lxB_iff]
def Stnd.dec (a b : Stnd) : Decidable (a = b) := decidable_of_iff (a.l0 = b.l0 ∧ a.l1 = b.l1 ∧ a.u0 = b.u0 ∧ a.u1 = b.u1) (by
  cases a
  cases b
  simp)
def Wet.overDec (x w : Wet) : Decidable (x.over w) := decidable_of_iff (overB x w = true) overB_iff
def putW : List Wet → Wet → List Wet
  | [], w => [w]
  | x :: r, w => @ite _ (x.s = w.s) (Stnd.dec _ _) (@ite _ (w.over x) (Wet.overDec _ _) (w :: r) (x :: r)) (x :: putW r w)
theorem put_mem : ∀ {nx : List Wet} {w y : Wet}, y ∈ putW nx w → y = w ∨ y ∈ nx
  | [], w, y, h => Or.inl (List.mem_singleton.1 h)
  | x :: r, w, y, h => by
    unfold putW at h
    split at h
    · split at h
      · rcases List.mem_cons.1 h with h | h
        · exact Or.inl h
        · exact Or.inr (List.mem_cons_of_mem _ h)
      · exact Or.inr h
    · rcases List.mem_cons.1 h with h | h
      · exact Or.inr (h ▸ List.mem_cons_self ..)
      · rcases put_mem h with h | h
        · exact Or.inl h
        · exact Or.inr (List.mem_cons_of_mem _ h)
theorem put_new : ∀ (nx : List Wet) (w : Wet), ∃ y ∈ putW nx w, y.s = w.s ∧ y.as w
  | [], w => ⟨w, List.mem_singleton.2 rfl, rfl, w.as_refl⟩
  | x :: r, w => by
    unfold putW
    split
    · next hs =>
      split
      · exact ⟨w, List.mem_cons_self .., rfl, w.as_refl⟩
      · next h => exact ⟨x, List.mem_cons_self .., hs, h⟩
    · obtain ⟨y, h1, h2⟩ := put_new r w
      exact ⟨y, List.mem_cons_of_mem _ h1, h2⟩
theorem put_old : ∀ (nx : List Wet) (w : Wet), ∀ x ∈ nx, ∃ y ∈ putW nx w, y.s = x.s ∧ y.as x
  | [], _, x, h => by cases h
  | x :: r, w, z, hz => by
    unfold putW
    split
    · next hs =>
      split
      · next h =>
        rcases List.mem_cons.1 hz with e | hz
        · subst e; exact ⟨w, List.mem_cons_self .., hs.symm, Wet.over_as h⟩
        · exact ⟨z, List.mem_cons_of_mem _ hz, rfl, z.as_refl⟩
      · exact ⟨z, hz, rfl, z.as_refl⟩
    · rcases List.mem_cons.1 hz with e | hz
      · subst e; exact ⟨z, List.mem_cons_self .., rfl, z.as_refl⟩
      · obtain ⟨y, h1, h2⟩ := put_old r w z hz
        exact ⟨y, List.mem_cons_of_mem _ h1, h2⟩
theorem puts_mem : ∀ {cs nx : List Wet} {y : Wet}, y ∈ cs.foldl putW nx → y ∈ nx ∨ y ∈ cs
  | [], _, _, h => Or.inl h
  | c :: cs, nx, y, h => by
    rcases puts_mem (cs := cs) (nx := putW nx c) h with h | h
    · rcases put_mem h with h | h
      · exact Or.inr (h ▸ List.mem_cons_self ..)
      · exact Or.inl h
    · exact Or.inr (List.mem_cons_of_mem _ h)
theorem puts_cov : ∀ (cs nx : List Wet) (w : Wet), w ∈ nx ∨ w ∈ cs → ∃ y ∈ cs.foldl putW nx, y.s = w.s ∧ y.as w
  | [], nx, w, h => by
    rcases h with h | h
    · exact ⟨w, h, rfl, w.as_refl⟩
    · cases h
  | c :: cs, nx, w, h => by
    have key : (∃ x ∈ putW nx c, x.s = w.s ∧ x.as w) ∨ w ∈ cs := by
      rcases h with h | h
      · exact Or.inl (put_old nx c w h)
      · rcases List.mem_cons.1 h with e | h
        · subst e; exact Or.inl (put_new nx w)
        · exact Or.inr h
    rcases key with ⟨x, h1, h2, h3⟩ | h
    · obtain ⟨y, g1, g2, g3⟩ := puts_cov cs (putW nx c) x (Or.inl h1)
      exact ⟨y, g1, g2.trans h2, Wet.as_trans g3 h3⟩
    · exact puts_cov cs (putW nx c) w (Or.inr h)
section
variable {ls : List LakeM} {L H : Nat} {ti : List (List Int)} {pr en : List Int} {all : List (List Int)}
def candL (ls : List LakeM) (L : Nat) (ti : List (List Int)) (pr : List Int) (all : List (List Int)) (h : Nat) (now : List Wet) : List Wet := now.flatMap fun w => (all.filter fun r => hourOk ls L w.s (ti.getD h []) r).map fun r => ⟨hourS ls L w.s (ti.getD h []) r, w.e + earnK ls (pr.getD h 0) (r.getD 0 0) (r.getD 1 0) L, w.t ++ [r]⟩
def nowL (ls : List LakeM) (L : Nat) (ti : List (List Int)) (pr : List Int) (all : List (List Int)) : Nat → List Wet
  | 0 => [⟨startS ls L, 0, []⟩]
  | h + 1 => (candL ls L ti pr all h (nowL ls L ti pr all h)).foldl putW []
theorem run_same {tr tr' : List (List Int)} : ∀ {h : Nat}, (∀ k, k < h → tr.getD k [] = tr'.getD k []) → runK ls L ti tr h = runK ls L ti tr' h ∧ earnT ls L pr tr h = earnT ls L pr tr' h
  | 0, _ => ⟨rfl, rfl⟩
  | h + 1, he => by
    obtain ⟨h1, h2⟩ := run_same (h := h) (fun k hk => he k (by omega))
    have h3 := he h (by omega)
    refine ⟨?_, ?_⟩
    · unfold runK; rw [h1, h3]
    · show earnT ls L pr tr h + earnH ls L pr tr h = earnT ls L pr tr' h + earnH ls L pr tr' h
      unfold earnH
      rw [h2, h3]
theorem snoc_same (t : List (List Int)) (r : List Int) : (∀ k, k < t.length → (t ++ [r]).getD k [] = t.getD k []) ∧ (t ++ [r]).getD t.length [] = r :=
  ⟨fun k hk => by rw [List.getD_eq_getElem?_getD, List.getElem?_append_left hk, ← List.getD_eq_getElem?_getD], by rw [List.getD_eq_getElem?_getD, List.getElem?_append_right (Nat.le_refl _), Nat.sub_self]; rfl⟩
theorem now_runs : ∀ h, ∀ w ∈ nowL ls L ti pr all h, w.t.length = h ∧ (∀ l ∈ w.t, l ∈ all) ∧ ∃ q, runK ls L ti w.t h = some q ∧ q.s = w.s ∧ w.e = earnT ls L pr w.t h
  | 0, w, hw => by
    have e := List.mem_singleton.1 hw
    subst e
    exact ⟨rfl, fun l hl => (by cases hl), _, rfl, rfl, rfl⟩
  | h + 1, w, hw => by
    rcases puts_mem hw with hw | hw
    · cases hw
    · obtain ⟨x, hx, hw⟩ := List.mem_flatMap.1 hw
      obtain ⟨r, hr, rfl⟩ := List.mem_map.1 hw
      obtain ⟨hr, ho⟩ := List.mem_filter.1 hr
      obtain ⟨h1, h2, q, h3, h4, h5⟩ := now_runs h x hx
      obtain ⟨s1, s2⟩ := snoc_same x.t r
      rw [h1] at s1 s2
      have hs := run_same (ls := ls) (L := L) (ti := ti) (pr := pr) s1
      have ho2 : hourOk ls L q.s (ti.getD h []) ((x.t ++ [r]).getD h []) = true := by rw [s2, h4]; exact ho
      refine ⟨by rw [List.length_append, h1]; rfl, fun l hl => ?_, _, run_next (hs.1.trans h3) ho2, by show hourS _ _ _ _ _ = _; rw [s2, h4], ?_⟩
      · rcases List.mem_append.1 hl with hl | hl
        · exact h2 l hl
        · rw [List.mem_singleton.1 hl]; exact hr
      · show x.e + _ = earnT ls L pr (x.t ++ [r]) h + earnH ls L pr (x.t ++ [r]) h
        unfold earnH
        rw [hs.2, s2, h5]
theorem flat_len' {t : List (List Int)} (h : ∀ l ∈ t, l.length = L) : t.flatten.length = t.length * L := by
  induction t with
  | nil => simp
  | cons x t ih => rw [List.flatten_cons, List.length_append, ih (fun l hl => h l (List.mem_cons_of_mem _ hl)), h x (List.mem_cons_self ..), List.length_cons, Nat.add_mul, Nat.one_mul, Nat.add_comm]
theorem now_all (hall : ∀ l ∈ all, l.length = L) : ∀ h (tr : List (List Int)) (q : RunR), tr.length = h → (∀ l ∈ tr, l ∈ all) → runK ls L ti tr h = some q → ∃ w ∈ nowL ls L ti pr all h, w.s = q.s ∧ w.as ⟨q.s, earnT ls L pr tr h, tr⟩
  | 0, tr, q, hl, _, hq => by
    rw [List.length_eq_zero_iff.1 hl] at hq ⊢
    cases hq
    exact ⟨_, List.mem_singleton.2 rfl, rfl, Wet.as_refl _⟩
  | h + 1, tr, q, hl, hm, hq => by
    obtain ⟨t0, r, rfl⟩ : ∃ t0 r, tr = t0 ++ [r] := ⟨tr.dropLast, tr.getLast (fun e => by rw [e] at hl; cases hl), (List.dropLast_concat_getLast _).symm⟩
    have hl0 : t0.length = h := by rw [List.length_append] at hl; simpa using hl
    obtain ⟨s1, s2⟩ := snoc_same t0 r
    rw [hl0] at s1 s2
    have hs := run_same (ls := ls) (L := L) (ti := ti) (pr := pr) s1
    obtain ⟨q0, hq0⟩ := run_before (j := 1) hq
    obtain ⟨g1, g2⟩ := run_succ hq0 hq
    rw [s2] at g1 g2
    rw [hs.1] at hq0
    obtain ⟨w, hw, w1, w2⟩ := now_all hall h t0 q0 hl0 (fun l hl => hm l (List.mem_append_left _ hl)) hq0
    have hr : r ∈ all := hm r (List.mem_append_right _ (List.mem_singleton.2 rfl))
    have hc : (⟨hourS ls L w.s (ti.getD h []) r, w.e + earnK ls (pr.getD h 0) (r.getD 0 0) (r.getD 1 0) L, w.t ++ [r]⟩ : Wet) ∈ candL ls L ti pr all h (nowL ls L ti pr all h) := List.mem_flatMap.2 ⟨w, hw, List.mem_map.2 ⟨r, List.mem_filter.2 ⟨hr, by rw [w1]; exact g1⟩, rfl⟩⟩
    obtain ⟨y, y1, y2, y3⟩ := puts_cov _ [] _ (Or.inr hc)
    obtain ⟨wl, wa, _⟩ := now_runs h w hw
    refine ⟨y, y1, by rw [y2, g2, w1], Wet.as_trans y3 fun ho => w2 ?_⟩
    have e2 : earnT ls L pr (t0 ++ [r]) (h + 1) = earnT ls L pr t0 h + earnK ls (pr.getD h 0) (r.getD 0 0) (r.getD 1 0) L := by
      show earnT ls L pr (t0 ++ [r]) h + earnH ls L pr (t0 ++ [r]) h = _
      unfold earnH
      rw [hs.2, s2]
    rcases ho with ho | ⟨ho, hx⟩
    · refine Or.inl ?_
      simp only at ho
      rw [e2] at ho
      show w.e < earnT ls L pr t0 h
      omega
    · refine Or.inr ?_
      simp only at ho hx
      rw [e2] at ho
      refine ⟨by show w.e = earnT ls L pr t0 h; omega, ?_⟩
      simp only [List.flatten_append, List.flatten_cons, List.flatten_nil, List.append_nil] at hx
      rcases (lx_app (by rw [flat_len' (fun l hl => hall l (hm l (List.mem_append_left _ hl))), flat_len' (fun l hl => hall l (wa l hl)), hl0, wl])).1 hx with hx | hx
      · exact hx
      · exact absurd hx.2 (lx_irr _)
end
end Go.Proofs.Ytnhddmcdmcpkeaj
