/- The library's Repeat, of a list of one number: so many of it, in new memory. -/
import Derived.Test.YtpbalclhdhjnoaaGreatDoorKBr0
import Derived.Shelf.LaysM
import Derived.Shelf.Bits.Mul64
import Derived.Test.YtpbalclhdhjnoaaGreatDoorProg
import Derived.Test.YtpbalclhdhjnoaaGreatDoorKDc1
import Derived.Laws.CopyOwn
import Derived.OwnWalk
import Derived.Deep.RegionLaw
namespace Go.Proofs.YtpbalclhdhjnoaaGreatDoor.Bar
open Go.RowKit Doc

/-- A mark at which a walk stands still. -/
def Still (p : Prop) : Prop := p
theorem Still.go {p : Prop} (h : Still p) : p := h
theorem made_zero (n : Nat) : (madeCells (Value.int .i64 0).cells (n * 1)).toList = List.replicate n (.int .i64 0) := by
  apply List.ext_getElem
  · simp [madeCells]
  · intro i h1 h2
    simp [madeCells, Value.cells, Nat.mod_one]
theorem row_of_own {w : World} {B g n : Nat} {xs : List Value} (h : w.ownsRow B 3 1 (.slice (some ⟨g, 0, none⟩) n n) n xs) : w.heap[g]? = some (.cells xs.toArray 3 (0, 0)) := by
  rcases h.2 with ⟨h1, _⟩ | ⟨g', cap, cur, h1, _, h2, _, _, h3, h4⟩
  · cases h1
  · cases h1
    rw [h2]
    have e : cur = xs.toArray := by
      rw [← h4, List.take_of_length_le (by rw [Array.length_toList, h3]; exact Nat.le_refl _)]
    rw [e]

end Go.Proofs.YtpbalclhdhjnoaaGreatDoor.Bar

namespace Go.Proofs.YtpbalclhdhjnoaaGreatDoor.Bar
open Go.RowKit

/-- How far each bus is (-1: not reached yet), and the buses that are reached. -/
abbrev Reach2 : Type := List Int × List Int
def visit (u : Int) (s : Reach2) (v : Int) : Reach2 := if s.1.getD v.toNat 0 = -1 then (s.1.set v.toNat (s.1.getD u.toNat 0 + 1), s.2 ++ [v]) else s
def roundB (links : List LinkM) (u : Int) (s : Reach2) : Reach2 := (onw links u).foldl (fun s x => visit u s x.2) s
def bfs (links : List LinkM) : Nat → Nat → Reach2 → Reach2
  | 0, _, s => s
  | f + 1, i, s => if i < s.2.length then bfs links f (i + 1) (roundB links (s.2.getD i 0) s) else s
def start (n : Nat) (b : Int) : Reach2 := ((List.replicate n (-1)).set b.toNat 0, [b])
def farL (n : Nat) (links : List LinkM) (b : Int) : List Int := (bfs links (n + 1) 0 (start n b)).1

/-- What holds of it all along. -/
structure Good (n : Nat) (s : Reach2) : Prop where
  len : s.1.length = n
  cnt : s.1.countP (fun x => x != -1) = s.2.length
  mem : ∀ v ∈ s.2, 0 ≤ v ∧ v < n
  low : ∀ x ∈ s.1, -1 ≤ x ∧ x < s.2.length
  pos : 1 ≤ s.2.length
theorem Good.le {n : Nat} {s : Reach2} (h : Good n s) : s.2.length ≤ n := by
  rw [← h.cnt, ← h.len]; exact List.countP_le_length
theorem count_set : ∀ (D : List Int) (j : Nat) (x : Int), x ≠ -1 → D[j]? = some (-1) → (D.set j x).countP (fun x => x != -1) = D.countP (fun x => x != -1) + 1
  | [], j, x, _, h => by simp at h
  | y :: r, 0, x, hx, h => by
    have hy : y = -1 := by simpa using h
    subst hy
    rw [List.set_cons_zero, List.countP_cons_of_pos (by simpa using hx), List.countP_cons_of_neg (by simp)]
  | y :: r, j + 1, x, hx, h => by
    have ih := count_set r j x hx (by simpa using h)
    rw [List.set_cons_succ, List.countP_cons, List.countP_cons, ih]
    omega
theorem getD_in {D : List Int} {j : Nat} (h : j < D.length) : D[j]? = some (D.getD j 0) ∧ D.getD j 0 ∈ D := by
  rw [List.getD_eq_getElem?_getD, List.getElem?_eq_getElem h]
  exact ⟨rfl, List.getElem_mem h⟩
theorem Good.visit {n : Nat} {s : Reach2} (h : Good n s) {u v : Int} (hu : 0 ≤ u ∧ u < n) (hv : 0 ≤ v ∧ v < n) : Good n (visit u s v) := by
  unfold Bar.visit
  split
  · next hc =>
    have hul : u.toNat < s.1.length := by rw [h.len]; omega
    have hvl : v.toNat < s.1.length := by rw [h.len]; omega
    have hun := h.low _ (getD_in hul).2
    have hj := (getD_in hvl).1
    rw [hc] at hj
    refine ⟨by simp [h.len], ?_, ?_, ?_, by simp⟩
    · rw [count_set _ _ _ (by omega) hj, h.cnt]
      simp
    · intro x hx
      rcases List.mem_append.1 hx with hx | hx
      · exact h.mem x hx
      · rw [List.mem_singleton.1 hx]; exact hv
    · intro x hx
      simp only [List.length_append, List.length_cons, List.length_nil]
      rcases List.mem_or_eq_of_mem_set hx with hx | hx
      · have := h.low x hx; omega
      · rw [hx]; omega
  · exact h
/-- The links' ends are buses. -/
def Ends (n : Nat) (links : List LinkM) : Prop := ∀ l ∈ links, 0 ≤ l.p ∧ l.p < n ∧ 0 ≤ l.q ∧ l.q < n
theorem onw_ends {n : Nat} : ∀ {links : List LinkM} {u : Int}, Ends n links → ∀ x ∈ onw links u, 0 ≤ x.2 ∧ x.2 < n
  | [], _, _, x, hx => by cases hx
  | l :: r, u, h, x, hx => by
    have hr := onw_ends (links := r) (u := u) (fun l hl => h l (by simp [hl])) x
    have hl := h l (by simp)
    rw [onw] at hx
    cases hn : nextOf l u with
    | none => rw [hn] at hx; exact hr hx
    | some v =>
      rw [hn] at hx
      rcases List.mem_cons.1 hx with rfl | hx
      · unfold nextOf at hn
        split at hn
        · cases hn; exact ⟨hl.2.2.1, hl.2.2.2⟩
        · split at hn
          · cases hn; exact ⟨hl.1, hl.2.1⟩
          · cases hn
      · exact hr hx
theorem Good.fold {n : Nat} {u : Int} (hu : 0 ≤ u ∧ u < n) : ∀ (xs : List (LinkM × Int)) {s : Reach2}, Good n s → (∀ x ∈ xs, 0 ≤ x.2 ∧ x.2 < n) → Good n (xs.foldl (fun s x => Bar.visit u s x.2) s)
  | [], _, h, _ => h
  | x :: r, _, h, hx => Good.fold hu r (h.visit hu (hx x (by simp))) (fun y hy => hx y (by simp [hy]))
theorem Good.start {n : Nat} {b : Int} (hb : 0 ≤ b ∧ b < n) : Good n (start n b) := by
  have hbl : b.toNat < (List.replicate n (-1 : Int)).length := by simp; omega
  refine ⟨by simp [Bar.start], ?_, ?_, ?_, by simp [Bar.start]⟩
  · unfold Bar.start
    rw [count_set _ _ _ (by decide) (by rw [List.getElem?_replicate, if_pos (by simpa using hbl)])]
    simp [List.countP_replicate]
  · intro v hv
    rw [List.mem_singleton.1 hv]; exact hb
  · intro x hx
    rcases List.mem_or_eq_of_mem_set hx with hx | hx
    · rw [List.eq_of_mem_replicate hx]; simp [Bar.start]
    · rw [hx]; simp [Bar.start]
end Go.Proofs.YtpbalclhdhjnoaaGreatDoor.Bar
