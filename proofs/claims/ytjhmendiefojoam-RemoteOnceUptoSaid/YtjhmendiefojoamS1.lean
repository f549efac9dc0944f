/- A station: whether it may be, in the program and in the document's answer. -/
import Derived.Test.YtjhmendiefojoamYv
namespace Go.Proofs.Ytjhmendiefojoam
open Go.RowKit Go.Shelf

/-- What a station is besides its switches, of which there are n. -/
structure StM where
  last : Int
  armed : Int
  point : Int
  want : Bool
  left : Int
  pat : Int
def StM.cells (S : StM) (v : Value) : Array Value := #[v, .int .i64 S.last, .int .i64 S.armed, .int .i64 S.point, .bool S.want, .int .i64 S.left, .int .i64 S.pat]
def mayS (n : Nat) (S : StM) : Bool := decide (n ≤ 16) && (decide (1 ≤ S.pat) && decide (S.pat ≤ 1000)) && (decide (-1 ≤ S.last) && decide (S.last ≤ 1000000000)) && (decide (S.armed = -1 ∧ S.point = 0 ∧ S.want = false ∧ S.left = 0) || (decide (S.last + 1 ≤ S.armed) && decide (S.armed ≤ 1000000000) && (decide (0 ≤ S.point) && decide (S.point ≤ n - 1)) && (decide (1 ≤ S.left) && decide (S.left ≤ S.pat))))
structure StM.Ok (S : StM) : Prop where
  last : I6 S.last
  armed : I6 S.armed
  point : I6 S.point
  left : I6 S.left
  pat : I6 S.pat
set_option maxRecDepth 100000 in
theorem within_any (x a b : Int) (w : World) : Calls Try.prog 29 #[.int .i64 x, .int .i64 a, .int .i64 b] w fun e w' => e = .returned (.bool (decide (a ≤ x) && decide (x ≤ b))) ∧ w' = w := by
  by_cases h1 : a ≤ x <;> by_cases h2 : x ≤ b
  all_goals
    go_enter Try.func29, Try.ntmps29
    go_wp2
    go_ret
    exact ⟨ret_bool (by first | rfl | (simp <;> omega)), rfl⟩
set_option maxRecDepth 100000 in
theorem inBounds_any (x a b : Int) (w : World) : Calls Try.prog 32 #[.int .i64 x, .int .i64 a, .int .i64 b] w fun e w' => e = .returned (.bool (decide (a ≤ x) && decide (x ≤ b))) ∧ w' = w := by
  by_cases h1 : a ≤ x <;> by_cases h2 : x ≤ b
  all_goals
    go_enter Try.func32, Try.ntmps32
    go_wp2
    go_ret
    exact ⟨ret_bool (by first | rfl | (simp <;> omega)), rfl⟩
theorem cell7 {w : World} {K e : Nat} {S : StM} {v : Value} (h : w.heap[K]? = some (.cells (S.cells v) e (0, 0))) : w.cell? ⟨K, 0, none⟩ = some v ∧ w.cell? ⟨K, 1, none⟩ = some (.int .i64 S.last) ∧ w.cell? ⟨K, 2, none⟩ = some (.int .i64 S.armed) ∧ w.cell? ⟨K, 3, none⟩ = some (.int .i64 S.point) ∧ w.cell? ⟨K, 4, none⟩ = some (.bool S.want) ∧ w.cell? ⟨K, 5, none⟩ = some (.int .i64 S.left) ∧ w.cell? ⟨K, 6, none⟩ = some (.int .i64 S.pat) :=
  ⟨(cells_at h 0).trans rfl, (cells_at h 1).trans rfl, (cells_at h 2).trans rfl, (cells_at h 3).trans rfl, (cells_at h 4).trans rfl, (cells_at h 5).trans rfl, (cells_at h 6).trans rfl⟩
set_option maxRecDepth 100000 in
theorem has_any (S : StM) (K n c : Nat) (a : Option Addr) (p : Int) (w : World) (h : w.heap[K]? = some (.cells (S.cells (.slice a n c)) 60 (0, 0))) (hn : n ≤ 9000000000000000000) : Calls Try.prog 53 #[.pointer (some ⟨K, 0, none⟩), .int .i64 p] w fun e w' => e = .returned (.bool (decide (0 ≤ p) && decide (p ≤ n - 1))) ∧ w' = w := by
  obtain ⟨c0, _⟩ := cell7 h
  clear h
  go_enter Try.func53, Try.ntmps53
  go_wp2_with fail
  refine (within_any _ _ _ _).mono ?_
  rintro e w2 ⟨rfl, rfl⟩
  go_wp2
  go_ret
  exact ⟨rfl, rfl⟩
set_option maxRecDepth 100000 in
set_option maxHeartbeats 1000000 in
theorem idle_any (S : StM) (K : Nat) (v : Value) (w : World) (h : w.heap[K]? = some (.cells (S.cells v) 60 (0, 0))) : Calls Try.prog 41 #[.pointer (some ⟨K, 0, none⟩)] w fun e w' => e = .returned (.bool (decide (S.armed = -1 ∧ S.point = 0 ∧ S.want = false ∧ S.left = 0))) ∧ w' = w := by
  obtain ⟨_, _, c2, c3, c4, c5, _⟩ := cell7 h
  obtain ⟨last, armed, point, want, left, pat⟩ := S
  simp only at c2 c3 c4 c5 ⊢
  clear h
  by_cases h1 : armed = -1
  · by_cases h2 : point = 0
    · cases want with
      | true =>
        go_enter Try.func41, Try.ntmps41
        go_wp2
        go_ret
        exact ⟨ret_bool (by first | rfl | (simp <;> omega)), rfl⟩
      | false =>
        by_cases h4 : left = 0
        all_goals
          go_enter Try.func41, Try.ntmps41
          go_wp2
          go_ret
          exact ⟨ret_bool (by first | rfl | (simp <;> omega)), rfl⟩
    · go_enter Try.func41, Try.ntmps41
      go_wp2
      go_ret
      exact ⟨ret_bool (by first | rfl | (simp <;> omega)), rfl⟩
  · go_enter Try.func41, Try.ntmps41
    go_wp2
    go_ret
    exact ⟨ret_bool (by first | rfl | (simp <;> omega)), rfl⟩
set_option maxRecDepth 100000 in
set_option maxHeartbeats 2000000 in
theorem armedWell_any (S : StM) (K n c : Nat) (a : Option Addr) (w : World) (h : w.heap[K]? = some (.cells (S.cells (.slice a n c)) 60 (0, 0))) (hn : n ≤ 9000000000000000000) (hl : -1 ≤ S.last) (hl2 : S.last ≤ 1000000000) : Calls Try.prog 42 #[.pointer (some ⟨K, 0, none⟩)] w fun e w' => e = .returned (.bool (decide (S.last + 1 ≤ S.armed) && decide (S.armed ≤ 1000000000) && (decide (0 ≤ S.point) && decide (S.point ≤ n - 1)) && (decide (1 ≤ S.left) && decide (S.left ≤ S.pat)))) ∧ ∃ m, w' = w.drewN m := by
  obtain ⟨c0, c1, c2, c3, c4, c5, c6⟩ := cell7 h
  have HH := hide' (fun w' (e : w'.heap = w.heap) => has_any S K n c a S.point w' (by rw [e]; exact h) hn)
  obtain ⟨last, armed, point, want, left, pat⟩ := S
  simp only at c1 c2 c3 c4 c5 c6 hl hl2 HH ⊢
  have H1 := hide' (within_any armed (last + 1) 1000000000)
  have H3 := hide' (within_any left 1 pat)
  obtain ⟨b1, hb1⟩ : ∃ b, b = (decide (last + 1 ≤ armed) && decide (armed ≤ 1000000000)) := ⟨_, rfl⟩
  obtain ⟨b2, hb2⟩ : ∃ b, b = (decide (0 ≤ point) && decide (point ≤ (n : Int) - 1)) := ⟨_, rfl⟩
  obtain ⟨b3, hb3⟩ : ∃ b, b = (decide (1 ≤ left) && decide (left ≤ pat)) := ⟨_, rfl⟩
  rw [← hb1] at H1
  rw [← hb2] at HH
  rw [← hb3] at H3
  rw [← hb1, ← hb2, ← hb3]
  clear h hb1 hb2 hb3 hn
  have HW : Hid (∀ m, (w.drewN m).heap = w.heap) := fun _ => rfl
  cases b1 <;> cases b2 <;> cases b3
  all_goals
    go_enter Try.func42, Try.ntmps42
    go_wp2_with fail
    go_quiet ((first | (go_at_call 29; first | (with_reducible exact Calls.quiet_of_same (H1.out _)) | (with_reducible exact Calls.quiet_of_same (H3.out _))) | (go_at_call 53; exact Calls.quiet_of_same (HH.out _ (HW.out _)))))
    go_wp2
    go_ret
    exact ⟨rfl, _, rfl⟩
end Go.Proofs.Ytjhmendiefojoam
