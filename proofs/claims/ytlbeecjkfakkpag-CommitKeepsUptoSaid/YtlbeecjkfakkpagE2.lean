/- What holds for all of a list, in the program. -/
import Derived.Test.YtlbeecjkfakkpagE1
namespace Go.Proofs.Ytlbeecjkfakkpag
open Go.RowKit Go.Shelf

theorem all_no {α : Type} {p : α → Bool} {l : List α} {k : Nat} (h : k < l.length) (hp : p l[k] = false) : l.all p = false := by
  rw [List.all_eq_false]
  exact ⟨l[k], List.getElem_mem h, by rw [hp]; decide⟩
theorem all_yes {α : Type} {p : α → Bool} {l : List α} (h : ∀ j (hj : j < l.length), p l[j] = true) : l.all p = true := by
  rw [List.all_eq_true]
  intro x hx
  obtain ⟨i, hi, rfl⟩ := List.getElem_of_mem hx
  exact h i hi
set_option maxRecDepth 100000 in
set_option maxHeartbeats 2000000 in
theorem allUnits_any (us : List UnitM) (v : Value) (w : World) (hx : UnitsAt w v us) (hn : us.length ≤ 1000000) : Calls Try.prog 23 #[v, .func (.func 24) #[] #[]] w fun e w' => e = .returned (.bool (us.all mayB)) ∧ Below w.heap.size w w' := by
  have HG := hide' hx
  obtain ⟨ag, cg, rfl⟩ := rowAt_slice hx
  clear hx
  go_enter Try.func23, Try.ntmps23
  go_wp2_with fail
  go_loopw [9] (fun i wr => ∃ (k : Nat), i = .int .i64 k ∧ k ≤ us.length ∧ Hid (∀ (j : Nat) (hj : j < us.length), j < k → mayB us[j] = true) ∧ Hid (Below w.heap.size w wr)) (fun i _ => us.length - (intOf i).toNat)
  case atStart => exact ⟨0, rfl, Nat.zero_le _, fun j _ h => absurd h (Nat.not_lt_zero j), Below.refl _ w⟩
  case round =>
    obtain ⟨k, rfl, hk, HOK, HBE⟩ := hrel
    by_cases hlt : k < us.length
    · obtain ⟨bt, ot, ct', ex, hbt, hct⟩ := row_elem (f := UnitM.cells) (fun _ => rfl) HG.out k hlt (by decide)
      cases ex
      obtain ⟨u, hu⟩ : ∃ u, u = us[k] := ⟨_, rfl⟩
      rw [← hu] at hct
      have HK : Hid (us[k] = u) := hu.symm
      have up : ∀ (c j : Nat) (u : Value), w.cell? ⟨c, j, none⟩ = some u → wr.cell? ⟨c, j, none⟩ = some u := fun c j u h => (HBE.out.cell (World.block_lt_of_cell? w _ h)).trans h
      have d0 := up _ _ _ (hct 0 _ rfl)
      have d1 := up _ _ _ (hct 1 _ rfl)
      have d2 := up _ _ _ (hct 2 _ rfl)
      have d3 := up _ _ _ (hct 3 _ rfl)
      have d4 := up _ _ _ (hct 4 _ rfl)
      have d5 := up _ _ _ (hct 5 _ rfl)
      have d6 := up _ _ _ (hct 6 _ rfl)
      rw [Nat.add_zero] at d0
      have HC := hide' (mayBe_any u)
      obtain ⟨x0, hx0⟩ : ∃ x, x = u.least := ⟨_, rfl⟩
      rw [← hx0] at d0 HC
      obtain ⟨x1, hx1⟩ : ∃ x, x = u.most := ⟨_, rfl⟩
      rw [← hx1] at d1 HC
      obtain ⟨x2, hx2⟩ : ∃ x, x = u.cost := ⟨_, rfl⟩
      rw [← hx2] at d2 HC
      obtain ⟨x3, hx3⟩ : ∃ x, x = u.start := ⟨_, rfl⟩
      rw [← hx3] at d3 HC
      obtain ⟨x4, hx4⟩ : ∃ x, x = u.up := ⟨_, rfl⟩
      rw [← hx4] at d4 HC
      obtain ⟨x5, hx5⟩ : ∃ x, x = u.down := ⟨_, rfl⟩
      rw [← hx5] at d5 HC
      obtain ⟨x6, hx6⟩ : ∃ x, x = u.was := ⟨_, rfl⟩
      rw [← hx6] at d6 HC
      have HNEXT : Hid (mayB u = true → ∀ (j : Nat) (hj : j < us.length), j < k + 1 → mayB us[j] = true) := fun h j hj hjk => by
        by_cases e : j = k
        · subst e; rw [HK.out]; exact h
        · exact HOK.out j hj (by omega)
      have HBAD : Hid (mayB u = false → us.all mayB = false) := fun h => all_no hlt (by rw [HK.out]; exact h)
      have HAL : Hid (∀ o, Below w.heap.size w (wr.alloc o)) := fun o => HBE.out.alloc HBE.out.size o
      obtain ⟨mb, hmb⟩ : ∃ mb, mb = mayB u := ⟨_, rfl⟩
      rw [← hmb] at HC HNEXT HBAD
      clear hct hu up hx0 hx1 hx2 hx3 hx4 hx5 hx6 hbt HOK HK hmb
      go_wp2_with fail
      refine (HC.out _).mono ?_
      rintro e w1 ⟨rfl, hb1⟩
      have HB1 : Hid (Below w.heap.size w w1) := (HAL.out _).trans (hb1.mono (HAL.out _).size)
      clear hb1 d0 d1 d2 d3 d4 d5 d6 HC HBE HAL
      cases mb with
      | false =>
        have HNO := hide' (HBAD.out rfl)
        go_wp2
        go_ret
        exact ⟨by rw [HNO.out]; rfl, HB1.out⟩
      | true =>
        have HY := hide' (HNEXT.out rfl)
        go_wp2
        go_roundw
        case rel => exact ⟨k + 1, by go_num, by omega, HY.out, HB1.out⟩
        case measure => simp [intOf]; omega
    · have HALL : Hid (us.all mayB = true) := all_yes fun j hj => HOK.out j hj (by omega)
      go_wp2
      go_ret
      exact ⟨by rw [HALL.out]; rfl, HBE.out⟩
/-- May so much be asked? -/
def askB (x : Int) : Bool := decide (0 ≤ x) && decide (x ≤ 400000)
set_option maxRecDepth 100000 in
set_option maxHeartbeats 2000000 in
theorem allInts_any (l : List Int) (v : Value) (w : World) (hx : RowAt w v l.length 1 (ints l)) (hn : l.length ≤ 1000000) : Calls Try.prog 49 #[v, .func (.func 25) #[] #[]] w fun e w' => e = .returned (.bool (inRB l)) ∧ w' = w := by
  have HG := hide' hx
  obtain ⟨ag, cg, rfl⟩ := rowAt_slice hx
  clear hx
  go_enter Try.func49, Try.ntmps49
  go_wp2_with fail
  go_loopw [9] (fun i wr => ∃ (k : Nat), i = .int .i64 k ∧ k ≤ l.length ∧ Hid (∀ (j : Nat) (hj : j < l.length), j < k → askB l[j] = true) ∧ wr = w) (fun i _ => l.length - (intOf i).toNat)
  case atStart => exact ⟨0, rfl, Nat.zero_le _, fun j _ h => absurd h (Nat.not_lt_zero j), rfl⟩
  case round =>
    obtain ⟨k, rfl, hk, HOK, rfl⟩ := hrel
    by_cases hlt : k < l.length
    · obtain ⟨bt, ot, ct', ex, hct⟩ := ints_cell HG.out k hlt
      cases ex
      obtain ⟨x, hx⟩ : ∃ x, x = l.getD k 0 := ⟨_, rfl⟩
      rw [← hx] at hct
      have HK : Hid (l[k] = x) := by show _ = _; rw [hx, List.getD_eq_getElem?_getD, List.getElem?_eq_getElem hlt]; rfl
      have HC := hide' (mayBeAsked_any x)
      have HNEXT : Hid (askB x = true → ∀ (j : Nat) (hj : j < l.length), j < k + 1 → askB l[j] = true) := fun h j hj hjk => by
        by_cases e : j = k
        · subst e; rw [HK.out]; exact h
        · exact HOK.out j hj (by omega)
      have HBAD : Hid (askB x = false → inRB l = false) := fun h => all_no hlt (by rw [HK.out]; exact h)
      obtain ⟨mb, hmb⟩ : ∃ mb, mb = askB x := ⟨_, rfl⟩
      rw [← hmb] at HNEXT HBAD
      rw [show (decide (0 ≤ x) && decide (x ≤ 400000)) = askB x from rfl, ← hmb] at HC
      clear hx HOK HK hmb
      go_wp2_with fail
      refine (HC.out _).mono ?_
      rintro e w1 ⟨rfl, hw1⟩
      obtain rfl := hw1.symm
      clear HC hct
      cases mb with
      | false =>
        have HNO := hide' (HBAD.out rfl)
        go_wp2
        go_ret
        exact ⟨by rw [HNO.out]; rfl, rfl⟩
      | true =>
        have HY := hide' (HNEXT.out rfl)
        go_wp2
        go_roundw
        case rel => exact ⟨k + 1, by go_num, by omega, HY.out, trivial⟩
        case measure => simp [intOf]; omega
    · have HALL : Hid (inRB l = true) := all_yes fun j hj => HOK.out j hj (by omega)
      go_wp2
      go_ret
      exact ⟨by rw [HALL.out]; rfl, rfl⟩
theorem tells_any (n m : Nat) (a b : Option Addr) (c d B : Nat) (w : World) (hb : w.cell? ⟨B, 0, none⟩ = some (.slice b m d)) (_hn : n ≤ 2000000) (_hm : m ≤ 2000000) : Calls Try.prog 31 #[.slice a n c, .pointer (some ⟨B, 0, none⟩)] w fun e w' => e = .returned (.bool (n == m)) ∧ w' = w := by
  go_enter Try.func31, Try.ntmps31
  go_wp2
  all_goals
    go_ret
    exact ⟨ret_bool (by rw [Bool.eq_iff_iff]; simp_all <;> omega), rfl⟩
set_option maxRecDepth 100000 in
set_option maxHeartbeats 2000000 in
theorem allBools_any (on : List (List Bool)) (m : Nat) (b : Option Addr) (d B : Nat) (v : Value) (w : World) (hx : SignsAt w v on) (hb : w.cell? ⟨B, 0, none⟩ = some (.slice b m d)) (hm : m ≤ 2000000) (hn : on.length ≤ 1000000) (hrl : ∀ r ∈ on, r.length ≤ 2000000) : Calls Try.prog 33 #[v, .func (.func 31) #[] #[.pointer (some ⟨B, 0, none⟩)]] w fun e w' => e = .returned (.bool (on.all fun r => r.length == m)) ∧ w' = w := by
  have HG := hide' hx
  have HRL := hide' hrl
  have HC := hide' (fun (n : Nat) (a : Option Addr) (c : Nat) (hn : n ≤ 2000000) => tells_any n m a b c d B w hb hn hm)
  obtain ⟨ag, cg, rfl⟩ := hx.slice
  clear hx hrl hb
  go_enter Try.func33, Try.ntmps33
  go_wp2_with fail
  go_loopw [9] (fun i wr => ∃ (k : Nat), i = .int .i64 k ∧ k ≤ on.length ∧ Hid (∀ (j : Nat) (hj : j < on.length), j < k → (on[j].length == m) = true) ∧ wr = w) (fun i _ => on.length - (intOf i).toNat)
  case atStart => exact ⟨0, rfl, Nat.zero_le _, fun j _ h => absurd h (Nat.not_lt_zero j), rfl⟩
  case round =>
    obtain ⟨k, rfl, hk, HOK, rfl⟩ := hrel
    by_cases hlt : k < on.length
    · obtain ⟨bt, ot, ct', a', c', ex, hct, _⟩ := HG.out.cell k hlt
      cases ex
      have HX : Hid (on[k].length ≤ 2000000) := HRL.out _ (List.getElem_mem hlt)
      obtain ⟨x, hx⟩ : ∃ x, x = on[k].length := ⟨_, rfl⟩
      rw [← hx] at hct HX
      have HK : Hid (on[k].length = x) := hx.symm
      have HC1 := hide' (HC.out x a' c' HX.out)
      have HNEXT : Hid ((x == m) = true → ∀ (j : Nat) (hj : j < on.length), j < k + 1 → (on[j].length == m) = true) := fun h j hj hjk => by
        by_cases e : j = k
        · subst e; rw [HK.out]; exact h
        · exact HOK.out j hj (by omega)
      have HBAD : Hid ((x == m) = false → (on.all fun r => r.length == m) = false) := fun h => all_no (p := fun r : List Bool => r.length == m) hlt (by show (on[k].length == m) = false; rw [HK.out]; exact h)
      obtain ⟨mb, hmb⟩ : ∃ mb, mb = (x == m) := ⟨_, rfl⟩
      rw [← hmb] at HNEXT HBAD HC1
      clear hx HOK HK hmb HX
      go_wp2_with fail
      refine HC1.out.mono ?_
      rintro e w1 ⟨rfl, hw1⟩
      obtain rfl := hw1.symm
      clear HC1 hct
      cases mb with
      | false =>
        have HNO := hide' (HBAD.out rfl)
        go_wp2
        go_ret
        exact ⟨by rw [HNO.out]; rfl, rfl⟩
      | true =>
        have HY := hide' (HNEXT.out rfl)
        go_wp2
        go_roundw
        case rel => exact ⟨k + 1, by go_num, by omega, HY.out, trivial⟩
        case measure => simp [intOf]; omega
    · have HALL : Hid ((on.all fun r => r.length == m) = true) := all_yes (p := fun r : List Bool => r.length == m) fun j hj => HOK.out j hj (by omega)
      go_wp2
      go_ret
      exact ⟨by rw [HALL.out]; rfl, rfl⟩
theorem sized_any (n m q : Nat) (a b c : Option Addr) (x y z : Nat) (w : World) (hn : n ≤ 2000000) (hm : m ≤ 2000000) (_hq : q ≤ 2000000) : Calls Try.prog 32 #[.slice a n x, .slice b m y, .slice c q z] w fun e w' => e = .returned (.bool (decide (n ≤ 4) && decide (m ≤ 8) && decide (q = m))) ∧ w' = w := by
  go_enter Try.func32, Try.ntmps32
  go_wp2
  all_goals
    go_ret
    exact ⟨ret_bool (by rw [Bool.eq_iff_iff]; simp_all <;> omega), rfl⟩
end Go.Proofs.Ytlbeecjkfakkpag
