/- Whether a yard may be, in the document's answer. -/
import Derived.Test.YtcnoipcpifackahYt
namespace Go.Proofs.Ytcnoipcpifackah
open Go.RowKit Go.Shelf

set_option maxRecDepth 100000 in
set_option maxHeartbeats 2000000 in
theorem risingIn_any (n : Int) (l : List Int) (v : Value) (w : World) (hx : RowAt w v l.length 1 (ints l)) (hn : l.length ≤ 9000000000000000000) : Calls Try.prog 33 #[v, .int .i64 n] w fun e w' => e = .returned (.bool (risingB n l)) ∧ Below w.heap.size w w' := by
  have HG := hide' hx
  obtain ⟨ag, cg, rfl⟩ := rowAt_slice hx
  clear hx
  go_enter Try.func33, Try.ntmps33
  go_wp2_with fail
  go_loopw [5] (fun i wr => ∃ (k : Nat), i = .int .i64 k ∧ k ≤ l.length ∧ Hid (∀ j, j < k → risB n l j = true) ∧ Hid (Below w.heap.size w wr)) (fun i _ => l.length - (intOf i).toNat)
  case atStart => exact ⟨0, rfl, Nat.zero_le _, fun j h => absurd h (Nat.not_lt_zero j), Below.refl _ w⟩
  case round =>
    obtain ⟨k, rfl, hk, HOK, HBE⟩ := hrel
    by_cases hlt : k < l.length
    · obtain ⟨bt, ot, ct', ex, hct⟩ := ints_cell HG.out k hlt
      cases ex
      have HBAD : Hid (risB n l k = false → risingB n l = false) := fun h => by
        rw [risingB, List.all_eq_false]
        exact ⟨k, List.mem_range.2 hlt, by rw [h]; decide⟩
      have HNEXT : Hid (risB n l k = true → ∀ j, j < k + 1 → risB n l j = true) := fun h j hj => by
        by_cases e : j = k
        · subst e; exact h
        · exact HOK.out j (by omega)
      have HR : Hid (risB n l k = (thereB n (l.getD k 0) && (decide (k = 0) || decide (l.getD (k - 1) 0 < l.getD k 0)))) := rfl
      have hprev : 0 < k → w.cell? ⟨bt, ot + (k - 1), none⟩ = some (.int .i64 (l.getD (k - 1) 0)) := fun h0 => by
        obtain ⟨b2, o2, c2, ex2, hc2⟩ := ints_cell HG.out (k - 1) (by omega)
        simp only [Value.slice.injEq, Option.some.injEq, Addr.mk.injEq] at ex2
        obtain ⟨⟨e1, e2, _⟩, _⟩ := ex2
        rw [e1, e2]
        exact hc2
      have c0 := up_cell HBE.out hct
      have HBD : Hid (∀ m, Below w.heap.size w (wr.drewN m)) := fun m => below_drewN HBE.out m
      have HT : Hid (∀ x, thereB n x = true ↔ 0 ≤ x ∧ x < n) := fun x => thereB_iff
      obtain ⟨x, hx⟩ : ∃ x, x = l.getD k 0 := ⟨_, rfl⟩
      rw [← hx] at c0 HR
      clear hx HOK hct
      go_wp2_with fail
      by_cases h1 : x < 0
      · have HNO := hide' (HBAD.out (by rw [HR.out]; have : thereB n x = false := by { rw [← Bool.not_eq_true, HT.out]; omega }; rw [this]; rfl))
        go_quiet (fail)
        go_wp2
        go_ret
        exact ⟨by rw [HNO.out]; rfl, HBD.out _⟩
      by_cases h2 : n ≤ x
      · have HNO := hide' (HBAD.out (by rw [HR.out]; have : thereB n x = false := by { rw [← Bool.not_eq_true, HT.out]; omega }; rw [this]; rfl))
        go_quiet (fail)
        go_wp2
        go_ret
        exact ⟨by rw [HNO.out]; rfl, HBD.out _⟩
      have ht : thereB n x = true := by rw [HT.out]; omega
      rw [ht, Bool.true_and] at HR
      clear ht
      by_cases h0 : 0 < k
      · have hp := up_cell HBE.out (hprev h0)
        obtain ⟨z, hz⟩ : ∃ z, z = l.getD (k - 1) 0 := ⟨_, rfl⟩
        rw [← hz] at hp HR
        obtain ⟨k', rfl⟩ : ∃ k', k = k' + 1 := ⟨k - 1, by omega⟩
        simp only [Nat.add_sub_cancel] at hp
        clear hprev hz h0
        by_cases hlt2 : z < x
        · have HY := hide' (HNEXT.out (by rw [HR.out]; simp [hlt2]))
          go_quiet (fail)
          go_wp2
          go_roundw
          case rel => exact ⟨k' + 1 + 1, by go_num, by omega, HY.out, HBD.out _⟩
          case measure => simp [intOf]; omega
        · have HNO := hide' (HBAD.out (by rw [HR.out]; simp; omega))
          go_quiet (fail)
          go_wp2
          go_ret
          exact ⟨by rw [HNO.out]; rfl, HBD.out _⟩
      · have hk0 : k = 0 := by omega
        subst hk0
        rw [Nat.add_zero] at c0
        have HY := hide' (HNEXT.out (by rw [HR.out]; rfl))
        clear hprev
        go_quiet (fail)
        go_wp2
        go_roundw
        case rel => exact ⟨0 + 1, by go_num, by omega, HY.out, HBD.out _⟩
        case measure => simp [intOf]; omega
    · have HALL : Hid (risingB n l = true) := by
        show _ = _
        rw [risingB, List.all_eq_true]
        exact fun j hj => HOK.out j (by have := List.mem_range.1 hj; omega)
      go_wp2
      go_ret
      exact ⟨by rw [HALL.out]; rfl, HBE.out⟩
end Go.Proofs.Ytcnoipcpifackah
