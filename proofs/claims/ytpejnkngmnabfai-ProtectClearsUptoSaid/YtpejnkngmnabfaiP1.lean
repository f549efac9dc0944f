/- Whether breakers are one behind the other; numbers picked. -/
import Derived.Test.YtpejnkngmnabfaiP0
namespace Go.Proofs.Ytpejnkngmnabfai
open Go.RowKit Go.Shelf

theorem get_same {l : List Int} {k : Nat} (h : k < l.length) (x : Int) : l.getD k x = l.getD k 0 := by
  rw [List.getD_eq_getElem?_getD, List.getD_eq_getElem?_getD, List.getElem?_eq_getElem h]; rfl
theorem isUpTo_any (most x : Int) (w : World) : Calls Try.prog 19 #[.int .i64 most, .int .i64 x] w fun e w' => e = .returned (.bool (decide (0 ≤ x) && decide (x ≤ most))) ∧ w' = w := by
  by_cases h0 : 0 ≤ x
  · by_cases h1 : x ≤ most
    · go_enter Try.func19, Try.ntmps19
      go_wp2
      go_ret
      exact ⟨by simp [h0, h1], rfl⟩
    · go_enter Try.func19, Try.ntmps19
      go_wp2
      go_ret
      exact ⟨by simp [h1], rfl⟩
  · go_enter Try.func19, Try.ntmps19
    go_wp2
    go_ret
    exact ⟨by simp; omega, rfl⟩
theorem tmod_within (a : Int) (f : Nat) (ha : 0 ≤ a) (hf : 0 < f) : ∃ p : Nat, a.tmod f = p ∧ p < f := by
  have h1 := Int.tmod_nonneg (f : Int) ha
  have h2 := Int.tmod_lt_of_pos a (show (0 : Int) < f by omega)
  exact ⟨(a.tmod f).toNat, (Int.toNat_of_nonneg h1).symm, by omega⟩
theorem picked_is (n : Int) (f : Nat) (h : I6 n) (hf : 0 < f) (hf1 : f ≤ 3000) :
    ∃ p : Nat, p < f ∧ ∀ w : World, Calls Try.prog 16 #[.int .i64 n, .int .i64 f] w fun e w' => e = .returned (.int .i64 (p : Int)) ∧ w' = w := by
  obtain ⟨h0, h1⟩ := h
  have hf0 : ((f : Int) == 0) = false := by simp; omega
  by_cases hn : n < 0
  · obtain ⟨p, hp, hlt⟩ := tmod_within (-(n + 1)) f (by omega) hf
    rw [Int.neg_tmod] at hp
    refine ⟨p, hlt, fun w => ?_⟩
    go_enter Try.func16, Try.ntmps16
    go_wp2
    go_ret
    exact ⟨by first | rfl | rw [hp], rfl⟩
  · obtain ⟨p, hp, hlt⟩ := tmod_within n f (by omega) hf
    refine ⟨p, hlt, fun w => ?_⟩
    go_enter Try.func16, Try.ntmps16
    go_wp2
    go_ret
    exact ⟨by first | rfl | rw [hp], rfl⟩
set_option maxRecDepth 100000 in
set_option maxHeartbeats 2000000 in
theorem areAhead_any (bs : List Int) (v : Value) (w : World) (hx : RowAt w v bs.length 1 (ints bs)) (hn : bs.length ≤ 9000000000000000000) : Calls Try.prog 18 #[v] w fun e w' => e = .returned (.bool (aheadB bs 0)) ∧ w' = w := by
  have HG := hide' hx
  obtain ⟨ag, cg, rfl⟩ := rowAt_slice hx
  clear hx
  go_enter Try.func18, Try.ntmps18
  go_wp2_with fail
  go_loopw [7] (fun i wr => ∃ (k : Nat), i = .int .i64 k ∧ k ≤ bs.length ∧ Hid (aheadB (bs.drop k) k = aheadB bs 0) ∧ wr = w) (fun i _ => bs.length - (intOf i).toNat)
  case atStart => exact ⟨0, rfl, Nat.zero_le _, by show _ = _; rfl, rfl⟩
  case round =>
    obtain ⟨k, rfl, hk, HOK, hwr⟩ := hrel
    subst hwr
    by_cases hlt : k < bs.length
    · obtain ⟨bt, ot, ct', ex, hct⟩ := ints_cell HG.out k hlt
      cases ex
      have HS := hide' (aheadB_step hlt)
      rw [get_same hlt] at HS
      obtain ⟨x, hx⟩ : ∃ x, x = bs.getD k 0 := ⟨_, rfl⟩
      rw [← hx] at hct HS
      clear hx
      by_cases h1 : x < -1
      · have HNO : Hid (aheadB bs 0 = false) := by show _ = _; rw [← HOK.out, HS.out]; simp; omega
        go_wp2
        go_ret
        exact ⟨by rw [HNO.out]; rfl, rfl⟩
      by_cases h2 : (k : Int) ≤ x
      · have HNO : Hid (aheadB bs 0 = false) := by show _ = _; rw [← HOK.out, HS.out]; simp; omega
        go_wp2
        go_ret
        exact ⟨by rw [HNO.out]; rfl, rfl⟩
      have HY : Hid (aheadB (bs.drop (k + 1)) (k + 1) = aheadB bs 0) := by
        show _ = _
        rw [← HOK.out, HS.out]
        have e1 : decide (-1 ≤ x) = true := by simp; omega
        have e2 : decide (x < (k : Int)) = true := by simp; omega
        rw [e1, e2]; rfl
      go_wp2
      go_roundw
      case rel => exact ⟨k + 1, by go_num, by omega, HY, trivial⟩
      case measure => simp [intOf]; omega
    · have HALL : Hid (aheadB bs 0 = true) := by
        show _ = _
        rw [← HOK.out, List.drop_eq_nil_of_le (by omega)]; rfl
      go_wp2
      go_ret
      exact ⟨by rw [HALL.out]; rfl, rfl⟩
end Go.Proofs.Ytpejnkngmnabfai
