/- sameInts of a row and itself answers true. -/
import Derived.Test.YtcnoipcpifackahZ6
namespace Go.Proofs.Ytcnoipcpifackah
open Go.RowKit Go.Shelf

theorem int_cell {w : World} {v : Value} {l : List Int} {n : Nat} (h : RowAt w v n 1 (ints l)) (k : Nat) (hk : k < l.length) : ∃ b off c, v = .slice (some ⟨b, off, none⟩) n c ∧ w.cell? ⟨b, off + k, none⟩ = some (.int .i64 (l.getD k 0)) := by
  obtain ⟨_, a, c, rfl, h2⟩ := h
  obtain ⟨b, off, rfl, h3⟩ := h2 k (.int .i64 (l.getD k 0)) (by rw [ints, List.getElem?_map, List.getElem?_eq_getElem hk, List.getD_eq_getElem?_getD, List.getElem?_eq_getElem hk]; rfl)
  exact ⟨b, off, c, rfl, h3⟩
set_option maxRecDepth 100000 in
set_option maxHeartbeats 2000000 in
theorem sameInts_same (l : List Int) (n : Nat) (u v : Value) (w : World) (hu : RowAt w u n 1 (ints l)) (hv : RowAt w v n 1 (ints l)) (hn : n ≤ 1000) :
    Calls Try.prog 14 #[u, v] w fun e w' => e = .returned (.bool true) ∧ Below w.heap.size w w' := by
  have HU := hide' hu
  have HV := hide' hv
  have HL : Hid (l.length = n) := by show _ = _; have h := hu.1; simpa [ints] using h
  obtain ⟨au, cu, rfl⟩ := rowAt_slice hu
  obtain ⟨av, cv, rfl⟩ := rowAt_slice hv
  clear hu hv
  go_enter Try.func14, Try.ntmps14
  go_wp2_with fail
  go_loopw [5] (fun i wr => ∃ (k : Nat), i = .int .i64 k ∧ k ≤ n ∧ Hid (Below w.heap.size w wr)) (fun i _ => n - (intOf i).toNat)
  case atStart => exact ⟨0, rfl, Nat.zero_le _, Below.refl _ w⟩
  case round =>
    obtain ⟨k, rfl, hk, HBE⟩ := hrel
    by_cases hlt : k < n
    · obtain ⟨b1, o1, c1, ex1, hc1⟩ := int_cell HU.out k (by rw [HL.out]; exact hlt)
      cases ex1
      obtain ⟨b2, o2, c2, ex2, hc2⟩ := int_cell HV.out k (by rw [HL.out]; exact hlt)
      cases ex2
      have e1 := up_cell HBE.out hc1
      have e2 := up_cell HBE.out hc2
      obtain ⟨x, hx⟩ : ∃ x, x = l.getD k 0 := ⟨_, rfl⟩
      rw [← hx] at e1 e2
      have HBD : Hid (∀ m, Below w.heap.size w (wr.drewN m)) := fun m => below_drewN HBE.out m
      clear hc1 hc2 hx HBE
      go_wp2_with fail
      go_quiet (fail)
      go_wp2
      go_roundw
      case rel => exact ⟨k + 1, by go_num, by omega, HBD.out _⟩
      case measure => simp [intOf]; omega
    · go_wp2
      go_ret
      exact ⟨rfl, HBE.out⟩
end Go.Proofs.Ytcnoipcpifackah
