/- Which schedule is the earlier one, in the document's answer. -/
import Derived.Test.YtlbeecjkfakkpagCc
namespace Go.Proofs.Ytlbeecjkfakkpag
open Go.RowKit Go.Shelf

theorem getD_of_lt {α : Type} {l : List α} {k : Nat} (d : α) (h : k < l.length) : l.getD k d = l[k] := by rw [List.getD_eq_getElem?_getD, List.getElem?_eq_getElem h]; rfl
theorem getD_ext {α : Type} {a b : List α} (d : α) (hl : a.length = b.length) (h : ∀ j, j < a.length → a.getD j d = b.getD j d) : a = b := by
  apply List.ext_getElem hl
  intro i h1 h2
  have := h i h1
  rwa [getD_of_lt d h1, getD_of_lt d h2] at this
set_option maxRecDepth 100000 in
set_option maxHeartbeats 4000000 in
theorem earlier_any (n : Nat) (a b : List (List Bool)) (av bv : Value) (w : World) (ha : SignsAt w av a) (hb : SignsAt w bv b) (hl : a.length = b.length) (hra : ∀ r ∈ a, r.length = n) (hrb : ∀ r ∈ b, r.length = n) (h8 : a.length ≤ 8) (h4 : n ≤ 4) :
    Calls Try.prog 43 #[av, bv] w fun e w' => e = .returned (.bool (decide (sched n a < sched n b))) ∧ ∃ m, w' = w.drewN m := by
  have HA := hide' ha
  have HB := hide' hb
  have HRA := hide' hra
  have HRB := hide' hrb
  have HL := hide' hl
  obtain ⟨aa, ca, rfl⟩ := ha.slice
  obtain ⟨ab, cb, rfl⟩ := hb.slice
  rw [← hl]
  clear ha hb hra hrb hl
  go_enter Try.func43, Try.ntmps43
  go_wp2_with fail
  go_loopw [5] (fun hv W => ∃ (h : Nat), hv = .int .i64 h ∧ h ≤ a.length ∧ Hid (∀ j, j < h → a.getD j [] = b.getD j []) ∧ ∃ q, W = w.drewN q) (fun hv _ => a.length - (intOf hv).toNat)
  case atStart => exact ⟨0, rfl, Nat.zero_le _, fun j h => absurd h (Nat.not_lt_zero j), 0, rfl⟩
  case round =>
    obtain ⟨h, rfl, hh, HROW, q, rfl⟩ := hrel
    by_cases hlt : h < a.length
    · obtain ⟨ba, oa, ca', a', c', exa, hca, hrow⟩ := HA.out.cell h hlt
      cases exa
      obtain ⟨bb, ob, cb', b', d', exb, hcb, hrowb⟩ := HB.out.cell h (by rw [← HL.out]; exact hlt)
      cases exb
      obtain ⟨ra, hrae⟩ : ∃ r, r = a.getD h [] := ⟨_, rfl⟩
      obtain ⟨rb, hrbe⟩ : ∃ r, r = b.getD h [] := ⟨_, rfl⟩
      rw [← getD_of_lt [] hlt, ← hrae] at hca hrow
      rw [← getD_of_lt [] (by rw [← HL.out]; exact hlt), ← hrbe] at hcb hrowb
      have HLA : Hid (ra.length = n) := by show _ = _; rw [hrae, getD_of_lt [] hlt]; exact HRA.out _ (List.getElem_mem _)
      have HLB : Hid (rb.length = n) := by show _ = _; rw [hrbe, getD_of_lt [] (by rw [← HL.out]; exact hlt)]; exact HRB.out _ (List.getElem_mem _)
      rw [HLA.out] at hca hrow
      rw [HLB.out] at hcb hrowb
      have HOA := hide' hrow
      have HOB := hide' hrowb
      have HFI : Hid (∀ (i : Nat) (x y : Bool), i < n → (∀ j, j < i → ra.getD j false = rb.getD j false) → ra.getD i false = x → rb.getD i false = y → x ≠ y → decide (sched n a < sched n b) = y) := fun i x y hi hbit hx hy hne => by
        rw [hrae] at hbit hx
        rw [hrbe] at hbit hy
        exact sched_first HL.out HRA.out HRB.out hlt HROW.out hbit hi hx hy hne
      have HNX : Hid ((∀ j, j < n → ra.getD j false = rb.getD j false) → ∀ j, j < h + 1 → a.getD j [] = b.getD j []) := fun hall j hj => by
        by_cases e : j = h
        · rw [e, ← hrae, ← hrbe]
          exact getD_ext false (HLA.out.trans HLB.out.symm) (fun j hj => hall j (by rw [HLA.out] at hj; exact hj))
        · exact HROW.out j (by omega)
      clear hrow hrowb hrae hrbe HROW
      go_wp2_with fail
      go_loopw [6] (fun iv W => ∃ (i : Nat), iv = .int .i64 i ∧ i ≤ n ∧ Hid (∀ j, j < i → ra.getD j false = rb.getD j false) ∧ ∃ q, W = w.drewN q) (fun iv _ => n - (intOf iv).toNat)
      case atStart => exact ⟨0, rfl, Nat.zero_le _, fun j h => absurd h (Nat.not_lt_zero j), _, rfl⟩
      case round =>
        obtain ⟨i, rfl, hi, HBIT, q2, rfl⟩ := hrel
        by_cases hin : i < n
        · obtain ⟨bp, op, cp', exp, hbp, hcp⟩ := Row1.cell HOA.out i (by rw [HLA.out]; exact hin)
          cases exp
          obtain ⟨bq, oq, cq', exq, hbq, hcq⟩ := Row1.cell HOB.out i (by rw [HLB.out]; exact hin)
          cases exq
          obtain ⟨x, hx⟩ : ∃ x, x = ra.getD i false := ⟨_, rfl⟩
          obtain ⟨y, hy⟩ : ∃ x, x = rb.getD i false := ⟨_, rfl⟩
          rw [← hx] at hcp
          rw [← hy] at hcq
          by_cases hxy : x = y
          · subst hxy
            have HN2 : Hid (∀ j, j < i + 1 → ra.getD j false = rb.getD j false) := fun j hj => by
              by_cases e : j = i
              · rw [e, ← hx, ← hy]
              · exact HBIT.out j (by omega)
            clear hx hy hbp hbq
            go_wp2_with fail
            go_quiet (fail)
            go_wp2
            go_roundw
            case rel => exact ⟨i + 1, by go_num, by omega, HN2, _, rfl⟩
            case measure => simp [intOf]; omega
          · have HE := hide' (HFI.out i x y hin HBIT.out hx.symm hy.symm hxy)
            have hor : (x = false ∧ y = true) ∨ (x = true ∧ y = false) := by cases x <;> cases y <;> first | exact absurd rfl hxy | exact .inl ⟨rfl, rfl⟩ | exact .inr ⟨rfl, rfl⟩
            clear hx hy hbp hbq hxy
            rcases hor with ⟨rfl, rfl⟩ | ⟨rfl, rfl⟩
            all_goals
              go_wp2_with fail
              go_quiet (fail)
              go_wp2
              go_ret
              exact ⟨congrArg (fun b => Ending.returned (.bool b)) HE.out.symm, _, rfl⟩
        · have HN2 : Hid (∀ j, j < h + 1 → a.getD j [] = b.getD j []) := HNX.out (fun j hj => HBIT.out j (by omega))
          go_wp2
          go_roundw
          case rel => exact ⟨h + 1, by go_num, by omega, HN2, _, rfl⟩
          case measure => simp [intOf]; omega
    · have HE : Hid (decide (sched n a < sched n b) = false) := by
        have : a = b := getD_ext [] HL.out (fun j hj => HROW.out j (by omega))
        rw [this]
        exact decide_eq_false (by omega)
      go_wp2
      go_ret
      exact ⟨congrArg (fun b => Ending.returned (.bool b)) HE.out.symm, _, rfl⟩
end Go.Proofs.Ytlbeecjkfakkpag
