/- The least of a row, in the document; SwingLeast. -/
import Derived.Test.YtligmokepafnbajG1
namespace Go.Proofs.Ytligmokepafnbaj
open Go.RowKit Go.Shelf

attribute [local go_sem] run_fadd run_fsub run_fmul run_fquo

theorem less_lt {x y : Nat} (d : Bool) (hx : x < 2 ^ 64) (hy : y < 2 ^ 64) : lessD x y d < 2 ^ 64 := by
  unfold lessD; split
  · exact hy
  · exact hx
theorem less_nan {x y : Nat} (d : Bool) (hx : nanB x = false) (hy : nanB y = false) : nanB (lessD x y d) = false := by
  unfold lessD; split
  · exact hy
  · exact hx

set_option maxRecDepth 100000 in
set_option maxHeartbeats 4000000 in
theorem LeastOf_any (l : List Nat) (v : Value) (w : World) (hr : RowAt w v l.length 1 (fls l)) (hw : ∀ x ∈ l, x < 2 ^ 64) (hn : l.length ≤ 2000000) :
    Calls Try.prog 15 #[v] w fun e w' => ∃ r, e = .returned (.float .f64 r) ∧ nm r = leastO (l.map nm) ∧ Below w.heap.size w w' := by
  have HR := hide' hr
  have HW := hide' hw
  obtain ⟨a, cap, rfl⟩ := rowAt_slice hr
  have q01 : fdr .quo 4607182418800017408 0 = 0 := by decide
  have q02 : ∀ w, fres .quo w 4607182418800017408 0 = 9218868437227405312 := fun w => by
    unfold fres
    rw [show floatBits .quo .f64 4607182418800017408 0 = some 9218868437227405312 from by decide]
  clear hr hw
  go_enter Try.func15, Try.ntmps15
  go_wp2_with fail
  go_loopw [3] (fun i wr => ∃ (k : Nat), i = .int .i64 k ∧ k ≤ l.length ∧ Hid (∀ j, j < k → nanB (l.getD j 0) = false) ∧ Hid (Below w.heap.size w wr)) (fun i _ => l.length - (intOf i).toNat)
  case atStart => exact ⟨0, rfl, Nat.zero_le _, fun j h => absurd h (Nat.not_lt_zero j), Below.refl _ _⟩
  case round =>
    obtain ⟨k, rfl, hk, HN, HBE⟩ := hrel
    by_cases hlt : k < l.length
    · obtain ⟨b1, o1, c1, ex1, hc1⟩ := fl_cell HR.out k hlt
      cases ex1
      have e1 := up_cell HBE.out hc1
      have HIN : Hid (nanB (l.getD k 0) = true → none ∈ l.map nm) := fun h => by
        refine List.mem_map.2 ⟨l[k], List.getElem_mem hlt, ?_⟩
        rw [List.getD_eq_getElem?_getD, List.getElem?_eq_getElem hlt] at h
        exact nm_none h
      have HNX : Hid (nanB (l.getD k 0) = false → ∀ j, j < k + 1 → nanB (l.getD j 0) = false) := fun h j hj => by
        by_cases e : j = k
        · subst e; exact h
        · exact HN.out j (by omega)
      obtain ⟨x, hx⟩ : ∃ x, x = l.getD k 0 := ⟨_, rfl⟩
      rw [← hx] at e1 HNX HIN
      have HBD : Hid (∀ m, Below w.heap.size w (wr.drewN m)) := fun m => below_drewN HBE.out m
      have HE1 : Hid (∀ m, (wr.drewN m).cell? ⟨b1, o1 + k, none⟩ = some (.float .f64 x)) := fun _ => e1
      clear hc1 hx HBE HN
      cases hnx : nanB x with
      | true =>
        have o1' := order_left (y := x) hnx
        have HL : Hid (nm x = leastO (l.map nm)) := by
          show _ = _
          unfold leastO
          rw [fold_nan _ _ (HIN.out hnx)]; exact nm_none hnx
        clear HNX HIN hnx
        go_wp2_with fail
        go_quiet (fail)
        go_wp2
        go_ret
        exact ⟨_, rfl, HL.out, HBD.out _⟩
      | false =>
        have o1' := order_self hnx
        have HNY := hide' (HNX.out hnx)
        clear HNX HIN hnx
        go_wp2_with fail
        go_quiet (fail)
        go_wp2
        go_roundw
        case rel => exact ⟨k + 1, by go_num, by omega, HNY.out, HBD.out _⟩
        case measure => simp [intOf]; omega
    · have hk2 : k = l.length := by omega
      have HNA : Hid (∀ j, j < l.length → nanB (l.getD j 0) = false) := fun j hj => HN.out j (by omega)
      clear HN hk2
      go_wp2_with fail
      go_loopw [5, 6] (fun x i w2 => ∃ (k r : Nat), i = .int .i64 k ∧ x = .float .f64 r ∧ k ≤ l.length ∧ Hid (nm r = leastO ((l.take k).map nm) ∧ r < 2 ^ 64 ∧ nanB r = false) ∧ Hid (Below w.heap.size w w2)) (fun _ i _ => l.length - (intOf i).toNat)
      case atStart => exact ⟨0, _, rfl, rfl, Nat.zero_le _, ⟨nm_some (by decide), by decide, by decide⟩, HBE.out⟩
      case round =>
        obtain ⟨k2, r, rfl, rfl, hk2, HL, HB2⟩ := hrel
        by_cases hlt2 : k2 < l.length
        · obtain ⟨b1, o1, c1, ex1, hc1⟩ := fl_cell HR.out k2 hlt2
          cases ex1
          have e1 := up_cell HB2.out hc1
          have hny := HNA.out k2 hlt2
          have hyw : l.getD k2 0 < 2 ^ 64 := by
            rw [List.getD_eq_getElem?_getD, List.getElem?_eq_getElem hlt2]
            exact HW.out _ (List.getElem_mem hlt2)
          have hft := fold_take minO (some 9218868437227405312) l k2 hlt2
          obtain ⟨y, hy⟩ : ∃ y, y = l.getD k2 0 := ⟨_, rfl⟩
          rw [← hy] at e1 hny hyw hft
          obtain ⟨q, hq⟩ := one_over hny
          have hml := min_less HL.out.2.1 hyw HL.out.2.2 hny hq
          have HNX : Hid (nm (lessD r y (FloatKind.f64.format.order q 0 == some .lt)) = leastO ((l.take (k2 + 1)).map nm) ∧ lessD r y (FloatKind.f64.format.order q 0 == some .lt) < 2 ^ 64 ∧ nanB (lessD r y (FloatKind.f64.format.order q 0 == some .lt)) = false) := by
            refine ⟨?_, less_lt _ HL.out.2.1 hyw, less_nan _ HL.out.2.2 hny⟩
            rw [nm_some (less_nan _ HL.out.2.2 hny), ← hml]
            unfold leastO
            rw [hft]
            have h1 := HL.out.1
            rw [nm_some HL.out.2.2] at h1
            rw [nm_some hny]
            unfold leastO at h1
            rw [← h1]
          have q1 : fdr .quo 4607182418800017408 y = 0 := by unfold fdr; rw [hq]; rfl
          have q2 : ∀ w, fres .quo w 4607182418800017408 y = q := fun w => by unfold fres; rw [hq]
          unfold lessD at HNX
          clear hc1 hy HL hny hyw hft hq hml
          cases h1 : (FloatKind.f64.format.order y r == some .lt)
          · cases h2 : (FloatKind.f64.format.order y 0 == some .eq)
            · rw [h1, h2] at HNX
              go_wp2
              go_roundw
              case rel => exact ⟨k2 + 1, _, by go_num, rfl, by omega, HNX.out, HB2.out⟩
              case measure => simp [intOf]; omega
            · cases h3 : (FloatKind.f64.format.order r 0 == some .eq)
              · rw [h1, h2, h3] at HNX
                go_wp2
                go_roundw
                case rel => exact ⟨k2 + 1, _, by go_num, rfl, by omega, HNX.out, HB2.out⟩
                case measure => simp [intOf]; omega
              · cases h4 : (FloatKind.f64.format.order q 0 == some .lt)
                · rw [h1, h2, h3, h4] at HNX
                  go_wp2
                  go_roundw
                  case rel => exact ⟨k2 + 1, _, by go_num, rfl, by omega, HNX.out, HB2.out⟩
                  case measure => simp [intOf]; omega
                · rw [h1, h2, h3, h4] at HNX
                  go_wp2
                  go_roundw
                  case rel => exact ⟨k2 + 1, _, by go_num, rfl, by omega, HNX.out, HB2.out⟩
                  case measure => simp [intOf]; omega
          · rw [h1] at HNX
            go_wp2
            go_roundw
            case rel => exact ⟨k2 + 1, _, by go_num, rfl, by omega, HNX.out, HB2.out⟩
            case measure => simp [intOf]; omega
        · have HE : Hid (nm r = leastO (l.map nm)) := by
            have hk3 : k2 = l.length := by omega
            show _ = _
            rw [HL.out.1, hk3, List.take_length]
          clear HL
          go_wp2
          go_ret
          exact ⟨_, rfl, HE.out, HB2.out⟩

set_option maxRecDepth 100000 in
set_option maxHeartbeats 2000000 in
theorem SwingLeast_any (l : List Nat) (v : Value) (w : World) (hr : RowAt w v l.length 1 (fls l)) (hw : ∀ x ∈ l, x < 2 ^ 64) (hn : l.length ≤ 2000000) :
    Calls Try.prog 4 #[v] w fun e w' => e = .returned (.bool true) ∧ Below w.heap.size w w' := by
  have HR := hide' hr
  have HF := hide' (floats_any l v w hr hn)
  obtain ⟨a, cap, rfl⟩ := rowAt_slice hr
  clear hr
  go_enter Try.func4, Try.ntmps4
  go_wp2_with fail
  refine HF.out.mono ?_
  rintro e w1 ⟨v1, rfl, hv1, hb1⟩
  have HB1 := hide' hb1
  have HL := hide' (Least_any l v1 w1 (rowAt_of_own hv1) hn)
  clear hv1 hb1
  go_wp2_with fail
  refine HL.out.mono ?_
  rintro e w2 ⟨r, rfl, hr, hb2⟩
  have HB2 : Hid (Below w.heap.size w w2) := HB1.out.trans (hb2.mono HB1.out.size)
  have HD := hide' (LeastOf_any l _ w2 (HR.out.below HB2.out (Nat.le_refl _)) hw hn)
  have HQ := hide' hr
  clear hb2 HB1 hr
  go_wp2_with fail
  refine HD.out.mono ?_
  rintro e w3 ⟨s, rfl, hs, hb3⟩
  have HB3 : Hid (Below w.heap.size w w3) := HB2.out.trans (hb3.mono HB2.out.size)
  have HS := hide' (SameFloat_any r s (by rw [HQ.out, hs]) w3)
  clear hb3 HB2 hs
  go_wp2_with fail
  refine HS.out.mono ?_
  rintro e w4 ⟨rfl, rfl⟩
  go_wp2
  go_ret
  exact ⟨rfl, HB3.out⟩
end Go.Proofs.Ytligmokepafnbaj
