/- Numbers as rows of digits: added. -/
import Derived.Test.YtmbgjmkndhjilakFd
namespace Go.Proofs.Ytmbgjmkndhjilak
open Go.RowKit Go.Shelf

set_option maxRecDepth 100000 in
set_option maxHeartbeats 4000000 in
theorem natAdd_row (a b : List Nat) (ha : Canon a) (hb : Canon b) (u v : Value) (w : World) (hu : RowAt w u a.length 1 (ints (dg a))) (hv : RowAt w v b.length 1 (ints (dg b))) (hn : a.length ≤ 10000) (hm : b.length ≤ 10000) : Calls Try.prog 78 #[u, v] w (NumR (valN a + valN b) w) := by
  obtain ⟨i3, hi3, h30, h31, h32⟩ := info_parts Try.info3'
  have HU := hide' hu
  have HV := hide' hv
  obtain ⟨au, cu, rfl⟩ := rowAt_slice hu
  obtain ⟨av, cv, rfl⟩ := rowAt_slice hv
  clear hu hv
  go_enter Try.func78, Try.ntmps78
  by_cases hab : a.length < b.length
  · go_wp2_with fail
    go_loopw [6, 7, 8] (fun ov cv iv wr => ∃ (k c : Nat) (o : List Nat), cv = .int .i64 c ∧ iv = .int .i64 k ∧ k ≤ b.length ∧ Hid (AddI a b k c o) ∧ Hid (wr.ownsRow w.heap.size 3 1 ov o.length (ints (dg o)) ∧ Below w.heap.size w wr)) (fun _ _ iv _ => b.length - (intOf iv).toNat)
    case atStart => exact ⟨0, 0, [], rfl, rfl, Nat.zero_le _, ⟨rfl, fun d h => (by cases h), Nat.zero_le _, rfl⟩, World.ownsRow_nil _ _ _ _, Below.refl _ w⟩
    case round =>
      obtain ⟨k, c, o, rfl, rfl, hk, HA, HW⟩ := hrel
      have hcb := HA.out.c1
      have hol := HA.out.len
      by_cases hlt : k < b.length
      · have hkb : k < b.length := hlt
        by_cases hka : k < a.length
        · obtain ⟨b1, o1, c1, ex1, hc1⟩ := dg_cell HU.out k hka
          have e1 := up_cell HW.out.2 hc1
          cases ex1
          have hx1 := dgs_get ha.dg k
          obtain ⟨x, hx⟩ : ∃ x, x = a.getD k 0 := ⟨_, rfl⟩
          rw [← hx] at e1 hx1
          clear hc1
          obtain ⟨b2, o2, c2, ex2, hc2⟩ := dg_cell HV.out k hkb
          have e2 := up_cell HW.out.2 hc2
          cases ex2
          have hy1 := dgs_get hb.dg k
          obtain ⟨y, hy⟩ : ∃ y, y = b.getD k 0 := ⟨_, rfl⟩
          rw [← hy] at e2 hy1
          clear hc2
          obtain ⟨q, hq⟩ : ∃ q, q = c + x + y := ⟨_, rfl⟩
          have HNX := hide' (HA.out.next ha.dg hb.dg (x := q) (by rw [← hx, ← hy]; exact hq))
          have HTM : Hid (((c : Int) + (x : Int) + (y : Int)) % 10000 = ((q % 10000 : Nat) : Int) ∧ ((c : Int) + (x : Int) + (y : Int)) / 10000 = ((q / 10000 : Nat) : Int)) := ⟨by omega, by omega⟩
          have HL : Hid (o.length ≤ 100000) := by show _ ≤ _; omega
          clear hx hy HA
          go_wp2_with (at_builtin; refine wpList_append_own _ rfl _ _ 23 rfl w.heap.size 3 i3 (.int .i64 0) 1 8 Try.underlying23 hi3 h30 h31 h32 rfl (by decide) _ _ _ rfl (own_below HW.out.1 (below_al _ _) (Nat.le_refl _)) ⟨wr.heap.size, 0, none⟩ 1 1 [.int .i64 (((c : Int) + (x : Int) + (y : Int)) % 10000)] rfl rfl (cell_one_new _ _ _) (one_cell rfl) (by have := HL.out; unfold maxLen; omega) (by have := HL.out; omega) (Nat.le_trans HW.out.2.size (below_al _ _).size) ?_; intro v' w8 hown' hgrow _; refine Still.go ?_)
          unfold Still
          have HNW : Hid (w8.ownsRow w.heap.size 3 1 v' (o ++ [q % 10000]).length (ints (dg (o ++ [q % 10000]))) ∧ Below w.heap.size w w8) := ⟨by rw [dg_snoc, List.length_append, ← HTM.out.1]; exact hown', (HW.out.2.trans ((below_al _ _).mono HW.out.2.size)).grown hgrow (Nat.le_trans HW.out.2.size (below_al _ _).size) (own_at HW.out.1)⟩
          clear hown' hgrow HW
          go_wp2_with fail
          go_roundw
          case rel => exact ⟨k + 1, q / 10000, o ++ [q % 10000], by rw [← HTM.out.2]; try rfl, by go_num, by omega, HNX.out, HNW⟩
          case measure => simp only [intOf]; omega
        · have hx : (0 : Nat) = a.getD k 0 := (getD_ge (by omega)).symm
          obtain ⟨b2, o2, c2, ex2, hc2⟩ := dg_cell HV.out k hkb
          have e2 := up_cell HW.out.2 hc2
          cases ex2
          have hy1 := dgs_get hb.dg k
          obtain ⟨y, hy⟩ : ∃ y, y = b.getD k 0 := ⟨_, rfl⟩
          rw [← hy] at e2 hy1
          clear hc2
          obtain ⟨q, hq⟩ : ∃ q, q = c + y := ⟨_, rfl⟩
          have HNX := hide' (HA.out.next ha.dg hb.dg (x := q) (by rw [← hx, ← hy]; exact hq))
          have HTM : Hid (((c : Int) + (y : Int)) % 10000 = ((q % 10000 : Nat) : Int) ∧ ((c : Int) + (y : Int)) / 10000 = ((q / 10000 : Nat) : Int)) := ⟨by omega, by omega⟩
          have HL : Hid (o.length ≤ 100000) := by show _ ≤ _; omega
          clear hx hy HA
          go_wp2_with (at_builtin; refine wpList_append_own _ rfl _ _ 23 rfl w.heap.size 3 i3 (.int .i64 0) 1 8 Try.underlying23 hi3 h30 h31 h32 rfl (by decide) _ _ _ rfl (own_below HW.out.1 (below_al _ _) (Nat.le_refl _)) ⟨wr.heap.size, 0, none⟩ 1 1 [.int .i64 (((c : Int) + (y : Int)) % 10000)] rfl rfl (cell_one_new _ _ _) (one_cell rfl) (by have := HL.out; unfold maxLen; omega) (by have := HL.out; omega) (Nat.le_trans HW.out.2.size (below_al _ _).size) ?_; intro v' w8 hown' hgrow _; refine Still.go ?_)
          unfold Still
          have HNW : Hid (w8.ownsRow w.heap.size 3 1 v' (o ++ [q % 10000]).length (ints (dg (o ++ [q % 10000]))) ∧ Below w.heap.size w w8) := ⟨by rw [dg_snoc, List.length_append, ← HTM.out.1]; exact hown', (HW.out.2.trans ((below_al _ _).mono HW.out.2.size)).grown hgrow (Nat.le_trans HW.out.2.size (below_al _ _).size) (own_at HW.out.1)⟩
          clear hown' hgrow HW
          go_wp2_with fail
          go_roundw
          case rel => exact ⟨k + 1, q / 10000, o ++ [q % 10000], by rw [← HTM.out.2]; try rfl, by go_num, by omega, HNX.out, HNW⟩
          case measure => simp only [intOf]; omega
      · have hf := HA.out.fin ha hb (by omega)
        by_cases hc0 : 0 < c
        · have HF := hide' (hf.2 hc0)
          have HL : Hid (o.length ≤ 100000) := by show _ ≤ _; omega
          clear hf HA
          go_wp2_with (at_builtin; refine wpList_append_own _ rfl _ _ 23 rfl w.heap.size 3 i3 (.int .i64 0) 1 8 Try.underlying23 hi3 h30 h31 h32 rfl (by decide) _ _ _ rfl (own_below HW.out.1 (below_al _ _) (Nat.le_refl _)) ⟨wr.heap.size, 0, none⟩ 1 1 [.int .i64 (c : Int)] rfl rfl (cell_one_new _ _ _) (one_cell rfl) (by have := HL.out; unfold maxLen; omega) (by have := HL.out; omega) (Nat.le_trans HW.out.2.size (below_al _ _).size) ?_; intro v' w8 hown' hgrow _; refine Still.go ?_)
          unfold Still
          have HNW : Hid (w8.ownsRow w.heap.size 3 1 v' (o ++ [c]).length (ints (dg (o ++ [c]))) ∧ Below w.heap.size w w8) := ⟨by rw [dg_snoc, List.length_append]; exact hown', (HW.out.2.trans ((below_al _ _).mono HW.out.2.size)).grown hgrow (Nat.le_trans HW.out.2.size (below_al _ _).size) (own_at HW.out.1)⟩
          clear hown' hgrow HW
          go_wp2
          go_ret
          exact ⟨_, rfl, ⟨_, HF.out.1, HF.out.2, rowAt_of_own HNW.out.1⟩, HNW.out.2⟩
        · have HF := hide' (hf.1 (by omega))
          clear hf HA
          go_wp2
          go_ret
          exact ⟨_, rfl, ⟨_, HF.out.1, HF.out.2, rowAt_of_own HW.out.1⟩, HW.out.2⟩
  · go_wp2_with fail
    go_loopw [6, 7, 8] (fun ov cv iv wr => ∃ (k c : Nat) (o : List Nat), cv = .int .i64 c ∧ iv = .int .i64 k ∧ k ≤ a.length ∧ Hid (AddI a b k c o) ∧ Hid (wr.ownsRow w.heap.size 3 1 ov o.length (ints (dg o)) ∧ Below w.heap.size w wr)) (fun _ _ iv _ => a.length - (intOf iv).toNat)
    case atStart => exact ⟨0, 0, [], rfl, rfl, Nat.zero_le _, ⟨rfl, fun d h => (by cases h), Nat.zero_le _, rfl⟩, World.ownsRow_nil _ _ _ _, Below.refl _ w⟩
    case round =>
      obtain ⟨k, c, o, rfl, rfl, hk, HA, HW⟩ := hrel
      have hcb := HA.out.c1
      have hol := HA.out.len
      by_cases hlt : k < a.length
      · have hka : k < a.length := hlt
        by_cases hkb : k < b.length
        · obtain ⟨b1, o1, c1, ex1, hc1⟩ := dg_cell HU.out k hka
          have e1 := up_cell HW.out.2 hc1
          cases ex1
          have hx1 := dgs_get ha.dg k
          obtain ⟨x, hx⟩ : ∃ x, x = a.getD k 0 := ⟨_, rfl⟩
          rw [← hx] at e1 hx1
          clear hc1
          obtain ⟨b2, o2, c2, ex2, hc2⟩ := dg_cell HV.out k hkb
          have e2 := up_cell HW.out.2 hc2
          cases ex2
          have hy1 := dgs_get hb.dg k
          obtain ⟨y, hy⟩ : ∃ y, y = b.getD k 0 := ⟨_, rfl⟩
          rw [← hy] at e2 hy1
          clear hc2
          obtain ⟨q, hq⟩ : ∃ q, q = c + x + y := ⟨_, rfl⟩
          have HNX := hide' (HA.out.next ha.dg hb.dg (x := q) (by rw [← hx, ← hy]; exact hq))
          have HTM : Hid (((c : Int) + (x : Int) + (y : Int)) % 10000 = ((q % 10000 : Nat) : Int) ∧ ((c : Int) + (x : Int) + (y : Int)) / 10000 = ((q / 10000 : Nat) : Int)) := ⟨by omega, by omega⟩
          have HL : Hid (o.length ≤ 100000) := by show _ ≤ _; omega
          clear hx hy HA
          go_wp2_with (at_builtin; refine wpList_append_own _ rfl _ _ 23 rfl w.heap.size 3 i3 (.int .i64 0) 1 8 Try.underlying23 hi3 h30 h31 h32 rfl (by decide) _ _ _ rfl (own_below HW.out.1 (below_al _ _) (Nat.le_refl _)) ⟨wr.heap.size, 0, none⟩ 1 1 [.int .i64 (((c : Int) + (x : Int) + (y : Int)) % 10000)] rfl rfl (cell_one_new _ _ _) (one_cell rfl) (by have := HL.out; unfold maxLen; omega) (by have := HL.out; omega) (Nat.le_trans HW.out.2.size (below_al _ _).size) ?_; intro v' w8 hown' hgrow _; refine Still.go ?_)
          unfold Still
          have HNW : Hid (w8.ownsRow w.heap.size 3 1 v' (o ++ [q % 10000]).length (ints (dg (o ++ [q % 10000]))) ∧ Below w.heap.size w w8) := ⟨by rw [dg_snoc, List.length_append, ← HTM.out.1]; exact hown', (HW.out.2.trans ((below_al _ _).mono HW.out.2.size)).grown hgrow (Nat.le_trans HW.out.2.size (below_al _ _).size) (own_at HW.out.1)⟩
          clear hown' hgrow HW
          go_wp2_with fail
          go_roundw
          case rel => exact ⟨k + 1, q / 10000, o ++ [q % 10000], by rw [← HTM.out.2]; try rfl, by go_num, by omega, HNX.out, HNW⟩
          case measure => simp only [intOf]; omega
        · obtain ⟨b1, o1, c1, ex1, hc1⟩ := dg_cell HU.out k hka
          have e1 := up_cell HW.out.2 hc1
          cases ex1
          have hx1 := dgs_get ha.dg k
          obtain ⟨x, hx⟩ : ∃ x, x = a.getD k 0 := ⟨_, rfl⟩
          rw [← hx] at e1 hx1
          clear hc1
          have hy : (0 : Nat) = b.getD k 0 := (getD_ge (by omega)).symm
          obtain ⟨q, hq⟩ : ∃ q, q = c + x := ⟨_, rfl⟩
          have HNX := hide' (HA.out.next ha.dg hb.dg (x := q) (by rw [← hx, ← hy]; exact hq))
          have HTM : Hid (((c : Int) + (x : Int)) % 10000 = ((q % 10000 : Nat) : Int) ∧ ((c : Int) + (x : Int)) / 10000 = ((q / 10000 : Nat) : Int)) := ⟨by omega, by omega⟩
          have HL : Hid (o.length ≤ 100000) := by show _ ≤ _; omega
          clear hx hy HA
          go_wp2_with (at_builtin; refine wpList_append_own _ rfl _ _ 23 rfl w.heap.size 3 i3 (.int .i64 0) 1 8 Try.underlying23 hi3 h30 h31 h32 rfl (by decide) _ _ _ rfl (own_below HW.out.1 (below_al _ _) (Nat.le_refl _)) ⟨wr.heap.size, 0, none⟩ 1 1 [.int .i64 (((c : Int) + (x : Int)) % 10000)] rfl rfl (cell_one_new _ _ _) (one_cell rfl) (by have := HL.out; unfold maxLen; omega) (by have := HL.out; omega) (Nat.le_trans HW.out.2.size (below_al _ _).size) ?_; intro v' w8 hown' hgrow _; refine Still.go ?_)
          unfold Still
          have HNW : Hid (w8.ownsRow w.heap.size 3 1 v' (o ++ [q % 10000]).length (ints (dg (o ++ [q % 10000]))) ∧ Below w.heap.size w w8) := ⟨by rw [dg_snoc, List.length_append, ← HTM.out.1]; exact hown', (HW.out.2.trans ((below_al _ _).mono HW.out.2.size)).grown hgrow (Nat.le_trans HW.out.2.size (below_al _ _).size) (own_at HW.out.1)⟩
          clear hown' hgrow HW
          go_wp2_with fail
          go_roundw
          case rel => exact ⟨k + 1, q / 10000, o ++ [q % 10000], by rw [← HTM.out.2]; try rfl, by go_num, by omega, HNX.out, HNW⟩
          case measure => simp only [intOf]; omega
      · have hf := HA.out.fin ha hb (by omega)
        by_cases hc0 : 0 < c
        · have HF := hide' (hf.2 hc0)
          have HL : Hid (o.length ≤ 100000) := by show _ ≤ _; omega
          clear hf HA
          go_wp2_with (at_builtin; refine wpList_append_own _ rfl _ _ 23 rfl w.heap.size 3 i3 (.int .i64 0) 1 8 Try.underlying23 hi3 h30 h31 h32 rfl (by decide) _ _ _ rfl (own_below HW.out.1 (below_al _ _) (Nat.le_refl _)) ⟨wr.heap.size, 0, none⟩ 1 1 [.int .i64 (c : Int)] rfl rfl (cell_one_new _ _ _) (one_cell rfl) (by have := HL.out; unfold maxLen; omega) (by have := HL.out; omega) (Nat.le_trans HW.out.2.size (below_al _ _).size) ?_; intro v' w8 hown' hgrow _; refine Still.go ?_)
          unfold Still
          have HNW : Hid (w8.ownsRow w.heap.size 3 1 v' (o ++ [c]).length (ints (dg (o ++ [c]))) ∧ Below w.heap.size w w8) := ⟨by rw [dg_snoc, List.length_append]; exact hown', (HW.out.2.trans ((below_al _ _).mono HW.out.2.size)).grown hgrow (Nat.le_trans HW.out.2.size (below_al _ _).size) (own_at HW.out.1)⟩
          clear hown' hgrow HW
          go_wp2
          go_ret
          exact ⟨_, rfl, ⟨_, HF.out.1, HF.out.2, rowAt_of_own HNW.out.1⟩, HNW.out.2⟩
        · have HF := hide' (hf.1 (by omega))
          clear hf HA
          go_wp2
          go_ret
          exact ⟨_, rfl, ⟨_, HF.out.1, HF.out.2, rowAt_of_own HW.out.1⟩, HW.out.2⟩
end Go.Proofs.Ytmbgjmkndhjilak
