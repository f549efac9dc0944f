/- All sets of units, in the document's answer. -/
import Derived.Test.YtlbeecjkfakkpagCd
namespace Go.Proofs.Ytlbeecjkfakkpag
open Go.RowKit Go.Shelf

theorem Try.info4 : (Try.prog.info? 4).map (fun i => (i.zero, i.size, i.bytes)) = some (some (.bool false), 1, 1) := by kernel_rfl
theorem Try.info23 : (Try.prog.info? 23).map (fun i => (i.zero, i.size, i.bytes)) = some (some (.slice none 0 0), 1, 24) := by kernel_rfl
theorem own_new (w : World) (vs : List Value) (e : TypeId) (n sz B : Nat) (hl : vs.length = n * sz) (hn : n ≤ maxLen) (hB : B ≤ w.heap.size) : (w.alloc (.cells vs.toArray e)).ownsRow B e sz (.slice (some ⟨w.heap.size, 0, none⟩) n n) n vs :=
  ⟨hl, .inr ⟨w.heap.size, n, vs.toArray, rfl, hB, heap_alloc_new w _, Nat.le_refl _, hn, by simp [hl], by rw [← hl]; simp⟩⟩
theorem bools_one (l : List Bool) : ∀ u ∈ l.map Value.bool, u.oneCell' = true := by
  intro u hu
  obtain ⟨x, _, rfl⟩ := List.mem_map.1 hu
  rfl
theorem setsL_len : ∀ n, (setsL n).length = 2 ^ n
  | 0 => rfl
  | n + 1 => by
    have : ∀ (l : List (List Bool)), (l.flatMap fun p => [p ++ [false], p ++ [true]]).length = l.length * 2 := fun l => by
      induction l with
      | nil => rfl
      | cons p l ih => rw [List.flatMap_cons, List.length_append, ih]; simp; omega
    rw [setsL, this, setsL_len n, Nat.pow_succ]
def both (p : List Bool) : List (List Bool) := [p ++ [false], p ++ [true]]
def moreL (l : List (List Bool)) (j : Nat) : List (List Bool) := (l.take j).flatMap both
theorem moreL_snoc (l : List (List Bool)) (j : Nat) (hj : j < l.length) : moreL l (j + 1) = (moreL l j ++ [l[j] ++ [false]]) ++ [l[j] ++ [true]] := by
  rw [moreL, List.take_succ_eq_append_getElem hj, List.flatMap_append, moreL]; simp [both]
theorem moreL_len (l : List (List Bool)) (j : Nat) (hj : j ≤ l.length) : (moreL l j).length = 2 * j := by
  induction j with
  | zero => simp [moreL]
  | succ j ih => rw [moreL_snoc l j (by omega)]; simp [ih (by omega)]; omega
theorem RowAt.cells {w : World} {a : Option Addr} {n c sz m : Nat} {xs : List Value} (h : RowAt w (.slice a n c) m sz xs) : ∀ j u, xs[j]? = some u → ∃ b off, a = some ⟨b, off, none⟩ ∧ w.cell? ⟨b, off + j, none⟩ = some u := by
  obtain ⟨_, a', c', e, hc⟩ := h
  cases e
  exact hc
set_option maxRecDepth 100000 in
set_option maxHeartbeats 4000000 in
theorem setsOf_any (n : Nat) (w : World) (h4 : n ≤ 4) :
    Calls Try.prog 41 #[.int .i64 n] w fun e w' => ∃ v, e = .returned v ∧ SignsO w' v (setsL n) ∧ Below w.heap.size w w' := by
  obtain ⟨i4, hi4, hb0, hb1, hb2⟩ := info_parts Try.info4
  obtain ⟨i5, hi5, hs0, hs1, hs2⟩ := info_parts Try.info23
  go_enter Try.func41, Try.ntmps41
  go_wp2_with fail
  have HST : Hid (SignsO (w.alloc (.cells #[.slice none 0 0] 23)) (.slice (some ⟨w.heap.size, 0, none⟩) 1 1) (setsL 0)) := by
    refine ⟨[.slice none 0 0], own_new w [.slice none 0 0] 23 1 1 0 rfl (by unfold maxLen; omega) (Nat.zero_le _), rfl, fun i b hb => ?_⟩
    cases i with
    | zero => cases hb; exact ⟨_, rfl, World.ownsRow_nil _ _ _ _⟩
    | succ i => cases hb
  have HB0 : Hid (Below w.heap.size w (w.alloc (.cells #[.slice none 0 0] 23))) := (Below.refl _ w).alloc (Nat.le_refl _) _
  go_loopw [3, 4] (fun ov iv wr => ∃ (k : Nat), iv = .int .i64 k ∧ k ≤ n ∧ Hid (SignsO wr ov (setsL k)) ∧ Hid (Below w.heap.size w wr)) (fun _ iv _ => n - (intOf iv).toNat)
  case atStart => exact ⟨0, rfl, Nat.zero_le _, HST, HB0⟩
  case round =>
    clear HST HB0
    obtain ⟨k, rfl, hk, HS, HBE⟩ := hrel
    by_cases hlt : k < n
    · obtain ⟨w0, hw0⟩ : ∃ x, x = wr := ⟨_, rfl⟩
      rw [← hw0] at HS HBE
      obtain ⟨ao, co, rfl⟩ := HS.out.at'.slice
      have hl16 : (setsL k).length ≤ 16 := by rw [setsL_len]; exact Nat.le_trans (Nat.pow_le_pow_right (by decide) (show k ≤ 4 by omega)) (by decide)
      have HLE : Hid (∀ p ∈ setsL k, p.length = k) := fun p hp => (setsL_mem k p).1 hp
      have HNX : Hid (moreL (setsL k) (setsL k).length = setsL (k + 1)) := by show _ = _; rw [moreL, List.take_length]; rfl
      obtain ⟨L, hL⟩ : ∃ L, L = setsL k := ⟨_, rfl⟩
      rw [← hL] at HS hl16 HLE HNX ⊢
      clear hL
      go_wp2_with fail
      go_loopw [5, 6] (fun mv jv W => ∃ (j : Nat) (vs : List Value), jv = .int .i64 j ∧ j ≤ L.length ∧ Hid (W.ownsRow w0.heap.size 23 1 mv (2 * j) vs) ∧ Hid (RowsO W vs (moreL L j)) ∧ Hid (Below w0.heap.size w0 W)) (fun _ jv _ => L.length - (intOf jv).toNat)
      case atStart => exact ⟨0, [], rfl, Nat.zero_le _, World.ownsRow_nil _ _ _ _, ⟨rfl, fun i b h => by cases h⟩, by rw [← hw0]; exact Below.refl _ _⟩
      case round =>
        clear hw0
        obtain ⟨j, vs, rfl, hj, HOWN, HRO, HBW⟩ := hrel
        by_cases hjl : j < L.length
        · obtain ⟨bo, oo, co', a', c', ex, hcell, hrow⟩ := HS.out.at'.cell j hjl
          cases ex
          have HMS := hide' (moreL_snoc L j hjl)
          have HML := hide' (moreL_len L j hj)
          obtain ⟨p, hp⟩ : ∃ p, p = L[j] := ⟨_, rfl⟩
          have hpl : p.length = k := by rw [hp]; exact HLE.out _ (List.getElem_mem hjl)
          rw [← hp] at hcell hrow HMS
          rw [hpl] at hcell hrow
          have HROW := hide' hrow
          have HCELL := hide' hcell
          have d0 := (HBW.out.cell (World.block_lt_of_cell? w0 _ hcell)).trans hcell
          have HPL := hide' hpl
          clear hcell hrow hp hpl
          obtain ⟨W, hW⟩ : ∃ x, x = wr := ⟨_, rfl⟩
          rw [← hW] at HOWN HRO HBW d0
          rw [← hW]
          clear hW
          have hbase : w0.heap.size ≤ W.heap.size := HBW.out.size
          have HR1 := hide' (HROW.out.below HBW.out (Nat.le_refl _))
          have hbase1 : w0.heap.size ≤ W.heap.size := HBW.out.size
          go_wp2_with (at_builtin; refine wpList_append_all _ rfl _ _ 23 rfl W.heap.size 4 i4 _ 1 Try.underlying23 hi4 hb0 hb1 hb2 rfl rfl a' k c' (p.map Value.bool) rfl (by rw [List.length_map, HPL.out, Nat.mul_one]) HR1.out.cells (bools_one p) (by unfold maxLen; omega) (by omega) (Nat.le_refl _) ?_; intro x1 W1a hox1 hg1a; refine Still.go ?_)
          unfold Still
          have HX1 := hide' hox1
          have HBa1 : Hid (Below W.heap.size W W1a) := (Below.refl _ W).grown hg1a (Nat.le_refl _) (fun k e => by cases e)
          clear hox1 hg1a
          go_wp2_with (at_builtin; refine wpList_append_own _ rfl _ _ 23 rfl W.heap.size 4 i4 (.bool false) 1 1 Try.underlying23 hi4 hb0 hb1 hb2 rfl (by decide) _ _ _ rfl (HX1.out.alloc _) ⟨W1a.heap.size, 0, none⟩ 1 1 [.bool false] rfl rfl (cell_one_new _ _ _) (one_cell rfl) (by unfold maxLen; omega) (by omega) (by have := HBa1.out.size; simp; omega) ?_; intro y1 W1b hoy1 hg1b _; refine Still.go ?_)
          unfold Still
          have HY1 : Hid (W1b.ownsRow W.heap.size 4 1 y1 (k + 1) ((p ++ [false]).map Value.bool)) := by rw [List.map_append]; exact hoy1
          have HBb1 : Hid (Below W.heap.size W W1b) := below_app HBa1.out HX1.out (Nat.le_refl _) HBa1.out.size hg1b
          obtain ⟨ay1, cy1, rfl⟩ := own_slice hoy1
          have HM1 := hide' (own_below HOWN.out HBb1.out (Nat.le_refl _))
          clear hoy1 hg1b HX1 HBa1 HR1
          go_wp2_with (at_builtin; refine wpList_append_own _ rfl _ _ 32 rfl w0.heap.size 23 i5 (.slice none 0 0) 1 24 Try.underlying32 hi5 hs0 hs1 hs2 rfl (by decide) _ _ _ rfl (HM1.out.alloc _) ⟨W1b.heap.size, 0, none⟩ 1 1 [.slice ay1 (k + 1) cy1] rfl rfl (cell_one_new _ _ _) (one_cell rfl) (by unfold maxLen; omega) (by omega) (by have := HBb1.out.size; simp; omega) ?_; intro z1 W1c hoz1 hg1c _; refine Still.go ?_)
          unfold Still
          have HKE1 : Hid (KeepE 23 W W1c) := (KeepE.below HBb1.out (Nat.le_refl _)).trans ((KeepE.alloc 23 W1b _).trans (KeepE.grown (HM1.out.alloc _) hg1c))
          have HRO1 : Hid (RowsO W1c (vs ++ [.slice ay1 (k + 1) cy1]) (moreL L j ++ [p ++ [false]])) := (HRO.out.keep HKE1.out (by decide)).snoc (by
            have h1 := own_keep (own_base HY1.out (Nat.zero_le _)) ((KeepE.alloc 23 W1b _).trans (KeepE.grown (HM1.out.alloc _) hg1c)) (by decide : (4 : Nat) ≠ 23)
            rw [BoolsO, List.length_append, List.length_singleton, HPL.out]
            exact h1)
          have HOZ1 := hide' hoz1
          have HBc1 : Hid (Below w0.heap.size w0 W1c) := below_app (HBW.out.trans (HBb1.out.mono hbase1)) HM1.out (Nat.le_refl _) (by have := HBb1.out.size; omega) hg1c
          have dd1 := (HBc1.out.cell (World.block_lt_of_cell? w0 _ HCELL.out)).trans HCELL.out
          clear hoz1 hg1c HY1 HBb1 HM1 HKE1
          have HR2 := hide' (HROW.out.below HBc1.out (Nat.le_refl _))
          have hbase2 : w0.heap.size ≤ W1c.heap.size := HBc1.out.size
          go_wp2_with (at_builtin; refine wpList_append_all _ rfl _ _ 23 rfl W1c.heap.size 4 i4 _ 1 Try.underlying23 hi4 hb0 hb1 hb2 rfl rfl a' k c' (p.map Value.bool) rfl (by rw [List.length_map, HPL.out, Nat.mul_one]) HR2.out.cells (bools_one p) (by unfold maxLen; omega) (by omega) (Nat.le_refl _) ?_; intro x2 W2a hox2 hg2a; refine Still.go ?_)
          unfold Still
          have HX2 := hide' hox2
          have HBa2 : Hid (Below W1c.heap.size W1c W2a) := (Below.refl _ W1c).grown hg2a (Nat.le_refl _) (fun k e => by cases e)
          clear hox2 hg2a
          go_wp2_with (at_builtin; refine wpList_append_own _ rfl _ _ 23 rfl W1c.heap.size 4 i4 (.bool false) 1 1 Try.underlying23 hi4 hb0 hb1 hb2 rfl (by decide) _ _ _ rfl (HX2.out.alloc _) ⟨W2a.heap.size, 0, none⟩ 1 1 [.bool true] rfl rfl (cell_one_new _ _ _) (one_cell rfl) (by unfold maxLen; omega) (by omega) (by have := HBa2.out.size; simp; omega) ?_; intro y2 W2b hoy2 hg2b _; refine Still.go ?_)
          unfold Still
          have HY2 : Hid (W2b.ownsRow W1c.heap.size 4 1 y2 (k + 1) ((p ++ [true]).map Value.bool)) := by rw [List.map_append]; exact hoy2
          have HBb2 : Hid (Below W1c.heap.size W1c W2b) := below_app HBa2.out HX2.out (Nat.le_refl _) HBa2.out.size hg2b
          obtain ⟨ay2, cy2, rfl⟩ := own_slice hoy2
          have HM2 := hide' (own_below HOZ1.out HBb2.out (Nat.le_refl _))
          clear hoy2 hg2b HX2 HBa2 HR2
          go_wp2_with (at_builtin; refine wpList_append_own _ rfl _ _ 32 rfl w0.heap.size 23 i5 (.slice none 0 0) 1 24 Try.underlying32 hi5 hs0 hs1 hs2 rfl (by decide) _ _ _ rfl (HM2.out.alloc _) ⟨W2b.heap.size, 0, none⟩ 1 1 [.slice ay2 (k + 1) cy2] rfl rfl (cell_one_new _ _ _) (one_cell rfl) (by unfold maxLen; omega) (by omega) (by have := HBb2.out.size; simp; omega) ?_; intro z2 W2c hoz2 hg2c _; refine Still.go ?_)
          unfold Still
          have HKE2 : Hid (KeepE 23 W1c W2c) := (KeepE.below HBb2.out (Nat.le_refl _)).trans ((KeepE.alloc 23 W2b _).trans (KeepE.grown (HM2.out.alloc _) hg2c))
          have HRO2 : Hid (RowsO W2c ((vs ++ [.slice ay1 (k + 1) cy1]) ++ [.slice ay2 (k + 1) cy2]) (moreL L j ++ [p ++ [false]] ++ [p ++ [true]])) := (HRO1.out.keep HKE2.out (by decide)).snoc (by
            have h1 := own_keep (own_base HY2.out (Nat.zero_le _)) ((KeepE.alloc 23 W2b _).trans (KeepE.grown (HM2.out.alloc _) hg2c)) (by decide : (4 : Nat) ≠ 23)
            rw [BoolsO, List.length_append, List.length_singleton, HPL.out]
            exact h1)
          have HOZ2 := hide' hoz2
          have HBc2 : Hid (Below w0.heap.size w0 W2c) := below_app (HBc1.out.trans (HBb2.out.mono hbase2)) HM2.out (Nat.le_refl _) (by have := HBb2.out.size; omega) hg2c
          have dd2 := (HBc2.out.cell (World.block_lt_of_cell? w0 _ HCELL.out)).trans HCELL.out
          clear hoz2 hg2c HY2 HBb2 HM2 HKE2
          go_wp2
          go_roundw
          case rel => exact ⟨j + 1, _, by go_num, by omega, (by exact HOZ2), by rw [HMS.out]; exact HRO2, HBc2⟩
          case measure => simp [intOf]; omega
        · have HE : Hid (SignsO wr u5 (setsL (k + 1))) := by
            have hje : j = L.length := by omega
            subst hje
            refine ⟨vs, ?_, ?_⟩
            · have h1 := own_base HOWN.out (Nat.zero_le _)
              rw [← HNX.out, moreL_len L L.length (Nat.le_refl _)]
              exact h1
            · rw [← HNX.out]; exact HRO.out
          have HB2 := hide' (HBE.out.trans (HBW.out.mono HBE.out.size))
          go_wp2
          go_roundw
          case rel => exact ⟨k + 1, by go_num, by omega, HE, HB2⟩
          case measure => simp [intOf]; omega
    · have hke : k = n := by omega
      subst hke
      go_wp2
      go_ret
      exact ⟨_, rfl, HS.out, HBE.out⟩
end Go.Proofs.Ytlbeecjkfakkpag
