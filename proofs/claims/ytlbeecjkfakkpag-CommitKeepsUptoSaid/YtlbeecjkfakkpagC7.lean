/- Stays in the document's answer: at first, and an hour on. -/
import Derived.Test.YtlbeecjkfakkpagC6
namespace Go.Proofs.Ytlbeecjkfakkpag
open Go.RowKit Go.Shelf

theorem one_cell {x : Value} (h : x.oneCell' = true) : ∀ u ∈ [x], u.oneCell' = true := fun _ hu => by rw [List.mem_singleton.1 hu]; exact h
set_option maxRecDepth 100000 in
set_option maxHeartbeats 2000000 in
theorem staysOf_any (us : List UnitM) (lv : Value) (w : World) (hx : UnitsAt w lv us) (h4 : us.length ≤ 4) :
    Calls Try.prog 37 #[lv] w fun e w' => ∃ v, e = .returned v ∧ w'.ownsRow w.heap.size 3 1 v us.length (ints (staysL us)) ∧ Below w.heap.size w w' := by
  obtain ⟨i0, hi0, hzz0, hzz1, hzz2⟩ := info_parts Try.info3
  have HG := hide' hx
  obtain ⟨ag, cg, rfl⟩ := rowAt_slice hx
  clear hx
  go_enter Try.func37, Try.ntmps37
  go_wp2_with fail
  go_loopw [3, 4] (fun v i wr => ∃ (k : Nat) (l : List Int), i = .int .i64 k ∧ k ≤ us.length ∧ l.length = k ∧ Hid (l = (staysL us).take k) ∧ Hid (wr.ownsRow w.heap.size 3 1 v l.length (l.map (Value.int .i64))) ∧ Hid (Below w.heap.size w wr)) (fun _ i _ => us.length - (intOf i).toNat)
  case atStart => exact ⟨0, [], rfl, Nat.zero_le _, rfl, rfl, World.ownsRow_nil _ _ _ _, Below.refl _ w⟩
  case round =>
    obtain ⟨k, l, rfl, hk, hlk, HL, HOWN, HBE⟩ := hrel
    by_cases hlt : k < us.length
    · obtain ⟨bt, ot, ct', ex, hbt, hct⟩ := row_elem (f := UnitM.cells) (fun _ => rfl) HG.out k hlt (by decide)
      cases ex
      obtain ⟨u, hu⟩ : ∃ u, u = us[k] := ⟨_, rfl⟩
      rw [← hu] at hct
      have d6 := (HBE.out.cell (World.block_lt_of_cell? w _ (hct 6 _ rfl))).trans (hct 6 _ rfl)
      have HNX : Hid (l ++ [clip u.was] = (staysL us).take (k + 1)) := by
        show _ = _
        rw [HL.out, List.take_succ_eq_append_getElem (by rw [staysL, List.length_map]; exact hlt)]
        simp [staysL, hu]
      obtain ⟨x6, hx6⟩ : ∃ x, x = u.was := ⟨_, rfl⟩
      rw [← hx6] at d6 HNX
      clear hct hu hx6 hbt HL
      by_cases h3 : 3 < x6
      · rw [show clip x6 = 3 by unfold clip; rw [if_pos h3]] at HNX
        go_wp2_with (at_builtin; refine wpList_append_own _ rfl _ _ 24 rfl w.heap.size 3 i0 (.int .i64 0) 1 8 Try.underlying24 hi0 hzz0 hzz1 hzz2 rfl (by decide) _ _ _ rfl (HOWN.out.alloc _) ⟨wr.heap.size, 0, none⟩ 1 1 [.int .i64 3] rfl rfl (cell_one_new _ _ _) (one_cell rfl) (by unfold maxLen; omega) (by omega) (by have := HBE.out.size; simp; omega) ?_; intro v' w2 hown' hgrow _; refine Still.go ?_)
        unfold Still
        have HOWN2 := hide' (own_snoc hown')
        have HB2 := hide' (below_app HBE.out HOWN.out (Nat.le_refl _) HBE.out.size hgrow)
        clear hown' hgrow
        go_wp2
        go_roundw
        case rel => exact ⟨k + 1, _, by go_num, by omega, by simp; omega, HNX, HOWN2, HB2⟩
        case measure => simp [intOf]; omega
      · by_cases h3' : x6 < -3
        · rw [show clip x6 = -3 by unfold clip; rw [if_neg h3, if_pos h3']] at HNX
          go_wp2_with (at_builtin; refine wpList_append_own _ rfl _ _ 24 rfl w.heap.size 3 i0 (.int .i64 0) 1 8 Try.underlying24 hi0 hzz0 hzz1 hzz2 rfl (by decide) _ _ _ rfl (HOWN.out.alloc _) ⟨wr.heap.size, 0, none⟩ 1 1 [.int .i64 (-3)] rfl rfl (cell_one_new _ _ _) (one_cell rfl) (by unfold maxLen; omega) (by omega) (by have := HBE.out.size; simp; omega) ?_; intro v' w2 hown' hgrow _; refine Still.go ?_)
          unfold Still
          have HOWN2 := hide' (own_snoc hown')
          have HB2 := hide' (below_app HBE.out HOWN.out (Nat.le_refl _) HBE.out.size hgrow)
          clear hown' hgrow
          go_wp2
          go_roundw
          case rel => exact ⟨k + 1, _, by go_num, by omega, by simp; omega, HNX, HOWN2, HB2⟩
          case measure => simp [intOf]; omega
        · rw [show clip x6 = x6 by unfold clip; rw [if_neg h3, if_neg h3']] at HNX
          go_wp2_with (at_builtin; refine wpList_append_own _ rfl _ _ 24 rfl w.heap.size 3 i0 (.int .i64 0) 1 8 Try.underlying24 hi0 hzz0 hzz1 hzz2 rfl (by decide) _ _ _ rfl (HOWN.out.alloc _) ⟨wr.heap.size, 0, none⟩ 1 1 [.int .i64 x6] rfl rfl (cell_one_new _ _ _) (one_cell rfl) (by unfold maxLen; omega) (by omega) (by have := HBE.out.size; simp; omega) ?_; intro v' w2 hown' hgrow _; refine Still.go ?_)
          unfold Still
          have HOWN2 := hide' (own_snoc hown')
          have HB2 := hide' (below_app HBE.out HOWN.out (Nat.le_refl _) HBE.out.size hgrow)
          clear hown' hgrow
          go_wp2
          go_roundw
          case rel => exact ⟨k + 1, _, by go_num, by omega, by simp; omega, HNX, HOWN2, HB2⟩
          case measure => simp [intOf]; omega
    · have HE : Hid (l = staysL us) := by show _ = _; rw [HL.out, List.take_of_length_le (by rw [staysL, List.length_map]; omega)]
      have hle : l.length = us.length := by omega
      have HO2 : Hid (wr.ownsRow w.heap.size 3 1 u3 us.length (ints (staysL us))) := by have := HOWN.out; rw [hle, HE.out] at this; exact this
      clear HOWN HL HE
      go_wp2
      go_ret
      exact ⟨_, rfl, HO2.out, HBE.out⟩
def NextOut (us : List UnitM) (t : List Int) (on : List Bool) (w : World) (e : Ending) (w' : World) : Prop :=
  (∃ l s v, nextL us t on = some (l, s) ∧ e = .returned (.tuple #[v, .int .i64 s, .bool true]) ∧ w'.ownsRow w.heap.size 3 1 v l.length (ints l) ∧ Below w.heap.size w w') ∨
  (nextL us t on = none ∧ e = .returned (.tuple #[.slice none 0 0, .int .i64 0, .bool false]) ∧ Below w.heap.size w w')
set_option maxRecDepth 100000 in
set_option maxHeartbeats 4000000 in
theorem nextOf_any (us : List UnitM) (t : List Int) (on : List Bool) (lv tv ov : Value) (w : World) (hx : UnitsAt w lv us) (ht : RowAt w tv us.length 1 (ints t)) (htl : t.length = us.length) (htb : ∀ x ∈ t, -3 ≤ x ∧ x ≤ 3) (ho : RowAt w ov us.length 1 (on.map Value.bool)) (hl : on.length = us.length) (h4 : us.length ≤ 4) (hm : MayUs us) :
    Calls Try.prog 38 #[lv, tv, ov] w (NextOut us t on w) := by
  obtain ⟨i0, hi0, hzz0, hzz1, hzz2⟩ := info_parts Try.info3
  have HG := hide' hx
  have HT := hide' ht
  have HO := hide' ho
  have HL := hide' hl
  have HTL := hide' htl
  have HTB := hide' htb
  have HM := hide' hm
  obtain ⟨ag, cg, rfl⟩ := rowAt_slice hx
  obtain ⟨at', ct, rfl⟩ := rowAt_slice ht
  obtain ⟨ao, co, rfl⟩ := rowAt_slice ho
  clear hx ht ho hl htl htb hm
  go_enter Try.func38, Try.ntmps38
  go_wp2_with fail
  go_loopw [9, 10, 11] (fun v sv iv wr => ∃ (k : Nat) (l : List Int) (s : Int), sv = .int .i64 s ∧ iv = .int .i64 k ∧ k ≤ us.length ∧ l.length = k ∧ 0 ≤ s ∧ s ≤ 1000000 * k ∧ Hid (nextK us t on k = some (l, s)) ∧ Hid (wr.ownsRow w.heap.size 3 1 v l.length (l.map (Value.int .i64))) ∧ Hid (Below w.heap.size w wr)) (fun _ _ iv _ => us.length - (intOf iv).toNat)
  case atStart => exact ⟨0, [], 0, rfl, rfl, Nat.zero_le _, rfl, by omega, by omega, rfl, World.ownsRow_nil _ _ _ _, Below.refl _ w⟩
  case round =>
    obtain ⟨k, l, s, rfl, rfl, hk, hlk, hs0, hs1, HN, HOWN, HBE⟩ := hrel
    by_cases hlt : k < us.length
    · obtain ⟨bt, ot, ct', ex, hbt, hct⟩ := row_elem (f := UnitM.cells) (fun _ => rfl) HG.out k hlt (by decide)
      cases ex
      obtain ⟨bp, op, cp', exp, hbp, hcp⟩ := Row1.cell HO.out k (by rw [HL.out]; exact hlt)
      cases exp
      obtain ⟨br, or, cr', exr, hcr⟩ := ints_cell2 HT.out k (by rw [HTL.out]; exact hlt)
      cases exr
      obtain ⟨u, hu⟩ : ∃ u, u = us[k] := ⟨_, rfl⟩
      rw [← hu] at hct
      have HK : Hid (us[k]? = some u) := by show _ = _; rw [hu]; exact List.getElem?_eq_getElem hlt
      have up : ∀ (c j : Nat) (u : Value), w.cell? ⟨c, j, none⟩ = some u → wr.cell? ⟨c, j, none⟩ = some u := fun c j u h => (HBE.out.cell (World.block_lt_of_cell? w _ h)).trans h
      have d3 := up _ _ _ (hct 3 _ rfl)
      have d4 := up _ _ _ (hct 4 _ rfl)
      have d5 := up _ _ _ (hct 5 _ rfl)
      have e0 := up _ _ _ hcp
      have e1 := up _ _ _ hcr
      have hmu := HM.out k u HK.out
      have hst := hmu.e
      have hup := hmu.f
      have hdo := hmu.g
      have hxb := HTB.out _ (getD_in (D := t) (j := k) (by rw [HTL.out]; exact hlt)).2
      have HNK : Hid (nextK us t on (k + 1) = (stayOn u (t.getD k 0) (on.getD k false)).map fun y => (l ++ [y], s + startOf u (t.getD k 0) (on.getD k false))) := by show _ = _; rw [nextK, HN.out, HK.out]; rfl
      obtain ⟨b, hb⟩ : ∃ b, b = on.getD k false := ⟨_, rfl⟩
      rw [← hb] at e0 HNK
      obtain ⟨x, hx⟩ : ∃ x, x = t.getD k 0 := ⟨_, rfl⟩
      rw [← hx] at e1 HNK hxb
      obtain ⟨y0, y1, y2, y3, y4, y5, y6⟩ := u
      simp only at d3 d4 d5 hst hup hdo
      clear hct hu up hbt hbp hcp hcr hb hx hmu HK HN
      cases b with
      | true =>
        by_cases hx0 : x < 0
        · by_cases hx1 : -x < y5
          · have HNO : Hid (nextL us t on = none) := nextK_none (by rw [HNK.out]; unfold stayOn; simp [hx0, hx1]) us.length (by omega)
            go_wp2
            refine bodyPost_ret (results_tmp3 rfl _ _ _) rfl ?_
            exact .inr ⟨HNO.out, rfl, HBE.out⟩
          · have HNX : Hid (nextK us t on (k + 1) = some (l ++ [1], s + y3)) := by show _ = _; rw [HNK.out]; unfold stayOn startOf; simp [hx0, hx1]
            go_wp2_with (at_builtin; refine wpList_append_own _ rfl _ _ 24 rfl w.heap.size 3 i0 (.int .i64 0) 1 8 Try.underlying24 hi0 hzz0 hzz1 hzz2 rfl (by decide) _ _ _ rfl (HOWN.out.alloc _) ⟨wr.heap.size, 0, none⟩ 1 1 [.int .i64 1] rfl rfl (cell_one_new _ _ _) (one_cell rfl) (by unfold maxLen; omega) (by omega) (by have := HBE.out.size; simp; omega) ?_; intro v' w2 hown' hgrow _; refine Still.go ?_)
            unfold Still
            have HOWN2 := hide' (own_snoc hown')
            have HB2 := hide' (below_app HBE.out HOWN.out (Nat.le_refl _) HBE.out.size hgrow)
            clear hown' hgrow
            go_wp2
            go_roundw
            case rel => exact ⟨k + 1, _, _, rfl, by go_num, by omega, by simp; omega, by omega, by omega, HNX.out, HOWN2, HB2⟩
            case measure => simp [intOf]; omega
        · by_cases hx3 : 3 < x + 1
          · have HNX : Hid (nextK us t on (k + 1) = some (l ++ [3], s)) := by show _ = _; rw [HNK.out]; unfold stayOn startOf; simp [hx0, clip, hx3]
            go_wp2_with (at_builtin; refine wpList_append_own _ rfl _ _ 24 rfl w.heap.size 3 i0 (.int .i64 0) 1 8 Try.underlying24 hi0 hzz0 hzz1 hzz2 rfl (by decide) _ _ _ rfl (HOWN.out.alloc _) ⟨wr.heap.size, 0, none⟩ 1 1 [.int .i64 3] rfl rfl (cell_one_new _ _ _) (one_cell rfl) (by unfold maxLen; omega) (by omega) (by have := HBE.out.size; simp; omega) ?_; intro v' w2 hown' hgrow _; refine Still.go ?_)
            unfold Still
            have HOWN2 := hide' (own_snoc hown')
            have HB2 := hide' (below_app HBE.out HOWN.out (Nat.le_refl _) HBE.out.size hgrow)
            clear hown' hgrow
            go_wp2
            go_roundw
            case rel => exact ⟨k + 1, _, _, rfl, by go_num, by omega, by simp; omega, by omega, by omega, HNX.out, HOWN2, HB2⟩
            case measure => simp [intOf]; omega
          · have HNX : Hid (nextK us t on (k + 1) = some (l ++ [x + 1], s)) := by show _ = _; rw [HNK.out]; unfold stayOn startOf; simp [hx0, clip, hx3, show ¬ x + 1 < -3 by omega]
            go_wp2_with (at_builtin; refine wpList_append_own _ rfl _ _ 24 rfl w.heap.size 3 i0 (.int .i64 0) 1 8 Try.underlying24 hi0 hzz0 hzz1 hzz2 rfl (by decide) _ _ _ rfl (HOWN.out.alloc _) ⟨wr.heap.size, 0, none⟩ 1 1 [.int .i64 (x + 1)] rfl rfl (cell_one_new _ _ _) (one_cell rfl) (by unfold maxLen; omega) (by omega) (by have := HBE.out.size; simp; omega) ?_; intro v' w2 hown' hgrow _; refine Still.go ?_)
            unfold Still
            have HOWN2 := hide' (own_snoc hown')
            have HB2 := hide' (below_app HBE.out HOWN.out (Nat.le_refl _) HBE.out.size hgrow)
            clear hown' hgrow
            go_wp2
            go_roundw
            case rel => exact ⟨k + 1, _, _, rfl, by go_num, by omega, by simp; omega, by omega, by omega, HNX.out, HOWN2, HB2⟩
            case measure => simp [intOf]; omega
      | false =>
        by_cases hx0 : 0 < x
        · by_cases hx1 : x < y4
          · have HNO : Hid (nextL us t on = none) := nextK_none (by rw [HNK.out]; unfold stayOn; simp [hx0, hx1]) us.length (by omega)
            go_wp2
            refine bodyPost_ret (results_tmp3 rfl _ _ _) rfl ?_
            exact .inr ⟨HNO.out, rfl, HBE.out⟩
          · have HNX : Hid (nextK us t on (k + 1) = some (l ++ [-1], s)) := by show _ = _; rw [HNK.out]; unfold stayOn startOf; simp [hx0, hx1]
            go_wp2_with (at_builtin; refine wpList_append_own _ rfl _ _ 24 rfl w.heap.size 3 i0 (.int .i64 0) 1 8 Try.underlying24 hi0 hzz0 hzz1 hzz2 rfl (by decide) _ _ _ rfl (HOWN.out.alloc _) ⟨wr.heap.size, 0, none⟩ 1 1 [.int .i64 (-1)] rfl rfl (cell_one_new _ _ _) (one_cell rfl) (by unfold maxLen; omega) (by omega) (by have := HBE.out.size; simp; omega) ?_; intro v' w2 hown' hgrow _; refine Still.go ?_)
            unfold Still
            have HOWN2 := hide' (own_snoc hown')
            have HB2 := hide' (below_app HBE.out HOWN.out (Nat.le_refl _) HBE.out.size hgrow)
            clear hown' hgrow
            go_wp2
            go_roundw
            case rel => exact ⟨k + 1, _, _, rfl, by go_num, by omega, by simp; omega, by omega, by omega, HNX.out, HOWN2, HB2⟩
            case measure => simp [intOf]; omega
        · by_cases hx3 : x - 1 < -3
          · have HNX : Hid (nextK us t on (k + 1) = some (l ++ [-3], s)) := by show _ = _; rw [HNK.out]; unfold stayOn startOf; simp [hx0, clip, hx3, show ¬ 3 < x - 1 by omega]
            go_wp2_with (at_builtin; refine wpList_append_own _ rfl _ _ 24 rfl w.heap.size 3 i0 (.int .i64 0) 1 8 Try.underlying24 hi0 hzz0 hzz1 hzz2 rfl (by decide) _ _ _ rfl (HOWN.out.alloc _) ⟨wr.heap.size, 0, none⟩ 1 1 [.int .i64 (-3)] rfl rfl (cell_one_new _ _ _) (one_cell rfl) (by unfold maxLen; omega) (by omega) (by have := HBE.out.size; simp; omega) ?_; intro v' w2 hown' hgrow _; refine Still.go ?_)
            unfold Still
            have HOWN2 := hide' (own_snoc hown')
            have HB2 := hide' (below_app HBE.out HOWN.out (Nat.le_refl _) HBE.out.size hgrow)
            clear hown' hgrow
            go_wp2
            go_roundw
            case rel => exact ⟨k + 1, _, _, rfl, by go_num, by omega, by simp; omega, by omega, by omega, HNX.out, HOWN2, HB2⟩
            case measure => simp [intOf]; omega
          · have HNX : Hid (nextK us t on (k + 1) = some (l ++ [x - 1], s)) := by show _ = _; rw [HNK.out]; unfold stayOn startOf; simp [hx0, clip, hx3, show ¬ 3 < x - 1 by omega]
            go_wp2_with (at_builtin; refine wpList_append_own _ rfl _ _ 24 rfl w.heap.size 3 i0 (.int .i64 0) 1 8 Try.underlying24 hi0 hzz0 hzz1 hzz2 rfl (by decide) _ _ _ rfl (HOWN.out.alloc _) ⟨wr.heap.size, 0, none⟩ 1 1 [.int .i64 (x - 1)] rfl rfl (cell_one_new _ _ _) (one_cell rfl) (by unfold maxLen; omega) (by omega) (by have := HBE.out.size; simp; omega) ?_; intro v' w2 hown' hgrow _; refine Still.go ?_)
            unfold Still
            have HOWN2 := hide' (own_snoc hown')
            have HB2 := hide' (below_app HBE.out HOWN.out (Nat.le_refl _) HBE.out.size hgrow)
            clear hown' hgrow
            go_wp2
            go_roundw
            case rel => exact ⟨k + 1, _, _, rfl, by go_num, by omega, by simp; omega, by omega, by omega, HNX.out, HOWN2, HB2⟩
            case measure => simp [intOf]; omega
    · have hke : k = us.length := by omega
      have HE : Hid (nextL us t on = some (l, s)) := by show nextK _ _ _ _ = _; rw [← hke]; exact HN.out
      clear HN
      go_wp2
      refine bodyPost_ret (results_tmp3 rfl _ _ _) rfl ?_
      exact .inl ⟨l, s, _, HE.out, rfl, HOWN.out, HBE.out⟩
end Go.Proofs.Ytlbeecjkfakkpag
