/- Copies of rows, lakes and tables; where lakes start. -/
import Derived.Test.YtnhddmcdmcpkeajX3
import Derived.Test.YtnhddmcdmcpkeajWb
namespace Go.Proofs.Ytnhddmcdmcpkeaj
open Go.RowKit Go.Shelf

theorem Try.info71' : (Try.prog.info? 71).map (fun i => (i.zero, i.size, i.bytes)) = some (some (.agg #[.int .i64 0, .int .i64 0, .int .i64 0, .int .i64 0, .int .i64 0]), 5, 40) := by kernel_rfl
theorem lake_one (k : LakeM) : ∀ u ∈ k.cells, u.oneCell' = true := fun u hu => by
  unfold LakeM.cells at hu
  simp at hu
  rcases hu with rfl | rfl | rfl | rfl | rfl <;> rfl
theorem lakes_one (l : List LakeM) : ∀ u ∈ l.flatMap LakeM.cells, u.oneCell' = true := fun u hu => by
  obtain ⟨k, _, hk⟩ := List.mem_flatMap.1 hu
  exact lake_one k u hk
theorem ints_any (l : List Int) (v : Value) (w : World) (hx : RowAt w v l.length 1 (ints l)) (hn : l.length ≤ 2000000) : Calls Try.prog 28 #[v] w fun e w' => ∃ v', e = .returned v' ∧ w'.ownsRow w.heap.size 3 1 v' l.length (ints l) ∧ Below w.heap.size w w' := by
  obtain ⟨i3, hi3, h30, h31, h32⟩ := info_parts Try.info3'
  have HX := hide' hx
  obtain ⟨ag, cg, rfl⟩ := rowAt_slice hx
  clear hx
  go_enter Try.func28, Try.ntmps28
  go_wp2_with (at_builtin; refine wpList_append_any _ rfl _ _ 39 rfl w.heap.size 3 i3 _ 1 8 Try.underlying39 hi3 h30 h31 h32 rfl (by decide) _ _ _ rfl (World.ownsRow_nil _ _ _ _) _ _ _ rfl HX.out (ints_one l) (by unfold maxLen; omega) (by omega) (Nat.le_refl _) ?_; intro v1 x1 hown1 hgrow1; refine Still.go ?_)
  unfold Still
  have HF : Hid (x1.ownsRow w.heap.size 3 1 v1 l.length (ints l) ∧ Below w.heap.size w x1) := by
    rw [Nat.zero_add, List.nil_append] at hown1
    exact ⟨hown1, (Below.refl _ w).grown hgrow1 (Nat.le_refl _) (fun k e => by cases e)⟩
  clear hown1 hgrow1
  go_wp2
  go_ret
  exact ⟨_, rfl, HF.out⟩
theorem lakes_any (l : List LakeM) (v : Value) (w : World) (hx : RowAt w v l.length 5 (l.flatMap LakeM.cells)) (hn : l.length ≤ 2000000) : Calls Try.prog 23 #[v] w fun e w' => ∃ v', e = .returned v' ∧ w'.ownsRow w.heap.size 71 5 v' l.length (l.flatMap LakeM.cells) ∧ Below w.heap.size w w' := by
  obtain ⟨i71, hi71, h710, h711, h712⟩ := info_parts Try.info71'
  have HX := hide' hx
  obtain ⟨ag, cg, rfl⟩ := rowAt_slice hx
  clear hx
  go_enter Try.func23, Try.ntmps23
  go_wp2_with (at_builtin; refine wpList_append_any _ rfl _ _ 50 rfl w.heap.size 71 i71 _ 5 40 Try.underlying50 hi71 h710 h711 h712 rfl (by decide) _ _ _ rfl (World.ownsRow_nil _ _ _ _) _ _ _ rfl HX.out (lakes_one l) (by unfold maxLen; omega) (by omega) (Nat.le_refl _) ?_; intro v1 x1 hown1 hgrow1; refine Still.go ?_)
  unfold Still
  have HF : Hid (x1.ownsRow w.heap.size 71 5 v1 l.length (l.flatMap LakeM.cells) ∧ Below w.heap.size w x1) := by
    rw [Nat.zero_add, List.nil_append] at hown1
    exact ⟨hown1, (Below.refl _ w).grown hgrow1 (Nat.le_refl _) (fun k e => by cases e)⟩
  clear hown1 hgrow1
  go_wp2
  go_ret
  exact ⟨_, rfl, HF.out⟩
theorem take_snoc {α : Type} {t : List α} {k : Nat} (hk : k < t.length) : t.take k ++ [t[k]] = t.take (k + 1) := by
  rw [List.take_add_one, List.getElem?_eq_getElem hk]
  rfl
set_option maxRecDepth 100000 in
set_option maxHeartbeats 2000000 in
theorem tables_any (t : List (List Int)) (v : Value) (w : World) (hx : TabAt w v t) (hn : t.length ≤ 2000000) (hl : ∀ l ∈ t, l.length ≤ 2000000) : Calls Try.prog 24 #[v] w fun e w' => ∃ v', e = .returned v' ∧ StepsAt w' w.heap.size v' t ∧ Below w.heap.size w w' := by
  obtain ⟨i39, hi39, h390, h391, h392⟩ := info_parts Try.info39'
  have HX := hide' hx
  have HL := hide' hl
  obtain ⟨ag, cg, rfl⟩ := hx.slice
  clear hx hl
  go_enter Try.func24, Try.ntmps24
  go_wp2_with fail
  go_loopw [3, 4] (fun tv i wr => ∃ (k : Nat), i = .int .i64 k ∧ k ≤ t.length ∧ Hid (StepsAt wr w.heap.size tv (t.take k) ∧ Below w.heap.size w wr)) (fun _ i _ => t.length - (intOf i).toNat)
  case atStart => exact ⟨0, rfl, Nat.zero_le _, StepsAt.nil _ _, Below.refl _ w⟩
  case round =>
    obtain ⟨k, rfl, hk, HW⟩ := hrel
    by_cases hlt : k < t.length
    · obtain ⟨b1, o1, c1, x1, d1, ex1, hc1, hr1⟩ := HX.out.cell k hlt
      simp only [Value.slice.injEq] at ex1
      obtain ⟨rfl, hz1, rfl⟩ := ex1
      have hq1 := up_cell HW.out.2 hc1
      have HIN := hide' (ints_any t[k] _ wr (hr1.below HW.out.2 (Nat.le_refl _)) (HL.out _ (List.getElem_mem hlt)))
      have HTS := hide' (take_snoc hlt)
      obtain ⟨l, hlq⟩ : ∃ l, l = t[k] := ⟨_, rfl⟩
      rw [← hlq] at hq1 HIN HTS
      have HTK : Hid ((t.take k).length = k) := by show _ = _; rw [List.length_take]; omega
      clear hz1 hc1 hr1 hlq
      go_wp2_with fail
      refine HIN.out.mono ?_
      rintro e w1 ⟨ov, rfl, hov, hb1⟩
      obtain ⟨oa, oc, hoe⟩ := own_slice hov
      subst hoe
      have HS1 : Hid (StepsAt w1 w.heap.size u3 (t.take k) ∧ Below w.heap.size w w1) := ⟨HW.out.1.below hb1, HW.out.2.trans (hb1.mono HW.out.2.size)⟩
      have HOV := hide' (own_mono hov HW.out.2.size)
      obtain ⟨vals, hvl, hva, hvr⟩ := HS1.out.1
      have HVA := hide' (And.intro hvl (And.intro hva hvr))
      clear hov hb1 hvl hva hvr HW HIN
      go_wp2_with (at_builtin; refine wpList_append_own _ rfl _ _ 51 rfl w.heap.size 39 i39 (.slice none 0 0) 1 24 Try.underlying51 hi39 h390 h391 h392 rfl (by decide) _ _ _ rfl (own_below HVA.out.2.1 (below_al _ _) (Nat.le_refl _)) ⟨w1.heap.size, 0, none⟩ 1 1 [.slice oa l.length oc] rfl rfl (cell_one_new _ _ _) (one_cell rfl) (by have := HTK.out; unfold maxLen; omega) (by have := HTK.out; omega) (Nat.le_trans HS1.out.2.size (below_al _ _).size) ?_; intro v' w8 hown' hgrow _; refine Still.go ?_)
      unfold Still
      have HNS : Hid (StepsAt w8 w.heap.size v' (t.take (k + 1)) ∧ Below w.heap.size w w8) := ⟨by rw [← HTS.out]; exact StepsAt.more HVA.out.1 HVA.out.2.1 HVA.out.2.2 HOV.out hown' rfl hgrow, (HS1.out.2.trans ((below_al _ _).mono HS1.out.2.size)).grown hgrow (Nat.le_trans HS1.out.2.size (below_al _ _).size) (own_at HVA.out.2.1)⟩
      clear hown' hgrow HVA HOV HS1
      go_wp2_with fail
      go_roundw
      case rel => exact ⟨k + 1, by go_num, by omega, HNS⟩
      case measure => simp [intOf]; omega
    · have HF : Hid (StepsAt wr w.heap.size u3 t ∧ Below w.heap.size w wr) := ⟨by have h := HW.out.1; rw [List.take_of_length_le (by omega)] at h; exact h, HW.out.2⟩
      go_wp2
      go_ret
      exact ⟨_, rfl, HF.out⟩
set_option maxRecDepth 100000 in
set_option maxHeartbeats 2000000 in
theorem startsOf_any (ls : List LakeM) (v : Value) (w : World) (hx : RowAt w v ls.length 5 (ls.flatMap LakeM.cells)) (hn : ls.length ≤ 2000000) : Calls Try.prog 43 #[v] w fun e w' => ∃ v', e = .returned v' ∧ w'.ownsRow w.heap.size 3 1 v' ls.length (ints (ls.map LakeM.start)) ∧ Below w.heap.size w w' := by
  obtain ⟨i3, hi3, h30, h31, h32⟩ := info_parts Try.info3'
  have HX := hide' hx
  obtain ⟨ag, cg, rfl⟩ := rowAt_slice hx
  clear hx
  go_enter Try.func43, Try.ntmps43
  go_wp2_with fail
  go_loopw [3, 4] (fun tv i wr => ∃ (k : Nat), i = .int .i64 k ∧ k ≤ ls.length ∧ Hid (wr.ownsRow w.heap.size 3 1 tv k (ints ((ls.take k).map LakeM.start)) ∧ Below w.heap.size w wr)) (fun _ i _ => ls.length - (intOf i).toNat)
  case atStart => exact ⟨0, rfl, Nat.zero_le _, World.ownsRow_nil _ _ _ _, Below.refl _ w⟩
  case round =>
    obtain ⟨k, rfl, hk, HW⟩ := hrel
    by_cases hlt : k < ls.length
    · obtain ⟨lb, lo, rfl, _, c0, c1, c2, c3, c4⟩ := lake_cells HX.out (k := k) hlt
      have d2 := up_cell HW.out.2 c2
      have HTS : Hid (ints ((ls.take k).map LakeM.start) ++ [.int .i64 (lkD ls k).start] = ints ((ls.take (k + 1)).map LakeM.start)) := by
        show _ = _
        rw [← take_snoc hlt, List.map_append, lk_at hlt]
        unfold ints
        rw [List.map_append]
        rfl
      obtain ⟨x, hxq⟩ : ∃ x, x = (lkD ls k).start := ⟨_, rfl⟩
      rw [← hxq] at d2 HTS
      clear c0 c1 c2 c3 c4 hxq
      go_wp2_with (at_builtin; refine wpList_append_own _ rfl _ _ 39 rfl w.heap.size 3 i3 (.int .i64 0) 1 8 Try.underlying39 hi3 h30 h31 h32 rfl (by decide) _ _ _ rfl (own_below HW.out.1 (below_al _ _) (Nat.le_refl _)) ⟨wr.heap.size, 0, none⟩ 1 1 [.int .i64 x] rfl rfl (cell_one_new _ _ _) (one_cell rfl) (by unfold maxLen; omega) (by omega) (Nat.le_trans HW.out.2.size (below_al _ _).size) ?_; intro v' w8 hown' hgrow _; refine Still.go ?_)
      unfold Still
      have HNS : Hid (w8.ownsRow w.heap.size 3 1 v' (k + 1) (ints ((ls.take (k + 1)).map LakeM.start)) ∧ Below w.heap.size w w8) := ⟨by rw [← HTS.out]; exact hown', (HW.out.2.trans ((below_al _ _).mono HW.out.2.size)).grown hgrow (Nat.le_trans HW.out.2.size (below_al _ _).size) (own_at HW.out.1)⟩
      clear hown' hgrow HW
      go_wp2_with fail
      go_roundw
      case rel => exact ⟨k + 1, by go_num, by omega, HNS⟩
      case measure => simp [intOf]; omega
    · obtain rfl : k = ls.length := by omega
      have HF : Hid (wr.ownsRow w.heap.size 3 1 u3 ls.length (ints (ls.map LakeM.start)) ∧ Below w.heap.size w wr) := ⟨by have h := HW.out.1; rw [List.take_of_length_le (Nat.le_refl _)] at h; exact h, HW.out.2⟩
      go_wp2
      go_ret
      exact ⟨_, rfl, HF.out⟩
end Go.Proofs.Ytnhddmcdmcpkeaj
