/- YardPlans. -/
import Derived.Test.YtcnoipcpifackahXy
import Derived.Test.YtcnoipcpifackahZa
namespace Go.Proofs.Ytcnoipcpifackah
open Go.RowKit Go.Shelf

set_option maxRecDepth 100000 in
set_option maxHeartbeats 2000000 in
theorem sameInts_long (l : List Int) (n : Nat) (u v : Value) (w : World) (hu : RowAt w u n 1 (ints l)) (hv : RowAt w v n 1 (ints l)) (hn : n ≤ 9223372036854775807) :
    Calls Try.prog 14 #[u, v] w fun e w' => e = .returned (.bool true) ∧ Below w.heap.size w w' := by
  have HU := hide' hu
  have HV := hide' hv
  have HL : Hid (l.length = n) := by show _ = _; have h := hu.1; simpa [ints] using h
  obtain ⟨au, cu, rfl⟩ := rowAt_slice hu
  obtain ⟨av, cv, rfl⟩ := rowAt_slice hv
  clear hu hv
  go_enter Try.func14, Try.ntmps14
  go_wp2_with fail
  go_loopw [5] (fun i wr => ∃ (k : Nat), i = .int .i64 k ∧ k ≤ n ∧ Hid (Below w.heap.size w wr)) (fun i _ => n - (intOf i).toNat)
  case atStart => exact ⟨0, rfl, Nat.zero_le _, Below.refl _ w⟩
  case round =>
    obtain ⟨k, rfl, hk, HBE⟩ := hrel
    by_cases hlt : k < n
    · obtain ⟨b1, o1, c1, ex1, hc1⟩ := int_cell HU.out k (by rw [HL.out]; exact hlt)
      cases ex1
      obtain ⟨b2, o2, c2, ex2, hc2⟩ := int_cell HV.out k (by rw [HL.out]; exact hlt)
      cases ex2
      have e1 := up_cell HBE.out hc1
      have e2 := up_cell HBE.out hc2
      obtain ⟨x, hx⟩ : ∃ x, x = l.getD k 0 := ⟨_, rfl⟩
      rw [← hx] at e1 e2
      have HBD : Hid (∀ m, Below w.heap.size w (wr.drewN m)) := fun m => below_drewN HBE.out m
      clear hc1 hc2 hx HBE
      go_wp2_with fail
      go_quiet (fail)
      go_wp2
      go_roundw
      case rel => exact ⟨k + 1, by go_num, by omega, HBD.out _⟩
      case measure => simp [intOf]; omega
    · go_wp2
      go_ret
      exact ⟨rfl, HBE.out⟩
set_option maxRecDepth 100000 in
set_option maxHeartbeats 4000000 in
theorem sides_any (l : List Bool) (v : Value) (w : World) (hx : RowAt w v l.length 1 (l.map Value.bool)) (hn : l.length ≤ 2000000) : Calls Try.prog 12 #[v] w fun e w' => ∃ v', e = .returned v' ∧ RowAt w' v' l.length 1 (l.map Value.bool) ∧ Below w.heap.size w w' := by
  obtain ⟨i4, hi4, h40, h41, h42⟩ := info_parts Try.info4
  have HX := hide' hx
  obtain ⟨ar, cr, rfl⟩ := rowAt_slice hx
  clear hx
  go_enter Try.func12, Try.ntmps12
  go_wp2_with (at_builtin; refine wpList_append_any _ rfl _ _ 32 rfl w.heap.size 4 i4 _ 1 1 Try.underlying32 hi4 h40 h41 h42 rfl (by decide) _ _ _ rfl (World.ownsRow_nil _ _ _ _) _ _ _ rfl HX.out (bools_one l) (by unfold maxLen; omega) (by omega) (Nat.le_refl _) ?_; intro v1 x1 hown1 hgrow1; refine Still.go ?_)
  unfold Still
  have hg1 : w.grownBy x1 none := hgrow1
  have ho1 : x1.ownsRow w.heap.size 4 1 v1 l.length (l.map Value.bool) := by have h := hown1; simpa using h
  have HB : Hid (Below w.heap.size w x1) := (Below.refl _ w).grown hg1 (Nat.le_refl _) (fun k e => by cases e)
  have HO := hide' ho1
  clear hown1 hgrow1 hg1 ho1
  go_wp2_with fail
  go_ret
  exact ⟨_, rfl, rowAt_of_own HO.out, HB.out⟩
theorem row_len {w : World} {B e sz n : Nat} {v : Value} {xs : List Value} (h : w.ownsRow B e sz v n xs) : n ≤ 9223372036854775807 := by
  rcases h.2 with ⟨_, h1⟩ | ⟨g, c, cur, _, _, _, h1, h2, _⟩
  · omega
  · unfold maxLen at h2
    omega
set_option maxRecDepth 100000 in
set_option maxHeartbeats 4000000 in
theorem YardPlans_any (y : YardM) (goal : List Bool) (gv : Value) (af ad as' : Option Addr) (cf cd cs : Nat) (w : World) (hy : YardAt w af ad as' cf cd cs y) (hf : y.fed.length ≤ 2000000) (hd : y.drawn.length ≤ 2000000) (hs : y.devs.length ≤ 2000000) (hg : RowAt w gv goal.length 1 (goal.map Value.bool)) (hgl : goal.length ≤ 2000000) :
    Calls Try.prog 4 #[.agg #[.int .i64 y.points, .slice af y.fed.length cf, .slice ad y.drawn.length cd, .slice as' y.devs.length cs], gv] w fun e w' => e = .returned (.bool true) ∧ Below w.heap.size w w' := by
  obtain ⟨ga, gc, rfl⟩ := rowAt_slice hg
  have HOF : Hid (∀ w', Below w.heap.size w w' → Calls Try.prog 8 #[.agg #[.int .i64 y.points, .slice af y.fed.length cf, .slice ad y.drawn.length cd, .slice as' y.devs.length cs]] w' fun e w2 => ∃ af2 ad2 as2 cf2 cd2 cs2, e = .returned (.agg #[.int .i64 y.points, .slice af2 y.fed.length cf2, .slice ad2 y.drawn.length cd2, .slice as2 y.devs.length cs2]) ∧ YardAt w2 af2 ad2 as2 cf2 cd2 cs2 y ∧ Below w'.heap.size w' w2) := fun w' hb => YardOf_any y af ad as' cf cd cs w' (hy.below hb (Nat.le_refl _)) hf hd hs
  have HSI : Hid (∀ w', Below w.heap.size w w' → Calls Try.prog 12 #[.slice ga goal.length gc] w' fun e w2 => ∃ v', e = .returned v' ∧ RowAt w2 v' goal.length 1 (goal.map Value.bool) ∧ Below w'.heap.size w' w2) := fun w' hb => sides_any goal _ w' (hg.below hb (Nat.le_refl _)) hgl
  have HPL : Hid (∀ w' gv af2 ad2 as2 cf2 cd2 cs2, YardAt w' af2 ad2 as2 cf2 cd2 cs2 y → RowAt w' gv goal.length 1 (goal.map Value.bool) → Calls Try.prog 11 #[.agg #[.int .i64 y.points, .slice af2 y.fed.length cf2, .slice ad2 y.drawn.length cd2, .slice as2 y.devs.length cs2], gv] w' (PlanAns y goal w')) := fun w' gv af2 ad2 as2 cf2 cd2 cs2 h1 h2 => Plan_any y goal gv af2 ad2 as2 cf2 cd2 cs2 w' h1 (by omega) (by omega) (by omega) h2 (by omega)
  have HPD : Hid (∀ w', Below w.heap.size w w' → Calls Try.prog 13 #[.agg #[.int .i64 y.points, .slice af y.fed.length cf, .slice ad y.drawn.length cd, .slice as' y.devs.length cs], .slice ga goal.length gc] w' (PlanAns y goal w')) := fun w' hb => Planned_any y goal _ af ad as' cf cd cs w' (hy.below hb (Nat.le_refl _)) (by omega) (by omega) (by omega) (hg.below hb (Nat.le_refl _)) (by omega)
  clear hy hg
  go_enter Try.func4, Try.ntmps4
  go_upto_region 1 with fail
  have hqA := alloc_new w (.cells #[.int .i64 y.points, .slice af y.fed.length cf, .slice ad y.drawn.length cd, .slice as' y.devs.length cs] 25)
  have hb1 := below_al w (.cells #[.int .i64 y.points, .slice af y.fed.length cf, .slice ad y.drawn.length cd, .slice as' y.devs.length cs] 25)
  obtain ⟨w1, hw1⟩ : ∃ x, x = (w.alloc (.cells #[.int .i64 y.points, .slice af y.fed.length cf, .slice ad y.drawn.length cd, .slice as' y.devs.length cs] 25)) := ⟨_, rfl⟩
  rw [← hw1] at hqA hb1 ⊢
  obtain ⟨A, hnA⟩ : ∃ x, x = w.heap.size := ⟨_, rfl⟩
  have HNE : Hid (w.heap.size ≤ A) := by show _ ≤ _; omega
  rw [← hnA] at hqA
  rw [show (Value.pointer (some { block := w.heap.size, off := 0 })) = Value.pointer (some { block := A, off := 0 }) by rw [hnA]]
  have HQA := hide' hqA
  have HB1 := hide' hb1
  clear hqA hb1 hw1 hnA
  have a0 : w1.cell? ⟨A, 0, none⟩ = some (.int .i64 y.points) := (cells_at HQA.out 0).trans rfl
  have a1 : w1.cell? ⟨A, 1, none⟩ = some (.slice af y.fed.length cf) := (cells_at HQA.out 1).trans rfl
  have a2 : w1.cell? ⟨A, 2, none⟩ = some (.slice ad y.drawn.length cd) := (cells_at HQA.out 2).trans rfl
  have a3 : w1.cell? ⟨A, 3, none⟩ = some (.slice as' y.devs.length cs) := (cells_at HQA.out 3).trans rfl
  go_wp2_with fail
  refine (HOF.out w1 HB1.out).mono ?_
  rintro e w2 ⟨af2, ad2, as2, cf2, cd2, cs2, rfl, hy2, hb2⟩
  have HB2 := hide' (HB1.out.trans (hb2.mono HB1.out.size))
  have HA2 := hide' ((hb2.block A (lt_heap HQA.out)).trans HQA.out)
  have HY2 := hide' hy2
  clear hy2 hb2 a0 a1 a2 a3 HQA HB1 HOF
  go_wp2_with fail
  refine (HSI.out w2 HB2.out).mono ?_
  rintro e w3 ⟨gv, rfl, hg3, hb3⟩
  have HB3 := hide' (HB2.out.trans (hb3.mono HB2.out.size))
  have HA3 := hide' ((hb3.block A (lt_heap HA2.out)).trans HA2.out)
  have HP3 := hide' (HPL.out w3 gv af2 ad2 as2 cf2 cd2 cs2 (HY2.out.below hb3 (Nat.le_refl _)) hg3)
  clear hg3 hb3 HA2 HB2 HY2 HSI HPL
  go_wp2_with fail
  refine HP3.out.mono ?_
  clear HP3
  intro e w4 hp
  have HB4 : Hid (Below w3.heap.size w3 w4) := by
    rcases hp with ⟨_, _, h⟩ | ⟨_, _, _, h⟩ | ⟨_, _, _, h⟩ <;> exact h
  have HB5 := hide' (HB3.out.trans (HB4.out.mono HB3.out.size))
  have HA4 := hide' ((HB4.out.block A (lt_heap HA3.out)).trans HA3.out)
  have a0 : w4.cell? ⟨A, 0, none⟩ = some (.int .i64 y.points) := (cells_at HA4.out 0).trans rfl
  have a1 : w4.cell? ⟨A, 1, none⟩ = some (.slice af y.fed.length cf) := (cells_at HA4.out 1).trans rfl
  have a2 : w4.cell? ⟨A, 2, none⟩ = some (.slice ad y.drawn.length cd) := (cells_at HA4.out 2).trans rfl
  have a3 : w4.cell? ⟨A, 3, none⟩ = some (.slice as' y.devs.length cs) := (cells_at HA4.out 3).trans rfl
  have HP4 := hide' (HPD.out w4 HB5.out)
  clear HA3 HA4 HPD HB4
  rcases hp with ⟨h1, rfl, _⟩ | ⟨h1, h2, rfl, _⟩ | ⟨h1, h2, ⟨q, v, hq, rfl, hv⟩ | ⟨hq, rfl⟩, _⟩
  · have H1 := hide' h1
    clear h1
    go_wp2_with fail
    refine HP4.out.mono ?_
    intro e w5 hp
    rcases hp with ⟨_, rfl, hb⟩ | ⟨h3, _⟩ | ⟨h3, _⟩
    · have HBF := hide' (HB5.out.trans (hb.mono HB5.out.size))
      have HSA := hide' (sameInts_long [] 0 (.slice none 0 0) (.slice none 0 0) w5 (rowAt_of_own (World.ownsRow_nil w5 0 3 1)) (rowAt_of_own (World.ownsRow_nil w5 0 3 1)) (by decide))
      clear hb HP4
      go_wp2_with fail
      refine HSA.out.mono ?_
      rintro e w6 ⟨rfl, hb6⟩
      have HBG := hide' (HBF.out.trans (hb6.mono HBF.out.size))
      clear hb6
      go_wp2_with fail
      go_ret
      exact ⟨rfl, HBG.out⟩
    · rw [H1.out] at h3; cases h3
    · rw [H1.out] at h3; cases h3
  · have H1 := hide' h1
    have H2 := hide' h2
    clear h1 h2
    go_wp2_with fail
    refine HP4.out.mono ?_
    intro e w5 hp
    rcases hp with ⟨h3, _⟩ | ⟨_, _, rfl, hb⟩ | ⟨_, h3, _⟩
    · rw [H1.out] at h3; cases h3
    · have HBF := hide' (HB5.out.trans (hb.mono HB5.out.size))
      have HSA := hide' (sameInts_long [] 0 (.slice none 0 0) (.slice none 0 0) w5 (rowAt_of_own (World.ownsRow_nil w5 0 3 1)) (rowAt_of_own (World.ownsRow_nil w5 0 3 1)) (by decide))
      clear hb HP4
      go_wp2_with fail
      refine HSA.out.mono ?_
      rintro e w6 ⟨rfl, hb6⟩
      have HBG := hide' (HBF.out.trans (hb6.mono HBF.out.size))
      clear hb6
      go_wp2_with fail
      go_ret
      exact ⟨rfl, HBG.out⟩
    · exact absurd h3 H2.out
  · have HQ := hide' hq
    have HV := hide' hv
    have HLN := hide' (row_len hv)
    have H1 := hide' h1
    have H2 := hide' h2
    clear hq hv h1 h2
    go_wp2_with fail
    refine HP4.out.mono ?_
    intro e w5 hp
    rcases hp with ⟨h3, _⟩ | ⟨_, h3, _⟩ | ⟨_, _, ⟨q2, v2, hq2, rfl, hv2⟩ | ⟨hq2, rfl⟩, hb⟩
    · rw [H1.out] at h3; cases h3
    · exact absurd H2.out h3
    · have e : q2 = q := best_one hq2 HQ.out
      subst e
      have HBF := hide' (HB5.out.trans (hb.mono HB5.out.size))
      have HSA := hide' (sameInts_long (natI q2) q2.length v v2 w5 (rowAt_of_own (own_below HV.out hb (Nat.le_refl _))) (rowAt_of_own hv2) HLN.out)
      clear hb HP4 hv2 hq2
      go_wp2_with fail
      refine HSA.out.mono ?_
      rintro e w6 ⟨rfl, hb6⟩
      have HBG := hide' (HBF.out.trans (hb6.mono HBF.out.size))
      clear hb6
      go_wp2_with fail
      go_ret
      exact ⟨rfl, HBG.out⟩
    · exact absurd HQ.out.1 (hq2 q)
  · have HQ := hide' hq
    have H1 := hide' h1
    have H2 := hide' h2
    clear hq h1 h2
    go_wp2_with fail
    refine HP4.out.mono ?_
    intro e w5 hp
    rcases hp with ⟨h3, _⟩ | ⟨_, h3, _⟩ | ⟨_, _, ⟨q2, v2, hq2, rfl, hv2⟩ | ⟨hq2, rfl⟩, hb⟩
    · rw [H1.out] at h3; cases h3
    · exact absurd H2.out h3
    · exact absurd hq2.1 (HQ.out q2)
    · have HBF := hide' (HB5.out.trans (hb.mono HB5.out.size))
      have HSA := hide' (sameInts_long [] 0 (.slice none 0 0) (.slice none 0 0) w5 (rowAt_of_own (World.ownsRow_nil w5 0 3 1)) (rowAt_of_own (World.ownsRow_nil w5 0 3 1)) (by decide))
      clear hb HP4 hq2
      go_wp2_with fail
      refine HSA.out.mono ?_
      rintro e w6 ⟨rfl, hb6⟩
      have HBG := hide' (HBF.out.trans (hb6.mono HBF.out.size))
      clear hb6
      go_wp2_with fail
      go_ret
      exact ⟨rfl, HBG.out⟩
end Go.Proofs.Ytcnoipcpifackah
