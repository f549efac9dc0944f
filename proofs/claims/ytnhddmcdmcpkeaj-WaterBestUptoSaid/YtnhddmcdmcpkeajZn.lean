/- WaterBest: what Best answers is what the document's search answers. -/
import Derived.Test.YtnhddmcdmcpkeajZm
import Derived.Test.YtnhddmcdmcpkeajX4
import Derived.Test.YtnhddmcdmcpkeajX3
namespace Go.Proofs.Ytnhddmcdmcpkeaj
open Go.RowKit Go.Shelf

theorem nil_tabZ (W : World) : TabAt W (.slice none 0 0) [] := (StepsAt.nil W 0).tab
/-- A code, what it is worth, and a table. -/
def WBoth (c x : Int) (t : List (List Int)) (W : World) (e : Ending) (w' : World) : Prop := ∃ v, e = .returned (.tuple #[v, .int .i64 x, .int .i64 c]) ∧ TabAt w' v t ∧ Below W.heap.size W w'
theorem best_both (ls : List LakeM) (ti : List (List Int)) (pr en : List Int) : ∃ (c x : Int) (t : List (List Int)), t.length ≤ 8 ∧ (∀ l ∈ t, l.length ≤ 2) ∧ ∀ (al ai ap ae : Option Addr) (cl ci cp ce : Nat) (W : World), BA ls ls.length ti.length pr.length en.length ti pr en al ai ap ae cl ci cp ce W →
    Calls Try.prog 27 #[.slice al ls.length cl, .slice ai ti.length ci, .slice ap pr.length cp, .slice ae en.length ce] W (WBoth c x t W) ∧ Calls Try.prog 29 #[.slice al ls.length cl, .slice ai ti.length ci, .slice ap pr.length cp, .slice ae en.length ce] W (WBoth c x t W) := by
  have hn : ∀ l ∈ ([] : List (List Int)), l.length ≤ 2 := fun l hl => by cases hl
  have b1 : ∀ {c : Int} {W : World} {e : Ending} {w' : World}, BadB W c e w' → WBoth c 0 [] W e w' := fun h => ⟨_, h.1, nil_tabZ _, h.2⟩
  have b2 : ∀ {c : Int} {W : World} {e : Ending} {w' : World}, NoRic c W e w' → WBoth c 0 [] W e w' := fun h => ⟨_, h.1, nil_tabZ _, h.2⟩
  cases qs : sizedB ls.length ti with
  | false => exact ⟨2, 0, [], Nat.zero_le _, hn, fun al ai ap ae cl ci cp ce W hA => ⟨(Best_s1 W hA qs).mono fun _ _ h => b1 h, (Ric_s1 W hA (by unfold mayE; rw [qs]; rfl)).mono fun _ _ h => b2 h⟩⟩
  | true =>
    have m14 : ls.all lakeB = false → mayE ls ti = 14 := fun h => by unfold mayE; rw [qs, h]; rfl
    have m4 : ls.all lakeB = true → comeB ti = false → mayE ls ti = 4 := fun h h' => by unfold mayE; rw [qs, h, h']; rfl
    have m0 : ls.all lakeB = true → comeB ti = true → mayE ls ti = 0 := fun h h' => by unfold mayE; rw [qs, h, h']; rfl
    have hm : mayE ls ti = 0 ∨ mayE ls ti = 4 ∨ mayE ls ti = 14 := by
      cases qa : ls.all lakeB with
      | false => exact .inr (.inr (m14 qa))
      | true =>
        cases qc : comeB ti with
        | false => exact .inr (.inl (m4 qa qc))
        | true => exact .inl (m0 qa qc)
    by_cases hx : pr.length = ti.length
    · by_cases hy : en.length = ls.length
      · cases qa : ls.all lakeB with
        | false => exact ⟨14, 0, [], Nat.zero_le _, hn, fun al ai ap ae cl ci cp ce W hA => ⟨(Best_a W hA qs qa hx hy).mono fun _ _ h => b1 h, (Ric_m_14 W hA (m14 qa) hx hy).mono fun _ _ h => b2 h⟩⟩
        | true =>
          cases qc : comeB ti with
          | false => exact ⟨4, 0, [], Nat.zero_le _, hn, fun al ai ap ae cl ci cp ce W hA => ⟨(Best_c W hA qs qa qc hx hy).mono fun _ _ h => b1 h, (Ric_m_4 W hA (m4 qa qc) hx hy).mono fun _ _ h => b2 h⟩⟩
          | true =>
            have s := sized_iff.1 qs
            cases qp : (pr.all fun x => withinB x 0 1000) with
            | false =>
              refine ⟨4, 0, [], Nat.zero_le _, hn, fun al ai ap ae cl ci cp ce W hA => ⟨(Best_p W hA qs qa qc qp hx hy).mono fun _ _ h => b1 h, ?_⟩⟩
              rw [hx, hy] at hA ⊢
              exact (Ric_p W hA (m0 qa qc) (by have := s.2.1; omega) qp).mono fun _ _ h => b2 h
            | true =>
              cases qe : (en.all fun x => withinB x 0 1000) with
              | false =>
                refine ⟨4, 0, [], Nat.zero_le _, hn, fun al ai ap ae cl ci cp ce W hA => ⟨(Best_e W hA qs qa qc qp qe hx hy).mono fun _ _ h => b1 h, ?_⟩⟩
                rw [hx, hy] at hA ⊢
                exact (Ric_e W hA (m0 qa qc) (by have := s.2.1; omega) s.1 qp qe).mono fun _ _ h => b2 h
              | true =>
                have wi : ∀ {l : List Int}, (l.all fun x => withinB x 0 1000) = true → ∀ x ∈ l, 0 ≤ x ∧ x ≤ 1000 := fun h x hx => by
                  have := List.all_eq_true.1 h x hx
                  unfold withinB at this
                  simp only [Bool.and_eq_true, decide_eq_true_eq] at this
                  exact this
                have hp : PlanOk ls ls.length ti.length ti pr en := ⟨fun k hk => lakeB_iff.1 (List.all_eq_true.1 qa k hk), rfl, s.1, by have := s.2.1; omega, rfl, s.2.2, come_iff.1 qc, hx, wi qp, hy, wi qe⟩
                refine ⟨0, (lookD ls ls.length ti pr en ti.length 0 (startS ls ls.length)).1, (planK ls ls.length ti.length ti pr en ti.length).2, by rw [plan_len]; exact s.2.1, fun l hl => ?_, fun al ai ap ae cl ci cp ce W hA => ?_⟩
                · obtain ⟨k, hk, rfl⟩ := List.mem_iff_getElem.1 hl
                  have hk' : k < ti.length := by rw [plan_len] at hk; exact hk
                  rw [← getD_at hk, planR_row hk', list_len _ _ s.1]
                  exact s.1
                · rw [hx, hy] at hA ⊢
                  exact ⟨(Best_ok hp W hA.h1 hA.h2 hA.h3 hA.h4).mono fun e w' ⟨v, q1, q2, q3⟩ => ⟨v, q1, q2.tab, q3⟩, (Ric_ok hp W hA (m0 qa qc)).mono fun e w' ⟨v, q1, q2, q3⟩ => ⟨v, q1, q2.tab, q3⟩⟩
      · refine ⟨2, 0, [], Nat.zero_le _, hn, fun al ai ap ae cl ci cp ce W hA => ⟨(Best_s3 W hA qs hx hy).mono fun _ _ h => b1 h, ?_⟩⟩
        rcases hm with hm | hm | hm
        · exact (Ric_s3_0 W hA hm hx hy).mono fun _ _ h => b2 h
        · exact (Ric_s3_4 W hA hm hx hy).mono fun _ _ h => b2 h
        · exact (Ric_s3_14 W hA hm hx hy).mono fun _ _ h => b2 h
    · refine ⟨2, 0, [], Nat.zero_le _, hn, fun al ai ap ae cl ci cp ce W hA => ⟨(Best_s2 W hA qs hx).mono fun _ _ h => b1 h, ?_⟩⟩
      rcases hm with hm | hm | hm
      · exact (Ric_s2_0 W hA hm hx).mono fun _ _ h => b2 h
      · exact (Ric_s2_4 W hA hm hx).mono fun _ _ h => b2 h
      · exact (Ric_s2_14 W hA hm hx).mono fun _ _ h => b2 h
set_option maxRecDepth 100000 in
set_option maxHeartbeats 4000000 in
theorem WaterBest_any (ls : List LakeM) (ti : List (List Int)) (pr en : List Int) (al ai ap ae : Option Addr) (cl ci cp ce : Nat) (w : World) (hx : RowAt w (.slice al ls.length cl) ls.length 5 (ls.flatMap LakeM.cells)) (hti : TabAt w (.slice ai ti.length ci) ti) (hpr : RowAt w (.slice ap pr.length cp) pr.length 1 (ints pr)) (hen : RowAt w (.slice ae en.length ce) en.length 1 (ints en)) (b1 : ls.length ≤ 2000000) (b2 : ti.length ≤ 2000000) (b3 : pr.length ≤ 2000000) (b4 : en.length ≤ 2000000) (b5 : ∀ l ∈ ti, l.length ≤ 2000000) :
    Calls Try.prog 8 #[.slice al ls.length cl, .slice ai ti.length ci, .slice ap pr.length cp, .slice ae en.length ce] w fun e w' => e = .returned (.bool true) ∧ Below w.heap.size w w' := by
  obtain ⟨c, x, t, t1, t2, hboth⟩ := best_both ls ti pr en
  have HLK := hide' (lakes_any ls _ w hx b1)
  have HT1 : Hid (∀ W, Below w.heap.size w W → Calls Try.prog 24 #[.slice ai ti.length ci] W fun e w' => ∃ v', e = .returned v' ∧ StepsAt w' W.heap.size v' ti ∧ Below W.heap.size W w') := fun W hb => tables_any ti _ W (hti.below hb (Nat.le_refl _)) b2 b5
  have HI1 : Hid (∀ W, Below w.heap.size w W → Calls Try.prog 28 #[.slice ap pr.length cp] W fun e w' => ∃ v', e = .returned v' ∧ w'.ownsRow W.heap.size 3 1 v' pr.length (ints pr) ∧ Below W.heap.size W w') := fun W hb => ints_any pr _ W (hpr.below hb (Nat.le_refl _)) b3
  have HI2 : Hid (∀ W, Below w.heap.size w W → Calls Try.prog 28 #[.slice ae en.length ce] W fun e w' => ∃ v', e = .returned v' ∧ w'.ownsRow W.heap.size 3 1 v' en.length (ints en) ∧ Below W.heap.size W w') := fun W hb => ints_any en _ W (hen.below hb (Nat.le_refl _)) b4
  have hBA : ∀ (W : World) (a1 a2 a3 a4 : Option Addr) (c1 c2 c3 c4 : Nat), RowAt W (.slice a1 ls.length c1) ls.length 5 (ls.flatMap LakeM.cells) → TabAt W (.slice a2 ti.length c2) ti → RowAt W (.slice a3 pr.length c3) pr.length 1 (ints pr) → RowAt W (.slice a4 en.length c4) en.length 1 (ints en) → BA ls ls.length ti.length pr.length en.length ti pr en a1 a2 a3 a4 c1 c2 c3 c4 W := fun W a1 a2 a3 a4 c1 c2 c3 c4 g1 g2 g3 g4 => ⟨rfl, rfl, rfl, rfl, by omega, by omega, by omega, by omega, fun l hl => by have := b5 l hl; omega, g1, g2, g3, g4⟩
  have HDO : Hid (∀ W, Below w.heap.size w W → Calls Try.prog 29 #[.slice al ls.length cl, .slice ai ti.length ci, .slice ap pr.length cp, .slice ae en.length ce] W (WBoth c x t W)) := fun W hb => (hboth al ai ap ae cl ci cp ce W (hBA W _ _ _ _ _ _ _ _ (hx.below hb (Nat.le_refl _)) (hti.below hb (Nat.le_refl _)) (hpr.below hb (Nat.le_refl _)) (hen.below hb (Nat.le_refl _)))).2
  have HPR : Hid (∀ (W : World) (a1 a2 a3 a4 : Option Addr) (c1 c2 c3 c4 : Nat), RowAt W (.slice a1 ls.length c1) ls.length 5 (ls.flatMap LakeM.cells) → TabAt W (.slice a2 ti.length c2) ti → RowAt W (.slice a3 pr.length c3) pr.length 1 (ints pr) → RowAt W (.slice a4 en.length c4) en.length 1 (ints en) → Calls Try.prog 27 #[.slice a1 ls.length c1, .slice a2 ti.length c2, .slice a3 pr.length c3, .slice a4 en.length c4] W (WBoth c x t W)) := fun W a1 a2 a3 a4 c1 c2 c3 c4 g1 g2 g3 g4 => (hboth a1 a2 a3 a4 c1 c2 c3 c4 W (hBA W _ _ _ _ _ _ _ _ g1 g2 g3 g4)).1
  have HSA : Hid (∀ W u v, TabAt W u t → TabAt W v t → Calls Try.prog 26 #[u, v] W fun e w' => e = .returned (.bool true) ∧ Below W.heap.size W w') := fun W u v g1 g2 => sameTables_same t u v W g1 g2 (by omega) (fun l hl => by have := t2 l hl; omega)
  clear hboth hx hti hpr hen b5 t1 t2 hBA
  obtain ⟨L, hL⟩ : ∃ q, q = ls.length := ⟨_, rfl⟩
  obtain ⟨H, hH⟩ : ∃ q, q = ti.length := ⟨_, rfl⟩
  obtain ⟨P, hP⟩ : ∃ q, q = pr.length := ⟨_, rfl⟩
  obtain ⟨E, hE⟩ : ∃ q, q = en.length := ⟨_, rfl⟩
  have HLN : Hid (ls.length = L ∧ ti.length = H ∧ pr.length = P ∧ en.length = E) := ⟨hL.symm, hH.symm, hP.symm, hE.symm⟩
  rw [← hL] at HLK
  rw [← hH] at HT1
  rw [← hP] at HI1
  rw [← hE] at HI2
  rw [← hL, ← hH, ← hP, ← hE] at HDO HPR
  rw [← hL, ← hH, ← hP, ← hE]
  clear hL hH hP hE
  go_enter Try.func8, Try.ntmps8
  go_wp2_with fail
  refine HLK.out.mono ?_
  rintro e w1 ⟨v1, rfl, o1, hb1⟩
  obtain ⟨p1, d1, rfl⟩ := own_slice o1
  have HO1 : Hid (RowAt w1 (.slice p1 L d1) L 5 (ls.flatMap LakeM.cells)) := rowAt_of_own o1
  have HB1 := hide' hb1
  clear o1 hb1 HLK
  go_wp2_with fail
  refine (HT1.out w1 HB1.out).mono ?_
  rintro e w2 ⟨v2, rfl, o2, hb2⟩
  obtain ⟨p2, d2, e2⟩ := o2.slice
  subst e2
  rw [HLN.out.2.1] at o2 ⊢
  have HO2 := hide' o2.tab
  have HO1b := hide' (HO1.out.below hb2 (Nat.le_refl _))
  have HB2 : Hid (Below w.heap.size w w2) := HB1.out.trans (hb2.mono HB1.out.size)
  clear o2 hb2 HT1 HO1 HB1
  go_wp2_with fail
  refine (HI1.out w2 HB2.out).mono ?_
  rintro e w3 ⟨v3, rfl, o3, hb3⟩
  obtain ⟨p3, d3, e3⟩ := own_slice o3
  subst e3
  have HO3 := hide' (rowAt_of_own o3)
  have HO1c := hide' (HO1b.out.below hb3 (Nat.le_refl _))
  have HO2c := hide' (HO2.out.below hb3 (Nat.le_refl _))
  have HB3 : Hid (Below w.heap.size w w3) := HB2.out.trans (hb3.mono HB2.out.size)
  clear o3 hb3 HI1 HO1b HO2 HB2
  go_wp2_with fail
  refine (HI2.out w3 HB3.out).mono ?_
  rintro e w4 ⟨v4, rfl, o4, hb4⟩
  obtain ⟨p4, d4, e4⟩ := own_slice o4
  subst e4
  have HRUN := hide' (HPR.out w4 p1 p2 p3 p4 d1 d2 d3 d4 (HO1c.out.below hb4 (Nat.le_refl _)) (HO2c.out.below hb4 (Nat.le_refl _)) (HO3.out.below hb4 (Nat.le_refl _)) (rowAt_of_own o4))
  have HB4 : Hid (Below w.heap.size w w4) := HB3.out.trans (hb4.mono HB3.out.size)
  clear o4 hb4 HI2 HO1c HO2c HO3 HB3 HPR
  go_wp2_with fail
  refine HRUN.out.mono ?_
  rintro e w5 ⟨x1, rfl, g1, hb5⟩
  have HB5 : Hid (Below w.heap.size w w5) := HB4.out.trans (hb5.mono HB4.out.size)
  have HG := hide' g1
  clear g1 hb5 HRUN HB4
  go_wp2_with fail
  refine (HDO.out w5 HB5.out).mono ?_
  rintro e w6 ⟨y1, rfl, g3, hb6⟩
  have HB6 : Hid (Below w.heap.size w w6) := HB5.out.trans (hb6.mono HB5.out.size)
  have HS1 := hide' (HSA.out w6 x1 y1 (HG.out.below hb6 (Nat.le_refl _)) g3)
  clear g3 hb6 HDO HB5 HG
  go_wp2_with fail
  refine HS1.out.mono ?_
  rintro e w7 ⟨rfl, hb7⟩
  have HB7 : Hid (Below w.heap.size w w7) := HB6.out.trans (hb7.mono HB6.out.size)
  clear hb7 HS1 HB6
  go_wp2_with fail
  go_ret
  exact ⟨rfl, HB7.out⟩
end Go.Proofs.Ytnhddmcdmcpkeaj
