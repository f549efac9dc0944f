/- WaterRuns. -/
import Derived.Test.YtlijlbjplphpfajX8
namespace Go.Proofs.Ytlijlbjplphpfaj
open Go.RowKit Go.Shelf

/-- What both sides answer. -/
def BothO (w : World) (c : Int) (tl ts : List (List Int)) (e : Ending) (w' : World) : Prop := ∃ v1 v2, e = .returned (.tuple #[v1, v2, .int .i64 c]) ∧ TabAt w' v1 tl ∧ TabAt w' v2 ts ∧ Below w.heap.size w w'
theorem run_rows {ls : List LakeM} {L : Nat} {ti tr : List (List Int)} (hL : L ≤ 2) : ∀ {k : Nat} {r : RunR}, runK ls L ti tr k = some r → (∀ l ∈ r.lv, l.length = L) ∧ (∀ l ∈ r.sp, l.length = L)
  | 0, r, h => by
    unfold runK at h
    cases h
    exact ⟨fun l hl => (by cases hl), fun l hl => (by cases hl)⟩
  | k + 1, r, h => by
    unfold runK at h
    split at h
    · cases h
    · next r0 h0 =>
      split at h
      · cases h
        obtain ⟨e1, e2⟩ := run_rows hL h0
        refine ⟨fun l hl => ?_, fun l hl => ?_⟩
        · rcases List.mem_append.1 hl with q | q
          · exact e1 l q
          · rw [List.mem_singleton.1 q]; exact list_len _ _ hL
        · rcases List.mem_append.1 hl with q | q
          · exact e2 l q
          · rw [List.mem_singleton.1 q]; exact list_len _ _ hL
      · cases h
theorem nil_tab (W : World) : TabAt W (.slice none 0 0) [] := (StepsAt.nil W 0).tab
/-- One code and two tables, for whatever run. -/
theorem run_both (ls : List LakeM) (ti tr : List (List Int)) : ∃ (c : Int) (tl ts : List (List Int)), tl.length ≤ 8 ∧ ts.length ≤ 8 ∧ (∀ l ∈ tl, l.length ≤ 2) ∧ (∀ l ∈ ts, l.length ≤ 2) ∧ ∀ w e w', RunF ls ti tr w e w' → BothO w c tl ts e w' := by
  have hn : ∀ l ∈ ([] : List (List Int)), l.length ≤ 2 := fun l hl => by cases hl
  cases e1 : sizeOk ls.length ti tr with
  | false =>
    refine ⟨2, [], [], Nat.zero_le _, Nat.zero_le _, hn, hn, fun w e w' h => ?_⟩
    obtain ⟨hc, hb⟩ := h
    rcases hc with ⟨_, rfl⟩ | ⟨q, _⟩ | ⟨q, _⟩ | ⟨q, _⟩
    · exact ⟨_, _, rfl, nil_tab _, nil_tab _, hb⟩
    all_goals (rw [e1] at q; cases q)
  | true =>
    cases e3 : ls.all lakeB with
    | false =>
      refine ⟨14, [], [], Nat.zero_le _, Nat.zero_le _, hn, hn, fun w e w' h => ?_⟩
      obtain ⟨hc, hb⟩ := h
      rcases hc with ⟨q, _⟩ | ⟨_, _, rfl⟩ | ⟨_, q, _⟩ | ⟨_, q, _⟩
      · rw [e1] at q; cases q
      · exact ⟨_, _, rfl, nil_tab _, nil_tab _, hb⟩
      all_goals (rw [e3] at q; cases q)
    | true =>
      cases e4 : comeB ti with
      | false =>
        refine ⟨4, [], [], Nat.zero_le _, Nat.zero_le _, hn, hn, fun w e w' h => ?_⟩
        obtain ⟨hc, hb⟩ := h
        rcases hc with ⟨q, _⟩ | ⟨_, q, _⟩ | ⟨_, _, _, rfl⟩ | ⟨_, _, q, _⟩
        · rw [e1] at q; cases q
        · rw [e3] at q; cases q
        · exact ⟨_, _, rfl, nil_tab _, nil_tab _, hb⟩
        · rw [e4] at q; cases q
      | true =>
        have hs : sizedB ls.length ti = true := by
          unfold sizeOk at e1
          simp only [Bool.and_eq_true] at e1
          exact e1.1.1
        obtain ⟨h2, h8, _⟩ := sized_iff.1 hs
        cases e5 : runK ls ls.length ti tr ti.length with
        | none =>
          refine ⟨15, [], [], Nat.zero_le _, Nat.zero_le _, hn, hn, fun w e w' h => ?_⟩
          obtain ⟨hc, hb⟩ := h
          rcases hc with ⟨q, _⟩ | ⟨_, q, _⟩ | ⟨_, _, q, _⟩ | ⟨_, _, _, q⟩
          · rw [e1] at q; cases q
          · rw [e3] at q; cases q
          · rw [e4] at q; cases q
          · rcases q with ⟨_, rfl⟩ | ⟨r, _, _, q, _⟩
            · exact ⟨_, _, rfl, nil_tab _, nil_tab _, hb⟩
            · rw [e5] at q; cases q
        | some r =>
          obtain ⟨n1, n2⟩ := run_len e5
          obtain ⟨m1, m2⟩ := run_rows h2 e5
          refine ⟨0, r.lv, r.sp, by omega, by omega, fun l hl => by rw [m1 l hl]; exact h2, fun l hl => by rw [m2 l hl]; exact h2, fun w e w' h => ?_⟩
          obtain ⟨hc, hb⟩ := h
          rcases hc with ⟨q, _⟩ | ⟨_, q, _⟩ | ⟨_, _, q, _⟩ | ⟨_, _, _, q⟩
          · rw [e1] at q; cases q
          · rw [e3] at q; cases q
          · rw [e4] at q; cases q
          · rcases q with ⟨q, _⟩ | ⟨r', v1, v2, q, rfl, q3, q4⟩
            · rw [e5] at q; cases q
            · rw [e5] at q
              cases q
              exact ⟨_, _, rfl, q3.tab, q4.tab, hb⟩
set_option maxRecDepth 100000 in
set_option maxHeartbeats 4000000 in
theorem WaterRuns_any (ls : List LakeM) (ti tr : List (List Int)) (al ai ar : Option Addr) (cl ci cr : Nat) (w : World) (hx : RowAt w (.slice al ls.length cl) ls.length 5 (ls.flatMap LakeM.cells)) (hti : TabAt w (.slice ai ti.length ci) ti) (htr : TabAt w (.slice ar tr.length cr) tr) (b1 : ls.length ≤ 2000000) (b2 : ti.length ≤ 2000000) (b3 : tr.length ≤ 2000000) (b4 : ∀ l ∈ ti, l.length ≤ 2000000) (b5 : ∀ l ∈ tr, l.length ≤ 2000000) :
    Calls Try.prog 7 #[.slice al ls.length cl, .slice ai ti.length ci, .slice ar tr.length cr] w fun e w' => e = .returned (.bool true) ∧ Below w.heap.size w w' := by
  obtain ⟨c, tl, ts, t1, t2, t3, t4, hboth⟩ := run_both ls ti tr
  have HLK := hide' (lakes_any ls _ w hx b1)
  have HT1 : Hid (∀ W, Below w.heap.size w W → Calls Try.prog 24 #[.slice ai ti.length ci] W fun e w' => ∃ v', e = .returned v' ∧ StepsAt w' W.heap.size v' ti ∧ Below W.heap.size W w') := fun W hb => tables_any ti _ W (hti.below hb (Nat.le_refl _)) b2 b4
  have HT2 : Hid (∀ W, Below w.heap.size w W → Calls Try.prog 24 #[.slice ar tr.length cr] W fun e w' => ∃ v', e = .returned v' ∧ StepsAt w' W.heap.size v' tr ∧ Below W.heap.size W w') := fun W hb => tables_any tr _ W (htr.below hb (Nat.le_refl _)) b3 b5
  have HDO : Hid (∀ W, Below w.heap.size w W → Calls Try.prog 25 #[.slice al ls.length cl, .slice ai ti.length ci, .slice ar tr.length cr] W (BothO W c tl ts)) := fun W hb => (WaterRun_any ls ti tr al ai ar cl ci cr W (hx.below hb (Nat.le_refl _)) (hti.below hb (Nat.le_refl _)) (htr.below hb (Nat.le_refl _)) b1 b2 b3).mono fun e w' h => hboth W e w' h
  have HPR : Hid (∀ W a1 a2 a3 c1 c2 c3, RowAt W (.slice a1 ls.length c1) ls.length 5 (ls.flatMap LakeM.cells) → TabAt W (.slice a2 ti.length c2) ti → TabAt W (.slice a3 tr.length c3) tr → Calls Try.prog 22 #[.slice a1 ls.length c1, .slice a2 ti.length c2, .slice a3 tr.length c3] W (BothO W c tl ts)) := fun W a1 a2 a3 c1 c2 c3 g1 g2 g3 => (Run_any ls ti tr a1 a2 a3 c1 c2 c3 W g1 g2 g3 (by omega) (by omega) (by omega) (fun l hl => by have := b4 l hl; omega)).mono fun e w' h => hboth W e w' h
  have HSA : Hid (∀ W u v t, (t = tl ∨ t = ts) → TabAt W u t → TabAt W v t → Calls Try.prog 26 #[u, v] W fun e w' => e = .returned (.bool true) ∧ Below W.heap.size W w') := fun W u v t ht g1 g2 => sameTables_same t u v W g1 g2 (by rcases ht with rfl | rfl <;> omega) (fun l hl => by rcases ht with rfl | rfl; (have := t3 l hl; omega); (have := t4 l hl; omega))
  clear hboth hx hti htr b4 b5 t1 t2 t3 t4
  obtain ⟨L, hL⟩ : ∃ x, x = ls.length := ⟨_, rfl⟩
  obtain ⟨H, hH⟩ : ∃ x, x = ti.length := ⟨_, rfl⟩
  obtain ⟨J, hJ⟩ : ∃ x, x = tr.length := ⟨_, rfl⟩
  have HLN : Hid (ls.length = L ∧ ti.length = H ∧ tr.length = J) := ⟨hL.symm, hH.symm, hJ.symm⟩
  rw [← hL] at HLK
  rw [← hH] at HT1
  rw [← hJ] at HT2
  rw [← hL, ← hH, ← hJ] at HDO HPR
  rw [← hL, ← hH, ← hJ]
  clear hL hH hJ
  go_enter Try.func7, Try.ntmps7
  go_wp2_with fail
  refine HLK.out.mono ?_
  rintro e w1 ⟨v1, rfl, o1, hb1⟩
  obtain ⟨p1, d1, rfl⟩ := own_slice o1
  have HO1 : Hid (RowAt w1 (.slice p1 L d1) L 5 (ls.flatMap LakeM.cells)) := rowAt_of_own o1
  have HB1 := hide' hb1
  clear o1 hb1 HLK
  go_wp2_with fail
  refine (HT1.out w1 HB1.out).mono ?_
  rintro e w2 ⟨v2, rfl, o2, hb2⟩
  obtain ⟨p2, d2, e2⟩ := o2.slice
  subst e2
  rw [HLN.out.2.1] at o2 ⊢
  have HO2 := hide' o2.tab
  have HO1b := hide' (HO1.out.below hb2 (Nat.le_refl _))
  have HB2 : Hid (Below w.heap.size w w2) := HB1.out.trans (hb2.mono HB1.out.size)
  clear o2 hb2 HT1 HO1 HB1
  go_wp2_with fail
  refine (HT2.out w2 HB2.out).mono ?_
  rintro e w3 ⟨v3, rfl, o3, hb3⟩
  obtain ⟨p3, d3, e3⟩ := o3.slice
  subst e3
  rw [HLN.out.2.2] at o3 ⊢
  have HRUN := hide' (HPR.out w3 p1 p2 p3 d1 d2 d3 (HO1b.out.below hb3 (Nat.le_refl _)) (HO2.out.below hb3 (Nat.le_refl _)) o3.tab)
  have HB3 : Hid (Below w.heap.size w w3) := HB2.out.trans (hb3.mono HB2.out.size)
  clear o3 hb3 HT2 HO1b HO2 HB2 HPR
  go_wp2_with fail
  refine HRUN.out.mono ?_
  rintro e w4 ⟨x1, x2, rfl, g1, g2, hb4⟩
  have HB4 : Hid (Below w.heap.size w w4) := HB3.out.trans (hb4.mono HB3.out.size)
  have HG := hide' (And.intro g1 g2)
  clear g1 g2 hb4 HRUN HB3
  go_wp2_with fail
  refine (HDO.out w4 HB4.out).mono ?_
  rintro e w5 ⟨y1, y2, rfl, g3, g4, hb5⟩
  have HB5 : Hid (Below w.heap.size w w5) := HB4.out.trans (hb5.mono HB4.out.size)
  have HS1 := hide' (HSA.out w5 x1 y1 tl (.inl rfl) (HG.out.1.below hb5 (Nat.le_refl _)) g3)
  have HG5 := hide' (And.intro (HG.out.2.below hb5 (Nat.le_refl _)) g4)
  clear g3 g4 hb5 HDO HB4 HG
  go_wp2_with fail
  refine HS1.out.mono ?_
  rintro e w6 ⟨rfl, hb6⟩
  have HB6 : Hid (Below w.heap.size w w6) := HB5.out.trans (hb6.mono HB5.out.size)
  have HS2 := hide' (HSA.out w6 x2 y2 ts (.inr rfl) (HG5.out.1.below hb6 (Nat.le_refl _)) (HG5.out.2.below hb6 (Nat.le_refl _)))
  clear hb6 HS1 HB5 HG5 HSA
  go_wp2_with fail
  refine HS2.out.mono ?_
  rintro e w7 ⟨rfl, hb7⟩
  have HB7 : Hid (Below w.heap.size w w7) := HB6.out.trans (hb7.mono HB6.out.size)
  clear hb7 HS2 HB6
  go_wp2_with fail
  go_ret
  exact ⟨rfl, HB7.out⟩
end Go.Proofs.Ytlijlbjplphpfaj
