/- ProtectGrades. -/
import Derived.Test.YtpejnkngmnabfaiP8
namespace Go.Proofs.Ytpejnkngmnabfai
open Go.RowKit Go.Shelf

theorem int_cell {w : World} {v : Value} {l : List Int} {n : Nat} (h : RowAt w v n 1 (ints l)) (k : Nat) (hk : k < l.length) : ∃ b off c, v = .slice (some ⟨b, off, none⟩) n c ∧ w.cell? ⟨b, off + k, none⟩ = some (.int .i64 (l.getD k 0)) := by
  obtain ⟨_, a, c, rfl, h2⟩ := h
  obtain ⟨b, off, rfl, h3⟩ := h2 k (.int .i64 (l.getD k 0)) (by rw [ints, List.getElem?_map, List.getElem?_eq_getElem hk, List.getD_eq_getElem?_getD, List.getElem?_eq_getElem hk]; rfl)
  exact ⟨b, off, c, rfl, h3⟩
set_option maxRecDepth 100000 in
set_option maxHeartbeats 2000000 in
theorem sameInts_same (l : List Int) (n : Nat) (u v : Value) (w : World) (hu : RowAt w u n 1 (ints l)) (hv : RowAt w v n 1 (ints l)) (hn : n ≤ 1000) :
    Calls Try.prog 11 #[u, v] w fun e w' => e = .returned (.bool true) ∧ Below w.heap.size w w' := by
  have HU := hide' hu
  have HV := hide' hv
  have HL : Hid (l.length = n) := by show _ = _; have h := hu.1; simpa [ints] using h
  obtain ⟨au, cu, rfl⟩ := rowAt_slice hu
  obtain ⟨av, cv, rfl⟩ := rowAt_slice hv
  clear hu hv
  go_enter Try.func11, Try.ntmps11
  go_wp2_with fail
  go_loopw [5] (fun i wr => ∃ (k : Nat), i = .int .i64 k ∧ k ≤ n ∧ Hid (Below w.heap.size w wr)) (fun i _ => n - (intOf i).toNat)
  case atStart => exact ⟨0, rfl, Nat.zero_le _, Below.refl _ w⟩
  case round =>
    obtain ⟨k, rfl, hk, HBE⟩ := hrel
    by_cases hlt : k < n
    · obtain ⟨b1, o1, c1, ex1, hc1⟩ := int_cell HU.out k (by rw [HL.out]; exact hlt)
      cases ex1
      obtain ⟨b2, o2, c2, ex2, hc2⟩ := int_cell HV.out k (by rw [HL.out]; exact hlt)
      cases ex2
      have e1 := up_cell HBE.out hc1
      have e2 := up_cell HBE.out hc2
      obtain ⟨x, hx⟩ : ∃ x, x = l.getD k 0 := ⟨_, rfl⟩
      rw [← hx] at e1 e2
      have HBD : Hid (∀ m, Below w.heap.size w (wr.drewN m)) := fun m => below_drewN HBE.out m
      clear hc1 hc2 hx HBE
      go_wp2_with fail
      go_quiet (fail)
      go_wp2
      go_roundw
      case rel => exact ⟨k + 1, by go_num, by omega, HBD.out _⟩
      case measure => simp [intOf]; omega
    · go_wp2
      go_ret
      exact ⟨rfl, HBE.out⟩
set_option maxRecDepth 100000 in
set_option maxHeartbeats 2000000 in
theorem ints_any (l : List Int) (v : Value) (w : World) (hr : RowAt w v l.length 1 (ints l)) (hn : l.length ≤ 2000000) :
    Calls Try.prog 9 #[v] w fun e w' => ∃ v', e = .returned v' ∧ w'.ownsRow w.heap.size 3 1 v' l.length (ints l) ∧ Below w.heap.size w w' := by
  obtain ⟨i3, hi3, h30, h31, h32⟩ := info_parts Try.info3
  have HR1 := hide' hr
  obtain ⟨a, cap, rfl⟩ := rowAt_slice hr
  clear hr
  go_enter Try.func9, Try.ntmps9
  go_wp2_with (at_builtin; refine wpList_append_any _ rfl _ _ 22 rfl w.heap.size 3 i3 _ 1 8 Try.underlying22 hi3 h30 h31 h32 rfl (by decide) _ _ _ rfl (World.ownsRow_nil _ _ _ _) _ _ _ rfl HR1.out (ints_one l) (by unfold maxLen; omega) (by omega) (Nat.le_refl _) ?_; intro v1 x1 hown1 hgrow1; refine Still.go ?_)
  unfold Still
  have HO : Hid (x1.ownsRow w.heap.size 3 1 v1 l.length (ints l)) := by
    have h1 := hown1
    rw [Nat.zero_add, List.nil_append] at h1
    exact h1
  have HB : Hid (Below w.heap.size w x1) := (Below.refl _ w).grown hgrow1 (Nat.le_refl _) (fun k e => by cases e)
  obtain ⟨a1, c1, hv1⟩ := own_slice HO.out
  subst hv1
  clear hown1 hgrow1
  go_wp2
  go_ret
  exact ⟨_, rfl, HO.out, HB.out⟩
set_option maxRecDepth 100000 in
set_option maxHeartbeats 2000000 in
theorem ProtectGrades_any (bs : List Int) (base step : Int) (v : Value) (w : World) (hr : RowAt w v bs.length 1 (ints bs)) (hn : bs.length ≤ 2000000) :
    Calls Try.prog 3 #[v, .int .i64 base, .int .i64 step] w fun e w' => e = .returned (.bool true) ∧ Below w.heap.size w w' := by
  have HG := hide' hr
  have HI := hide' (ints_any bs v w hr hn)
  have HNIL : Hid (∀ w', Calls Try.prog 11 #[.slice none 0 0, .slice none 0 0] w' fun e w2 => e = .returned (.bool true) ∧ Below w'.heap.size w' w2) := fun w' => sameInts_same [] 0 (.slice none 0 0) (.slice none 0 0) w' (rowAt_of_own (World.ownsRow_nil w' 0 3 1)) (rowAt_of_own (World.ownsRow_nil w' 0 3 1)) (by decide)
  obtain ⟨a, cap, rfl⟩ := rowAt_slice hr
  clear hr
  go_enter Try.func3, Try.ntmps3
  go_wp2_with fail
  refine HI.out.mono ?_
  rintro e w1 ⟨v1, rfl, ho1, hb1⟩
  obtain ⟨a1, c1, hv1⟩ := own_slice ho1
  subst hv1
  have HC1 := hide' (Grade_any bs base step _ w1 (rowAt_of_own ho1) (by omega))
  have HB1 := hide' hb1
  clear ho1 hb1 HI
  go_wp2_with fail
  refine HC1.out.mono ?_
  intro e w2 hgo
  obtain ⟨hgo, hb2⟩ := hgo
  have HB2 : Hid (Below w.heap.size w w2) := HB1.out.trans (hb2.mono HB1.out.size)
  have HC2 := hide' (GradeOf_any bs base step _ w2 (HG.out.below HB2.out (Nat.le_refl _)) (by omega))
  clear hb2 HC1 HB1
  rcases hgo with ⟨h1, rfl⟩ | ⟨h1, h2, rfl⟩ | ⟨h1, h2, T, F, rfl, hT, hoT⟩
  · have H1 := hide' h1
    clear h1
    go_wp2_with fail
    refine HC2.out.mono ?_
    intro e w3 hgo
    obtain ⟨hgo, hb3⟩ := hgo
    obtain rfl : e = .returned (.tuple #[.slice none 0 0, .int .i64 2]) := by
      rcases hgo with ⟨_, h⟩ | ⟨h, _⟩ | ⟨h, _⟩
      · exact h
      · have := H1.out; omega
      · have := H1.out; omega
    have HB3 : Hid (Below w.heap.size w w3) := HB2.out.trans (hb3.mono HB2.out.size)
    have HNW := hide' (HNIL.out w3)
    clear hgo hb3 HC2 HNIL
    go_wp2_with fail
    refine HNW.out.mono ?_
    rintro e w4 ⟨rfl, hb4⟩
    have HB4 : Hid (Below w.heap.size w w4) := HB3.out.trans (hb4.mono HB3.out.size)
    clear hb4
    go_wp2
    go_ret
    exact ⟨rfl, HB4.out⟩
  · have H1 := hide' h1
    have H2 := hide' h2
    clear h1 h2
    go_wp2_with fail
    refine HC2.out.mono ?_
    intro e w3 hgo
    obtain ⟨hgo, hb3⟩ := hgo
    obtain rfl : e = .returned (.tuple #[.slice none 0 0, .int .i64 4]) := by
      rcases hgo with ⟨h, _⟩ | ⟨_, _, h⟩ | ⟨_, h, _⟩
      · have := H1.out; omega
      · exact h
      · rw [H2.out] at h; cases h
    have HB3 : Hid (Below w.heap.size w w3) := HB2.out.trans (hb3.mono HB2.out.size)
    have HNW := hide' (HNIL.out w3)
    clear hgo hb3 HC2 HNIL
    go_wp2_with fail
    refine HNW.out.mono ?_
    rintro e w4 ⟨rfl, hb4⟩
    have HB4 : Hid (Below w.heap.size w w4) := HB3.out.trans (hb4.mono HB3.out.size)
    clear hb4
    go_wp2
    go_ret
    exact ⟨rfl, HB4.out⟩
  · have H1 := hide' h1
    have H2 := hide' h2
    have HT := hide' hT
    have HOT := hide' hoT
    clear h1 h2 hT hoT
    go_wp2_with fail
    refine HC2.out.mono ?_
    intro e w3 hgo
    obtain ⟨hgo, hb3⟩ := hgo
    obtain ⟨v2, rfl, ho3⟩ : ∃ v2, e = .returned (.tuple #[v2, .int .i64 0]) ∧ w3.ownsRow w2.heap.size 3 1 v2 bs.length (ints T) := by
      rcases hgo with ⟨h, _⟩ | ⟨_, h, _⟩ | ⟨_, h, T2, v2, he, hT2, ho2⟩
      · have := H1.out; omega
      · rw [H2.out] at h; cases h
      · unfold gradeB at h
        rw [Bool.and_eq_true] at h
        rw [hT2.one (aheadB_iff.1 h.1) HT.out] at ho2
        exact ⟨v2, he, ho2⟩
    have HB3 : Hid (Below w.heap.size w w3) := HB2.out.trans (hb3.mono HB2.out.size)
    have HSS := hide' (sameInts_same T bs.length _ v2 w3 (rowAt_of_own (own_below HOT.out hb3 (Nat.le_refl _))) (rowAt_of_own ho3) (by have := H1.out; omega))
    obtain ⟨a2, c2, hv2⟩ := own_slice ho3
    subst hv2
    clear hgo hb3 HC2 HNIL ho3
    go_wp2_with fail
    refine HSS.out.mono ?_
    rintro e w4 ⟨rfl, hb4⟩
    have HB4 : Hid (Below w.heap.size w w4) := HB3.out.trans (hb4.mono HB3.out.size)
    clear hb4
    go_wp2
    go_ret
    exact ⟨rfl, HB4.out⟩
end Go.Proofs.Ytpejnkngmnabfai
