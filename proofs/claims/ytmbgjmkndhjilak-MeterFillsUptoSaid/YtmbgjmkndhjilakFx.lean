/- MeterFills answers true. -/
import Derived.Test.YtmbgjmkndhjilakFw
namespace Go.Proofs.Ytmbgjmkndhjilak
open Go.RowKit Go.Shelf

/-- A row is copied. -/
def CopyR (l : List Int) (w : World) (e : Ending) (w' : World) : Prop := ∃ a c, e = .returned (.slice a l.length c) ∧ RowAt w' (.slice a l.length c) l.length 1 (ints l) ∧ Below w.heap.size w w'
set_option maxRecDepth 100000 in
set_option maxHeartbeats 4000000 in
theorem copy_any (l : List Int) (v : Value) (w : World) (hx : RowAt w v l.length 1 (ints l)) (hn : l.length ≤ 3000000) : Calls Try.prog 15 #[v] w (CopyR l w) := by
  obtain ⟨i3, hi3, h30, h31, h32⟩ := info_parts Try.info3'
  have HX := hide' hx
  obtain ⟨ar, cr, rfl⟩ := rowAt_slice hx
  clear hx
  go_enter Try.func15, Try.ntmps15
  go_wp2_with (at_builtin; refine wpList_append_any _ rfl _ _ 23 rfl w.heap.size 3 i3 (.int .i64 0) 1 8 Try.underlying23 hi3 h30 h31 h32 rfl (by decide) _ _ _ rfl (World.ownsRow_nil _ _ _ _) _ _ _ rfl HX.out (ints_one _) (by unfold maxLen; omega) (by omega) (Nat.le_refl _) ?_; intro v1 x1 hown1 hgrow1; refine Still.go ?_)
  unfold Still
  have hown2 : x1.ownsRow w.heap.size 3 1 v1 l.length (ints l) := by
    have e : 0 + l.length = l.length := Nat.zero_add _
    rw [e] at hown1
    exact hown1
  obtain ⟨va, vc, hve⟩ := own_slice hown2
  subst hve
  have HO : Hid (RowAt x1 (.slice va l.length vc) l.length 1 (ints l) ∧ Below w.heap.size w x1) := ⟨rowAt_of_own hown2, (Below.refl _ w).grown hgrow1 (Nat.le_refl _) (fun k e => by cases e)⟩
  clear hown1 hown2 hgrow1 HX
  go_wp2
  go_ret
  exact ⟨va, vc, rfl, HO.out.1, HO.out.2⟩
set_option maxRecDepth 100000 in
set_option maxHeartbeats 4000000 in
theorem sameInts_same (l : List Int) (u v : Value) (w : World) (hu : RowAt w u l.length 1 (ints l)) (hv : RowAt w v l.length 1 (ints l)) (hn : l.length ≤ 3000000) :
    Calls Try.prog 17 #[u, v] w fun e w' => e = .returned (.bool true) ∧ Below w.heap.size w w' := by
  have HU := hide' hu
  have HV := hide' hv
  obtain ⟨au, cu, rfl⟩ := rowAt_slice hu
  obtain ⟨av, cv, rfl⟩ := rowAt_slice hv
  clear hu hv
  go_enter Try.func17, Try.ntmps17
  go_wp2_with fail
  go_loopw [5] (fun i wr => ∃ (k : Nat), i = .int .i64 k ∧ k ≤ l.length ∧ Hid (Below w.heap.size w wr)) (fun i _ => l.length - (intOf i).toNat)
  case atStart => exact ⟨0, rfl, Nat.zero_le _, Below.refl _ w⟩
  case round =>
    obtain ⟨k, rfl, hk, HBE⟩ := hrel
    by_cases hlt : k < l.length
    · obtain ⟨b1, o1, c1, ex1, hc1⟩ := ints_cell HU.out k hlt
      cases ex1
      obtain ⟨b2, o2, c2, ex2, hc2⟩ := ints_cell HV.out k hlt
      cases ex2
      have e1 := up_cell HBE.out hc1
      have e2 := up_cell HBE.out hc2
      obtain ⟨x, hx⟩ : ∃ x, x = l.getD k 0 := ⟨_, rfl⟩
      rw [← hx] at e1 e2
      have HBD : Hid (∀ m, Below w.heap.size w (wr.drewN m)) := fun m => below_drewN HBE.out m
      clear hc1 hc2 hx HBE
      go_wp2_with fail
      go_quiet (fail)
      go_wp2
      go_roundw
      case rel => exact ⟨k + 1, by go_num, by omega, HBD.out _⟩
      case measure => simp [intOf]; omega
    · go_wp2
      go_ret
      exact ⟨rfl, HBE.out⟩
theorem fld_one {ts vs qs a b : List Int} (ha : Fld ts vs qs a qs.length) (hb : Fld ts vs qs b qs.length) : a = b := by
  apply List.ext_getElem (by rw [ha.1, hb.1])
  intro j h1 h2
  have hj : j < qs.length := by rw [← ha.1]; exact h1
  obtain ⟨p, p1, p2⟩ := ha.2 j hj hj
  obtain ⟨q, q1, q2⟩ := hb.2 j hj hj
  have : p = q := Nat.le_antisymm (at_one p1 q1 (Int.le_refl _)) (at_one q1 p1 (Int.le_refl _))
  rw [← getD_get h1, ← getD_get h2, p2, q2, this]
/-- Both sides end alike: two rows of the same numbers, and one word. -/
def FillA (out : List Int) (c : Int) (w : World) (e : Ending) (w' : World) : Prop := ∃ a k, e = .returned (.tuple #[.slice a out.length k, .int .i64 c]) ∧ RowAt w' (.slice a out.length k) out.length 1 (ints out) ∧ Below w.heap.size w w'
theorem nil_rowI (W : World) : RowAt W (.slice none 0 0) 0 1 (ints []) := ⟨rfl, none, 0, rfl, fun j u h => by simp [ints] at h⟩
theorem fill_alike (ts vs qs : List Int) (hs : fillE ts vs qs = 0 → ∃ out, Fld ts vs qs out qs.length) : ∃ out : List Int, out.length ≤ qs.length ∧ ∀ w e w', FillO ts vs qs w e w' → FillA out (fillE ts vs qs) w e w' := by
  by_cases h0 : fillE ts vs qs = 0
  · obtain ⟨out, ho⟩ := hs h0
    refine ⟨out, by rw [ho.1]; exact Nat.le_refl _, fun w e w' h => ?_⟩
    obtain ⟨h1 | ⟨_, v, o2, he, hown, hf⟩, hb⟩ := h
    · exact absurd h0 h1.1
    · obtain rfl := fld_one hf ho
      rw [← ho.1] at hown
      obtain ⟨a, c, rfl⟩ := own_slice hown
      exact ⟨a, c, by rw [he, h0], rowAt_of_own hown, hb⟩
  · refine ⟨[], Nat.zero_le _, fun w e w' h => ?_⟩
    obtain ⟨h1 | ⟨h1, _⟩, hb⟩ := h
    · exact ⟨none, 0, h1.2, nil_rowI _, hb⟩
    · exact absurd h1 h0
theorem fld_exists {ts vs qs : List Int} (hs : Sorted ts) : ∃ out, Fld ts vs qs out qs.length := by
  refine ⟨qs.map fun x => valP ts vs (Classical.choose (at_exists hs x)) x, by simp, fun j _ hj => ⟨_, Classical.choose_spec (at_exists hs (qs.getD j 0)), ?_⟩⟩
  rw [List.getD_eq_getElem?_getD, List.getElem?_map, List.getElem?_eq_getElem hj, getD_get hj]
  rfl
theorem fill_sorted {ts vs qs : List Int} (h : fillE ts vs qs = 0) : Sorted ts := by
  unfold fillE at h
  split at h
  · exact absurd h (by decide)
  · next h1 =>
    split at h
    · exact absurd h (by decide)
    · next h2 =>
      split at h
      · exact absurd h (by decide)
      · next h3 =>
        have a1 : sizedB ts.length vs.length = true := by
          cases e : sizedB ts.length vs.length with
          | true => rfl
          | false => exact absurd (Or.inl e) h1
        have a2 : (toB 1000000000 ts && toB 1000000000 qs && toB 4294967295 vs) = true := by
          cases e : (toB 1000000000 ts && toB 1000000000 qs && toB 4294967295 vs) with
          | true => rfl
          | false => exact absurd e h2
        have a3 : orderB ts vs = true := by
          cases e : orderB ts vs with
          | true => rfl
          | false => exact absurd e h3
        simp only [Bool.and_eq_true] at a2
        exact (known_ok a1 a2.1.1 a2.2 a3).sorted
set_option maxRecDepth 100000 in
set_option maxHeartbeats 4000000 in
theorem MeterFills_any (ts vs qs : List Int) (u v a : Value) (w : World) (hu : RowAt w u ts.length 1 (ints ts)) (hv : RowAt w v vs.length 1 (ints vs)) (ha : RowAt w a qs.length 1 (ints qs)) (hn : ts.length ≤ 2000000) (hm : vs.length ≤ 2000000) (hl : qs.length ≤ 2000000) : Calls Try.prog 5 #[u, v, a] w fun e w' => e = .returned (.bool true) ∧ Below w.heap.size w w' := by
  obtain ⟨out, hol, hal⟩ := fill_alike ts vs qs (fun h => fld_exists (fill_sorted h))
  have HAL := hide' hal
  have HU := hide' hu
  have HV := hide' hv
  have HA := hide' ha
  obtain ⟨ua, uc, rfl⟩ := rowAt_slice hu
  obtain ⟨va, vc, rfl⟩ := rowAt_slice hv
  obtain ⟨aa, ac, rfl⟩ := rowAt_slice ha
  clear hu hv ha hal
  obtain ⟨c, HC⟩ : ∃ c, Hid (c = fillE ts vs qs) := ⟨_, rfl⟩
  rw [← HC.out] at HAL
  clear HC
  go_enter Try.func5, Try.ntmps5
  go_wp2_with fail
  refine (copy_any ts _ w HU.out (by omega)).mono ?_
  rintro e w1 ⟨a1, c1, rfl, hr1, hb1⟩
  have H1 : Hid (RowAt w1 (.slice a1 ts.length c1) ts.length 1 (ints ts) ∧ Below w.heap.size w w1) := ⟨hr1, hb1⟩
  clear hr1 hb1
  go_wp2_with fail
  refine (copy_any vs _ w1 (HV.out.below H1.out.2 (Nat.le_refl _)) (by omega)).mono ?_
  rintro e w2 ⟨a2, c2, rfl, hr2, hb2⟩
  have H2 : Hid (RowAt w2 (.slice a1 ts.length c1) ts.length 1 (ints ts) ∧ RowAt w2 (.slice a2 vs.length c2) vs.length 1 (ints vs) ∧ Below w.heap.size w w2) := ⟨H1.out.1.below hb2 (Nat.le_refl _), hr2, H1.out.2.trans (hb2.mono H1.out.2.size)⟩
  clear hr2 hb2 H1
  go_wp2_with fail
  refine (copy_any qs _ w2 (HA.out.below H2.out.2.2 (Nat.le_refl _)) (by omega)).mono ?_
  rintro e w3 ⟨a3, c3, rfl, hr3, hb3⟩
  have HF3 := hide' (Fill_any ts vs qs _ _ _ w3 (H2.out.1.below hb3 (Nat.le_refl _)) (H2.out.2.1.below hb3 (Nat.le_refl _)) hr3 (by omega) (by omega) (by omega))
  have HB3 : Hid (Below w.heap.size w w3) := H2.out.2.2.trans (hb3.mono H2.out.2.2.size)
  clear hr3 hb3 H2
  go_wp2_with fail
  refine HF3.out.mono ?_
  rintro e w4 hf4
  obtain ⟨a4, k4, rfl, hr4, hb4⟩ := HAL.out _ _ _ hf4
  have H4 : Hid (RowAt w4 (.slice a4 out.length k4) out.length 1 (ints out) ∧ Below w.heap.size w w4) := ⟨hr4, HB3.out.trans (hb4.mono HB3.out.size)⟩
  clear hf4 hr4 hb4 HF3 HB3
  have HF4 := hide' (Filled_any ts vs qs _ _ _ w4 (HU.out.below H4.out.2 (Nat.le_refl _)) (HV.out.below H4.out.2 (Nat.le_refl _)) (HA.out.below H4.out.2 (Nat.le_refl _)) (by omega) (by omega) (by omega))
  clear HU HV HA
  go_wp2_with fail
  refine HF4.out.mono ?_
  rintro e w5 hf5
  obtain ⟨a5, k5, rfl, hr5, hb5⟩ := HAL.out _ _ _ hf5
  have HSI := hide' (sameInts_same out _ _ w5 (H4.out.1.below hb5 (Nat.le_refl _)) hr5 (by omega))
  have HB5 : Hid (Below w.heap.size w w5) := H4.out.2.trans (hb5.mono H4.out.2.size)
  clear hf5 hr5 hb5 HF4 H4 HAL
  go_wp2_with fail
  refine HSI.out.mono ?_
  rintro e w6 ⟨rfl, hb6⟩
  have HB6 : Hid (Below w.heap.size w w6) := HB5.out.trans (hb6.mono HB5.out.size)
  clear hb6 HSI HB5
  go_wp2
  go_ret
  exact ⟨rfl, HB6.out⟩
end Go.Proofs.Ytmbgjmkndhjilak
