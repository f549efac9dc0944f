/- ProtectClears. -/
import Derived.Test.YtpejnkngmnabfaiQa
import Derived.Test.YtpejnkngmnabfaiQ7
namespace Go.Proofs.Ytpejnkngmnabfai
open Go.RowKit Go.Shelf

set_option maxRecDepth 100000 in
set_option maxHeartbeats 2000000 in
theorem sameSides_same (l : List Bool) (n : Nat) (u v : Value) (w : World) (hu : RowAt w u n 1 (l.map Value.bool)) (hv : RowAt w v n 1 (l.map Value.bool)) (hn : n ≤ 1000) :
    Calls Try.prog 15 #[u, v] w fun e w' => e = .returned (.bool true) ∧ Below w.heap.size w w' := by
  have HU := hide' hu
  have HV := hide' hv
  obtain ⟨au, cu, rfl⟩ := rowAt_slice hu
  obtain ⟨av, cv, rfl⟩ := rowAt_slice hv
  clear hu hv
  go_enter Try.func15, Try.ntmps15
  go_wp2_with fail
  go_loopw [5] (fun i wr => ∃ (k : Nat), i = .int .i64 k ∧ k ≤ n ∧ Hid (Below w.heap.size w wr)) (fun i _ => n - (intOf i).toNat)
  case atStart => exact ⟨0, rfl, Nat.zero_le _, Below.refl _ w⟩
  case round =>
    obtain ⟨k, rfl, hk, HBE⟩ := hrel
    by_cases hlt : k < n
    · obtain ⟨b1, o1, c1, ex1, hc1⟩ := bool_cell2 HU.out k hlt
      cases ex1
      obtain ⟨b2, o2, c2, ex2, hc2⟩ := bool_cell2 HV.out k hlt
      cases ex2
      have e1 := up_cell HBE.out hc1
      have e2 := up_cell HBE.out hc2
      obtain ⟨x, hx⟩ : ∃ x, x = l.getD k false := ⟨_, rfl⟩
      rw [← hx] at e1 e2
      have HBD : Hid (∀ m, Below w.heap.size w (wr.drewN m)) := fun m => below_drewN HBE.out m
      clear hc1 hc2 hx HBE
      cases x
      all_goals
        go_wp2_with fail
        go_quiet (fail)
        go_wp2
        go_roundw
        case rel => exact ⟨k + 1, by go_num, by omega, HBD.out _⟩
        case measure => simp [intOf]; omega
    · go_wp2
      go_ret
      exact ⟨rfl, HBE.out⟩
set_option maxRecDepth 100000 in
set_option maxHeartbeats 2000000 in
theorem sides_any (l : List Bool) (v : Value) (w : World) (hr : RowAt w v l.length 1 (l.map Value.bool)) (hn : l.length ≤ 2000000) :
    Calls Try.prog 13 #[v] w fun e w' => ∃ v', e = .returned v' ∧ w'.ownsRow w.heap.size 4 1 v' l.length (l.map Value.bool) ∧ Below w.heap.size w w' := by
  obtain ⟨i4, hi4, h40, h41, h42⟩ := info_parts Try.info4
  have HR1 := hide' hr
  obtain ⟨a, cap, rfl⟩ := rowAt_slice hr
  clear hr
  go_enter Try.func13, Try.ntmps13
  go_wp2_with (at_builtin; refine wpList_append_any _ rfl _ _ 30 rfl w.heap.size 4 i4 _ 1 1 Try.underlying30 hi4 h40 h41 h42 rfl (by decide) _ _ _ rfl (World.ownsRow_nil _ _ _ _) _ _ _ rfl HR1.out (bools_one l) (by unfold maxLen; omega) (by omega) (Nat.le_refl _) ?_; intro v1 x1 hown1 hgrow1; refine Still.go ?_)
  unfold Still
  have HO : Hid (x1.ownsRow w.heap.size 4 1 v1 l.length (l.map Value.bool)) := by
    have h1 := hown1
    rw [Nat.zero_add, List.nil_append] at h1
    exact h1
  have HB : Hid (Below w.heap.size w x1) := (Below.refl _ w).grown hgrow1 (Nat.le_refl _) (fun k e => by cases e)
  obtain ⟨a1, c1, hv1⟩ := own_slice HO.out
  subst hv1
  clear hown1 hgrow1
  go_wp2
  go_ret
  exact ⟨_, rfl, HO.out, HB.out⟩
theorem cz_one (cz : List (Int × Int)) : ∀ u ∈ cz.flatMap cellsZ, u.oneCell' = true := fun u hu => by
  obtain ⟨c, _, hc⟩ := List.mem_flatMap.1 hu
  unfold cellsZ at hc
  simp only [List.mem_cons, List.not_mem_nil, or_false] at hc
  rcases hc with rfl | rfl <;> rfl
/-- The i-th of rows of rows. -/
theorem steps_row {W : World} {B L : Nat} {sa : Option Addr} {sc : Nat} {ls : List (List Int)} (h : StepsAt W B (.slice sa L sc) ls) (hl : ls.length = L) {i : Nat} (hi : i < L) : ∃ (eb eo : Nat) (xa : Option Addr) (xc : Nat), sa = some ⟨eb, eo, none⟩ ∧ W.cell? ⟨eb, eo + i, none⟩ = some (.slice xa (ls.getD i []).length xc) ∧ RowAt W (.slice xa (ls.getD i []).length xc) (ls.getD i []).length 1 (ints (ls.getD i [])) := by
  obtain ⟨vals, g1, g2, g3⟩ := h
  have hiv : i < vals.length := by omega
  have hli : ls[i]? = some (ls.getD i []) := by rw [List.getD_eq_getElem?_getD, List.getElem?_eq_getElem (by omega)]; rfl
  have hrow := g3 i vals[i] _ (List.getElem?_eq_getElem hiv) hli
  obtain ⟨xa, xc, hxv⟩ := own_slice hrow
  rw [hxv] at hrow
  obtain ⟨_, a', c', ex, hcell⟩ := rowAt_of_own g2
  simp only [Value.slice.injEq] at ex
  obtain ⟨eb, eo, e1, hc⟩ := hcell i vals[i] (List.getElem?_eq_getElem hiv)
  rw [hxv] at hc
  exact ⟨eb, eo, xa, xc, ex.1.trans e1, hc, rowAt_of_own hrow⟩
theorem StepsAt.below {W W' : World} {B B' : Nat} {sv : Value} {ls : List (List Int)} (h : StepsAt W B sv ls) (hb : Below B' W W') (hs : W.heap.size ≤ B') : StepsAt W' B sv ls := by
  obtain ⟨vals, g1, g2, g3⟩ := h
  exact ⟨vals, g1, own_below g2 hb hs, fun j x l hx hl => own_below (g3 j x l hx hl) hb hs⟩
set_option maxRecDepth 100000 in
set_option maxHeartbeats 4000000 in
theorem ProtectClears_any (P F : Int) (cz : List (Int × Int)) (st : List Bool) (v v2 : Value) (w : World) (hr : RowAt w v cz.length 2 (cz.flatMap cellsZ)) (hrs : RowAt w v2 st.length 1 (st.map Value.bool)) (hl : cz.length ≤ 1100000) (hls : st.length ≤ 1100000) :
    Calls Try.prog 4 #[.int .i64 P, v, .int .i64 F, v2] w fun e w' => e = .returned (.bool true) ∧ Below w.heap.size w w' := by
  obtain ⟨i42, hi42, h420, h421, h422⟩ := info_parts Try.info42
  have HR := hide' hr
  have HRS := hide' hrs
  obtain ⟨a, cap, rfl⟩ := rowAt_slice hr
  obtain ⟨b, capb, rfl⟩ := rowAt_slice hrs
  clear hr hrs
  go_enter Try.func4, Try.ntmps4
  go_wp2_with (at_builtin; refine wpList_append_any _ rfl _ _ 29 rfl w.heap.size 42 i42 _ 2 16 Try.underlying29 hi42 h420 h421 h422 rfl (by decide) _ _ _ rfl (World.ownsRow_nil _ _ _ _) _ _ _ rfl HR.out (cz_one cz) (by unfold maxLen; omega) (by omega) (Nat.le_refl _) ?_; intro v1 w1 hown1 hgrow1; refine Still.go ?_)
  unfold Still
  have HO1 : Hid (w1.ownsRow w.heap.size 42 2 v1 cz.length (cz.flatMap cellsZ)) := by
    have h1 := hown1
    rw [Nat.zero_add, List.nil_append] at h1
    exact h1
  have HB1 : Hid (Below w.heap.size w w1) := (Below.refl _ w).grown hgrow1 (Nat.le_refl _) (fun k e => by cases e)
  have HSD := hide' (sides_any st (.slice b st.length capb) w1 (HRS.out.below HB1.out (Nat.le_refl _)) (by omega))
  obtain ⟨a1, c1, hv1⟩ := own_slice HO1.out
  subst hv1
  clear hown1 hgrow1
  go_wp2_with fail
  refine HSD.out.mono ?_
  rintro e w2 ⟨v3, rfl, ho2, hb2⟩
  have HB2 : Hid (Below w.heap.size w w2) := HB1.out.trans (hb2.mono HB1.out.size)
  have HCL := hide' (Clear_any P cz F st (.slice a1 cz.length c1) v3 w2 (rowAt_of_own (own_below HO1.out hb2 (Nat.le_refl _))) (rowAt_of_own ho2) (by omega) (by omega))
  obtain ⟨a3, c3, hv3⟩ := own_slice ho2
  subst hv3
  clear ho2 hb2 HSD HO1 HB1
  go_wp2_with fail
  refine HCL.out.mono ?_
  intro e w3 hgo
  obtain ⟨hgo, hb3⟩ := hgo
  have HB3 : Hid (Below w.heap.size w w3) := HB2.out.trans (hb3.mono HB2.out.size)
  have HCOF : Hid (∀ L lv, (∀ (n f : Nat) (cs : List CutM), sizeB P cz st = true → rangeB P.toNat cz F = true → P = (n : Int) → F = (f : Int) → cz = cs.map castC → Lev n f cs st L L lv) → Calls Try.prog 14 #[.int .i64 P, .slice a cz.length cap, .int .i64 F, .slice b st.length capb] w3 (ClearOfO P cz F st L lv w3)) := fun L lv hG => ClearOf_any P cz F st _ _ w3 (HR.out.below HB3.out (Nat.le_refl _)) (HRS.out.below HB3.out (Nat.le_refl _)) (by omega) (by omega) L lv hG
  clear hb3 HCL HB2 HR HRS
  rcases hgo with ⟨hs, rfl⟩ | ⟨hs, hrg, rfl⟩ | ⟨hs, hrg, n, f, cs, L, lv, sv, D, cd, hP, hF, hcz, hn1, hn12, hfn, hpl, hc20, hsl, rfl, hlev, hst, hdk⟩
  · have HS := hide' hs
    have HRG : Hid (rangeB P.toNat cz F = rangeB P.toNat cz F) := rfl
    have HCO := hide' (HCOF.out 0 [] (fun n f cs h => by rw [HS.out] at h; cases h))
    clear hs HCOF
    go_wp2_with fail
    refine HCO.out.mono ?_
    intro e w4 hgo
    obtain ⟨hgo, hb4⟩ := hgo
    obtain rfl : e = .returned (.tuple #[.slice none 0 0, .slice none 0 0, .int .i64 2]) := by
      rcases hgo with ⟨h, h'⟩ | ⟨h, h2, h'⟩ | ⟨h, h2, _⟩
      · exact h'
      · rw [HS.out] at h; cases h
      · rw [HS.out] at h; cases h
    have HB4 : Hid (Below w.heap.size w w4) := HB3.out.trans (hb4.mono HB3.out.size)
    have HSN := hide' (sameSides_same [] 0 (.slice none 0 0) (.slice none 0 0) w4 (rowAt_of_own (World.ownsRow_nil w4 0 4 1)) (rowAt_of_own (World.ownsRow_nil w4 0 4 1)) (by decide))
    clear hgo hb4 HCO
    go_wp2_with fail
    refine HSN.out.mono ?_
    rintro e w5 ⟨rfl, hb5⟩
    have HB5 : Hid (Below w.heap.size w w5) := HB4.out.trans (hb5.mono HB4.out.size)
    clear hb5 HSN
    go_wp2_with fail
    go_loopw [15] (fun i wr => i = .int .i64 0 ∧ wr = w5) (fun _ _ => 0)
    case atStart => exact ⟨rfl, rfl⟩
    case round =>
      obtain ⟨rfl, hwr⟩ := hrel
      obtain rfl := hwr.symm
      go_wp2
      go_ret
      exact ⟨rfl, HB5.out⟩
  · have HS := hide' hs
    have HRG := hide' hrg
    have HCO := hide' (HCOF.out 0 [] (fun n f cs _ h => by rw [HRG.out] at h; cases h))
    clear hs hrg HCOF
    go_wp2_with fail
    refine HCO.out.mono ?_
    intro e w4 hgo
    obtain ⟨hgo, hb4⟩ := hgo
    obtain rfl : e = .returned (.tuple #[.slice none 0 0, .slice none 0 0, .int .i64 4]) := by
      rcases hgo with ⟨h, h'⟩ | ⟨h, h2, h'⟩ | ⟨h, h2, _⟩
      · rw [HS.out] at h; cases h
      · exact h'
      · rw [HRG.out] at h2; cases h2
    have HB4 : Hid (Below w.heap.size w w4) := HB3.out.trans (hb4.mono HB3.out.size)
    have HSN := hide' (sameSides_same [] 0 (.slice none 0 0) (.slice none 0 0) w4 (rowAt_of_own (World.ownsRow_nil w4 0 4 1)) (rowAt_of_own (World.ownsRow_nil w4 0 4 1)) (by decide))
    clear hgo hb4 HCO
    go_wp2_with fail
    refine HSN.out.mono ?_
    rintro e w5 ⟨rfl, hb5⟩
    have HB5 : Hid (Below w.heap.size w w5) := HB4.out.trans (hb5.mono HB4.out.size)
    clear hb5 HSN
    go_wp2_with fail
    go_loopw [15] (fun i wr => i = .int .i64 0 ∧ wr = w5) (fun _ _ => 0)
    case atStart => exact ⟨rfl, rfl⟩
    case round =>
      obtain ⟨rfl, hwr⟩ := hrel
      obtain rfl := hwr.symm
      go_wp2
      go_ret
      exact ⟨rfl, HB5.out⟩
  · have HS := hide' hs
    have HRG := hide' hrg
    have HLV := hide' hlev
    have HCO := hide' (HCOF.out L lv (fun n' f' cs' _ _ h1 h2 h3 => by
      obtain rfl : n = n' := by omega
      obtain rfl : f = f' := by omega
      obtain rfl := cast_inj (hcz.symm.trans h3)
      exact HLV.out))
    obtain ⟨vals, g1, g2, g3⟩ := hst
    obtain ⟨sa, sc, hsv⟩ := own_slice g2
    rw [steps_len] at hsv
    subst hsv
    have HST : Hid (StepsAt w3 w2.heap.size (.slice sa L sc) (stepsL lv cs st L)) := ⟨vals, g1, g2, g3⟩
    have HDK := hide' hdk
    have hLn := hlev.small
    have HCC : Hid (∀ (n' f' : Nat) (cs' : List CutM), P = (n' : Int) → F = (f' : Int) → cz = cs'.map castC → n' = n ∧ cs' = cs) := fun n' f' cs' h1 h2 h3 => ⟨by omega, cast_inj (h3.symm.trans hcz)⟩
    clear hs hrg hlev hdk g1 g2 g3 HCOF hcz hP hF hpl hsl
    go_wp2_with fail
    refine HCO.out.mono ?_
    intro e w4 hgo
    obtain ⟨hgo, hb4⟩ := hgo
    obtain ⟨SB, D2, rfl, hst2, hdk2⟩ : ∃ SB D2, e = .returned (.tuple #[.slice (some ⟨SB, 0, none⟩) L L, .slice (some ⟨D2, 0, none⟩) n n, .int .i64 0]) ∧ StepsAt w4 w3.heap.size (.slice (some ⟨SB, 0, none⟩) L L) (stepsL lv cs st L) ∧ w4.ownsRow w3.heap.size 4 1 (.slice (some ⟨D2, 0, none⟩) n n) n ((dkL n lv).map Value.bool) := by
      rcases hgo with ⟨h, _⟩ | ⟨_, h, _⟩ | ⟨_, _, n', f', cs', SB, D2, h1, h2, h3, he, h4, h5⟩
      · rw [HS.out] at h; cases h
      · rw [HRG.out] at h; cases h
      · obtain ⟨rfl, rfl⟩ := HCC.out n' f' cs' h1 h2 h3
        exact ⟨SB, D2, he, h4, h5⟩
    have HB4 : Hid (Below w.heap.size w w4) := HB3.out.trans (hb4.mono HB3.out.size)
    have HST4 := hide' (HST.out.below hb4 (Nat.le_refl _))
    have HST2 := hide' hst2
    have HSN := hide' (sameSides_same (dkL n lv) n _ _ w4 (rowAt_of_own (own_below HDK.out hb4 (Nat.le_refl _))) (rowAt_of_own hdk2) (by omega))
    clear hgo hb4 HCO hst2 hdk2 HST HDK HCC
    go_wp2_with fail
    refine HSN.out.mono ?_
    rintro e w5 ⟨rfl, hb5⟩
    have HB5 : Hid (Below w.heap.size w w5) := HB4.out.trans (hb5.mono HB4.out.size)
    have HSA := hide' (HST4.out.below hb5 (Nat.le_refl _))
    have HSB := hide' (HST2.out.below hb5 (Nat.le_refl _))
    clear hb5 HSN HB4 HST4 HST2
    go_wp2_with fail
    go_loopw [15] (fun iv wr => ∃ (i : Nat), iv = .int .i64 i ∧ i ≤ L ∧ Hid (Below w5.heap.size w5 wr)) (fun iv _ => L - (intOf iv).toNat)
    case atStart => exact ⟨0, rfl, Nat.zero_le _, Below.refl _ w5⟩
    case round =>
      obtain ⟨i, rfl, hi, HBI⟩ := hrel
      by_cases hiL : i < L
      · obtain ⟨eb, eo, xa, xc, he1, hc1, hr1⟩ := steps_row HSA.out (steps_len _ _ _ _) hiL
        obtain ⟨eb2, eo2, xa2, xc2, he2, hc2, hr2⟩ := steps_row HSB.out (steps_len _ _ _ _) hiL
        subst he1
        cases he2
        have d1 := up_cell HBI.out hc1
        have d2 := up_cell HBI.out hc2
        have hll : ((stepsL lv cs st L).getD i []).length ≤ 1000 := by
          have e1 : (stepsL lv cs st L).getD i [] = opL lv cs st (i + 1) cs.length := by unfold stepsL; rw [rmap_getD, if_pos hiL]
          rw [e1]
          have := op_len lv cs st (i + 1) cs.length
          omega
        have HCS := hide' (sameInts_same _ _ _ _ wr.drew ((hr1.below HBI.out (Nat.le_refl _)).below ((Below.refl _ wr).drew) (Nat.le_refl _)) ((hr2.below HBI.out (Nat.le_refl _)).below ((Below.refl _ wr).drew) (Nat.le_refl _)) hll)
        obtain ⟨ln, hln⟩ : ∃ z, z = ((stepsL lv cs st L).getD i []).length := ⟨_, rfl⟩
        rw [← hln] at d1 d2 HCS
        have HBD : Hid (Below w5.heap.size w5 wr.drew) := HBI.out.drew
        have HC1 := hide' hc1
        have HC2 := hide' hc2
        rw [← hln] at HC1 HC2
        rw [Nat.zero_add] at d2 HC2
        clear hc1 hc2 hr1 hr2 hll hln HBI
        go_wp2_with fail
        refine wp_region_tail (fun W => W.cell? ⟨eb, eo + i, none⟩ = some (.slice xa ln xc) ∧ W.cell? ⟨SB, i, none⟩ = some (.slice xa2 ln xc2)) 9 (by kernel_rfl) ?_
        refine wpAnyD_takeAt 0 (some 58) (v := ?_) rfl (by kernel_rfl) (by kernel_rfl) (by kernel_rfl) (by kernel_rfl) (by kernel_rfl) (fun _ _ _ h => h) (by exact ⟨d1, d2⟩) (fun o hop => ?_) ?_
        rotate_left
        · injection hop with hop
          subst hop
          refine ⟨rfl, fun W hW => ?_⟩
          obtain ⟨s0, s1⟩ := hW
          go_simp
          first
          | rfl
          | rw [if_neg (by omega)]
        try simp only [Act.put, List.setIfInBounds_toArray, List.set_cons_zero, List.set_cons_succ]
        refine wpAnyD_takeAt 1 (some 59) (v := ?_) rfl (by kernel_rfl) (by kernel_rfl) (by kernel_rfl) (by kernel_rfl) (by kernel_rfl) (fun _ _ _ h => h) (by exact ⟨d1, d2⟩) (fun o hop => ?_) ?_
        rotate_left
        · injection hop with hop
          subst hop
          refine ⟨rfl, fun W hW => ?_⟩
          obtain ⟨s0, s1⟩ := hW
          go_simp
          first
          | rfl
          | rw [if_neg (by omega)]
        try simp only [Act.put, List.setIfInBounds_toArray, List.set_cons_zero, List.set_cons_succ]
        refine wpAnyD_takeAt 2 (some 60) (v := ?_) rfl (by kernel_rfl) (by kernel_rfl) (by kernel_rfl) (by kernel_rfl) (by kernel_rfl) (fun _ _ _ h => h) (by exact ⟨d1, d2⟩) (fun o hop => ?_) ?_
        rotate_left
        · injection hop with hop
          subst hop
          refine ⟨rfl, fun W hW => ?_⟩
          obtain ⟨s0, s1⟩ := hW
          go_simp
          first
          | rfl
          | rw [if_neg (by omega)]
        try simp only [Act.put, List.setIfInBounds_toArray, List.set_cons_zero, List.set_cons_succ]
        refine wpAnyD_takeAt 3 (some 61) (v := ?_) rfl (by kernel_rfl) (by kernel_rfl) (by kernel_rfl) (by kernel_rfl) (by kernel_rfl) (fun _ _ _ h => h) (by exact ⟨d1, d2⟩) (fun o hop => ?_) ?_
        rotate_left
        · injection hop with hop
          subst hop
          refine ⟨rfl, fun W hW => ?_⟩
          obtain ⟨s0, s1⟩ := hW
          go_simp
          first
          | rfl
          | rw [if_neg (by omega)]
        try simp only [Act.put, List.setIfInBounds_toArray, List.set_cons_zero, List.set_cons_succ]
        refine wpAnyD_takeAt 4 (some 62) (v := ?_) rfl (by kernel_rfl) (by kernel_rfl) (by kernel_rfl) (by kernel_rfl) (by kernel_rfl) (fun _ _ _ h => h) (by exact ⟨d1, d2⟩) (fun o hop => ?_) ?_
        rotate_left
        · injection hop with hop
          subst hop
          refine ⟨rfl, fun W hW => ?_⟩
          obtain ⟨s0, s1⟩ := hW
          go_simp
          first
          | rfl
          | rw [if_neg (by omega)]
        try simp only [Act.put, List.setIfInBounds_toArray, List.set_cons_zero, List.set_cons_succ]
        refine wpAnyD_takeAt 5 (some 63) (v := ?_) rfl (by kernel_rfl) (by kernel_rfl) (by kernel_rfl) (by kernel_rfl) (by kernel_rfl) (fun _ _ _ h => h) (by exact ⟨d1, d2⟩) (fun o hop => ?_) ?_
        rotate_left
        · injection hop with hop
          subst hop
          refine ⟨rfl, fun W hW => ?_⟩
          obtain ⟨s0, s1⟩ := hW
          go_simp
          first
          | rfl
          | rw [if_neg (by omega)]
        try simp only [Act.put, List.setIfInBounds_toArray, List.set_cons_zero, List.set_cons_succ]
        refine wpAnyD_takeAt 6 (some 64) (v := ?_) rfl (by kernel_rfl) (by kernel_rfl) (by kernel_rfl) (by kernel_rfl) (by kernel_rfl) (fun _ _ _ h => h) (by exact ⟨d1, d2⟩) (fun o hop => ?_) ?_
        rotate_left
        · injection hop with hop
          subst hop
          refine ⟨rfl, fun W hW => ?_⟩
          obtain ⟨s0, s1⟩ := hW
          go_simp
          first
          | rfl
          | rw [if_neg (by omega)]
        try simp only [Act.put, List.setIfInBounds_toArray, List.set_cons_zero, List.set_cons_succ]
        refine wpAnyD_takeAt 7 (some 65) (v := ?_) rfl (by kernel_rfl) (by kernel_rfl) (by kernel_rfl) (by kernel_rfl) (by kernel_rfl) (fun _ _ _ h => h) (by exact ⟨d1, d2⟩) (fun o hop => ?_) ?_
        rotate_left
        · injection hop with hop
          subst hop
          refine ⟨rfl, fun W hW => ?_⟩
          obtain ⟨s0, s1⟩ := hW
          go_simp
          first
          | rfl
          | rw [if_neg (by omega)]
        try simp only [Act.put, List.setIfInBounds_toArray, List.set_cons_zero, List.set_cons_succ]
        refine wpAnyT_one (i := 8) (by kernel_rfl) rfl rfl (fun K' hK => ?_)
        go_simp
        go_at_call 11
        refine HCS.out.mono ?_
        rintro e w6 ⟨rfl, hb6⟩
        have HB6 : Hid (Below w5.heap.size w5 w6) := HBD.out.trans (hb6.mono HBD.out.size)
        have q1 := up_cell HB6.out HC1.out
        have q2 := up_cell HB6.out HC2.out
        refine hK.out _ _ (fun _ => by exact ⟨q1, q2⟩) ?_
        clear hK K' hb6 d1 d2
        refine wpAnyT_one (i := 9) (by kernel_rfl) rfl rfl (fun K' hK => ?_)
        go_simp
        refine hK.out _ _ (fun h => absurd rfl h) ?_
        clear hK K'
        refine wpAnyT_done (by kernel_rfl) ?_ _
        go_wp2
        go_roundw
        case rel => exact ⟨i + 1, by go_num, by omega, HB6⟩
        case measure => simp [intOf]; omega
      · have HE : Hid (Below w.heap.size w wr) := HB5.out.trans (HBI.out.mono HB5.out.size)
        go_wp2
        go_ret
        exact ⟨rfl, HE.out⟩
end Go.Proofs.Ytpejnkngmnabfai
