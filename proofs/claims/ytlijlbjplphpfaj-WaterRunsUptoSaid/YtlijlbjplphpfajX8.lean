/- The document's Run. -/
import Derived.Test.YtlijlbjplphpfajX7
namespace Go.Proofs.Ytlijlbjplphpfaj
open Go.RowKit Go.Shelf

set_option maxRecDepth 100000 in
set_option maxHeartbeats 8000000 in
theorem WaterRun_any (ls : List LakeM) (ti tr : List (List Int)) (al ai ar : Option Addr) (cl ci cr : Nat) (w : World) (hx : RowAt w (.slice al ls.length cl) ls.length 5 (ls.flatMap LakeM.cells)) (hti : TabAt w (.slice ai ti.length ci) ti) (htr : TabAt w (.slice ar tr.length cr) tr) (b1 : ls.length ≤ 2000000) (b2 : ti.length ≤ 2000000) (b3 : tr.length ≤ 2000000) :
    Calls Try.prog 25 #[.slice al ls.length cl, .slice ai ti.length ci, .slice ar tr.length cr] w (RunF ls ti tr w) := by
  obtain ⟨i3, hi3, h30, h31, h32⟩ := info_parts Try.info3'
  obtain ⟨i39, hi39, h390, h391, h392⟩ := info_parts Try.info39'
  obtain ⟨PO, hPO⟩ : ∃ P, P = RunF ls ti tr w := ⟨_, rfl⟩
  rw [← hPO]
  have HPO : Hid (∀ e w', RunF ls ti tr w e w' → PO e w') := fun e w' h => by rw [hPO]; exact h
  have HWM := hide' (waterMay_any ls ti al ai cl ci w hx hti (by omega) (by omega))
  have HRA : Hid (∀ W, Below w.heap.size w W → Calls Try.prog 42 #[.slice ar tr.length cr, .int .i64 (ti.length : Int), .int .i64 (ls.length : Int)] W fun e w' => e = .returned (.bool (rowsB tr ti.length ls.length)) ∧ w' = W) := fun W hb => rowsAre_any tr ti.length ls.length _ W (htr.below hb (Nat.le_refl _)) (by omega) (by omega)
  have HX := hide' hx
  have HTI := hide' hti
  have HTR := hide' htr
  have HM2 : Hid (sizedB ls.length ti = false → mayE ls ti = 2) := fun h => by unfold mayE; rw [if_pos h]
  have HM14 : Hid (sizedB ls.length ti = true → ls.all lakeB = false → mayE ls ti = 14) := fun h h2 => by unfold mayE; rw [if_neg (by rw [h]; decide), if_pos h2]
  have HM4 : Hid (sizedB ls.length ti = true → ls.all lakeB = true → comeB ti = false → mayE ls ti = 4) := fun h h2 h3 => by unfold mayE; rw [if_neg (by rw [h]; decide), if_neg (by rw [h2]; decide), if_pos h3]
  have HM0 : Hid (sizedB ls.length ti = true → ls.all lakeB = true → comeB ti = true → mayE ls ti = 0) := fun h h2 h3 => by unfold mayE; rw [if_neg (by rw [h]; decide), if_neg (by rw [h2]; decide), if_neg (by rw [h3]; decide)]
  have HZN : Hid (sizedB ls.length ti = false → sizeOk ls.length ti tr = false) := doc_size_no
  have HZY : Hid (sizedB ls.length ti = true → sizeOk ls.length ti tr = rowsB tr ti.length ls.length) := doc_size
  have HE2 : Hid (sizeOk ls.length ti tr = false → ∀ W, Below w.heap.size w W → PO (.returned (.tuple #[.slice none 0 0, .slice none 0 0, .int .i64 2])) W) := fun h W hb => HPO.out _ _ ⟨.inl ⟨h, rfl⟩, hb⟩
  have HE14 : Hid (sizeOk ls.length ti tr = true → ls.all lakeB = false → ∀ W, Below w.heap.size w W → PO (.returned (.tuple #[.slice none 0 0, .slice none 0 0, .int .i64 14])) W) := fun h h3 W hb => HPO.out _ _ ⟨.inr (.inl ⟨h, h3, rfl⟩), hb⟩
  have HE4 : Hid (sizeOk ls.length ti tr = true → ls.all lakeB = true → comeB ti = false → ∀ W, Below w.heap.size w W → PO (.returned (.tuple #[.slice none 0 0, .slice none 0 0, .int .i64 4])) W) := fun h h3 h4 W hb => HPO.out _ _ ⟨.inr (.inr (.inl ⟨h, h3, h4, rfl⟩)), hb⟩
  obtain ⟨L, hL⟩ : ∃ x, x = ls.length := ⟨_, rfl⟩
  obtain ⟨H, hH⟩ : ∃ x, x = ti.length := ⟨_, rfl⟩
  obtain ⟨J, hJ⟩ : ∃ x, x = tr.length := ⟨_, rfl⟩
  rw [← hL, ← hH] at HWM
  rw [← hL, ← hH, ← hJ] at HRA
  rw [← hL, ← hH, ← hJ]
  rw [← hL] at HM2 HM14 HM4 HM0 HZN HE2 HE14 HE4 b1
  rw [← hL, ← hH] at HZY
  rw [← hH] at b2
  rw [← hJ] at b3
  have HLN : Hid (ls.length = L ∧ ti.length = H ∧ tr.length = J) := ⟨hL.symm, hH.symm, hJ.symm⟩
  clear hL hH hJ hPO hx hti htr
  obtain ⟨E, hE⟩ : ∃ x, x = mayE ls ti := ⟨_, rfl⟩
  rw [← hE] at HWM HM2 HM14 HM4 HM0
  clear hE
  go_enter Try.func25, Try.ntmps25
  cases e1 : sizedB L ti with
  | false =>
    obtain rfl := HM2.out e1
    have HF := hide' (HE2.out (HZN.out e1))
    clear HM2 HM14 HM4 HM0 HZN HZY HE2 HE14 HE4 HRA e1
    go_wp2_with fail
    refine HWM.out.mono ?_
    rintro e w1 ⟨rfl, hb1⟩
    have HFF := hide' (HF.out w1 hb1)
    clear hb1
    go_wp2_with fail
    go_ret3
    exact HFF.out
  | true =>
    have HZ := hide' (HZY.out e1)
    obtain ⟨q2, hq2⟩ : ∃ x, x = rowsB tr H L := ⟨_, rfl⟩
    rw [← hq2] at HRA HZ
    clear hq2 HM2 HZN HZY
    cases e3 : ls.all lakeB with
    | false =>
      obtain rfl := HM14.out e1 e3
      clear HM14 HM4 HM0 e1
      go_wp2_with fail
      refine HWM.out.mono ?_
      rintro e w1 ⟨rfl, hb1⟩
      have HB1 := hide' hb1
      clear hb1
      go_wp2_with fail
      refine (HRA.out w1 HB1.out).mono ?_
      rintro e z ⟨rfl, hz⟩
      obtain rfl := hz.symm
      clear hz
      cases q2 with
      | false =>
        have HFF := hide' (HE2.out HZ.out w1 HB1.out)
        go_wp2_with fail
        go_ret3
        exact HFF.out
      | true =>
        have HFF := hide' (HE14.out HZ.out e3 w1 HB1.out)
        go_wp2_with fail
        go_ret3
        exact HFF.out
    | true =>
      cases e4 : comeB ti with
      | false =>
        obtain rfl := HM4.out e1 e3 e4
        clear HM14 HM4 HM0 e1
        go_wp2_with fail
        refine HWM.out.mono ?_
        rintro e w1 ⟨rfl, hb1⟩
        have HB1 := hide' hb1
        clear hb1
        go_wp2_with fail
        refine (HRA.out w1 HB1.out).mono ?_
        rintro e z ⟨rfl, hz⟩
        obtain rfl := hz.symm
        clear hz
        cases q2 with
        | false =>
          have HFF := hide' (HE2.out HZ.out w1 HB1.out)
          go_wp2_with fail
          go_ret3
          exact HFF.out
        | true =>
          have HFF := hide' (HE4.out HZ.out e3 e4 w1 HB1.out)
          go_wp2_with fail
          go_ret3
          exact HFF.out
      | true =>
        obtain rfl := HM0.out e1 e3 e4
        have HS1 := hide' (sized_iff.1 e1)
        have HALL := hide' (And.intro e3 e4)
        clear HM14 HM4 HM0 e1 e3 e4 HE14 HE4
        go_wp2_with fail
        refine HWM.out.mono ?_
        rintro e w1 ⟨rfl, hb1⟩
        have HB1 := hide' hb1
        clear hb1 HWM
        go_wp2_with fail
        refine (HRA.out w1 HB1.out).mono ?_
        rintro e z ⟨rfl, hz⟩
        obtain rfl := hz.symm
        clear hz HRA
        cases q2 with
        | false =>
          have HFF := hide' (HE2.out HZ.out w1 HB1.out)
          go_wp2_with fail
          go_ret3
          exact HFF.out
        | true =>
          have hL2 : L ≤ 2 := HS1.out.1
          have HSO : Hid (∀ W, Below w.heap.size w W → Calls Try.prog 43 #[.slice al L cl] W fun e w' => ∃ v', e = .returned v' ∧ w'.ownsRow W.heap.size 3 1 v' L (ints (listOf (startS ls L).l0 (startS ls L).l1 L)) ∧ Below W.heap.size W w') := fun W hb => by
            have h := startsOf_any ls (.slice al ls.length cl) W (HX.out.below hb (Nat.le_refl _)) (by rw [HLN.out.1]; exact b1)
            rw [HLN.out.1, doc_starts HLN.out.1 hL2] at h
            exact h
          go_upto_region 6 with fail
          go_cut [10, 11] from 36 to 40 (fun p x wc => ∃ (a1 a2 : Option Addr) (c1 c2 : Nat), p = .slice a1 L c1 ∧ x = .slice a2 L c2 ∧ Hid (wc.ownsRow w.heap.size 3 1 (.slice a1 L c1) L (ints (listOf (startS ls L).l0 (startS ls L).l1 L)) ∧ wc.ownsRow w.heap.size 3 1 (.slice a2 L c2) L (ints (listOf 0 0 L)) ∧ Below w.heap.size w wc))
          case first =>
            refine wp_region_tail (fun _ => True) 6 (by kernel_rfl) ?_
            refine wpAnyT_letter (fun W => Below w.heap.size w W) HB1.out.drew ?_
            rintro z hbz
            refine wpAnyD_takeAt 0 (some 36) (v := ?_) rfl (by kernel_rfl) (by kernel_rfl) (by kernel_rfl) (by kernel_rfl) (by kernel_rfl) (fun _ _ _ h => h) (by exact trivial) (fun o hop => ?_) ?_
            rotate_left
            · injection hop with hop
              subst hop
              refine ⟨rfl, fun W hW => ?_⟩
              clear hW
              go_simp
              first
              | rfl
              | (constructor <;> rfl)
              | rw [if_neg (by omega)]
            try simp only [Act.put, List.setIfInBounds_toArray, List.set_cons_zero, List.set_cons_succ]
            refine wpAnyD_takeAt 2 (some 38) (v := ?_) rfl (by kernel_rfl) (by kernel_rfl) (by kernel_rfl) (by kernel_rfl) (by kernel_rfl) (fun _ _ _ h => h) (by exact trivial) (fun o hop => ?_) ?_
            rotate_left
            · injection hop with hop
              subst hop
              refine ⟨rfl, fun W hW => ?_⟩
              clear hW
              go_simp
              first
              | rfl
              | (constructor <;> rfl)
              | rw [if_neg (by omega)]
            try simp only [Act.put, List.setIfInBounds_toArray, List.set_cons_zero, List.set_cons_succ]
            refine wpAnyD_takeAt 3 (some 39) (v := ?_) rfl (by kernel_rfl) (by kernel_rfl) (by kernel_rfl) (by kernel_rfl) (by kernel_rfl) (fun _ _ _ h => h) (by exact trivial) (fun o hop => ?_) ?_
            rotate_left
            · injection hop with hop
              subst hop
              refine ⟨rfl, fun W hW => ?_⟩
              clear hW
              go_simp
              first
              | rfl
              | (constructor <;> rfl)
              | rw [if_neg (by omega)]
            try simp only [Act.put, List.setIfInBounds_toArray, List.set_cons_zero, List.set_cons_succ]
            refine wpAnyT_two (i := 1) (j := 4) (by kernel_rfl) rfl rfl rfl rfl (fun K' hK => ?_) (fun K' hK => ?_)
            · go_simp
              go_at_call 43
              refine (HSO.out z hbz).mono ?_
              rintro e z2 ⟨sv, rfl, hsv, hb2⟩
              replace hsv := own_mono hsv hbz.size
              obtain ⟨sa, sc, hse⟩ := own_slice hsv
              subst hse
              replace hbz := hbz.trans (hb2.mono hbz.size)
              clear hb2
              refine hK.out _ _ (fun _ => trivial) ?_
              clear hK K'
              refine wpAnyD_takeAt 5 (some 10) (v := ?_) rfl (by kernel_rfl) (by kernel_rfl) (by kernel_rfl) (by kernel_rfl) (by kernel_rfl) (fun _ _ _ h => h) (by exact trivial) (fun o hop => ?_) ?_
              rotate_left
              · injection hop with hop
                subst hop
                refine ⟨rfl, fun W hW => ?_⟩
                clear hW
                go_simp
                first
                | rfl
                | (constructor <;> rfl)
                | rw [if_neg (by omega)]
              try simp only [Act.put, List.setIfInBounds_toArray, List.set_cons_zero, List.set_cons_succ]
              refine wpAnyT_one (i := 4) (by kernel_rfl) rfl rfl (fun K' hK => ?_)
              refine step_make_full rfl _ _ 39 rfl w.heap.size 3 i3 (.int .i64 0) 1 Try.underlying39 hi3 h30 h31 .i64 .i64 _ _ L rfl rfl rfl rfl (by rw [h32]; omega) (by unfold maxLen; omega) hbz.size ?_
              intro z3 hmk hgr
              rw [made_int, zeros_list L hL2] at hmk
              have hbm : Below z2.heap.size z2 z3 := (Below.refl _ z2).grown hgr (Nat.le_refl _) (fun k e => by cases e)
              replace hsv := own_below hsv hbm (Nat.le_refl _)
              replace hbz := hbz.trans (hbm.mono hbz.size)
              clear hbm hgr
              refine hK.out _ _ (fun _ => trivial) ?_
              clear hK K'
              simp only [Act.put, List.setIfInBounds_toArray]
              have HFIN := hide' (And.intro hsv (And.intro hmk hbz))
              clear hsv hmk hbz
              refine wpAnyT_one (i := 6) (by kernel_rfl) rfl rfl (fun K' hK => ?_)
              go_simp
              refine hK.out _ _ (fun h => absurd rfl h) ?_
              clear hK K'
              refine wpAnyT_done (by kernel_rfl) ?_ _
              go_wp2_with fail
              go_meet
              case rel => exact ⟨_, _, _, _, rfl, rfl, HFIN⟩
            · refine step_make_full rfl _ _ 39 rfl w.heap.size 3 i3 (.int .i64 0) 1 Try.underlying39 hi3 h30 h31 .i64 .i64 _ _ L rfl rfl rfl rfl (by rw [h32]; omega) (by unfold maxLen; omega) hbz.size ?_
              intro z2 hmk hgr
              rw [made_int, zeros_list L hL2] at hmk
              have hbm : Below z.heap.size z z2 := (Below.refl _ z).grown hgr (Nat.le_refl _) (fun k e => by cases e)
              replace hbz := hbz.trans (hbm.mono hbz.size)
              clear hbm hgr
              refine hK.out _ _ (fun _ => trivial) ?_
              clear hK K'
              simp only [Act.put, List.setIfInBounds_toArray]
              refine wpAnyT_one (i := 1) (by kernel_rfl) rfl rfl (fun K' hK => ?_)
              go_simp
              go_at_call 43
              refine (HSO.out z2 hbz).mono ?_
              rintro e z3 ⟨sv, rfl, hsv, hb2⟩
              replace hmk := own_below hmk hb2 (Nat.le_refl _)
              replace hsv := own_mono hsv hbz.size
              obtain ⟨sa, sc, hse⟩ := own_slice hsv
              subst hse
              replace hbz := hbz.trans (hb2.mono hbz.size)
              clear hb2
              refine hK.out _ _ (fun _ => trivial) ?_
              clear hK K'
              have HFIN := hide' (And.intro hsv (And.intro hmk hbz))
              clear hsv hmk hbz
              refine wpAnyT_one (i := 5) (by kernel_rfl) rfl rfl (fun K' hK => ?_)
              go_simp
              refine hK.out _ _ (fun _ => trivial) ?_
              clear hK K'
              refine wpAnyT_one (i := 6) (by kernel_rfl) rfl rfl (fun K' hK => ?_)
              go_simp
              refine hK.out _ _ (fun h => absurd rfl h) ?_
              clear hK K'
              refine wpAnyT_done (by kernel_rfl) ?_ _
              go_wp2_with fail
              go_meet
              case rel => exact ⟨_, _, _, _, rfl, rfl, HFIN⟩
          case rest =>
            obtain ⟨a1, a2, c1, c2, rfl, rfl, HC⟩ := hcut
            have HOKL : Hid (∀ k ∈ ls, LakeOk k) := fun k hk => lakeB_iff.1 (List.all_eq_true.1 HALL.out.1 k hk)
            have HCOM : Hid (∀ l ∈ ti, ∀ x ∈ l, 0 ≤ x ∧ x ≤ 10) := come_iff.1 HALL.out.2
            have HTRL : Hid (J = H ∧ ∀ l ∈ tr, l.length = L) := by
              have h := HZ.out
              unfold sizeOk at h
              simp only [Bool.and_eq_true, decide_eq_true_eq] at h
              exact ⟨by rw [← HLN.out.2.1, ← HLN.out.2.2]; exact h.2, (sized_iff.1 h.1.2).2.2⟩
            have HH8 : Hid (H ≤ 8) := by rw [← HLN.out.2.1]; exact HS1.out.2.1
            have HRES : Hid (∀ e W, ((runK ls L ti tr H = none ∧ e = .returned (.tuple #[.slice none 0 0, .slice none 0 0, .int .i64 15])) ∨ ∃ r v1 v2, runK ls L ti tr H = some r ∧ e = .returned (.tuple #[v1, v2, .int .i64 0]) ∧ StepsAt W w.heap.size v1 r.lv ∧ StepsAt W w.heap.size v2 r.sp) → Below w.heap.size w W → PO e W) := fun e W h hb => HPO.out _ _ ⟨.inr (.inr (.inr ⟨by rw [HLN.out.1]; exact HZ.out, HALL.out.1, HALL.out.2, by rw [HLN.out.1, HLN.out.2.1]; exact h⟩)), hb⟩
            clear HSO HB1 HPO HE2 HZ
            have hJH := HTRL.out.1
            subst hJH
            go_wp2_with fail
            go_loopw [10, 11, 12, 13, 14] (fun lev com lv sp iv wr => ∃ (k : Nat) (r : RunR) (a1 a2 : Option Addr) (c1 c2 : Nat), lev = .slice a1 L c1 ∧ com = .slice a2 L c2 ∧ iv = .int .i64 k ∧ k ≤ J ∧ Hid (runK ls L ti tr k = some r ∧ Good ls L r.s) ∧ Hid (wr.ownsRow w.heap.size 3 1 (.slice a1 L c1) L (ints (listOf r.s.l0 r.s.l1 L)) ∧ wr.ownsRow w.heap.size 3 1 (.slice a2 L c2) L (ints (listOf r.s.u0 r.s.u1 L)) ∧ RT w wr lv sp r.lv r.sp)) (fun _ _ _ _ iv _ => J - (intOf iv).toNat)
            case atStart => exact ⟨0, ⟨startS ls L, [], []⟩, a1, a2, c1, c2, rfl, rfl, rfl, Nat.zero_le _, ⟨rfl, good_start HOKL.out HLN.out.1⟩, HC.out.1, HC.out.2.1, StepsAt.nil _ _, StepsAt.nil _ _, fun k hk => (by cases hk), HC.out.2.2⟩
            case round =>
              obtain ⟨k, r, a1, a2, c1, c2, rfl, rfl, rfl, hk, HR, HRW⟩ := hrel
              have HBW : Hid (Below w.heap.size w wr) := HRW.out.2.2.bel
              by_cases hlt : k < J
              · have hki : k < ti.length := by rw [HLN.out.2.1]; exact hlt
                have hkr : k < tr.length := by rw [HLN.out.2.2]; exact hlt
                obtain ⟨ib, io, ic, x3, y3, ex3, hci, hri⟩ := HTI.out.cell k hki
                obtain ⟨rb, ro, rc, x4, y4, ex4, hcr, hrr⟩ := HTR.out.cell k hkr
                simp only [Value.slice.injEq] at ex3 ex4
                obtain ⟨rfl, n3, rfl⟩ := ex3
                obtain ⟨rfl, n4, rfl⟩ := ex4
                have hl3 := HS1.out.2.2 _ (List.getElem_mem hki)
                have hl4 := HTRL.out.2 _ (List.getElem_mem hkr)
                rw [hl3] at hci hri
                rw [hl4] at hcr hrr
                have qi := hide' (up_cell HBW.out hci)
                have qr := hide' (up_cell HBW.out hcr)
                have HLK : Hid (r.lv.length ≤ 8 ∧ r.sp.length ≤ 8) := by have h := run_len HR.out.1; have := HH8.out; show _ ∧ _; omega
                have HT := hide' HRW.out.2.2
                have HGI : Hid (ti.getD k [] = ti[k] ∧ tr.getD k [] = tr[k]) := ⟨getD_at hki, getD_at hkr⟩
                have HIB : Hid (∀ i, i < L → 0 ≤ (ti[k]).getD i 0 ∧ (ti[k]).getD i 0 ≤ 10) := fun i hi => HCOM.out _ (List.getElem_mem hki) _ (by rw [List.getD_eq_getElem?_getD, List.getElem?_eq_getElem (by omega)]; exact List.getElem_mem _)
                have HWH : Hid (∀ W, Below wr.heap.size wr W → Calls Try.prog 44 #[.slice al L cl, .slice a1 L c1, .slice a2 L c2, .slice x3 L y3, .slice x4 L y4] W (HourO ls L r.s ti[k] tr[k] W)) := fun W hb => by
                  have hbw := HBW.out.trans (hb.mono HBW.out.size)
                  exact waterHour_any ls HOKL.out r.s ti[k] tr[k] L HLN.out.1 hL2 HR.out.2 HIB.out hl3 hl4 al a1 a2 x3 x4 cl c1 c2 y3 y4 W (by have h := HX.out.below hbw (Nat.le_refl _); rw [HLN.out.1] at h; rw [HLN.out.1]; exact h) ((rowAt_of_own HRW.out.1).below hb (Nat.le_refl _)) ((rowAt_of_own HRW.out.2.1).below hb (Nat.le_refl _)) (hri.below hbw (Nat.le_refl _)) (hrr.below hbw (Nat.le_refl _))
                have HSH : Hid (hourOk ls L r.s ti[k] tr[k] = false → ∀ W, Below w.heap.size w W → PO (.returned (.tuple #[.slice none 0 0, .slice none 0 0, .int .i64 15])) W) := fun h W hb => HRES.out _ W (.inl ⟨run_shut HR.out.1 hlt (by rw [HGI.out.1, HGI.out.2]; exact h), rfl⟩) hb
                have HNEXT : Hid (hourOk ls L r.s ti[k] tr[k] = true → runK ls L ti tr (k + 1) = some ⟨hourS ls L r.s ti[k] tr[k], r.lv ++ [listOf (hourS ls L r.s ti[k] tr[k]).l0 (hourS ls L r.s ti[k] tr[k]).l1 L], r.sp ++ [listOf (hourV ls L r.s ti[k] tr[k]).a (hourV ls L r.s ti[k] tr[k]).b L]⟩ ∧ Good ls L (hourS ls L r.s ti[k] tr[k])) := fun h => by
                  have h1 := run_next HR.out.1 (by rw [HGI.out.1, HGI.out.2]; exact h)
                  rw [HGI.out.1, HGI.out.2] at h1
                  exact ⟨h1, good_hour HOKL.out HLN.out.1 hL2 HIB.out HR.out.2 h⟩
                have HSZ2 : Hid (∀ W, Below wr.heap.size wr W → w.heap.size ≤ W.heap.size) := fun W hb => Nat.le_trans HBW.out.size hb.size
                clear n3 n4 hci hcr hri hrr hl3 hl4
                go_upto_region 11 with fail
                refine wp_region_tail (fun W => W.cell? ⟨ib, io + k, none⟩ = some (.slice x3 L y3) ∧ W.cell? ⟨rb, ro + k, none⟩ = some (.slice x4 L y4)) 20 (by kernel_rfl) ?_
                refine wpAnyT_letter (fun W => Below wr.heap.size wr W) (Below.refl _ wr).drew ?_
                rintro z hbz
                refine wpAnyD_takeAt 0 (some 48) (v := ?_) rfl (by kernel_rfl) (by kernel_rfl) (by kernel_rfl) (by kernel_rfl) (by kernel_rfl) (fun _ _ _ h => h) (by exact ⟨up_cell hbz qi.out, up_cell hbz qr.out⟩) (fun o hop => ?_) ?_
                rotate_left
                · injection hop with hop
                  subst hop
                  refine ⟨rfl, fun W hW => ?_⟩
                  obtain ⟨s0, s1⟩ := hW
                  go_simp
                  first
                  | rfl
                  | (constructor <;> rfl)
                  | rw [if_neg (by omega)]
                try simp only [Act.put, List.setIfInBounds_toArray, List.set_cons_zero, List.set_cons_succ]
                refine wpAnyD_takeAt 1 (some 49) (v := ?_) rfl (by kernel_rfl) (by kernel_rfl) (by kernel_rfl) (by kernel_rfl) (by kernel_rfl) (fun _ _ _ h => h) (by exact ⟨up_cell hbz qi.out, up_cell hbz qr.out⟩) (fun o hop => ?_) ?_
                rotate_left
                · injection hop with hop
                  subst hop
                  refine ⟨rfl, fun W hW => ?_⟩
                  obtain ⟨s0, s1⟩ := hW
                  go_simp
                  first
                  | rfl
                  | (constructor <;> rfl)
                  | rw [if_neg (by omega)]
                try simp only [Act.put, List.setIfInBounds_toArray, List.set_cons_zero, List.set_cons_succ]
                refine wpAnyD_takeAt 2 (some 50) (v := ?_) rfl (by kernel_rfl) (by kernel_rfl) (by kernel_rfl) (by kernel_rfl) (by kernel_rfl) (fun _ _ _ h => h) (by exact ⟨up_cell hbz qi.out, up_cell hbz qr.out⟩) (fun o hop => ?_) ?_
                rotate_left
                · injection hop with hop
                  subst hop
                  refine ⟨rfl, fun W hW => ?_⟩
                  obtain ⟨s0, s1⟩ := hW
                  go_simp
                  first
                  | rfl
                  | (constructor <;> rfl)
                  | rw [if_neg (by omega)]
                try simp only [Act.put, List.setIfInBounds_toArray, List.set_cons_zero, List.set_cons_succ]
                refine wpAnyD_takeAt 3 (some 51) (v := ?_) rfl (by kernel_rfl) (by kernel_rfl) (by kernel_rfl) (by kernel_rfl) (by kernel_rfl) (fun _ _ _ h => h) (by exact ⟨up_cell hbz qi.out, up_cell hbz qr.out⟩) (fun o hop => ?_) ?_
                rotate_left
                · injection hop with hop
                  subst hop
                  refine ⟨rfl, fun W hW => ?_⟩
                  obtain ⟨s0, s1⟩ := hW
                  go_simp
                  first
                  | rfl
                  | (constructor <;> rfl)
                  | rw [if_neg (by omega)]
                try simp only [Act.put, List.setIfInBounds_toArray, List.set_cons_zero, List.set_cons_succ]
                refine wpAnyD_takeAt 4 (some 52) (v := ?_) rfl (by kernel_rfl) (by kernel_rfl) (by kernel_rfl) (by kernel_rfl) (by kernel_rfl) (fun _ _ _ h => h) (by exact ⟨up_cell hbz qi.out, up_cell hbz qr.out⟩) (fun o hop => ?_) ?_
                rotate_left
                · injection hop with hop
                  subst hop
                  refine ⟨rfl, fun W hW => ?_⟩
                  obtain ⟨s0, s1⟩ := hW
                  go_simp
                  first
                  | rfl
                  | (constructor <;> rfl)
                  | rw [if_neg (by omega)]
                try simp only [Act.put, List.setIfInBounds_toArray, List.set_cons_zero, List.set_cons_succ]
                refine wpAnyD_takeAt 5 (some 53) (v := ?_) rfl (by kernel_rfl) (by kernel_rfl) (by kernel_rfl) (by kernel_rfl) (by kernel_rfl) (fun _ _ _ h => h) (by exact ⟨up_cell hbz qi.out, up_cell hbz qr.out⟩) (fun o hop => ?_) ?_
                rotate_left
                · injection hop with hop
                  subst hop
                  refine ⟨rfl, fun W hW => ?_⟩
                  obtain ⟨s0, s1⟩ := hW
                  go_simp
                  first
                  | rfl
                  | (constructor <;> rfl)
                  | rw [if_neg (by omega)]
                try simp only [Act.put, List.setIfInBounds_toArray, List.set_cons_zero, List.set_cons_succ]
                refine wpAnyD_takeAt 6 (some 54) (v := ?_) rfl (by kernel_rfl) (by kernel_rfl) (by kernel_rfl) (by kernel_rfl) (by kernel_rfl) (fun _ _ _ h => h) (by exact ⟨up_cell hbz qi.out, up_cell hbz qr.out⟩) (fun o hop => ?_) ?_
                rotate_left
                · injection hop with hop
                  subst hop
                  refine ⟨rfl, fun W hW => ?_⟩
                  obtain ⟨s0, s1⟩ := hW
                  go_simp
                  first
                  | rfl
                  | (constructor <;> rfl)
                  | rw [if_neg (by omega)]
                try simp only [Act.put, List.setIfInBounds_toArray, List.set_cons_zero, List.set_cons_succ]
                refine wpAnyD_takeAt 7 (some 55) (v := ?_) rfl (by kernel_rfl) (by kernel_rfl) (by kernel_rfl) (by kernel_rfl) (by kernel_rfl) (fun _ _ _ h => h) (by exact ⟨up_cell hbz qi.out, up_cell hbz qr.out⟩) (fun o hop => ?_) ?_
                rotate_left
                · injection hop with hop
                  subst hop
                  refine ⟨rfl, fun W hW => ?_⟩
                  obtain ⟨s0, s1⟩ := hW
                  go_simp
                  first
                  | rfl
                  | (constructor <;> rfl)
                  | rw [if_neg (by omega)]
                try simp only [Act.put, List.setIfInBounds_toArray, List.set_cons_zero, List.set_cons_succ]
                refine wpAnyD_takeAt 8 (some 56) (v := ?_) rfl (by kernel_rfl) (by kernel_rfl) (by kernel_rfl) (by kernel_rfl) (by kernel_rfl) (fun _ _ _ h => h) (by exact ⟨up_cell hbz qi.out, up_cell hbz qr.out⟩) (fun o hop => ?_) ?_
                rotate_left
                · injection hop with hop
                  subst hop
                  refine ⟨rfl, fun W hW => ?_⟩
                  obtain ⟨s0, s1⟩ := hW
                  go_simp
                  first
                  | rfl
                  | (constructor <;> rfl)
                  | rw [if_neg (by omega)]
                try simp only [Act.put, List.setIfInBounds_toArray, List.set_cons_zero, List.set_cons_succ]
                refine wpAnyD_takeAt 9 (some 57) (v := ?_) rfl (by kernel_rfl) (by kernel_rfl) (by kernel_rfl) (by kernel_rfl) (by kernel_rfl) (fun _ _ _ h => h) (by exact ⟨up_cell hbz qi.out, up_cell hbz qr.out⟩) (fun o hop => ?_) ?_
                rotate_left
                · injection hop with hop
                  subst hop
                  refine ⟨rfl, fun W hW => ?_⟩
                  obtain ⟨s0, s1⟩ := hW
                  go_simp
                  first
                  | rfl
                  | (constructor <;> rfl)
                  | rw [if_neg (by omega)]
                try simp only [Act.put, List.setIfInBounds_toArray, List.set_cons_zero, List.set_cons_succ]
                refine wpAnyD_takeAt 10 (some 58) (v := ?_) rfl (by kernel_rfl) (by kernel_rfl) (by kernel_rfl) (by kernel_rfl) (by kernel_rfl) (fun _ _ _ h => h) (by exact ⟨up_cell hbz qi.out, up_cell hbz qr.out⟩) (fun o hop => ?_) ?_
                rotate_left
                · injection hop with hop
                  subst hop
                  refine ⟨rfl, fun W hW => ?_⟩
                  obtain ⟨s0, s1⟩ := hW
                  go_simp
                  first
                  | rfl
                  | (constructor <;> rfl)
                  | rw [if_neg (by omega)]
                try simp only [Act.put, List.setIfInBounds_toArray, List.set_cons_zero, List.set_cons_succ]
                refine wpAnyT_one (i := 11) (by kernel_rfl) rfl rfl (fun K' hK => ?_)
                go_simp
                go_at_call 44
                refine (HWH.out z hbz).mono ?_
                rintro e z2 ⟨hcase, hb2⟩
                have HB2 := hide' hb2
                have HBZ := hide' hbz
                replace hbz := hbz.trans (hb2.mono hbz.size)
                clear hb2
                rcases hcase with ⟨hno, rfl⟩ | ⟨hyes, v1, v2, v3, rfl, o1, o2, o3⟩
                · refine hK.out _ _ (fun _ => by exact ⟨up_cell hbz qi.out, up_cell hbz qr.out⟩) ?_
                  clear hK K'
                  refine wpAnyD_takeAt 12 (some 47) (v := ?_) rfl (by kernel_rfl) (by kernel_rfl) (by kernel_rfl) (by kernel_rfl) (by kernel_rfl) (fun _ _ _ h => h) (by exact ⟨up_cell hbz qi.out, up_cell hbz qr.out⟩) (fun o hop => ?_) ?_
                  rotate_left
                  · injection hop with hop
                    subst hop
                    refine ⟨rfl, fun W hW => ?_⟩
                    obtain ⟨s0, s1⟩ := hW
                    go_simp
                    first
                    | rfl
                    | (constructor <;> rfl)
                    | rw [if_neg (by omega)]
                  try simp only [Act.put, List.setIfInBounds_toArray, List.set_cons_zero, List.set_cons_succ]
                  refine wpAnyD_takeAt 13 (some 60) (v := ?_) rfl (by kernel_rfl) (by kernel_rfl) (by kernel_rfl) (by kernel_rfl) (by kernel_rfl) (fun _ _ _ h => h) (by exact ⟨up_cell hbz qi.out, up_cell hbz qr.out⟩) (fun o hop => ?_) ?_
                  rotate_left
                  · injection hop with hop
                    subst hop
                    refine ⟨rfl, fun W hW => ?_⟩
                    obtain ⟨s0, s1⟩ := hW
                    go_simp
                    first
                    | rfl
                    | (constructor <;> rfl)
                    | rw [if_neg (by omega)]
                  try simp only [Act.put, List.setIfInBounds_toArray, List.set_cons_zero, List.set_cons_succ]
                  refine wpAnyD_takeAt 14 (some 61) (v := ?_) rfl (by kernel_rfl) (by kernel_rfl) (by kernel_rfl) (by kernel_rfl) (by kernel_rfl) (fun _ _ _ h => h) (by exact ⟨up_cell hbz qi.out, up_cell hbz qr.out⟩) (fun o hop => ?_) ?_
                  rotate_left
                  · injection hop with hop
                    subst hop
                    refine ⟨rfl, fun W hW => ?_⟩
                    obtain ⟨s0, s1⟩ := hW
                    go_simp
                    first
                    | rfl
                    | (constructor <;> rfl)
                    | rw [if_neg (by omega)]
                  try simp only [Act.put, List.setIfInBounds_toArray, List.set_cons_zero, List.set_cons_succ]
                  refine wpAnyD_takeAt 15 (some 62) (v := ?_) rfl (by kernel_rfl) (by kernel_rfl) (by kernel_rfl) (by kernel_rfl) (by kernel_rfl) (fun _ _ _ h => h) (by exact ⟨up_cell hbz qi.out, up_cell hbz qr.out⟩) (fun o hop => ?_) ?_
                  rotate_left
                  · injection hop with hop
                    subst hop
                    refine ⟨rfl, fun W hW => ?_⟩
                    obtain ⟨s0, s1⟩ := hW
                    go_simp
                    first
                    | rfl
                    | (constructor <;> rfl)
                    | rw [if_neg (by omega)]
                  try simp only [Act.put, List.setIfInBounds_toArray, List.set_cons_zero, List.set_cons_succ]
                  refine wpAnyD_takeAt 16 (some 63) (v := ?_) rfl (by kernel_rfl) (by kernel_rfl) (by kernel_rfl) (by kernel_rfl) (by kernel_rfl) (fun _ _ _ h => h) (by exact ⟨up_cell hbz qi.out, up_cell hbz qr.out⟩) (fun o hop => ?_) ?_
                  rotate_left
                  · injection hop with hop
                    subst hop
                    refine ⟨rfl, fun W hW => ?_⟩
                    obtain ⟨s0, s1⟩ := hW
                    go_simp
                    first
                    | rfl
                    | (constructor <;> rfl)
                    | rw [if_neg (by omega)]
                  try simp only [Act.put, List.setIfInBounds_toArray, List.set_cons_zero, List.set_cons_succ]
                  refine wpAnyT_one (i := 17) (by kernel_rfl) rfl rfl (fun K' hK => ?_)
                  go_simp
                  refine hK.out _ _ (fun _ => by exact ⟨up_cell hbz qi.out, up_cell hbz qr.out⟩) ?_
                  clear hK K'
                  refine wpAnyT_one (i := 18) (by kernel_rfl) rfl rfl (fun K' hK => ?_)
                  go_simp
                  refine hK.out _ _ (fun _ => by exact ⟨up_cell hbz qi.out, up_cell hbz qr.out⟩) ?_
                  clear hK K'
                  refine wpAnyT_one (i := 19) (by kernel_rfl) rfl rfl (fun K' hK => ?_)
                  go_simp
                  refine hK.out _ _ (fun _ => by exact ⟨up_cell hbz qi.out, up_cell hbz qr.out⟩) ?_
                  clear hK K'
                  refine wpAnyT_one (i := 20) (by kernel_rfl) rfl rfl (fun K' hK => ?_)
                  go_simp
                  refine hK.out _ _ (fun h => absurd rfl h) ?_
                  clear hK K'
                  refine wpAnyT_done (by kernel_rfl) ?_ _
                  have HFN := hide' (HSH.out hno z2 (HBW.out.trans (hbz.mono HBW.out.size)))
                  clear hno hbz HB2
                  go_wp2_with fail
                  go_ret3
                  exact HFN.out
                · obtain ⟨p1, d1, e1⟩ := own_slice o1
                  obtain ⟨p2, d2, e2⟩ := own_slice o2
                  obtain ⟨p3, d3, e3⟩ := own_slice o3
                  subst e1 e2 e3
                  refine hK.out _ _ (fun _ => by exact ⟨up_cell hbz qi.out, up_cell hbz qr.out⟩) ?_
                  clear hK K'
                  refine wpAnyD_takeAt 12 (some 47) (v := ?_) rfl (by kernel_rfl) (by kernel_rfl) (by kernel_rfl) (by kernel_rfl) (by kernel_rfl) (fun _ _ _ h => h) (by exact ⟨up_cell hbz qi.out, up_cell hbz qr.out⟩) (fun o hop => ?_) ?_
                  rotate_left
                  · injection hop with hop
                    subst hop
                    refine ⟨rfl, fun W hW => ?_⟩
                    obtain ⟨s0, s1⟩ := hW
                    go_simp
                    first
                    | rfl
                    | (constructor <;> rfl)
                    | rw [if_neg (by omega)]
                  try simp only [Act.put, List.setIfInBounds_toArray, List.set_cons_zero, List.set_cons_succ]
                  refine wpAnyD_takeAt 13 (some 60) (v := ?_) rfl (by kernel_rfl) (by kernel_rfl) (by kernel_rfl) (by kernel_rfl) (by kernel_rfl) (fun _ _ _ h => h) (by exact ⟨up_cell hbz qi.out, up_cell hbz qr.out⟩) (fun o hop => ?_) ?_
                  rotate_left
                  · injection hop with hop
                    subst hop
                    refine ⟨rfl, fun W hW => ?_⟩
                    obtain ⟨s0, s1⟩ := hW
                    go_simp
                    first
                    | rfl
                    | (constructor <;> rfl)
                    | rw [if_neg (by omega)]
                  try simp only [Act.put, List.setIfInBounds_toArray, List.set_cons_zero, List.set_cons_succ]
                  refine wpAnyD_takeAt 14 (some 61) (v := ?_) rfl (by kernel_rfl) (by kernel_rfl) (by kernel_rfl) (by kernel_rfl) (by kernel_rfl) (fun _ _ _ h => h) (by exact ⟨up_cell hbz qi.out, up_cell hbz qr.out⟩) (fun o hop => ?_) ?_
                  rotate_left
                  · injection hop with hop
                    subst hop
                    refine ⟨rfl, fun W hW => ?_⟩
                    obtain ⟨s0, s1⟩ := hW
                    go_simp
                    first
                    | rfl
                    | (constructor <;> rfl)
                    | rw [if_neg (by omega)]
                  try simp only [Act.put, List.setIfInBounds_toArray, List.set_cons_zero, List.set_cons_succ]
                  refine wpAnyD_takeAt 15 (some 62) (v := ?_) rfl (by kernel_rfl) (by kernel_rfl) (by kernel_rfl) (by kernel_rfl) (by kernel_rfl) (fun _ _ _ h => h) (by exact ⟨up_cell hbz qi.out, up_cell hbz qr.out⟩) (fun o hop => ?_) ?_
                  rotate_left
                  · injection hop with hop
                    subst hop
                    refine ⟨rfl, fun W hW => ?_⟩
                    obtain ⟨s0, s1⟩ := hW
                    go_simp
                    first
                    | rfl
                    | (constructor <;> rfl)
                    | rw [if_neg (by omega)]
                  try simp only [Act.put, List.setIfInBounds_toArray, List.set_cons_zero, List.set_cons_succ]
                  refine wpAnyD_takeAt 16 (some 63) (v := ?_) rfl (by kernel_rfl) (by kernel_rfl) (by kernel_rfl) (by kernel_rfl) (by kernel_rfl) (fun _ _ _ h => h) (by exact ⟨up_cell hbz qi.out, up_cell hbz qr.out⟩) (fun o hop => ?_) ?_
                  rotate_left
                  · injection hop with hop
                    subst hop
                    refine ⟨rfl, fun W hW => ?_⟩
                    obtain ⟨s0, s1⟩ := hW
                    go_simp
                    first
                    | rfl
                    | (constructor <;> rfl)
                    | rw [if_neg (by omega)]
                  try simp only [Act.put, List.setIfInBounds_toArray, List.set_cons_zero, List.set_cons_succ]
                  refine wpAnyT_one (i := 17) (by kernel_rfl) rfl rfl (fun K' hK => ?_)
                  go_simp
                  refine hK.out _ _ (fun _ => by exact ⟨up_cell hbz qi.out, up_cell hbz qr.out⟩) ?_
                  clear hK K'
                  refine wpAnyT_one (i := 18) (by kernel_rfl) rfl rfl (fun K' hK => ?_)
                  go_simp
                  refine hK.out _ _ (fun _ => by exact ⟨up_cell hbz qi.out, up_cell hbz qr.out⟩) ?_
                  clear hK K'
                  refine wpAnyT_one (i := 19) (by kernel_rfl) rfl rfl (fun K' hK => ?_)
                  go_simp
                  refine hK.out _ _ (fun _ => by exact ⟨up_cell hbz qi.out, up_cell hbz qr.out⟩) ?_
                  clear hK K'
                  refine wpAnyT_one (i := 20) (by kernel_rfl) rfl rfl (fun K' hK => ?_)
                  go_simp
                  refine hK.out _ _ (fun h => absurd rfl h) ?_
                  clear hK K'
                  refine wpAnyT_done (by kernel_rfl) ?_ _
                  have HYE := hide' hyes
                  have HO := hide' (And.intro (own_mono o1 (HSZ2.out z HBZ.out)) (And.intro (own_mono o2 (HSZ2.out z HBZ.out)) (own_mono o3 (HSZ2.out z HBZ.out))))
                  have HNX := hide' (HNEXT.out hyes)
                  have HT2 := hide' (HT.out.more hbz)
                  clear o1 o2 o3 hyes hbz HB2 HYE
                  obtain ⟨vals, hvl, hva, hvr⟩ := HT2.out.a
                  have HVA := hide' (And.intro hvl (And.intro hva hvr))
                  clear hvl hva hvr
                  go_wp2_with (at_builtin; refine wpList_append_own_at _ rfl _ _ 51 rfl w.heap.size 39 i39 (.slice none 0 0) 1 24 Try.underlying51 hi39 h390 h391 h392 rfl (by decide) _ _ _ rfl (own_below HVA.out.2.1 (below_al _ _) (Nat.le_refl _)) ⟨z2.heap.size, 0, none⟩ 1 1 [.slice p1 L d1] rfl rfl (cell_one_new _ _ _) (one_cell rfl) (by have := HLK.out; unfold maxLen; omega) (by have := HLK.out; omega) (Nat.le_trans HT2.out.bel.size (below_al _ _).size) ?_; intro v' w8 hown' hgrow _ hat; refine Still.go ?_)
                  unfold Still
                  have HT8 := hide' (HT2.out.growA HVA.out.1 HVA.out.2.1 HVA.out.2.2 (by rw [list_len _ _ hL2]; exact HO.out.1) hown' rfl hgrow hat)
                  have HO8 := hide' (And.intro (row_grown HO.out.1 HVA.out.2.1 hgrow) (And.intro (row_grown HO.out.2.1 HVA.out.2.1 hgrow) (row_grown HO.out.2.2 HVA.out.2.1 hgrow)))
                  clear hown' hgrow hat HVA HO HT2
                  obtain ⟨vals2, hvl, hva, hvr⟩ := HT8.out.b
                  have HVB := hide' (And.intro hvl (And.intro hva hvr))
                  clear hvl hva hvr
                  go_wp2_with (at_builtin; refine wpList_append_own_at _ rfl _ _ 51 rfl w.heap.size 39 i39 (.slice none 0 0) 1 24 Try.underlying51 hi39 h390 h391 h392 rfl (by decide) _ _ _ rfl (own_below HVB.out.2.1 (below_al _ _) (Nat.le_refl _)) ⟨w8.heap.size, 0, none⟩ 1 1 [.slice p3 L d3] rfl rfl (cell_one_new _ _ _) (one_cell rfl) (by have := HLK.out; unfold maxLen; omega) (by have := HLK.out; omega) (Nat.le_trans HT8.out.bel.size (below_al _ _).size) ?_; intro v2 w9 hown2 hgrow2 _ hat2; refine Still.go ?_)
                  unfold Still
                  have HT9 := hide' (HT8.out.growB HVB.out.1 HVB.out.2.1 HVB.out.2.2 (by rw [list_len _ _ hL2]; exact HO8.out.2.2) hown2 rfl hgrow2 hat2)
                  have HO9 := hide' (And.intro (row_grown HO8.out.1 HVB.out.2.1 hgrow2) (row_grown HO8.out.2.1 HVB.out.2.1 hgrow2))
                  clear hown2 hgrow2 hat2 HVB HO8 HT8
                  go_wp2_with fail
                  go_roundw
                  case rel => exact ⟨k + 1, _, p1, p2, d1, d2, rfl, rfl, by go_num, by omega, HNX, HO9.out.1, HO9.out.2, HT9.out⟩
                  case measure => simp [intOf]; omega
              · obtain rfl : k = J := by omega
                have HFN := hide' (HRES.out _ wr (.inr ⟨r, _, _, HR.out.1, rfl, HRW.out.2.2.a, HRW.out.2.2.b⟩) HBW.out)
                clear HRES HRW HR
                go_wp2_with fail
                go_ret3
                exact HFN.out
end Go.Proofs.Ytlijlbjplphpfaj
