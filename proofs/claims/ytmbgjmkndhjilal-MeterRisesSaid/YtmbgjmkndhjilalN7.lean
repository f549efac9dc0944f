/- MeterRises. -/
import Derived.Test.YtmbgjmkndhjilalN6
namespace Go.Proofs.Ytmbgjmkndhjilal
open Go.RowKit Go.Shelf

theorem cell_one_new (w : World) (x : Value) (e : TypeId) : ∀ j u, [x][j]? = some u → (w.alloc (.cells #[x] e)).cell? ((⟨w.heap.size, 0, none⟩ : Addr).add j) = some u := cell_news w [x] e
theorem nil_row (W : World) : RowAt W (.slice none 0 0) 0 1 (ints []) := ⟨rfl, none, 0, rfl, fun j u h => by simp [ints] at h⟩
theorem one_row (W : World) (x : Int) : RowAt (W.alloc (.cells #[.int .i64 x] 3)) (.slice (some ⟨W.heap.size, 0, none⟩) 1 1) 1 1 (ints [x]) := rowAt_ints (alloc_new W _) rfl
theorem two_row (W : World) (x y : Nat) : RowAt (W.alloc (.cells #[.int .i64 x, .int .i64 y] 3)) (.slice (some ⟨W.heap.size, 0, none⟩) 2 2) 2 1 (ints [(x : Int), (y : Int)]) := rowAt_ints (alloc_new W _) rfl
set_option maxRecDepth 100000 in
set_option maxHeartbeats 8000000 in
theorem MeterRises_any (rt rv : List Int) (ra rb : Int) (u v : Value) (w : World) (hu : RowAt w u rt.length 1 (ints rt)) (hv : RowAt w v rv.length 1 (ints rv)) (hit : ∀ x ∈ rt, I6 x) (hiv : ∀ x ∈ rv, I6 x) (hia : I6 ra) (hib : I6 rb) :
    Calls Try.prog 3 #[u, v, .int .i64 ra, .int .i64 rb] w fun e w' => e = .returned (.bool true) ∧ Below w.heap.size w w' := by
  obtain ⟨i3, hi3, h30, h31, h32⟩ := info_parts Try.info3'
  have HU := hide' hu
  have HV := hide' hv
  have HIT : Hid (∀ k, k < rt.length → I6 (rt.getD k 0)) := fun k hk => hit _ (by rw [getD_get hk]; exact List.getElem_mem hk)
  have HIV : Hid (∀ k, k < rv.length → I6 (rv.getD k 0)) := fun k hk => hiv _ (by rw [getD_get hk]; exact List.getElem_mem hk)
  have HIA := hide' hia
  have HIB := hide' hib
  obtain ⟨au, cu, rfl⟩ := rowAt_slice hu
  obtain ⟨av, cv, rfl⟩ := rowAt_slice hv
  clear hu hv hit hiv hia hib
  go_enter Try.func3, Try.ntmps3
  go_upto_block 0 with fail
  go_cut [9, 10, 11, 12, 13] from 23 to 62 (fun ta va xa ya _ wc => ∃ (ts vs : List Int) (k x y : Nat), xa = .int .i64 x ∧ k ≤ 50 ∧ ya = .int .i64 y ∧ Hid (MadeP ts vs k x y) ∧ Hid (TwoR w wc ta va ts vs))
  case first =>
    go_wp2_with fail
    go_loopw [9, 10, 11, 12, 13] (fun ta va xa ya iv wr => ∃ (ts vs : List Int) (k x y : Nat), xa = .int .i64 x ∧ ya = .int .i64 y ∧ iv = .int .i64 k ∧ k ≤ 50 ∧ Hid (MadeP ts vs k x y) ∧ Hid (TwoR w wr ta va ts vs)) (fun _ _ _ _ iv _ => 50 - (intOf iv).toNat)
    case atStart => exact ⟨[], [], 0, 0, 0, rfl, rfl, rfl, Nat.zero_le _, MadeP.start, ⟨World.ownsRow_nil _ _ _ _, World.ownsRow_nil _ _ _ _, fun k h => (by cases h), Below.refl _ _⟩⟩
    case round =>
      obtain ⟨ts, vs, k, x, y, rfl, rfl, rfl, hk, HM, HT⟩ := hrel
      by_cases hlt : k < rt.length
      · by_cases hlv : k < rv.length
        · by_cases h50 : k < 50
          · obtain ⟨bt, ot, ct, ex, hct⟩ := ints_cell HU.out k hlt
            cases ex
            obtain ⟨bv, ov, cv', ev, hcv⟩ := ints_cell HV.out k hlv
            cases ev
            obtain ⟨p, hp, hpc⟩ := picked_is (rt.getD k 0) 1000 (HIT.out k hlt) (by decide) (by decide)
            obtain ⟨q, hq, hqc⟩ := picked_is (rv.getD k 0) 100000 (HIV.out k hlv) (by decide) (by decide)
            have HPC := hide' hpc
            have HQC := hide' hqc
            have c0 := up_cell HT.out.bel hct
            have c1 := up_cell HT.out.bel hcv
            have HNX := hide' (HM.out.next hp hq)
            have hbx := HM.out.bx
            have hby := HM.out.bY
            have hn := HM.out.n
            have hm := HM.out.m
            obtain ⟨r0, hr0⟩ : ∃ z, z = rt.getD k 0 := ⟨_, rfl⟩
            obtain ⟨r1, hr1⟩ : ∃ z, z = rv.getD k 0 := ⟨_, rfl⟩
            rw [← hr0] at c0 HPC
            rw [← hr1] at c1 HQC
            obtain ⟨x', hx'⟩ : ∃ z, z = x + (1 + p) := ⟨_, rfl⟩
            obtain ⟨y', hy'⟩ : ∃ z, z = y + q := ⟨_, rfl⟩
            rw [← hx', ← hy'] at HNX
            have e1 : (x : Int) + (1 + (p : Int)) = (x' : Int) := by omega
            have e2 : (y : Int) + (q : Int) = (y' : Int) := by omega
            have hx2 : x' ≤ 1000000 := by omega
            have hy2 : y' ≤ 100000000 := by omega
            have HEX := hide' e1
            have HEY := hide' e2
            clear hct hcv hpc hqc hr0 hr1 hx' hy' e1 e2
            go_wp2_with fail
            refine (HPC.out _).mono ?_
            rintro e zz ⟨rfl, hzz⟩
            obtain rfl := hzz.symm
            go_upto_region 7 with fail
            simp only [HEX.out]
            clear HPC HEX
            go_wp2_with fail
            refine (HQC.out _).mono ?_
            rintro e zz ⟨rfl, hzz⟩
            obtain rfl := hzz.symm
            go_upto_region 8 with fail
            simp only [HEY.out]
            clear HQC HEY c0 c1
            go_wp2_with (at_builtin; refine wpList_append_own_at _ rfl _ _ 22 rfl w.heap.size 3 i3 (.int .i64 0) 1 8 Try.underlying22 hi3 h30 h31 h32 rfl (by decide) _ _ _ rfl (HT.out.more (below_al wr (.cells #[.int .i64 x'] 3))).ra ⟨wr.heap.size, 0, none⟩ 1 1 [.int .i64 x'] rfl rfl (cell_one_new _ _ _) (one_cell rfl) (by unfold maxLen; omega) (by omega) (HT.out.more (below_al wr (.cells #[.int .i64 x'] 3))).bel.size ?_; intro v1 x1 hown1 hgrow1 _ hat1; refine Still.go ?_)
            unfold Still
            have HT1 := hide' ((HT.out.more (below_al wr (.cells #[.int .i64 x'] 3))).growA hown1 hgrow1 hat1)
            clear hown1 hgrow1 hat1 HT
            go_wp2_with (at_builtin; refine wpList_append_own_at _ rfl _ _ 22 rfl w.heap.size 3 i3 (.int .i64 0) 1 8 Try.underlying22 hi3 h30 h31 h32 rfl (by decide) _ _ _ rfl (HT1.out.more (below_al x1 (.cells #[.int .i64 y'] 3))).rb ⟨x1.heap.size, 0, none⟩ 1 1 [.int .i64 y'] rfl rfl (cell_one_new _ _ _) (one_cell rfl) (by unfold maxLen; omega) (by omega) (HT1.out.more (below_al x1 (.cells #[.int .i64 y'] 3))).bel.size ?_; intro v2 x2 hown2 hgrow2 _ hat2; refine Still.go ?_)
            unfold Still
            have HT2 := hide' ((HT1.out.more (below_al x1 (.cells #[.int .i64 y'] 3))).growB hown2 hgrow2 hat2)
            clear hown2 hgrow2 hat2 HT1
            go_wp2_with fail
            go_roundw
            case rel => exact ⟨_, _, k + 1, x', y', rfl, rfl, by go_num, by omega, HNX, HT2⟩
            case measure => simp [intOf]; omega
          · go_wp2_with fail
            go_meet
            case rel => exact ⟨ts, vs, k, x, y, rfl, hk, rfl, HM, HT⟩
        · go_wp2_with fail
          go_meet
          case rel => exact ⟨ts, vs, k, x, y, rfl, hk, rfl, HM, HT⟩
      · go_wp2_with fail
        go_meet
        case rel => exact ⟨ts, vs, k, x, y, rfl, hk, rfl, HM, HT⟩
  case rest =>
    obtain ⟨ts, vs, k, x, y, rfl, hk, rfl, HM, HT⟩ := hcut
    have hn := HM.out.n
    have hm := HM.out.m
    obtain ⟨a9, c9, h9⟩ := own_slice HT.out.ra
    obtain ⟨a10, c10, h10⟩ := own_slice HT.out.rb
    rw [hn] at h9
    rw [hm] at h10
    subst h9 h10
    have HRT0 : Hid (RowAt wc (.slice a9 k c9) k 1 (ints ts)) := by have := rowAt_of_own HT.out.ra; rwa [hn] at this
    have HRV0 : Hid (RowAt wc (.slice a10 k c10) k 1 (ints vs)) := by have := rowAt_of_own HT.out.rb; rwa [hm] at this
    have HFA : Hid (∀ W (qs : List Int) a, Below wc.heap.size wc W → qs.length ≤ 50 → RowAt W a qs.length 1 (ints qs) → Calls Try.prog 5 #[.slice a9 k c9, .slice a10 k c10, a] W fun e w' => FillO ts vs qs W e w') := fun W qs a hb hq hr =>
      Fill_any ts vs qs _ _ a W (by rw [hn]; exact HRT0.out.below hb (Nat.le_refl _)) (by rw [hm]; exact HRV0.out.below hb (Nat.le_refl _)) hr (by omega) (by omega) (by omega)
    have HFN : Hid (∀ W (qs : List Int) a, qs.length ≤ 50 → RowAt W a qs.length 1 (ints qs) → Calls Try.prog 5 #[.slice none 0 0, .slice none 0 0, a] W fun e w' => FillO [] [] qs W e w') := fun W qs a hq hr =>
      Fill_any [] [] qs _ _ a W (nil_row W) (nil_row W) hr (by simp) (by simp) (by omega)
    clear hn hm
    by_cases hk0 : (k : Int) = 0
    · have HBX := hide' HT.out.bel
      go_wp2_with fail
      refine (HFN.out (wc.alloc (.cells #[.int .i64 5] 3)) [5] _ (by decide) (one_row wc 5)).mono ?_
      rintro e W1 hf1
      obtain ⟨rfl, hb1⟩ := fill_none hf1
      have HB1 : Hid (Below w.heap.size w W1) := (HBX.out.trans ((below_al wc _).mono HBX.out.size)).trans (hb1.mono (Nat.le_trans HBX.out.size (below_al wc _).size))
      clear hf1 hb1
      go_wp2
      go_ret
      exact ⟨rfl, HB1.out⟩
    · have HOK := hide' (HM.out.ok (by omega) hk)
      have HNL := hide' HM.out.n
      go_wp2_with fail
      refine (HFA.out wc ts _ (Below.refl _ _) (by rw [HNL.out]; exact hk) (by rw [HNL.out]; exact HRT0.out)).mono ?_
      rintro e W1 hf1
      obtain ⟨v1, outk, rfl, hown1, hfl1, hb1⟩ := fill_good hf1 (fill_zero HOK.out HOK.out.t (by rw [HNL.out]; exact hk))
      obtain ⟨a1, c1, h1⟩ := own_slice hown1
      rw [HNL.out] at h1
      subst h1
      have HB1 := hide' hb1
      have HT1 := hide' (HT.out.more hb1)
      have HKL : Hid (outk.length = k) := hfl1.1.trans HNL.out
      have HKV : Hid (∀ i, i < k → outk.getD i 0 = vs.getD i 0) := fun i hi => by
        obtain ⟨p, h1, h2⟩ := hfl1.2 i (by rw [HNL.out]; exact hi) (by rw [HNL.out]; exact hi)
        rw [h2]
        exact val_at HOK.out (by rw [HNL.out]; exact hi) h1
      have HRK1 : Hid (RowAt W1 (.slice a1 k c1) k 1 (ints outk)) := by have := rowAt_of_own hown1; rwa [HNL.out] at this
      have HRT1 : Hid (RowAt W1 (.slice a9 k c9) k 1 (ints ts)) := HRT0.out.below hb1 (Nat.le_refl _)
      have HRV1 : Hid (RowAt W1 (.slice a10 k c10) k 1 (ints vs)) := HRV0.out.below hb1 (Nat.le_refl _)
      have hbx := HM.out.bx
      obtain ⟨P, hP, hpc⟩ := picked_is ra (x + 2000) HIA.out (by omega) (by omega)
      obtain ⟨Q, hQ, hqc⟩ := picked_is rb (x + 2000) HIB.out (by omega) (by omega)
      rw [show ((x + 2000 : Nat) : Int) = (x : Int) + 2000 from by omega] at hpc hqc
      have HPC := hide' hpc
      have HQC := hide' hqc
      clear hf1 hown1 hfl1 hb1 hpc hqc HT HRT0 HRV0 HFN
      go_wp2_with fail
      refine (HPC.out _).mono ?_
      rintro e zz ⟨rfl, hzz⟩
      obtain rfl := hzz.symm
      go_wp2_with fail
      refine (HQC.out _).mono ?_
      rintro e zz ⟨rfl, hzz⟩
      obtain rfl := hzz.symm
      by_cases hpq : (Q : Int) < (P : Int)
      · as_aux_lemma =>
          have HLH : Hid (Q ≤ P ∧ P < x + 2000) := ⟨by omega, by omega⟩
          obtain ⟨lo, hlo⟩ : ∃ z, z = Q := ⟨_, rfl⟩
          obtain ⟨hi, hhi⟩ : ∃ z, z = P := ⟨_, rfl⟩
          go_upto_region 17 with fail
          rw [← hlo, ← hhi] at HLH
          simp only [← hlo, ← hhi]
          clear hpq hlo hhi HPC HQC
          go_wp2_with fail
          refine (HFA.out (W1.alloc (.cells #[.int .i64 lo, .int .i64 hi] 3)) [(lo : Int), (hi : Int)] _ (HB1.out.trans ((below_al W1 _).mono HB1.out.size)) (by simp) (two_row W1 lo hi)).mono ?_
          rintro e W2 hf2
          obtain ⟨v2, out2, rfl, hown2, hfl2, hb2⟩ := fill_good hf2 (fill_zero HOK.out (fun j hj => by have := HLH.out; have := HM.out.bx; match j, hj with | 0, _ => exact ⟨by simp, by simp; omega⟩ | 1, _ => exact ⟨by simp, by simp; omega⟩) (by simp))
          obtain ⟨a2, c2, h2⟩ := own_slice hown2
          subst h2
          have HB2 : Hid (Below W1.heap.size W1 W2) := (below_al W1 _).trans (hb2.mono (below_al W1 _).size)
          have HBW2 : Hid (Below w.heap.size w W2) := HT1.out.bel.trans (HB2.out.mono HT1.out.bel.size)
          obtain ⟨p0, hp0, ho0⟩ := hfl2.2 0 (by simp) (by simp)
          obtain ⟨p1, hp1, ho1⟩ := hfl2.2 1 (by simp) (by simp)
          simp only [List.getD_cons_zero, List.getD_cons_succ] at hp0 hp1 ho0 ho1
          have hmono := val_mono HOK.out hp0 hp1 (by have := HLH.out; omega)
          rw [← ho0, ← ho1] at hmono
          have hl2 : out2.length = 2 := hfl2.1
          have HLE : Hid (∀ i, i < k → (lo : Int) ≤ ts.getD i 0 → out2.getD 0 0 ≤ vs.getD i 0) := fun i hi h => by rw [ho0]; exact val_le HOK.out hp0 (by rw [HM.out.n]; exact hi) h
          have HGE : Hid (∀ i, i < k → ts.getD i 0 ≤ (lo : Int) → vs.getD i 0 ≤ out2.getD 0 0) := fun i hi h => by rw [ho0]; exact val_ge HOK.out hp0 (by rw [HM.out.n]; exact hi) h
          obtain ⟨b2, f2, d2, e2, hc20⟩ := ints_cell2 (rowAt_of_own hown2) 0 (by omega)
          obtain ⟨b3, f3, d3, e3, hc21⟩ := ints_cell2 (rowAt_of_own hown2) 1 (by omega)
          simp only [Value.slice.injEq] at e2
          obtain ⟨rfl, _, rfl⟩ := e2
          simp only [Value.slice.injEq, Option.some.injEq, Addr.mk.injEq, and_true] at e3
          obtain ⟨⟨rfl, rfl⟩, _, rfl⟩ := e3
          obtain ⟨o0, he0⟩ : ∃ z, z = out2.getD 0 0 := ⟨_, rfl⟩
          obtain ⟨o1, he1⟩ : ∃ z, z = out2.getD 1 0 := ⟨_, rfl⟩
          rw [← he0] at hc20 hmono HLE HGE
          rw [← he1] at hc21 hmono
          rw [Nat.add_zero] at hc20
          have hno : ¬ o1 < o0 := by omega
          have HRK : Hid (RowAt W2 (.slice a1 k c1) k 1 (ints outk)) := HRK1.out.below HB2.out (Nat.le_refl _)
          have HRT : Hid (RowAt W2 (.slice a9 k c9) k 1 (ints ts)) := HRT1.out.below HB2.out (Nat.le_refl _)
          have HRV : Hid (RowAt W2 (.slice a10 k c10) k 1 (ints vs)) := HRV1.out.below HB2.out (Nat.le_refl _)
          have HC20 := hide' hc20
          have HBD2 : Hid (∀ m, Below w.heap.size w (W2.drewN m)) := fun m => below_drewN HBW2.out m
          clear hp0 hp1 ho0 ho1 hl2 he0 he1 hfl2 hf2 hb2 hmono hown2
          go_wp2_with fail
          go_quiet (fail)
          go_wp2_with fail
          clear hc20 hc21 hno
          go_loopw [22] (fun iv wr => ∃ (i m : Nat), iv = .int .i64 i ∧ i ≤ k ∧ wr = W2.drewN m) (fun iv _ => k - (intOf iv).toNat)
          case atStart => exact ⟨0, _, rfl, Nat.zero_le _, rfl⟩
          case round =>
            obtain ⟨i, m, rfl, hik, hwr⟩ := hrel
            by_cases hlt : i < k
            · obtain ⟨bk, fk, dk, ek, hck⟩ := ints_cell2 HRK.out i (by rw [HKL.out]; exact hlt)
              obtain ⟨bt, ft, dt, et, hct⟩ := ints_cell2 HRT.out i (by rw [HM.out.n]; exact hlt)
              obtain ⟨bv, fv, dv, ev, hcv⟩ := ints_cell2 HRV.out i (by rw [HM.out.m]; exact hlt)
              simp only [Value.slice.injEq] at ek et ev
              obtain ⟨rfl, _, rfl⟩ := ek
              obtain ⟨rfl, _, rfl⟩ := et
              obtain ⟨rfl, _, rfl⟩ := ev
              have hkv := HKV.out i hlt
              have hle := HLE.out i hlt
              have hge := HGE.out i hlt
              rw [hkv] at hck
              obtain ⟨ti, hti⟩ : ∃ z, z = ts.getD i 0 := ⟨_, rfl⟩
              obtain ⟨vi, hvi⟩ : ∃ z, z = vs.getD i 0 := ⟨_, rfl⟩
              rw [← hti] at hct hle hge
              rw [← hvi] at hck hcv hle hge
              have g1 : wr.cell? ⟨bk, fk + i, none⟩ = some (.int .i64 vi) := by rw [hwr]; exact hck
              have g2 : wr.cell? ⟨bt, ft + i, none⟩ = some (.int .i64 ti) := by rw [hwr]; exact hct
              have g3 : wr.cell? ⟨bv, fv + i, none⟩ = some (.int .i64 vi) := by rw [hwr]; exact hcv
              have g4 : wr.cell? ⟨b2, f2, none⟩ = some (.int .i64 o0) := by rw [hwr]; exact HC20.out
              have hnn : (vi != vi) = false := by simp
              have HWR : Hid (∀ q, wr.drewN q = W2.drewN (m + q)) := fun q => by rw [hwr]; exact World.drewN_drewN W2 m q
              clear hkv hti hvi hck hct hcv hwr
              by_cases hc1 : (lo : Int) ≤ ti
              · have f1 : ¬ vi < o0 := by have := hle hc1; omega
                by_cases hc2 : ti ≤ (lo : Int)
                · have f2' : ¬ o0 < vi := by have := hge hc2; omega
                  clear hle hge
                  go_wp2_with fail
                  have n2 : ¬ vi < o0 := by omega
                  have n3 : ¬ o0 < vi := by omega
                  go_quiet (fail)
                  go_wp2_with fail
                  go_roundw
                  case rel => exact ⟨i + 1, _, by go_num, by omega, HWR.out _⟩
                  case measure => simp [intOf]; omega
                · clear hle hge
                  go_wp2_with fail
                  have n1 : ¬ ti ≤ (lo : Int) := by omega
                  have n2 : ¬ vi < o0 := by omega
                  go_quiet (fail)
                  go_wp2_with fail
                  go_roundw
                  case rel => exact ⟨i + 1, _, by go_num, by omega, HWR.out _⟩
                  case measure => simp [intOf]; omega
              · have hc2 : ti ≤ (lo : Int) := by omega
                have f2' : ¬ o0 < vi := by have := hge hc2; omega
                clear hle hge
                go_wp2_with fail
                have n1 : ¬ (lo : Int) ≤ ti := by omega
                have n3 : ¬ o0 < vi := by omega
                go_quiet (fail)
                go_wp2_with fail
                go_roundw
                case rel => exact ⟨i + 1, _, by go_num, by omega, HWR.out _⟩
                case measure => simp [intOf]; omega
            · have HFB : Hid (Below w.heap.size w wr) := by rw [hwr]; exact HBD2.out _
              clear hwr
              go_wp2
              go_ret
              exact ⟨rfl, HFB.out⟩
      · as_aux_lemma =>
          have HLH : Hid (P ≤ Q ∧ Q < x + 2000) := ⟨by omega, by omega⟩
          obtain ⟨lo, hlo⟩ : ∃ z, z = P := ⟨_, rfl⟩
          obtain ⟨hi, hhi⟩ : ∃ z, z = Q := ⟨_, rfl⟩
          go_upto_region 17 with fail
          rw [← hlo, ← hhi] at HLH
          simp only [← hlo, ← hhi]
          clear hpq hlo hhi HPC HQC
          go_wp2_with fail
          refine (HFA.out (W1.alloc (.cells #[.int .i64 lo, .int .i64 hi] 3)) [(lo : Int), (hi : Int)] _ (HB1.out.trans ((below_al W1 _).mono HB1.out.size)) (by simp) (two_row W1 lo hi)).mono ?_
          rintro e W2 hf2
          obtain ⟨v2, out2, rfl, hown2, hfl2, hb2⟩ := fill_good hf2 (fill_zero HOK.out (fun j hj => by have := HLH.out; have := HM.out.bx; match j, hj with | 0, _ => exact ⟨by simp, by simp; omega⟩ | 1, _ => exact ⟨by simp, by simp; omega⟩) (by simp))
          obtain ⟨a2, c2, h2⟩ := own_slice hown2
          subst h2
          have HB2 : Hid (Below W1.heap.size W1 W2) := (below_al W1 _).trans (hb2.mono (below_al W1 _).size)
          have HBW2 : Hid (Below w.heap.size w W2) := HT1.out.bel.trans (HB2.out.mono HT1.out.bel.size)
          obtain ⟨p0, hp0, ho0⟩ := hfl2.2 0 (by simp) (by simp)
          obtain ⟨p1, hp1, ho1⟩ := hfl2.2 1 (by simp) (by simp)
          simp only [List.getD_cons_zero, List.getD_cons_succ] at hp0 hp1 ho0 ho1
          have hmono := val_mono HOK.out hp0 hp1 (by have := HLH.out; omega)
          rw [← ho0, ← ho1] at hmono
          have hl2 : out2.length = 2 := hfl2.1
          have HLE : Hid (∀ i, i < k → (lo : Int) ≤ ts.getD i 0 → out2.getD 0 0 ≤ vs.getD i 0) := fun i hi h => by rw [ho0]; exact val_le HOK.out hp0 (by rw [HM.out.n]; exact hi) h
          have HGE : Hid (∀ i, i < k → ts.getD i 0 ≤ (lo : Int) → vs.getD i 0 ≤ out2.getD 0 0) := fun i hi h => by rw [ho0]; exact val_ge HOK.out hp0 (by rw [HM.out.n]; exact hi) h
          obtain ⟨b2, f2, d2, e2, hc20⟩ := ints_cell2 (rowAt_of_own hown2) 0 (by omega)
          obtain ⟨b3, f3, d3, e3, hc21⟩ := ints_cell2 (rowAt_of_own hown2) 1 (by omega)
          simp only [Value.slice.injEq] at e2
          obtain ⟨rfl, _, rfl⟩ := e2
          simp only [Value.slice.injEq, Option.some.injEq, Addr.mk.injEq, and_true] at e3
          obtain ⟨⟨rfl, rfl⟩, _, rfl⟩ := e3
          obtain ⟨o0, he0⟩ : ∃ z, z = out2.getD 0 0 := ⟨_, rfl⟩
          obtain ⟨o1, he1⟩ : ∃ z, z = out2.getD 1 0 := ⟨_, rfl⟩
          rw [← he0] at hc20 hmono HLE HGE
          rw [← he1] at hc21 hmono
          rw [Nat.add_zero] at hc20
          have hno : ¬ o1 < o0 := by omega
          have HRK : Hid (RowAt W2 (.slice a1 k c1) k 1 (ints outk)) := HRK1.out.below HB2.out (Nat.le_refl _)
          have HRT : Hid (RowAt W2 (.slice a9 k c9) k 1 (ints ts)) := HRT1.out.below HB2.out (Nat.le_refl _)
          have HRV : Hid (RowAt W2 (.slice a10 k c10) k 1 (ints vs)) := HRV1.out.below HB2.out (Nat.le_refl _)
          have HC20 := hide' hc20
          have HBD2 : Hid (∀ m, Below w.heap.size w (W2.drewN m)) := fun m => below_drewN HBW2.out m
          clear hp0 hp1 ho0 ho1 hl2 he0 he1 hfl2 hf2 hb2 hmono hown2
          go_wp2_with fail
          go_quiet (fail)
          go_wp2_with fail
          clear hc20 hc21 hno
          go_loopw [22] (fun iv wr => ∃ (i m : Nat), iv = .int .i64 i ∧ i ≤ k ∧ wr = W2.drewN m) (fun iv _ => k - (intOf iv).toNat)
          case atStart => exact ⟨0, _, rfl, Nat.zero_le _, rfl⟩
          case round =>
            obtain ⟨i, m, rfl, hik, hwr⟩ := hrel
            by_cases hlt : i < k
            · obtain ⟨bk, fk, dk, ek, hck⟩ := ints_cell2 HRK.out i (by rw [HKL.out]; exact hlt)
              obtain ⟨bt, ft, dt, et, hct⟩ := ints_cell2 HRT.out i (by rw [HM.out.n]; exact hlt)
              obtain ⟨bv, fv, dv, ev, hcv⟩ := ints_cell2 HRV.out i (by rw [HM.out.m]; exact hlt)
              simp only [Value.slice.injEq] at ek et ev
              obtain ⟨rfl, _, rfl⟩ := ek
              obtain ⟨rfl, _, rfl⟩ := et
              obtain ⟨rfl, _, rfl⟩ := ev
              have hkv := HKV.out i hlt
              have hle := HLE.out i hlt
              have hge := HGE.out i hlt
              rw [hkv] at hck
              obtain ⟨ti, hti⟩ : ∃ z, z = ts.getD i 0 := ⟨_, rfl⟩
              obtain ⟨vi, hvi⟩ : ∃ z, z = vs.getD i 0 := ⟨_, rfl⟩
              rw [← hti] at hct hle hge
              rw [← hvi] at hck hcv hle hge
              have g1 : wr.cell? ⟨bk, fk + i, none⟩ = some (.int .i64 vi) := by rw [hwr]; exact hck
              have g2 : wr.cell? ⟨bt, ft + i, none⟩ = some (.int .i64 ti) := by rw [hwr]; exact hct
              have g3 : wr.cell? ⟨bv, fv + i, none⟩ = some (.int .i64 vi) := by rw [hwr]; exact hcv
              have g4 : wr.cell? ⟨b2, f2, none⟩ = some (.int .i64 o0) := by rw [hwr]; exact HC20.out
              have hnn : (vi != vi) = false := by simp
              have HWR : Hid (∀ q, wr.drewN q = W2.drewN (m + q)) := fun q => by rw [hwr]; exact World.drewN_drewN W2 m q
              clear hkv hti hvi hck hct hcv hwr
              by_cases hc1 : (lo : Int) ≤ ti
              · have f1 : ¬ vi < o0 := by have := hle hc1; omega
                by_cases hc2 : ti ≤ (lo : Int)
                · have f2' : ¬ o0 < vi := by have := hge hc2; omega
                  clear hle hge
                  go_wp2_with fail
                  have n2 : ¬ vi < o0 := by omega
                  have n3 : ¬ o0 < vi := by omega
                  go_quiet (fail)
                  go_wp2_with fail
                  go_roundw
                  case rel => exact ⟨i + 1, _, by go_num, by omega, HWR.out _⟩
                  case measure => simp [intOf]; omega
                · clear hle hge
                  go_wp2_with fail
                  have n1 : ¬ ti ≤ (lo : Int) := by omega
                  have n2 : ¬ vi < o0 := by omega
                  go_quiet (fail)
                  go_wp2_with fail
                  go_roundw
                  case rel => exact ⟨i + 1, _, by go_num, by omega, HWR.out _⟩
                  case measure => simp [intOf]; omega
              · have hc2 : ti ≤ (lo : Int) := by omega
                have f2' : ¬ o0 < vi := by have := hge hc2; omega
                clear hle hge
                go_wp2_with fail
                have n1 : ¬ (lo : Int) ≤ ti := by omega
                have n3 : ¬ o0 < vi := by omega
                go_quiet (fail)
                go_wp2_with fail
                go_roundw
                case rel => exact ⟨i + 1, _, by go_num, by omega, HWR.out _⟩
                case measure => simp [intOf]; omega
            · have HFB : Hid (Below w.heap.size w wr) := by rw [hwr]; exact HBD2.out _
              clear hwr
              go_wp2
              go_ret
              exact ⟨rfl, HFB.out⟩
end Go.Proofs.Ytmbgjmkndhjilal
