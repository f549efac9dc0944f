/- What the document fills in. -/
import Derived.Test.YtmbgjmkndhjilakFv
namespace Go.Proofs.Ytmbgjmkndhjilak
open Go.RowKit Go.Shelf

set_option maxRecDepth 100000 in
set_option maxHeartbeats 4000000 in
theorem inBounds_any (x a b : Int) (w : World) : Calls Try.prog 33 #[.int .i64 x, .int .i64 a, .int .i64 b] w fun e w' => e = .returned (.bool (withinB x a b)) ∧ w' = w := by
  unfold withinB
  go_enter Try.func33, Try.ntmps33
  by_cases h1 : a ≤ x
  · by_cases h2 : x ≤ b
    · go_wp2
      go_ret
      exact ⟨by simp [h1, h2], rfl⟩
    · go_wp2
      go_ret
      exact ⟨by simp [h2], rfl⟩
  · have HD : Hid ((decide (a ≤ x) && decide (x ≤ b)) = false) := by show _ = _; rw [decide_eq_false h1]; rfl
    go_wp2
    go_ret
    exact ⟨by rw [HD.out]; rfl, rfl⟩
theorem toB_all {m : Int} {l : List Int} (h : ∀ k, k < l.length → withinB (l.getD k 0) 0 m = true) : toB m l = true := List.all_eq_true.2 fun x hx => by
  obtain ⟨k, hk, rfl⟩ := List.mem_iff_getElem.1 hx
  rw [← getD_get hk]
  exact h k hk
theorem toB_not {m : Int} {l : List Int} {k : Nat} (hk : k < l.length) (h : withinB (l.getD k 0) 0 m = false) : toB m l = false := all_no hk (by rw [← getD_get hk]; exact h)
theorem order_not {ts vs : List Int} {k : Nat} (hs : vs.length = ts.length) (hk : k + 1 < ts.length) (h : ts.getD (k + 1) 0 ≤ ts.getD k 0 ∨ vs.getD (k + 1) 0 < vs.getD k 0) : orderB ts vs = false := by
  unfold orderB
  rcases h with h | h
  · have : eachB ltB ts = false := each_no (j := k) hk (by rw [← getD_get (by omega), ← getD_get hk]; unfold ltB; exact decide_eq_false (by omega))
    rw [this]
    rfl
  · have hk2 : k + 1 < vs.length := by omega
    have : eachB leB vs = false := each_no (j := k) hk2 (by rw [← getD_get (by omega), ← getD_get hk2]; unfold leB; exact decide_eq_false (by omega))
    rw [this, Bool.and_false]
theorem order_yes {ts vs : List Int} (hs : vs.length = ts.length) (h : ∀ k, k + 1 < ts.length → ts.getD k 0 < ts.getD (k + 1) 0 ∧ vs.getD k 0 ≤ vs.getD (k + 1) 0) : orderB ts vs = true := by
  unfold orderB
  rw [each_yes ts (fun j hj => by rw [← getD_get (by omega), ← getD_get hj]; exact decide_eq_true (h j hj).1), each_yes vs (fun j hj => by rw [← getD_get (by omega), ← getD_get hj]; exact decide_eq_true (h j (by omega)).2)]
  rfl
set_option maxRecDepth 100000 in
set_option maxHeartbeats 4000000 in
theorem Filled_any (ts vs qs : List Int) (u v a : Value) (w : World) (hu : RowAt w u ts.length 1 (ints ts)) (hv : RowAt w v vs.length 1 (ints vs)) (ha : RowAt w a qs.length 1 (ints qs)) (hn : ts.length ≤ 3000000) (_hm : vs.length ≤ 3000000) (hl : qs.length ≤ 3000000) : Calls Try.prog 16 #[u, v, a] w (FillO ts vs qs w) := by
  obtain ⟨i3, hi3, h30, h31, h32⟩ := info_parts Try.info3'
  have H33 := hide' (fun x a b z => inBounds_any x a b z)
  have HU := hide' hu
  have HV := hide' hv
  have HA := hide' ha
  obtain ⟨ua, uc, rfl⟩ := rowAt_slice hu
  obtain ⟨va, vc, rfl⟩ := rowAt_slice hv
  obtain ⟨aa, ac, rfl⟩ := rowAt_slice ha
  clear hu hv ha
  have HFE : Hid (fillE ts vs qs = if sizedB ts.length vs.length = false ∨ 50 < qs.length then 2 else if (toB 1000000000 ts && toB 1000000000 qs && toB 4294967295 vs) = false then 4 else if orderB ts vs = false then 14 else 0) := rfl
  obtain ⟨b1, HB1⟩ : ∃ b, Hid (b = withinB ts.length 1 50) := ⟨_, rfl⟩
  go_enter Try.func16, Try.ntmps16
  go_wp2_with fail
  refine (H33.out _ _ _ _).mono ?_
  rintro e zz ⟨rfl, hzz⟩
  rw [hzz]
  clear hzz zz
  rw [← HB1.out]
  cases b1 with
  | false =>
    have HR : Hid (fillE ts vs qs = 2) := by rw [HFE.out, if_pos (Or.inl (by unfold sizedB; rw [← HB1.out]; rfl))]; exact rfl
    clear HFE
    go_wp2
    go_ret2
    exact fill_no HR.out (by decide) (Below.refl _ w)
  | true =>
    have hnb : 1 ≤ ts.length ∧ ts.length ≤ 50 := by have := withinB_iff.1 HB1.out.symm; omega
    by_cases hmn : vs.length = ts.length
    · by_cases h50 : 50 < qs.length
      · have HR : Hid (fillE ts vs qs = 2) := by rw [HFE.out, if_pos (Or.inr h50)]; exact rfl
        have h51 : (50 : Int) < (qs.length : Int) := by omega
        rw [hmn]
        clear HFE hmn
        go_wp2
        go_ret2
        exact fill_no HR.out (by decide) (Below.refl _ w)
      · have HSM := hide' hmn
        have HF2 : Hid (fillE ts vs qs = if (toB 1000000000 ts && toB 1000000000 qs && toB 4294967295 vs) = false then 4 else if orderB ts vs = false then 14 else 0) := by
          rw [HFE.out, if_neg (fun h => by rcases h with h | h; unfold sizedB at h; rw [← HB1.out, decide_eq_true hmn] at h; exact absurd h (by decide); omega)]; exact rfl
        have h51 : ¬ (50 : Int) < (qs.length : Int) := by omega
        have hq50 : qs.length ≤ 50 := by omega
        rw [hmn] at HV ⊢
        clear HFE hmn h50 HB1
        go_wp2_with fail
        go_loopw [8] (fun iv wr => ∃ (k : Nat), iv = .int .i64 k ∧ k ≤ ts.length ∧ Hid (∀ j, j < k → withinB (ts.getD j 0) 0 1000000000 = true ∧ withinB (vs.getD j 0) 0 4294967295 = true) ∧ wr = w) (fun iv _ => ts.length - (intOf iv).toNat)
        case atStart => exact ⟨0, rfl, Nat.zero_le _, fun j hj => (by omega), rfl⟩
        case round =>
          obtain ⟨k, rfl, hk, HT, rfl⟩ := hrel
          by_cases hlt : k < ts.length
          · obtain ⟨bt, ot, ct, e1, m1⟩ := ints_cell HU.out k hlt
            cases e1
            obtain ⟨bv, ov, cv, e2, m2⟩ := ints_cell2 HV.out k (by rw [HSM.out]; exact hlt)
            cases e2
            have HNT : Hid (withinB (ts.getD k 0) 0 1000000000 = false → fillE ts vs qs = 4) := fun h => by rw [HF2.out, toB_not hlt h]; rfl
            have HNV : Hid (withinB (vs.getD k 0) 0 4294967295 = false → fillE ts vs qs = 4) := fun h => by rw [HF2.out, toB_not (by rw [HSM.out]; exact hlt) h, Bool.and_false]; rfl
            have HNX : Hid (withinB (ts.getD k 0) 0 1000000000 = true → withinB (vs.getD k 0) 0 4294967295 = true → ∀ j, j < k + 1 → withinB (ts.getD j 0) 0 1000000000 = true ∧ withinB (vs.getD j 0) 0 4294967295 = true) := fun h1 h2 j hj => by
              by_cases e : j = k
              · rw [e]; exact ⟨h1, h2⟩
              · exact HT.out j (by omega)
            obtain ⟨x, hx⟩ : ∃ x, x = ts.getD k 0 := ⟨_, rfl⟩
            obtain ⟨y, hy⟩ : ∃ y, y = vs.getD k 0 := ⟨_, rfl⟩
            rw [← hx] at m1 HNT HNX
            rw [← hy] at m2 HNV HNX
            clear hx hy HT
            go_wp2_with fail
            refine (H33.out _ _ _ _).mono ?_
            rintro e zz ⟨rfl, hzz⟩
            rw [hzz]
            clear hzz zz
            obtain ⟨b2, HB2⟩ : ∃ b, Hid (b = withinB x 0 1000000000) := ⟨_, rfl⟩
            rw [← HB2.out] at HNT HNX ⊢
            cases b2 with
            | false =>
              have HR := hide' (HNT.out (by first | rfl | trivial))
              clear HNT HNX HNV HF2
              go_wp2
              go_ret2
              exact fill_no HR.out (by decide) (Below.refl _ _)
            | true =>
              go_wp2_with fail
              refine (H33.out _ _ _ _).mono ?_
              rintro e zz ⟨rfl, hzz⟩
              rw [hzz]
              clear hzz zz
              obtain ⟨b3, HB3⟩ : ∃ b, Hid (b = withinB y 0 4294967295) := ⟨_, rfl⟩
              rw [← HB3.out] at HNV HNX ⊢
              cases b3 with
              | false =>
                have HR := hide' (HNV.out (by first | rfl | trivial))
                clear HNT HNX HNV HF2
                go_wp2
                go_ret2
                exact fill_no HR.out (by decide) (Below.refl _ _)
              | true =>
                have HNY := hide' (HNX.out (by first | rfl | trivial) (by first | rfl | trivial))
                clear HNT HNX HNV HB2 HB3
                go_wp2_with fail
                go_roundw
                case rel => exact ⟨k + 1, by go_num, by omega, HNY.out, trivial⟩
                case measure => simp only [intOf]; omega
          · have HTS : Hid (toB 1000000000 ts = true ∧ toB 4294967295 vs = true) := ⟨toB_all (fun j hj => (HT.out j (by omega)).1), toB_all (fun j hj => (HT.out j (by have := HSM.out; omega)).2)⟩
            have HF3 : Hid (fillE ts vs qs = if toB 1000000000 qs = false then 4 else if orderB ts vs = false then 14 else 0) := by rw [HF2.out, HTS.out.1, HTS.out.2, Bool.true_and, Bool.and_true]; exact rfl
            clear HT HF2
            obtain ⟨wo, hwo⟩ : ∃ wo : World, wo = wr := ⟨_, rfl⟩
            subst hwo
            go_wp2_with fail
            go_loopw [9] (fun iv wr => ∃ (k : Nat), iv = .int .i64 k ∧ k ≤ qs.length ∧ Hid (∀ j, j < k → withinB (qs.getD j 0) 0 1000000000 = true) ∧ wr = wo) (fun iv _ => qs.length - (intOf iv).toNat)
            case atStart => exact ⟨0, rfl, Nat.zero_le _, fun j hj => (by omega), rfl⟩
            case round =>
              clear hlt hk
              obtain ⟨k, rfl, hk, HT, rfl⟩ := hrel
              by_cases hlt : k < qs.length
              · obtain ⟨bt, ot, ct, e1, m1⟩ := ints_cell HA.out k hlt
                cases e1
                have HNT : Hid (withinB (qs.getD k 0) 0 1000000000 = false → fillE ts vs qs = 4) := fun h => by rw [HF3.out, toB_not hlt h]; rfl
                have HNX : Hid (withinB (qs.getD k 0) 0 1000000000 = true → ∀ j, j < k + 1 → withinB (qs.getD j 0) 0 1000000000 = true) := fun h1 j hj => by
                  by_cases e : j = k
                  · rw [e]; exact h1
                  · exact HT.out j (by omega)
                obtain ⟨x, hx⟩ : ∃ x, x = qs.getD k 0 := ⟨_, rfl⟩
                rw [← hx] at m1 HNT HNX
                clear hx HT
                go_wp2_with fail
                refine (H33.out _ _ _ _).mono ?_
                rintro e zz ⟨rfl, hzz⟩
                rw [hzz]
                clear hzz zz
                obtain ⟨b2, HB2⟩ : ∃ b, Hid (b = withinB x 0 1000000000) := ⟨_, rfl⟩
                rw [← HB2.out] at HNT HNX ⊢
                cases b2 with
                | false =>
                  have HR := hide' (HNT.out (by first | rfl | trivial))
                  clear HNT HNX HF3
                  go_wp2
                  go_ret2
                  exact fill_no HR.out (by decide) (Below.refl _ _)
                | true =>
                  have HNY := hide' (HNX.out (by first | rfl | trivial))
                  clear HNT HNX HB2
                  go_wp2_with fail
                  go_roundw
                  case rel => exact ⟨k + 1, by go_num, by omega, HNY.out, trivial⟩
                  case measure => simp only [intOf]; omega
              · have HTQ : Hid (toB 1000000000 qs = true) := toB_all (fun j hj => HT.out j (by omega))
                have HF4 : Hid (fillE ts vs qs = if orderB ts vs = false then 14 else 0) := by rw [HF3.out, HTQ.out]; exact rfl
                clear HT HF3
                obtain ⟨wo, hwo⟩ : ∃ wo : World, wo = wr := ⟨_, rfl⟩
                subst hwo
                go_wp2_with fail
                go_loopw [10] (fun iv wr => ∃ (k : Nat), iv = .int .i64 k ∧ k ≤ ts.length ∧ Hid (∀ j, j < k → j + 1 < ts.length → ts.getD j 0 < ts.getD (j + 1) 0 ∧ vs.getD j 0 ≤ vs.getD (j + 1) 0) ∧ Hid (Below wo.heap.size wo wr)) (fun iv _ => ts.length - (intOf iv).toNat)
                case atStart => exact ⟨0, rfl, Nat.zero_le _, fun j hj => (by omega), Below.refl _ wo⟩
                case round =>
                  clear hlt hk
                  obtain ⟨k, rfl, hk, HT, HBE⟩ := hrel
                  by_cases hlt : k + 1 < ts.length
                  · obtain ⟨bt, ot, ct, e1, c1⟩ := ints_cell HU.out k (by omega)
                    obtain ⟨bt1, ot1, ct1, e2, c2⟩ := ints_cell HU.out (k + 1) hlt
                    obtain ⟨bv, ov, cv, e3, c3⟩ := ints_cell2 HV.out k (by have := HSM.out; omega)
                    obtain ⟨bv1, ov1, cv1, e4, c4⟩ := ints_cell2 HV.out (k + 1) (by have := HSM.out; omega)
                    have m1 := up_cell HBE.out c1
                    have m2 := up_cell HBE.out c2
                    have m3 := up_cell HBE.out c3
                    have m4 := up_cell HBE.out c4
                    cases e1
                    cases e3
                    simp only [Value.slice.injEq, Option.some.injEq, Addr.mk.injEq] at e2 e4
                    obtain ⟨⟨rfl, rfl, _⟩, _, rfl⟩ := e2
                    obtain ⟨⟨rfl, rfl, _⟩, _, rfl⟩ := e4
                    have HNT : Hid (ts.getD (k + 1) 0 ≤ ts.getD k 0 ∨ vs.getD (k + 1) 0 < vs.getD k 0 → fillE ts vs qs = 14) := fun h => by rw [HF4.out, order_not HSM.out hlt h]; rfl
                    have HNX : Hid (ts.getD k 0 < ts.getD (k + 1) 0 → vs.getD k 0 ≤ vs.getD (k + 1) 0 → ∀ j, j < k + 1 → j + 1 < ts.length → ts.getD j 0 < ts.getD (j + 1) 0 ∧ vs.getD j 0 ≤ vs.getD (j + 1) 0) := fun h1 h2 j hj hj2 => by
                      by_cases e : j = k
                      · rw [e]; exact ⟨h1, h2⟩
                      · exact HT.out j (by omega) hj2
                    obtain ⟨x, hx⟩ : ∃ x, x = ts.getD k 0 := ⟨_, rfl⟩
                    obtain ⟨x1, hx1⟩ : ∃ x, x = ts.getD (k + 1) 0 := ⟨_, rfl⟩
                    obtain ⟨y, hy⟩ : ∃ y, y = vs.getD k 0 := ⟨_, rfl⟩
                    obtain ⟨y1, hy1⟩ : ∃ y, y = vs.getD (k + 1) 0 := ⟨_, rfl⟩
                    rw [← hx, ← hx1, ← hy, ← hy1] at HNT HNX
                    rw [← hx] at m1
                    rw [← hx1] at m2
                    rw [← hy] at m3
                    rw [← hy1] at m4
                    have HBD : Hid (∀ j, Below wo.heap.size wo (wr.drewN j)) := fun j => below_drewN HBE.out j
                    clear c1 c2 c3 c4 hx hx1 hy hy1 HT HBE
                    by_cases h1 : x < x1
                    · have h1' : ¬ x1 ≤ x := by omega
                      by_cases h2 : y ≤ y1
                      · have h2' : ¬ y1 < y := by omega
                        have HNY := hide' (HNX.out h1 h2)
                        have hd1 : decide (x1 ≤ x) = false := decide_eq_false h1'
                        have hd2 : decide (y1 < y) = false := decide_eq_false h2'
                        clear HNT HNX h1 h2 h1' h2'
                        go_wp2_with fail
                        go_quiet (fail)
                        go_wp2_with fail
                        go_roundw
                        case rel => exact ⟨k + 1, by go_num, by omega, HNY.out, HBD.out _⟩
                        case measure => simp only [intOf]; omega
                      · have h2' : y1 < y := by omega
                        have HR := hide' (HNT.out (.inr h2'))
                        have hd1 : decide (x1 ≤ x) = false := decide_eq_false h1'
                        have hd2 : decide (y1 < y) = true := decide_eq_true h2'
                        clear HNT HNX HF4 h1 h2 h1' h2'
                        go_wp2_with fail
                        go_quiet (fail)
                        go_wp2
                        go_ret2
                        exact fill_no HR.out (by decide) (HBD.out _)
                    · have h1' : x1 ≤ x := by omega
                      have HR := hide' (HNT.out (.inl h1'))
                      clear HNT HNX HF4
                      go_wp2_with fail
                      go_quiet (fail)
                      go_wp2
                      go_ret2
                      exact fill_no HR.out (by decide) (HBD.out _)
                  · have HOR : Hid (orderB ts vs = true) := order_yes HSM.out (fun j hj => HT.out j (by omega) hj)
                    have HF5 : Hid (fillE ts vs qs = 0) := by rw [HF4.out, HOR.out]; exact rfl
                    have HKO : Hid (KnownOk ts vs) := known_ok (by unfold sizedB; rw [HSM.out, decide_eq_true (rfl : ts.length = ts.length), Bool.and_true]; exact withinB_iff.2 (by omega)) HTS.out.1 HTS.out.2 HOR.out
                    clear HT HF4
                    go_wp2_with fail
                    go_loopw [11, 12] (fun ov iv wr => ∃ (k : Nat) (out : List Int), iv = .int .i64 k ∧ k ≤ qs.length ∧ Hid (out.length = k ∧ ∀ j, j < k → ∃ p, AtP ts (qs.getD j 0) p ∧ out.getD j 0 = valP ts vs p (qs.getD j 0)) ∧ Hid (wr.ownsRow wo.heap.size 3 1 ov out.length (ints out) ∧ Below wo.heap.size wo wr)) (fun _ iv _ => qs.length - (intOf iv).toNat)
                    case atStart => exact ⟨0, [], rfl, Nat.zero_le _, ⟨rfl, fun j hj => (by omega)⟩, World.ownsRow_nil _ _ _ _, HBE.out⟩
                    case round =>
                      clear hlt hk HBE
                      obtain ⟨k, out, rfl, hk, HL, HW⟩ := hrel
                      by_cases hlt : k < qs.length
                      · obtain ⟨bt, ot, ct, e1, c1⟩ := ints_cell HA.out k hlt
                        cases e1
                        have m1 := up_cell HW.out.2 c1
                        obtain ⟨p, hp⟩ := at_exists HKO.out.sorted (qs.getD k 0)
                        have hqb := toB_get HTQ.out hlt
                        have HSH := hide' (shownAt_any (HU.out.below HW.out.2 (Nat.le_refl _)) (show RowAt wr (.slice va ts.length vc) vs.length 1 (ints vs) from by rw [HSM.out]; exact HV.out.below HW.out.2 (Nat.le_refl _)) HKO.out hqb.1 hqb.2 hp)
                        obtain ⟨V, HVP⟩ : ∃ z, Hid (z = valP ts vs p (qs.getD k 0)) := ⟨_, rfl⟩
                        have HNL : Hid ((out ++ [V]).length = k + 1 ∧ ∀ j, j < k + 1 → ∃ p, AtP ts (qs.getD j 0) p ∧ (out ++ [V]).getD j 0 = valP ts vs p (qs.getD j 0)) := by
                          refine ⟨by rw [List.length_append, HL.out.1]; rfl, fun j hj => ?_⟩
                          by_cases e : j = k
                          · refine ⟨p, by rw [e]; exact hp, ?_⟩
                            rw [e, List.getD_eq_getElem?_getD, List.getElem?_append_right (by rw [HL.out.1]; exact Nat.le_refl _), HL.out.1, Nat.sub_self]
                            exact HVP.out
                          · obtain ⟨p', h1, h2⟩ := HL.out.2 j (by omega)
                            refine ⟨p', h1, ?_⟩
                            rw [← h2, List.getD_eq_getElem?_getD, List.getD_eq_getElem?_getD, List.getElem?_append_left (by rw [HL.out.1]; omega)]
                        rw [← HVP.out] at HSH
                        obtain ⟨x, hx⟩ : ∃ x, x = qs.getD k 0 := ⟨_, rfl⟩
                        rw [← hx] at m1 HSH
                        have HLL : Hid (out.length = k) := HL.out.1
                        clear c1 hp hqb HVP hx HL
                        go_wp2_with fail
                        refine HSH.out.mono ?_
                        rintro e z ⟨rfl, hbz⟩
                        have HW2 : Hid (z.ownsRow wo.heap.size 3 1 _ out.length (ints out) ∧ Below wo.heap.size wo z) := ⟨own_below HW.out.1 hbz (Nat.le_refl _), HW.out.2.trans (hbz.mono HW.out.2.size)⟩
                        clear hbz HSH m1 HW
                        go_wp2_with (at_builtin; refine wpList_append_own _ rfl _ _ 23 rfl wo.heap.size 3 i3 (.int .i64 0) 1 8 Try.underlying23 hi3 h30 h31 h32 rfl (by decide) _ _ _ rfl (own_below HW2.out.1 (below_al _ _) (Nat.le_refl _)) ⟨z.heap.size, 0, none⟩ 1 1 [.int .i64 V] rfl rfl (cell_one_new _ _ _) (one_cell rfl) (by have := HLL.out; unfold maxLen; omega) (by have := HLL.out; omega) (Nat.le_trans HW2.out.2.size (below_al _ _).size) ?_; intro v' w8 hown' hgrow _; refine Still.go ?_)
                        unfold Still
                        have HNW : Hid (w8.ownsRow wo.heap.size 3 1 v' (out ++ [V]).length (ints (out ++ [V])) ∧ Below wo.heap.size wo w8) := ⟨by rw [show ints (out ++ [V]) = ints out ++ [.int .i64 V] from by simp [ints], List.length_append]; exact hown', (HW2.out.2.trans ((below_al _ _).mono HW2.out.2.size)).grown hgrow (Nat.le_trans HW2.out.2.size (below_al _ _).size) (own_at HW2.out.1)⟩
                        clear hown' hgrow HW2
                        go_wp2_with fail
                        go_roundw
                        case rel => exact ⟨k + 1, out ++ [V], by go_num, by omega, HNL.out, HNW.out⟩
                        case measure => simp only [intOf]; omega
                      · have HFL : Hid (Fld ts vs qs out qs.length) := ⟨by have := HL.out.1; omega, fun j hj _ => HL.out.2 j (by omega)⟩
                        have HOL : Hid (out.length = qs.length) := by have := HL.out.1; show _ = _; omega
                        go_wp2
                        go_ret2
                        exact ⟨.inr ⟨HF5.out, _, out, rfl, by rw [← HOL.out]; exact HW.out.1, HFL.out⟩, HW.out.2⟩
    · have hmi : ¬ (vs.length : Int) = (ts.length : Int) := by omega
      have HR : Hid (fillE ts vs qs = 2) := by rw [HFE.out, if_pos (Or.inl (by unfold sizedB; rw [decide_eq_false hmn, Bool.and_false]))]; exact rfl
      clear HFE
      go_wp2
      go_ret2
      exact fill_no HR.out (by decide) (Below.refl _ w)
end Go.Proofs.Ytmbgjmkndhjilak
