/- The document's search refuses prices, and what is kept, out of bounds. -/
import Derived.Test.YtnhddmcdmcpkeajZ6
import Derived.Test.YtnhddmcdmcpkeajVi
import Derived.Test.YtnhddmcdmcpkeajGA
namespace Go.Proofs.Ytnhddmcdmcpkeaj
open Go.RowKit Go.Shelf

/-- Nothing but a word of error is answered. -/
def NoRic (code : Int) (W : World) (e : Ending) (w' : World) : Prop := e = .returned (.tuple #[.slice none 0 0, .int .i64 0, .int .i64 code]) ∧ Below W.heap.size W w'
section
variable {ls : List LakeM} {L H P E : Nat} {ti : List (List Int)} {pr en : List Int} {al ai ap ae : Option Addr} {cl ci cp ce : Nat}
theorem may_call (W : World) (hA : BA ls L H P E ti pr en al ai ap ae cl ci cp ce W) : Calls Try.prog 41 #[.slice al L cl, .slice ai H ci] W fun e w' => e = .returned (.int .i64 (mayE ls ti)) ∧ Below W.heap.size W w' := by
  obtain ⟨hL, hH, hP, hE, b1, b2, b3, b4, _, h1, h2, h3, h4⟩ := id hA
  have := waterMay_any ls ti al ai cl ci W (by rw [← hL] at h1; exact h1) (by rw [hH]; exact h2) (by omega) (by omega)
  rw [hL, hH] at this
  exact this
set_option maxRecDepth 100000 in
set_option maxHeartbeats 2000000 in
theorem Ric_s1 (W : World) (hA : BA ls L H P E ti pr en al ai ap ae cl ci cp ce W) (hm : mayE ls ti = 2) : Calls Try.prog 29 #[.slice al L cl, .slice ai H ci, .slice ap P cp, .slice ae E ce] W (NoRic 2 W) := by
  have HM := hide' (may_call W hA)
  rw [hm] at HM
  clear hA hm
  go_enter Try.func29, Try.ntmps29
  go_wp2_with fail
  refine HM.out.mono ?_
  rintro e w1 ⟨rfl, hb⟩
  have HB := hide' hb
  clear hb HM
  go_wp2
  go_ret3
  exact ⟨rfl, HB.out⟩
set_option maxRecDepth 100000 in
set_option maxHeartbeats 2000000 in
theorem Ric_s2_0 (W : World) (hA : BA ls L H P E ti pr en al ai ap ae cl ci cp ce W) (hm : mayE ls ti = 0) (hx : P ≠ H) : Calls Try.prog 29 #[.slice al L cl, .slice ai H ci, .slice ap P cp, .slice ae E ce] W (NoRic 2 W) := by
  have HM := hide' (may_call W hA)
  rw [hm] at HM
  have HX := hide' hx
  have hb3 := hA.b3
  have hb2 := hA.b2
  clear hA hm hx
  go_enter Try.func29, Try.ntmps29
  go_wp2_with fail
  refine HM.out.mono ?_
  rintro e w1 ⟨rfl, hb⟩
  have HB := hide' hb
  clear hb HM
  have hx : (P : Int) ≠ (H : Int) := by have := HX.out; omega
  have hbx : ((P : Int) != (H : Int)) = true := bne_iff_ne.2 hx
  go_wp2
  go_ret3
  exact ⟨rfl, HB.out⟩
set_option maxRecDepth 100000 in
set_option maxHeartbeats 2000000 in
theorem Ric_s3_0 (W : World) (hA : BA ls L H P E ti pr en al ai ap ae cl ci cp ce W) (hm : mayE ls ti = 0) (hx : P = H) (hy : E ≠ L) : Calls Try.prog 29 #[.slice al L cl, .slice ai H ci, .slice ap P cp, .slice ae E ce] W (NoRic 2 W) := by
  have HM := hide' (may_call W hA)
  rw [hm] at HM
  have HY := hide' hy
  subst hx
  clear hA hm hy
  go_enter Try.func29, Try.ntmps29
  go_wp2_with fail
  refine HM.out.mono ?_
  rintro e w1 ⟨rfl, hb⟩
  have HB := hide' hb
  clear hb HM
  have hy : (E : Int) ≠ (L : Int) := by have := HY.out; omega
  have hby : ((E : Int) != (L : Int)) = true := bne_iff_ne.2 hy
  go_wp2
  go_ret3
  exact ⟨rfl, HB.out⟩
set_option maxRecDepth 100000 in
set_option maxHeartbeats 2000000 in
theorem Ric_s2_4 (W : World) (hA : BA ls L H P E ti pr en al ai ap ae cl ci cp ce W) (hm : mayE ls ti = 4) (hx : P ≠ H) : Calls Try.prog 29 #[.slice al L cl, .slice ai H ci, .slice ap P cp, .slice ae E ce] W (NoRic 2 W) := by
  have HM := hide' (may_call W hA)
  rw [hm] at HM
  have HX := hide' hx
  have hb3 := hA.b3
  have hb2 := hA.b2
  clear hA hm hx
  go_enter Try.func29, Try.ntmps29
  go_wp2_with fail
  refine HM.out.mono ?_
  rintro e w1 ⟨rfl, hb⟩
  have HB := hide' hb
  clear hb HM
  have hx : (P : Int) ≠ (H : Int) := by have := HX.out; omega
  have hbx : ((P : Int) != (H : Int)) = true := bne_iff_ne.2 hx
  go_wp2
  go_ret3
  exact ⟨rfl, HB.out⟩
set_option maxRecDepth 100000 in
set_option maxHeartbeats 2000000 in
theorem Ric_s3_4 (W : World) (hA : BA ls L H P E ti pr en al ai ap ae cl ci cp ce W) (hm : mayE ls ti = 4) (hx : P = H) (hy : E ≠ L) : Calls Try.prog 29 #[.slice al L cl, .slice ai H ci, .slice ap P cp, .slice ae E ce] W (NoRic 2 W) := by
  have HM := hide' (may_call W hA)
  rw [hm] at HM
  have HY := hide' hy
  subst hx
  clear hA hm hy
  go_enter Try.func29, Try.ntmps29
  go_wp2_with fail
  refine HM.out.mono ?_
  rintro e w1 ⟨rfl, hb⟩
  have HB := hide' hb
  clear hb HM
  have hy : (E : Int) ≠ (L : Int) := by have := HY.out; omega
  have hby : ((E : Int) != (L : Int)) = true := bne_iff_ne.2 hy
  go_wp2
  go_ret3
  exact ⟨rfl, HB.out⟩
set_option maxRecDepth 100000 in
set_option maxHeartbeats 2000000 in
theorem Ric_s2_14 (W : World) (hA : BA ls L H P E ti pr en al ai ap ae cl ci cp ce W) (hm : mayE ls ti = 14) (hx : P ≠ H) : Calls Try.prog 29 #[.slice al L cl, .slice ai H ci, .slice ap P cp, .slice ae E ce] W (NoRic 2 W) := by
  have HM := hide' (may_call W hA)
  rw [hm] at HM
  have HX := hide' hx
  have hb3 := hA.b3
  have hb2 := hA.b2
  clear hA hm hx
  go_enter Try.func29, Try.ntmps29
  go_wp2_with fail
  refine HM.out.mono ?_
  rintro e w1 ⟨rfl, hb⟩
  have HB := hide' hb
  clear hb HM
  have hx : (P : Int) ≠ (H : Int) := by have := HX.out; omega
  have hbx : ((P : Int) != (H : Int)) = true := bne_iff_ne.2 hx
  go_wp2
  go_ret3
  exact ⟨rfl, HB.out⟩
set_option maxRecDepth 100000 in
set_option maxHeartbeats 2000000 in
theorem Ric_s3_14 (W : World) (hA : BA ls L H P E ti pr en al ai ap ae cl ci cp ce W) (hm : mayE ls ti = 14) (hx : P = H) (hy : E ≠ L) : Calls Try.prog 29 #[.slice al L cl, .slice ai H ci, .slice ap P cp, .slice ae E ce] W (NoRic 2 W) := by
  have HM := hide' (may_call W hA)
  rw [hm] at HM
  have HY := hide' hy
  subst hx
  clear hA hm hy
  go_enter Try.func29, Try.ntmps29
  go_wp2_with fail
  refine HM.out.mono ?_
  rintro e w1 ⟨rfl, hb⟩
  have HB := hide' hb
  clear hb HM
  have hy : (E : Int) ≠ (L : Int) := by have := HY.out; omega
  have hby : ((E : Int) != (L : Int)) = true := bne_iff_ne.2 hy
  go_wp2
  go_ret3
  exact ⟨rfl, HB.out⟩
set_option maxRecDepth 100000 in
set_option maxHeartbeats 2000000 in
theorem Ric_m_4 (W : World) (hA : BA ls L H P E ti pr en al ai ap ae cl ci cp ce W) (hm : mayE ls ti = 4) (hx : P = H) (hy : E = L) : Calls Try.prog 29 #[.slice al L cl, .slice ai H ci, .slice ap P cp, .slice ae E ce] W (NoRic 4 W) := by
  have HM := hide' (may_call W hA)
  rw [hm] at HM
  subst hx hy
  clear hA hm
  go_enter Try.func29, Try.ntmps29
  go_wp2_with fail
  refine HM.out.mono ?_
  rintro e w1 ⟨rfl, hb⟩
  have HB := hide' hb
  clear hb HM
  go_wp2
  go_ret3
  exact ⟨rfl, HB.out⟩
set_option maxRecDepth 100000 in
set_option maxHeartbeats 2000000 in
theorem Ric_m_14 (W : World) (hA : BA ls L H P E ti pr en al ai ap ae cl ci cp ce W) (hm : mayE ls ti = 14) (hx : P = H) (hy : E = L) : Calls Try.prog 29 #[.slice al L cl, .slice ai H ci, .slice ap P cp, .slice ae E ce] W (NoRic 14 W) := by
  have HM := hide' (may_call W hA)
  rw [hm] at HM
  subst hx hy
  clear hA hm
  go_enter Try.func29, Try.ntmps29
  go_wp2_with fail
  refine HM.out.mono ?_
  rintro e w1 ⟨rfl, hb⟩
  have HB := hide' hb
  clear hb HM
  go_wp2
  go_ret3
  exact ⟨rfl, HB.out⟩
end
end Go.Proofs.Ytnhddmcdmcpkeaj
namespace Go.Proofs.Ytnhddmcdmcpkeaj
open Go.RowKit Go.Shelf

section
variable {ls : List LakeM} {L H : Nat} {ti : List (List Int)} {pr en : List Int} {al ai ap ae : Option Addr} {cl ci cp ce : Nat}
set_option maxRecDepth 100000 in
set_option maxHeartbeats 4000000 in
theorem Ric_p (W : World) (hA : BA ls L H H L ti pr en al ai ap ae cl ci cp ce W) (hm : mayE ls ti = 0) (hH8 : H ≤ 8) (hp : (pr.all fun x => withinB x 0 1000) = false) : Calls Try.prog 29 #[.slice al L cl, .slice ai H ci, .slice ap H cp, .slice ae L ce] W (NoRic 4 W) := by
  have HM := hide' (may_call W hA)
  rw [hm] at HM
  have HP := hide' hA.h3
  have HE := hide' hA.h4
  have HPL := hide' hA.hP
  have HEL := hide' hA.hE
  clear hm
  have HBAD := hide' hp
  clear hA hp
  go_enter Try.func29, Try.ntmps29
  go_wp2_with fail
  refine HM.out.mono ?_
  rintro e w1 ⟨rfl, hb⟩
  have HB := hide' hb
  clear hb HM
  go_wp2_with fail
  go_loopw [12] (fun i wr => ∃ (k : Nat), i = .int .i64 k ∧ k ≤ H ∧ Hid (∀ j, j < k → withinB (pr.getD j 0) 0 1000 = true) ∧ Hid (Below W.heap.size W wr)) (fun i _ => H - (intOf i).toNat)
  case atStart => exact ⟨0, rfl, Nat.zero_le _, (fun j h => absurd h (Nat.not_lt_zero j)), HB.out⟩
  case round =>
    obtain ⟨k, rfl, hk, HOK, HBE⟩ := hrel
    by_cases hlt : k < H
    · obtain ⟨b1, o1, c1, ex1, hc1⟩ := ints_cell2 HP.out k (by rw [HPL.out]; exact hlt)
      cases ex1
      have d1 := up_cell HBE.out hc1
      have HI := hide' (inBounds_any (pr.getD k 0) 0 1000)
      obtain ⟨x, hx⟩ : ∃ x, x = pr.getD k 0 := ⟨_, rfl⟩
      rw [← hx] at d1 HI
      cases hq : withinB x 0 1000 with
      | false =>
        rw [hq] at HI
        clear hc1 hx hq HOK
        go_wp2_with fail
        refine (HI.out _).mono ?_
        rintro e w2 ⟨rfl, rfl⟩
        go_wp2
        go_ret3
        exact ⟨rfl, HBE.out⟩
      | true =>
        rw [hq] at HI
        have HOK2 : Hid (∀ j, j < k + 1 → withinB (pr.getD j 0) 0 1000 = true) := fun j hj => by
          by_cases e : j = k
          · rw [e, ← hx]; exact hq
          · exact HOK.out j (by omega)
        clear hc1 hx hq HOK
        go_wp2_with fail
        refine (HI.out _).mono ?_
        rintro e w2 ⟨rfl, rfl⟩
        go_wp2_with fail
        go_roundw
        case rel => exact ⟨k + 1, by go_num, by omega, HOK2.out, HBE.out⟩
        case measure => simp [intOf]; omega
    · exfalso
      have h := HBAD.out
      rw [List.all_eq_false] at h
      obtain ⟨x, hx, hn⟩ := h
      obtain ⟨j, hj, rfl⟩ := List.mem_iff_getElem.1 hx
      have := HOK.out j (by rw [HPL.out] at hj; omega)
      rw [List.getD_eq_getElem?_getD, List.getElem?_eq_getElem hj] at this
      exact hn this
set_option maxRecDepth 100000 in
set_option maxHeartbeats 4000000 in
theorem Ric_e (W : World) (hA : BA ls L H H L ti pr en al ai ap ae cl ci cp ce W) (hm : mayE ls ti = 0) (hH8 : H ≤ 8) (hL2 : L ≤ 2) (hp : (pr.all fun x => withinB x 0 1000) = true) (he : (en.all fun x => withinB x 0 1000) = false) : Calls Try.prog 29 #[.slice al L cl, .slice ai H ci, .slice ap H cp, .slice ae L ce] W (NoRic 4 W) := by
  have HM := hide' (may_call W hA)
  rw [hm] at HM
  have HP := hide' hA.h3
  have HE := hide' hA.h4
  have HPL := hide' hA.hP
  have HEL := hide' hA.hE
  clear hm
  have HALL := hide' hp
  have HBAD := hide' he
  clear hA hp he
  go_enter Try.func29, Try.ntmps29
  go_wp2_with fail
  refine HM.out.mono ?_
  rintro e w1 ⟨rfl, hb⟩
  have HB := hide' hb
  clear hb HM
  go_wp2_with fail
  go_loopw [12] (fun i wr => ∃ (k : Nat), i = .int .i64 k ∧ k ≤ H ∧ Hid (∀ j, j < k → withinB (pr.getD j 0) 0 1000 = true) ∧ Hid (Below W.heap.size W wr)) (fun i _ => H - (intOf i).toNat)
  case atStart => exact ⟨0, rfl, Nat.zero_le _, (fun j h => absurd h (Nat.not_lt_zero j)), HB.out⟩
  case round =>
    obtain ⟨k, rfl, hk, HOK, HBE⟩ := hrel
    by_cases hlt : k < H
    · obtain ⟨b1, o1, c1, ex1, hc1⟩ := ints_cell2 HP.out k (by rw [HPL.out]; exact hlt)
      cases ex1
      have d1 := up_cell HBE.out hc1
      have HI := hide' (inBounds_any (pr.getD k 0) 0 1000)
      obtain ⟨x, hx⟩ : ∃ x, x = pr.getD k 0 := ⟨_, rfl⟩
      rw [← hx] at d1 HI
      cases hq : withinB x 0 1000 with
      | false =>
        exfalso
        have h := List.all_eq_true.1 HALL.out (pr.getD k 0) (by rw [List.getD_eq_getElem?_getD, List.getElem?_eq_getElem (by rw [HPL.out]; exact hlt)]; exact List.getElem_mem _)
        rw [← hx, hq] at h
        cases h
      | true =>
        rw [hq] at HI
        have HOK2 : Hid (∀ j, j < k + 1 → withinB (pr.getD j 0) 0 1000 = true) := fun j hj => by
          by_cases e : j = k
          · rw [e, ← hx]; exact hq
          · exact HOK.out j (by omega)
        clear hc1 hx hq HOK
        go_wp2_with fail
        refine (HI.out _).mono ?_
        rintro e w2 ⟨rfl, rfl⟩
        go_wp2_with fail
        go_roundw
        case rel => exact ⟨k + 1, by go_num, by omega, HOK2.out, HBE.out⟩
        case measure => simp [intOf]; omega
    · have HB2 := hide' HBE.out
      clear HOK HBE
      go_wp2_with fail
      go_loopw [13] (fun i wr => ∃ (k : Nat), i = .int .i64 k ∧ k ≤ L ∧ Hid (∀ j, j < k → withinB (en.getD j 0) 0 1000 = true) ∧ Hid (Below W.heap.size W wr)) (fun i _ => L - (intOf i).toNat)
      case atStart => exact ⟨0, rfl, Nat.zero_le _, (fun j h => absurd h (Nat.not_lt_zero j)), HB2.out⟩
      case round =>
        obtain ⟨k, rfl, hk, HOK, HBE⟩ := hrel
        by_cases hlt : k < L
        · obtain ⟨b1, o1, c1, ex1, hc1⟩ := ints_cell2 HE.out k (by rw [HEL.out]; exact hlt)
          cases ex1
          have d1 := up_cell HBE.out hc1
          have HI := hide' (inBounds_any (en.getD k 0) 0 1000)
          obtain ⟨x, hx⟩ : ∃ x, x = en.getD k 0 := ⟨_, rfl⟩
          rw [← hx] at d1 HI
          cases hq : withinB x 0 1000 with
          | false =>
            rw [hq] at HI
            clear hc1 hx hq HOK
            go_wp2_with fail
            refine (HI.out _).mono ?_
            rintro e w2 ⟨rfl, rfl⟩
            go_wp2
            go_ret3
            exact ⟨rfl, HBE.out⟩
          | true =>
            rw [hq] at HI
            have HOK2 : Hid (∀ j, j < k + 1 → withinB (en.getD j 0) 0 1000 = true) := fun j hj => by
              by_cases e : j = k
              · rw [e, ← hx]; exact hq
              · exact HOK.out j (by omega)
            clear hc1 hx hq HOK
            go_wp2_with fail
            refine (HI.out _).mono ?_
            rintro e w2 ⟨rfl, rfl⟩
            go_wp2_with fail
            go_roundw
            case rel => exact ⟨k + 1, by go_num, by omega, HOK2.out, HBE.out⟩
            case measure => simp [intOf]; omega
        · exfalso
          have h := HBAD.out
          rw [List.all_eq_false] at h
          obtain ⟨x, hx, hn⟩ := h
          obtain ⟨j, hj, rfl⟩ := List.mem_iff_getElem.1 hx
          have := HOK.out j (by rw [HEL.out] at hj; omega)
          rw [List.getD_eq_getElem?_getD, List.getElem?_eq_getElem hj] at this
          exact hn this
end
end Go.Proofs.Ytnhddmcdmcpkeaj
